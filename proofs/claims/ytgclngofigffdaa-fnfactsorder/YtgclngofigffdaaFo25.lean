/-
  CONTRACT of the program's FactsMeet.
  WHAT CAME IN, opened: rows of ints.
-/
import Derived.Test.YtgclngofigffdaaFo24
import Derived.Test.YtgclngofigffdaaFo06
import Derived.Deep.RegionHeld3
import Derived.Test.YtgclngofigffdaaFo00
import Derived.ProofKit
import Derived.ChangeSlices
import Derived.OpenShut
import Derived.ChangeOld
import Derived.Lib.SmallJoins
namespace Go.Proofs.Ytgclngofigffdaa
open Go.RowKit

theorem clo_fine2' {n : Nat} {f : Tab} (hle : ∀ a b, a < n → b < n → f a b ≤ capT a b) (hd : ∀ a, a < n → f a a ≤ 0) (hc : cloB n f = true) : Fine n (clo n f) := fun a b ha hb => by
  have hcz := clo_closed hd hc
  have q1 := clo_le n f a b
  have q2 := clo_le n f b a
  have q3 := closed_low hcz ha hb
  have q5 := hle a b ha hb
  have q6 := hle b a hb ha
  have q7 := cap_le b a
  exact ⟨by omega, by omega, fun e => by subst e; exact hcz.1 a ha⟩
theorem run_field64 (n : Int) (G : List Int) (h : G.length = 169) (w : World) : (Instr.field 59 (.agg (dA n G)) 1).run Try.prog w = .ok (.agg (gA G)) w := by
  simp only [Instr.field, Sem.run_bind, run_underlying Try.underlying59, Result.andThen_ok]
  simp [part, asAgg, Try.isAgg57, Try.sizeOf57, dA_part n G h]
theorem Dif.there1 {w : World} {b : Nat} {n : Int} {G : List Int} (h : Dif w b n G) : w.there b 1 169 := fun j hj => by
  have := h.there (1 + j) (by omega)
  rwa [show 0 + (1 + j) = 1 + j by omega] at this
set_option maxRecDepth 100000 in
set_option maxHeartbeats 3200000 in
theorem iMeet_any (z : Int) (l : List Int) (a : Option Addr) (c : Nat) (z' : Int) (l' : List Int) (a' : Option Addr) (c' : Nat) (w : World) (hcc : l.length ≤ c) (hcc' : l'.length ≤ c') (hl : IntsAt w a l) (hl' : IntsAt w a' l') : Calls Try.prog 10 #[.agg #[.int .i64 z, .slice a l.length c], .agg #[.int .i64 z', .slice a' l'.length c']] w fun e w' => Gives w w' e (outZ (metF z l z' l') z.toNat) (outL (metF z l z' l') z.toNat) := by
  have HL := mkHid hl
  have HCC := mkHid hcc
  have HCC' := mkHid hcc'
  have HL' := mkHid hl'
  have B0 := mkHid ((((Below.refl w.heap.size w).alloc (Nat.le_refl _) (.cells #[.int .i64 z, .slice a l.length c] 26)).alloc (by simp) (.cells #[.int .i64 z', .slice a' l'.length c'] 26)).alloc (by simp; omega) (.cells #[.int .i64 0, .slice none 0 0] 26))
  have T0 := mkHid (((Fc.new w z a l.length c 26).alloc (.cells #[.int .i64 z', .slice a' l'.length c'] 26)).alloc (.cells #[.int .i64 0, .slice none 0 0] 26))
  have U0 : Hid (Fc (((w.alloc (.cells #[.int .i64 z, .slice a l.length c] 26)).alloc (.cells #[.int .i64 z', .slice a' l'.length c'] 26)).alloc (.cells #[.int .i64 0, .slice none 0 0] 26)) (w.heap.size + 1) z' a' l'.length c') := mkHid (by have := (Fc.new (w.alloc (.cells #[.int .i64 z, .slice a l.length c] 26)) z' a' l'.length c' 26).alloc (.cells #[.int .i64 0, .slice none 0 0] 26); simpa using this)
  have Z0 : Hid (Fz (((w.alloc (.cells #[.int .i64 z, .slice a l.length c] 26)).alloc (.cells #[.int .i64 z', .slice a' l'.length c'] 26)).alloc (.cells #[.int .i64 0, .slice none 0 0] 26)) (w.heap.size + 2)) := mkHid (by have := Fz.new ((w.alloc (.cells #[.int .i64 z, .slice a l.length c] 26)).alloc (.cells #[.int .i64 z', .slice a' l'.length c'] 26)); simpa using this)
  have HOKA : Hid (∀ v, IntsAt v a l → Calls Try.prog 44 #[.agg #[.int .i64 z, .slice a l.length c]] v fun e w' => e = .returned (.bool (okF z l)) ∧ Below v.heap.size v w') := mkHid fun v hv => iOk_any z l a c v hv
  have HOKB : Hid (∀ v, IntsAt v a' l' → Calls Try.prog 44 #[.agg #[.int .i64 z', .slice a' l'.length c']] v fun e w' => e = .returned (.bool (okF z' l')) ∧ Below v.heap.size v w') := mkHid fun v hv => iOk_any z' l' a' c' v hv
  have HNO : Hid ((okF z l && (okF z' l' && decide (z = z'))) = false → metF z l z' l' = none) := mkHid fun h => by unfold metF; rw [h]; rfl
  have HYES : Hid (okF z l = true → okF z' l' = true → z = z' → ∃ n : Nat, z = n ∧ z' = n ∧ 1 ≤ n ∧ n ≤ 13 ∧ l.length = n * n ∧ l'.length = n * n ∧ metF z l z' l' = cloO n (fun a b => min (tab n l a b) (tab n l' a b)) ∧ (okF n l = true ∧ okF n l' = true) ∧ Bd n (fun a b => min (tab n l a b) (tab n l' a b)) 10000000) := mkHid fun h1 h2 h3 => by
    subst h3
    obtain ⟨n, rfl, q1, q2, q3, _, q5⟩ := ok_of h1
    obtain ⟨n', e, _, _, q3', _, q5'⟩ := ok_of h2
    obtain rfl : n = n' := by omega
    exact ⟨n, rfl, rfl, q1, q2, q3, q3', metF_ok h1 h2, ⟨h1, h2⟩, met_bd q5 q5'⟩
  obtain ⟨R, hR⟩ : ∃ R, metF z l z' l' = R := ⟨_, rfl⟩
  rw [hR] at HNO HYES
  rw [hR]
  obtain ⟨zn, hzn⟩ : ∃ zn, z.toNat = zn := ⟨_, rfl⟩
  have HZN := mkHid hzn
  rw [hzn]
  obtain ⟨k1, hk1⟩ : ∃ k, okF z l = k := ⟨_, rfl⟩
  obtain ⟨k2, hk2⟩ : ∃ k, okF z' l' = k := ⟨_, rfl⟩
  rw [hk1] at HOKA HNO HYES
  rw [hk2] at HOKB HNO HYES
  clear hl hl' hR hzn hk1 hk2
  go_enter Try.func10, Try.ntmps10
  go_wp2_with fail
  refine (HOKA.out _ (HL.out.below B0.out)).mono ?_
  rintro e w1 ⟨rfl, hb1⟩
  have B1 := mkHid (below_step B0.out hb1)
  have T1 := mkHid (T0.out.below hb1)
  have U1 := mkHid (U0.out.below hb1)
  have Z1 := mkHid (Z0.out.below hb1)
  clear hb1 B0 T0 U0 Z0
  cases k1
  · have e1 : Hid (R = none) := mkHid (HNO.out rfl)
    obtain ⟨⟨z0, z1⟩, z2, z3⟩ := Z1.out
    go_wp2
    refine bodyPost_ret (v := .agg #[.int .i64 0, .slice none 0 0]) (by simp [results, Try.results10, go_sem, z0, z1]) rfl ?_
    rw [e1.out]
    exact ⟨none, 0, rfl, OwnI.nil _ _, none_shut B1.out (by omega) _ _⟩
  · obtain ⟨u0, u1⟩ := U1.out
    go_wp2_with fail
    refine (HOKB.out _ (HL'.out.below B1.out)).mono ?_
    rintro e w2 ⟨rfl, hb2⟩
    have B2 := mkHid (below_step B1.out hb2)
    have T2 := mkHid (T1.out.below hb2)
    have U2 := mkHid (U1.out.below hb2)
    have Z2 := mkHid (Z1.out.below hb2)
    clear hb2 B1 T1 U1 Z1 u0 u1
    cases k2
    · have e1 : Hid (R = none) := mkHid (HNO.out rfl)
      obtain ⟨⟨z0, z1⟩, z2, z3⟩ := Z2.out
      go_wp2
      refine bodyPost_ret (v := .agg #[.int .i64 0, .slice none 0 0]) (by simp [results, Try.results10, go_sem, z0, z1]) rfl ?_
      rw [e1.out]
      exact ⟨none, 0, rfl, OwnI.nil _ _, none_shut B2.out (by omega) _ _⟩
    · obtain ⟨t0, t1⟩ := T2.out
      obtain ⟨u0, u1⟩ := U2.out
      by_cases hzz : z = z'
      · obtain ⟨n, rfl, rfl, h1, h2, hll, hll', hRe, hoks, hbd⟩ := HYES.out (by trivial) (by trivial) hzz
        obtain rfl : n = zn := by have := HZN.out; simpa using this
        have HR := mkHid hRe
        have hsq := sq_le h2
        have hsp := sq_pos h1
        have HDA : Hid (∀ v, IntsAt v a l → Calls Try.prog 39 #[.agg #[.int .i64 n, .slice a l.length c]] v fun e w' => e = .returned (.agg (dA n (grid n (tab n l)))) ∧ Below v.heap.size v w') := mkHid fun v hv => diffsOf_yes n l a c v hoks.1 HCC.out hv
        have HDB : Hid (∀ v, IntsAt v a' l' → Calls Try.prog 39 #[.agg #[.int .i64 n, .slice a' l'.length c']] v fun e w' => e = .returned (.agg (dA n (grid n (tab n l')))) ∧ Below v.heap.size v w') := mkHid fun v hv => diffsOf_yes n l' a' c' v hoks.2 HCC'.out hv
        have HOP : Hid (opL min (grid n (tab n l)) (grid n (tab n l')) = grid n (fun a b => min (tab n l a b) (tab n l' a b))) := mkHid (grid_op h2 _ _ min rfl)
        have HLS : Hid (∀ v, Calls Try.prog 45 #[.agg (gA (grid n (tab n l))), .agg (gA (grid n (tab n l')))] v fun e w' => e = .returned (.agg (gA (grid n (fun a b => min (tab n l a b) (tab n l' a b))))) ∧ Below v.heap.size v w') := mkHid fun v => by rw [← HOP.out]; exact lesser_any _ _ (grid_len _ _) (grid_len _ _) v
        have HCL : Hid (∀ v, Calls Try.prog 40 #[.agg (dA n (grid n (fun a b => min (tab n l a b) (tab n l' a b))))] v fun e w' => e = .returned (.agg (D n R)) ∧ Below v.heap.size v w') := mkHid fun v => by
          rw [HR.out]
          exact closedD n (some (fun a b => min (tab n l a b) (tab n l' a b))) (fun f e => by cases e; exact ⟨h1, h2, hbd⟩) v
        have HFA : Hid (GoodO n R) := mkHid fun f e => by
          rw [HR.out] at e
          unfold cloO at e
          split at e
          · rename_i hcl
            cases e
            obtain ⟨_, q0, _, _, _, _, q5⟩ := ok_of hoks.1
            obtain rfl : n = _ := by exact Int.ofNat.inj q0
            have := met_cap (tab n l') q5
            exact ⟨h1, h2, (clo_fine2' this.1 this.2 hcl).bd⟩
          · cases e
        have HG2 := mkHid (grid_len n (tab n l'))
        have HG1 := mkHid (grid_len n (tab n l))
        have HG3 := mkHid (grid_len n (fun a b => min (tab n l a b) (tab n l' a b)))
        obtain ⟨G1, hG1⟩ : ∃ G, grid n (tab n l) = G := ⟨_, rfl⟩
        obtain ⟨G2, hG2⟩ : ∃ G, grid n (tab n l') = G := ⟨_, rfl⟩
        obtain ⟨G3, hG3⟩ : ∃ G, grid n (fun a b => min (tab n l a b) (tab n l' a b)) = G := ⟨_, rfl⟩
        rw [hG1] at HDA HLS HG1
        rw [hG2] at HDB HLS HG2
        rw [hG3] at HLS HCL HG3
        clear hRe hbd hoks hG1 hG2 hG3 hll hll' hzz HOP
        have hzc := zc64
        have s2 := Z2.out.lt
        go_wp2_with fail
        refine (HDA.out _ (HL.out.below B2.out)).mono ?_
        rintro e w3 ⟨rfl, hb3⟩
        have B3 := mkHid (below_step B2.out hb3)
        have U3 := mkHid (U2.out.below hb3)
        have Z3 := mkHid (Z2.out.below hb3)
        have s3 := Z3.out.lt
        have N3 := mkHid (Dif.new w3 (n := 0) zs_len 59)
        clear hb3 B2 T2 U2 Z2 t0 t1 u0 u1 s2
        go_wp2_with (first | (refine wp_store64 N3.out HG1.out rfl rfl rfl rfl ?_; intro w4 hD4 hg4))
        have B4 := mkHid ((B3.out.alloc B3.out.size _).grown hg4 (by have := B3.out.size; simp; omega) (fun q hq => by cases hq; exact B3.out.size))
        have U4 := mkHid ((U3.out.alloc _).grown hg4 (some_ne (by omega)))
        have Z4 := mkHid ((Z3.out.alloc _).grown hg4 (some_ne (by omega)))
        have D4 := mkHid hD4
        obtain ⟨b1, hb1⟩ : ∃ b, w3.heap.size = b := ⟨_, rfl⟩
        rw [hb1] at D4
        rw [hb1]
        have hwb : w.heap.size + 2 < b1 := by omega
        clear hD4 hg4 N3 B3 U3 Z3 s3 hb1
        have HPF := mkHid (fun v => run_field64 n G2 HG2.out v)
        simp only [Act.put]
        refine wp_region_held_drew (S := (fun v => Fc v (w.heap.size + 1) n a' l'.length c')) (by kernel_rfl) U4.out.drew (fun _ => ?_)
        refine wpAnyH_take (i := 0) (oi := { dst := some 24, op := Op.fieldAddr 59 (Operand.tmp 5) 1, type := 0, pos := "l07_facts.go:93", after := #[], guard := none }) (v := ?vm1) rfl (by kernel_rfl) (by kernel_rfl) (by kernel_rfl) (fun _ _ _ h => h) (Or.inl ⟨by rfl, ?hym1⟩) (by assumption) ?restm1
        case hym1 => (intro w' hSw; (try dsimp only at hSw); go_simp; try with_reducible rfl)
        try simp only [Act.put, List.setIfInBounds_toArray, List.set_cons_zero, List.set_cons_succ]
        refine wpAnyH_take (i := 2) (oi := { dst := some 26, op := Op.load 26 (Operand.tmp 3), type := 26, pos := "l07_facts.go:93", after := #[], guard := none }) (v := ?vm2) rfl (by kernel_rfl) (by kernel_rfl) (by kernel_rfl) (fun _ _ _ h => h) (Or.inl ⟨by rfl, ?hym2⟩) (by assumption) ?restm2
        case hym2 => (intro w' hSw; obtain ⟨q0, q1⟩ := hSw; go_simp; try with_reducible rfl)
        try simp only [Act.put, List.setIfInBounds_toArray, List.set_cons_zero, List.set_cons_succ]
        refine wpAnyH_ready (rs := [1, 3]) (by kernel_rfl) (by simp) ?_
        refine AllReadyH.cons (o := { dst := some 25, op := Op.load 57 (Operand.tmp 24), type := 57, pos := "l07_facts.go:93", after := #[{ on := 0, ground := Ground.data }], guard := none }) rfl (fun K hK => ?_) ?_
        · rw [if_pos (by rfl)]
          refine wp_load_mid 57 _ rfl b1 1 rfl (ints G1) _ D4.out.drew.arr Try.underlying57 rfl (by rw [ints_len, HG1.out]; exact size62) ?_
          try simp only [Act.put, List.setIfInBounds_toArray, List.set_cons_zero, List.set_cons_succ]
          refine hK.out _ _ ?_ (fun _ => ?_)
          · exact U4.out.drew
          clear hK K
          try simp only [Act.put, List.setIfInBounds_toArray, List.set_cons_zero, List.set_cons_succ]
          refine wpAnyH_ready (rs := [3]) (by kernel_rfl) (by simp) ?_
          refine AllReadyH.cons (o := { dst := some 27, op := Op.call { callee := Callee.value (Operand.func 39), args := #[Operand.tmp 26], argTypes := #[26] }, type := 59, pos := "l07_facts.go:93", after := #[{ on := 2, ground := Ground.data }], guard := none }) rfl (fun K hK => ?_) ?_
          · go_simp
            refine (HDB.out _ (HL'.out.below B4.out.drew)).mono ?_
            rintro e w5 ⟨rfl, hb5⟩
            have D5 := mkHid (D4.out.drew.below hb5)
            have U5 := mkHid (U4.out.drew.below hb5)
            have Z5 := mkHid (Z4.out.drew.below hb5)
            have B5 := mkHid (below_step B4.out.drew hb5)
            clear hb5
            go_wp2_with fail
            refine hK.out _ _ ?_ (fun _ => ?_)
            · exact U5.out
            clear hK K
            try simp only [Act.put, List.setIfInBounds_toArray, List.set_cons_zero, List.set_cons_succ]
            refine wpAnyH_take (i := 4) (oi := { dst := some 28, op := Op.field 59 (Operand.tmp 27) 1, type := 57, pos := "l07_facts.go:93", after := #[{ on := 3, ground := Ground.data }], guard := none }) (v := ?vm3) rfl (by kernel_rfl) (by kernel_rfl) (by kernel_rfl) (fun _ _ _ h => h) (Or.inl ⟨by rfl, ?hym3⟩) (by assumption) ?restm3
            case hym3 => (intro w' hSw; clear hSw; go_simp; (try simp only [HPF.out, Result.andThen_ok]); try with_reducible rfl)
            try simp only [Act.put, List.setIfInBounds_toArray, List.set_cons_zero, List.set_cons_succ]
            refine wpAnyH_ready (rs := [5]) (by kernel_rfl) (by simp) ?_
            refine AllReadyH.cons (o := { dst := some 29, op := Op.call { callee := Callee.value (Operand.func 45), args := #[Operand.tmp 25, Operand.tmp 28], argTypes := #[57, 57] }, type := 57, pos := "l07_facts.go:93", after := #[{ on := 1, ground := Ground.data }, { on := 4, ground := Ground.data }, { on := 3, ground := Ground.chain }], guard := none }) rfl (fun K hK => ?_) ?_
            · go_simp
              refine (HLS.out _).mono ?_
              rintro e w6 ⟨rfl, hb6⟩
              have D6 := mkHid (D5.out.below hb6)
              have U6 := mkHid (U5.out.below hb6)
              have Z6 := mkHid (Z5.out.below hb6)
              have B6 := mkHid (below_step B5.out hb6)
              clear hb6
              go_wp2_with fail
              refine hK.out _ _ ?_ (fun _ => ?_)
              · exact U6.out
              clear hK K
              try simp only [Act.put, List.setIfInBounds_toArray, List.set_cons_zero, List.set_cons_succ]
              refine wpAnyH_take (i := 6) (oi := { dst := some 30, op := Op.fieldAddr 59 (Operand.tmp 5) 1, type := 0, pos := "l07_facts.go:93", after := #[{ on := 0, ground := Ground.phase }, { on := 1, ground := Ground.phase }, { on := 2, ground := Ground.phase }, { on := 3, ground := Ground.phase }, { on := 4, ground := Ground.phase }, { on := 5, ground := Ground.phase }], guard := none }) (v := ?vm4) rfl (by kernel_rfl) (by kernel_rfl) (by kernel_rfl) (fun _ _ _ h => h) (Or.inl ⟨by rfl, ?hym4⟩) (by assumption) ?restm4
              case hym4 => (intro w' hSw; (try dsimp only at hSw); go_simp; try with_reducible rfl)
              try simp only [Act.put, List.setIfInBounds_toArray, List.set_cons_zero, List.set_cons_succ]
              refine wpAnyH_ready (rs := [7]) (by kernel_rfl) (by simp) ?_
              refine AllReadyH.cons (o := { dst := none, op := Op.store 57 (Operand.tmp 30) (Operand.tmp 29), type := 0, pos := "l07_facts.go:93", after := #[{ on := 6, ground := Ground.data }, { on := 5, ground := Ground.data }, { on := 5, ground := Ground.chain }, { on := 0, ground := Ground.phase }, { on := 1, ground := Ground.phase }, { on := 2, ground := Ground.phase }, { on := 3, ground := Ground.phase }, { on := 4, ground := Ground.phase }, { on := 5, ground := Ground.phase }], guard := none }) rfl (fun K hK => ?_) ?_
              · rw [if_pos (by rfl)]
                refine wp_store_mid 57 _ _ rfl b1 1 (gA G3) rfl rfl (by rw [gA_size, HG3.out]; exact D6.out.there1) (by rw [gA_size, HG3.out]; exact size62) (all_oneCell_toArray (ints_one G3)) ?_
                rw [show (gA G3).toList = ints G3 from rfl]
                simp only [Act.put]
                refine hK.out _ _ ?_ (fun _ => ?_)
                · exact U6.out.grown (grown_setCells b1 _ 1 _) (some_ne (by omega))
                clear hK K
                try simp only [Act.put, List.setIfInBounds_toArray, List.set_cons_zero, List.set_cons_succ]
                refine wpAnyH_done (by kernel_rfl) ?_ _
                have gr := grown_setCells b1 (ints G3) 1 w6
                have D7 := mkHid (D6.out.part HG3.out)
                have Z7 := mkHid (Z6.out.grown gr (some_ne (by omega)))
                have B7 := mkHid (B6.out.grown gr B6.out.size (fun q hq => by cases hq; omega))
                obtain ⟨w7, hw7⟩ : ∃ w7, w6.setCells b1 1 (ints G3) = w7 := ⟨_, rfl⟩
                rw [hw7] at D7 Z7 B7
                rw [hw7]
                clear hw7 gr
                go_wp2_with (first | (refine wp_load64 D7.out rfl rfl rfl ?_))
                refine (HCL.out _).mono ?_
                rintro e w8 ⟨rfl, hb8⟩
                have B8 := mkHid (below_step B7.out hb8)
                have Z8 := mkHid (Z7.out.below hb8)
                clear hb8
                go_wp2_with fail
                refine (factsD n _ HFA.out _).mono ?_
                rintro e w9 ⟨ao, cap, rfl, ho, hb9⟩
                obtain ⟨⟨z0, z1⟩, z2, z3⟩ := Z8.out.below hb9
                have HE := mkHid (fun v0 v1 => Gives.shut (b := w.heap.size + 2) B8.out (by omega) Z8.out.lt ho hb9 v0 v1)
                clear hb9 ho
                go_wp2
                exact bodyPost_ret (v := .agg #[.int .i64 (outZ R n), .slice ao (outL R n).length cap]) (by simp [results, Try.results10, go_sem, z0, z1]) rfl ⟨ao, cap, rfl, (HE.out _ _).1, (HE.out _ _).2⟩
              exact AllReadyH.nil
            exact AllReadyH.nil
          exact AllReadyH.nil
        refine AllReadyH.cons (o := { dst := some 27, op := Op.call { callee := Callee.value (Operand.func 39), args := #[Operand.tmp 26], argTypes := #[26] }, type := 59, pos := "l07_facts.go:93", after := #[{ on := 2, ground := Ground.data }], guard := none }) rfl (fun K hK => ?_) ?_
        · go_simp
          refine (HDB.out _ (HL'.out.below B4.out.drew)).mono ?_
          rintro e w5 ⟨rfl, hb5⟩
          have D5 := mkHid (D4.out.drew.below hb5)
          have U5 := mkHid (U4.out.drew.below hb5)
          have Z5 := mkHid (Z4.out.drew.below hb5)
          have B5 := mkHid (below_step B4.out.drew hb5)
          clear hb5
          go_wp2_with fail
          refine hK.out _ _ ?_ (fun _ => ?_)
          · exact U5.out
          clear hK K
          try simp only [Act.put, List.setIfInBounds_toArray, List.set_cons_zero, List.set_cons_succ]
          refine wpAnyH_take (i := 4) (oi := { dst := some 28, op := Op.field 59 (Operand.tmp 27) 1, type := 57, pos := "l07_facts.go:93", after := #[{ on := 3, ground := Ground.data }], guard := none }) (v := ?vm5) rfl (by kernel_rfl) (by kernel_rfl) (by kernel_rfl) (fun _ _ _ h => h) (Or.inl ⟨by rfl, ?hym5⟩) (by assumption) ?restm5
          case hym5 => (intro w' hSw; clear hSw; go_simp; (try simp only [HPF.out, Result.andThen_ok]); try with_reducible rfl)
          try simp only [Act.put, List.setIfInBounds_toArray, List.set_cons_zero, List.set_cons_succ]
          refine wpAnyH_ready (rs := [1]) (by kernel_rfl) (by simp) ?_
          refine AllReadyH.cons (o := { dst := some 25, op := Op.load 57 (Operand.tmp 24), type := 57, pos := "l07_facts.go:93", after := #[{ on := 0, ground := Ground.data }], guard := none }) rfl (fun K hK => ?_) ?_
          · rw [if_pos (by rfl)]
            refine wp_load_mid 57 _ rfl b1 1 rfl (ints G1) _ D5.out.arr Try.underlying57 rfl (by rw [ints_len, HG1.out]; exact size62) ?_
            try simp only [Act.put, List.setIfInBounds_toArray, List.set_cons_zero, List.set_cons_succ]
            refine hK.out _ _ ?_ (fun _ => ?_)
            · exact U5.out
            clear hK K
            try simp only [Act.put, List.setIfInBounds_toArray, List.set_cons_zero, List.set_cons_succ]
            refine wpAnyH_ready (rs := [5]) (by kernel_rfl) (by simp) ?_
            refine AllReadyH.cons (o := { dst := some 29, op := Op.call { callee := Callee.value (Operand.func 45), args := #[Operand.tmp 25, Operand.tmp 28], argTypes := #[57, 57] }, type := 57, pos := "l07_facts.go:93", after := #[{ on := 1, ground := Ground.data }, { on := 4, ground := Ground.data }, { on := 3, ground := Ground.chain }], guard := none }) rfl (fun K hK => ?_) ?_
            · go_simp
              refine (HLS.out _).mono ?_
              rintro e w6 ⟨rfl, hb6⟩
              have D6 := mkHid (D5.out.below hb6)
              have U6 := mkHid (U5.out.below hb6)
              have Z6 := mkHid (Z5.out.below hb6)
              have B6 := mkHid (below_step B5.out hb6)
              clear hb6
              go_wp2_with fail
              refine hK.out _ _ ?_ (fun _ => ?_)
              · exact U6.out
              clear hK K
              try simp only [Act.put, List.setIfInBounds_toArray, List.set_cons_zero, List.set_cons_succ]
              refine wpAnyH_take (i := 6) (oi := { dst := some 30, op := Op.fieldAddr 59 (Operand.tmp 5) 1, type := 0, pos := "l07_facts.go:93", after := #[{ on := 0, ground := Ground.phase }, { on := 1, ground := Ground.phase }, { on := 2, ground := Ground.phase }, { on := 3, ground := Ground.phase }, { on := 4, ground := Ground.phase }, { on := 5, ground := Ground.phase }], guard := none }) (v := ?vm6) rfl (by kernel_rfl) (by kernel_rfl) (by kernel_rfl) (fun _ _ _ h => h) (Or.inl ⟨by rfl, ?hym6⟩) (by assumption) ?restm6
              case hym6 => (intro w' hSw; (try dsimp only at hSw); go_simp; try with_reducible rfl)
              try simp only [Act.put, List.setIfInBounds_toArray, List.set_cons_zero, List.set_cons_succ]
              refine wpAnyH_ready (rs := [7]) (by kernel_rfl) (by simp) ?_
              refine AllReadyH.cons (o := { dst := none, op := Op.store 57 (Operand.tmp 30) (Operand.tmp 29), type := 0, pos := "l07_facts.go:93", after := #[{ on := 6, ground := Ground.data }, { on := 5, ground := Ground.data }, { on := 5, ground := Ground.chain }, { on := 0, ground := Ground.phase }, { on := 1, ground := Ground.phase }, { on := 2, ground := Ground.phase }, { on := 3, ground := Ground.phase }, { on := 4, ground := Ground.phase }, { on := 5, ground := Ground.phase }], guard := none }) rfl (fun K hK => ?_) ?_
              · rw [if_pos (by rfl)]
                refine wp_store_mid 57 _ _ rfl b1 1 (gA G3) rfl rfl (by rw [gA_size, HG3.out]; exact D6.out.there1) (by rw [gA_size, HG3.out]; exact size62) (all_oneCell_toArray (ints_one G3)) ?_
                rw [show (gA G3).toList = ints G3 from rfl]
                simp only [Act.put]
                refine hK.out _ _ ?_ (fun _ => ?_)
                · exact U6.out.grown (grown_setCells b1 _ 1 _) (some_ne (by omega))
                clear hK K
                try simp only [Act.put, List.setIfInBounds_toArray, List.set_cons_zero, List.set_cons_succ]
                refine wpAnyH_done (by kernel_rfl) ?_ _
                have gr := grown_setCells b1 (ints G3) 1 w6
                have D7 := mkHid (D6.out.part HG3.out)
                have Z7 := mkHid (Z6.out.grown gr (some_ne (by omega)))
                have B7 := mkHid (B6.out.grown gr B6.out.size (fun q hq => by cases hq; omega))
                obtain ⟨w7, hw7⟩ : ∃ w7, w6.setCells b1 1 (ints G3) = w7 := ⟨_, rfl⟩
                rw [hw7] at D7 Z7 B7
                rw [hw7]
                clear hw7 gr
                go_wp2_with (first | (refine wp_load64 D7.out rfl rfl rfl ?_))
                refine (HCL.out _).mono ?_
                rintro e w8 ⟨rfl, hb8⟩
                have B8 := mkHid (below_step B7.out hb8)
                have Z8 := mkHid (Z7.out.below hb8)
                clear hb8
                go_wp2_with fail
                refine (factsD n _ HFA.out _).mono ?_
                rintro e w9 ⟨ao, cap, rfl, ho, hb9⟩
                obtain ⟨⟨z0, z1⟩, z2, z3⟩ := Z8.out.below hb9
                have HE := mkHid (fun v0 v1 => Gives.shut (b := w.heap.size + 2) B8.out (by omega) Z8.out.lt ho hb9 v0 v1)
                clear hb9 ho
                go_wp2
                exact bodyPost_ret (v := .agg #[.int .i64 (outZ R n), .slice ao (outL R n).length cap]) (by simp [results, Try.results10, go_sem, z0, z1]) rfl ⟨ao, cap, rfl, (HE.out _ _).1, (HE.out _ _).2⟩
              exact AllReadyH.nil
            exact AllReadyH.nil
          exact AllReadyH.nil
        exact AllReadyH.nil
      · have e1 : Hid (R = none) := mkHid (HNO.out (by rw [decide_eq_false hzz]; rfl))
        have hbz : (z != z') = true := by simp [hzz]
        obtain ⟨⟨z0, z1⟩, z2, z3⟩ := Z2.out
        clear hzz
        go_wp2
        refine bodyPost_ret (v := .agg #[.int .i64 0, .slice none 0 0]) (by simp [results, Try.results10, go_sem, z0, z1]) rfl ?_
        rw [e1.out]
        exact ⟨none, 0, rfl, OwnI.nil _ _, none_shut B2.out (by omega) _ _⟩
end Go.Proofs.Ytgclngofigffdaa
namespace Go.Proofs.Ytgclngofigffdaa
open Go.ChangeShapes Go.WideShapes Go.ChangeAt Go.RowKit Go.Joins

theorem Try.own : ownKnob Try.prog.godebug = none := by kernel_rfl
theorem Try.laidOut : laidOutB Try.prog = true := by kernel_rfl
end Go.Proofs.Ytgclngofigffdaa
