/-
  FnExactFactsMeet holds at every argument: the program's function answers as the specification's, writes into no argument, and its answer owns its memory. No conditions.
-/
import Derived.Test.YthhajdjpglpkoaaMi
import Derived.Test.YthhajdjpglpkoaaLo
import Derived.Deep.RegionHeld3
import Derived.Deep.CutRange
namespace Go.Proofs.Ythhajdjpglpkoaa
open Go.ChangeShapes Go.WideShapes Go.ChangeAt Go.RowKit Go.Joins

theorem put2 (W : World) (X : Nat) (v0 v1 : Value) : W.grownBy ((W.setCell ⟨X, 0, none⟩ v0).setCell ⟨X, 1, none⟩ v1) (some X) := grown_setCells X [v0, v1] 0 W
theorem Fz.stored {W : World} {X : Nat} (h : Fz W X) (z : Int) (a : Option Addr) (n c : Nat) : Fc ((W.setCell ⟨X, 0, none⟩ (.int .i64 z)).setCell ⟨X, 1, none⟩ (.slice a n c)) X z a n c := by
  obtain ⟨⟨z0, z1⟩, z2, z3⟩ := h
  constructor <;> simp [go_sem, z0, z1]
theorem metF_good (z : Int) (l : List Int) (z' : Int) (l' : List Int) : GoodO z.toNat (metF z l z' l') := fun f e => by
  unfold metF at e
  split at e
  · rename_i h
    simp only [Bool.and_eq_true] at h
    obtain ⟨n, q0, q1, q2, _, _, q5⟩ := ok_of h.1
    subst q0
    rw [Int.toNat_natCast] at e ⊢
    unfold cloO at e
    split at e
    · rename_i hcl
      cases e
      have := met_cap (tab n l') q5
      exact ⟨q1, q2, (clo_fine2' this.1 this.2 hcl).bd⟩
    · cases e
  · cases e
set_option maxRecDepth 100000 in
set_option maxHeartbeats 6400000 in
theorem law_walk (z : Int) (l : List Int) (a : Option Addr) (c : Nat) (z' : Int) (l' : List Int) (a' : Option Addr) (c' : Nat) (w : World) (hn : l.length ≤ maxLen) (hl : IntsAt w a l) (hn' : l'.length ≤ maxLen) (hl' : IntsAt w a' l') : Calls Try.prog 9 #[.agg #[.int .i64 z, .slice a l.length c], .agg #[.int .i64 z', .slice a' l'.length c']] w fun e w' => e = .returned (.bool true) ∧ Below w.heap.size w w' := by
  have HN := mkHid hn
  have HL := mkHid hl
  have HN' := mkHid hn'
  have HL' := mkHid hl'
  have B0 := mkHid (((Below.refl w.heap.size w).alloc (Nat.le_refl _) (.cells #[.int .i64 z, .slice a l.length c] 29)).alloc (by simp) (.cells #[.int .i64 z', .slice a' l'.length c'] 29))
  have F0 := mkHid ((Fc.new w z a l.length c 29).alloc (.cells #[.int .i64 z', .slice a' l'.length c'] 29))
  have E0 : Hid (Fc ((w.alloc (.cells #[.int .i64 z, .slice a l.length c] 29)).alloc (.cells #[.int .i64 z', .slice a' l'.length c'] 29)) (w.heap.size + 1) z' a' l'.length c') := mkHid (by have := Fc.new (w.alloc (.cells #[.int .i64 z, .slice a l.length c] 29)) z' a' l'.length c' 29; simpa using this)
  obtain ⟨rz, hrz⟩ : ∃ rz, outZ (metF z l z' l') z.toNat = rz := ⟨_, rfl⟩
  obtain ⟨rl, hrl⟩ : ∃ rl, outL (metF z l z' l') z.toNat = rl := ⟨_, rfl⟩
  have hlen : rl.length ≤ 169 := by rw [← hrl]; exact outL_len (metF_good z l z' l')
  have HM : Hid (rl.length ≤ maxLen) := mkHid (by unfold maxLen; omega)
  have HLE := mkHid hlen
  have HS : Hid (∀ (a a' : Option Addr) (v : World), IntsAt v a l → IntsAt v a' l' → Calls Try.prog 36 #[.agg #[.int .i64 z, .slice a l.length l.length], .agg #[.int .i64 z', .slice a' l'.length l'.length]] v fun e w' => Gives v w' e rz rl) := mkHid fun a a' v h h' => by rw [← hrz, ← hrl]; exact sMeet_any z l a _ z' l' a' _ v h h'
  have HI : Hid (∀ (a a' : Option Addr) (v : World), IntsAt v a l → IntsAt v a' l' → Calls Try.prog 37 #[.agg #[.int .i64 z, .slice a l.length l.length], .agg #[.int .i64 z', .slice a' l'.length l'.length]] v fun e w' => Gives v w' e rz rl) := mkHid fun a a' v h h' => by rw [← hrz, ← hrl]; exact iMeet_any z l a _ z' l' a' _ v (Nat.le_refl _) (Nat.le_refl _) h h'
  clear hn hl hn' hl' hrz hrl hlen
  go_enter Try.func9, Try.ntmps9
  go_wp2_with fail
  refine (szFacts_any z a l.length c 1048576 _ HN.out (by omega) (by omega)).mono ?_
  rintro e w1 ⟨rfl, hb⟩
  have B1 := mkHid (below_step B0.out hb)
  have F1 := mkHid (F0.out.below hb)
  have E1 := mkHid (E0.out.below hb)
  clear hb  B0 F0 E0
  obtain ⟨r, hr⟩ : ∃ r, szR 1048576 l.length = r := ⟨_, rfl⟩
  have HZ : Hid (¬ r < 0 → l.length ≤ 1048576 ∧ 0 ≤ r ∧ r ≤ 1048576) := mkHid fun h => by unfold szR at hr; split at hr <;> omega
  rw [hr]
  clear hr
  by_cases hneg : r < 0
  · go_wp2
    go_ret
    exact ⟨rfl, B1.out⟩
  obtain ⟨hz1, hz2, hz3⟩ := HZ.out hneg
  have HZZ := mkHid hz1
  obtain ⟨e0, e1⟩ := E1.out
  go_wp2_with fail
  refine (szFacts_any z' a' l'.length c' r _ HN'.out hz2 hz3).mono ?_
  rintro e w2 ⟨rfl, hb⟩
  have B2 := mkHid (below_step B1.out hb)
  have F2 := mkHid (F1.out.below hb)
  have E2 := mkHid (E1.out.below hb)
  clear hb e0 e1 B1 F1 E1
  obtain ⟨r2, hr⟩ : ∃ r2, szR r l'.length = r2 := ⟨_, rfl⟩
  have HZ2 : Hid (¬ r2 < 0 → l'.length ≤ 1048576) := mkHid fun h => by unfold szR at hr; split at hr <;> omega
  rw [hr]
  clear hr
  by_cases hneg2 : r2 < 0
  · go_wp2
    go_ret
    exact ⟨rfl, B2.out⟩
  have HZZ' := mkHid (HZ2.out hneg2)
  clear HZ HZ2 hz1 hz2 hz3
  go_wp2_with fail
  clear hneg hneg2
  go_cut [6] from 14 (fun s v => ∃ (X : Nat) (sa : Option Addr) (sc bs : Nat), s = .pointer (some ⟨X, 0, none⟩) ∧ Fc v X rz sa rl.length sc ∧ OwnI v bs (.slice sa rl.length sc) rl ∧ (∀ q, Value.ownBlock (.slice sa rl.length sc) = some q → w.heap.size + 1 < q ∧ q < v.heap.size) ∧ w.heap.size + 1 < X ∧ Below w.heap.size w v ∧ Fc v w.heap.size z a l.length c ∧ Fc v (w.heap.size + 1) z' a' l'.length c')
  case first =>
    have Bs := mkHid (B2.out.drew)
    have Fs := mkHid (F2.out.below (Below.refl _ _).drew)
    have Es := mkHid (E2.out.below (Below.refl _ _).drew)
    refine wp_region_held_drew (S := (fun v => Fc v w.heap.size z a l.length c ∧ Fc v (w.heap.size + 1) z' a' l'.length c')) (by kernel_rfl) ⟨Fs.out, Es.out⟩ (fun _ => ?_)
    refine wpAnyH_take (i := 0) (oi := { dst := some 24, op := Op.load 29 (Operand.tmp 2), type := 29, pos := "exact.go:3248", after := #[], guard := none }) (v := ?vr6_1) rfl (by kernel_rfl) (by kernel_rfl) (by kernel_rfl) (fun _ _ _ h => h) (Or.inl ⟨by rfl, ?hyr6_1⟩) (by assumption) ?restr6_1
    case hyr6_1 => (intro w' hSw; obtain ⟨⟨q0, q1⟩, q2, q3⟩ := hSw; go_simp; try with_reducible rfl)
    try simp only [Act.put, List.setIfInBounds_toArray, List.set_cons_zero, List.set_cons_succ]
    refine wpAnyH_take (i := 2) (oi := { dst := some 26, op := Op.load 29 (Operand.tmp 3), type := 29, pos := "exact.go:3248", after := #[], guard := none }) (v := ?vr6_2) rfl (by kernel_rfl) (by kernel_rfl) (by kernel_rfl) (fun _ _ _ h => h) (Or.inl ⟨by rfl, ?hyr6_2⟩) (by assumption) ?restr6_2
    case hyr6_2 => (intro w' hSw; obtain ⟨⟨q0, q1⟩, q2, q3⟩ := hSw; go_simp; try with_reducible rfl)
    try simp only [Act.put, List.setIfInBounds_toArray, List.set_cons_zero, List.set_cons_succ]
    refine wpAnyH_ready (rs := [1, 5]) (by kernel_rfl) (by simp) ?_
    refine AllReadyH.cons (o := { dst := some 25, op := Op.call { callee := Callee.value (Operand.func 24), args := #[Operand.tmp 24], argTypes := #[29] }, type := 24, pos := "exact.go:3248", after := #[{ on := 0, ground := Ground.data }], guard := none }) rfl (fun K hK => ?_) ?_
    · go_simp
      refine (toFacts_any z l a c _ HZZ.out (HL.out.below Bs.out)).mono ?_
      rintro e x1 ⟨ka, rfl, hoa, hb⟩
      have Bk1 := mkHid (below_step Bs.out hb)
      have Fk1 := mkHid (Fs.out.below hb)
      have Ek1 := mkHid (Es.out.below hb)
      clear hb Bs Fs Es
      have OAk1 := mkHid hoa.at
      clear hoa
      go_wp2_with fail
      refine hK.out _ _ ?_ (fun _ => ?_)
      · exact ⟨Fk1.out, Ek1.out⟩
      clear hK K
      try simp only [Act.put, List.setIfInBounds_toArray, List.set_cons_zero, List.set_cons_succ]
      refine wpAnyH_ready (rs := [3, 5]) (by kernel_rfl) (by simp) ?_
      refine AllReadyH.cons (o := { dst := some 27, op := Op.call { callee := Callee.value (Operand.func 24), args := #[Operand.tmp 26], argTypes := #[29] }, type := 24, pos := "exact.go:3248", after := #[{ on := 2, ground := Ground.data }, { on := 1, ground := Ground.chain }], guard := none }) rfl (fun K hK => ?_) ?_
      · go_simp
        refine (toFacts_any z' l' a' c' _ HZZ'.out (HL'.out.below Bk1.out)).mono ?_
        rintro e x3 ⟨kb, rfl, hob, hb⟩
        have Bk13 := mkHid (below_step Bk1.out hb)
        have Fk13 := mkHid (Fk1.out.below hb)
        have Ek13 := mkHid (Ek1.out.below hb)
        have OAk13 := mkHid (OAk1.out.below hb)
        clear hb Bk1 Fk1 Ek1 OAk1
        have OBk13 := mkHid hob.at
        clear hob
        go_wp2_with fail
        refine hK.out _ _ ?_ (fun _ => ?_)
        · exact ⟨Fk13.out, Ek13.out⟩
        clear hK K
        try simp only [Act.put, List.setIfInBounds_toArray, List.set_cons_zero, List.set_cons_succ]
        refine wpAnyH_ready (rs := [4, 5]) (by kernel_rfl) (by simp) ?_
        refine AllReadyH.cons (o := { dst := some 28, op := Op.call { callee := Callee.value (Operand.func 36), args := #[Operand.tmp 25, Operand.tmp 27], argTypes := #[24, 24] }, type := 24, pos := "exact.go:3248", after := #[{ on := 1, ground := Ground.data }, { on := 3, ground := Ground.data }, { on := 3, ground := Ground.chain }], guard := none }) rfl (fun K hK => ?_) ?_
        · go_simp
          refine (HS.out _ _ _ OAk13.out OBk13.out).mono ?_
          rintro e x4 ⟨sa, sc, rfl, so, hb⟩
          have hbs : w.heap.size + 1 < x3.heap.size := Ek13.out.lt
          have SQ : Hid (∀ q, Value.ownBlock (.slice sa rl.length sc) = some q → w.heap.size + 1 < q) := mkHid fun q hq => by have := so.lt hq; omega
          have Bk134 := mkHid (below_step Bk13.out hb)
          have Fk134 := mkHid (Fk13.out.below hb)
          have Ek134 := mkHid (Ek13.out.below hb)
          have OAk134 := mkHid (OAk13.out.below hb)
          have OBk134 := mkHid (OBk13.out.below hb)
          clear hb Bk13 Fk13 Ek13 OAk13 OBk13
          have SOk134 := mkHid so
          clear so
          go_wp2_with fail
          refine hK.out _ _ ?_ (fun _ => ?_)
          · exact ⟨Fk134.out, Ek134.out⟩
          clear hK K
          try simp only [Act.put, List.setIfInBounds_toArray, List.set_cons_zero, List.set_cons_succ]
          refine wpAnyH_ready (rs := [5]) (by kernel_rfl) (by simp) ?_
          refine AllReadyH.cons (o := { dst := some 6, op := Op.alloc 24, type := 0, pos := "exact.go:3248", after := #[], guard := none }) rfl (fun K hK => ?_) ?_
          · go_simp
            obtain ⟨X, hX⟩ : ∃ X, x4.heap.size = X := ⟨_, rfl⟩
            have hFX : w.heap.size ≠ X := by have h0 : w.heap.size < x4.heap.size := Fk134.out.lt; omega
            have hEX : w.heap.size + 1 ≠ X := by have h0 : w.heap.size + 1 < x4.heap.size := Ek134.out.lt; omega
            have hwX : w.heap.size + 1 < X := by have h0 : w.heap.size + 1 < x4.heap.size := Ek134.out.lt; omega
            have hNX : ∀ q, Value.ownBlock (.slice sa rl.length sc) = some q → X ≠ q := fun q hq => by have h0 := (SOk134.out.lt hq).2; have h1 : q < x4.heap.size := h0; omega
            have AL := (Below.refl x4.heap.size x4).alloc (Nat.le_refl _) (.cells #[.int .i64 0, .slice none 0 0] 24)
            have Bk1345 := mkHid (Bk134.out.alloc Bk134.out.size (.cells #[.int .i64 0, .slice none 0 0] 24))
            have Fk1345 := mkHid (Fk134.out.below AL)
            have Ek1345 := mkHid (Ek134.out.below AL)
            have OAk1345 := mkHid (OAk134.out.below AL)
            have OBk1345 := mkHid (OBk134.out.below AL)
            have SOk1345 := mkHid (SOk134.out.below AL)
            have XZk1345 : Hid (Fz (x4.alloc (.cells #[.int .i64 0, .slice none 0 0] 24)) X) := mkHid (by rw [← hX]; exact Fz.new _)
            rw [hX]
            obtain ⟨wa, hwa⟩ : ∃ wa, x4.alloc (.cells #[.int .i64 0, .slice none 0 0] 24) = wa := ⟨_, rfl⟩
            rw [hwa] at Bk1345 Fk1345 Ek1345 OAk1345 OBk1345 SOk1345 XZk1345
            rw [hwa]
            clear hX hwa AL Bk134 Fk134 Ek134 OAk134 OBk134 SOk134
            refine hK.out _ _ ?_ (fun _ => ?_)
            · exact ⟨Fk1345.out, Ek1345.out⟩
            clear hK K
            try simp only [Act.put, List.setIfInBounds_toArray, List.set_cons_zero, List.set_cons_succ]
            refine wpAnyH_ready (rs := [6]) (by kernel_rfl) (by simp) ?_
            refine AllReadyH.cons (o := { dst := none, op := Op.store 24 (Operand.tmp 6) (Operand.tmp 28), type := 0, pos := "exact.go:3248", after := #[{ on := 5, ground := Ground.data }, { on := 4, ground := Ground.data }, { on := 4, ground := Ground.chain }, { on := 0, ground := Ground.phase }, { on := 1, ground := Ground.phase }, { on := 2, ground := Ground.phase }, { on := 3, ground := Ground.phase }, { on := 4, ground := Ground.phase }, { on := 5, ground := Ground.phase }], guard := none }) rfl (fun K hK => ?_) ?_
            · obtain ⟨⟨z0, z1⟩, z2, z3⟩ := XZk1345.out
              go_simp
              refine hK.out _ _ ?_ (fun _ => ?_)
              · exact ⟨Fk1345.out.grown (put2 _ _ _ _) (some_ne hFX), Ek1345.out.grown (put2 _ _ _ _) (some_ne hEX)⟩
              clear hK K
              try simp only [Act.put, List.setIfInBounds_toArray, List.set_cons_zero, List.set_cons_succ]
              refine wpAnyH_done (by kernel_rfl) ?_ _
              have gr := put2 wa X (.int .i64 rz) (.slice sa rl.length sc)
              have SO2 := SOk1345.out.grown gr (fun q hq => some_ne (hNX q hq))
              have XF := mkHid (XZk1345.out.stored rz sa rl.length sc)
              have SOF := mkHid SO2
              have SLF : Hid (∀ q, Value.ownBlock (.slice sa rl.length sc) = some q → _ ∧ _) := mkHid (fun q hq => ⟨SQ.out q hq, (SO2.lt hq).2⟩)
              have BF := mkHid (Bk1345.out.grown gr Bk1345.out.size (fun q hq => by have e : X = q := Option.some.inj hq; omega))
              have FF := mkHid (Fk1345.out.grown gr (some_ne hFX))
              have EF := mkHid (Ek1345.out.grown gr (some_ne hEX))
              clear SO2 gr z0 z1 z2 z3
              go_wp2_with fail
              go_meet
              case rel => exact ⟨X, sa, sc, _, rfl, XF.out, SOF.out, SLF.out, hwX, BF.out, FF.out, EF.out⟩
            exact AllReadyH.nil
          exact AllReadyH.nil
        refine AllReadyH.cons (o := { dst := some 6, op := Op.alloc 24, type := 0, pos := "exact.go:3248", after := #[], guard := none }) rfl (fun K hK => ?_) ?_
        · go_simp
          obtain ⟨X, hX⟩ : ∃ X, x3.heap.size = X := ⟨_, rfl⟩
          have hFX : w.heap.size ≠ X := by have h0 : w.heap.size < x3.heap.size := Fk13.out.lt; omega
          have hEX : w.heap.size + 1 ≠ X := by have h0 : w.heap.size + 1 < x3.heap.size := Ek13.out.lt; omega
          have hwX : w.heap.size + 1 < X := by have h0 : w.heap.size + 1 < x3.heap.size := Ek13.out.lt; omega
          have AL := (Below.refl x3.heap.size x3).alloc (Nat.le_refl _) (.cells #[.int .i64 0, .slice none 0 0] 24)
          have Bk135 := mkHid (Bk13.out.alloc Bk13.out.size (.cells #[.int .i64 0, .slice none 0 0] 24))
          have Fk135 := mkHid (Fk13.out.below AL)
          have Ek135 := mkHid (Ek13.out.below AL)
          have OAk135 := mkHid (OAk13.out.below AL)
          have OBk135 := mkHid (OBk13.out.below AL)
          have XZk135 : Hid (Fz (x3.alloc (.cells #[.int .i64 0, .slice none 0 0] 24)) X) := mkHid (by rw [← hX]; exact Fz.new _)
          rw [hX]
          obtain ⟨wa, hwa⟩ : ∃ wa, x3.alloc (.cells #[.int .i64 0, .slice none 0 0] 24) = wa := ⟨_, rfl⟩
          rw [hwa] at Bk135 Fk135 Ek135 OAk135 OBk135 XZk135
          rw [hwa]
          clear hX hwa AL Bk13 Fk13 Ek13 OAk13 OBk13
          refine hK.out _ _ ?_ (fun _ => ?_)
          · exact ⟨Fk135.out, Ek135.out⟩
          clear hK K
          try simp only [Act.put, List.setIfInBounds_toArray, List.set_cons_zero, List.set_cons_succ]
          refine wpAnyH_ready (rs := [4]) (by kernel_rfl) (by simp) ?_
          refine AllReadyH.cons (o := { dst := some 28, op := Op.call { callee := Callee.value (Operand.func 36), args := #[Operand.tmp 25, Operand.tmp 27], argTypes := #[24, 24] }, type := 24, pos := "exact.go:3248", after := #[{ on := 1, ground := Ground.data }, { on := 3, ground := Ground.data }, { on := 3, ground := Ground.chain }], guard := none }) rfl (fun K hK => ?_) ?_
          · go_simp
            refine (HS.out _ _ _ OAk135.out OBk135.out).mono ?_
            rintro e x4 ⟨sa, sc, rfl, so, hb⟩
            have hbs : w.heap.size + 1 < wa.heap.size := Ek135.out.lt
            have hXb : X < wa.heap.size := XZk135.out.lt
            have hNX : ∀ q, Value.ownBlock (.slice sa rl.length sc) = some q → X ≠ q := fun q hq => by have := so.lt hq; omega
            have SQ : Hid (∀ q, Value.ownBlock (.slice sa rl.length sc) = some q → w.heap.size + 1 < q) := mkHid fun q hq => by have := so.lt hq; omega
            have Bk1354 := mkHid (below_step Bk135.out hb)
            have Fk1354 := mkHid (Fk135.out.below hb)
            have Ek1354 := mkHid (Ek135.out.below hb)
            have XZk1354 := mkHid (XZk135.out.below hb)
            have OAk1354 := mkHid (OAk135.out.below hb)
            have OBk1354 := mkHid (OBk135.out.below hb)
            clear hb Bk135 Fk135 Ek135 XZk135 OAk135 OBk135
            have SOk1354 := mkHid so
            clear so
            go_wp2_with fail
            refine hK.out _ _ ?_ (fun _ => ?_)
            · exact ⟨Fk1354.out, Ek1354.out⟩
            clear hK K
            try simp only [Act.put, List.setIfInBounds_toArray, List.set_cons_zero, List.set_cons_succ]
            refine wpAnyH_ready (rs := [6]) (by kernel_rfl) (by simp) ?_
            refine AllReadyH.cons (o := { dst := none, op := Op.store 24 (Operand.tmp 6) (Operand.tmp 28), type := 0, pos := "exact.go:3248", after := #[{ on := 5, ground := Ground.data }, { on := 4, ground := Ground.data }, { on := 4, ground := Ground.chain }, { on := 0, ground := Ground.phase }, { on := 1, ground := Ground.phase }, { on := 2, ground := Ground.phase }, { on := 3, ground := Ground.phase }, { on := 4, ground := Ground.phase }, { on := 5, ground := Ground.phase }], guard := none }) rfl (fun K hK => ?_) ?_
            · obtain ⟨⟨z0, z1⟩, z2, z3⟩ := XZk1354.out
              go_simp
              refine hK.out _ _ ?_ (fun _ => ?_)
              · exact ⟨Fk1354.out.grown (put2 _ _ _ _) (some_ne hFX), Ek1354.out.grown (put2 _ _ _ _) (some_ne hEX)⟩
              clear hK K
              try simp only [Act.put, List.setIfInBounds_toArray, List.set_cons_zero, List.set_cons_succ]
              refine wpAnyH_done (by kernel_rfl) ?_ _
              have gr := put2 x4 X (.int .i64 rz) (.slice sa rl.length sc)
              have SO2 := SOk1354.out.grown gr (fun q hq => some_ne (hNX q hq))
              have XF := mkHid (XZk1354.out.stored rz sa rl.length sc)
              have SOF := mkHid SO2
              have SLF : Hid (∀ q, Value.ownBlock (.slice sa rl.length sc) = some q → _ ∧ _) := mkHid (fun q hq => ⟨SQ.out q hq, (SO2.lt hq).2⟩)
              have BF := mkHid (Bk1354.out.grown gr Bk1354.out.size (fun q hq => by have e : X = q := Option.some.inj hq; omega))
              have FF := mkHid (Fk1354.out.grown gr (some_ne hFX))
              have EF := mkHid (Ek1354.out.grown gr (some_ne hEX))
              clear SO2 gr z0 z1 z2 z3
              go_wp2_with fail
              go_meet
              case rel => exact ⟨X, sa, sc, _, rfl, XF.out, SOF.out, SLF.out, hwX, BF.out, FF.out, EF.out⟩
            exact AllReadyH.nil
          exact AllReadyH.nil
        exact AllReadyH.nil
      refine AllReadyH.cons (o := { dst := some 6, op := Op.alloc 24, type := 0, pos := "exact.go:3248", after := #[], guard := none }) rfl (fun K hK => ?_) ?_
      · go_simp
        obtain ⟨X, hX⟩ : ∃ X, x1.heap.size = X := ⟨_, rfl⟩
        have hFX : w.heap.size ≠ X := by have h0 : w.heap.size < x1.heap.size := Fk1.out.lt; omega
        have hEX : w.heap.size + 1 ≠ X := by have h0 : w.heap.size + 1 < x1.heap.size := Ek1.out.lt; omega
        have hwX : w.heap.size + 1 < X := by have h0 : w.heap.size + 1 < x1.heap.size := Ek1.out.lt; omega
        have AL := (Below.refl x1.heap.size x1).alloc (Nat.le_refl _) (.cells #[.int .i64 0, .slice none 0 0] 24)
        have Bk15 := mkHid (Bk1.out.alloc Bk1.out.size (.cells #[.int .i64 0, .slice none 0 0] 24))
        have Fk15 := mkHid (Fk1.out.below AL)
        have Ek15 := mkHid (Ek1.out.below AL)
        have OAk15 := mkHid (OAk1.out.below AL)
        have XZk15 : Hid (Fz (x1.alloc (.cells #[.int .i64 0, .slice none 0 0] 24)) X) := mkHid (by rw [← hX]; exact Fz.new _)
        rw [hX]
        obtain ⟨wa, hwa⟩ : ∃ wa, x1.alloc (.cells #[.int .i64 0, .slice none 0 0] 24) = wa := ⟨_, rfl⟩
        rw [hwa] at Bk15 Fk15 Ek15 OAk15 XZk15
        rw [hwa]
        clear hX hwa AL Bk1 Fk1 Ek1 OAk1
        refine hK.out _ _ ?_ (fun _ => ?_)
        · exact ⟨Fk15.out, Ek15.out⟩
        clear hK K
        try simp only [Act.put, List.setIfInBounds_toArray, List.set_cons_zero, List.set_cons_succ]
        refine wpAnyH_ready (rs := [3]) (by kernel_rfl) (by simp) ?_
        refine AllReadyH.cons (o := { dst := some 27, op := Op.call { callee := Callee.value (Operand.func 24), args := #[Operand.tmp 26], argTypes := #[29] }, type := 24, pos := "exact.go:3248", after := #[{ on := 2, ground := Ground.data }, { on := 1, ground := Ground.chain }], guard := none }) rfl (fun K hK => ?_) ?_
        · go_simp
          refine (toFacts_any z' l' a' c' _ HZZ'.out (HL'.out.below Bk15.out)).mono ?_
          rintro e x3 ⟨kb, rfl, hob, hb⟩
          have Bk153 := mkHid (below_step Bk15.out hb)
          have Fk153 := mkHid (Fk15.out.below hb)
          have Ek153 := mkHid (Ek15.out.below hb)
          have XZk153 := mkHid (XZk15.out.below hb)
          have OAk153 := mkHid (OAk15.out.below hb)
          clear hb Bk15 Fk15 Ek15 XZk15 OAk15
          have OBk153 := mkHid hob.at
          clear hob
          go_wp2_with fail
          refine hK.out _ _ ?_ (fun _ => ?_)
          · exact ⟨Fk153.out, Ek153.out⟩
          clear hK K
          try simp only [Act.put, List.setIfInBounds_toArray, List.set_cons_zero, List.set_cons_succ]
          refine wpAnyH_ready (rs := [4]) (by kernel_rfl) (by simp) ?_
          refine AllReadyH.cons (o := { dst := some 28, op := Op.call { callee := Callee.value (Operand.func 36), args := #[Operand.tmp 25, Operand.tmp 27], argTypes := #[24, 24] }, type := 24, pos := "exact.go:3248", after := #[{ on := 1, ground := Ground.data }, { on := 3, ground := Ground.data }, { on := 3, ground := Ground.chain }], guard := none }) rfl (fun K hK => ?_) ?_
          · go_simp
            refine (HS.out _ _ _ OAk153.out OBk153.out).mono ?_
            rintro e x4 ⟨sa, sc, rfl, so, hb⟩
            have hbs : w.heap.size + 1 < x3.heap.size := Ek153.out.lt
            have hXb : X < x3.heap.size := XZk153.out.lt
            have hNX : ∀ q, Value.ownBlock (.slice sa rl.length sc) = some q → X ≠ q := fun q hq => by have := so.lt hq; omega
            have SQ : Hid (∀ q, Value.ownBlock (.slice sa rl.length sc) = some q → w.heap.size + 1 < q) := mkHid fun q hq => by have := so.lt hq; omega
            have Bk1534 := mkHid (below_step Bk153.out hb)
            have Fk1534 := mkHid (Fk153.out.below hb)
            have Ek1534 := mkHid (Ek153.out.below hb)
            have XZk1534 := mkHid (XZk153.out.below hb)
            have OAk1534 := mkHid (OAk153.out.below hb)
            have OBk1534 := mkHid (OBk153.out.below hb)
            clear hb Bk153 Fk153 Ek153 XZk153 OAk153 OBk153
            have SOk1534 := mkHid so
            clear so
            go_wp2_with fail
            refine hK.out _ _ ?_ (fun _ => ?_)
            · exact ⟨Fk1534.out, Ek1534.out⟩
            clear hK K
            try simp only [Act.put, List.setIfInBounds_toArray, List.set_cons_zero, List.set_cons_succ]
            refine wpAnyH_ready (rs := [6]) (by kernel_rfl) (by simp) ?_
            refine AllReadyH.cons (o := { dst := none, op := Op.store 24 (Operand.tmp 6) (Operand.tmp 28), type := 0, pos := "exact.go:3248", after := #[{ on := 5, ground := Ground.data }, { on := 4, ground := Ground.data }, { on := 4, ground := Ground.chain }, { on := 0, ground := Ground.phase }, { on := 1, ground := Ground.phase }, { on := 2, ground := Ground.phase }, { on := 3, ground := Ground.phase }, { on := 4, ground := Ground.phase }, { on := 5, ground := Ground.phase }], guard := none }) rfl (fun K hK => ?_) ?_
            · obtain ⟨⟨z0, z1⟩, z2, z3⟩ := XZk1534.out
              go_simp
              refine hK.out _ _ ?_ (fun _ => ?_)
              · exact ⟨Fk1534.out.grown (put2 _ _ _ _) (some_ne hFX), Ek1534.out.grown (put2 _ _ _ _) (some_ne hEX)⟩
              clear hK K
              try simp only [Act.put, List.setIfInBounds_toArray, List.set_cons_zero, List.set_cons_succ]
              refine wpAnyH_done (by kernel_rfl) ?_ _
              have gr := put2 x4 X (.int .i64 rz) (.slice sa rl.length sc)
              have SO2 := SOk1534.out.grown gr (fun q hq => some_ne (hNX q hq))
              have XF := mkHid (XZk1534.out.stored rz sa rl.length sc)
              have SOF := mkHid SO2
              have SLF : Hid (∀ q, Value.ownBlock (.slice sa rl.length sc) = some q → _ ∧ _) := mkHid (fun q hq => ⟨SQ.out q hq, (SO2.lt hq).2⟩)
              have BF := mkHid (Bk1534.out.grown gr Bk1534.out.size (fun q hq => by have e : X = q := Option.some.inj hq; omega))
              have FF := mkHid (Fk1534.out.grown gr (some_ne hFX))
              have EF := mkHid (Ek1534.out.grown gr (some_ne hEX))
              clear SO2 gr z0 z1 z2 z3
              go_wp2_with fail
              go_meet
              case rel => exact ⟨X, sa, sc, _, rfl, XF.out, SOF.out, SLF.out, hwX, BF.out, FF.out, EF.out⟩
            exact AllReadyH.nil
          exact AllReadyH.nil
        exact AllReadyH.nil
      exact AllReadyH.nil
    refine AllReadyH.cons (o := { dst := some 6, op := Op.alloc 24, type := 0, pos := "exact.go:3248", after := #[], guard := none }) rfl (fun K hK => ?_) ?_
    · go_simp
      obtain ⟨X, hX⟩ : ∃ X, w2.heap.size = X := ⟨_, rfl⟩
      have hFX : w.heap.size ≠ X := by have h0 : w.heap.size < w2.heap.size := Fs.out.lt; omega
      have hEX : w.heap.size + 1 ≠ X := by have h0 : w.heap.size + 1 < w2.heap.size := Es.out.lt; omega
      have hwX : w.heap.size + 1 < X := by have h0 : w.heap.size + 1 < w2.heap.size := Es.out.lt; omega
      have AL := (Below.refl w2.drew.heap.size w2.drew).alloc (Nat.le_refl _) (.cells #[.int .i64 0, .slice none 0 0] 24)
      have Bk5 := mkHid (Bs.out.alloc Bs.out.size (.cells #[.int .i64 0, .slice none 0 0] 24))
      have Fk5 := mkHid (Fs.out.below AL)
      have Ek5 := mkHid (Es.out.below AL)
      have XZk5 : Hid (Fz (w2.drew.alloc (.cells #[.int .i64 0, .slice none 0 0] 24)) X) := mkHid (by rw [← hX]; exact Fz.new _)
      rw [hX]
      obtain ⟨wa, hwa⟩ : ∃ wa, (w2.alloc (.cells #[.int .i64 0, .slice none 0 0] 24)).drew = wa := ⟨_, rfl⟩
      have hcm : w2.drew.alloc (.cells #[.int .i64 0, .slice none 0 0] 24) = wa := hwa
      rw [hcm] at Bk5 Fk5 Ek5 XZk5
      rw [hwa]
      clear hcm
      clear hX hwa AL Bs Fs Es
      refine hK.out _ _ ?_ (fun _ => ?_)
      · exact ⟨Fk5.out, Ek5.out⟩
      clear hK K
      try simp only [Act.put, List.setIfInBounds_toArray, List.set_cons_zero, List.set_cons_succ]
      refine wpAnyH_ready (rs := [1]) (by kernel_rfl) (by simp) ?_
      refine AllReadyH.cons (o := { dst := some 25, op := Op.call { callee := Callee.value (Operand.func 24), args := #[Operand.tmp 24], argTypes := #[29] }, type := 24, pos := "exact.go:3248", after := #[{ on := 0, ground := Ground.data }], guard := none }) rfl (fun K hK => ?_) ?_
      · go_simp
        refine (toFacts_any z l a c _ HZZ.out (HL.out.below Bk5.out)).mono ?_
        rintro e x1 ⟨ka, rfl, hoa, hb⟩
        have Bk51 := mkHid (below_step Bk5.out hb)
        have Fk51 := mkHid (Fk5.out.below hb)
        have Ek51 := mkHid (Ek5.out.below hb)
        have XZk51 := mkHid (XZk5.out.below hb)
        clear hb Bk5 Fk5 Ek5 XZk5
        have OAk51 := mkHid hoa.at
        clear hoa
        go_wp2_with fail
        refine hK.out _ _ ?_ (fun _ => ?_)
        · exact ⟨Fk51.out, Ek51.out⟩
        clear hK K
        try simp only [Act.put, List.setIfInBounds_toArray, List.set_cons_zero, List.set_cons_succ]
        refine wpAnyH_ready (rs := [3]) (by kernel_rfl) (by simp) ?_
        refine AllReadyH.cons (o := { dst := some 27, op := Op.call { callee := Callee.value (Operand.func 24), args := #[Operand.tmp 26], argTypes := #[29] }, type := 24, pos := "exact.go:3248", after := #[{ on := 2, ground := Ground.data }, { on := 1, ground := Ground.chain }], guard := none }) rfl (fun K hK => ?_) ?_
        · go_simp
          refine (toFacts_any z' l' a' c' _ HZZ'.out (HL'.out.below Bk51.out)).mono ?_
          rintro e x3 ⟨kb, rfl, hob, hb⟩
          have Bk513 := mkHid (below_step Bk51.out hb)
          have Fk513 := mkHid (Fk51.out.below hb)
          have Ek513 := mkHid (Ek51.out.below hb)
          have XZk513 := mkHid (XZk51.out.below hb)
          have OAk513 := mkHid (OAk51.out.below hb)
          clear hb Bk51 Fk51 Ek51 XZk51 OAk51
          have OBk513 := mkHid hob.at
          clear hob
          go_wp2_with fail
          refine hK.out _ _ ?_ (fun _ => ?_)
          · exact ⟨Fk513.out, Ek513.out⟩
          clear hK K
          try simp only [Act.put, List.setIfInBounds_toArray, List.set_cons_zero, List.set_cons_succ]
          refine wpAnyH_ready (rs := [4]) (by kernel_rfl) (by simp) ?_
          refine AllReadyH.cons (o := { dst := some 28, op := Op.call { callee := Callee.value (Operand.func 36), args := #[Operand.tmp 25, Operand.tmp 27], argTypes := #[24, 24] }, type := 24, pos := "exact.go:3248", after := #[{ on := 1, ground := Ground.data }, { on := 3, ground := Ground.data }, { on := 3, ground := Ground.chain }], guard := none }) rfl (fun K hK => ?_) ?_
          · go_simp
            refine (HS.out _ _ _ OAk513.out OBk513.out).mono ?_
            rintro e x4 ⟨sa, sc, rfl, so, hb⟩
            have hbs : w.heap.size + 1 < x3.heap.size := Ek513.out.lt
            have hXb : X < x3.heap.size := XZk513.out.lt
            have hNX : ∀ q, Value.ownBlock (.slice sa rl.length sc) = some q → X ≠ q := fun q hq => by have := so.lt hq; omega
            have SQ : Hid (∀ q, Value.ownBlock (.slice sa rl.length sc) = some q → w.heap.size + 1 < q) := mkHid fun q hq => by have := so.lt hq; omega
            have Bk5134 := mkHid (below_step Bk513.out hb)
            have Fk5134 := mkHid (Fk513.out.below hb)
            have Ek5134 := mkHid (Ek513.out.below hb)
            have XZk5134 := mkHid (XZk513.out.below hb)
            have OAk5134 := mkHid (OAk513.out.below hb)
            have OBk5134 := mkHid (OBk513.out.below hb)
            clear hb Bk513 Fk513 Ek513 XZk513 OAk513 OBk513
            have SOk5134 := mkHid so
            clear so
            go_wp2_with fail
            refine hK.out _ _ ?_ (fun _ => ?_)
            · exact ⟨Fk5134.out, Ek5134.out⟩
            clear hK K
            try simp only [Act.put, List.setIfInBounds_toArray, List.set_cons_zero, List.set_cons_succ]
            refine wpAnyH_ready (rs := [6]) (by kernel_rfl) (by simp) ?_
            refine AllReadyH.cons (o := { dst := none, op := Op.store 24 (Operand.tmp 6) (Operand.tmp 28), type := 0, pos := "exact.go:3248", after := #[{ on := 5, ground := Ground.data }, { on := 4, ground := Ground.data }, { on := 4, ground := Ground.chain }, { on := 0, ground := Ground.phase }, { on := 1, ground := Ground.phase }, { on := 2, ground := Ground.phase }, { on := 3, ground := Ground.phase }, { on := 4, ground := Ground.phase }, { on := 5, ground := Ground.phase }], guard := none }) rfl (fun K hK => ?_) ?_
            · obtain ⟨⟨z0, z1⟩, z2, z3⟩ := XZk5134.out
              go_simp
              refine hK.out _ _ ?_ (fun _ => ?_)
              · exact ⟨Fk5134.out.grown (put2 _ _ _ _) (some_ne hFX), Ek5134.out.grown (put2 _ _ _ _) (some_ne hEX)⟩
              clear hK K
              try simp only [Act.put, List.setIfInBounds_toArray, List.set_cons_zero, List.set_cons_succ]
              refine wpAnyH_done (by kernel_rfl) ?_ _
              have gr := put2 x4 X (.int .i64 rz) (.slice sa rl.length sc)
              have SO2 := SOk5134.out.grown gr (fun q hq => some_ne (hNX q hq))
              have XF := mkHid (XZk5134.out.stored rz sa rl.length sc)
              have SOF := mkHid SO2
              have SLF : Hid (∀ q, Value.ownBlock (.slice sa rl.length sc) = some q → _ ∧ _) := mkHid (fun q hq => ⟨SQ.out q hq, (SO2.lt hq).2⟩)
              have BF := mkHid (Bk5134.out.grown gr Bk5134.out.size (fun q hq => by have e : X = q := Option.some.inj hq; omega))
              have FF := mkHid (Fk5134.out.grown gr (some_ne hFX))
              have EF := mkHid (Ek5134.out.grown gr (some_ne hEX))
              clear SO2 gr z0 z1 z2 z3
              go_wp2_with fail
              go_meet
              case rel => exact ⟨X, sa, sc, _, rfl, XF.out, SOF.out, SLF.out, hwX, BF.out, FF.out, EF.out⟩
            exact AllReadyH.nil
          exact AllReadyH.nil
        exact AllReadyH.nil
      exact AllReadyH.nil
    exact AllReadyH.nil
  case rest =>
    obtain ⟨bw, sa, sc, bs, rfl, hW3, hS3, hSL, hw1, hB3, hF3, hE3⟩ := hcut
    have W3 := mkHid hW3
    have S3 := mkHid hS3
    have B3 := mkHid hB3
    have F3 := mkHid hF3
    have E3 := mkHid hE3
    obtain ⟨bz, hbz⟩ : ∃ bz, wc.heap.size = bz := ⟨_, rfl⟩
    rw [hbz] at hSL
    have SL := mkHid hSL
    have hwz : bw < bz := by have := hW3.lt; omega
    clear hW3 hS3 hB3 hF3 hE3 hSL B2 F2 E2
    obtain ⟨p0, p1⟩ := F3.out
    go_wp2_with fail
    skip
    refine (toFacts_any z l a c _ HZZ.out (HL.out.below B3.out)).mono ?_
    rintro e w4 ⟨g4, rfl, ho, hb⟩
    obtain ⟨bx, hbx⟩ : ∃ b, w4.heap.size = b := ⟨_, rfl⟩
    have hx4 : bz ≤ g4 ∧ g4 < bx := by have h1 := ho.base_le; have h2 := ho.lt (q := g4) rfl; omega
    have A := (Below.refl w4.heap.size w4).alloc (Nat.le_refl _) (.cells #[.int .i64 z, .slice (some ⟨g4, 0, none⟩) l.length l.length] 24)
    have B4 := mkHid ((below_step B3.out hb).alloc (below_step B3.out hb).size (.cells #[.int .i64 z, .slice (some ⟨g4, 0, none⟩) l.length l.length] 24))
    have F4 := mkHid ((F3.out.below hb).below A)
    have E4 := mkHid ((E3.out.below hb).below A)
    have W4 := mkHid ((W3.out.below hb).below A)
    have S4 := mkHid ((S3.out.below hb).below A)
    have X4 := mkHid (Fc.new w4 z (some ⟨g4, 0, none⟩) l.length l.length 24)
    have O4 := mkHid (ho.below A)
    clear hb ho p0 p1 hbz A B3 F3 E3 W3 S3
    rw [hbx] at X4
    obtain ⟨p0, p1⟩ := E4.out
    go_wp2_with fail
    have s0 := X4.out.lt
    refine (toFacts_any z' l' a' c' _ HZZ'.out (HL'.out.below B4.out)).mono ?_
    rintro e w5 ⟨g5, rfl, ho, hb⟩
    obtain ⟨by1, hby1⟩ : ∃ b, w5.heap.size = b := ⟨_, rfl⟩
    have hx5 : bx + 1 ≤ g5 ∧ g5 < by1 := by have h1 := ho.base_le; have h2 := ho.lt (q := g5) rfl; omega
    have A := (Below.refl w5.heap.size w5).alloc (Nat.le_refl _) (.cells #[.int .i64 z', .slice (some ⟨g5, 0, none⟩) l'.length l'.length] 24)
    have B5 := mkHid ((below_step B4.out hb).alloc (below_step B4.out hb).size (.cells #[.int .i64 z', .slice (some ⟨g5, 0, none⟩) l'.length l'.length] 24))
    have F5 := mkHid ((F4.out.below hb).below A)
    have E5 := mkHid ((E4.out.below hb).below A)
    have W5 := mkHid ((W4.out.below hb).below A)
    have S5 := mkHid ((S4.out.below hb).below A)
    have X5 := mkHid ((X4.out.below hb).below A)
    have O5 := mkHid ((O4.out.below hb).below A)
    have Y5 := mkHid (Fc.new w5 z' (some ⟨g5, 0, none⟩) l'.length l'.length 24)
    have P5 := mkHid (ho.below A)
    clear hb ho p0 p1 s0 A B4 F4 E4 W4 S4 X4 O4
    rw [hby1] at Y5
    obtain ⟨q0, q1⟩ := X5.out
    obtain ⟨y0, y1⟩ := Y5.out
    have s0 := Y5.out.lt
    go_wp2_with fail
    refine (HI.out _ _ _ O5.out.at P5.out.at).mono ?_
    rintro e w6 ⟨ga, gc, rfl, go, hb⟩
    obtain ⟨bg, hbg⟩ : ∃ bg, w6.heap.size = bg := ⟨_, rfl⟩
    have GL : Hid (∀ q, Value.ownBlock (.slice ga rl.length gc) = some q → by1 < q ∧ q < bg) := mkHid fun q hq => by have h1 := go.lt hq; omega
    have s5 : by1 < bg := by have := hb.size; omega
    have A := (Below.refl w6.heap.size w6).alloc (Nat.le_refl _) (.cells #[.int .i64 rz, .slice ga rl.length gc] 24)
    have B6 := mkHid ((below_step B5.out hb).alloc (below_step B5.out hb).size (.cells #[.int .i64 rz, .slice ga rl.length gc] 24))
    have F6 := mkHid ((F5.out.below hb).below A)
    have E6 := mkHid ((E5.out.below hb).below A)
    have W6 := mkHid ((W5.out.below hb).below A)
    have S6 := mkHid ((S5.out.below hb).below A)
    have X6 := mkHid ((X5.out.below hb).below A)
    have O6 := mkHid ((O5.out.below hb).below A)
    have Y6 := mkHid ((Y5.out.below hb).below A)
    have P6 := mkHid ((P5.out.below hb).below A)
    have G6 := mkHid (Fc.new w6 rz ga rl.length gc 24)
    have Q6 := mkHid (go.below A)
    clear hb go q0 q1 y0 y1 s0 A B5 F5 E5 W5 S5 X5 O5 Y5 P5
    rw [hbg] at G6
    obtain ⟨g0, g1⟩ := G6.out
    obtain ⟨v0, v1⟩ := W6.out
    go_wp2_with fail
    refine (eqFacts_ok rz rl ga sa gc sc _ HM.out Q6.out.at S6.out.at).mono ?_
    rintro e w7 ⟨rfl, hb⟩
    have B7 := mkHid (below_step B6.out hb)
    have F7 := mkHid (F6.out.below hb)
    have E7 := mkHid (E6.out.below hb)
    have W7 := mkHid (W6.out.below hb)
    have S7 := mkHid (S6.out.below hb)
    have X7 := mkHid (X6.out.below hb)
    have O7 := mkHid (O6.out.below hb)
    have Y7 := mkHid (Y6.out.below hb)
    have P7 := mkHid (P6.out.below hb)
    have G7 := mkHid (G6.out.below hb)
    have Q7 := mkHid (Q6.out.below hb)
    clear hb g0 g1 v0 v1 hbx hby1 hbg B6 F6 E6 W6 S6 X6 O6 Y6 P6 G6 Q6
    obtain ⟨p0, p1⟩ := F7.out
    obtain ⟨q0, q1⟩ := X7.out
    have hlx := F7.out.lt
    have hly := X7.out.lt
    go_wp2_with fail
    go_region_held3 (fun w' => w'.cell? ⟨w.heap.size, 0, none⟩ = some (.int .i64 z) ∧ w'.cell? ⟨w.heap.size, 1, none⟩ = some (.slice a l.length c) ∧ w'.cell? ⟨bx, 0, none⟩ = some (.int .i64 z) ∧ w'.cell? ⟨bx, 1, none⟩ = some (.slice (some ⟨g4, 0, none⟩) l.length l.length))
      (first | exact ⟨p0, p1, q0, q1⟩ | exact ⟨(hc _ _ hlx).trans p0, (hc _ _ hlx).trans p1, (hc _ _ hly).trans q0, (hc _ _ hly).trans q1⟩)
      (first | (go_at_call 24; refine (toFacts_any z l a c _ HZZ.out (HL.out.below B7.out.drew)).mono ?_; rintro e wx ⟨gx, rfl, hox, hbx⟩; obtain ⟨hc, hf⟩ := bcell hbx) | (go_at_call 19; refine (eqFacts_ok z l (some ⟨g4, 0, none⟩) (some ⟨gx, 0, none⟩) _ _ _ HN.out ((O7.out.at.below (Below.refl _ _).drew).below hbx) hox.at).mono ?_; rintro e wy ⟨rfl, hby⟩; obtain ⟨hc', hf'⟩ := bcell hby; have hc := fun b o (h : b < w7.drew.heap.size) => (hc' b o (Nat.lt_of_lt_of_le h hbx.size)).trans (hc b o h)))
    have NN := below_step (below_step (Below.refl w7.heap.size w7).drew hbx) hby
    have B8 := mkHid (below_step B7.out NN)
    have F8 := mkHid (F7.out.below NN)
    have E8 := mkHid (E7.out.below NN)
    have W8 := mkHid (W7.out.below NN)
    have S8 := mkHid (S7.out.below NN)
    have X8 := mkHid (X7.out.below NN)
    have O8 := mkHid (O7.out.below NN)
    have Y8 := mkHid (Y7.out.below NN)
    have P8 := mkHid (P7.out.below NN)
    have G8 := mkHid (G7.out.below NN)
    have Q8 := mkHid (Q7.out.below NN)
    clear NN hc hc' hf hf' hbx hby hox p0 p1 q0 q1 hlx hly B7 F7 E7 W7 S7 X7 O7 Y7 P7 G7 Q7
    obtain ⟨p0, p1⟩ := E8.out
    obtain ⟨q0, q1⟩ := Y8.out
    have hlx := E8.out.lt
    have hly := Y8.out.lt
    go_wp2_with fail
    go_region_held3 (fun w' => w'.cell? ⟨w.heap.size + 1, 0, none⟩ = some (.int .i64 z') ∧ w'.cell? ⟨w.heap.size + 1, 1, none⟩ = some (.slice a' l'.length c') ∧ w'.cell? ⟨by1, 0, none⟩ = some (.int .i64 z') ∧ w'.cell? ⟨by1, 1, none⟩ = some (.slice (some ⟨g5, 0, none⟩) l'.length l'.length))
      (first | exact ⟨p0, p1, q0, q1⟩ | exact ⟨(hc _ _ hlx).trans p0, (hc _ _ hlx).trans p1, (hc _ _ hly).trans q0, (hc _ _ hly).trans q1⟩)
      (first | (go_at_call 24; refine (toFacts_any z' l' a' c' _ HZZ'.out (HL'.out.below B8.out.drew)).mono ?_; rintro e wx2 ⟨gx, rfl, hox, hbx⟩; obtain ⟨hc, hf⟩ := bcell hbx) | (go_at_call 19; refine (eqFacts_ok z' l' (some ⟨g5, 0, none⟩) (some ⟨gx, 0, none⟩) _ _ _ HN'.out ((P8.out.at.below (Below.refl _ _).drew).below hbx) hox.at).mono ?_; rintro e wy2 ⟨rfl, hby⟩; obtain ⟨hc', hf'⟩ := bcell hby; have hc := fun b o (h : b < wy.drew.heap.size) => (hc' b o (Nat.lt_of_lt_of_le h hbx.size)).trans (hc b o h)))
    have NN := below_step (below_step (Below.refl wy.heap.size wy).drew hbx) hby
    have B9 := mkHid (below_step B8.out NN)
    have F9 := mkHid (F8.out.below NN)
    have E9 := mkHid (E8.out.below NN)
    have W9 := mkHid (W8.out.below NN)
    have S9 := mkHid (S8.out.below NN)
    have X9 := mkHid (X8.out.below NN)
    have O9 := mkHid (O8.out.below NN)
    have Y9 := mkHid (Y8.out.below NN)
    have P9 := mkHid (P8.out.below NN)
    have G9 := mkHid (G8.out.below NN)
    have Q9 := mkHid (Q8.out.below NN)
    clear NN hc hc' hf hf' hbx hby hox p0 p1 q0 q1 hlx hly B8 F8 E8 W8 S8 X8 O8 Y8 P8 G8 Q8
    obtain ⟨q0, q1⟩ := X9.out
    go_wp2_with fail
    refine (markFacts_ok z l (some ⟨g4, 0, none⟩) _ _ 1 _ (by have := HZZ.out; omega) (by omega) (by omega) O9.out).mono ?_
    rintro e wm ⟨rfl, _, hg⟩
    clear q0 q1
    have B10 := mkHid (B9.out.grown hg B9.out.size (fun q hq => by have e : g4 = q := Option.some.inj hq; omega))
    have F10 := mkHid (F9.out.grown hg (some_ne (by show w.heap.size ≠ g4; omega)))
    have E10 := mkHid (E9.out.grown hg (some_ne (by show w.heap.size + 1 ≠ g4; omega)))
    have W10 := mkHid (W9.out.grown hg (some_ne (by show bw ≠ g4; omega)))
    have S10 := mkHid (S9.out.grown hg (fun q hq => some_ne (by have := SL.out q hq; show g4 ≠ q; omega)))
    have Y10 := mkHid (Y9.out.grown hg (some_ne (by show by1 ≠ g4; omega)))
    have P10 := mkHid (P9.out.grown hg (fun q hq => some_ne (by have e : g5 = q := Option.some.inj hq; show g4 ≠ q; omega)))
    have G10 := mkHid (G9.out.grown hg (some_ne (by show bg ≠ g4; omega)))
    have Q10 := mkHid (Q9.out.grown hg (fun q hq => some_ne (by have := GL.out q hq; show g4 ≠ q; omega)))
    clear hg B9 F9 E9 W9 S9 X9 O9 Y9 P9 G9 Q9
    obtain ⟨y0, y1⟩ := Y10.out
    have HK : Hid (0 ≤ 1 + (l.length : Int) ∧ 1 + (l.length : Int) ≤ 10000000) := mkHid (by have := HZZ.out; omega)
    obtain ⟨k1, hk1⟩ : ∃ k, 1 + (l.length : Int) = k := ⟨_, rfl⟩
    rw [hk1] at HK
    rw [hk1]
    clear hk1
    go_wp2_with fail
    refine (markFacts_ok z' l' (some ⟨g5, 0, none⟩) _ _ k1 _ (by have := HZZ'.out; omega) HK.out.1 HK.out.2 P10.out).mono ?_
    rintro e wn ⟨rfl, _, hg⟩
    have hk : ¬ (k1 + (l'.length : Int) < 0) := by have := HK.out; omega
    clear y0 y1
    have B11 := mkHid (B10.out.grown hg B10.out.size (fun q hq => by have e : g5 = q := Option.some.inj hq; omega))
    have F11 := mkHid (F10.out.grown hg (some_ne (by show w.heap.size ≠ g5; omega)))
    have E11 := mkHid (E10.out.grown hg (some_ne (by show w.heap.size + 1 ≠ g5; omega)))
    have W11 := mkHid (W10.out.grown hg (some_ne (by show bw ≠ g5; omega)))
    have S11 := mkHid (S10.out.grown hg (fun q hq => some_ne (by have := SL.out q hq; show g5 ≠ q; omega)))
    have G11 := mkHid (G10.out.grown hg (some_ne (by show bg ≠ g5; omega)))
    have Q11 := mkHid (Q10.out.grown hg (fun q hq => some_ne (by have := GL.out q hq; show g5 ≠ q; omega)))
    clear hg B10 F10 E10 W10 S10 Y10 P10 G10 Q10
    obtain ⟨g0, g1⟩ := G11.out
    obtain ⟨v0, v1⟩ := W11.out
    go_wp2_with fail
    refine (eqFacts_ok rz rl ga sa gc sc _ HM.out Q11.out.at S11.out.at).mono ?_
    rintro e wo ⟨rfl, hb⟩
    have B12 := mkHid (below_step B11.out hb)
    have F12 := mkHid (F11.out.below hb)
    have E12 := mkHid (E11.out.below hb)
    have W12 := mkHid (W11.out.below hb)
    have S12 := mkHid (S11.out.below hb)
    have G12 := mkHid (G11.out.below hb)
    have Q12 := mkHid (Q11.out.below hb)
    clear hb g0 g1 v0 v1 B11 F11 E11 W11 S11 G11 Q11
    obtain ⟨g0, g1⟩ := G12.out
    go_wp2_with fail
    refine (markFacts_ok rz rl ga gc _ 1 _ (by have := HLE.out; omega) (by omega) (by omega) Q12.out).mono ?_
    rintro e wp ⟨rfl, go11, hg⟩
    have B13 := mkHid (B12.out.grown hg B12.out.size (fun q hq => by have := GL.out q hq; omega))
    have F13 := mkHid (F12.out.grown hg (fun e => by have := GL.out _ e.symm; omega))
    have E13 := mkHid (E12.out.grown hg (fun e => by have := GL.out _ e.symm; omega))
    have W13 := mkHid (W12.out.grown hg (fun e => by have := GL.out _ e.symm; omega))
    have G13 := mkHid (G12.out.grown hg (fun e => by have := GL.out _ e.symm; omega))
    have S13 := mkHid (S12.out.grown hg (fun q hq e => by have h1 := SL.out q hq; have h2 := GL.out q e; omega))
    have Q13 := mkHid go11
    clear hg go11 g0 g1 B12 F12 E12 W12 S12 G12 Q12
    obtain ⟨g0, g1⟩ := G13.out
    have hq0 : ¬ (1 + (rl.length : Int) < 0) := by omega
    go_wp2_with fail
    refine (heldFacts_ok rz rl.length ga gc 1 _ (by have := HLE.out; omega) (by omega) (by omega) Q13.out.at).mono ?_
    rintro e wq ⟨rfl, hb⟩
    have B14 := mkHid (below_step B13.out hb)
    have F14 := mkHid (F13.out.below hb)
    have E14 := mkHid (E13.out.below hb)
    have W14 := mkHid (W13.out.below hb)
    have S14 := mkHid (S13.out.below hb)
    have G14 := mkHid (G13.out.below hb)
    have Q14 := mkHid (Q13.out.below hb)
    clear hb g0 g1 B13 F13 E13 W13 S13 G13 Q13
    go_wp2_with fail
    go_cut [13] from 14 (fun s v => ∃ (X : Nat) (ha : Option Addr) (hcap bs : Nat), s = .pointer (some ⟨X, 0, none⟩) ∧ Fc v X rz ha rl.length hcap ∧ OwnI v bs (.slice ha rl.length hcap) rl ∧ (∀ q, Value.ownBlock (.slice ha rl.length hcap) = some q → w.heap.size + 1 < q ∧ q < v.heap.size) ∧ w.heap.size + 1 < X ∧ Below w.heap.size w v ∧ Fc v w.heap.size z a l.length c ∧ Fc v (w.heap.size + 1) z' a' l'.length c' ∧ Fc v bw rz sa rl.length sc ∧ Fc v bg rz ga rl.length gc ∧ IntsAt v sa rl ∧ IntsAt v ga (marksI 1 rl.length))
    case first =>
      have Bs := mkHid (B14.out.drew)
      have Fs := mkHid (F14.out.below (Below.refl _ _).drew)
      have Es := mkHid (E14.out.below (Below.refl _ _).drew)
      have Ws := mkHid (W14.out.below (Below.refl _ _).drew)
      have Ss := mkHid (S14.out.below (Below.refl _ _).drew)
      have Gs := mkHid (G14.out.below (Below.refl _ _).drew)
      have Qs := mkHid (Q14.out.below (Below.refl _ _).drew)
      refine wp_region_held_drew (S := (fun v => Fc v w.heap.size z a l.length c ∧ Fc v (w.heap.size + 1) z' a' l'.length c')) (by kernel_rfl) ⟨Fs.out, Es.out⟩ (fun _ => ?_)
      refine wpAnyH_take (i := 0) (oi := { dst := some 75, op := Op.load 29 (Operand.tmp 2), type := 29, pos := "exact.go:3277", after := #[], guard := none }) (v := ?vr13_1) rfl (by kernel_rfl) (by kernel_rfl) (by kernel_rfl) (fun _ _ _ h => h) (Or.inl ⟨by rfl, ?hyr13_1⟩) (by assumption) ?restr13_1
      case hyr13_1 => (intro w' hSw; obtain ⟨⟨q0, q1⟩, q2, q3⟩ := hSw; go_simp; try with_reducible rfl)
      try simp only [Act.put, List.setIfInBounds_toArray, List.set_cons_zero, List.set_cons_succ]
      refine wpAnyH_take (i := 2) (oi := { dst := some 77, op := Op.load 29 (Operand.tmp 3), type := 29, pos := "exact.go:3277", after := #[], guard := none }) (v := ?vr13_2) rfl (by kernel_rfl) (by kernel_rfl) (by kernel_rfl) (fun _ _ _ h => h) (Or.inl ⟨by rfl, ?hyr13_2⟩) (by assumption) ?restr13_2
      case hyr13_2 => (intro w' hSw; obtain ⟨⟨q0, q1⟩, q2, q3⟩ := hSw; go_simp; try with_reducible rfl)
      try simp only [Act.put, List.setIfInBounds_toArray, List.set_cons_zero, List.set_cons_succ]
      refine wpAnyH_ready (rs := [1, 5]) (by kernel_rfl) (by simp) ?_
      refine AllReadyH.cons (o := { dst := some 76, op := Op.call { callee := Callee.value (Operand.func 24), args := #[Operand.tmp 75], argTypes := #[29] }, type := 24, pos := "exact.go:3277", after := #[{ on := 0, ground := Ground.data }], guard := none }) rfl (fun K hK => ?_) ?_
      · go_simp
        refine (toFacts_any z l a c _ HZZ.out (HL.out.below Bs.out)).mono ?_
        rintro e x1 ⟨ka, rfl, hoa, hb⟩
        have Bk1 := mkHid (below_step Bs.out hb)
        have Fk1 := mkHid (Fs.out.below hb)
        have Ek1 := mkHid (Es.out.below hb)
        have Wk1 := mkHid (Ws.out.below hb)
        have Sk1 := mkHid (Ss.out.below hb)
        have Gk1 := mkHid (Gs.out.below hb)
        have Qk1 := mkHid (Qs.out.below hb)
        clear hb Bs Fs Es Ws Ss Gs Qs
        have OAk1 := mkHid hoa.at
        clear hoa
        go_wp2_with fail
        refine hK.out _ _ ?_ (fun _ => ?_)
        · exact ⟨Fk1.out, Ek1.out⟩
        clear hK K
        try simp only [Act.put, List.setIfInBounds_toArray, List.set_cons_zero, List.set_cons_succ]
        refine wpAnyH_ready (rs := [3, 5]) (by kernel_rfl) (by simp) ?_
        refine AllReadyH.cons (o := { dst := some 78, op := Op.call { callee := Callee.value (Operand.func 24), args := #[Operand.tmp 77], argTypes := #[29] }, type := 24, pos := "exact.go:3277", after := #[{ on := 2, ground := Ground.data }, { on := 1, ground := Ground.chain }], guard := none }) rfl (fun K hK => ?_) ?_
        · go_simp
          refine (toFacts_any z' l' a' c' _ HZZ'.out (HL'.out.below Bk1.out)).mono ?_
          rintro e x3 ⟨kb, rfl, hob, hb⟩
          have Bk13 := mkHid (below_step Bk1.out hb)
          have Fk13 := mkHid (Fk1.out.below hb)
          have Ek13 := mkHid (Ek1.out.below hb)
          have Wk13 := mkHid (Wk1.out.below hb)
          have Sk13 := mkHid (Sk1.out.below hb)
          have Gk13 := mkHid (Gk1.out.below hb)
          have Qk13 := mkHid (Qk1.out.below hb)
          have OAk13 := mkHid (OAk1.out.below hb)
          clear hb Bk1 Fk1 Ek1 Wk1 Sk1 Gk1 Qk1 OAk1
          have OBk13 := mkHid hob.at
          clear hob
          go_wp2_with fail
          refine hK.out _ _ ?_ (fun _ => ?_)
          · exact ⟨Fk13.out, Ek13.out⟩
          clear hK K
          try simp only [Act.put, List.setIfInBounds_toArray, List.set_cons_zero, List.set_cons_succ]
          refine wpAnyH_ready (rs := [4, 5]) (by kernel_rfl) (by simp) ?_
          refine AllReadyH.cons (o := { dst := some 79, op := Op.call { callee := Callee.value (Operand.func 37), args := #[Operand.tmp 76, Operand.tmp 78], argTypes := #[24, 24] }, type := 24, pos := "exact.go:3277", after := #[{ on := 1, ground := Ground.data }, { on := 3, ground := Ground.data }, { on := 3, ground := Ground.chain }], guard := none }) rfl (fun K hK => ?_) ?_
          · go_simp
            refine (HI.out _ _ _ OAk13.out OBk13.out).mono ?_
            rintro e x4 ⟨ha, hcap, rfl, so, hb⟩
            have hbs : w.heap.size + 1 < x3.heap.size := Ek13.out.lt
            have SQ : Hid (∀ q, Value.ownBlock (.slice ha rl.length hcap) = some q → w.heap.size + 1 < q) := mkHid fun q hq => by have := so.lt hq; omega
            have Bk134 := mkHid (below_step Bk13.out hb)
            have Fk134 := mkHid (Fk13.out.below hb)
            have Ek134 := mkHid (Ek13.out.below hb)
            have Wk134 := mkHid (Wk13.out.below hb)
            have Sk134 := mkHid (Sk13.out.below hb)
            have Gk134 := mkHid (Gk13.out.below hb)
            have Qk134 := mkHid (Qk13.out.below hb)
            have OAk134 := mkHid (OAk13.out.below hb)
            have OBk134 := mkHid (OBk13.out.below hb)
            clear hb Bk13 Fk13 Ek13 Wk13 Sk13 Gk13 Qk13 OAk13 OBk13
            have SOk134 := mkHid so
            clear so
            go_wp2_with fail
            refine hK.out _ _ ?_ (fun _ => ?_)
            · exact ⟨Fk134.out, Ek134.out⟩
            clear hK K
            try simp only [Act.put, List.setIfInBounds_toArray, List.set_cons_zero, List.set_cons_succ]
            refine wpAnyH_ready (rs := [5]) (by kernel_rfl) (by simp) ?_
            refine AllReadyH.cons (o := { dst := some 13, op := Op.alloc 24, type := 0, pos := "exact.go:3277", after := #[], guard := none }) rfl (fun K hK => ?_) ?_
            · go_simp
              obtain ⟨X, hX⟩ : ∃ X, x4.heap.size = X := ⟨_, rfl⟩
              have hFX : w.heap.size ≠ X := by have h0 : w.heap.size < x4.heap.size := Fk134.out.lt; omega
              have hEX : w.heap.size + 1 ≠ X := by have h0 : w.heap.size + 1 < x4.heap.size := Ek134.out.lt; omega
              have hWX : bw ≠ X := by have h0 : bw < x4.heap.size := Wk134.out.lt; omega
              have hGX : bg ≠ X := by have h0 : bg < x4.heap.size := Gk134.out.lt; omega
              have hwX : w.heap.size + 1 < X := by have h0 : w.heap.size + 1 < x4.heap.size := Ek134.out.lt; omega
              have hSX : ∀ q, Value.ownBlock (.slice sa rl.length sc) = some q → X ≠ q := fun q hq => by have h0 := (Sk134.out.lt hq).2; have h1 : q < x4.heap.size := h0; omega
              have hQX : ∀ q, Value.ownBlock (.slice ga rl.length gc) = some q → X ≠ q := fun q hq => by have h0 := (Qk134.out.lt hq).2; have h1 : q < x4.heap.size := h0; omega
              have hNX : ∀ q, Value.ownBlock (.slice ha rl.length hcap) = some q → X ≠ q := fun q hq => by have h0 := (SOk134.out.lt hq).2; have h1 : q < x4.heap.size := h0; omega
              have AL := (Below.refl x4.heap.size x4).alloc (Nat.le_refl _) (.cells #[.int .i64 0, .slice none 0 0] 24)
              have Bk1345 := mkHid (Bk134.out.alloc Bk134.out.size (.cells #[.int .i64 0, .slice none 0 0] 24))
              have Fk1345 := mkHid (Fk134.out.below AL)
              have Ek1345 := mkHid (Ek134.out.below AL)
              have Wk1345 := mkHid (Wk134.out.below AL)
              have Sk1345 := mkHid (Sk134.out.below AL)
              have Gk1345 := mkHid (Gk134.out.below AL)
              have Qk1345 := mkHid (Qk134.out.below AL)
              have OAk1345 := mkHid (OAk134.out.below AL)
              have OBk1345 := mkHid (OBk134.out.below AL)
              have SOk1345 := mkHid (SOk134.out.below AL)
              have XZk1345 : Hid (Fz (x4.alloc (.cells #[.int .i64 0, .slice none 0 0] 24)) X) := mkHid (by rw [← hX]; exact Fz.new _)
              rw [hX]
              obtain ⟨wa, hwa⟩ : ∃ wa, x4.alloc (.cells #[.int .i64 0, .slice none 0 0] 24) = wa := ⟨_, rfl⟩
              rw [hwa] at Bk1345 Fk1345 Ek1345 Wk1345 Sk1345 Gk1345 Qk1345 OAk1345 OBk1345 SOk1345 XZk1345
              rw [hwa]
              clear hX hwa AL Bk134 Fk134 Ek134 Wk134 Sk134 Gk134 Qk134 OAk134 OBk134 SOk134
              refine hK.out _ _ ?_ (fun _ => ?_)
              · exact ⟨Fk1345.out, Ek1345.out⟩
              clear hK K
              try simp only [Act.put, List.setIfInBounds_toArray, List.set_cons_zero, List.set_cons_succ]
              refine wpAnyH_ready (rs := [6]) (by kernel_rfl) (by simp) ?_
              refine AllReadyH.cons (o := { dst := none, op := Op.store 24 (Operand.tmp 13) (Operand.tmp 79), type := 0, pos := "exact.go:3277", after := #[{ on := 5, ground := Ground.data }, { on := 4, ground := Ground.data }, { on := 4, ground := Ground.chain }, { on := 0, ground := Ground.phase }, { on := 1, ground := Ground.phase }, { on := 2, ground := Ground.phase }, { on := 3, ground := Ground.phase }, { on := 4, ground := Ground.phase }, { on := 5, ground := Ground.phase }], guard := none }) rfl (fun K hK => ?_) ?_
              · obtain ⟨⟨z0, z1⟩, z2, z3⟩ := XZk1345.out
                go_simp
                refine hK.out _ _ ?_ (fun _ => ?_)
                · exact ⟨Fk1345.out.grown (put2 _ _ _ _) (some_ne hFX), Ek1345.out.grown (put2 _ _ _ _) (some_ne hEX)⟩
                clear hK K
                try simp only [Act.put, List.setIfInBounds_toArray, List.set_cons_zero, List.set_cons_succ]
                refine wpAnyH_done (by kernel_rfl) ?_ _
                have gr := put2 wa X (.int .i64 rz) (.slice ha rl.length hcap)
                have SO2 := SOk1345.out.grown gr (fun q hq => some_ne (hNX q hq))
                have XF := mkHid (XZk1345.out.stored rz ha rl.length hcap)
                have SOF := mkHid SO2
                have SLF : Hid (∀ q, Value.ownBlock (.slice ha rl.length hcap) = some q → _ ∧ _) := mkHid (fun q hq => ⟨SQ.out q hq, (SO2.lt hq).2⟩)
                have BF := mkHid (Bk1345.out.grown gr Bk1345.out.size (fun q hq => by have e : X = q := Option.some.inj hq; omega))
                have FF := mkHid (Fk1345.out.grown gr (some_ne hFX))
                have EF := mkHid (Ek1345.out.grown gr (some_ne hEX))
                have WF := mkHid (Wk1345.out.grown gr (some_ne hWX))
                have GF := mkHid (Gk1345.out.grown gr (some_ne hGX))
                have SF := mkHid (Sk1345.out.grown gr (fun q hq => some_ne (hSX q hq))).at
                have QF := mkHid (Qk1345.out.grown gr (fun q hq => some_ne (hQX q hq))).at
                clear SO2 gr z0 z1 z2 z3
                go_wp2_with fail
                go_meet
                case rel => exact ⟨X, ha, hcap, _, rfl, XF.out, SOF.out, SLF.out, hwX, BF.out, FF.out, EF.out, WF.out, GF.out, SF.out, QF.out⟩
              exact AllReadyH.nil
            exact AllReadyH.nil
          refine AllReadyH.cons (o := { dst := some 13, op := Op.alloc 24, type := 0, pos := "exact.go:3277", after := #[], guard := none }) rfl (fun K hK => ?_) ?_
          · go_simp
            obtain ⟨X, hX⟩ : ∃ X, x3.heap.size = X := ⟨_, rfl⟩
            have hFX : w.heap.size ≠ X := by have h0 : w.heap.size < x3.heap.size := Fk13.out.lt; omega
            have hEX : w.heap.size + 1 ≠ X := by have h0 : w.heap.size + 1 < x3.heap.size := Ek13.out.lt; omega
            have hWX : bw ≠ X := by have h0 : bw < x3.heap.size := Wk13.out.lt; omega
            have hGX : bg ≠ X := by have h0 : bg < x3.heap.size := Gk13.out.lt; omega
            have hwX : w.heap.size + 1 < X := by have h0 : w.heap.size + 1 < x3.heap.size := Ek13.out.lt; omega
            have hSX : ∀ q, Value.ownBlock (.slice sa rl.length sc) = some q → X ≠ q := fun q hq => by have h0 := (Sk13.out.lt hq).2; have h1 : q < x3.heap.size := h0; omega
            have hQX : ∀ q, Value.ownBlock (.slice ga rl.length gc) = some q → X ≠ q := fun q hq => by have h0 := (Qk13.out.lt hq).2; have h1 : q < x3.heap.size := h0; omega
            have AL := (Below.refl x3.heap.size x3).alloc (Nat.le_refl _) (.cells #[.int .i64 0, .slice none 0 0] 24)
            have Bk135 := mkHid (Bk13.out.alloc Bk13.out.size (.cells #[.int .i64 0, .slice none 0 0] 24))
            have Fk135 := mkHid (Fk13.out.below AL)
            have Ek135 := mkHid (Ek13.out.below AL)
            have Wk135 := mkHid (Wk13.out.below AL)
            have Sk135 := mkHid (Sk13.out.below AL)
            have Gk135 := mkHid (Gk13.out.below AL)
            have Qk135 := mkHid (Qk13.out.below AL)
            have OAk135 := mkHid (OAk13.out.below AL)
            have OBk135 := mkHid (OBk13.out.below AL)
            have XZk135 : Hid (Fz (x3.alloc (.cells #[.int .i64 0, .slice none 0 0] 24)) X) := mkHid (by rw [← hX]; exact Fz.new _)
            rw [hX]
            obtain ⟨wa, hwa⟩ : ∃ wa, x3.alloc (.cells #[.int .i64 0, .slice none 0 0] 24) = wa := ⟨_, rfl⟩
            rw [hwa] at Bk135 Fk135 Ek135 Wk135 Sk135 Gk135 Qk135 OAk135 OBk135 XZk135
            rw [hwa]
            clear hX hwa AL Bk13 Fk13 Ek13 Wk13 Sk13 Gk13 Qk13 OAk13 OBk13
            refine hK.out _ _ ?_ (fun _ => ?_)
            · exact ⟨Fk135.out, Ek135.out⟩
            clear hK K
            try simp only [Act.put, List.setIfInBounds_toArray, List.set_cons_zero, List.set_cons_succ]
            refine wpAnyH_ready (rs := [4]) (by kernel_rfl) (by simp) ?_
            refine AllReadyH.cons (o := { dst := some 79, op := Op.call { callee := Callee.value (Operand.func 37), args := #[Operand.tmp 76, Operand.tmp 78], argTypes := #[24, 24] }, type := 24, pos := "exact.go:3277", after := #[{ on := 1, ground := Ground.data }, { on := 3, ground := Ground.data }, { on := 3, ground := Ground.chain }], guard := none }) rfl (fun K hK => ?_) ?_
            · go_simp
              refine (HI.out _ _ _ OAk135.out OBk135.out).mono ?_
              rintro e x4 ⟨ha, hcap, rfl, so, hb⟩
              have hbs : w.heap.size + 1 < wa.heap.size := Ek135.out.lt
              have hXb : X < wa.heap.size := XZk135.out.lt
              have hNX : ∀ q, Value.ownBlock (.slice ha rl.length hcap) = some q → X ≠ q := fun q hq => by have := so.lt hq; omega
              have SQ : Hid (∀ q, Value.ownBlock (.slice ha rl.length hcap) = some q → w.heap.size + 1 < q) := mkHid fun q hq => by have := so.lt hq; omega
              have Bk1354 := mkHid (below_step Bk135.out hb)
              have Fk1354 := mkHid (Fk135.out.below hb)
              have Ek1354 := mkHid (Ek135.out.below hb)
              have Wk1354 := mkHid (Wk135.out.below hb)
              have Sk1354 := mkHid (Sk135.out.below hb)
              have Gk1354 := mkHid (Gk135.out.below hb)
              have Qk1354 := mkHid (Qk135.out.below hb)
              have XZk1354 := mkHid (XZk135.out.below hb)
              have OAk1354 := mkHid (OAk135.out.below hb)
              have OBk1354 := mkHid (OBk135.out.below hb)
              clear hb Bk135 Fk135 Ek135 Wk135 Sk135 Gk135 Qk135 XZk135 OAk135 OBk135
              have SOk1354 := mkHid so
              clear so
              go_wp2_with fail
              refine hK.out _ _ ?_ (fun _ => ?_)
              · exact ⟨Fk1354.out, Ek1354.out⟩
              clear hK K
              try simp only [Act.put, List.setIfInBounds_toArray, List.set_cons_zero, List.set_cons_succ]
              refine wpAnyH_ready (rs := [6]) (by kernel_rfl) (by simp) ?_
              refine AllReadyH.cons (o := { dst := none, op := Op.store 24 (Operand.tmp 13) (Operand.tmp 79), type := 0, pos := "exact.go:3277", after := #[{ on := 5, ground := Ground.data }, { on := 4, ground := Ground.data }, { on := 4, ground := Ground.chain }, { on := 0, ground := Ground.phase }, { on := 1, ground := Ground.phase }, { on := 2, ground := Ground.phase }, { on := 3, ground := Ground.phase }, { on := 4, ground := Ground.phase }, { on := 5, ground := Ground.phase }], guard := none }) rfl (fun K hK => ?_) ?_
              · obtain ⟨⟨z0, z1⟩, z2, z3⟩ := XZk1354.out
                go_simp
                refine hK.out _ _ ?_ (fun _ => ?_)
                · exact ⟨Fk1354.out.grown (put2 _ _ _ _) (some_ne hFX), Ek1354.out.grown (put2 _ _ _ _) (some_ne hEX)⟩
                clear hK K
                try simp only [Act.put, List.setIfInBounds_toArray, List.set_cons_zero, List.set_cons_succ]
                refine wpAnyH_done (by kernel_rfl) ?_ _
                have gr := put2 x4 X (.int .i64 rz) (.slice ha rl.length hcap)
                have SO2 := SOk1354.out.grown gr (fun q hq => some_ne (hNX q hq))
                have XF := mkHid (XZk1354.out.stored rz ha rl.length hcap)
                have SOF := mkHid SO2
                have SLF : Hid (∀ q, Value.ownBlock (.slice ha rl.length hcap) = some q → _ ∧ _) := mkHid (fun q hq => ⟨SQ.out q hq, (SO2.lt hq).2⟩)
                have BF := mkHid (Bk1354.out.grown gr Bk1354.out.size (fun q hq => by have e : X = q := Option.some.inj hq; omega))
                have FF := mkHid (Fk1354.out.grown gr (some_ne hFX))
                have EF := mkHid (Ek1354.out.grown gr (some_ne hEX))
                have WF := mkHid (Wk1354.out.grown gr (some_ne hWX))
                have GF := mkHid (Gk1354.out.grown gr (some_ne hGX))
                have SF := mkHid (Sk1354.out.grown gr (fun q hq => some_ne (hSX q hq))).at
                have QF := mkHid (Qk1354.out.grown gr (fun q hq => some_ne (hQX q hq))).at
                clear SO2 gr z0 z1 z2 z3
                go_wp2_with fail
                go_meet
                case rel => exact ⟨X, ha, hcap, _, rfl, XF.out, SOF.out, SLF.out, hwX, BF.out, FF.out, EF.out, WF.out, GF.out, SF.out, QF.out⟩
              exact AllReadyH.nil
            exact AllReadyH.nil
          exact AllReadyH.nil
        refine AllReadyH.cons (o := { dst := some 13, op := Op.alloc 24, type := 0, pos := "exact.go:3277", after := #[], guard := none }) rfl (fun K hK => ?_) ?_
        · go_simp
          obtain ⟨X, hX⟩ : ∃ X, x1.heap.size = X := ⟨_, rfl⟩
          have hFX : w.heap.size ≠ X := by have h0 : w.heap.size < x1.heap.size := Fk1.out.lt; omega
          have hEX : w.heap.size + 1 ≠ X := by have h0 : w.heap.size + 1 < x1.heap.size := Ek1.out.lt; omega
          have hWX : bw ≠ X := by have h0 : bw < x1.heap.size := Wk1.out.lt; omega
          have hGX : bg ≠ X := by have h0 : bg < x1.heap.size := Gk1.out.lt; omega
          have hwX : w.heap.size + 1 < X := by have h0 : w.heap.size + 1 < x1.heap.size := Ek1.out.lt; omega
          have hSX : ∀ q, Value.ownBlock (.slice sa rl.length sc) = some q → X ≠ q := fun q hq => by have h0 := (Sk1.out.lt hq).2; have h1 : q < x1.heap.size := h0; omega
          have hQX : ∀ q, Value.ownBlock (.slice ga rl.length gc) = some q → X ≠ q := fun q hq => by have h0 := (Qk1.out.lt hq).2; have h1 : q < x1.heap.size := h0; omega
          have AL := (Below.refl x1.heap.size x1).alloc (Nat.le_refl _) (.cells #[.int .i64 0, .slice none 0 0] 24)
          have Bk15 := mkHid (Bk1.out.alloc Bk1.out.size (.cells #[.int .i64 0, .slice none 0 0] 24))
          have Fk15 := mkHid (Fk1.out.below AL)
          have Ek15 := mkHid (Ek1.out.below AL)
          have Wk15 := mkHid (Wk1.out.below AL)
          have Sk15 := mkHid (Sk1.out.below AL)
          have Gk15 := mkHid (Gk1.out.below AL)
          have Qk15 := mkHid (Qk1.out.below AL)
          have OAk15 := mkHid (OAk1.out.below AL)
          have XZk15 : Hid (Fz (x1.alloc (.cells #[.int .i64 0, .slice none 0 0] 24)) X) := mkHid (by rw [← hX]; exact Fz.new _)
          rw [hX]
          obtain ⟨wa, hwa⟩ : ∃ wa, x1.alloc (.cells #[.int .i64 0, .slice none 0 0] 24) = wa := ⟨_, rfl⟩
          rw [hwa] at Bk15 Fk15 Ek15 Wk15 Sk15 Gk15 Qk15 OAk15 XZk15
          rw [hwa]
          clear hX hwa AL Bk1 Fk1 Ek1 Wk1 Sk1 Gk1 Qk1 OAk1
          refine hK.out _ _ ?_ (fun _ => ?_)
          · exact ⟨Fk15.out, Ek15.out⟩
          clear hK K
          try simp only [Act.put, List.setIfInBounds_toArray, List.set_cons_zero, List.set_cons_succ]
          refine wpAnyH_ready (rs := [3]) (by kernel_rfl) (by simp) ?_
          refine AllReadyH.cons (o := { dst := some 78, op := Op.call { callee := Callee.value (Operand.func 24), args := #[Operand.tmp 77], argTypes := #[29] }, type := 24, pos := "exact.go:3277", after := #[{ on := 2, ground := Ground.data }, { on := 1, ground := Ground.chain }], guard := none }) rfl (fun K hK => ?_) ?_
          · go_simp
            refine (toFacts_any z' l' a' c' _ HZZ'.out (HL'.out.below Bk15.out)).mono ?_
            rintro e x3 ⟨kb, rfl, hob, hb⟩
            have Bk153 := mkHid (below_step Bk15.out hb)
            have Fk153 := mkHid (Fk15.out.below hb)
            have Ek153 := mkHid (Ek15.out.below hb)
            have Wk153 := mkHid (Wk15.out.below hb)
            have Sk153 := mkHid (Sk15.out.below hb)
            have Gk153 := mkHid (Gk15.out.below hb)
            have Qk153 := mkHid (Qk15.out.below hb)
            have XZk153 := mkHid (XZk15.out.below hb)
            have OAk153 := mkHid (OAk15.out.below hb)
            clear hb Bk15 Fk15 Ek15 Wk15 Sk15 Gk15 Qk15 XZk15 OAk15
            have OBk153 := mkHid hob.at
            clear hob
            go_wp2_with fail
            refine hK.out _ _ ?_ (fun _ => ?_)
            · exact ⟨Fk153.out, Ek153.out⟩
            clear hK K
            try simp only [Act.put, List.setIfInBounds_toArray, List.set_cons_zero, List.set_cons_succ]
            refine wpAnyH_ready (rs := [4]) (by kernel_rfl) (by simp) ?_
            refine AllReadyH.cons (o := { dst := some 79, op := Op.call { callee := Callee.value (Operand.func 37), args := #[Operand.tmp 76, Operand.tmp 78], argTypes := #[24, 24] }, type := 24, pos := "exact.go:3277", after := #[{ on := 1, ground := Ground.data }, { on := 3, ground := Ground.data }, { on := 3, ground := Ground.chain }], guard := none }) rfl (fun K hK => ?_) ?_
            · go_simp
              refine (HI.out _ _ _ OAk153.out OBk153.out).mono ?_
              rintro e x4 ⟨ha, hcap, rfl, so, hb⟩
              have hbs : w.heap.size + 1 < x3.heap.size := Ek153.out.lt
              have hXb : X < x3.heap.size := XZk153.out.lt
              have hNX : ∀ q, Value.ownBlock (.slice ha rl.length hcap) = some q → X ≠ q := fun q hq => by have := so.lt hq; omega
              have SQ : Hid (∀ q, Value.ownBlock (.slice ha rl.length hcap) = some q → w.heap.size + 1 < q) := mkHid fun q hq => by have := so.lt hq; omega
              have Bk1534 := mkHid (below_step Bk153.out hb)
              have Fk1534 := mkHid (Fk153.out.below hb)
              have Ek1534 := mkHid (Ek153.out.below hb)
              have Wk1534 := mkHid (Wk153.out.below hb)
              have Sk1534 := mkHid (Sk153.out.below hb)
              have Gk1534 := mkHid (Gk153.out.below hb)
              have Qk1534 := mkHid (Qk153.out.below hb)
              have XZk1534 := mkHid (XZk153.out.below hb)
              have OAk1534 := mkHid (OAk153.out.below hb)
              have OBk1534 := mkHid (OBk153.out.below hb)
              clear hb Bk153 Fk153 Ek153 Wk153 Sk153 Gk153 Qk153 XZk153 OAk153 OBk153
              have SOk1534 := mkHid so
              clear so
              go_wp2_with fail
              refine hK.out _ _ ?_ (fun _ => ?_)
              · exact ⟨Fk1534.out, Ek1534.out⟩
              clear hK K
              try simp only [Act.put, List.setIfInBounds_toArray, List.set_cons_zero, List.set_cons_succ]
              refine wpAnyH_ready (rs := [6]) (by kernel_rfl) (by simp) ?_
              refine AllReadyH.cons (o := { dst := none, op := Op.store 24 (Operand.tmp 13) (Operand.tmp 79), type := 0, pos := "exact.go:3277", after := #[{ on := 5, ground := Ground.data }, { on := 4, ground := Ground.data }, { on := 4, ground := Ground.chain }, { on := 0, ground := Ground.phase }, { on := 1, ground := Ground.phase }, { on := 2, ground := Ground.phase }, { on := 3, ground := Ground.phase }, { on := 4, ground := Ground.phase }, { on := 5, ground := Ground.phase }], guard := none }) rfl (fun K hK => ?_) ?_
              · obtain ⟨⟨z0, z1⟩, z2, z3⟩ := XZk1534.out
                go_simp
                refine hK.out _ _ ?_ (fun _ => ?_)
                · exact ⟨Fk1534.out.grown (put2 _ _ _ _) (some_ne hFX), Ek1534.out.grown (put2 _ _ _ _) (some_ne hEX)⟩
                clear hK K
                try simp only [Act.put, List.setIfInBounds_toArray, List.set_cons_zero, List.set_cons_succ]
                refine wpAnyH_done (by kernel_rfl) ?_ _
                have gr := put2 x4 X (.int .i64 rz) (.slice ha rl.length hcap)
                have SO2 := SOk1534.out.grown gr (fun q hq => some_ne (hNX q hq))
                have XF := mkHid (XZk1534.out.stored rz ha rl.length hcap)
                have SOF := mkHid SO2
                have SLF : Hid (∀ q, Value.ownBlock (.slice ha rl.length hcap) = some q → _ ∧ _) := mkHid (fun q hq => ⟨SQ.out q hq, (SO2.lt hq).2⟩)
                have BF := mkHid (Bk1534.out.grown gr Bk1534.out.size (fun q hq => by have e : X = q := Option.some.inj hq; omega))
                have FF := mkHid (Fk1534.out.grown gr (some_ne hFX))
                have EF := mkHid (Ek1534.out.grown gr (some_ne hEX))
                have WF := mkHid (Wk1534.out.grown gr (some_ne hWX))
                have GF := mkHid (Gk1534.out.grown gr (some_ne hGX))
                have SF := mkHid (Sk1534.out.grown gr (fun q hq => some_ne (hSX q hq))).at
                have QF := mkHid (Qk1534.out.grown gr (fun q hq => some_ne (hQX q hq))).at
                clear SO2 gr z0 z1 z2 z3
                go_wp2_with fail
                go_meet
                case rel => exact ⟨X, ha, hcap, _, rfl, XF.out, SOF.out, SLF.out, hwX, BF.out, FF.out, EF.out, WF.out, GF.out, SF.out, QF.out⟩
              exact AllReadyH.nil
            exact AllReadyH.nil
          exact AllReadyH.nil
        exact AllReadyH.nil
      refine AllReadyH.cons (o := { dst := some 13, op := Op.alloc 24, type := 0, pos := "exact.go:3277", after := #[], guard := none }) rfl (fun K hK => ?_) ?_
      · go_simp
        obtain ⟨X, hX⟩ : ∃ X, wq.heap.size = X := ⟨_, rfl⟩
        have hFX : w.heap.size ≠ X := by have h0 : w.heap.size < wq.heap.size := Fs.out.lt; omega
        have hEX : w.heap.size + 1 ≠ X := by have h0 : w.heap.size + 1 < wq.heap.size := Es.out.lt; omega
        have hWX : bw ≠ X := by have h0 : bw < wq.heap.size := Ws.out.lt; omega
        have hGX : bg ≠ X := by have h0 : bg < wq.heap.size := Gs.out.lt; omega
        have hwX : w.heap.size + 1 < X := by have h0 : w.heap.size + 1 < wq.heap.size := Es.out.lt; omega
        have hSX : ∀ q, Value.ownBlock (.slice sa rl.length sc) = some q → X ≠ q := fun q hq => by have h0 := (Ss.out.lt hq).2; have h1 : q < wq.heap.size := h0; omega
        have hQX : ∀ q, Value.ownBlock (.slice ga rl.length gc) = some q → X ≠ q := fun q hq => by have h0 := (Qs.out.lt hq).2; have h1 : q < wq.heap.size := h0; omega
        have AL := (Below.refl wq.drew.heap.size wq.drew).alloc (Nat.le_refl _) (.cells #[.int .i64 0, .slice none 0 0] 24)
        have Bk5 := mkHid (Bs.out.alloc Bs.out.size (.cells #[.int .i64 0, .slice none 0 0] 24))
        have Fk5 := mkHid (Fs.out.below AL)
        have Ek5 := mkHid (Es.out.below AL)
        have Wk5 := mkHid (Ws.out.below AL)
        have Sk5 := mkHid (Ss.out.below AL)
        have Gk5 := mkHid (Gs.out.below AL)
        have Qk5 := mkHid (Qs.out.below AL)
        have XZk5 : Hid (Fz (wq.drew.alloc (.cells #[.int .i64 0, .slice none 0 0] 24)) X) := mkHid (by rw [← hX]; exact Fz.new _)
        rw [hX]
        obtain ⟨wa, hwa⟩ : ∃ wa, (wq.alloc (.cells #[.int .i64 0, .slice none 0 0] 24)).drew = wa := ⟨_, rfl⟩
        have hcm : wq.drew.alloc (.cells #[.int .i64 0, .slice none 0 0] 24) = wa := hwa
        rw [hcm] at Bk5 Fk5 Ek5 Wk5 Sk5 Gk5 Qk5 XZk5
        rw [hwa]
        clear hcm
        clear hX hwa AL Bs Fs Es Ws Ss Gs Qs
        refine hK.out _ _ ?_ (fun _ => ?_)
        · exact ⟨Fk5.out, Ek5.out⟩
        clear hK K
        try simp only [Act.put, List.setIfInBounds_toArray, List.set_cons_zero, List.set_cons_succ]
        refine wpAnyH_ready (rs := [1]) (by kernel_rfl) (by simp) ?_
        refine AllReadyH.cons (o := { dst := some 76, op := Op.call { callee := Callee.value (Operand.func 24), args := #[Operand.tmp 75], argTypes := #[29] }, type := 24, pos := "exact.go:3277", after := #[{ on := 0, ground := Ground.data }], guard := none }) rfl (fun K hK => ?_) ?_
        · go_simp
          refine (toFacts_any z l a c _ HZZ.out (HL.out.below Bk5.out)).mono ?_
          rintro e x1 ⟨ka, rfl, hoa, hb⟩
          have Bk51 := mkHid (below_step Bk5.out hb)
          have Fk51 := mkHid (Fk5.out.below hb)
          have Ek51 := mkHid (Ek5.out.below hb)
          have Wk51 := mkHid (Wk5.out.below hb)
          have Sk51 := mkHid (Sk5.out.below hb)
          have Gk51 := mkHid (Gk5.out.below hb)
          have Qk51 := mkHid (Qk5.out.below hb)
          have XZk51 := mkHid (XZk5.out.below hb)
          clear hb Bk5 Fk5 Ek5 Wk5 Sk5 Gk5 Qk5 XZk5
          have OAk51 := mkHid hoa.at
          clear hoa
          go_wp2_with fail
          refine hK.out _ _ ?_ (fun _ => ?_)
          · exact ⟨Fk51.out, Ek51.out⟩
          clear hK K
          try simp only [Act.put, List.setIfInBounds_toArray, List.set_cons_zero, List.set_cons_succ]
          refine wpAnyH_ready (rs := [3]) (by kernel_rfl) (by simp) ?_
          refine AllReadyH.cons (o := { dst := some 78, op := Op.call { callee := Callee.value (Operand.func 24), args := #[Operand.tmp 77], argTypes := #[29] }, type := 24, pos := "exact.go:3277", after := #[{ on := 2, ground := Ground.data }, { on := 1, ground := Ground.chain }], guard := none }) rfl (fun K hK => ?_) ?_
          · go_simp
            refine (toFacts_any z' l' a' c' _ HZZ'.out (HL'.out.below Bk51.out)).mono ?_
            rintro e x3 ⟨kb, rfl, hob, hb⟩
            have Bk513 := mkHid (below_step Bk51.out hb)
            have Fk513 := mkHid (Fk51.out.below hb)
            have Ek513 := mkHid (Ek51.out.below hb)
            have Wk513 := mkHid (Wk51.out.below hb)
            have Sk513 := mkHid (Sk51.out.below hb)
            have Gk513 := mkHid (Gk51.out.below hb)
            have Qk513 := mkHid (Qk51.out.below hb)
            have XZk513 := mkHid (XZk51.out.below hb)
            have OAk513 := mkHid (OAk51.out.below hb)
            clear hb Bk51 Fk51 Ek51 Wk51 Sk51 Gk51 Qk51 XZk51 OAk51
            have OBk513 := mkHid hob.at
            clear hob
            go_wp2_with fail
            refine hK.out _ _ ?_ (fun _ => ?_)
            · exact ⟨Fk513.out, Ek513.out⟩
            clear hK K
            try simp only [Act.put, List.setIfInBounds_toArray, List.set_cons_zero, List.set_cons_succ]
            refine wpAnyH_ready (rs := [4]) (by kernel_rfl) (by simp) ?_
            refine AllReadyH.cons (o := { dst := some 79, op := Op.call { callee := Callee.value (Operand.func 37), args := #[Operand.tmp 76, Operand.tmp 78], argTypes := #[24, 24] }, type := 24, pos := "exact.go:3277", after := #[{ on := 1, ground := Ground.data }, { on := 3, ground := Ground.data }, { on := 3, ground := Ground.chain }], guard := none }) rfl (fun K hK => ?_) ?_
            · go_simp
              refine (HI.out _ _ _ OAk513.out OBk513.out).mono ?_
              rintro e x4 ⟨ha, hcap, rfl, so, hb⟩
              have hbs : w.heap.size + 1 < x3.heap.size := Ek513.out.lt
              have hXb : X < x3.heap.size := XZk513.out.lt
              have hNX : ∀ q, Value.ownBlock (.slice ha rl.length hcap) = some q → X ≠ q := fun q hq => by have := so.lt hq; omega
              have SQ : Hid (∀ q, Value.ownBlock (.slice ha rl.length hcap) = some q → w.heap.size + 1 < q) := mkHid fun q hq => by have := so.lt hq; omega
              have Bk5134 := mkHid (below_step Bk513.out hb)
              have Fk5134 := mkHid (Fk513.out.below hb)
              have Ek5134 := mkHid (Ek513.out.below hb)
              have Wk5134 := mkHid (Wk513.out.below hb)
              have Sk5134 := mkHid (Sk513.out.below hb)
              have Gk5134 := mkHid (Gk513.out.below hb)
              have Qk5134 := mkHid (Qk513.out.below hb)
              have XZk5134 := mkHid (XZk513.out.below hb)
              have OAk5134 := mkHid (OAk513.out.below hb)
              have OBk5134 := mkHid (OBk513.out.below hb)
              clear hb Bk513 Fk513 Ek513 Wk513 Sk513 Gk513 Qk513 XZk513 OAk513 OBk513
              have SOk5134 := mkHid so
              clear so
              go_wp2_with fail
              refine hK.out _ _ ?_ (fun _ => ?_)
              · exact ⟨Fk5134.out, Ek5134.out⟩
              clear hK K
              try simp only [Act.put, List.setIfInBounds_toArray, List.set_cons_zero, List.set_cons_succ]
              refine wpAnyH_ready (rs := [6]) (by kernel_rfl) (by simp) ?_
              refine AllReadyH.cons (o := { dst := none, op := Op.store 24 (Operand.tmp 13) (Operand.tmp 79), type := 0, pos := "exact.go:3277", after := #[{ on := 5, ground := Ground.data }, { on := 4, ground := Ground.data }, { on := 4, ground := Ground.chain }, { on := 0, ground := Ground.phase }, { on := 1, ground := Ground.phase }, { on := 2, ground := Ground.phase }, { on := 3, ground := Ground.phase }, { on := 4, ground := Ground.phase }, { on := 5, ground := Ground.phase }], guard := none }) rfl (fun K hK => ?_) ?_
              · obtain ⟨⟨z0, z1⟩, z2, z3⟩ := XZk5134.out
                go_simp
                refine hK.out _ _ ?_ (fun _ => ?_)
                · exact ⟨Fk5134.out.grown (put2 _ _ _ _) (some_ne hFX), Ek5134.out.grown (put2 _ _ _ _) (some_ne hEX)⟩
                clear hK K
                try simp only [Act.put, List.setIfInBounds_toArray, List.set_cons_zero, List.set_cons_succ]
                refine wpAnyH_done (by kernel_rfl) ?_ _
                have gr := put2 x4 X (.int .i64 rz) (.slice ha rl.length hcap)
                have SO2 := SOk5134.out.grown gr (fun q hq => some_ne (hNX q hq))
                have XF := mkHid (XZk5134.out.stored rz ha rl.length hcap)
                have SOF := mkHid SO2
                have SLF : Hid (∀ q, Value.ownBlock (.slice ha rl.length hcap) = some q → _ ∧ _) := mkHid (fun q hq => ⟨SQ.out q hq, (SO2.lt hq).2⟩)
                have BF := mkHid (Bk5134.out.grown gr Bk5134.out.size (fun q hq => by have e : X = q := Option.some.inj hq; omega))
                have FF := mkHid (Fk5134.out.grown gr (some_ne hFX))
                have EF := mkHid (Ek5134.out.grown gr (some_ne hEX))
                have WF := mkHid (Wk5134.out.grown gr (some_ne hWX))
                have GF := mkHid (Gk5134.out.grown gr (some_ne hGX))
                have SF := mkHid (Sk5134.out.grown gr (fun q hq => some_ne (hSX q hq))).at
                have QF := mkHid (Qk5134.out.grown gr (fun q hq => some_ne (hQX q hq))).at
                clear SO2 gr z0 z1 z2 z3
                go_wp2_with fail
                go_meet
                case rel => exact ⟨X, ha, hcap, _, rfl, XF.out, SOF.out, SLF.out, hwX, BF.out, FF.out, EF.out, WF.out, GF.out, SF.out, QF.out⟩
              exact AllReadyH.nil
            exact AllReadyH.nil
          exact AllReadyH.nil
        exact AllReadyH.nil
      exact AllReadyH.nil
    case rest =>
      obtain ⟨bh, ha, hcap, bs2, rfl, hH, hY, -, -, hB, -, -, hW, hG, hS, hQ⟩ := hcut
      have HZ0 := mkHid hH
      have YZ := mkHid hY
      have BZ := mkHid hB
      have WZ := mkHid hW
      have GZ := mkHid hG
      have SZ := mkHid hS
      have QZ := mkHid hQ
      clear hH hY hB hW hG hS hQ
      obtain ⟨h0, h1⟩ := HZ0.out
      obtain ⟨v0, v1⟩ := WZ.out
      go_wp2_with fail
      refine (eqFacts_ok rz rl ha sa hcap sc _ HM.out YZ.out.at SZ.out).mono ?_
      rintro e wr ⟨rfl, hb⟩
      have BY := mkHid (below_step BZ.out hb)
      have GY := mkHid (GZ.out.below hb)
      have QY := mkHid (QZ.out.below hb)
      clear hb h0 h1 v0 v1 BZ WZ SZ GZ QZ HZ0 YZ
      obtain ⟨g0, g1⟩ := GY.out
      go_wp2_with fail
      refine (heldFacts_ok rz rl.length ga gc 1 _ (by have := HLE.out; omega) (by omega) (by omega) QY.out).mono ?_
      rintro e ws ⟨rfl, hb⟩
      have BX := mkHid (below_step BY.out hb)
      clear hb g0 g1
      go_wp2
      go_ret
      exact ⟨rfl, BX.out⟩

set_option maxRecDepth 100000 in
theorem law_lifted (os : Os) (started : os.Started) (H : Type) (enc : TypeId × Value → H) :
    ReturnsInHanded {} Try.checked os 9 .any (Rows.fnExactFactsMeetSpec.pre6 enc Try.prog Try.f9 Rows.fnExactFactsMeetRow.domain false) (Rows.fnExactFactsMeetSpec.post enc Try.prog Try.f9 false true false false) := by
  refine returnsInHanded_of_change (C := Try.checked) Try.own started (by kernel_rfl) Try.func9
    (ChangeSpec.witness6 (enc := enc) (C := Try.checked) false ⟨#[], #[.agg #[.int .i64 0, .slice none 0 0], .agg #[.int .i64 0, .slice none 0 0]], []⟩ 8 (by kernel_rfl) (by kernel_rfl) (by kernel_rfl) (by kernel_rfl)) ?_
  intro W base args ds gs before hval0 hW hcnd _
  have hval : ∀ (j : Nat) t v, Try.f9.params[j]? = some t → args[j]? = some v → Value.okWide Try.prog W .any base t v := hval0
  have hW' := hW
  obtain ⟨p, q, hA0, hV, rfl, hfz, hnd⟩ := hW
  have hA : DataW.TrodAll enc Try.prog W 0 (fun _ => true) true Try.f9.params.toList args.toList ds p := hA0
  rw [Try.params9] at hA hval
  obtain ⟨v0, vs0, d0, ds0, p0, q0, hargs, rfl, rfl, h0, r0⟩ := trodAll_cons hA
  obtain ⟨v1, vs1, d1, ds1, p1, q1, rfl, rfl, rfl, h1, r1⟩ := trodAll_cons r0
  obtain ⟨rfl, rfl, rfl⟩ := trodAll_nil r1
  obtain rfl : args = #[v0, v1] := by cases args; simp_all
  obtain ⟨rfl, rfl⟩ := trodVars_none hV
  have k0 := h0
  have lt0 : ∀ x ∈ p0, x.block < W.heap.size := by obtain ⟨m, hm⟩ := k0; exact DataW.trod_lt m _ _ _ hm
  have k1 := h1
  have lt1 : ∀ x ∈ p1, x.block < W.heap.size := by obtain ⟨m, hm⟩ := k1; exact DataW.trod_lt m _ _ _ hm
  obtain ⟨u00, u01, y00, y01, m0, hv0, _, _, hy00, hy01⟩ := open_agg2 Try.underlying29 (by kernel_rfl) Try.cells29 (hval 0 29 v0 rfl rfl) h0
  obtain ⟨z0, e00, _, _⟩ := DataW.trod_int Try.underlying3 hy00
  obtain ⟨a0, c0, l0, e01, hn0, hk0⟩ := open_intsv hy01
  simp at e00
  subst e00 e01 hv0
  obtain ⟨u10, u11, y10, y11, m1, hv1, _, _, hy10, hy11⟩ := open_agg2 Try.underlying29 (by kernel_rfl) Try.cells29 (hval 1 29 v1 rfl rfl) h1
  obtain ⟨z1, e10, _, _⟩ := DataW.trod_int Try.underlying3 hy10
  obtain ⟨a1, c1, l1, e11, hn1, hk1⟩ := open_intsv hy11
  simp at e10
  subst e10 e11 hv1
  clear hA0 hval0
  refine (law_walk z0 l0 a0 c0 z1 l1 a1 c1 W hn0 hk0 hn1 hk1).mono fun e W' ⟨he, bel⟩ => ?_
  subst he
  exact ⟨_, rfl, _, _, _, [], _, [], hW', trodAll_mk1 (shut_bool Try.underlying4 _), (trodAll_cons_mk (Below.trod Try.laidOut (by kernel_rfl) (of_decide_eq_true (by kernel_rfl)) k0 bel lt0) (trodAll_cons_mk (Below.trod Try.laidOut (by kernel_rfl) (of_decide_eq_true (by kernel_rfl)) k1 bel lt1) trodAll_mk0)), rfl, bel.frame _, fun h => by cases h⟩

theorem law_holds : Rows.FnExactFactsMeetSaid :=
  OpenClaim.holds_of_wide 9 Try.f9 rfl rfl rfl rfl rfl rfl rfl ⟨rfl, rfl, rfl, rfl, rfl⟩ rfl rfl rfl rfl rfl (by kernel_rfl) Try.func9 (by kernel_rfl)
    (of_decide_eq_true (by kernel_rfl)) (by unfold Func.isWrapper; first | (rw [if_pos (by decide +kernel)]; kernel_rfl) | (rw [if_neg (by decide +kernel)]; exact ⟨rfl, rfl⟩))
    (fun os started H enc _ => law_lifted os started H enc)

#print axioms law_holds
end Go.Proofs.Ythhajdjpglpkoaa
