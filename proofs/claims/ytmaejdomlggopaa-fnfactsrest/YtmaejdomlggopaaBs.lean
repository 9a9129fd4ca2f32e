/-
  CONTRACT of the specification's FactsBound.
-/
import Derived.Test.YtmaejdomlggopaaBi
import Derived.Test.YtmaejdomlggopaaAt
namespace Go.Proofs.Ytmaejdomlggopaa
open Go.RowKit

theorem sAddlD (n : Nat) (o : Option Tab) (ho : GoodO n o) (a : Option Addr) (c0 i j : Nat) (hi : ∀ f, o = some f → i < n ∧ j < n) (c : Int) (w : World) (hA : IntsAt w a (outL o n)) : Calls Try.prog 70 #[.agg #[.int .i64 (outZ o n), .slice a (outL o n).length c0], .int .i64 i, .int .i64 j, .int .i64 c] w fun e w' => Gives w w' e (outZ (addO n i j c o) n) (outL (addO n i j c o) n) := by
  cases o with
  | none => exact sAddl_none a c0 i j c w
  | some f =>
    obtain ⟨h1, h2, h3⟩ := ho f rfl
    obtain ⟨h4, h5⟩ := hi f rfl
    exact sAddl_some n f h1 h2 h3 a c0 i j h4 h5 c w hA
set_option maxRecDepth 100000 in
set_option maxHeartbeats 1600000 in
theorem sBound_any (z : Int) (l : List Int) (a : Option Addr) (c0 : Nat) (i lo hi : Int) (w : World) (hl : IntsAt w a l) : Calls Try.prog 27 #[.agg #[.int .i64 z, .slice a l.length c0], .int .i64 i, .agg #[.int .i64 lo, .int .i64 hi]] w fun e w' => Gives w w' e (outZ (bndF z l i lo hi) z.toNat) (outL (bndF z l i lo hi) z.toNat) := by
  have HL := mkHid hl
  have B0 := mkHid ((((Below.refl w.heap.size w).alloc (Nat.le_refl _) (.cells #[.int .i64 z, .slice a l.length c0] 27)).alloc (by simp) (.cells #[.int .i64 lo, .int .i64 hi] 40)).alloc (by simp; omega) (.cells #[.int .i64 0, .slice none 0 0] 27))
  have T0 : Hid (Fc (((w.alloc (.cells #[.int .i64 z, .slice a l.length c0] 27)).alloc (.cells #[.int .i64 lo, .int .i64 hi] 40)).alloc (.cells #[.int .i64 0, .slice none 0 0] 27)) w.heap.size z a l.length c0) := mkHid (((Fc.new w z a l.length c0 27).alloc _).alloc _)
  have Z0 : Hid (Fz (((w.alloc (.cells #[.int .i64 z, .slice a l.length c0] 27)).alloc (.cells #[.int .i64 lo, .int .i64 hi] 40)).alloc (.cells #[.int .i64 0, .slice none 0 0] 27)) (w.heap.size + 2)) := mkHid (by have := Fz.new ((w.alloc (.cells #[.int .i64 z, .slice a l.length c0] 27)).alloc (.cells #[.int .i64 lo, .int .i64 hi] 40)); simpa using this)
  have R0 : Hid (Box (((w.alloc (.cells #[.int .i64 z, .slice a l.length c0] 27)).alloc (.cells #[.int .i64 lo, .int .i64 hi] 40)).alloc (.cells #[.int .i64 0, .slice none 0 0] 27)) (w.heap.size + 1) lo hi) := mkHid (by have := (Box.new' (w.alloc (.cells #[.int .i64 z, .slice a l.length c0] 27)) lo hi 40).below ((Below.refl _ _).alloc (Nat.le_refl _) (.cells #[.int .i64 0, .slice none 0 0] 27)); simpa using this)
  cases hok : okF z l
  · have e1 : Hid (bndF z l i lo hi = none) := mkHid (by
      unfold bndF
      rw [okO_no hok]
      split <;> rfl)
    have HOK := mkHid hok
    clear hok hl
    go_enter Try.func27, Try.ntmps27
    go_wp2_with fail
    refine (sOkF_any z l a c0 _ (HL.out.below B0.out)).mono ?_
    rintro e w1 ⟨rfl, hb1⟩
    rw [HOK.out]
    have B1 := mkHid (below_step B0.out hb1)
    have Z1 := mkHid (Z0.out.below hb1)
    obtain ⟨⟨z0, z1⟩, z2, z3⟩ := Z1.out
    clear hb1
    go_wp2
    refine bodyPost_ret (v := .agg #[.int .i64 0, .slice none 0 0]) (by simp [results, Try.results27, go_sem, z0, z1]) rfl ?_
    rw [e1.out]
    exact ⟨none, 0, rfl, OwnI.nil _ _, none_shut B1.out (by omega) _ _⟩
  · obtain ⟨n, hn, h1, h2, hll, hmk, hfine⟩ := ok_of hok
    subst hn
    have hto : ((n : Int)).toNat = n := Int.toNat_natCast n
    have HO : Hid (outZ (okO n l) ((n : Int)).toNat = n) := mkHid (by rw [okO_yes hok, hto]; rfl)
    have HOK1 : okO n l = some (tab n l) := by rw [okO_yes hok, hto]
    have HA1 : Hid (∀ (v : World), bndB i lo hi n = true → IntsAt v a l → Calls Try.prog 70 #[.agg #[.int .i64 n, .slice a l.length c0], .int .i64 i, .int .i64 0, .int .i64 hi] v fun e w' => Gives v w' e (outZ (addO n i.toNat 0 hi (okO n l)) n) (outL (addO n i.toNat 0 hi (okO n l)) n)) := mkHid fun v h0 hv => by
      obtain ⟨⟨i', rfl, hi'⟩, _⟩ := bnd_nat (o := some (tab n l)) (n := n) h0
      rw [HOK1]
      have := sAddl_some n (tab n l) h1 h2 hfine.bd a c0 i' 0 hi' (by omega) hi v (by rw [← hmk]; exact hv)
      rw [← hmk] at this
      simpa using this
    have HA2 : Hid (∀ (a : Option Addr) (c1 : Nat) (v : World), bndB i lo hi n = true → IntsAt v a (outL (addO n i.toNat 0 hi (okO n l)) n) → Calls Try.prog 70 #[.agg #[.int .i64 (outZ (addO n i.toNat 0 hi (okO n l)) n), .slice a (outL (addO n i.toNat 0 hi (okO n l)) n).length c1], .int .i64 0, .int .i64 i, .int .i64 (-lo)] v fun e w' => Gives v w' e (outZ (bndF n l i lo hi) n) (outL (bndF n l i lo hi) n)) := mkHid fun a c1 v h0 hv => by
      have hf : bndF n l i lo hi = addO n 0 i.toNat (-lo) (addO n i.toNat 0 hi (okO n l)) := by unfold bndF; rw [HO.out, h0, hto]; rfl
      rw [hf]
      obtain ⟨⟨i', rfl, hi'⟩, _⟩ := bnd_nat (o := some (tab n l)) (n := n) h0
      have hff := okO_fine n l
      rw [hto] at hff
      simp only [Int.toNat_natCast] at hv ⊢
      exact sAddlD n (addO n i' 0 hi (okO n l)) (addO_good hff (fun f _ => ⟨hi', by omega⟩) hi).good a c1 0 i' (fun _ _ => ⟨by omega, hi'⟩) (-lo) v hv
    have HWC : Hid (bndB i lo hi n = true → IntKind.i64.wrap (-lo) = -lo) := mkHid fun h0 => by
      obtain ⟨_, h3, h4, h5⟩ := bnd_nat (o := some (tab n l)) (n := n) h0
      exact IntWalk.i64_in _ (by omega)
    have HNO : Hid (bndB i lo hi n = false → bndF n l i lo hi = none) := mkHid fun h => by unfold bndF; rw [HO.out, h]; rfl
    rw [hto]
    obtain ⟨R, hR⟩ : ∃ R, bndF n l i lo hi = R := ⟨_, rfl⟩
    rw [hR] at HA2 HNO
    rw [hR]
    obtain ⟨R1, hR1⟩ : ∃ R, addO n i.toNat 0 hi (okO n l) = R := ⟨_, rfl⟩
    rw [hR1] at HA1 HA2
    obtain ⟨k, hk⟩ : ∃ k : Int, (n : Int) - 1 = k := ⟨_, rfl⟩
    have hwk : IntKind.i64.wrap ((n : Int) - 1) = k := by rw [← hk]; exact IntWalk.i64_in _ (by omega)
    have hbi := btw_sym i hk
    have HOK := mkHid hok
    have hbo : Hid (bothB lo hi lo hi = someB lo hi) := mkHid (by unfold bothB; rw [Bool.and_self])
    clear hok hl hfine hll hmk HO hR hR1 hk hto HOK1
    go_enter Try.func27, Try.ntmps27
    go_wp2_with fail
    refine (sOkF_any n l a c0 _ (HL.out.below B0.out)).mono ?_
    rintro e w1 ⟨rfl, hb1⟩
    rw [HOK.out]
    have B1 := mkHid (below_step B0.out hb1)
    have Z1 := mkHid (Z0.out.below hb1)
    have T1 := mkHid (T0.out.below hb1)
    have R1' := mkHid (R0.out.below hb1)
    obtain ⟨t0, t1⟩ := T1.out
    obtain ⟨r0, r1, r2, r3⟩ := R1'.out
    clear hb1 B0 Z0 T0 R0
    cases hi' : symB i n
    · have e1 : Hid (R = none) := mkHid (HNO.out (by unfold bndB; rw [hi']; rfl))
      obtain ⟨⟨z0, z1⟩, z2, z3⟩ := Z1.out
      rw [hi'] at hbi
      go_wp2_with (first | (go_at_call 68; refine (between_any _ _ _ _).mono ?_; rintro e w' ⟨rfl, rfl⟩))
      refine bodyPost_ret (v := .agg #[.int .i64 0, .slice none 0 0]) (by simp [results, Try.results27, go_sem, z0, z1]) rfl ?_
      rw [e1.out]
      exact ⟨none, 0, rfl, OwnI.nil _ _, none_shut B1.out (by omega) _ _⟩
    · rw [hi'] at hbi
      go_wp2_with (first | (go_at_call 68; refine (between_any _ _ _ _).mono ?_; rintro e w' ⟨rfl, rfl⟩))
      refine (sBoth_any lo hi lo hi _).mono ?_
      rintro e w4 ⟨rfl, hb4⟩
      rw [hbo.out]
      have B4 := mkHid (below_step B1.out hb4)
      have Z4 := mkHid (Z1.out.below hb4)
      have T4 := mkHid (T1.out.below hb4)
      have R4 := mkHid (R1'.out.below hb4)
      clear hb4 B1 Z1 T1 R1' t0 t1 r0 r1 r2 r3
      cases hs : someB lo hi
      · have e1 : Hid (R = none) := mkHid (HNO.out (by unfold bndB; rw [hi', hs]; rfl))
        obtain ⟨⟨z0, z1⟩, z2, z3⟩ := Z4.out
        go_wp2
        refine bodyPost_ret (v := .agg #[.int .i64 0, .slice none 0 0]) (by simp [results, Try.results27, go_sem, z0, z1]) rfl ?_
        rw [e1.out]
        exact ⟨none, 0, rfl, OwnI.nil _ _, none_shut B4.out (by omega) _ _⟩
      · have hcp : bndB i lo hi n = true := by unfold bndB; rw [hi', hs]; rfl
        have HA12 := mkHid (fun v => HA1.out v hcp)
        have HA22 := mkHid (fun a c1 v => HA2.out a c1 v hcp)
        have hwc := HWC.out hcp
        clear hcp hi' hs HA1 HA2 HWC
        go_wp2_with fail
        have Bs := mkHid B4.out.drew
        have Zs := mkHid (Z4.out.below (Below.refl _ _).drew)
        have Ts := mkHid (T4.out.below (Below.refl _ _).drew)
        have Rs := mkHid (R4.out.below (Below.refl _ _).drew)
        refine wp_region_held_drew (S := (fun v => Fc v w.heap.size n a l.length c0 ∧ Box v (w.heap.size + 1) lo hi)) (by kernel_rfl) ⟨Ts.out, Rs.out⟩ (fun _ => ?_)
        refine wpAnyH_take (i := 0) (oi := { dst := some 25, op := Op.load 27 (Operand.tmp 3), type := 27, pos := "l07_facts.go:277", after := #[], guard := none }) (v := ?vb1) rfl (by kernel_rfl) (by kernel_rfl) (by kernel_rfl) (fun _ _ _ h => h) (Or.inl ⟨by rfl, ?hyb1⟩) (by assumption) ?restb1
        case hyb1 => (intro w' hSw; obtain ⟨⟨p0, p1⟩, q0, q1, q2, q3⟩ := hSw; go_simp; try with_reducible rfl)
        try simp only [Act.put, List.setIfInBounds_toArray, List.set_cons_zero, List.set_cons_succ]
        refine wpAnyH_take (i := 1) (oi := { dst := some 26, op := Op.move (Operand.tmp 1), type := 3, pos := "l07_facts.go:277", after := #[], guard := none }) (v := ?vb2) rfl (by kernel_rfl) (by kernel_rfl) (by kernel_rfl) (fun _ _ _ h => h) (Or.inl ⟨by rfl, ?hyb2⟩) (by assumption) ?restb2
        case hyb2 => (intro w' hSw; (try dsimp only at hSw); go_simp; try with_reducible rfl)
        try simp only [Act.put, List.setIfInBounds_toArray, List.set_cons_zero, List.set_cons_succ]
        refine wpAnyH_take (i := 2) (oi := { dst := some 27, op := Op.fieldAddr 40 (Operand.tmp 5) 1, type := 0, pos := "l07_facts.go:277", after := #[], guard := none }) (v := ?vb3) rfl (by kernel_rfl) (by kernel_rfl) (by kernel_rfl) (fun _ _ _ h => h) (Or.inl ⟨by rfl, ?hyb3⟩) (by assumption) ?restb3
        case hyb3 => (intro w' hSw; (try dsimp only at hSw); go_simp; try with_reducible rfl)
        try simp only [Act.put, List.setIfInBounds_toArray, List.set_cons_zero, List.set_cons_succ]
        refine wpAnyH_take (i := 3) (oi := { dst := some 28, op := Op.load 3 (Operand.tmp 27), type := 3, pos := "l07_facts.go:277", after := #[{ on := 2, ground := Ground.data }], guard := none }) (v := ?vb4) rfl (by kernel_rfl) (by kernel_rfl) (by kernel_rfl) (fun _ _ _ h => h) (Or.inl ⟨by rfl, ?hyb4⟩) (by assumption) ?restb4
        case hyb4 => (intro w' hSw; obtain ⟨⟨p0, p1⟩, q0, q1, q2, q3⟩ := hSw; go_simp; try with_reducible rfl)
        try simp only [Act.put, List.setIfInBounds_toArray, List.set_cons_zero, List.set_cons_succ]
        refine wpAnyH_take (i := 5) (oi := { dst := some 30, op := Op.move (Operand.tmp 1), type := 3, pos := "l07_facts.go:277", after := #[], guard := none }) (v := ?vb5) rfl (by kernel_rfl) (by kernel_rfl) (by kernel_rfl) (fun _ _ _ h => h) (Or.inl ⟨by rfl, ?hyb5⟩) (by assumption) ?restb5
        case hyb5 => (intro w' hSw; (try dsimp only at hSw); go_simp; try with_reducible rfl)
        try simp only [Act.put, List.setIfInBounds_toArray, List.set_cons_zero, List.set_cons_succ]
        refine wpAnyH_take (i := 6) (oi := { dst := some 31, op := Op.fieldAddr 40 (Operand.tmp 5) 0, type := 0, pos := "l07_facts.go:277", after := #[], guard := none }) (v := ?vb6) rfl (by kernel_rfl) (by kernel_rfl) (by kernel_rfl) (fun _ _ _ h => h) (Or.inl ⟨by rfl, ?hyb6⟩) (by assumption) ?restb6
        case hyb6 => (intro w' hSw; (try dsimp only at hSw); go_simp; try with_reducible rfl)
        try simp only [Act.put, List.setIfInBounds_toArray, List.set_cons_zero, List.set_cons_succ]
        refine wpAnyH_take (i := 7) (oi := { dst := some 32, op := Op.load 3 (Operand.tmp 31), type := 3, pos := "l07_facts.go:277", after := #[{ on := 6, ground := Ground.data }], guard := none }) (v := ?vb7) rfl (by kernel_rfl) (by kernel_rfl) (by kernel_rfl) (fun _ _ _ h => h) (Or.inl ⟨by rfl, ?hyb7⟩) (by assumption) ?restb7
        case hyb7 => (intro w' hSw; obtain ⟨⟨p0, p1⟩, q0, q1, q2, q3⟩ := hSw; go_simp; try with_reducible rfl)
        try simp only [Act.put, List.setIfInBounds_toArray, List.set_cons_zero, List.set_cons_succ]
        refine wpAnyH_take (i := 8) (oi := { dst := some 33, op := Op.unOp UnOp.neg 3 (Operand.tmp 32), type := 3, pos := "l07_facts.go:277", after := #[{ on := 7, ground := Ground.data }], guard := none }) (v := ?vb8) rfl (by kernel_rfl) (by kernel_rfl) (by kernel_rfl) (fun _ _ _ h => h) (Or.inl ⟨by rfl, ?hyb8⟩) (by assumption) ?restb8
        case hyb8 => (intro w' hSw; (try dsimp only at hSw); go_simp; try with_reducible rfl)
        try simp only [Act.put, List.setIfInBounds_toArray, List.set_cons_zero, List.set_cons_succ]
        refine wpAnyH_ready (rs := [4]) (by kernel_rfl) (by simp) ?_
        refine AllReadyH.cons (o := { dst := some 29, op := Op.call { callee := Callee.value (Operand.func 70), args := #[Operand.tmp 25, Operand.tmp 26, Operand.const (Value.int IntKind.i64 0), Operand.tmp 28], argTypes := #[27, 3, 3, 3] }, type := 27, pos := "l07_facts.go:277", after := #[{ on := 0, ground := Ground.data }, { on := 1, ground := Ground.data }, { on := 3, ground := Ground.data }], guard := none }) rfl (fun K hK => ?_) ?_
        · go_simp
          refine (HA12.out _ (HL.out.below Bs.out)).mono ?_
          rintro e w5 ⟨ta, tc, rfl, to, hb⟩
          have B5 := mkHid (below_step Bs.out hb)
          have Z5 := mkHid (Zs.out.below hb)
          have T5 := mkHid (Ts.out.below hb)
          have R5 := mkHid (Rs.out.below hb)
          have O5 := mkHid to.at
          clear hb to
          go_wp2_with fail
          refine hK.out _ _ ?_ (fun _ => ?_)
          · exact ⟨T5.out, R5.out⟩
          clear hK K
          try simp only [Act.put, List.setIfInBounds_toArray, List.set_cons_zero, List.set_cons_succ]
          refine wpAnyH_ready (rs := [9]) (by kernel_rfl) (by simp) ?_
          refine AllReadyH.cons (o := { dst := some 34, op := Op.call { callee := Callee.value (Operand.func 70), args := #[Operand.tmp 29, Operand.const (Value.int IntKind.i64 0), Operand.tmp 30, Operand.tmp 33], argTypes := #[27, 3, 3, 3] }, type := 27, pos := "l07_facts.go:277", after := #[{ on := 4, ground := Ground.data }, { on := 5, ground := Ground.data }, { on := 8, ground := Ground.data }, { on := 4, ground := Ground.chain }], guard := none }) rfl (fun K hK => ?_) ?_
          · go_simp
            refine (HA22.out ta tc _ O5.out).mono ?_
            rintro e w7 ⟨ao, cap, rfl, ho, hb7⟩
            have TF := mkHid (T5.out.below hb7)
            have RF := mkHid (R5.out.below hb7)
            have s6 := Z5.out.lt
            obtain ⟨⟨z0, z1⟩, z2, z3⟩ := Z5.out.below hb7
            have HE := mkHid (fun v0 v1 => Gives.shut (b := w.heap.size + 2) B5.out (by omega) Z5.out.lt ho hb7 v0 v1)
            clear hb7 ho
            go_wp2_with fail
            refine hK.out _ _ ?_ (fun _ => ?_)
            · exact ⟨TF.out, RF.out⟩
            clear hK K
            try simp only [Act.put, List.setIfInBounds_toArray, List.set_cons_zero, List.set_cons_succ]
            refine wpAnyH_ready (rs := [10]) (by kernel_rfl) (by simp) ?_
            refine AllReadyH.cons (o := { dst := none, op := Op.store 27 (Operand.tmp 6) (Operand.tmp 34), type := 0, pos := "l07_facts.go:277", after := #[{ on := 9, ground := Ground.data }, { on := 9, ground := Ground.chain }, { on := 0, ground := Ground.phase }, { on := 1, ground := Ground.phase }, { on := 2, ground := Ground.phase }, { on := 3, ground := Ground.phase }, { on := 4, ground := Ground.phase }, { on := 5, ground := Ground.phase }, { on := 6, ground := Ground.phase }, { on := 7, ground := Ground.phase }, { on := 8, ground := Ground.phase }, { on := 9, ground := Ground.phase }], guard := none }) rfl (fun K hK => ?_) ?_
            · go_simp
              refine hK.out _ _ ?_ (fun _ => ?_)
              · exact ⟨(TF.out.grown (grown_setCell _ ⟨w.heap.size + 2, 0, none⟩ _) (some_ne (by show w.heap.size ≠ w.heap.size + 2; omega))).grown (grown_setCell _ ⟨w.heap.size + 2, 1, none⟩ _) (some_ne (by show w.heap.size ≠ w.heap.size + 2; omega)), (RF.out.grown (grown_setCell _ ⟨w.heap.size + 2, 0, none⟩ _) (some_ne (by show w.heap.size + 1 ≠ w.heap.size + 2; omega))).grown (grown_setCell _ ⟨w.heap.size + 2, 1, none⟩ _) (some_ne (by show w.heap.size + 1 ≠ w.heap.size + 2; omega))⟩
              clear hK K
              try simp only [Act.put, List.setIfInBounds_toArray, List.set_cons_zero, List.set_cons_succ]
              refine wpAnyH_done (by kernel_rfl) ?_ _
              go_wp2
              exact bodyPost_ret (v := .agg #[.int .i64 (outZ R n), .slice ao (outL R n).length cap]) (by simp [results, Try.results27, go_sem, z0, z1]) rfl ⟨ao, cap, rfl, (HE.out _ _).1, (HE.out _ _).2⟩
            exact AllReadyH.nil
          exact AllReadyH.nil
        exact AllReadyH.nil
end Go.Proofs.Ytmaejdomlggopaa
