/-
  FnExactSymLess holds at every argument: the program's function answers as the specification's, writes into no argument. No conditions.
-/
import Derived.Test.YtmaejdomlggopaaSy
import Derived.Test.YtmaejdomlggopaaLo
import Derived.Test.YtmaejdomlggopaaInv
import Derived.Deep.RegionHeld3
namespace Go.Proofs.Ytmaejdomlggopaa
open Go.ChangeShapes Go.WideShapes Go.ChangeAt Go.RowKit Go.Joins

set_option maxRecDepth 100000 in
set_option maxHeartbeats 1600000 in
theorem law_walk (s0 t0 : Int) (s1 t1 : Int) (w : World) : Calls Try.prog 8 #[.agg #[.int .i64 s0, .int .i64 t0], .agg #[.int .i64 s1, .int .i64 t1]] w fun e w' => e = .returned (.bool true) ∧ Below w.heap.size w w' := by
  have B_0 : Hid (Below w.heap.size w ((w.alloc (.cells #[.int .i64 s0, .int .i64 t0] 44)).alloc (.cells #[.int .i64 s1, .int .i64 t1] 44))) := mkHid ((((Below.refl w.heap.size w).alloc (Nat.le_refl _) (.cells #[.int .i64 s0, .int .i64 t0] 44)).alloc (by simp) (.cells #[.int .i64 s1, .int .i64 t1] 44)))
  have A0_0 : Hid (Box ((w.alloc (.cells #[.int .i64 s0, .int .i64 t0] 44)).alloc (.cells #[.int .i64 s1, .int .i64 t1] 44)) (w.heap.size) s0 t0) := mkHid (by have := (Box.new' w s0 t0 44).below ((Below.refl _ _).alloc (Nat.le_refl _) (.cells #[.int .i64 s1, .int .i64 t1] 44)); simpa using this)
  have A1_0 : Hid (Box ((w.alloc (.cells #[.int .i64 s0, .int .i64 t0] 44)).alloc (.cells #[.int .i64 s1, .int .i64 t1] 44)) (w.heap.size + 1) s1 t1) := mkHid (by have := Box.new' (w.alloc (.cells #[.int .i64 s0, .int .i64 t0] 44)) s1 t1 44; simpa using this)
  obtain ⟨r0, hr0⟩ : ∃ r, lessB s0 t0 s1 t1 = r := ⟨_, rfl⟩
  have HS : Hid (∀ (v : World), Calls Try.prog 33 #[.agg #[.int .i64 s0, .int .i64 t0], .agg #[.int .i64 s1, .int .i64 t1]] v fun e w' => e = .returned (.bool r0) ∧ Below v.heap.size v w') := mkHid fun  v  => by rw [← hr0]; exact sSymLess_any s0 t0 s1 t1 v
  have HI : Hid (∀ (v : World), Calls Try.prog 34 #[.agg #[.int .i64 s0, .int .i64 t0], .agg #[.int .i64 s1, .int .i64 t1]] v fun e w' => e = .returned (.bool r0) ∧ Below v.heap.size v w') := mkHid fun  v  => by rw [← hr0]; exact iSymLess_any s0 t0 s1 t1 v
  clear  hr0
  go_enter Try.func8, Try.ntmps8
  obtain ⟨wq, hwq⟩ : ∃ wq, ((w.alloc (.cells #[.int .i64 s0, .int .i64 t0] 44)).alloc (.cells #[.int .i64 s1, .int .i64 t1] 44)) = wq := ⟨_, rfl⟩
  rw [hwq] at B_0 A0_0 A1_0
  have HWQ := mkHid hwq
  clear hwq
  go_wp2_with fail
  rw [HWQ.out]
  clear HWQ
  refine wp_region_inv2 (fun ac0 L ac vs => ∃ (b0 b1 b2 b3 b4 b5 : Bool) (s7 s8 s9 s10 s11 s5 : Value), L = #[b0, b1, b2, b3, b4, b5] ∧ ac = puts ac0 [(7, s7), (8, s8), (9, s9), (10, s10), (11, s11), (5, s5)] ∧ (b0 = true → s7 = .agg #[.int .i64 s0, .int .i64 t0]) ∧ (b1 = true → s8 = .agg #[.int .i64 s0, .int .i64 t0]) ∧ (b2 = true → s9 = .agg #[.int .i64 s1, .int .i64 t1]) ∧ (b3 = true → s10 = .agg #[.int .i64 s1, .int .i64 t1]) ∧ (b4 = true → s11 = .bool r0) ∧ (b5 = true → s5 = .bool r0) ∧ Below wq.heap.size wq vs) (by kernel_rfl) ?_ ?_ ?_
  · exact ⟨false, false, false, false, false, false, undef, undef, undef, undef, undef, undef, rfl, by simp only [puts, Act.put, List.setIfInBounds_toArray, List.set_cons_zero, List.set_cons_succ], fun e => (by cases e), fun e => (by cases e), fun e => (by cases e), fun e => (by cases e), fun e => (by cases e), fun e => (by cases e), (Below.refl _ _).drew⟩
  · refine StepsI.cons rfl ?_ ?_
    · rintro L ac vs ⟨b0, b1, b2, b3, b4, b5, s7, s8, s9, s10, s11, s5, rfl, rfl, h0, h1, h2, h3, h4, h5, hW⟩ hL hm K hK
      obtain rfl : b0 = false := by simpa using hL
      simp only [puts, Act.put, List.setIfInBounds_toArray, List.set_cons_zero, List.set_cons_succ]
      have hC := hW
      obtain ⟨q0, q1, q2, q3⟩ := A0_0.out.below hC
      go_simp
      exact hK.out _ _ ⟨true, b1, b2, b3, b4, b5, .agg #[.int .i64 s0, .int .i64 t0], s8, s9, s10, s11, s5, rfl, by simp only [puts, Act.put, List.setIfInBounds_toArray, List.set_cons_zero, List.set_cons_succ], fun _ => rfl, h1, h2, h3, h4, h5, hC⟩
    refine StepsI.cons rfl ?_ ?_
    · rintro L ac vs ⟨b0, b1, b2, b3, b4, b5, s7, s8, s9, s10, s11, s5, rfl, rfl, h0, h1, h2, h3, h4, h5, hW⟩ hL hm K hK
      obtain rfl : b1 = false := by simpa using hL
      obtain rfl : b0 = true := by cases b0 with | false => (exfalso; revert hm; simp [metB, Region.binds]) | true => rfl
      obtain rfl := h0 rfl
      simp only [puts, Act.put, List.setIfInBounds_toArray, List.set_cons_zero, List.set_cons_succ]
      have hC := hW
      go_simp
      refine (toSym_any s0 t0 _).mono ?_
      rintro e v2 ⟨rfl, hb⟩
      go_wp2_with fail
      exact hK.out _ _ ⟨true, true, b2, b3, b4, b5, .agg #[.int .i64 s0, .int .i64 t0], .agg #[.int .i64 s0, .int .i64 t0], s9, s10, s11, s5, rfl, by simp only [puts, Act.put, List.setIfInBounds_toArray, List.set_cons_zero, List.set_cons_succ], fun _ => rfl, fun _ => rfl, h2, h3, h4, h5, below_step hC hb⟩
    refine StepsI.cons rfl ?_ ?_
    · rintro L ac vs ⟨b0, b1, b2, b3, b4, b5, s7, s8, s9, s10, s11, s5, rfl, rfl, h0, h1, h2, h3, h4, h5, hW⟩ hL hm K hK
      obtain rfl : b2 = false := by simpa using hL
      simp only [puts, Act.put, List.setIfInBounds_toArray, List.set_cons_zero, List.set_cons_succ]
      have hC := hW
      obtain ⟨q0, q1, q2, q3⟩ := A1_0.out.below hC
      go_simp
      exact hK.out _ _ ⟨b0, b1, true, b3, b4, b5, s7, s8, .agg #[.int .i64 s1, .int .i64 t1], s10, s11, s5, rfl, by simp only [puts, Act.put, List.setIfInBounds_toArray, List.set_cons_zero, List.set_cons_succ], h0, h1, fun _ => rfl, h3, h4, h5, hC⟩
    refine StepsI.cons rfl ?_ ?_
    · rintro L ac vs ⟨b0, b1, b2, b3, b4, b5, s7, s8, s9, s10, s11, s5, rfl, rfl, h0, h1, h2, h3, h4, h5, hW⟩ hL hm K hK
      obtain rfl : b3 = false := by simpa using hL
      obtain rfl : b2 = true := by cases b2 with | false => (exfalso; revert hm; simp [metB, Region.binds]) | true => rfl
      obtain rfl := h2 rfl
      simp only [puts, Act.put, List.setIfInBounds_toArray, List.set_cons_zero, List.set_cons_succ]
      have hC := hW
      go_simp
      refine (toSym_any s1 t1 _).mono ?_
      rintro e v2 ⟨rfl, hb⟩
      go_wp2_with fail
      exact hK.out _ _ ⟨b0, b1, true, true, b4, b5, s7, s8, .agg #[.int .i64 s1, .int .i64 t1], .agg #[.int .i64 s1, .int .i64 t1], s11, s5, rfl, by simp only [puts, Act.put, List.setIfInBounds_toArray, List.set_cons_zero, List.set_cons_succ], h0, h1, fun _ => rfl, fun _ => rfl, h4, h5, below_step hC hb⟩
    refine StepsI.cons rfl ?_ ?_
    · rintro L ac vs ⟨b0, b1, b2, b3, b4, b5, s7, s8, s9, s10, s11, s5, rfl, rfl, h0, h1, h2, h3, h4, h5, hW⟩ hL hm K hK
      obtain rfl : b4 = false := by simpa using hL
      obtain rfl : b1 = true := by cases b1 with | false => (exfalso; revert hm; simp [metB, Region.binds]) | true => rfl
      obtain rfl : b3 = true := by cases b3 with | false => (exfalso; revert hm; simp [metB, Region.binds]) | true => rfl
      obtain rfl := h1 rfl
      obtain rfl := h3 rfl
      simp only [puts, Act.put, List.setIfInBounds_toArray, List.set_cons_zero, List.set_cons_succ]
      have hC := hW
      go_simp
      refine (HS.out  _ ).mono ?_
      rintro e v2 ⟨rfl, hb⟩
      go_wp2_with fail
      exact hK.out _ _ ⟨b0, true, b2, true, true, b5, s7, .agg #[.int .i64 s0, .int .i64 t0], s9, .agg #[.int .i64 s1, .int .i64 t1], .bool r0, s5, rfl, by simp only [puts, Act.put, List.setIfInBounds_toArray, List.set_cons_zero, List.set_cons_succ], h0, fun _ => rfl, h2, fun _ => rfl, fun _ => rfl, h5, below_step hC hb⟩
    refine StepsI.cons rfl ?_ ?_
    · rintro L ac vs ⟨b0, b1, b2, b3, b4, b5, s7, s8, s9, s10, s11, s5, rfl, rfl, h0, h1, h2, h3, h4, h5, hW⟩ hL hm K hK
      obtain rfl : b5 = false := by simpa using hL
      obtain rfl : b4 = true := by cases b4 with | false => (exfalso; revert hm; simp [metB, Region.binds]) | true => rfl
      obtain rfl := h4 rfl
      simp only [puts, Act.put, List.setIfInBounds_toArray, List.set_cons_zero, List.set_cons_succ]
      have hC := hW
      go_simp
      exact hK.out _ _ ⟨b0, b1, b2, b3, true, true, s7, s8, s9, s10, .bool r0, .bool r0, rfl, by simp only [puts, Act.put, List.setIfInBounds_toArray, List.set_cons_zero, List.set_cons_succ], h0, h1, h2, h3, fun _ => rfl, fun _ => rfl, hC⟩
    exact StepsI.nil (by kernel_rfl)
  · rintro L ac vs ⟨b0, b1, b2, b3, b4, b5, s7, s8, s9, s10, s11, s5, rfl, rfl, h0, h1, h2, h3, h4, h5, hW⟩ hr
    have hu := all_up (by kernel_rfl) (N := 6) (by kernel_rfl) hr
    obtain rfl : b0 = true := by simpa using hu 0 (by decide)
    obtain rfl : b1 = true := by simpa using hu 1 (by decide)
    obtain rfl : b2 = true := by simpa using hu 2 (by decide)
    obtain rfl : b3 = true := by simpa using hu 3 (by decide)
    obtain rfl : b4 = true := by simpa using hu 4 (by decide)
    obtain rfl : b5 = true := by simpa using hu 5 (by decide)
    obtain rfl := h0 rfl
    obtain rfl := h1 rfl
    obtain rfl := h2 rfl
    obtain rfl := h3 rfl
    obtain rfl := h4 rfl
    obtain rfl := h5 rfl
    clear hu hr
    simp only [puts, Act.put, List.setIfInBounds_toArray, List.set_cons_zero, List.set_cons_succ]
    have hC := hW
    clear hW
    have hbel := hC
    clear hC 
    have B_1 := mkHid (below_step B_0.out hbel)
    have A0_1 := mkHid (A0_0.out.below hbel)
    have A1_1 := mkHid (A1_0.out.below hbel)
    clear hbel  B_0 A0_0 A1_0
    have hne0 : (r0 != r0) = false := by simp
    go_wp2_with fail
    refine wp_region_inv2 (fun ac0 L ac vi => ∃ (b0 b1 b2 b3 b4 b5 : Bool) (s12 s13 s14 s15 s16 s6 : Value), L = #[b0, b1, b2, b3, b4, b5] ∧ ac = puts ac0 [(12, s12), (13, s13), (14, s14), (15, s15), (16, s16), (6, s6)] ∧ (b0 = true → s12 = .agg #[.int .i64 s0, .int .i64 t0]) ∧ (b1 = true → s13 = .agg #[.int .i64 s0, .int .i64 t0]) ∧ (b2 = true → s14 = .agg #[.int .i64 s1, .int .i64 t1]) ∧ (b3 = true → s15 = .agg #[.int .i64 s1, .int .i64 t1]) ∧ (b4 = true → s16 = .bool r0) ∧ (b5 = true → s6 = .bool r0) ∧ Below vs.heap.size vs vi) (by kernel_rfl) ?_ ?_ ?_
    · exact ⟨false, false, false, false, false, false, undef, undef, undef, undef, undef, undef, rfl, by simp only [puts, Act.put, List.setIfInBounds_toArray, List.set_cons_zero, List.set_cons_succ], fun e => (by cases e), fun e => (by cases e), fun e => (by cases e), fun e => (by cases e), fun e => (by cases e), fun e => (by cases e), (Below.refl _ _).drew⟩
    · refine StepsI.cons rfl ?_ ?_
      · rintro L ac vi ⟨b0, b1, b2, b3, b4, b5, s12, s13, s14, s15, s16, s6, rfl, rfl, h0, h1, h2, h3, h4, h5, hW⟩ hL hm K hK
        obtain rfl : b0 = false := by simpa using hL
        simp only [puts, Act.put, List.setIfInBounds_toArray, List.set_cons_zero, List.set_cons_succ]
        have hC := hW
        obtain ⟨q0, q1, q2, q3⟩ := A0_1.out.below hC
        go_simp
        exact hK.out _ _ ⟨true, b1, b2, b3, b4, b5, .agg #[.int .i64 s0, .int .i64 t0], s13, s14, s15, s16, s6, rfl, by simp only [puts, Act.put, List.setIfInBounds_toArray, List.set_cons_zero, List.set_cons_succ], fun _ => rfl, h1, h2, h3, h4, h5, hC⟩
      refine StepsI.cons rfl ?_ ?_
      · rintro L ac vi ⟨b0, b1, b2, b3, b4, b5, s12, s13, s14, s15, s16, s6, rfl, rfl, h0, h1, h2, h3, h4, h5, hW⟩ hL hm K hK
        obtain rfl : b1 = false := by simpa using hL
        obtain rfl : b0 = true := by cases b0 with | false => (exfalso; revert hm; simp [metB, Region.binds]) | true => rfl
        obtain rfl := h0 rfl
        simp only [puts, Act.put, List.setIfInBounds_toArray, List.set_cons_zero, List.set_cons_succ]
        have hC := hW
        go_simp
        refine (toSym_any s0 t0 _).mono ?_
        rintro e v2 ⟨rfl, hb⟩
        go_wp2_with fail
        exact hK.out _ _ ⟨true, true, b2, b3, b4, b5, .agg #[.int .i64 s0, .int .i64 t0], .agg #[.int .i64 s0, .int .i64 t0], s14, s15, s16, s6, rfl, by simp only [puts, Act.put, List.setIfInBounds_toArray, List.set_cons_zero, List.set_cons_succ], fun _ => rfl, fun _ => rfl, h2, h3, h4, h5, below_step hC hb⟩
      refine StepsI.cons rfl ?_ ?_
      · rintro L ac vi ⟨b0, b1, b2, b3, b4, b5, s12, s13, s14, s15, s16, s6, rfl, rfl, h0, h1, h2, h3, h4, h5, hW⟩ hL hm K hK
        obtain rfl : b2 = false := by simpa using hL
        simp only [puts, Act.put, List.setIfInBounds_toArray, List.set_cons_zero, List.set_cons_succ]
        have hC := hW
        obtain ⟨q0, q1, q2, q3⟩ := A1_1.out.below hC
        go_simp
        exact hK.out _ _ ⟨b0, b1, true, b3, b4, b5, s12, s13, .agg #[.int .i64 s1, .int .i64 t1], s15, s16, s6, rfl, by simp only [puts, Act.put, List.setIfInBounds_toArray, List.set_cons_zero, List.set_cons_succ], h0, h1, fun _ => rfl, h3, h4, h5, hC⟩
      refine StepsI.cons rfl ?_ ?_
      · rintro L ac vi ⟨b0, b1, b2, b3, b4, b5, s12, s13, s14, s15, s16, s6, rfl, rfl, h0, h1, h2, h3, h4, h5, hW⟩ hL hm K hK
        obtain rfl : b3 = false := by simpa using hL
        obtain rfl : b2 = true := by cases b2 with | false => (exfalso; revert hm; simp [metB, Region.binds]) | true => rfl
        obtain rfl := h2 rfl
        simp only [puts, Act.put, List.setIfInBounds_toArray, List.set_cons_zero, List.set_cons_succ]
        have hC := hW
        go_simp
        refine (toSym_any s1 t1 _).mono ?_
        rintro e v2 ⟨rfl, hb⟩
        go_wp2_with fail
        exact hK.out _ _ ⟨b0, b1, true, true, b4, b5, s12, s13, .agg #[.int .i64 s1, .int .i64 t1], .agg #[.int .i64 s1, .int .i64 t1], s16, s6, rfl, by simp only [puts, Act.put, List.setIfInBounds_toArray, List.set_cons_zero, List.set_cons_succ], h0, h1, fun _ => rfl, fun _ => rfl, h4, h5, below_step hC hb⟩
      refine StepsI.cons rfl ?_ ?_
      · rintro L ac vi ⟨b0, b1, b2, b3, b4, b5, s12, s13, s14, s15, s16, s6, rfl, rfl, h0, h1, h2, h3, h4, h5, hW⟩ hL hm K hK
        obtain rfl : b4 = false := by simpa using hL
        obtain rfl : b1 = true := by cases b1 with | false => (exfalso; revert hm; simp [metB, Region.binds]) | true => rfl
        obtain rfl : b3 = true := by cases b3 with | false => (exfalso; revert hm; simp [metB, Region.binds]) | true => rfl
        obtain rfl := h1 rfl
        obtain rfl := h3 rfl
        simp only [puts, Act.put, List.setIfInBounds_toArray, List.set_cons_zero, List.set_cons_succ]
        have hC := hW
        go_simp
        refine (HI.out  _ ).mono ?_
        rintro e v2 ⟨rfl, hb⟩
        go_wp2_with fail
        exact hK.out _ _ ⟨b0, true, b2, true, true, b5, s12, .agg #[.int .i64 s0, .int .i64 t0], s14, .agg #[.int .i64 s1, .int .i64 t1], .bool r0, s6, rfl, by simp only [puts, Act.put, List.setIfInBounds_toArray, List.set_cons_zero, List.set_cons_succ], h0, fun _ => rfl, h2, fun _ => rfl, fun _ => rfl, h5, below_step hC hb⟩
      refine StepsI.cons rfl ?_ ?_
      · rintro L ac vi ⟨b0, b1, b2, b3, b4, b5, s12, s13, s14, s15, s16, s6, rfl, rfl, h0, h1, h2, h3, h4, h5, hW⟩ hL hm K hK
        obtain rfl : b5 = false := by simpa using hL
        obtain rfl : b4 = true := by cases b4 with | false => (exfalso; revert hm; simp [metB, Region.binds]) | true => rfl
        obtain rfl := h4 rfl
        simp only [puts, Act.put, List.setIfInBounds_toArray, List.set_cons_zero, List.set_cons_succ]
        have hC := hW
        go_simp
        exact hK.out _ _ ⟨b0, b1, b2, b3, true, true, s12, s13, s14, s15, .bool r0, .bool r0, rfl, by simp only [puts, Act.put, List.setIfInBounds_toArray, List.set_cons_zero, List.set_cons_succ], h0, h1, h2, h3, fun _ => rfl, fun _ => rfl, hC⟩
      exact StepsI.nil (by kernel_rfl)
    · rintro L ac vi ⟨b0, b1, b2, b3, b4, b5, s12, s13, s14, s15, s16, s6, rfl, rfl, h0, h1, h2, h3, h4, h5, hW⟩ hr
      have hu := all_up (by kernel_rfl) (N := 6) (by kernel_rfl) hr
      obtain rfl : b0 = true := by simpa using hu 0 (by decide)
      obtain rfl : b1 = true := by simpa using hu 1 (by decide)
      obtain rfl : b2 = true := by simpa using hu 2 (by decide)
      obtain rfl : b3 = true := by simpa using hu 3 (by decide)
      obtain rfl : b4 = true := by simpa using hu 4 (by decide)
      obtain rfl : b5 = true := by simpa using hu 5 (by decide)
      obtain rfl := h0 rfl
      obtain rfl := h1 rfl
      obtain rfl := h2 rfl
      obtain rfl := h3 rfl
      obtain rfl := h4 rfl
      obtain rfl := h5 rfl
      clear hu hr
      simp only [puts, Act.put, List.setIfInBounds_toArray, List.set_cons_zero, List.set_cons_succ]
      have hC := hW
      clear hW
      have hbel := hC
      clear hC 
      have B_2 := mkHid (below_step B_1.out hbel)
      have A0_2 := mkHid (A0_1.out.below hbel)
      have A1_2 := mkHid (A1_1.out.below hbel)
      clear hbel  B_1 A0_1 A1_1
      go_wp2
      go_ret
      exact ⟨rfl, B_2.out⟩

set_option maxRecDepth 100000 in
theorem law_lifted (os : Os) (started : os.Started) (H : Type) (enc : TypeId × Value → H) :
    ReturnsInHanded {} Try.checked os 8 .any (Rows.fnExactSymLessSpec.pre6 enc Try.prog Try.f8 Rows.fnExactSymLessRow.domain false) (Rows.fnExactSymLessSpec.post enc Try.prog Try.f8 false true false false) := by
  refine returnsInHanded_of_change (C := Try.checked) Try.own started (by kernel_rfl) Try.func8
    (ChangeSpec.witness6 (enc := enc) (C := Try.checked) false ⟨#[], #[.agg #[.int .i64 0, .int .i64 0], .agg #[.int .i64 0, .int .i64 0]], []⟩ 8 (by kernel_rfl) (by kernel_rfl) (by kernel_rfl) (by kernel_rfl)) ?_
  intro W base args ds gs before hval0 hW hcnd _
  have hval : ∀ (j : Nat) t v, Try.f8.params[j]? = some t → args[j]? = some v → Value.okWide Try.prog W .any base t v := hval0
  have hW' := hW
  obtain ⟨p, q, hA0, hV, rfl, hfz, hnd⟩ := hW
  have hA : DataW.TrodAll enc Try.prog W 0 (fun _ => true) true Try.f8.params.toList args.toList ds p := hA0
  rw [Try.params8] at hA hval
  obtain ⟨v0, vs0, d0, ds0, p0, q0, hargs, rfl, rfl, h0, r0⟩ := trodAll_cons hA
  obtain ⟨v1, vs1, d1, ds1, p1, q1, rfl, rfl, rfl, h1, r1⟩ := trodAll_cons r0
  obtain ⟨rfl, rfl, rfl⟩ := trodAll_nil r1
  obtain rfl : args = #[v0, v1] := by cases args; simp_all
  obtain ⟨rfl, rfl⟩ := trodVars_none hV
  have k0 := h0
  have lt0 : ∀ x ∈ p0, x.block < W.heap.size := by obtain ⟨m, hm⟩ := k0; exact DataW.trod_lt m _ _ _ hm
  have k1 := h1
  have lt1 : ∀ x ∈ p1, x.block < W.heap.size := by obtain ⟨m, hm⟩ := k1; exact DataW.trod_lt m _ _ _ hm
  obtain ⟨u00, u01, y00, y01, m0, hv0, _, _, hy00, hy01⟩ := open_agg2 Try.underlying44 (by kernel_rfl) Try.cells44 (hval 0 44 v0 rfl rfl) h0
  obtain ⟨s0, e00, _, _⟩ := DataW.trod_int Try.underlying3 hy00
  obtain ⟨t0, e01, _, _⟩ := DataW.trod_int Try.underlying3 hy01
  simp at e00 e01
  subst e00 e01 hv0
  obtain ⟨u10, u11, y10, y11, m1, hv1, _, _, hy10, hy11⟩ := open_agg2 Try.underlying44 (by kernel_rfl) Try.cells44 (hval 1 44 v1 rfl rfl) h1
  obtain ⟨s1, e10, _, _⟩ := DataW.trod_int Try.underlying3 hy10
  obtain ⟨t1, e11, _, _⟩ := DataW.trod_int Try.underlying3 hy11
  simp at e10 e11
  subst e10 e11 hv1
  clear hA0 hval0
  refine (law_walk s0 t0 s1 t1 W ).mono fun e W' ⟨he, bel⟩ => ?_
  subst he
  exact ⟨_, rfl, _, _, _, [], _, [], hW', trodAll_mk1 (shut_bool Try.underlying4 _), (trodAll_cons_mk (Below.trod Try.laidOut (by kernel_rfl) (of_decide_eq_true (by kernel_rfl)) k0 bel lt0) (trodAll_cons_mk (Below.trod Try.laidOut (by kernel_rfl) (of_decide_eq_true (by kernel_rfl)) k1 bel lt1) trodAll_mk0)), rfl, bel.frame _, fun h => by cases h⟩

theorem law_holds : Rows.FnExactSymLessSaid :=
  OpenClaim.holds_of_wide 8 Try.f8 rfl rfl rfl rfl rfl rfl rfl ⟨rfl, rfl, rfl, rfl, rfl⟩ rfl rfl rfl rfl rfl (by kernel_rfl) Try.func8 (by kernel_rfl)
    (of_decide_eq_true (by kernel_rfl)) (by unfold Func.isWrapper; first | (rw [if_pos (by decide +kernel)]; kernel_rfl) | (rw [if_neg (by decide +kernel)]; exact ⟨rfl, rfl⟩))
    (fun os started H enc _ => law_lifted os started H enc)

#print axioms law_holds
end Go.Proofs.Ytmaejdomlggopaa
