/-
  FnExactSymMost holds at every argument: the program's function answers as the specification's, writes into no argument. No conditions.
-/
import Derived.Test.YtmaejdomlggopaaSn
import Derived.Test.YtmaejdomlggopaaLo
import Derived.Test.YtmaejdomlggopaaInv
import Derived.Deep.RegionHeld3
namespace Go.Proofs.Ytmaejdomlggopaa
open Go.ChangeShapes Go.WideShapes Go.ChangeAt Go.RowKit Go.Joins

set_option maxRecDepth 100000 in
set_option maxHeartbeats 6400000 in
theorem law_walk (z0 : Int) (l0 : List Int) (a0 : Option Addr) (c0 : Nat) (s1 t1 : Int) (s2 t2 : Int) (w : World) (hn0 : l0.length ≤ maxLen) (hl0 : IntsAt w a0 l0) : Calls Try.prog 10 #[.agg #[.int .i64 z0, .slice a0 l0.length c0], .agg #[.int .i64 s1, .int .i64 t1], .agg #[.int .i64 s2, .int .i64 t2]] w fun e w' => e = .returned (.bool true) ∧ Below w.heap.size w w' := by
  have HN0 := mkHid hn0
  have HL0 := mkHid hl0
  have B_0 : Hid (Below w.heap.size w (((w.alloc (.cells #[.int .i64 z0, .slice a0 l0.length c0] 24)).alloc (.cells #[.int .i64 s1, .int .i64 t1] 44)).alloc (.cells #[.int .i64 s2, .int .i64 t2] 44))) := mkHid (((((Below.refl w.heap.size w).alloc (Nat.le_refl _) (.cells #[.int .i64 z0, .slice a0 l0.length c0] 24)).alloc (by simp) (.cells #[.int .i64 s1, .int .i64 t1] 44)).alloc (by simp; omega) (.cells #[.int .i64 s2, .int .i64 t2] 44)))
  have A0_0 : Hid (Fc (((w.alloc (.cells #[.int .i64 z0, .slice a0 l0.length c0] 24)).alloc (.cells #[.int .i64 s1, .int .i64 t1] 44)).alloc (.cells #[.int .i64 s2, .int .i64 t2] 44)) (w.heap.size) z0 a0 l0.length c0) := mkHid (by have := ((Fc.new w z0 a0 l0.length c0 24).below ((Below.refl _ _).alloc (Nat.le_refl _) (.cells #[.int .i64 s1, .int .i64 t1] 44))).below ((Below.refl _ _).alloc (Nat.le_refl _) (.cells #[.int .i64 s2, .int .i64 t2] 44)); simpa using this)
  have A1_0 : Hid (Box (((w.alloc (.cells #[.int .i64 z0, .slice a0 l0.length c0] 24)).alloc (.cells #[.int .i64 s1, .int .i64 t1] 44)).alloc (.cells #[.int .i64 s2, .int .i64 t2] 44)) (w.heap.size + 1) s1 t1) := mkHid (by have := (Box.new' (w.alloc (.cells #[.int .i64 z0, .slice a0 l0.length c0] 24)) s1 t1 44).below ((Below.refl _ _).alloc (Nat.le_refl _) (.cells #[.int .i64 s2, .int .i64 t2] 44)); simpa using this)
  have A2_0 : Hid (Box (((w.alloc (.cells #[.int .i64 z0, .slice a0 l0.length c0] 24)).alloc (.cells #[.int .i64 s1, .int .i64 t1] 44)).alloc (.cells #[.int .i64 s2, .int .i64 t2] 44)) (w.heap.size + 2) s2 t2) := mkHid (by have := Box.new' ((w.alloc (.cells #[.int .i64 z0, .slice a0 l0.length c0] 24)).alloc (.cells #[.int .i64 s1, .int .i64 t1] 44)) s2 t2 44; simpa using this)
  obtain ⟨r0, hr0⟩ : ∃ r, (mostF z0 l0 s1 t1 s2 t2).1 = r := ⟨_, rfl⟩
  obtain ⟨r1, hr1⟩ : ∃ r, (mostF z0 l0 s1 t1 s2 t2).2 = r := ⟨_, rfl⟩
  have HS : Hid (∀ (a0 : Option Addr) (v : World), IntsAt v a0 l0 → Calls Try.prog 37 #[.agg #[.int .i64 z0, .slice a0 l0.length l0.length], .agg #[.int .i64 s1, .int .i64 t1], .agg #[.int .i64 s2, .int .i64 t2]] v fun e w' => e = .returned (.tuple #[.int .i64 r0, .bool r1]) ∧ Below v.heap.size v w') := mkHid fun a0 v h0 => by rw [← hr0]; rw [← hr1]; exact sSymMost_any z0 l0 a0 _ s1 t1 s2 t2 v h0
  have HI : Hid (∀ (a0 : Option Addr) (v : World), IntsAt v a0 l0 → Calls Try.prog 38 #[.agg #[.int .i64 z0, .slice a0 l0.length l0.length], .agg #[.int .i64 s1, .int .i64 t1], .agg #[.int .i64 s2, .int .i64 t2]] v fun e w' => e = .returned (.tuple #[.int .i64 r0, .bool r1]) ∧ Below v.heap.size v w') := mkHid fun a0 v h0 => by rw [← hr0]; rw [← hr1]; exact iSymMost_any z0 l0 a0 _ s1 t1 s2 t2 v (Nat.le_refl _) h0
  clear hn0 hl0 hr0 hr1
  go_enter Try.func10, Try.ntmps10
  obtain ⟨p0, p1⟩ := A0_0.out
  go_wp2_with fail
  refine (szFacts_any z0 a0 l0.length c0 1048576 _ HN0.out (by omega) (by omega)).mono ?_
  rintro e w1 ⟨rfl, hb⟩
  have B_1 := mkHid (below_step B_0.out hb)
  have A0_1 := mkHid (A0_0.out.below hb)
  have A1_1 := mkHid (A1_0.out.below hb)
  have A2_1 := mkHid (A2_0.out.below hb)
  clear hb p0 p1 B_0 A0_0 A1_0 A2_0
  obtain ⟨rs0, hr⟩ : ∃ r, szR 1048576 l0.length = r := ⟨_, rfl⟩
  have HQ0 : Hid (¬ rs0 < 0 → l0.length ≤ 1048576 ∧ 0 ≤ rs0 ∧ rs0 ≤ 1048576) := mkHid fun h => by unfold szR at hr; split at hr <;> omega
  rw [hr]
  clear hr
  by_cases hneg0 : rs0 < 0
  · go_wp2
    go_ret
    exact ⟨rfl, B_1.out⟩
  obtain ⟨hz0a, hz0b, hz0c⟩ := HQ0.out hneg0
  have HZZ0 := mkHid hz0a
  clear HQ0
  go_wp2_with fail
  refine wp_region_inv2 (fun zA0 L zA vs => ∃ (b0 b1 b2 b3 b4 b5 b6 b7 b8 b9 b10 b11 : Bool) (s19 s20 s21 s22 s23 s24 s25 s18 s26 s27 s8 s9 : Value) (gs1 : Nat), L = #[b0, b1, b2, b3, b4, b5, b6, b7, b8, b9, b10, b11] ∧ zA = puts zA0 [(19, s19), (20, s20), (21, s21), (22, s22), (23, s23), (24, s24), (25, s25), (18, s18), (26, s26), (27, s27), (8, s8), (9, s9)] ∧ (b0 = true → s19 = .agg #[.int .i64 z0, .slice a0 l0.length c0]) ∧ (b1 = true → s20 = .agg #[.int .i64 z0, .slice (some ⟨gs1, 0, none⟩) l0.length l0.length]) ∧ (b2 = true → s21 = .agg #[.int .i64 s1, .int .i64 t1]) ∧ (b3 = true → s22 = .agg #[.int .i64 s1, .int .i64 t1]) ∧ (b4 = true → s23 = .agg #[.int .i64 s2, .int .i64 t2]) ∧ (b5 = true → s24 = .agg #[.int .i64 s2, .int .i64 t2]) ∧ (b6 = true → s25 = .tuple #[.int .i64 r0, .bool r1]) ∧ (b7 = true → s18 = .tuple #[.int .i64 r0, .bool r1]) ∧ (b8 = true → s26 = .int .i64 r0) ∧ (b9 = true → s27 = .bool r1) ∧ (b10 = true → s8 = .int .i64 r0) ∧ (b11 = true → s9 = .bool r1) ∧ Below w1.heap.size w1 vs ∧ (b1 = true → b6 = false → IntsAt vs (some ⟨gs1, 0, none⟩) l0)) (by kernel_rfl) ?_ ?_ ?_
  · exact ⟨false, false, false, false, false, false, false, false, false, false, false, false, undef, undef, undef, undef, undef, undef, undef, undef, undef, undef, undef, undef, 0, rfl, by kernel_rfl, fun e => (by cases e), fun e => (by cases e), fun e => (by cases e), fun e => (by cases e), fun e => (by cases e), fun e => (by cases e), fun e => (by cases e), fun e => (by cases e), fun e => (by cases e), fun e => (by cases e), fun e => (by cases e), fun e => (by cases e), ⟨(Below.refl _ _).drew, fun e => (by cases e)⟩⟩
  · refine StepsI.cons rfl ?_ ?_
    · rintro L zA vs ⟨b0, b1, b2, b3, b4, b5, b6, b7, b8, b9, b10, b11, s19, s20, s21, s22, s23, s24, s25, s18, s26, s27, s8, s9, gs1, rfl, rfl, h0, h1, h2, h3, h4, h5, h6, h7, h8, h9, h10, h11, hW⟩ hL hm K hK
      obtain rfl : b0 = false := by simpa using hL
      simp only [puts, Act.put, List.setIfInBounds_toArray, List.set_cons_zero, List.set_cons_succ]
      obtain ⟨hC, k1⟩ := hW
      obtain ⟨q0, q1⟩ := A0_1.out.below hC
      go_simp
      exact hK.out _ _ ⟨true, b1, b2, b3, b4, b5, b6, b7, b8, b9, b10, b11, .agg #[.int .i64 z0, .slice a0 l0.length c0], s20, s21, s22, s23, s24, s25, s18, s26, s27, s8, s9, gs1, rfl, by kernel_rfl, fun _ => rfl, h1, h2, h3, h4, h5, h6, h7, h8, h9, h10, h11, ⟨hC, k1⟩⟩
    refine StepsI.cons rfl ?_ ?_
    · rintro L zA vs ⟨b0, b1, b2, b3, b4, b5, b6, b7, b8, b9, b10, b11, s19, s20, s21, s22, s23, s24, s25, s18, s26, s27, s8, s9, gs1, rfl, rfl, h0, h1, h2, h3, h4, h5, h6, h7, h8, h9, h10, h11, hW⟩ hL hm K hK
      obtain rfl : b1 = false := by simpa using hL
      obtain rfl : b0 = true := by cases b0 with | false => (exfalso; revert hm; simp [metB, Region.binds]) | true => rfl
      obtain rfl := h0 rfl
      simp only [puts, Act.put, List.setIfInBounds_toArray, List.set_cons_zero, List.set_cons_succ]
      obtain ⟨hC, k1⟩ := hW
      go_simp
      refine (toFacts_any z0 l0 a0 c0 _ HZZ0.out (HL0.out.below (below_step B_1.out hC))).mono ?_
      rintro e v2 ⟨gn, rfl, ho, hb⟩
      go_wp2_with fail
      exact hK.out _ _ ⟨true, true, b2, b3, b4, b5, b6, b7, b8, b9, b10, b11, .agg #[.int .i64 z0, .slice a0 l0.length c0], .agg #[.int .i64 z0, .slice (some ⟨gn, 0, none⟩) l0.length l0.length], s21, s22, s23, s24, s25, s18, s26, s27, s8, s9, gn, rfl, by kernel_rfl, fun _ => rfl, fun _ => rfl, h2, h3, h4, h5, h6, h7, h8, h9, h10, h11, ⟨below_step hC hb, fun _ _ => ho.at⟩⟩
    refine StepsI.cons rfl ?_ ?_
    · rintro L zA vs ⟨b0, b1, b2, b3, b4, b5, b6, b7, b8, b9, b10, b11, s19, s20, s21, s22, s23, s24, s25, s18, s26, s27, s8, s9, gs1, rfl, rfl, h0, h1, h2, h3, h4, h5, h6, h7, h8, h9, h10, h11, hW⟩ hL hm K hK
      obtain rfl : b2 = false := by simpa using hL
      simp only [puts, Act.put, List.setIfInBounds_toArray, List.set_cons_zero, List.set_cons_succ]
      obtain ⟨hC, k1⟩ := hW
      obtain ⟨q0, q1, q2, q3⟩ := A1_1.out.below hC
      go_simp
      exact hK.out _ _ ⟨b0, b1, true, b3, b4, b5, b6, b7, b8, b9, b10, b11, s19, s20, .agg #[.int .i64 s1, .int .i64 t1], s22, s23, s24, s25, s18, s26, s27, s8, s9, gs1, rfl, by kernel_rfl, h0, h1, fun _ => rfl, h3, h4, h5, h6, h7, h8, h9, h10, h11, ⟨hC, k1⟩⟩
    refine StepsI.cons rfl ?_ ?_
    · rintro L zA vs ⟨b0, b1, b2, b3, b4, b5, b6, b7, b8, b9, b10, b11, s19, s20, s21, s22, s23, s24, s25, s18, s26, s27, s8, s9, gs1, rfl, rfl, h0, h1, h2, h3, h4, h5, h6, h7, h8, h9, h10, h11, hW⟩ hL hm K hK
      obtain rfl : b3 = false := by simpa using hL
      obtain rfl : b2 = true := by cases b2 with | false => (exfalso; revert hm; simp [metB, Region.binds]) | true => rfl
      obtain rfl := h2 rfl
      simp only [puts, Act.put, List.setIfInBounds_toArray, List.set_cons_zero, List.set_cons_succ]
      obtain ⟨hC, k1⟩ := hW
      go_simp
      refine (toSym_any s1 t1 _).mono ?_
      rintro e v2 ⟨rfl, hb⟩
      go_wp2_with fail
      exact hK.out _ _ ⟨b0, b1, true, true, b4, b5, b6, b7, b8, b9, b10, b11, s19, s20, .agg #[.int .i64 s1, .int .i64 t1], .agg #[.int .i64 s1, .int .i64 t1], s23, s24, s25, s18, s26, s27, s8, s9, gs1, rfl, by kernel_rfl, h0, h1, fun _ => rfl, fun _ => rfl, h4, h5, h6, h7, h8, h9, h10, h11, ⟨below_step hC hb, fun e e2 => (k1 e e2).below hb⟩⟩
    refine StepsI.cons rfl ?_ ?_
    · rintro L zA vs ⟨b0, b1, b2, b3, b4, b5, b6, b7, b8, b9, b10, b11, s19, s20, s21, s22, s23, s24, s25, s18, s26, s27, s8, s9, gs1, rfl, rfl, h0, h1, h2, h3, h4, h5, h6, h7, h8, h9, h10, h11, hW⟩ hL hm K hK
      obtain rfl : b4 = false := by simpa using hL
      simp only [puts, Act.put, List.setIfInBounds_toArray, List.set_cons_zero, List.set_cons_succ]
      obtain ⟨hC, k1⟩ := hW
      obtain ⟨q0, q1, q2, q3⟩ := A2_1.out.below hC
      go_simp
      exact hK.out _ _ ⟨b0, b1, b2, b3, true, b5, b6, b7, b8, b9, b10, b11, s19, s20, s21, s22, .agg #[.int .i64 s2, .int .i64 t2], s24, s25, s18, s26, s27, s8, s9, gs1, rfl, by kernel_rfl, h0, h1, h2, h3, fun _ => rfl, h5, h6, h7, h8, h9, h10, h11, ⟨hC, k1⟩⟩
    refine StepsI.cons rfl ?_ ?_
    · rintro L zA vs ⟨b0, b1, b2, b3, b4, b5, b6, b7, b8, b9, b10, b11, s19, s20, s21, s22, s23, s24, s25, s18, s26, s27, s8, s9, gs1, rfl, rfl, h0, h1, h2, h3, h4, h5, h6, h7, h8, h9, h10, h11, hW⟩ hL hm K hK
      obtain rfl : b5 = false := by simpa using hL
      obtain rfl : b4 = true := by cases b4 with | false => (exfalso; revert hm; simp [metB, Region.binds]) | true => rfl
      obtain rfl := h4 rfl
      simp only [puts, Act.put, List.setIfInBounds_toArray, List.set_cons_zero, List.set_cons_succ]
      obtain ⟨hC, k1⟩ := hW
      go_simp
      refine (toSym_any s2 t2 _).mono ?_
      rintro e v2 ⟨rfl, hb⟩
      go_wp2_with fail
      exact hK.out _ _ ⟨b0, b1, b2, b3, true, true, b6, b7, b8, b9, b10, b11, s19, s20, s21, s22, .agg #[.int .i64 s2, .int .i64 t2], .agg #[.int .i64 s2, .int .i64 t2], s25, s18, s26, s27, s8, s9, gs1, rfl, by kernel_rfl, h0, h1, h2, h3, fun _ => rfl, fun _ => rfl, h6, h7, h8, h9, h10, h11, ⟨below_step hC hb, fun e e2 => (k1 e e2).below hb⟩⟩
    refine StepsI.cons rfl ?_ ?_
    · rintro L zA vs ⟨b0, b1, b2, b3, b4, b5, b6, b7, b8, b9, b10, b11, s19, s20, s21, s22, s23, s24, s25, s18, s26, s27, s8, s9, gs1, rfl, rfl, h0, h1, h2, h3, h4, h5, h6, h7, h8, h9, h10, h11, hW⟩ hL hm K hK
      obtain rfl : b6 = false := by simpa using hL
      obtain rfl : b1 = true := by cases b1 with | false => (exfalso; revert hm; simp [metB, Region.binds]) | true => rfl
      obtain rfl : b3 = true := by cases b3 with | false => (exfalso; revert hm; simp [metB, Region.binds]) | true => rfl
      obtain rfl : b5 = true := by cases b5 with | false => (exfalso; revert hm; simp [metB, Region.binds]) | true => rfl
      obtain rfl := h1 rfl
      obtain rfl := h3 rfl
      obtain rfl := h5 rfl
      simp only [puts, Act.put, List.setIfInBounds_toArray, List.set_cons_zero, List.set_cons_succ]
      obtain ⟨hC, k1⟩ := hW
      go_simp
      refine (HS.out _ _ (k1 rfl rfl)).mono ?_
      rintro e v2 ⟨rfl, hb⟩
      go_wp2_with fail
      exact hK.out _ _ ⟨b0, true, b2, true, b4, true, true, b7, b8, b9, b10, b11, s19, .agg #[.int .i64 z0, .slice (some ⟨gs1, 0, none⟩) l0.length l0.length], s21, .agg #[.int .i64 s1, .int .i64 t1], s23, .agg #[.int .i64 s2, .int .i64 t2], .tuple #[.int .i64 r0, .bool r1], s18, s26, s27, s8, s9, gs1, rfl, by kernel_rfl, h0, fun _ => rfl, h2, fun _ => rfl, h4, fun _ => rfl, fun _ => rfl, h7, h8, h9, h10, h11, ⟨below_step hC hb, fun _ e => (by cases e)⟩⟩
    refine StepsI.cons rfl ?_ ?_
    · rintro L zA vs ⟨b0, b1, b2, b3, b4, b5, b6, b7, b8, b9, b10, b11, s19, s20, s21, s22, s23, s24, s25, s18, s26, s27, s8, s9, gs1, rfl, rfl, h0, h1, h2, h3, h4, h5, h6, h7, h8, h9, h10, h11, hW⟩ hL hm K hK
      obtain rfl : b7 = false := by simpa using hL
      obtain rfl : b6 = true := by cases b6 with | false => (exfalso; revert hm; simp [metB, Region.binds]) | true => rfl
      obtain rfl := h6 rfl
      simp only [puts, Act.put, List.setIfInBounds_toArray, List.set_cons_zero, List.set_cons_succ]
      obtain ⟨hC, k1⟩ := hW
      go_simp
      exact hK.out _ _ ⟨b0, b1, b2, b3, b4, b5, true, true, b8, b9, b10, b11, s19, s20, s21, s22, s23, s24, .tuple #[.int .i64 r0, .bool r1], .tuple #[.int .i64 r0, .bool r1], s26, s27, s8, s9, gs1, rfl, by kernel_rfl, h0, h1, h2, h3, h4, h5, fun _ => rfl, fun _ => rfl, h8, h9, h10, h11, ⟨hC, k1⟩⟩
    refine StepsI.cons rfl ?_ ?_
    · rintro L zA vs ⟨b0, b1, b2, b3, b4, b5, b6, b7, b8, b9, b10, b11, s19, s20, s21, s22, s23, s24, s25, s18, s26, s27, s8, s9, gs1, rfl, rfl, h0, h1, h2, h3, h4, h5, h6, h7, h8, h9, h10, h11, hW⟩ hL hm K hK
      obtain rfl : b8 = false := by simpa using hL
      obtain rfl : b7 = true := by cases b7 with | false => (exfalso; revert hm; simp [metB, Region.binds]) | true => rfl
      obtain rfl := h7 rfl
      simp only [puts, Act.put, List.setIfInBounds_toArray, List.set_cons_zero, List.set_cons_succ]
      obtain ⟨hC, k1⟩ := hW
      go_simp
      exact hK.out _ _ ⟨b0, b1, b2, b3, b4, b5, b6, true, true, b9, b10, b11, s19, s20, s21, s22, s23, s24, s25, .tuple #[.int .i64 r0, .bool r1], .int .i64 r0, s27, s8, s9, gs1, rfl, by kernel_rfl, h0, h1, h2, h3, h4, h5, h6, fun _ => rfl, fun _ => rfl, h9, h10, h11, ⟨hC, k1⟩⟩
    refine StepsI.cons rfl ?_ ?_
    · rintro L zA vs ⟨b0, b1, b2, b3, b4, b5, b6, b7, b8, b9, b10, b11, s19, s20, s21, s22, s23, s24, s25, s18, s26, s27, s8, s9, gs1, rfl, rfl, h0, h1, h2, h3, h4, h5, h6, h7, h8, h9, h10, h11, hW⟩ hL hm K hK
      obtain rfl : b9 = false := by simpa using hL
      obtain rfl : b7 = true := by cases b7 with | false => (exfalso; revert hm; simp [metB, Region.binds]) | true => rfl
      obtain rfl := h7 rfl
      simp only [puts, Act.put, List.setIfInBounds_toArray, List.set_cons_zero, List.set_cons_succ]
      obtain ⟨hC, k1⟩ := hW
      go_simp
      exact hK.out _ _ ⟨b0, b1, b2, b3, b4, b5, b6, true, b8, true, b10, b11, s19, s20, s21, s22, s23, s24, s25, .tuple #[.int .i64 r0, .bool r1], s26, .bool r1, s8, s9, gs1, rfl, by kernel_rfl, h0, h1, h2, h3, h4, h5, h6, fun _ => rfl, h8, fun _ => rfl, h10, h11, ⟨hC, k1⟩⟩
    refine StepsI.cons rfl ?_ ?_
    · rintro L zA vs ⟨b0, b1, b2, b3, b4, b5, b6, b7, b8, b9, b10, b11, s19, s20, s21, s22, s23, s24, s25, s18, s26, s27, s8, s9, gs1, rfl, rfl, h0, h1, h2, h3, h4, h5, h6, h7, h8, h9, h10, h11, hW⟩ hL hm K hK
      obtain rfl : b10 = false := by simpa using hL
      obtain rfl : b8 = true := by cases b8 with | false => (exfalso; revert hm; simp [metB, Region.binds]) | true => rfl
      obtain rfl := h8 rfl
      simp only [puts, Act.put, List.setIfInBounds_toArray, List.set_cons_zero, List.set_cons_succ]
      obtain ⟨hC, k1⟩ := hW
      go_simp
      exact hK.out _ _ ⟨b0, b1, b2, b3, b4, b5, b6, b7, true, b9, true, b11, s19, s20, s21, s22, s23, s24, s25, s18, .int .i64 r0, s27, .int .i64 r0, s9, gs1, rfl, by kernel_rfl, h0, h1, h2, h3, h4, h5, h6, h7, fun _ => rfl, h9, fun _ => rfl, h11, ⟨hC, k1⟩⟩
    refine StepsI.cons rfl ?_ ?_
    · rintro L zA vs ⟨b0, b1, b2, b3, b4, b5, b6, b7, b8, b9, b10, b11, s19, s20, s21, s22, s23, s24, s25, s18, s26, s27, s8, s9, gs1, rfl, rfl, h0, h1, h2, h3, h4, h5, h6, h7, h8, h9, h10, h11, hW⟩ hL hm K hK
      obtain rfl : b11 = false := by simpa using hL
      obtain rfl : b9 = true := by cases b9 with | false => (exfalso; revert hm; simp [metB, Region.binds]) | true => rfl
      obtain rfl := h9 rfl
      simp only [puts, Act.put, List.setIfInBounds_toArray, List.set_cons_zero, List.set_cons_succ]
      obtain ⟨hC, k1⟩ := hW
      go_simp
      exact hK.out _ _ ⟨b0, b1, b2, b3, b4, b5, b6, b7, b8, true, b10, true, s19, s20, s21, s22, s23, s24, s25, s18, s26, .bool r1, s8, .bool r1, gs1, rfl, by kernel_rfl, h0, h1, h2, h3, h4, h5, h6, h7, h8, fun _ => rfl, h10, fun _ => rfl, ⟨hC, k1⟩⟩
    exact StepsI.nil (by kernel_rfl)
  · rintro L zA vs ⟨b0, b1, b2, b3, b4, b5, b6, b7, b8, b9, b10, b11, s19, s20, s21, s22, s23, s24, s25, s18, s26, s27, s8, s9, gs1, rfl, rfl, h0, h1, h2, h3, h4, h5, h6, h7, h8, h9, h10, h11, hW⟩ hr
    have hu := all_up (by kernel_rfl) (N := 12) (by kernel_rfl) hr
    obtain rfl : b0 = true := by simpa using hu 0 (by decide)
    obtain rfl : b1 = true := by simpa using hu 1 (by decide)
    obtain rfl : b2 = true := by simpa using hu 2 (by decide)
    obtain rfl : b3 = true := by simpa using hu 3 (by decide)
    obtain rfl : b4 = true := by simpa using hu 4 (by decide)
    obtain rfl : b5 = true := by simpa using hu 5 (by decide)
    obtain rfl : b6 = true := by simpa using hu 6 (by decide)
    obtain rfl : b7 = true := by simpa using hu 7 (by decide)
    obtain rfl : b8 = true := by simpa using hu 8 (by decide)
    obtain rfl : b9 = true := by simpa using hu 9 (by decide)
    obtain rfl : b10 = true := by simpa using hu 10 (by decide)
    obtain rfl : b11 = true := by simpa using hu 11 (by decide)
    obtain rfl := h0 rfl
    obtain rfl := h1 rfl
    obtain rfl := h2 rfl
    obtain rfl := h3 rfl
    obtain rfl := h4 rfl
    obtain rfl := h5 rfl
    obtain rfl := h6 rfl
    obtain rfl := h7 rfl
    obtain rfl := h8 rfl
    obtain rfl := h9 rfl
    obtain rfl := h10 rfl
    obtain rfl := h11 rfl
    clear hu hr
    simp only [puts, Act.put, List.setIfInBounds_toArray, List.set_cons_zero, List.set_cons_succ]
    obtain ⟨hC, k1⟩ := hW
    skip
    have hbel := hC
    clear hC k1
    have B_2 := mkHid (below_step B_1.out hbel)
    have A0_2 := mkHid (A0_1.out.below hbel)
    have A1_2 := mkHid (A1_1.out.below hbel)
    have A2_2 := mkHid (A2_1.out.below hbel)
    clear hbel  B_1 A0_1 A1_1 A2_1
    obtain ⟨bz, hbz⟩ : ∃ bz, vs.heap.size = bz := ⟨_, rfl⟩
    obtain ⟨p0, p1⟩ := A0_2.out
    skip
    go_wp2_with fail
    refine (toFacts_any z0 l0 a0 c0 _ HZZ0.out (HL0.out.below B_2.out)).mono ?_
    rintro e w2 ⟨cp0, rfl, ho, hb⟩
    obtain ⟨bx0, hbx0⟩ : ∃ b, w2.heap.size = b := ⟨_, rfl⟩
    have hx0 : bz ≤ cp0 ∧ cp0 < bx0 := by have h1 := ho.base_le; have h2 := ho.lt (q := cp0) rfl; omega
    have AL := (Below.refl w2.heap.size w2).alloc (Nat.le_refl _) (.cells #[.int .i64 z0, .slice (some ⟨cp0, 0, none⟩) l0.length l0.length] 27)
    have B_3 := mkHid ((below_step B_2.out hb).alloc (below_step B_2.out hb).size (.cells #[.int .i64 z0, .slice (some ⟨cp0, 0, none⟩) l0.length l0.length] 27))
    have A0_3 := mkHid ((A0_2.out.below hb).below AL)
    have A1_3 := mkHid ((A1_2.out.below hb).below AL)
    have A2_3 := mkHid ((A2_2.out.below hb).below AL)
    clear hb p0 p1 hbz B_2 A0_2 A1_2 A2_2
    have X0_3 := mkHid (Fc.new w2 z0 (some ⟨cp0, 0, none⟩) l0.length l0.length 27)
    rw [hbx0] at X0_3
    have O0_3 := mkHid (ho.below AL)
    clear ho AL
    have hne0 : (r0 != r0) = false := by simp
    have hne1 : (r1 != r1) = false := by simp
    obtain ⟨wb, hwb⟩ : ∃ wb, w2.alloc (.cells #[.int .i64 z0, .slice (some ⟨cp0, 0, none⟩) l0.length l0.length] 27) = wb := ⟨_, rfl⟩
    have hsz : bx0 + 1 ≤ wb.heap.size := by rw [← hwb]; simp; omega
    rw [hwb] at B_3 A0_3 A1_3 A2_3 X0_3 O0_3
    have HWB := mkHid hwb
    clear hwb
    go_wp2_with fail
    rw [HWB.out]
    clear HWB
    refine wp_region_inv2 (fun zA0 L zA vi => ∃ (b0 b1 b2 b3 b4 b5 b6 b7 b8 b9 b10 : Bool) (s31 s32 s33 s34 s35 s36 s30 s37 s38 s11 s12 : Value), L = #[b0, b1, b2, b3, b4, b5, b6, b7, b8, b9, b10] ∧ zA = puts zA0 [(31, s31), (32, s32), (33, s33), (34, s34), (35, s35), (36, s36), (30, s30), (37, s37), (38, s38), (11, s11), (12, s12)] ∧ (b0 = true → s31 = .agg #[.int .i64 z0, .slice (some ⟨cp0, 0, none⟩) l0.length l0.length]) ∧ (b1 = true → s32 = .agg #[.int .i64 s1, .int .i64 t1]) ∧ (b2 = true → s33 = .agg #[.int .i64 s1, .int .i64 t1]) ∧ (b3 = true → s34 = .agg #[.int .i64 s2, .int .i64 t2]) ∧ (b4 = true → s35 = .agg #[.int .i64 s2, .int .i64 t2]) ∧ (b5 = true → s36 = .tuple #[.int .i64 r0, .bool r1]) ∧ (b6 = true → s30 = .tuple #[.int .i64 r0, .bool r1]) ∧ (b7 = true → s37 = .int .i64 r0) ∧ (b8 = true → s38 = .bool r1) ∧ (b9 = true → s11 = .int .i64 r0) ∧ (b10 = true → s12 = .bool r1) ∧ Below wb.heap.size wb vi) (by kernel_rfl) ?_ ?_ ?_
    · exact ⟨false, false, false, false, false, false, false, false, false, false, false, undef, undef, undef, undef, undef, undef, undef, undef, undef, undef, undef, rfl, by kernel_rfl, fun e => (by cases e), fun e => (by cases e), fun e => (by cases e), fun e => (by cases e), fun e => (by cases e), fun e => (by cases e), fun e => (by cases e), fun e => (by cases e), fun e => (by cases e), fun e => (by cases e), fun e => (by cases e), (Below.refl _ _).drew⟩
    · refine StepsI.cons rfl ?_ ?_
      · rintro L zA vi ⟨b0, b1, b2, b3, b4, b5, b6, b7, b8, b9, b10, s31, s32, s33, s34, s35, s36, s30, s37, s38, s11, s12, rfl, rfl, h0, h1, h2, h3, h4, h5, h6, h7, h8, h9, h10, hW⟩ hL hm K hK
        obtain rfl : b0 = false := by simpa using hL
        simp only [puts, Act.put, List.setIfInBounds_toArray, List.set_cons_zero, List.set_cons_succ]
        have hC := hW
        obtain ⟨q0, q1⟩ := X0_3.out.below hC
        go_simp
        exact hK.out _ _ ⟨true, b1, b2, b3, b4, b5, b6, b7, b8, b9, b10, .agg #[.int .i64 z0, .slice (some ⟨cp0, 0, none⟩) l0.length l0.length], s32, s33, s34, s35, s36, s30, s37, s38, s11, s12, rfl, by kernel_rfl, fun _ => rfl, h1, h2, h3, h4, h5, h6, h7, h8, h9, h10, hC⟩
      refine StepsI.cons rfl ?_ ?_
      · rintro L zA vi ⟨b0, b1, b2, b3, b4, b5, b6, b7, b8, b9, b10, s31, s32, s33, s34, s35, s36, s30, s37, s38, s11, s12, rfl, rfl, h0, h1, h2, h3, h4, h5, h6, h7, h8, h9, h10, hW⟩ hL hm K hK
        obtain rfl : b1 = false := by simpa using hL
        simp only [puts, Act.put, List.setIfInBounds_toArray, List.set_cons_zero, List.set_cons_succ]
        have hC := hW
        obtain ⟨q0, q1, q2, q3⟩ := A1_3.out.below hC
        go_simp
        exact hK.out _ _ ⟨b0, true, b2, b3, b4, b5, b6, b7, b8, b9, b10, s31, .agg #[.int .i64 s1, .int .i64 t1], s33, s34, s35, s36, s30, s37, s38, s11, s12, rfl, by kernel_rfl, h0, fun _ => rfl, h2, h3, h4, h5, h6, h7, h8, h9, h10, hC⟩
      refine StepsI.cons rfl ?_ ?_
      · rintro L zA vi ⟨b0, b1, b2, b3, b4, b5, b6, b7, b8, b9, b10, s31, s32, s33, s34, s35, s36, s30, s37, s38, s11, s12, rfl, rfl, h0, h1, h2, h3, h4, h5, h6, h7, h8, h9, h10, hW⟩ hL hm K hK
        obtain rfl : b2 = false := by simpa using hL
        obtain rfl : b1 = true := by cases b1 with | false => (exfalso; revert hm; simp [metB, Region.binds]) | true => rfl
        obtain rfl := h1 rfl
        simp only [puts, Act.put, List.setIfInBounds_toArray, List.set_cons_zero, List.set_cons_succ]
        have hC := hW
        go_simp
        refine (toSym_any s1 t1 _).mono ?_
        rintro e v2 ⟨rfl, hb⟩
        go_wp2_with fail
        exact hK.out _ _ ⟨b0, true, true, b3, b4, b5, b6, b7, b8, b9, b10, s31, .agg #[.int .i64 s1, .int .i64 t1], .agg #[.int .i64 s1, .int .i64 t1], s34, s35, s36, s30, s37, s38, s11, s12, rfl, by kernel_rfl, h0, fun _ => rfl, fun _ => rfl, h3, h4, h5, h6, h7, h8, h9, h10, below_step hC hb⟩
      refine StepsI.cons rfl ?_ ?_
      · rintro L zA vi ⟨b0, b1, b2, b3, b4, b5, b6, b7, b8, b9, b10, s31, s32, s33, s34, s35, s36, s30, s37, s38, s11, s12, rfl, rfl, h0, h1, h2, h3, h4, h5, h6, h7, h8, h9, h10, hW⟩ hL hm K hK
        obtain rfl : b3 = false := by simpa using hL
        simp only [puts, Act.put, List.setIfInBounds_toArray, List.set_cons_zero, List.set_cons_succ]
        have hC := hW
        obtain ⟨q0, q1, q2, q3⟩ := A2_3.out.below hC
        go_simp
        exact hK.out _ _ ⟨b0, b1, b2, true, b4, b5, b6, b7, b8, b9, b10, s31, s32, s33, .agg #[.int .i64 s2, .int .i64 t2], s35, s36, s30, s37, s38, s11, s12, rfl, by kernel_rfl, h0, h1, h2, fun _ => rfl, h4, h5, h6, h7, h8, h9, h10, hC⟩
      refine StepsI.cons rfl ?_ ?_
      · rintro L zA vi ⟨b0, b1, b2, b3, b4, b5, b6, b7, b8, b9, b10, s31, s32, s33, s34, s35, s36, s30, s37, s38, s11, s12, rfl, rfl, h0, h1, h2, h3, h4, h5, h6, h7, h8, h9, h10, hW⟩ hL hm K hK
        obtain rfl : b4 = false := by simpa using hL
        obtain rfl : b3 = true := by cases b3 with | false => (exfalso; revert hm; simp [metB, Region.binds]) | true => rfl
        obtain rfl := h3 rfl
        simp only [puts, Act.put, List.setIfInBounds_toArray, List.set_cons_zero, List.set_cons_succ]
        have hC := hW
        go_simp
        refine (toSym_any s2 t2 _).mono ?_
        rintro e v2 ⟨rfl, hb⟩
        go_wp2_with fail
        exact hK.out _ _ ⟨b0, b1, b2, true, true, b5, b6, b7, b8, b9, b10, s31, s32, s33, .agg #[.int .i64 s2, .int .i64 t2], .agg #[.int .i64 s2, .int .i64 t2], s36, s30, s37, s38, s11, s12, rfl, by kernel_rfl, h0, h1, h2, fun _ => rfl, fun _ => rfl, h5, h6, h7, h8, h9, h10, below_step hC hb⟩
      refine StepsI.cons rfl ?_ ?_
      · rintro L zA vi ⟨b0, b1, b2, b3, b4, b5, b6, b7, b8, b9, b10, s31, s32, s33, s34, s35, s36, s30, s37, s38, s11, s12, rfl, rfl, h0, h1, h2, h3, h4, h5, h6, h7, h8, h9, h10, hW⟩ hL hm K hK
        obtain rfl : b5 = false := by simpa using hL
        obtain rfl : b0 = true := by cases b0 with | false => (exfalso; revert hm; simp [metB, Region.binds]) | true => rfl
        obtain rfl : b2 = true := by cases b2 with | false => (exfalso; revert hm; simp [metB, Region.binds]) | true => rfl
        obtain rfl : b4 = true := by cases b4 with | false => (exfalso; revert hm; simp [metB, Region.binds]) | true => rfl
        obtain rfl := h0 rfl
        obtain rfl := h2 rfl
        obtain rfl := h4 rfl
        simp only [puts, Act.put, List.setIfInBounds_toArray, List.set_cons_zero, List.set_cons_succ]
        have hC := hW
        go_simp
        refine (HI.out _ _ (O0_3.out.below hC).at).mono ?_
        rintro e v2 ⟨rfl, hb⟩
        go_wp2_with fail
        exact hK.out _ _ ⟨true, b1, true, b3, true, true, b6, b7, b8, b9, b10, .agg #[.int .i64 z0, .slice (some ⟨cp0, 0, none⟩) l0.length l0.length], s32, .agg #[.int .i64 s1, .int .i64 t1], s34, .agg #[.int .i64 s2, .int .i64 t2], .tuple #[.int .i64 r0, .bool r1], s30, s37, s38, s11, s12, rfl, by kernel_rfl, fun _ => rfl, h1, fun _ => rfl, h3, fun _ => rfl, fun _ => rfl, h6, h7, h8, h9, h10, below_step hC hb⟩
      refine StepsI.cons rfl ?_ ?_
      · rintro L zA vi ⟨b0, b1, b2, b3, b4, b5, b6, b7, b8, b9, b10, s31, s32, s33, s34, s35, s36, s30, s37, s38, s11, s12, rfl, rfl, h0, h1, h2, h3, h4, h5, h6, h7, h8, h9, h10, hW⟩ hL hm K hK
        obtain rfl : b6 = false := by simpa using hL
        obtain rfl : b5 = true := by cases b5 with | false => (exfalso; revert hm; simp [metB, Region.binds]) | true => rfl
        obtain rfl := h5 rfl
        simp only [puts, Act.put, List.setIfInBounds_toArray, List.set_cons_zero, List.set_cons_succ]
        have hC := hW
        go_simp
        exact hK.out _ _ ⟨b0, b1, b2, b3, b4, true, true, b7, b8, b9, b10, s31, s32, s33, s34, s35, .tuple #[.int .i64 r0, .bool r1], .tuple #[.int .i64 r0, .bool r1], s37, s38, s11, s12, rfl, by kernel_rfl, h0, h1, h2, h3, h4, fun _ => rfl, fun _ => rfl, h7, h8, h9, h10, hC⟩
      refine StepsI.cons rfl ?_ ?_
      · rintro L zA vi ⟨b0, b1, b2, b3, b4, b5, b6, b7, b8, b9, b10, s31, s32, s33, s34, s35, s36, s30, s37, s38, s11, s12, rfl, rfl, h0, h1, h2, h3, h4, h5, h6, h7, h8, h9, h10, hW⟩ hL hm K hK
        obtain rfl : b7 = false := by simpa using hL
        obtain rfl : b6 = true := by cases b6 with | false => (exfalso; revert hm; simp [metB, Region.binds]) | true => rfl
        obtain rfl := h6 rfl
        simp only [puts, Act.put, List.setIfInBounds_toArray, List.set_cons_zero, List.set_cons_succ]
        have hC := hW
        go_simp
        exact hK.out _ _ ⟨b0, b1, b2, b3, b4, b5, true, true, b8, b9, b10, s31, s32, s33, s34, s35, s36, .tuple #[.int .i64 r0, .bool r1], .int .i64 r0, s38, s11, s12, rfl, by kernel_rfl, h0, h1, h2, h3, h4, h5, fun _ => rfl, fun _ => rfl, h8, h9, h10, hC⟩
      refine StepsI.cons rfl ?_ ?_
      · rintro L zA vi ⟨b0, b1, b2, b3, b4, b5, b6, b7, b8, b9, b10, s31, s32, s33, s34, s35, s36, s30, s37, s38, s11, s12, rfl, rfl, h0, h1, h2, h3, h4, h5, h6, h7, h8, h9, h10, hW⟩ hL hm K hK
        obtain rfl : b8 = false := by simpa using hL
        obtain rfl : b6 = true := by cases b6 with | false => (exfalso; revert hm; simp [metB, Region.binds]) | true => rfl
        obtain rfl := h6 rfl
        simp only [puts, Act.put, List.setIfInBounds_toArray, List.set_cons_zero, List.set_cons_succ]
        have hC := hW
        go_simp
        exact hK.out _ _ ⟨b0, b1, b2, b3, b4, b5, true, b7, true, b9, b10, s31, s32, s33, s34, s35, s36, .tuple #[.int .i64 r0, .bool r1], s37, .bool r1, s11, s12, rfl, by kernel_rfl, h0, h1, h2, h3, h4, h5, fun _ => rfl, h7, fun _ => rfl, h9, h10, hC⟩
      refine StepsI.cons rfl ?_ ?_
      · rintro L zA vi ⟨b0, b1, b2, b3, b4, b5, b6, b7, b8, b9, b10, s31, s32, s33, s34, s35, s36, s30, s37, s38, s11, s12, rfl, rfl, h0, h1, h2, h3, h4, h5, h6, h7, h8, h9, h10, hW⟩ hL hm K hK
        obtain rfl : b9 = false := by simpa using hL
        obtain rfl : b7 = true := by cases b7 with | false => (exfalso; revert hm; simp [metB, Region.binds]) | true => rfl
        obtain rfl := h7 rfl
        simp only [puts, Act.put, List.setIfInBounds_toArray, List.set_cons_zero, List.set_cons_succ]
        have hC := hW
        go_simp
        exact hK.out _ _ ⟨b0, b1, b2, b3, b4, b5, b6, true, b8, true, b10, s31, s32, s33, s34, s35, s36, s30, .int .i64 r0, s38, .int .i64 r0, s12, rfl, by kernel_rfl, h0, h1, h2, h3, h4, h5, h6, fun _ => rfl, h8, fun _ => rfl, h10, hC⟩
      refine StepsI.cons rfl ?_ ?_
      · rintro L zA vi ⟨b0, b1, b2, b3, b4, b5, b6, b7, b8, b9, b10, s31, s32, s33, s34, s35, s36, s30, s37, s38, s11, s12, rfl, rfl, h0, h1, h2, h3, h4, h5, h6, h7, h8, h9, h10, hW⟩ hL hm K hK
        obtain rfl : b10 = false := by simpa using hL
        obtain rfl : b8 = true := by cases b8 with | false => (exfalso; revert hm; simp [metB, Region.binds]) | true => rfl
        obtain rfl := h8 rfl
        simp only [puts, Act.put, List.setIfInBounds_toArray, List.set_cons_zero, List.set_cons_succ]
        have hC := hW
        go_simp
        exact hK.out _ _ ⟨b0, b1, b2, b3, b4, b5, b6, b7, true, b9, true, s31, s32, s33, s34, s35, s36, s30, s37, .bool r1, s11, .bool r1, rfl, by kernel_rfl, h0, h1, h2, h3, h4, h5, h6, h7, fun _ => rfl, h9, fun _ => rfl, hC⟩
      exact StepsI.nil (by kernel_rfl)
    · rintro L zA vi ⟨b0, b1, b2, b3, b4, b5, b6, b7, b8, b9, b10, s31, s32, s33, s34, s35, s36, s30, s37, s38, s11, s12, rfl, rfl, h0, h1, h2, h3, h4, h5, h6, h7, h8, h9, h10, hW⟩ hr
      have hu := all_up (by kernel_rfl) (N := 11) (by kernel_rfl) hr
      obtain rfl : b0 = true := by simpa using hu 0 (by decide)
      obtain rfl : b1 = true := by simpa using hu 1 (by decide)
      obtain rfl : b2 = true := by simpa using hu 2 (by decide)
      obtain rfl : b3 = true := by simpa using hu 3 (by decide)
      obtain rfl : b4 = true := by simpa using hu 4 (by decide)
      obtain rfl : b5 = true := by simpa using hu 5 (by decide)
      obtain rfl : b6 = true := by simpa using hu 6 (by decide)
      obtain rfl : b7 = true := by simpa using hu 7 (by decide)
      obtain rfl : b8 = true := by simpa using hu 8 (by decide)
      obtain rfl : b9 = true := by simpa using hu 9 (by decide)
      obtain rfl : b10 = true := by simpa using hu 10 (by decide)
      obtain rfl := h0 rfl
      obtain rfl := h1 rfl
      obtain rfl := h2 rfl
      obtain rfl := h3 rfl
      obtain rfl := h4 rfl
      obtain rfl := h5 rfl
      obtain rfl := h6 rfl
      obtain rfl := h7 rfl
      obtain rfl := h8 rfl
      obtain rfl := h9 rfl
      obtain rfl := h10 rfl
      clear hu hr
      simp only [puts, Act.put, List.setIfInBounds_toArray, List.set_cons_zero, List.set_cons_succ]
      have hC := hW
      clear hW
      have hbel := hC
      clear hC 
      have B_4 := mkHid (below_step B_3.out hbel)
      have A0_4 := mkHid (A0_3.out.below hbel)
      have A1_4 := mkHid (A1_3.out.below hbel)
      have A2_4 := mkHid (A2_3.out.below hbel)
      have X0_4 := mkHid (X0_3.out.below hbel)
      have O0_4 := mkHid (O0_3.out.below hbel)
      clear hbel  B_3 A0_3 A1_3 A2_3 X0_3 O0_3
      clear hbx0
      obtain ⟨p0, p1⟩ := A0_4.out
      obtain ⟨q0, q1⟩ := X0_4.out
      have hlx := A0_4.out.lt
      have hly := X0_4.out.lt
      go_wp2_with fail
      go_region_held3 (fun w' => w'.cell? ⟨w.heap.size, 0, none⟩ = some (.int .i64 z0) ∧ w'.cell? ⟨w.heap.size, 1, none⟩ = some (.slice a0 l0.length c0) ∧ w'.cell? ⟨bx0, 0, none⟩ = some (.int .i64 z0) ∧ w'.cell? ⟨bx0, 1, none⟩ = some (.slice (some ⟨cp0, 0, none⟩) l0.length l0.length))
        (first | exact ⟨p0, p1, q0, q1⟩ | exact ⟨(hc _ _ hlx).trans p0, (hc _ _ hlx).trans p1, (hc _ _ hly).trans q0, (hc _ _ hly).trans q1⟩)
        (first | (go_at_call 15; refine (toFacts_any z0 l0 a0 c0 _ HZZ0.out (HL0.out.below B_4.out.drew)).mono ?_; rintro e w3 ⟨gx, rfl, hox, hbx⟩; obtain ⟨hc, hf⟩ := bcell hbx) | (go_at_call 17; refine (eqFacts_ok z0 l0 (some ⟨cp0, 0, none⟩) (some ⟨gx, 0, none⟩) _ _ _ HN0.out ((O0_4.out.at.below (Below.refl _ _).drew).below hbx) hox.at).mono ?_; rintro e w4 ⟨rfl, hby⟩; obtain ⟨hc', hf'⟩ := bcell hby; have hc := fun b o (h : b < vi.drew.heap.size) => (hc' b o (Nat.lt_of_lt_of_le h hbx.size)).trans (hc b o h)))
      have NN := below_step (below_step (Below.refl vi.heap.size vi).drew hbx) hby
      have B_5 := mkHid (below_step B_4.out NN)
      have A0_5 := mkHid (A0_4.out.below NN)
      have A1_5 := mkHid (A1_4.out.below NN)
      have A2_5 := mkHid (A2_4.out.below NN)
      have X0_5 := mkHid (X0_4.out.below NN)
      have O0_5 := mkHid (O0_4.out.below NN)
      clear NN hc hc' hf hf' hbx hby hox p0 p1 q0 q1 hlx hly B_4 A0_4 A1_4 A2_4 X0_4 O0_4
      go_wp2
      go_ret
      exact ⟨rfl, B_5.out⟩

set_option maxRecDepth 100000 in
theorem law_lifted (os : Os) (started : os.Started) (H : Type) (enc : TypeId × Value → H) :
    ReturnsInHanded {} Try.checked os 10 .any (Rows.fnExactSymMostSpec.pre6 enc Try.prog Try.f10 Rows.fnExactSymMostRow.domain false) (Rows.fnExactSymMostSpec.post enc Try.prog Try.f10 false true false false) := by
  refine returnsInHanded_of_change (C := Try.checked) Try.own started (by kernel_rfl) Try.func10
    (ChangeSpec.witness6 (enc := enc) (C := Try.checked) false ⟨#[], #[.agg #[.int .i64 0, .slice none 0 0], .agg #[.int .i64 0, .int .i64 0], .agg #[.int .i64 0, .int .i64 0]], []⟩ 8 (by kernel_rfl) (by kernel_rfl) (by kernel_rfl) (by kernel_rfl)) ?_
  intro W base args ds gs before hval0 hW hcnd _
  have hval : ∀ (j : Nat) t v, Try.f10.params[j]? = some t → args[j]? = some v → Value.okWide Try.prog W .any base t v := hval0
  have hW' := hW
  obtain ⟨p, q, hA0, hV, rfl, hfz, hnd⟩ := hW
  have hA : DataW.TrodAll enc Try.prog W 0 (fun _ => true) true Try.f10.params.toList args.toList ds p := hA0
  rw [Try.params10] at hA hval
  obtain ⟨v0, vs0, d0, ds0, p0, q0, hargs, rfl, rfl, h0, r0⟩ := trodAll_cons hA
  obtain ⟨v1, vs1, d1, ds1, p1, q1, rfl, rfl, rfl, h1, r1⟩ := trodAll_cons r0
  obtain ⟨v2, vs2, d2, ds2, p2, q2, rfl, rfl, rfl, h2, r2⟩ := trodAll_cons r1
  obtain ⟨rfl, rfl, rfl⟩ := trodAll_nil r2
  obtain rfl : args = #[v0, v1, v2] := by cases args; simp_all
  obtain ⟨rfl, rfl⟩ := trodVars_none hV
  have k0 := h0
  have lt0 : ∀ x ∈ p0, x.block < W.heap.size := by obtain ⟨m, hm⟩ := k0; exact DataW.trod_lt m _ _ _ hm
  have k1 := h1
  have lt1 : ∀ x ∈ p1, x.block < W.heap.size := by obtain ⟨m, hm⟩ := k1; exact DataW.trod_lt m _ _ _ hm
  have k2 := h2
  have lt2 : ∀ x ∈ p2, x.block < W.heap.size := by obtain ⟨m, hm⟩ := k2; exact DataW.trod_lt m _ _ _ hm
  obtain ⟨u00, u01, y00, y01, m0, hv0, _, _, hy00, hy01⟩ := open_agg2 Try.underlying24 (by kernel_rfl) Try.cells24 (hval 0 24 v0 rfl rfl) h0
  obtain ⟨z0, e00, _, _⟩ := DataW.trod_int Try.underlying3 hy00
  obtain ⟨a0, c0, l0, e01, hn0, hk0⟩ := open_intsv hy01
  simp at e00
  subst e00 e01 hv0
  obtain ⟨u10, u11, y10, y11, m1, hv1, _, _, hy10, hy11⟩ := open_agg2 Try.underlying44 (by kernel_rfl) Try.cells44 (hval 1 44 v1 rfl rfl) h1
  obtain ⟨s1, e10, _, _⟩ := DataW.trod_int Try.underlying3 hy10
  obtain ⟨t1, e11, _, _⟩ := DataW.trod_int Try.underlying3 hy11
  simp at e10 e11
  subst e10 e11 hv1
  obtain ⟨u20, u21, y20, y21, m2, hv2, _, _, hy20, hy21⟩ := open_agg2 Try.underlying44 (by kernel_rfl) Try.cells44 (hval 2 44 v2 rfl rfl) h2
  obtain ⟨s2, e20, _, _⟩ := DataW.trod_int Try.underlying3 hy20
  obtain ⟨t2, e21, _, _⟩ := DataW.trod_int Try.underlying3 hy21
  simp at e20 e21
  subst e20 e21 hv2
  clear hA0 hval0
  refine (law_walk z0 l0 a0 c0 s1 t1 s2 t2 W hn0 hk0).mono fun e W' ⟨he, bel⟩ => ?_
  subst he
  exact ⟨_, rfl, _, _, _, [], _, [], hW', trodAll_mk1 (shut_bool Try.underlying4 _), (trodAll_cons_mk (Below.trod Try.laidOut (by kernel_rfl) (of_decide_eq_true (by kernel_rfl)) k0 bel lt0) (trodAll_cons_mk (Below.trod Try.laidOut (by kernel_rfl) (of_decide_eq_true (by kernel_rfl)) k1 bel lt1) (trodAll_cons_mk (Below.trod Try.laidOut (by kernel_rfl) (of_decide_eq_true (by kernel_rfl)) k2 bel lt2) trodAll_mk0))), rfl, bel.frame _, fun h => by cases h⟩

theorem law_holds : Rows.FnExactSymMostSaid :=
  OpenClaim.holds_of_wide 10 Try.f10 rfl rfl rfl rfl rfl rfl rfl ⟨rfl, rfl, rfl, rfl, rfl⟩ rfl rfl rfl rfl rfl (by kernel_rfl) Try.func10 (by kernel_rfl)
    (of_decide_eq_true (by kernel_rfl)) (by unfold Func.isWrapper; first | (rw [if_pos (by decide +kernel)]; kernel_rfl) | (rw [if_neg (by decide +kernel)]; exact ⟨rfl, rfl⟩))
    (fun os started H enc _ => law_lifted os started H enc)

#print axioms law_holds
end Go.Proofs.Ytmaejdomlggopaa
