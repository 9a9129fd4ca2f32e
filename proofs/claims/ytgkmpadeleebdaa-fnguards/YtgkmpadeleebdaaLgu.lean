/-
  FnGuards holds at every row of bytes: no conditions.
-/
import Derived.Test.YtgkmpadeleebdaaPg
import Derived.Test.YtgkmpadeleebdaaDgu
import Derived.Test.YtgkmpadeleebdaaGl
import Derived.Test.YtgkmpadeleebdaaIjm
import Derived.Test.YtgkmpadeleebdaaInv
import Derived.Test.YtgkmpadeleebdaaIp
import Derived.Test.YtgkmpadeleebdaaSpb
import Derived.ProofKit
import Derived.OpenShut
import Derived.ChangeOld
import Derived.ChangeSlices
import Derived.Deep.LoopGhost
namespace Go.Proofs.Ytgkmpadeleebdaa
open Go.ChangeShapes Go.WideShapes Go.ChangeAt Go.RowKit Go.Joins
attribute [local go_sem] nlt2 nlt3 nlt4 nle2 nle3 nle4 drew_size drew_cell drew_frozen

theorem neq_rng (w : World) (a b c d : Int) : (Go.binOp .neq 25 (.agg #[.int .i64 a, .int .i64 b]) (.agg #[.int .i64 c, .int .i64 d])).run Try.prog w = .ok (.bool (!eqB a b c d)) w := by
  have u3 := Try.underlying3
  have a3 := Try.isAgg3
  have z3 := Try.sizeOf3
  have hS : Try.prog.underlying 25 = some (.struct (Try.prog.fieldsOf 25)) := by kernel_rfl
  have hp : Try.prog.stoodInHeld 25 = false := by kernel_rfl
  rw [run_neq_struct, show (10000 : Nat) = 9999 + 1 from rfl, run_equalIn_agg w 9999 25 _ _ hS hp]
  simp only [Program.fieldsOf, Try.underlying25]
  go_simp
  unfold eqB
  by_cases h1 : a = c <;> by_cases h2 : b = d <;> simp [h1, h2]
theorem Box_new9 (w : World) (x y : Int) (T : TypeId) : Box (w.alloc (.cells #[.int .i64 x, .int .i64 y] T)) w.heap.size x y := by refine ⟨?_, ?_, ?_, ?_⟩ <;> simp [go_sem]
theorem eq_self (x y : Int) : eqB x y x y = true := by simp [eqB]
set_option maxRecDepth 100000 in
set_option maxHeartbeats 12800000 in
theorem law_walk (a0 : Option Addr) (n0 c0 : Nat) (w : World) (hn0 : n0 ≤ maxLen) (hb0 : Bytes w w.heap.size a0 n0) : Calls Try.prog 4 #[.slice a0 n0 c0] w fun e w' => e = .returned (.bool true) ∧ Below w.heap.size w w' := by
  have HBY := mkHid hb0
  have HN0 := mkHid hn0
  clear hb0 hn0
  have hEq := eql_rng
  have hNq := neq_rng
  by_cases g1 : 1048576 < n0
  · have e1 : decide (1048576 < n0) = true := decide_eq_true g1
    go_enter Try.func4, Try.ntmps4
    go_wp2_with fail
    refine (big_any n0 _ _ _ HN0.out).mono ?_
    rintro e w' ⟨rfl, rfl⟩
    go_wp2
    go_ret
    exact ⟨rfl, Below.refl _ _⟩
  have e1 : decide (1048576 < n0) = false := decide_eq_false g1
  have HM0 := mkHid (show n0 ≤ 1048576 by omega)
  clear g1
  go_enter Try.func4, Try.ntmps4
  go_wp2_with fail
  refine (big_any n0 _ _ _ HN0.out).mono ?_
  rintro e w' ⟨rfl, rfl⟩
  go_wp2_with fail
  refine (drawGuard_any n0 c0 a0 w HM0.out HBY.out).mono ?_
  rintro e w1 ⟨k, a, b, c, d, rfl, hb⟩
  obtain ⟨A4, hA4⟩ : ∃ x, w1.heap.size = x := ⟨_, rfl⟩
  obtain ⟨wz, hwz⟩ : ∃ x, (w1.alloc (.cells #[.int .i64 a, .int .i64 b] 25)).alloc (.cells #[.int .i64 c, .int .i64 d] 25) = x := ⟨_, rfl⟩
  have BZ : Hid (Below w.heap.size w wz) := mkHid (by rw [← hwz]; exact bl_alloc (bl_alloc hb _) _)
  have D4 : Hid (Box wz A4 a b) := mkHid (by rw [← hwz, ← hA4]; exact (Box_new9 w1 a b 25).below (bl_alloc (Below.refl _ _) (.cells #[.int .i64 c, .int .i64 d] 25)))
  have D5 : Hid (Box wz (A4 + 1) c d) := mkHid (by rw [← hwz, ← hA4]; have := Box_new9 (w1.alloc (.cells #[.int .i64 a, .int .i64 b] 25)) c d 25; simpa using this)
  obtain ⟨G, hG⟩ : ∃ z, guardM k a b c d = z := ⟨_, rfl⟩
  obtain ⟨⟨x1, x2⟩, ⟨y1, y2⟩⟩ := G
  have H1 := mkHid (fun v => iGuard_any k a b c d v)
  have G1 := mkHid (fun v => sGuard_any k a b c d v)
  rw [hG] at H1 G1
  simp only at H1 G1
  have HGG := mkHid hG
  clear hG hb
  obtain ⟨d5, d6, -, -⟩ := D4.out
  obtain ⟨f5, f6, -, -⟩ := D5.out
  go_wp2_with fail
  clear hwz hA4 d5 d6 f5 f6
  refine (H1.out _).mono ?_
  rintro e w2 ⟨rfl, hb⟩
  obtain ⟨A6, hA6⟩ : ∃ x, w2.heap.size = x := ⟨_, rfl⟩
  obtain ⟨wy, hwy⟩ : ∃ x, (w2.alloc (.cells #[.int .i64 x1, .int .i64 x2] 25)).alloc (.cells #[.int .i64 y1, .int .i64 y2] 25) = x := ⟨_, rfl⟩
  have hby : Below wz.heap.size wz wy := by rw [← hwy]; exact bl_alloc (bl_alloc hb _) _
  have BZ := mkHid (below_step BZ.out hby)
  have D4 := mkHid (D4.out.below hby)
  have D5 := mkHid (D5.out.below hby)
  have D6 : Hid (Box wy A6 x1 x2) := mkHid (by rw [← hwy, ← hA6]; exact (Box_new9 w2 x1 x2 25).below (bl_alloc (Below.refl _ _) (.cells #[.int .i64 y1, .int .i64 y2] 25)))
  have D7 : Hid (Box wy (A6 + 1) y1 y2) := mkHid (by rw [← hwy, ← hA6]; have := Box_new9 (w2.alloc (.cells #[.int .i64 x1, .int .i64 x2] 25)) y1 y2 25; simpa using this)
  clear hb hby H1
  obtain ⟨d5, d6, -, -⟩ := D4.out
  obtain ⟨f5, f6, -, -⟩ := D5.out
  go_wp2_with fail
  clear hwy hA6 d5 d6 f5 f6
  refine (G1.out _).mono ?_
  rintro e w3 ⟨rfl, hb⟩
  obtain ⟨A8, hA8⟩ : ∃ x, w3.heap.size = x := ⟨_, rfl⟩
  obtain ⟨wx, hwx⟩ : ∃ x, (w3.alloc (.cells #[.int .i64 x1, .int .i64 x2] 25)).alloc (.cells #[.int .i64 y1, .int .i64 y2] 25) = x := ⟨_, rfl⟩
  have hby : Below wy.heap.size wy wx := by rw [← hwx]; exact bl_alloc (bl_alloc hb _) _
  have BZ := mkHid (below_step BZ.out hby)
  have D4 := mkHid (D4.out.below hby)
  have D5 := mkHid (D5.out.below hby)
  have D6 := mkHid (D6.out.below hby)
  have D7 := mkHid (D7.out.below hby)
  have D8 : Hid (Box wx A8 x1 x2) := mkHid (by rw [← hwx, ← hA8]; exact (Box_new9 w3 x1 x2 25).below (bl_alloc (Below.refl _ _) (.cells #[.int .i64 y1, .int .i64 y2] 25)))
  have D9 : Hid (Box wx (A8 + 1) y1 y2) := mkHid (by rw [← hwx, ← hA8]; have := Box_new9 (w3.alloc (.cells #[.int .i64 x1, .int .i64 x2] 25)) y1 y2 25; simpa using this)
  clear hb hby G1
  have s1 := eq_self x1 x2
  have s2 := eq_self y1 y2
  obtain ⟨d5, d6, -, -⟩ := D4.out
  obtain ⟨f5, f6, -, -⟩ := D5.out
  obtain ⟨g5, g6, -, -⟩ := D6.out
  obtain ⟨i5, i6, -, -⟩ := D7.out
  obtain ⟨j5, j6, -, -⟩ := D8.out
  obtain ⟨l5, l6, -, -⟩ := D9.out
  by_cases hgood : (11 ≤ k ∧ k ≤ 16) ∧ bothB a b c d = true
  rotate_left
  · have HNN : Hid (x1 = 1 ∧ x2 = 0) := mkHid (by
      have h := HGG.out
      rw [guard_none (by by_cases h1 : 11 ≤ k ∧ k ≤ 16; exact .inr (by cases h2 : bothB a b c d; rfl; exact absurd ⟨h1, h2⟩ hgood); exact .inl h1)] at h
      simp only [noneM, Prod.mk.injEq] at h
      exact ⟨h.1.1.symm, h.1.2.symm⟩)
    have HBAD := mkHid hgood
    clear hgood
    have hx12 : x2 < x1 := by have := HNN.out; omega
    by_cases k1 : k < 11
    · go_wp2
      go_ret
      exact ⟨by first | rfl | (simp; done), BZ.out⟩
    by_cases k2 : 16 < k
    · go_wp2
      go_ret
      exact ⟨by first | rfl | (simp; done), BZ.out⟩
    go_wp2_with fail
    clear d5 d6 f5 f6 g5 g6 i5 i6 j5 j6 l5 l6
    refine (sOk_any a b _).mono ?_
    rintro e wp ⟨rfl, hb⟩
    have BZ := mkHid (below_step BZ.out hb)
    have D4 := mkHid (D4.out.below hb)
    have D5 := mkHid (D5.out.below hb)
    have D6 := mkHid (D6.out.below hb)
    have D7 := mkHid (D7.out.below hb)
    have D8 := mkHid (D8.out.below hb)
    have D9 := mkHid (D9.out.below hb)
    clear hb
    obtain ⟨d5, d6, -, -⟩ := D4.out
    obtain ⟨f5, f6, -, -⟩ := D5.out
    obtain ⟨g5, g6, -, -⟩ := D6.out
    obtain ⟨i5, i6, -, -⟩ := D7.out
    obtain ⟨j5, j6, -, -⟩ := D8.out
    obtain ⟨l5, l6, -, -⟩ := D9.out
    cases ho1 : okB a b
    · go_wp2
      go_ret
      exact ⟨by first | rfl | (simp; done), BZ.out⟩
    go_wp2_with fail
    clear d5 d6 f5 f6 g5 g6 i5 i6 j5 j6 l5 l6
    refine (sOk_any c d _).mono ?_
    rintro e wq ⟨rfl, hb⟩
    have BZ := mkHid (below_step BZ.out hb)
    have D4 := mkHid (D4.out.below hb)
    have D5 := mkHid (D5.out.below hb)
    have D6 := mkHid (D6.out.below hb)
    have D7 := mkHid (D7.out.below hb)
    have D8 := mkHid (D8.out.below hb)
    have D9 := mkHid (D9.out.below hb)
    clear hb
    obtain ⟨d5, d6, -, -⟩ := D4.out
    obtain ⟨f5, f6, -, -⟩ := D5.out
    obtain ⟨g5, g6, -, -⟩ := D6.out
    obtain ⟨i5, i6, -, -⟩ := D7.out
    obtain ⟨j5, j6, -, -⟩ := D8.out
    obtain ⟨l5, l6, -, -⟩ := D9.out
    cases ho2 : okB c d
    · go_wp2
      go_ret
      exact ⟨by first | rfl | (simp; done), BZ.out⟩
    by_cases hab : b < a
    · go_wp2
      go_ret
      exact ⟨by first | rfl | (simp; done), BZ.out⟩
    by_cases hcd : d < c
    · go_wp2
      go_ret
      exact ⟨by first | rfl | (simp; done), BZ.out⟩
    exfalso
    have ka := ok_iff.1 ho1
    have kc := ok_iff.1 ho2
    refine HBAD.out ⟨by omega, ?_⟩
    unfold bothB
    rw [some_iff.2 (show -1000000 ≤ a ∧ a ≤ b ∧ b ≤ 1000000 by omega), some_iff.2 (show -1000000 ≤ c ∧ c ≤ d ∧ d ≤ 1000000 by omega)]
    rfl
  obtain ⟨⟨hA, hC⟩, hL⟩ : ((-1000000 ≤ a ∧ a ≤ b ∧ b ≤ 1000000) ∧ (-1000000 ≤ c ∧ c ≤ d ∧ d ≤ 1000000)) ∧ (leqB x1 x2 a b = true ∧ leqB y1 y2 c d = true) := ⟨both_of hgood.2, by have h := guard_leq hgood.1 hgood.2; rw [HGG.out] at h; exact h⟩
  have HHAS : Hid (∀ u v, a ≤ u → u ≤ b → c ≤ v → v ≤ d → holdsB k u v = true → hasB x1 x2 u = true ∧ hasB y1 y2 v = true) := mkHid fun u v u1 u2 v1 v2 hh => by have h := guard_has hgood.1 hgood.2 u1 u2 v1 v2 hh; rw [HGG.out] at h; exact h
  have ho1 : okB a b = true := by unfold okB; exact decide_eq_true (.inr hA)
  have ho2 : okB c d = true := by unfold okB; exact decide_eq_true (.inr hC)
  have k1 : ¬ k < 11 := by omega
  have k2 : ¬ 16 < k := by omega
  have hab : ¬ b < a := by omega
  have hcd : ¬ d < c := by omega
  obtain ⟨l1, l2⟩ := hL
  clear hgood HGG
  go_wp2_with fail
  clear d5 d6 f5 f6 g5 g6 i5 i6 j5 j6 l5 l6
  refine (sOk_any a b _).mono ?_
  rintro e wp ⟨rfl, hb⟩
  have BZ := mkHid (below_step BZ.out hb)
  have D4 := mkHid (D4.out.below hb)
  have D5 := mkHid (D5.out.below hb)
  have D6 := mkHid (D6.out.below hb)
  have D7 := mkHid (D7.out.below hb)
  have D8 := mkHid (D8.out.below hb)
  have D9 := mkHid (D9.out.below hb)
  clear hb
  obtain ⟨d5, d6, -, -⟩ := D4.out
  obtain ⟨f5, f6, -, -⟩ := D5.out
  obtain ⟨g5, g6, -, -⟩ := D6.out
  obtain ⟨i5, i6, -, -⟩ := D7.out
  obtain ⟨j5, j6, -, -⟩ := D8.out
  obtain ⟨l5, l6, -, -⟩ := D9.out
  go_wp2_with fail
  clear d5 d6 f5 f6 g5 g6 i5 i6 j5 j6 l5 l6
  refine (sOk_any c d _).mono ?_
  rintro e wq ⟨rfl, hb⟩
  have BZ := mkHid (below_step BZ.out hb)
  have D4 := mkHid (D4.out.below hb)
  have D5 := mkHid (D5.out.below hb)
  have D6 := mkHid (D6.out.below hb)
  have D7 := mkHid (D7.out.below hb)
  have D8 := mkHid (D8.out.below hb)
  have D9 := mkHid (D9.out.below hb)
  clear hb
  obtain ⟨d5, d6, -, -⟩ := D4.out
  obtain ⟨f5, f6, -, -⟩ := D5.out
  obtain ⟨g5, g6, -, -⟩ := D6.out
  obtain ⟨i5, i6, -, -⟩ := D7.out
  obtain ⟨j5, j6, -, -⟩ := D8.out
  obtain ⟨l5, l6, -, -⟩ := D9.out
  go_wp2_with fail
  clear d5 d6 f5 f6 g5 g6 i5 i6 j5 j6 l5 l6
  refine (iLeq_any x1 x2 a b _).mono ?_
  rintro e wr1 ⟨rfl, hb⟩
  have BZ := mkHid (below_step BZ.out hb)
  have D4 := mkHid (D4.out.below hb)
  have D5 := mkHid (D5.out.below hb)
  have D6 := mkHid (D6.out.below hb)
  have D7 := mkHid (D7.out.below hb)
  have D8 := mkHid (D8.out.below hb)
  have D9 := mkHid (D9.out.below hb)
  clear hb
  obtain ⟨d5, d6, -, -⟩ := D4.out
  obtain ⟨f5, f6, -, -⟩ := D5.out
  obtain ⟨g5, g6, -, -⟩ := D6.out
  obtain ⟨i5, i6, -, -⟩ := D7.out
  obtain ⟨j5, j6, -, -⟩ := D8.out
  obtain ⟨l5, l6, -, -⟩ := D9.out
  go_wp2_with fail
  clear d5 d6 f5 f6 g5 g6 i5 i6 j5 j6 l5 l6
  refine (iLeq_any y1 y2 c d _).mono ?_
  rintro e wv ⟨rfl, hb⟩
  have BZ := mkHid (below_step BZ.out hb)
  have D4 := mkHid (D4.out.below hb)
  have D5 := mkHid (D5.out.below hb)
  have D6 := mkHid (D6.out.below hb)
  have D7 := mkHid (D7.out.below hb)
  have D8 := mkHid (D8.out.below hb)
  have D9 := mkHid (D9.out.below hb)
  clear hb
  obtain ⟨d5, d6, -, -⟩ := D4.out
  obtain ⟨f5, f6, -, -⟩ := D5.out
  obtain ⟨g5, g6, -, -⟩ := D6.out
  obtain ⟨i5, i6, -, -⟩ := D7.out
  obtain ⟨j5, j6, -, -⟩ := D8.out
  obtain ⟨l5, l6, -, -⟩ := D9.out
  have ha1 : -1000000 ≤ a := by omega
  have hb1 : b ≤ 1000000 := by omega
  have hc1 : -1000000 ≤ c := by omega
  have hd1 : d ≤ 1000000 := by omega
  have hw1 : IntKind.i64.wrap (b - a) = b - a := IntWalk.i64_in _ ⟨by omega, by omega⟩
  have hw2 : IntKind.i64.wrap (b - a + 1) = b - a + 1 := IntWalk.i64_in _ ⟨by omega, by omega⟩
  have hw3 : IntKind.i64.wrap (d - c) = d - c := IntWalk.i64_in _ ⟨by omega, by omega⟩
  have hw4 : IntKind.i64.wrap (d - c + 1) = d - c + 1 := IntWalk.i64_in _ ⟨by omega, by omega⟩
  have HY7 := mkHid (HBY.out.up BZ.out.size BZ.out)
  have hab2 : a ≤ b := hA.2.1
  have hcd2 : c ≤ d := hC.2.1
  clear ho1 ho2 hA hC k1 k2
  go_wp2_with fail
  clear l1 l2 d5 d6 f5 f6 g5 g6 i5 i6 j5 j6 l5 l6 s1 s2 hab hcd
  go_loopg [10] 8 (fun g s10 wr => ∃ u : Nat, u + g = 8 ∧ s10 = .int .i64 u ∧ Below wv.heap.size wv wr)
  case atStart => exact ⟨0, by omega, rfl, Below.refl _ _⟩
  case round =>
    obtain ⟨u, hug, rfl, hB⟩ := hrel
    have HB := mkHid hB
    obtain ⟨d5, d6, -, -⟩ := D4.out.below hB
    obtain ⟨f5, f6, -, -⟩ := D5.out.below hB
    obtain ⟨g5, g6, -, -⟩ := D6.out.below hB
    obtain ⟨i5, i6, -, -⟩ := D7.out.below hB
    have HYr := mkHid (HY7.out.up hB.size hB)
    clear hB
    cases gk with
    | zero =>
      have hlt : ¬ ((u : Int) < 8) := by omega
      go_wp2
      go_ret
      exact ⟨rfl, below_step BZ.out HB.out⟩
    | succ g =>
      have hlt : (u : Int) < 8 := by omega
      have hu9 : IntKind.i64.wrap ((u : Int) + 5) = ((u + 5 : Nat) : Int) := by rw [IntWalk.i64_in _ ⟨by omega, by omega⟩]; omega
      obtain ⟨u9, hu9e⟩ : ∃ k, u + 5 = k := ⟨_, rfl⟩
      rw [hu9e] at hu9
      have hu9b : u9 ≤ 100 := by omega
      clear hu9e
      go_wp2_with fail
      go_region_held3 (fun v => v.cell? ⟨A4, 0, none⟩ = some (.int .i64 a) ∧ v.cell? ⟨A4, 1, none⟩ = some (.int .i64 b))
        (first | exact ⟨d5, d6⟩ | assumption)
        (first | (go_at_call 16; refine (lpick_any n0 c0 _ u (b - a + 1) a0 _ HM0.out (HYr.out.up (Nat.le_refl _) (Below.refl _ _).drew) (by omega) (by omega) (by omega)).mono ?_; rintro e w9 ⟨r, rfl, r0, r1, rfl⟩; have hwr : IntKind.i64.wrap (a + r) = a + r := IntWalk.i64_in _ ⟨by omega, by omega⟩))
      obtain ⟨x, hx⟩ : ∃ x, a + r = x := ⟨_, rfl⟩
      rw [hx]
      have hx1 : a ≤ x := by omega
      have hx2 : x ≤ b := by omega
      clear hx hwr r0 r1
      go_wp2_with fail
      go_region_held3 (fun v => v.cell? ⟨A4 + 1, 0, none⟩ = some (.int .i64 c) ∧ v.cell? ⟨A4 + 1, 1, none⟩ = some (.int .i64 d))
        (first | exact ⟨f5, f6⟩ | assumption)
        (first | (go_at_call 16; refine (lpick_any n0 c0 _ u9 (d - c + 1) a0 _ HM0.out (HYr.out.up (Nat.le_refl _) ((Below.refl _ _).drew).drew) (by omega) (by omega) (by omega)).mono ?_; rintro e w9 ⟨r, rfl, r0, r1, rfl⟩; have hwr : IntKind.i64.wrap (c + r) = c + r := IntWalk.i64_in _ ⟨by omega, by omega⟩))
      obtain ⟨y, hy⟩ : ∃ y, c + r = y := ⟨_, rfl⟩
      rw [hy]
      have hy1 : c ≤ y := by omega
      have hy2 : y ≤ d := by omega
      clear hy hwr r0 r1
      by_cases h6 : (u : Int) = 6
      · have h7 : ¬ (u : Int) = 7 := by omega
        go_wp2_with fail
        refine (holds_any k a y _).mono ?_
        rintro e w9 ⟨rfl, rfl⟩
        cases hh : holdsB k a y
        · go_wp2
          go_roundg g
          case measure => omega
          case rel => exact ⟨u + 1, by omega, by go_num, HB.out.drew.drew⟩
        obtain ⟨m1, m2⟩ := HHAS.out a y (Int.le_refl _) hab2 hy1 hy2 hh
        go_wp2_with fail
        refine (iHas_any x1 x2 a _).mono ?_
        rintro e w7 ⟨rfl, hb⟩
        obtain ⟨i5, i6, -, -⟩ := (D7.out.below HB.out.drew.drew).below hb
        have HB := mkHid (below_step HB.out.drew.drew hb)
        clear hb
        go_wp2_with fail
        refine (iHas_any y1 y2 y _).mono ?_
        rintro e w8 ⟨rfl, hb⟩
        have HB := mkHid (below_step HB.out hb)
        clear hb
        go_wp2
        go_roundg g
        case measure => omega
        case rel => exact ⟨u + 1, by omega, by go_num, HB.out⟩
      by_cases h7 : (u : Int) = 7
      · skip
        go_wp2_with fail
        refine (holds_any k x d _).mono ?_
        rintro e w9 ⟨rfl, rfl⟩
        cases hh : holdsB k x d
        · go_wp2
          go_roundg g
          case measure => omega
          case rel => exact ⟨u + 1, by omega, by go_num, HB.out.drew.drew⟩
        obtain ⟨m1, m2⟩ := HHAS.out x d hx1 hx2 hcd2 (Int.le_refl _) hh
        go_wp2_with fail
        refine (iHas_any x1 x2 x _).mono ?_
        rintro e w7 ⟨rfl, hb⟩
        obtain ⟨i5, i6, -, -⟩ := (D7.out.below HB.out.drew.drew).below hb
        have HB := mkHid (below_step HB.out.drew.drew hb)
        clear hb
        go_wp2_with fail
        refine (iHas_any y1 y2 d _).mono ?_
        rintro e w8 ⟨rfl, hb⟩
        have HB := mkHid (below_step HB.out hb)
        clear hb
        go_wp2
        go_roundg g
        case measure => omega
        case rel => exact ⟨u + 1, by omega, by go_num, HB.out⟩
      go_wp2_with fail
      refine (holds_any k x y _).mono ?_
      rintro e w9 ⟨rfl, rfl⟩
      cases hh : holdsB k x y
      · go_wp2
        go_roundg g
        case measure => omega
        case rel => exact ⟨u + 1, by omega, by go_num, HB.out.drew.drew⟩
      obtain ⟨m1, m2⟩ := HHAS.out x y hx1 hx2 hy1 hy2 hh
      go_wp2_with fail
      refine (iHas_any x1 x2 x _).mono ?_
      rintro e w7 ⟨rfl, hb⟩
      obtain ⟨i5, i6, -, -⟩ := (D7.out.below HB.out.drew.drew).below hb
      have HB := mkHid (below_step HB.out.drew.drew hb)
      clear hb
      go_wp2_with fail
      refine (iHas_any y1 y2 y _).mono ?_
      rintro e w8 ⟨rfl, hb⟩
      have HB := mkHid (below_step HB.out hb)
      clear hb
      go_wp2
      go_roundg g
      case measure => omega
      case rel => exact ⟨u + 1, by omega, by go_num, HB.out⟩
theorem Try.own : ownKnob Try.prog.godebug = none := by kernel_rfl
theorem Try.laidOut : laidOutB Try.prog = true := by kernel_rfl
theorem open_bytes {H : Type} {enc : TypeId × Value → H} {W : World} {a : Option Addr} {len cap : Nat} {x : DataW H} {p : List MemPlace} (h : DataW.Trod enc Try.prog W 0 (fun _ => true) true 22 (.slice a len cap) x p) : Bytes W W.heap.size a len ∧ len ≤ maxLen := by
  obtain ⟨fuel, hf⟩ := h
  rcases open_ints Try.underlying22 Try.underlying5 (by kernel_rfl) hf with ⟨hcs, _⟩ | ⟨ad, l, c, zs, hcs, _, hl, hm, hz, _, hcell, hwz⟩
  · simp [Value.cells] at hcs
    exact ⟨.inl hcs.2.1, by rw [hcs.2.1]; exact Nat.zero_le _⟩
  · simp [Value.cells] at hcs
    obtain ⟨rfl, rfl, rfl⟩ := hcs
    refine ⟨?_, by omega⟩
    by_cases h0 : len = 0
    · exact .inl h0
    · have hzl : zs.length = cap := by simpa using hz
      obtain ⟨b, off, rfl, hc⟩ := ints_at hcell (by omega)
      refine .inr ⟨b, off, rfl, World.block_lt_of_cell? W _ (hc 0 (by omega)), fun i hi => ?_⟩
      have hmem : zs.getD i 0 ∈ zs := by
        rw [List.getD_eq_getElem?_getD, List.getElem?_eq_getElem (by omega)]
        exact List.getElem_mem _
      have hw := bounds_u8 (hwz _ hmem)
      exact ⟨_, hw.1, hw.2, hc i (by omega)⟩

set_option maxRecDepth 100000 in
theorem law_lifted (os : Os) (started : os.Started) (H : Type) (enc : TypeId × Value → H) :
    ReturnsInHanded {} Try.checked os 4 .any (Rows.fnGuardsSpec.pre6 enc Try.prog Try.f4 Rows.fnGuardsRow.domain false) (Rows.fnGuardsSpec.post enc Try.prog Try.f4 false true false false) := by
  refine returnsInHanded_of_change (C := Try.checked) Try.own started (by kernel_rfl) Try.func4
    (ChangeSpec.witness6 (enc := enc) (C := Try.checked) false ⟨#[], #[.slice none 0 0], []⟩ 8 (by kernel_rfl) (by kernel_rfl) (by kernel_rfl) (by kernel_rfl)) ?_
  intro W base args ds gs before hval0 hW hcnd _
  have hval : ∀ (j : Nat) t v, Try.f4.params[j]? = some t → args[j]? = some v → Value.okWide Try.prog W .any base t v := hval0
  have hW' := hW
  obtain ⟨p, q, hA0, hV, rfl, hfz, hnd⟩ := hW
  have hA : DataW.TrodAll enc Try.prog W 0 (fun _ => true) true Try.f4.params.toList args.toList ds p := hA0
  rw [Try.params4] at hA hval
  obtain ⟨v0, vs0, d0, ds0, p0, q0, hargs, rfl, rfl, h0, r0⟩ := trodAll_cons hA
  obtain ⟨rfl, rfl, rfl⟩ := trodAll_nil r0
  obtain rfl : args = #[v0] := by cases args; simp_all
  obtain ⟨rfl, rfl⟩ := trodVars_none hV
  obtain ⟨a0, len0, cap0, rfl⟩ := okWide_slice Try.underlying22 (hval 0 22 v0 rfl rfl)
  have lt0 : ∀ x ∈ p0, x.block < W.heap.size := by obtain ⟨m, hm⟩ := h0; exact DataW.trod_lt m _ _ _ hm
  clear hA0 hval0
  refine (law_walk a0 len0 cap0 W (open_bytes h0).2 (open_bytes h0).1).mono fun e W' ⟨he, bel⟩ => ?_
  subst he
  exact ⟨_, rfl, _, _, _, [], _, [], hW', trodAll_mk1 (shut_bool Try.underlying4 _), (trodAll_cons_mk (Below.trod Try.laidOut (by kernel_rfl) (of_decide_eq_true (by kernel_rfl)) h0 bel lt0) trodAll_mk0), rfl, bel.frame _, fun h => by cases h⟩

theorem law_holds : Rows.FnGuardsSaid :=
  OpenClaim.holds_of_wide 4 Try.f4 rfl rfl rfl rfl rfl rfl rfl ⟨rfl, rfl, rfl, rfl, rfl⟩ rfl rfl rfl rfl rfl (by kernel_rfl) Try.func4 (by kernel_rfl)
    (of_decide_eq_true (by kernel_rfl)) (by unfold Func.isWrapper; first | (rw [if_pos (by decide +kernel)]; kernel_rfl) | (rw [if_neg (by decide +kernel)]; exact ⟨rfl, rfl⟩))
    (fun os started H enc _ => law_lifted os started H enc)

#print axioms law_holds
end Go.Proofs.Ytgkmpadeleebdaa
