/-
  FnExactValWiden holds at every argument: the program's ValWiden answers as the specification's, and the arguments read as before. No conditions.
-/
import Derived.Test.YtkapogekghicaaaVwi
import Derived.Test.YtkapogekghicaaaLv
namespace Go.Proofs.Ytkapogekghicaaa
open Go.ChangeShapes Go.WideShapes Go.ChangeAt Go.RowKit Go.Joins

theorem CalV.lt {w0 v : World} {al st : Bool} {X : Nat} {a b : Int} {s : Bool} (h : CalV w0 al st X a b s v) (e : al = true) : X < v.heap.size := by
  cases hs : st
  · exact ((h.box e).2.1 hs).lt
  · exact ((h.box e).2.2 hs).lt
theorem IntsIn.ne {v : World} {l : List Int} {g : Nat} (h : IntsIn v l g 0) : l = [] ∨ g ≠ v.heap.size := by
  cases l with
  | nil => exact .inl rfl
  | cons x l => exact .inr (Nat.ne_of_lt (World.block_lt_of_cell? v _ (h 0 x rfl)))
theorem IntsIn.set3 {v : World} {l : List Int} {g X : Nat} (h : IntsIn v l g 0) (hn : l = [] ∨ g ≠ X) (x y z : Value) : IntsIn (((v.setCell ⟨X, 0, none⟩ x).setCell ⟨X, 1, none⟩ y).setCell ⟨X, 2, none⟩ z) l g 0 := by
  intro i q hq
  rcases hn with rfl | hn
  · simp at hq
  · have := h i q hq
    simpa [go_sem, hn] using this
theorem toIntS_own (l : List Int) (a : Option Addr) (c : Nat) (w : World) (hn : l.length ≤ 1048576) (hl : IntsOf w l a) :
    Calls Try.prog 20 #[.slice a l.length c] w fun e w' => ∃ g, e = .returned (.slice (some ⟨g, 0, none⟩) l.length l.length) ∧ IntsIn w' l g 0 ∧ w.heap.size ≤ g ∧ Below w.heap.size w w' :=
  (toIntS_ok l a c w hn hl).mono fun _ _ h => ⟨_, h.1, h.2.1, Nat.le_refl _, h.2.2⟩
set_option maxRecDepth 100000 in
set_option maxHeartbeats 6400000 in
theorem law_walk (a b : Int) (s : Bool) (c d : Int) (t : Bool) (l : List Int) (ad : Option Addr) (cap : Nat) (w : World) (hn : l.length ≤ maxLen) (hl : IntsOf w l ad) : Calls Try.prog 7 #[.agg #[.int .i64 a, .int .i64 b, .bool s], .agg #[.int .i64 c, .int .i64 d, .bool t], .slice ad l.length cap] w fun e w' => e = .returned (.bool true) ∧ Below w.heap.size w w' := by
  obtain ⟨r0, hr0⟩ : ∃ x, (widenV a b s c d t l).1 = x := ⟨_, rfl⟩
  have HR0 := mkHid hr0
  clear hr0
  obtain ⟨r1, hr1⟩ : ∃ x, (widenV a b s c d t l).2.1 = x := ⟨_, rfl⟩
  have HR1 := mkHid hr1
  clear hr1
  obtain ⟨r2, hr2⟩ : ∃ x, (widenV a b s c d t l).2.2 = x := ⟨_, rfl⟩
  have HR2 := mkHid hr2
  clear hr2
  have HS := mkHid hl
  have HN := mkHid hn
  unfold maxLen at hn
  clear hl
  by_cases hM : l.length ≤ 1048576
  · have HM := mkHid hM
    go_enter Try.func7, Try.ntmps7
    go_wp2_with fail
    obtain ⟨w0, hw0⟩ : ∃ x : World, ((w.alloc (.cells #[.int .i64 a, .int .i64 b, .bool s] 25)).alloc (.cells #[.int .i64 c, .int .i64 d, .bool t] 25)) = x := ⟨_, rfl⟩
    have HB : Hid (Below w.heap.size w w0) := mkHid (by rw [← hw0]; exact bl_alloc (bl_alloc (Below.refl _ _) _) _)
    have HX : Hid (V3 w0 w.heap.size a b s) := mkHid (by rw [← hw0]; constructor <;> simp [go_sem])
    have HY : Hid (V3 w0 (w.heap.size + 1) c d t) := mkHid (by rw [← hw0]; constructor <;> simp [go_sem])
    rw [hw0]
    clear hw0
    refine wp_region_inv2 (fun zA0 L zA va => ∃ (zB : Nat → Bool) (zS : Nat → Value) (g : Nat) (X : Nat), L = #[zB 0, zB 1, zB 2, zB 3, zB 4, zB 5, zB 6, zB 7, zB 8] ∧ zA = puts zA0 [(13, zS 13), (14, zS 14), (15, zS 15), (16, zS 16), (17, zS 17), (18, zS 18), (19, zS 19), (7, zS 7)] ∧ ((zB 0 = true → zS 13 = .agg #[.int .i64 a, .int .i64 b, .bool s]) ∧ (zB 1 = true → zS 14 = .agg #[.int .i64 a, .int .i64 b, .bool s]) ∧ (zB 2 = true → zS 15 = .agg #[.int .i64 c, .int .i64 d, .bool t]) ∧ (zB 3 = true → zS 16 = .agg #[.int .i64 c, .int .i64 d, .bool t]) ∧ (zB 4 = true → zS 17 = .slice ad l.length cap) ∧ (zB 5 = true → zS 18 = .slice (some ⟨g, 0, none⟩) l.length l.length) ∧ (zB 6 = true → zS 19 = .agg #[.int .i64 r0, .int .i64 r1, .bool r2]) ∧ (zB 7 = true → zS 7 = .pointer (some ⟨X, 0, none⟩))) ∧ (CalV w0 (zB 7) (zB 8) X r0 r1 r2 va) ∧ ((zB 5) = true → IntsIn va l g 0 ∧ ((zB 7) = true → l = [] ∨ g ≠ X))) (by kernel_rfl) ?_ ?_ ?_
    · exact ⟨fun _ => false, fun _ => undef, 0, 0, rfl, by kernel_rfl, ⟨fun e => ft e, fun e => ft e, fun e => ft e, fun e => ft e, fun e => ft e, fun e => ft e, fun e => ft e, fun e => ft e⟩, ⟨CalV.start (Below.refl _ _).drew, fun e => ft e⟩⟩
    · refine StepsI.cons rfl ?_ ?_
      · rintro L zA va ⟨zB, zS, g, X, rfl, rfl, hF, hW⟩ hL hm K hK
        have hb0 : zB 0 = false := by simpa using hL
        clear hL hm
        simp only [puts, Act.put, List.setIfInBounds_toArray, List.set_cons_zero, List.set_cons_succ]
        obtain ⟨q0, q1, q2, _, _, _⟩ := (HX.out.below hW.1.bel)
        go_simp
        exact hK.out _ _ ⟨fun zj => if zj = 0 then true else zB zj, fun zd => if zd = 13 then .agg #[.int .i64 a, .int .i64 b, .bool s] else zS zd, g, X, rfl, by kernel_rfl, ⟨fun _ => rfl, hF.2.1, hF.2.2.1, hF.2.2.2.1, hF.2.2.2.2.1, hF.2.2.2.2.2.1, hF.2.2.2.2.2.2.1, hF.2.2.2.2.2.2.2⟩, hW⟩
      refine StepsI.cons rfl ?_ ?_
      · rintro L zA va ⟨zB, zS, g, X, rfl, rfl, hF, hW⟩ hL hm K hK
        have hb1 : zB 1 = false := by simpa using hL
        have hb0 : zB 0 = true := by cases e : zB 0 with | false => (exfalso; revert hm; simp [metB, Region.binds, e]) | true => rfl
        have e0 : zS 13 = .agg #[.int .i64 a, .int .i64 b, .bool s] := hF.1 hb0
        clear hL hm
        simp only [puts, Act.put, List.setIfInBounds_toArray, List.set_cons_zero, List.set_cons_succ]
        simp only [e0]
        go_simp
        refine (toVal_any a b s _).mono ?_
        rintro e va2 ⟨rfl, hb⟩
        go_wp2_with fail
        exact hK.out _ _ ⟨fun zj => if zj = 0 then true else if zj = 1 then true else zB zj, fun zd => if zd = 14 then .agg #[.int .i64 a, .int .i64 b, .bool s] else if zd = 13 then .agg #[.int .i64 a, .int .i64 b, .bool s] else zS zd, g, X, by simp [hb0], by kernel_rfl, ⟨fun _ => rfl, fun _ => rfl, hF.2.2.1, hF.2.2.2.1, hF.2.2.2.2.1, hF.2.2.2.2.2.1, hF.2.2.2.2.2.2.1, hF.2.2.2.2.2.2.2⟩, ⟨hW.1.below hb, fun e => ⟨(hW.2 e).1.below hb, (hW.2 e).2⟩⟩⟩
      refine StepsI.cons rfl ?_ ?_
      · rintro L zA va ⟨zB, zS, g, X, rfl, rfl, hF, hW⟩ hL hm K hK
        have hb2 : zB 2 = false := by simpa using hL
        clear hL hm
        simp only [puts, Act.put, List.setIfInBounds_toArray, List.set_cons_zero, List.set_cons_succ]
        obtain ⟨q0, q1, q2, _, _, _⟩ := (HY.out.below hW.1.bel)
        go_simp
        exact hK.out _ _ ⟨fun zj => if zj = 2 then true else zB zj, fun zd => if zd = 15 then .agg #[.int .i64 c, .int .i64 d, .bool t] else zS zd, g, X, rfl, by kernel_rfl, ⟨hF.1, hF.2.1, fun _ => rfl, hF.2.2.2.1, hF.2.2.2.2.1, hF.2.2.2.2.2.1, hF.2.2.2.2.2.2.1, hF.2.2.2.2.2.2.2⟩, hW⟩
      refine StepsI.cons rfl ?_ ?_
      · rintro L zA va ⟨zB, zS, g, X, rfl, rfl, hF, hW⟩ hL hm K hK
        have hb3 : zB 3 = false := by simpa using hL
        have hb2 : zB 2 = true := by cases e : zB 2 with | false => (exfalso; revert hm; simp [metB, Region.binds, e]) | true => rfl
        have e2 : zS 15 = .agg #[.int .i64 c, .int .i64 d, .bool t] := hF.2.2.1 hb2
        clear hL hm
        simp only [puts, Act.put, List.setIfInBounds_toArray, List.set_cons_zero, List.set_cons_succ]
        simp only [e2]
        go_simp
        refine (toVal_any c d t _).mono ?_
        rintro e va2 ⟨rfl, hb⟩
        go_wp2_with fail
        exact hK.out _ _ ⟨fun zj => if zj = 2 then true else if zj = 3 then true else zB zj, fun zd => if zd = 16 then .agg #[.int .i64 c, .int .i64 d, .bool t] else if zd = 15 then .agg #[.int .i64 c, .int .i64 d, .bool t] else zS zd, g, X, by simp [hb2], by kernel_rfl, ⟨hF.1, hF.2.1, fun _ => rfl, fun _ => rfl, hF.2.2.2.2.1, hF.2.2.2.2.2.1, hF.2.2.2.2.2.2.1, hF.2.2.2.2.2.2.2⟩, ⟨hW.1.below hb, fun e => ⟨(hW.2 e).1.below hb, (hW.2 e).2⟩⟩⟩
      refine StepsI.cons rfl ?_ ?_
      · rintro L zA va ⟨zB, zS, g, X, rfl, rfl, hF, hW⟩ hL hm K hK
        have hb4 : zB 4 = false := by simpa using hL
        clear hL hm
        simp only [puts, Act.put, List.setIfInBounds_toArray, List.set_cons_zero, List.set_cons_succ]
        go_simp
        exact hK.out _ _ ⟨fun zj => if zj = 4 then true else zB zj, fun zd => if zd = 17 then .slice ad l.length cap else zS zd, g, X, rfl, by kernel_rfl, ⟨hF.1, hF.2.1, hF.2.2.1, hF.2.2.2.1, fun _ => rfl, hF.2.2.2.2.2.1, hF.2.2.2.2.2.2.1, hF.2.2.2.2.2.2.2⟩, hW⟩
      refine StepsI.cons rfl ?_ ?_
      · rintro L zA va ⟨zB, zS, g, X, rfl, rfl, hF, hW⟩ hL hm K hK
        have hb5 : zB 5 = false := by simpa using hL
        have hb4 : zB 4 = true := by cases e : zB 4 with | false => (exfalso; revert hm; simp [metB, Region.binds, e]) | true => rfl
        have e4 : zS 17 = .slice ad l.length cap := hF.2.2.2.2.1 hb4
        clear hL hm
        rw [hb5] at hW
        simp only [puts, Act.put, List.setIfInBounds_toArray, List.set_cons_zero, List.set_cons_succ]
        simp only [e4]
        go_simp
        refine (toIntS_own l ad cap _ HM.out (HS.out.below (below_step HB.out hW.1.bel))).mono ?_
        rintro e va2 ⟨g2, rfl, hI, hG, hb⟩
        go_wp2_with fail
        exact hK.out _ _ ⟨fun zj => if zj = 4 then true else if zj = 5 then true else zB zj, fun zd => if zd = 18 then .slice (some ⟨g2, 0, none⟩) l.length l.length else if zd = 17 then .slice ad l.length cap else zS zd, g2, X, by simp [hb4], by kernel_rfl, ⟨hF.1, hF.2.1, hF.2.2.1, hF.2.2.2.1, fun _ => rfl, fun _ => rfl, hF.2.2.2.2.2.2.1, hF.2.2.2.2.2.2.2⟩, ⟨hW.1.below hb, fun _ => ⟨hI, fun e => .inr (Nat.ne_of_gt (Nat.lt_of_lt_of_le (hW.1.lt e) hG))⟩⟩⟩
      refine StepsI.cons rfl ?_ ?_
      · rintro L zA va ⟨zB, zS, g, X, rfl, rfl, hF, hW⟩ hL hm K hK
        have hb6 : zB 6 = false := by simpa using hL
        have hb1 : zB 1 = true := by cases e : zB 1 with | false => (exfalso; revert hm; simp [metB, Region.binds, e]) | true => rfl
        have hb3 : zB 3 = true := by cases e : zB 3 with | false => (exfalso; revert hm; simp [metB, Region.binds, e]) | true => rfl
        have hb5 : zB 5 = true := by cases e : zB 5 with | false => (exfalso; revert hm; simp [metB, Region.binds, e]) | true => rfl
        have e1 : zS 14 = .agg #[.int .i64 a, .int .i64 b, .bool s] := hF.2.1 hb1
        have e3 : zS 16 = .agg #[.int .i64 c, .int .i64 d, .bool t] := hF.2.2.2.1 hb3
        have e5 : zS 18 = .slice (some ⟨g, 0, none⟩) l.length l.length := hF.2.2.2.2.2.1 hb5
        clear hL hm
        rw [hb5] at hW
        simp only [puts, Act.put, List.setIfInBounds_toArray, List.set_cons_zero, List.set_cons_succ]
        simp only [e1, e3, e5]
        go_simp
        refine (sVwiden_of a b s c d t l g 0 l.length _ (hW.2 rfl).1 HN.out).mono ?_
        rintro e va2 ⟨rfl, hb⟩
        rw [HR0.out, HR1.out, HR2.out]
        go_wp2_with fail
        exact hK.out _ _ ⟨fun zj => if zj = 5 then true else if zj = 3 then true else if zj = 1 then true else if zj = 6 then true else zB zj, fun zd => if zd = 19 then .agg #[.int .i64 r0, .int .i64 r1, .bool r2] else if zd = 18 then .slice (some ⟨g, 0, none⟩) l.length l.length else if zd = 16 then .agg #[.int .i64 c, .int .i64 d, .bool t] else if zd = 14 then .agg #[.int .i64 a, .int .i64 b, .bool s] else zS zd, g, X, by simp [hb1, hb3, hb5], by kernel_rfl, ⟨hF.1, fun _ => rfl, hF.2.2.1, fun _ => rfl, hF.2.2.2.2.1, fun _ => rfl, fun _ => rfl, hF.2.2.2.2.2.2.2⟩, ⟨hW.1.below hb, fun _ => ⟨(hW.2 (by trivial)).1.below hb, (hW.2 (by trivial)).2⟩⟩⟩
      refine StepsI.cons rfl ?_ ?_
      · rintro L zA va ⟨zB, zS, g, X, rfl, rfl, hF, hW⟩ hL hm K hK
        have hb7 : zB 7 = false := by simpa using hL
        clear hL hm
        rw [hb7] at hW
        simp only [puts, Act.put, List.setIfInBounds_toArray, List.set_cons_zero, List.set_cons_succ]
        go_simp
        exact hK.out _ _ ⟨fun zj => if zj = 7 then true else zB zj, fun zd => if zd = 7 then .pointer (some ⟨va.heap.size, 0, none⟩) else zS zd, g, va.heap.size, rfl, by kernel_rfl, ⟨hF.1, hF.2.1, hF.2.2.1, hF.2.2.2.1, hF.2.2.2.2.1, hF.2.2.2.2.2.1, hF.2.2.2.2.2.2.1, fun _ => rfl⟩, ⟨hW.1.alloc, fun e => ⟨(hW.2 e).1.below ((Below.refl _ _).alloc (Nat.le_refl _) _), fun _ => (hW.2 e).1.ne⟩⟩⟩
      refine StepsI.cons rfl ?_ ?_
      · rintro L zA va ⟨zB, zS, g, X, rfl, rfl, hF, hW⟩ hL hm K hK
        have hb8 : zB 8 = false := by simpa using hL
        have hb6 : zB 6 = true := by cases e : zB 6 with | false => (exfalso; revert hm; simp [metB, Region.binds, e]) | true => rfl
        have hb7 : zB 7 = true := by cases e : zB 7 with | false => (exfalso; revert hm; simp [metB, Region.binds, e]) | true => rfl
        have e6 : zS 19 = .agg #[.int .i64 r0, .int .i64 r1, .bool r2] := hF.2.2.2.2.2.2.1 hb6
        have e7 : zS 7 = .pointer (some ⟨X, 0, none⟩) := hF.2.2.2.2.2.2.2 hb7
        clear hL hm
        rw [hb8] at hW
        rw [hb7] at hW
        simp only [puts, Act.put, List.setIfInBounds_toArray, List.set_cons_zero, List.set_cons_succ]
        simp only [e6, e7]
        obtain ⟨_, q6, _⟩ := hW.1.box rfl
        obtain ⟨q0, q1, q2, q3, q4, q5⟩ := q6 rfl
        go_simp
        exact hK.out _ _ ⟨fun zj => if zj = 7 then true else if zj = 6 then true else if zj = 8 then true else zB zj, fun zd => if zd = 7 then .pointer (some ⟨X, 0, none⟩) else if zd = 19 then .agg #[.int .i64 r0, .int .i64 r1, .bool r2] else zS zd, g, X, by simp [hb6, hb7], by kernel_rfl, ⟨hF.1, hF.2.1, hF.2.2.1, hF.2.2.2.1, hF.2.2.2.2.1, hF.2.2.2.2.2.1, fun _ => rfl, fun _ => rfl⟩, ⟨hW.1.store, fun e => ⟨(hW.2 e).1.set3 ((hW.2 e).2 rfl) _ _ _, (hW.2 e).2⟩⟩⟩
      exact StepsI.nil (by kernel_rfl)
    · rintro L zA va ⟨zB, zS, g, X, rfl, rfl, hF, hW⟩ hr
      have hu := all_up (by kernel_rfl) (N := 9) (by kernel_rfl) hr
      have hb0 : zB 0 = true := by simpa using hu 0 (by decide)
      have hb1 : zB 1 = true := by simpa using hu 1 (by decide)
      have hb2 : zB 2 = true := by simpa using hu 2 (by decide)
      have hb3 : zB 3 = true := by simpa using hu 3 (by decide)
      have hb4 : zB 4 = true := by simpa using hu 4 (by decide)
      have hb5 : zB 5 = true := by simpa using hu 5 (by decide)
      have hb6 : zB 6 = true := by simpa using hu 6 (by decide)
      have hb7 : zB 7 = true := by simpa using hu 7 (by decide)
      have hb8 : zB 8 = true := by simpa using hu 8 (by decide)
      have e0 : zS 13 = .agg #[.int .i64 a, .int .i64 b, .bool s] := hF.1 hb0
      have e1 : zS 14 = .agg #[.int .i64 a, .int .i64 b, .bool s] := hF.2.1 hb1
      have e2 : zS 15 = .agg #[.int .i64 c, .int .i64 d, .bool t] := hF.2.2.1 hb2
      have e3 : zS 16 = .agg #[.int .i64 c, .int .i64 d, .bool t] := hF.2.2.2.1 hb3
      have e4 : zS 17 = .slice ad l.length cap := hF.2.2.2.2.1 hb4
      have e5 : zS 18 = .slice (some ⟨g, 0, none⟩) l.length l.length := hF.2.2.2.2.2.1 hb5
      have e6 : zS 19 = .agg #[.int .i64 r0, .int .i64 r1, .bool r2] := hF.2.2.2.2.2.2.1 hb6
      have e7 : zS 7 = .pointer (some ⟨X, 0, none⟩) := hF.2.2.2.2.2.2.2 hb7
      rw [hb5] at hW
      rw [hb7] at hW
      rw [hb8] at hW
      clear hu hr hF
      simp only [puts, Act.put, List.setIfInBounds_toArray, List.set_cons_zero, List.set_cons_succ]
      simp only [e0, e1, e2, e3, e4, e5, e6, e7]
      clear e0 e1 e2 e3 e4 e5 e6 e7
      clear hb0 hb1 hb2 hb3 hb4 hb5 hb6 hb7 hb8
      clear zB zS
      obtain ⟨hb1, hA⟩ := hW.1.all
      have HB1 := mkHid (below_step HB.out hb1)
      have HX1 := mkHid (HX.out.below hb1)
      have HY1 := mkHid (HY.out.below hb1)
      have HA1 := mkHid hA
      clear hW HB HX HY hb1 hA
      go_wp2_with fail
      refine (toIntS_any l ad cap _ HM.out (HS.out.below HB1.out)).mono ?_
      rintro e wd ⟨g2, rfl, hI, hb⟩
      have HB := mkHid (below_step HB1.out hb)
      have HX := mkHid (HX1.out.below hb)
      have HY := mkHid (HY1.out.below hb)
      have HA := mkHid (HA1.out.below hb)
      have HG := mkHid hI
      clear HB1 HX1 HY1 HA1 hI hb
      go_wp2_with fail
      refine wp_region_inv2 (fun zA0 L zA vb => ∃ (zB : Nat → Bool) (zS : Nat → Value) (Y : Nat), L = #[zB 0, zB 1, zB 2, zB 3, zB 4, zB 5, zB 6, zB 7] ∧ zA = puts zA0 [(22, zS 22), (23, zS 23), (24, zS 24), (25, zS 25), (26, zS 26), (27, zS 27), (9, zS 9)] ∧ ((zB 0 = true → zS 22 = .agg #[.int .i64 a, .int .i64 b, .bool s]) ∧ (zB 1 = true → zS 23 = .agg #[.int .i64 a, .int .i64 b, .bool s]) ∧ (zB 2 = true → zS 24 = .agg #[.int .i64 c, .int .i64 d, .bool t]) ∧ (zB 3 = true → zS 25 = .agg #[.int .i64 c, .int .i64 d, .bool t]) ∧ (zB 4 = true → zS 26 = .slice (some ⟨g2, 0, none⟩) l.length l.length) ∧ (zB 5 = true → zS 27 = .agg #[.int .i64 r0, .int .i64 r1, .bool r2]) ∧ (zB 6 = true → zS 9 = .pointer (some ⟨Y, 0, none⟩))) ∧ CalV wd (zB 6) (zB 7) Y r0 r1 r2 vb) (by kernel_rfl) ?_ ?_ ?_
      · exact ⟨fun _ => false, fun _ => undef, 0, rfl, by kernel_rfl, ⟨fun e => ft e, fun e => ft e, fun e => ft e, fun e => ft e, fun e => ft e, fun e => ft e, fun e => ft e⟩, CalV.start (Below.refl _ _).drew⟩
      · refine StepsI.cons rfl ?_ ?_
        · rintro L zA vb ⟨zB, zS, Y, rfl, rfl, hF, hW⟩ hL hm K hK
          have hb0 : zB 0 = false := by simpa using hL
          clear hL hm
          simp only [puts, Act.put, List.setIfInBounds_toArray, List.set_cons_zero, List.set_cons_succ]
          obtain ⟨q0, q1, q2, _, _, _⟩ := (HX.out.below hW.bel)
          go_simp
          exact hK.out _ _ ⟨fun zj => if zj = 0 then true else zB zj, fun zd => if zd = 22 then .agg #[.int .i64 a, .int .i64 b, .bool s] else zS zd, Y, rfl, by kernel_rfl, ⟨fun _ => rfl, hF.2.1, hF.2.2.1, hF.2.2.2.1, hF.2.2.2.2.1, hF.2.2.2.2.2.1, hF.2.2.2.2.2.2⟩, hW⟩
        refine StepsI.cons rfl ?_ ?_
        · rintro L zA vb ⟨zB, zS, Y, rfl, rfl, hF, hW⟩ hL hm K hK
          have hb1 : zB 1 = false := by simpa using hL
          have hb0 : zB 0 = true := by cases e : zB 0 with | false => (exfalso; revert hm; simp [metB, Region.binds, e]) | true => rfl
          have e0 : zS 22 = .agg #[.int .i64 a, .int .i64 b, .bool s] := hF.1 hb0
          clear hL hm
          simp only [puts, Act.put, List.setIfInBounds_toArray, List.set_cons_zero, List.set_cons_succ]
          simp only [e0]
          go_simp
          refine (toVal_any a b s _).mono ?_
          rintro e vb2 ⟨rfl, hb⟩
          go_wp2_with fail
          exact hK.out _ _ ⟨fun zj => if zj = 0 then true else if zj = 1 then true else zB zj, fun zd => if zd = 23 then .agg #[.int .i64 a, .int .i64 b, .bool s] else if zd = 22 then .agg #[.int .i64 a, .int .i64 b, .bool s] else zS zd, Y, by simp [hb0], by kernel_rfl, ⟨fun _ => rfl, fun _ => rfl, hF.2.2.1, hF.2.2.2.1, hF.2.2.2.2.1, hF.2.2.2.2.2.1, hF.2.2.2.2.2.2⟩, hW.below hb⟩
        refine StepsI.cons rfl ?_ ?_
        · rintro L zA vb ⟨zB, zS, Y, rfl, rfl, hF, hW⟩ hL hm K hK
          have hb2 : zB 2 = false := by simpa using hL
          clear hL hm
          simp only [puts, Act.put, List.setIfInBounds_toArray, List.set_cons_zero, List.set_cons_succ]
          obtain ⟨q0, q1, q2, _, _, _⟩ := (HY.out.below hW.bel)
          go_simp
          exact hK.out _ _ ⟨fun zj => if zj = 2 then true else zB zj, fun zd => if zd = 24 then .agg #[.int .i64 c, .int .i64 d, .bool t] else zS zd, Y, rfl, by kernel_rfl, ⟨hF.1, hF.2.1, fun _ => rfl, hF.2.2.2.1, hF.2.2.2.2.1, hF.2.2.2.2.2.1, hF.2.2.2.2.2.2⟩, hW⟩
        refine StepsI.cons rfl ?_ ?_
        · rintro L zA vb ⟨zB, zS, Y, rfl, rfl, hF, hW⟩ hL hm K hK
          have hb3 : zB 3 = false := by simpa using hL
          have hb2 : zB 2 = true := by cases e : zB 2 with | false => (exfalso; revert hm; simp [metB, Region.binds, e]) | true => rfl
          have e2 : zS 24 = .agg #[.int .i64 c, .int .i64 d, .bool t] := hF.2.2.1 hb2
          clear hL hm
          simp only [puts, Act.put, List.setIfInBounds_toArray, List.set_cons_zero, List.set_cons_succ]
          simp only [e2]
          go_simp
          refine (toVal_any c d t _).mono ?_
          rintro e vb2 ⟨rfl, hb⟩
          go_wp2_with fail
          exact hK.out _ _ ⟨fun zj => if zj = 2 then true else if zj = 3 then true else zB zj, fun zd => if zd = 25 then .agg #[.int .i64 c, .int .i64 d, .bool t] else if zd = 24 then .agg #[.int .i64 c, .int .i64 d, .bool t] else zS zd, Y, by simp [hb2], by kernel_rfl, ⟨hF.1, hF.2.1, fun _ => rfl, fun _ => rfl, hF.2.2.2.2.1, hF.2.2.2.2.2.1, hF.2.2.2.2.2.2⟩, hW.below hb⟩
        refine StepsI.cons rfl ?_ ?_
        · rintro L zA vb ⟨zB, zS, Y, rfl, rfl, hF, hW⟩ hL hm K hK
          have hb4 : zB 4 = false := by simpa using hL
          clear hL hm
          simp only [puts, Act.put, List.setIfInBounds_toArray, List.set_cons_zero, List.set_cons_succ]
          go_simp
          exact hK.out _ _ ⟨fun zj => if zj = 4 then true else zB zj, fun zd => if zd = 26 then .slice (some ⟨g2, 0, none⟩) l.length l.length else zS zd, Y, rfl, by kernel_rfl, ⟨hF.1, hF.2.1, hF.2.2.1, hF.2.2.2.1, fun _ => rfl, hF.2.2.2.2.2.1, hF.2.2.2.2.2.2⟩, hW⟩
        refine StepsI.cons rfl ?_ ?_
        · rintro L zA vb ⟨zB, zS, Y, rfl, rfl, hF, hW⟩ hL hm K hK
          have hb5 : zB 5 = false := by simpa using hL
          have hb1 : zB 1 = true := by cases e : zB 1 with | false => (exfalso; revert hm; simp [metB, Region.binds, e]) | true => rfl
          have hb3 : zB 3 = true := by cases e : zB 3 with | false => (exfalso; revert hm; simp [metB, Region.binds, e]) | true => rfl
          have hb4 : zB 4 = true := by cases e : zB 4 with | false => (exfalso; revert hm; simp [metB, Region.binds, e]) | true => rfl
          have e1 : zS 23 = .agg #[.int .i64 a, .int .i64 b, .bool s] := hF.2.1 hb1
          have e3 : zS 25 = .agg #[.int .i64 c, .int .i64 d, .bool t] := hF.2.2.2.1 hb3
          have e4 : zS 26 = .slice (some ⟨g2, 0, none⟩) l.length l.length := hF.2.2.2.2.1 hb4
          clear hL hm
          simp only [puts, Act.put, List.setIfInBounds_toArray, List.set_cons_zero, List.set_cons_succ]
          simp only [e1, e3, e4]
          go_simp
          refine (iVwiden_of a b s c d t l g2 0 l.length _ (HG.out.below hW.bel) HN.out).mono ?_
          rintro e vb2 ⟨rfl, hb⟩
          rw [HR0.out, HR1.out, HR2.out]
          go_wp2_with fail
          exact hK.out _ _ ⟨fun zj => if zj = 4 then true else if zj = 3 then true else if zj = 1 then true else if zj = 5 then true else zB zj, fun zd => if zd = 27 then .agg #[.int .i64 r0, .int .i64 r1, .bool r2] else if zd = 26 then .slice (some ⟨g2, 0, none⟩) l.length l.length else if zd = 25 then .agg #[.int .i64 c, .int .i64 d, .bool t] else if zd = 23 then .agg #[.int .i64 a, .int .i64 b, .bool s] else zS zd, Y, by simp [hb1, hb3, hb4], by kernel_rfl, ⟨hF.1, fun _ => rfl, hF.2.2.1, fun _ => rfl, fun _ => rfl, fun _ => rfl, hF.2.2.2.2.2.2⟩, hW.below hb⟩
        refine StepsI.cons rfl ?_ ?_
        · rintro L zA vb ⟨zB, zS, Y, rfl, rfl, hF, hW⟩ hL hm K hK
          have hb6 : zB 6 = false := by simpa using hL
          clear hL hm
          rw [hb6] at hW
          simp only [puts, Act.put, List.setIfInBounds_toArray, List.set_cons_zero, List.set_cons_succ]
          go_simp
          exact hK.out _ _ ⟨fun zj => if zj = 6 then true else zB zj, fun zd => if zd = 9 then .pointer (some ⟨vb.heap.size, 0, none⟩) else zS zd, vb.heap.size, rfl, by kernel_rfl, ⟨hF.1, hF.2.1, hF.2.2.1, hF.2.2.2.1, hF.2.2.2.2.1, hF.2.2.2.2.2.1, fun _ => rfl⟩, hW.alloc⟩
        refine StepsI.cons rfl ?_ ?_
        · rintro L zA vb ⟨zB, zS, Y, rfl, rfl, hF, hW⟩ hL hm K hK
          have hb7 : zB 7 = false := by simpa using hL
          have hb5 : zB 5 = true := by cases e : zB 5 with | false => (exfalso; revert hm; simp [metB, Region.binds, e]) | true => rfl
          have hb6 : zB 6 = true := by cases e : zB 6 with | false => (exfalso; revert hm; simp [metB, Region.binds, e]) | true => rfl
          have e5 : zS 27 = .agg #[.int .i64 r0, .int .i64 r1, .bool r2] := hF.2.2.2.2.2.1 hb5
          have e6 : zS 9 = .pointer (some ⟨Y, 0, none⟩) := hF.2.2.2.2.2.2 hb6
          clear hL hm
          rw [hb7] at hW
          rw [hb6] at hW
          simp only [puts, Act.put, List.setIfInBounds_toArray, List.set_cons_zero, List.set_cons_succ]
          simp only [e5, e6]
          obtain ⟨_, q6, _⟩ := hW.box rfl
          obtain ⟨q0, q1, q2, q3, q4, q5⟩ := q6 rfl
          go_simp
          exact hK.out _ _ ⟨fun zj => if zj = 6 then true else if zj = 5 then true else if zj = 7 then true else zB zj, fun zd => if zd = 9 then .pointer (some ⟨Y, 0, none⟩) else if zd = 27 then .agg #[.int .i64 r0, .int .i64 r1, .bool r2] else zS zd, Y, by simp [hb5, hb6], by kernel_rfl, ⟨hF.1, hF.2.1, hF.2.2.1, hF.2.2.2.1, hF.2.2.2.2.1, fun _ => rfl, fun _ => rfl⟩, hW.store⟩
        exact StepsI.nil (by kernel_rfl)
      · rintro L zA vb ⟨zB, zS, Y, rfl, rfl, hF, hW⟩ hr
        have hu := all_up (by kernel_rfl) (N := 8) (by kernel_rfl) hr
        have hb0 : zB 0 = true := by simpa using hu 0 (by decide)
        have hb1 : zB 1 = true := by simpa using hu 1 (by decide)
        have hb2 : zB 2 = true := by simpa using hu 2 (by decide)
        have hb3 : zB 3 = true := by simpa using hu 3 (by decide)
        have hb4 : zB 4 = true := by simpa using hu 4 (by decide)
        have hb5 : zB 5 = true := by simpa using hu 5 (by decide)
        have hb6 : zB 6 = true := by simpa using hu 6 (by decide)
        have hb7 : zB 7 = true := by simpa using hu 7 (by decide)
        have e0 : zS 22 = .agg #[.int .i64 a, .int .i64 b, .bool s] := hF.1 hb0
        have e1 : zS 23 = .agg #[.int .i64 a, .int .i64 b, .bool s] := hF.2.1 hb1
        have e2 : zS 24 = .agg #[.int .i64 c, .int .i64 d, .bool t] := hF.2.2.1 hb2
        have e3 : zS 25 = .agg #[.int .i64 c, .int .i64 d, .bool t] := hF.2.2.2.1 hb3
        have e4 : zS 26 = .slice (some ⟨g2, 0, none⟩) l.length l.length := hF.2.2.2.2.1 hb4
        have e5 : zS 27 = .agg #[.int .i64 r0, .int .i64 r1, .bool r2] := hF.2.2.2.2.2.1 hb5
        have e6 : zS 9 = .pointer (some ⟨Y, 0, none⟩) := hF.2.2.2.2.2.2 hb6
        rw [hb6] at hW
        rw [hb7] at hW
        clear hu hr hF
        simp only [puts, Act.put, List.setIfInBounds_toArray, List.set_cons_zero, List.set_cons_succ]
        simp only [e0, e1, e2, e3, e4, e5, e6]
        clear e0 e1 e2 e3 e4 e5 e6
        clear hb0 hb1 hb2 hb3 hb4 hb5 hb6 hb7
        clear zB zS
        obtain ⟨hb2, hY2⟩ := hW.all
        have hX2 := HA.out.below hb2
        have HB1 := mkHid (below_step HB.out hb2)
        have HG1 := mkHid (HG.out.below hb2)
        clear hW HB HX HY HA HG hb2
        obtain ⟨q0, q1, q2, _, _, _⟩ := hX2
        obtain ⟨p0, p1, p2, _, _, _⟩ := hY2
        go_wp2_with fail
        refine (eqVal_same _ _ _ _).mono ?_
        rintro e w9 ⟨rfl, hb⟩
        have HB2 := mkHid (below_step HB1.out hb)
        have HG2 := mkHid (HG1.out.below hb)
        clear HB1 HG1 hb q0 q1 q2 p0 p1 p2
        go_wp2_with fail
        refine (toIntS_any l ad cap _ HM.out (HS.out.below HB2.out)).mono ?_
        rintro e w10 ⟨g3, rfl, hI3, hb⟩
        have HB3 := mkHid (below_step HB2.out hb)
        have HG3 := mkHid (HG2.out.below hb)
        have HI3 := mkHid hI3
        clear HB2 HG2 hb hI3
        go_wp2_with fail
        refine (eqIntS_of l g2 0 _ g3 0 _ _ HN.out HG3.out HI3.out).mono ?_
        rintro e w11 ⟨rfl, hb⟩
        have HB4 := mkHid (below_step HB3.out hb)
        clear HB3 HG3 HI3 hb
        go_wp2
        go_ret
        exact ⟨rfl, HB4.out⟩
  · have hM2 : (1048576 : Int) < (l.length : Int) := by omega
    go_enter Try.func7, Try.ntmps7
    go_wp2
    go_ret
    exact ⟨rfl, (by repeat (first | with_reducible exact Below.refl _ _ | (with_reducible refine bl_set2 ?_ ?_ _; (first | (simp; done) | (simp [*]; done) | (simp [*] <;> omega))) | with_reducible refine bl_drew ?_ | with_reducible refine bl_alloc ?_ _ | with_reducible refine below_step ?_ (by assumption) | with_reducible assumption))⟩

set_option maxRecDepth 100000 in
theorem law_lifted (os : Os) (started : os.Started) (H : Type) (enc : TypeId × Value → H) :
    ReturnsInHanded {} Try.checked os 7 .any (Rows.fnExactValWidenSpec.pre6 enc Try.prog Try.f7 Rows.fnExactValWidenRow.domain false) (Rows.fnExactValWidenSpec.post enc Try.prog Try.f7 false true false false) := by
  refine returnsInHanded_of_change (C := Try.checked) Try.own started (by kernel_rfl) Try.func7
    (ChangeSpec.witness6 (enc := enc) (C := Try.checked) false ⟨#[], #[.agg #[.int .i64 0, .int .i64 0, .bool false], .agg #[.int .i64 0, .int .i64 0, .bool false], .slice none 0 0], []⟩ 8 (by kernel_rfl) (by kernel_rfl) (by kernel_rfl) (by kernel_rfl)) ?_
  intro W base args ds gs before hval0 hW hcnd _
  have hval : ∀ (j : Nat) t v, Try.f7.params[j]? = some t → args[j]? = some v → Value.okWide Try.prog W .any base t v := hval0
  have hW' := hW
  obtain ⟨p, q, hA0, hV, rfl, hfz, hnd⟩ := hW
  have hA : DataW.TrodAll enc Try.prog W 0 (fun _ => true) true Try.f7.params.toList args.toList ds p := hA0
  rw [Try.params7] at hA hval
  obtain ⟨v0, vs0, d0, ds0, p0, q0, hargs, rfl, rfl, h0, r0⟩ := trodAll_cons hA
  obtain ⟨v1, vs1, d1, ds1, p1, q1, rfl, rfl, rfl, h1, r1⟩ := trodAll_cons r0
  obtain ⟨v2, vs2, d2, ds2, p2, q2, rfl, rfl, rfl, h2, r2⟩ := trodAll_cons r1
  obtain ⟨rfl, rfl, rfl⟩ := trodAll_nil r2
  obtain rfl : args = #[v0, v1, v2] := by cases args; simp_all
  obtain ⟨rfl, rfl⟩ := trodVars_none hV
  have k0 := h0
  have lt0 : ∀ x ∈ p0, x.block < W.heap.size := by obtain ⟨m, hm⟩ := k0; exact DataW.trod_lt m _ _ _ hm
  have k1 := h1
  have lt1 : ∀ x ∈ p1, x.block < W.heap.size := by obtain ⟨m, hm⟩ := k1; exact DataW.trod_lt m _ _ _ hm
  have k2 := h2
  have lt2 : ∀ x ∈ p2, x.block < W.heap.size := by obtain ⟨m, hm⟩ := k2; exact DataW.trod_lt m _ _ _ hm
  obtain ⟨a, b, s, hv0⟩ := open_val (hval 0 25 v0 rfl rfl) h0
  subst hv0
  obtain ⟨c, d, t, hv1⟩ := open_val (hval 1 25 v1 rfl rfl) h1
  subst hv1
  obtain ⟨ad, le2, cap, hv2⟩ := okWide_slice Try.underlying41 (hval 2 41 v2 rfl rfl)
  subst hv2
  obtain ⟨l, rfl, hn, hl⟩ := open_intsof h2
  clear hA0 hval0
  refine (law_walk a b s c d t l ad cap W hn hl).mono fun e W' ⟨he, bel⟩ => ?_
  subst he
  exact ⟨_, rfl, _, _, _, [], _, [], hW', trodAll_mk1 (shut_bool Try.underlying4 _), (trodAll_cons_mk (Below.trod Try.laidOut (by kernel_rfl) (of_decide_eq_true (by kernel_rfl)) k0 bel lt0) (trodAll_cons_mk (Below.trod Try.laidOut (by kernel_rfl) (of_decide_eq_true (by kernel_rfl)) k1 bel lt1) (trodAll_cons_mk (Below.trod Try.laidOut (by kernel_rfl) (of_decide_eq_true (by kernel_rfl)) k2 bel lt2) trodAll_mk0))), rfl, bel.frame _, fun h => by cases h⟩

theorem law_holds : Rows.FnExactValWidenSaid :=
  OpenClaim.holds_of_wide 7 Try.f7 rfl rfl rfl rfl rfl rfl rfl ⟨rfl, rfl, rfl, rfl, rfl⟩ rfl rfl rfl rfl rfl (by kernel_rfl) Try.func7 (by kernel_rfl)
    (of_decide_eq_true (by kernel_rfl)) (by unfold Func.isWrapper; first | (rw [if_pos (by decide +kernel)]; kernel_rfl) | (rw [if_neg (by decide +kernel)]; exact ⟨rfl, rfl⟩))
    (fun os started H enc _ => law_lifted os started H enc)

#print axioms law_holds
end Go.Proofs.Ytkapogekghicaaa
