/-
  FnExactValJoin holds at every argument: the program's ValJoin answers as the specification's, and the arguments read as before. No conditions.
-/
import Derived.Test.YtkapogekghicaaaVj
import Derived.Test.YtkapogekghicaaaLv
namespace Go.Proofs.Ytkapogekghicaaa
open Go.ChangeShapes Go.WideShapes Go.ChangeAt Go.RowKit Go.Joins

set_option maxRecDepth 100000 in
set_option maxHeartbeats 3200000 in
theorem law_walk (a b : Int) (s : Bool) (c d : Int) (t : Bool) (w : World) : Calls Try.prog 6 #[.agg #[.int .i64 a, .int .i64 b, .bool s], .agg #[.int .i64 c, .int .i64 d, .bool t]] w fun e w' => e = .returned (.bool true) ∧ Below w.heap.size w w' := by
  obtain ⟨r0, hr0⟩ : ∃ x, (joinV a b s c d t).1 = x := ⟨_, rfl⟩
  have HR0 := mkHid hr0
  clear hr0
  obtain ⟨r1, hr1⟩ : ∃ x, (joinV a b s c d t).2.1 = x := ⟨_, rfl⟩
  have HR1 := mkHid hr1
  clear hr1
  obtain ⟨r2, hr2⟩ : ∃ x, (joinV a b s c d t).2.2 = x := ⟨_, rfl⟩
  have HR2 := mkHid hr2
  clear hr2
  go_enter Try.func6, Try.ntmps6
  go_wp2_with fail
  obtain ⟨w0, hw0⟩ : ∃ x : World, ((w.alloc (.cells #[.int .i64 a, .int .i64 b, .bool s] 25)).alloc (.cells #[.int .i64 c, .int .i64 d, .bool t] 25)) = x := ⟨_, rfl⟩
  have HB : Hid (Below w.heap.size w w0) := mkHid (by rw [← hw0]; exact bl_alloc (bl_alloc (Below.refl _ _) _) _)
  have HX : Hid (V3 w0 w.heap.size a b s) := mkHid (by rw [← hw0]; constructor <;> simp [go_sem])
  have HY : Hid (V3 w0 (w.heap.size + 1) c d t) := mkHid (by rw [← hw0]; constructor <;> simp [go_sem])
  rw [hw0]
  clear hw0
  refine wp_region_inv2 (fun zA0 L zA va => ∃ (zB : Nat → Bool) (zS : Nat → Value) (X : Nat), L = #[zB 0, zB 1, zB 2, zB 3, zB 4, zB 5, zB 6] ∧ zA = puts zA0 [(7, zS 7), (8, zS 8), (9, zS 9), (10, zS 10), (11, zS 11), (5, zS 5)] ∧ ((zB 0 = true → zS 7 = .agg #[.int .i64 a, .int .i64 b, .bool s]) ∧ (zB 1 = true → zS 8 = .agg #[.int .i64 a, .int .i64 b, .bool s]) ∧ (zB 2 = true → zS 9 = .agg #[.int .i64 c, .int .i64 d, .bool t]) ∧ (zB 3 = true → zS 10 = .agg #[.int .i64 c, .int .i64 d, .bool t]) ∧ (zB 4 = true → zS 11 = .agg #[.int .i64 r0, .int .i64 r1, .bool r2]) ∧ (zB 5 = true → zS 5 = .pointer (some ⟨X, 0, none⟩))) ∧ CalV w0 (zB 5) (zB 6) X r0 r1 r2 va) (by kernel_rfl) ?_ ?_ ?_
  · exact ⟨fun _ => false, fun _ => undef, 0, rfl, by kernel_rfl, ⟨fun e => ft e, fun e => ft e, fun e => ft e, fun e => ft e, fun e => ft e, fun e => ft e⟩, CalV.start (Below.refl _ _).drew⟩
  · refine StepsI.cons rfl ?_ ?_
    · rintro L zA va ⟨zB, zS, X, rfl, rfl, hF, hW⟩ hL hm K hK
      have hb0 : zB 0 = false := by simpa using hL
      clear hL hm
      simp only [puts, Act.put, List.setIfInBounds_toArray, List.set_cons_zero, List.set_cons_succ]
      obtain ⟨q0, q1, q2, _, _, _⟩ := (HX.out.below hW.bel)
      go_simp
      exact hK.out _ _ ⟨fun zj => if zj = 0 then true else zB zj, fun zd => if zd = 7 then .agg #[.int .i64 a, .int .i64 b, .bool s] else zS zd, X, rfl, by kernel_rfl, ⟨fun _ => rfl, hF.2.1, hF.2.2.1, hF.2.2.2.1, hF.2.2.2.2.1, hF.2.2.2.2.2⟩, hW⟩
    refine StepsI.cons rfl ?_ ?_
    · rintro L zA va ⟨zB, zS, X, rfl, rfl, hF, hW⟩ hL hm K hK
      have hb1 : zB 1 = false := by simpa using hL
      have hb0 : zB 0 = true := by cases e : zB 0 with | false => (exfalso; revert hm; simp [metB, Region.binds, e]) | true => rfl
      have e0 : zS 7 = .agg #[.int .i64 a, .int .i64 b, .bool s] := hF.1 hb0
      clear hL hm
      simp only [puts, Act.put, List.setIfInBounds_toArray, List.set_cons_zero, List.set_cons_succ]
      simp only [e0]
      go_simp
      refine (toVal_any a b s _).mono ?_
      rintro e va2 ⟨rfl, hb⟩
      go_wp2_with fail
      exact hK.out _ _ ⟨fun zj => if zj = 0 then true else if zj = 1 then true else zB zj, fun zd => if zd = 8 then .agg #[.int .i64 a, .int .i64 b, .bool s] else if zd = 7 then .agg #[.int .i64 a, .int .i64 b, .bool s] else zS zd, X, by simp [hb0], by kernel_rfl, ⟨fun _ => rfl, fun _ => rfl, hF.2.2.1, hF.2.2.2.1, hF.2.2.2.2.1, hF.2.2.2.2.2⟩, hW.below hb⟩
    refine StepsI.cons rfl ?_ ?_
    · rintro L zA va ⟨zB, zS, X, rfl, rfl, hF, hW⟩ hL hm K hK
      have hb2 : zB 2 = false := by simpa using hL
      clear hL hm
      simp only [puts, Act.put, List.setIfInBounds_toArray, List.set_cons_zero, List.set_cons_succ]
      obtain ⟨q0, q1, q2, _, _, _⟩ := (HY.out.below hW.bel)
      go_simp
      exact hK.out _ _ ⟨fun zj => if zj = 2 then true else zB zj, fun zd => if zd = 9 then .agg #[.int .i64 c, .int .i64 d, .bool t] else zS zd, X, rfl, by kernel_rfl, ⟨hF.1, hF.2.1, fun _ => rfl, hF.2.2.2.1, hF.2.2.2.2.1, hF.2.2.2.2.2⟩, hW⟩
    refine StepsI.cons rfl ?_ ?_
    · rintro L zA va ⟨zB, zS, X, rfl, rfl, hF, hW⟩ hL hm K hK
      have hb3 : zB 3 = false := by simpa using hL
      have hb2 : zB 2 = true := by cases e : zB 2 with | false => (exfalso; revert hm; simp [metB, Region.binds, e]) | true => rfl
      have e2 : zS 9 = .agg #[.int .i64 c, .int .i64 d, .bool t] := hF.2.2.1 hb2
      clear hL hm
      simp only [puts, Act.put, List.setIfInBounds_toArray, List.set_cons_zero, List.set_cons_succ]
      simp only [e2]
      go_simp
      refine (toVal_any c d t _).mono ?_
      rintro e va2 ⟨rfl, hb⟩
      go_wp2_with fail
      exact hK.out _ _ ⟨fun zj => if zj = 2 then true else if zj = 3 then true else zB zj, fun zd => if zd = 10 then .agg #[.int .i64 c, .int .i64 d, .bool t] else if zd = 9 then .agg #[.int .i64 c, .int .i64 d, .bool t] else zS zd, X, by simp [hb2], by kernel_rfl, ⟨hF.1, hF.2.1, fun _ => rfl, fun _ => rfl, hF.2.2.2.2.1, hF.2.2.2.2.2⟩, hW.below hb⟩
    refine StepsI.cons rfl ?_ ?_
    · rintro L zA va ⟨zB, zS, X, rfl, rfl, hF, hW⟩ hL hm K hK
      have hb4 : zB 4 = false := by simpa using hL
      have hb1 : zB 1 = true := by cases e : zB 1 with | false => (exfalso; revert hm; simp [metB, Region.binds, e]) | true => rfl
      have hb3 : zB 3 = true := by cases e : zB 3 with | false => (exfalso; revert hm; simp [metB, Region.binds, e]) | true => rfl
      have e1 : zS 8 = .agg #[.int .i64 a, .int .i64 b, .bool s] := hF.2.1 hb1
      have e3 : zS 10 = .agg #[.int .i64 c, .int .i64 d, .bool t] := hF.2.2.2.1 hb3
      clear hL hm
      simp only [puts, Act.put, List.setIfInBounds_toArray, List.set_cons_zero, List.set_cons_succ]
      simp only [e1, e3]
      go_simp
      refine (sVjoin_any a b s c d t _).mono ?_
      rintro e va2 ⟨rfl, hb⟩
      rw [HR0.out, HR1.out, HR2.out]
      go_wp2_with fail
      exact hK.out _ _ ⟨fun zj => if zj = 3 then true else if zj = 1 then true else if zj = 4 then true else zB zj, fun zd => if zd = 11 then .agg #[.int .i64 r0, .int .i64 r1, .bool r2] else if zd = 10 then .agg #[.int .i64 c, .int .i64 d, .bool t] else if zd = 8 then .agg #[.int .i64 a, .int .i64 b, .bool s] else zS zd, X, by simp [hb1, hb3], by kernel_rfl, ⟨hF.1, fun _ => rfl, hF.2.2.1, fun _ => rfl, fun _ => rfl, hF.2.2.2.2.2⟩, hW.below hb⟩
    refine StepsI.cons rfl ?_ ?_
    · rintro L zA va ⟨zB, zS, X, rfl, rfl, hF, hW⟩ hL hm K hK
      have hb5 : zB 5 = false := by simpa using hL
      clear hL hm
      rw [hb5] at hW
      simp only [puts, Act.put, List.setIfInBounds_toArray, List.set_cons_zero, List.set_cons_succ]
      go_simp
      exact hK.out _ _ ⟨fun zj => if zj = 5 then true else zB zj, fun zd => if zd = 5 then .pointer (some ⟨va.heap.size, 0, none⟩) else zS zd, va.heap.size, rfl, by kernel_rfl, ⟨hF.1, hF.2.1, hF.2.2.1, hF.2.2.2.1, hF.2.2.2.2.1, fun _ => rfl⟩, hW.alloc⟩
    refine StepsI.cons rfl ?_ ?_
    · rintro L zA va ⟨zB, zS, X, rfl, rfl, hF, hW⟩ hL hm K hK
      have hb6 : zB 6 = false := by simpa using hL
      have hb4 : zB 4 = true := by cases e : zB 4 with | false => (exfalso; revert hm; simp [metB, Region.binds, e]) | true => rfl
      have hb5 : zB 5 = true := by cases e : zB 5 with | false => (exfalso; revert hm; simp [metB, Region.binds, e]) | true => rfl
      have e4 : zS 11 = .agg #[.int .i64 r0, .int .i64 r1, .bool r2] := hF.2.2.2.2.1 hb4
      have e5 : zS 5 = .pointer (some ⟨X, 0, none⟩) := hF.2.2.2.2.2 hb5
      clear hL hm
      rw [hb6] at hW
      rw [hb5] at hW
      simp only [puts, Act.put, List.setIfInBounds_toArray, List.set_cons_zero, List.set_cons_succ]
      simp only [e4, e5]
      obtain ⟨_, q6, _⟩ := hW.box rfl
      obtain ⟨q0, q1, q2, q3, q4, q5⟩ := q6 rfl
      go_simp
      exact hK.out _ _ ⟨fun zj => if zj = 5 then true else if zj = 4 then true else if zj = 6 then true else zB zj, fun zd => if zd = 5 then .pointer (some ⟨X, 0, none⟩) else if zd = 11 then .agg #[.int .i64 r0, .int .i64 r1, .bool r2] else zS zd, X, by simp [hb4, hb5], by kernel_rfl, ⟨hF.1, hF.2.1, hF.2.2.1, hF.2.2.2.1, fun _ => rfl, fun _ => rfl⟩, hW.store⟩
    exact StepsI.nil (by kernel_rfl)
  · rintro L zA va ⟨zB, zS, X, rfl, rfl, hF, hW⟩ hr
    have hu := all_up (by kernel_rfl) (N := 7) (by kernel_rfl) hr
    have hb0 : zB 0 = true := by simpa using hu 0 (by decide)
    have hb1 : zB 1 = true := by simpa using hu 1 (by decide)
    have hb2 : zB 2 = true := by simpa using hu 2 (by decide)
    have hb3 : zB 3 = true := by simpa using hu 3 (by decide)
    have hb4 : zB 4 = true := by simpa using hu 4 (by decide)
    have hb5 : zB 5 = true := by simpa using hu 5 (by decide)
    have hb6 : zB 6 = true := by simpa using hu 6 (by decide)
    have e0 : zS 7 = .agg #[.int .i64 a, .int .i64 b, .bool s] := hF.1 hb0
    have e1 : zS 8 = .agg #[.int .i64 a, .int .i64 b, .bool s] := hF.2.1 hb1
    have e2 : zS 9 = .agg #[.int .i64 c, .int .i64 d, .bool t] := hF.2.2.1 hb2
    have e3 : zS 10 = .agg #[.int .i64 c, .int .i64 d, .bool t] := hF.2.2.2.1 hb3
    have e4 : zS 11 = .agg #[.int .i64 r0, .int .i64 r1, .bool r2] := hF.2.2.2.2.1 hb4
    have e5 : zS 5 = .pointer (some ⟨X, 0, none⟩) := hF.2.2.2.2.2 hb5
    rw [hb5] at hW
    rw [hb6] at hW
    clear hu hr hF
    simp only [puts, Act.put, List.setIfInBounds_toArray, List.set_cons_zero, List.set_cons_succ]
    simp only [e0, e1, e2, e3, e4, e5]
    clear e0 e1 e2 e3 e4 e5
    clear hb0 hb1 hb2 hb3 hb4 hb5 hb6
    clear zB zS
    obtain ⟨hb1, hA⟩ := hW.all
    have HB1 := mkHid (below_step HB.out hb1)
    have HX1 := mkHid (HX.out.below hb1)
    have HY1 := mkHid (HY.out.below hb1)
    have HA := mkHid hA
    clear hW HB HX HY hb1 hA
    have HB := HB1
    have HX := HX1
    have HY := HY1
    clear HB1 HX1 HY1
    go_wp2_with fail
    refine wp_region_inv2 (fun zA0 L zA vb => ∃ (zB : Nat → Bool) (zS : Nat → Value) (Y : Nat), L = #[zB 0, zB 1, zB 2, zB 3, zB 4, zB 5, zB 6] ∧ zA = puts zA0 [(12, zS 12), (13, zS 13), (14, zS 14), (15, zS 15), (16, zS 16), (6, zS 6)] ∧ ((zB 0 = true → zS 12 = .agg #[.int .i64 a, .int .i64 b, .bool s]) ∧ (zB 1 = true → zS 13 = .agg #[.int .i64 a, .int .i64 b, .bool s]) ∧ (zB 2 = true → zS 14 = .agg #[.int .i64 c, .int .i64 d, .bool t]) ∧ (zB 3 = true → zS 15 = .agg #[.int .i64 c, .int .i64 d, .bool t]) ∧ (zB 4 = true → zS 16 = .agg #[.int .i64 r0, .int .i64 r1, .bool r2]) ∧ (zB 5 = true → zS 6 = .pointer (some ⟨Y, 0, none⟩))) ∧ CalV va (zB 5) (zB 6) Y r0 r1 r2 vb) (by kernel_rfl) ?_ ?_ ?_
    · exact ⟨fun _ => false, fun _ => undef, 0, rfl, by kernel_rfl, ⟨fun e => ft e, fun e => ft e, fun e => ft e, fun e => ft e, fun e => ft e, fun e => ft e⟩, CalV.start (Below.refl _ _).drew⟩
    · refine StepsI.cons rfl ?_ ?_
      · rintro L zA vb ⟨zB, zS, Y, rfl, rfl, hF, hW⟩ hL hm K hK
        have hb0 : zB 0 = false := by simpa using hL
        clear hL hm
        simp only [puts, Act.put, List.setIfInBounds_toArray, List.set_cons_zero, List.set_cons_succ]
        obtain ⟨q0, q1, q2, _, _, _⟩ := (HX.out.below hW.bel)
        go_simp
        exact hK.out _ _ ⟨fun zj => if zj = 0 then true else zB zj, fun zd => if zd = 12 then .agg #[.int .i64 a, .int .i64 b, .bool s] else zS zd, Y, rfl, by kernel_rfl, ⟨fun _ => rfl, hF.2.1, hF.2.2.1, hF.2.2.2.1, hF.2.2.2.2.1, hF.2.2.2.2.2⟩, hW⟩
      refine StepsI.cons rfl ?_ ?_
      · rintro L zA vb ⟨zB, zS, Y, rfl, rfl, hF, hW⟩ hL hm K hK
        have hb1 : zB 1 = false := by simpa using hL
        have hb0 : zB 0 = true := by cases e : zB 0 with | false => (exfalso; revert hm; simp [metB, Region.binds, e]) | true => rfl
        have e0 : zS 12 = .agg #[.int .i64 a, .int .i64 b, .bool s] := hF.1 hb0
        clear hL hm
        simp only [puts, Act.put, List.setIfInBounds_toArray, List.set_cons_zero, List.set_cons_succ]
        simp only [e0]
        go_simp
        refine (toVal_any a b s _).mono ?_
        rintro e vb2 ⟨rfl, hb⟩
        go_wp2_with fail
        exact hK.out _ _ ⟨fun zj => if zj = 0 then true else if zj = 1 then true else zB zj, fun zd => if zd = 13 then .agg #[.int .i64 a, .int .i64 b, .bool s] else if zd = 12 then .agg #[.int .i64 a, .int .i64 b, .bool s] else zS zd, Y, by simp [hb0], by kernel_rfl, ⟨fun _ => rfl, fun _ => rfl, hF.2.2.1, hF.2.2.2.1, hF.2.2.2.2.1, hF.2.2.2.2.2⟩, hW.below hb⟩
      refine StepsI.cons rfl ?_ ?_
      · rintro L zA vb ⟨zB, zS, Y, rfl, rfl, hF, hW⟩ hL hm K hK
        have hb2 : zB 2 = false := by simpa using hL
        clear hL hm
        simp only [puts, Act.put, List.setIfInBounds_toArray, List.set_cons_zero, List.set_cons_succ]
        obtain ⟨q0, q1, q2, _, _, _⟩ := (HY.out.below hW.bel)
        go_simp
        exact hK.out _ _ ⟨fun zj => if zj = 2 then true else zB zj, fun zd => if zd = 14 then .agg #[.int .i64 c, .int .i64 d, .bool t] else zS zd, Y, rfl, by kernel_rfl, ⟨hF.1, hF.2.1, fun _ => rfl, hF.2.2.2.1, hF.2.2.2.2.1, hF.2.2.2.2.2⟩, hW⟩
      refine StepsI.cons rfl ?_ ?_
      · rintro L zA vb ⟨zB, zS, Y, rfl, rfl, hF, hW⟩ hL hm K hK
        have hb3 : zB 3 = false := by simpa using hL
        have hb2 : zB 2 = true := by cases e : zB 2 with | false => (exfalso; revert hm; simp [metB, Region.binds, e]) | true => rfl
        have e2 : zS 14 = .agg #[.int .i64 c, .int .i64 d, .bool t] := hF.2.2.1 hb2
        clear hL hm
        simp only [puts, Act.put, List.setIfInBounds_toArray, List.set_cons_zero, List.set_cons_succ]
        simp only [e2]
        go_simp
        refine (toVal_any c d t _).mono ?_
        rintro e vb2 ⟨rfl, hb⟩
        go_wp2_with fail
        exact hK.out _ _ ⟨fun zj => if zj = 2 then true else if zj = 3 then true else zB zj, fun zd => if zd = 15 then .agg #[.int .i64 c, .int .i64 d, .bool t] else if zd = 14 then .agg #[.int .i64 c, .int .i64 d, .bool t] else zS zd, Y, by simp [hb2], by kernel_rfl, ⟨hF.1, hF.2.1, fun _ => rfl, fun _ => rfl, hF.2.2.2.2.1, hF.2.2.2.2.2⟩, hW.below hb⟩
      refine StepsI.cons rfl ?_ ?_
      · rintro L zA vb ⟨zB, zS, Y, rfl, rfl, hF, hW⟩ hL hm K hK
        have hb4 : zB 4 = false := by simpa using hL
        have hb1 : zB 1 = true := by cases e : zB 1 with | false => (exfalso; revert hm; simp [metB, Region.binds, e]) | true => rfl
        have hb3 : zB 3 = true := by cases e : zB 3 with | false => (exfalso; revert hm; simp [metB, Region.binds, e]) | true => rfl
        have e1 : zS 13 = .agg #[.int .i64 a, .int .i64 b, .bool s] := hF.2.1 hb1
        have e3 : zS 15 = .agg #[.int .i64 c, .int .i64 d, .bool t] := hF.2.2.2.1 hb3
        clear hL hm
        simp only [puts, Act.put, List.setIfInBounds_toArray, List.set_cons_zero, List.set_cons_succ]
        simp only [e1, e3]
        go_simp
        refine (iVjoin_any a b s c d t _).mono ?_
        rintro e vb2 ⟨rfl, hb⟩
        rw [HR0.out, HR1.out, HR2.out]
        go_wp2_with fail
        exact hK.out _ _ ⟨fun zj => if zj = 3 then true else if zj = 1 then true else if zj = 4 then true else zB zj, fun zd => if zd = 16 then .agg #[.int .i64 r0, .int .i64 r1, .bool r2] else if zd = 15 then .agg #[.int .i64 c, .int .i64 d, .bool t] else if zd = 13 then .agg #[.int .i64 a, .int .i64 b, .bool s] else zS zd, Y, by simp [hb1, hb3], by kernel_rfl, ⟨hF.1, fun _ => rfl, hF.2.2.1, fun _ => rfl, fun _ => rfl, hF.2.2.2.2.2⟩, hW.below hb⟩
      refine StepsI.cons rfl ?_ ?_
      · rintro L zA vb ⟨zB, zS, Y, rfl, rfl, hF, hW⟩ hL hm K hK
        have hb5 : zB 5 = false := by simpa using hL
        clear hL hm
        rw [hb5] at hW
        simp only [puts, Act.put, List.setIfInBounds_toArray, List.set_cons_zero, List.set_cons_succ]
        go_simp
        exact hK.out _ _ ⟨fun zj => if zj = 5 then true else zB zj, fun zd => if zd = 6 then .pointer (some ⟨vb.heap.size, 0, none⟩) else zS zd, vb.heap.size, rfl, by kernel_rfl, ⟨hF.1, hF.2.1, hF.2.2.1, hF.2.2.2.1, hF.2.2.2.2.1, fun _ => rfl⟩, hW.alloc⟩
      refine StepsI.cons rfl ?_ ?_
      · rintro L zA vb ⟨zB, zS, Y, rfl, rfl, hF, hW⟩ hL hm K hK
        have hb6 : zB 6 = false := by simpa using hL
        have hb4 : zB 4 = true := by cases e : zB 4 with | false => (exfalso; revert hm; simp [metB, Region.binds, e]) | true => rfl
        have hb5 : zB 5 = true := by cases e : zB 5 with | false => (exfalso; revert hm; simp [metB, Region.binds, e]) | true => rfl
        have e4 : zS 16 = .agg #[.int .i64 r0, .int .i64 r1, .bool r2] := hF.2.2.2.2.1 hb4
        have e5 : zS 6 = .pointer (some ⟨Y, 0, none⟩) := hF.2.2.2.2.2 hb5
        clear hL hm
        rw [hb6] at hW
        rw [hb5] at hW
        simp only [puts, Act.put, List.setIfInBounds_toArray, List.set_cons_zero, List.set_cons_succ]
        simp only [e4, e5]
        obtain ⟨_, q6, _⟩ := hW.box rfl
        obtain ⟨q0, q1, q2, q3, q4, q5⟩ := q6 rfl
        go_simp
        exact hK.out _ _ ⟨fun zj => if zj = 5 then true else if zj = 4 then true else if zj = 6 then true else zB zj, fun zd => if zd = 6 then .pointer (some ⟨Y, 0, none⟩) else if zd = 16 then .agg #[.int .i64 r0, .int .i64 r1, .bool r2] else zS zd, Y, by simp [hb4, hb5], by kernel_rfl, ⟨hF.1, hF.2.1, hF.2.2.1, hF.2.2.2.1, fun _ => rfl, fun _ => rfl⟩, hW.store⟩
      exact StepsI.nil (by kernel_rfl)
    · rintro L zA vb ⟨zB, zS, Y, rfl, rfl, hF, hW⟩ hr
      have hu := all_up (by kernel_rfl) (N := 7) (by kernel_rfl) hr
      have hb0 : zB 0 = true := by simpa using hu 0 (by decide)
      have hb1 : zB 1 = true := by simpa using hu 1 (by decide)
      have hb2 : zB 2 = true := by simpa using hu 2 (by decide)
      have hb3 : zB 3 = true := by simpa using hu 3 (by decide)
      have hb4 : zB 4 = true := by simpa using hu 4 (by decide)
      have hb5 : zB 5 = true := by simpa using hu 5 (by decide)
      have hb6 : zB 6 = true := by simpa using hu 6 (by decide)
      have e0 : zS 12 = .agg #[.int .i64 a, .int .i64 b, .bool s] := hF.1 hb0
      have e1 : zS 13 = .agg #[.int .i64 a, .int .i64 b, .bool s] := hF.2.1 hb1
      have e2 : zS 14 = .agg #[.int .i64 c, .int .i64 d, .bool t] := hF.2.2.1 hb2
      have e3 : zS 15 = .agg #[.int .i64 c, .int .i64 d, .bool t] := hF.2.2.2.1 hb3
      have e4 : zS 16 = .agg #[.int .i64 r0, .int .i64 r1, .bool r2] := hF.2.2.2.2.1 hb4
      have e5 : zS 6 = .pointer (some ⟨Y, 0, none⟩) := hF.2.2.2.2.2 hb5
      rw [hb5] at hW
      rw [hb6] at hW
      clear hu hr hF
      simp only [puts, Act.put, List.setIfInBounds_toArray, List.set_cons_zero, List.set_cons_succ]
      simp only [e0, e1, e2, e3, e4, e5]
      clear e0 e1 e2 e3 e4 e5
      clear hb0 hb1 hb2 hb3 hb4 hb5 hb6
      clear zB zS
      obtain ⟨hb2, hY2⟩ := hW.all
      have hX2 := HA.out.below hb2
      have HB1 := mkHid (below_step HB.out hb2)
      clear hW HB HX HY HA hb2
      obtain ⟨q0, q1, q2, _, _, _⟩ := hX2
      obtain ⟨p0, p1, p2, _, _, _⟩ := hY2
      go_wp2_with fail
      refine (eqVal_same _ _ _ _).mono ?_
      rintro e w9 ⟨rfl, hb⟩
      have HB2 := mkHid (below_step HB1.out hb)
      clear HB1 hb
      go_wp2
      go_ret
      exact ⟨rfl, HB2.out⟩

set_option maxRecDepth 100000 in
theorem law_lifted (os : Os) (started : os.Started) (H : Type) (enc : TypeId × Value → H) :
    ReturnsInHanded {} Try.checked os 6 .any (Rows.fnExactValJoinSpec.pre6 enc Try.prog Try.f6 Rows.fnExactValJoinRow.domain false) (Rows.fnExactValJoinSpec.post enc Try.prog Try.f6 false true false false) := by
  refine returnsInHanded_of_change (C := Try.checked) Try.own started (by kernel_rfl) Try.func6
    (ChangeSpec.witness6 (enc := enc) (C := Try.checked) false ⟨#[], #[.agg #[.int .i64 0, .int .i64 0, .bool false], .agg #[.int .i64 0, .int .i64 0, .bool false]], []⟩ 8 (by kernel_rfl) (by kernel_rfl) (by kernel_rfl) (by kernel_rfl)) ?_
  intro W base args ds gs before hval0 hW hcnd _
  have hval : ∀ (j : Nat) t v, Try.f6.params[j]? = some t → args[j]? = some v → Value.okWide Try.prog W .any base t v := hval0
  have hW' := hW
  obtain ⟨p, q, hA0, hV, rfl, hfz, hnd⟩ := hW
  have hA : DataW.TrodAll enc Try.prog W 0 (fun _ => true) true Try.f6.params.toList args.toList ds p := hA0
  rw [Try.params6] at hA hval
  obtain ⟨v0, vs0, d0, ds0, p0, q0, hargs, rfl, rfl, h0, r0⟩ := trodAll_cons hA
  obtain ⟨v1, vs1, d1, ds1, p1, q1, rfl, rfl, rfl, h1, r1⟩ := trodAll_cons r0
  obtain ⟨rfl, rfl, rfl⟩ := trodAll_nil r1
  obtain rfl : args = #[v0, v1] := by cases args; simp_all
  obtain ⟨rfl, rfl⟩ := trodVars_none hV
  have k0 := h0
  have lt0 : ∀ x ∈ p0, x.block < W.heap.size := by obtain ⟨m, hm⟩ := k0; exact DataW.trod_lt m _ _ _ hm
  have k1 := h1
  have lt1 : ∀ x ∈ p1, x.block < W.heap.size := by obtain ⟨m, hm⟩ := k1; exact DataW.trod_lt m _ _ _ hm
  obtain ⟨a, b, s, hv0⟩ := open_val (hval 0 25 v0 rfl rfl) h0
  subst hv0
  obtain ⟨c, d, t, hv1⟩ := open_val (hval 1 25 v1 rfl rfl) h1
  subst hv1
  clear hA0 hval0
  refine (law_walk a b s c d t W).mono fun e W' ⟨he, bel⟩ => ?_
  subst he
  exact ⟨_, rfl, _, _, _, [], _, [], hW', trodAll_mk1 (shut_bool Try.underlying4 _), (trodAll_cons_mk (Below.trod Try.laidOut (by kernel_rfl) (of_decide_eq_true (by kernel_rfl)) k0 bel lt0) (trodAll_cons_mk (Below.trod Try.laidOut (by kernel_rfl) (of_decide_eq_true (by kernel_rfl)) k1 bel lt1) trodAll_mk0)), rfl, bel.frame _, fun h => by cases h⟩

theorem law_holds : Rows.FnExactValJoinSaid :=
  OpenClaim.holds_of_wide 6 Try.f6 rfl rfl rfl rfl rfl rfl rfl ⟨rfl, rfl, rfl, rfl, rfl⟩ rfl rfl rfl rfl rfl (by kernel_rfl) Try.func6 (by kernel_rfl)
    (of_decide_eq_true (by kernel_rfl)) (by unfold Func.isWrapper; first | (rw [if_pos (by decide +kernel)]; kernel_rfl) | (rw [if_neg (by decide +kernel)]; exact ⟨rfl, rfl⟩))
    (fun os started H enc _ => law_lifted os started H enc)

#print axioms law_holds
end Go.Proofs.Ytkapogekghicaaa
