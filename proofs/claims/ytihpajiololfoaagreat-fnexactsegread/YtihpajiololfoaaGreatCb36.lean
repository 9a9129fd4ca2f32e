/-
  FnExactSegRead holds at every argument: the program's SegRead answers as the specification's, field by field; it writes into no argument. No conditions.
-/
import Derived.Test.YtihpajiololfoaaGreatCb33
import Derived.Test.YtihpajiololfoaaGreatCb35
import Derived.Test.YtihpajiololfoaaGreatCb15
import Derived.Test.YtihpajiololfoaaGreatCb34
import Derived.Test.YtihpajiololfoaaGreatCb09
import Derived.ProofKit
import Derived.OpenShut
import Derived.ChangeOld
import Derived.ChangeSlices
import Derived.Laws.OwnMore
namespace Go.Proofs.YtihpajiololfoaaGreat
open Go.ChangeShapes Go.WideShapes Go.ChangeAt Go.RowKit Go.Joins

set_option maxRecDepth 100000 in
set_option maxHeartbeats 12800000 in
theorem law_walk (size lv : Int) (S : SG) (A : SAd) (z : Int) (l : List Int) (a : Option Addr) (c : Nat) (x y : Y) (w : World) (hg : Lim S) (hl : SegAt w A S) (hn : l.length ≤ maxLen) (hk : Q.IntsAt w a l) : Calls Tryz.prog 5 #[.int .i64 size, .int .i64 lv, .agg #[.slice A.a0 S.B.length A.c0, .slice A.a1 S.V.length A.c1, .slice A.a2 S.M.length A.c2], .agg #[.int .i64 z, .slice a l.length c], .agg #[.int .i64 x.1, .int .i64 x.2], .agg #[.int .i64 y.1, .int .i64 y.2]] w fun e w' => e = .returned (.bool true) ∧ Below w.heap.size w w' := by
  have HG := mkHid hg
  have HN := mkHid hn
  obtain ⟨w0, hw0⟩ : ∃ q, ((((w.alloc (.cells #[.slice A.a0 S.B.length A.c0, .slice A.a1 S.V.length A.c1, .slice A.a2 S.M.length A.c2] 26)).alloc (.cells #[.int .i64 z, .slice a l.length c] 29)).alloc (.cells #[.int .i64 x.1, .int .i64 x.2] 46)).alloc (.cells #[.int .i64 y.1, .int .i64 y.2] 46)) = q := ⟨_, rfl⟩
  obtain ⟨X, hX⟩ : ∃ q, w.heap.size = q := ⟨_, rfl⟩
  have BE : Hid (Below w.heap.size w w0) := mkHid (by rw [← hw0]; exact (bl_alloc (bl_alloc (bl_alloc (bl_alloc (Below.refl _ _) _) _) _) _))
  have FS0 : Hid (G3 w0 (X) (.slice A.a0 S.B.length A.c0) (.slice A.a1 S.V.length A.c1) (.slice A.a2 S.M.length A.c2)) := mkHid (by rw [← hw0, ← hX]; exact (G3.new w _ _ _ 26).below (bl_alloc (bl_alloc (bl_alloc (Below.refl _ _) _) _) _))
  have FF0 : Hid (Q.Fc w0 (X + 1) z a l.length c) := mkHid (by rw [← hw0, ← hX]; have := (Q.Fc.new (w.alloc (.cells #[.slice A.a0 S.B.length A.c0, .slice A.a1 S.V.length A.c1, .slice A.a2 S.M.length A.c2] 26)) z a l.length c 29).below (bl_alloc (bl_alloc (Below.refl _ _) (.cells #[.int .i64 x.1, .int .i64 x.2] 46)) (.cells #[.int .i64 y.1, .int .i64 y.2] 46)); simpa using this)
  have FYx : Hid (Box w0 (X + 2) x.1 x.2) := mkHid (by rw [← hw0, ← hX]; have := (Box.new' ((w.alloc (.cells #[.slice A.a0 S.B.length A.c0, .slice A.a1 S.V.length A.c1, .slice A.a2 S.M.length A.c2] 26)).alloc (.cells #[.int .i64 z, .slice a l.length c] 29)) x.1 x.2 46).below (bl_alloc (Below.refl _ _) (.cells #[.int .i64 y.1, .int .i64 y.2] 46)); simpa using this)
  have FYy : Hid (Box w0 (X + 3) y.1 y.2) := mkHid (by rw [← hw0, ← hX]; have := Box.new' (((w.alloc (.cells #[.slice A.a0 S.B.length A.c0, .slice A.a1 S.V.length A.c1, .slice A.a2 S.M.length A.c2] 26)).alloc (.cells #[.int .i64 z, .slice a l.length c] 29)).alloc (.cells #[.int .i64 x.1, .int .i64 x.2] 46)) y.1 y.2 46; simpa using this)
  have LS := mkHid (hl.below BE.out)
  have LF := mkHid (hk.below BE.out)
  clear hg hn hl hk
  obtain ⟨q0, q1, q2, _, _, _⟩ := FS0.out
  go_enter Tryz.func5, Tryz.ntmps5
  go_wp2_with fail
  first | rw [hw0] | skip
  refine (szSeg_any S A _ HG.out.b HG.out.r HG.out.v HG.out.m 1048576 (by omega) (by omega) LS.out).mono ?_
  rintro e w1 ⟨hb, r, rfl, hr⟩
  have HQ := mkHid hr
  have BE := mkHid (below_step BE.out hb)
  have FS0 := mkHid (FS0.out.below hb)
  have FF0 := mkHid (FF0.out.below hb)
  have FYx := mkHid (FYx.out.below hb)
  have FYy := mkHid (FYy.out.below hb)
  have LS := mkHid (LS.out.below hb)
  have LF := mkHid (LF.out.below hb)
  clear hb hr hw0 q0 q1 q2
  first | rw [hX] | skip
  by_cases hneg : r < 0
  · go_wp2
    go_ret
    exact ⟨rfl, BE.out⟩
  obtain ⟨hz1, hz2, hz3, hz4, hz5⟩ := HQ.out (by omega)
  have HM : Hid (Small S) := mkHid ⟨hz1, hz2, hz3, hz4⟩
  clear HQ hz1 hz2 hz3 hz4
  obtain ⟨t0, t1⟩ := FF0.out
  go_wp2_with fail
  refine (Q.szFacts_any z a l.length c r _ HN.out (by omega) hz5).mono ?_
  rintro e w2 ⟨rfl, hb⟩
  have BE := mkHid (below_step BE.out hb)
  have FS0 := mkHid (FS0.out.below hb)
  have FF0 := mkHid (FF0.out.below hb)
  have FYx := mkHid (FYx.out.below hb)
  have FYy := mkHid (FYy.out.below hb)
  have LS := mkHid (LS.out.below hb)
  have LF := mkHid (LF.out.below hb)
  clear hb t0 t1
  by_cases hll : (l.length : Int) ≤ r
  rotate_left
  · have e1 : Q.szR r l.length = -1 := if_neg hll
    rw [e1]
    go_wp2
    go_ret
    exact ⟨rfl, BE.out⟩
  have e1 : Q.szR r l.length = r - l.length := if_pos hll
  have HLN : Hid (l.length ≤ 1048576) := mkHid (by omega)
  obtain ⟨r2, hr2⟩ : ∃ q, r - (l.length : Int) = q := ⟨_, rfl⟩
  have hr3 : ¬ r2 < 0 := by omega
  rw [e1, hr2]
  clear e1 hr2 hll hz5 hneg
  obtain ⟨rd, hrd⟩ := RdR.ex size lv S z l x y
  have HRD := mkHid hrd
  clear hrd
  have cFS0 : ∀ v', Below w2.heap.size w2 v' → G3 v' (X) (.slice A.a0 S.B.length A.c0) (.slice A.a1 S.V.length A.c1) (.slice A.a2 S.M.length A.c2) := fun v' h => FS0.out.below h
  have cFF0 : ∀ v', Below w2.heap.size w2 v' → Q.Fc v' (X + 1) z a l.length (c) := fun v' h => FF0.out.below h
  have cFYx : ∀ v', Below w2.heap.size w2 v' → Box v' (X + 2) (x.1) (x.2) := fun v' h => FYx.out.below h
  have cFYy : ∀ v', Below w2.heap.size w2 v' → Box v' (X + 3) (y.1) (y.2) := fun v' h => FYy.out.below h
  go_wp2_with fail
  refine wp_region_inv2 (fun zA0 L zA vv8 => ∃ (zB : Nat → Bool) (zS : Nat → Value) (Aq : SAd) (gq : Nat) (qw : Nat), L = #[zB 0, zB 1, zB 2, zB 3, zB 4, zB 5, zB 6, zB 7, zB 8, zB 9, zB 10, zB 11, zB 12] ∧ zA = puts zA0 [(28, zS 28), (29, zS 29), (30, zS 30), (31, zS 31), (32, zS 32), (33, zS 33), (34, zS 34), (35, zS 35), (36, zS 36), (37, zS 37), (38, zS 38), (14, zS 14)] ∧ ((zB 0 = true → zS 28 = .int .i64 size) ∧ (zB 1 = true → zS 29 = .int .i64 lv) ∧ (zB 2 = true → zS 30 = .agg #[.slice A.a0 S.B.length A.c0, .slice A.a1 S.V.length A.c1, .slice A.a2 S.M.length A.c2]) ∧ (zB 3 = true → zS 31 = .agg #[.slice Aq.a0 S.B.length Aq.c0, .slice Aq.a1 S.V.length Aq.c1, .slice Aq.a2 S.M.length Aq.c2]) ∧ (zB 4 = true → zS 32 = .agg #[.int .i64 z, .slice a l.length c]) ∧ (zB 5 = true → zS 33 = .agg #[.int .i64 z, .slice (some ⟨gq, 0, none⟩) l.length l.length]) ∧ (zB 6 = true → zS 34 = .agg #[.int .i64 x.1, .int .i64 x.2]) ∧ (zB 7 = true → zS 35 = .agg #[.int .i64 x.1, .int .i64 x.2]) ∧ (zB 8 = true → zS 36 = .agg #[.int .i64 y.1, .int .i64 y.2]) ∧ (zB 9 = true → zS 37 = .agg #[.int .i64 y.1, .int .i64 y.2]) ∧ (zB 10 = true → zS 38 = .agg #[.int .i64 rd.1, .int .i64 rd.2.1, .bool rd.2.2]) ∧ (zB 11 = true → zS 14 = .pointer (some ⟨qw, 0, none⟩))) ∧ Below w2.heap.size w2 vv8 ∧ ((zB 3) = true → (zB 10) = false → SegAt vv8 Aq S) ∧ ((zB 5) = true → (zB 10) = false → Q.IntsAt vv8 (some ⟨gq, 0, none⟩) l) ∧ ((zB 11) = true → (zB 12) = false → V3 vv8 qw 0 0 false ∧ w2.heap.size ≤ qw) ∧ ((zB 12) = true → (zB 11) = true ∧ V3 vv8 qw rd.1 rd.2.1 rd.2.2 ∧ w2.heap.size ≤ qw)) (by kernel_rfl) ?_ ?_ ?_
  · exact ⟨fun _ => false, fun _ => undef, zAd, 0, 0, rfl, by kernel_rfl, ⟨fun e => ft e, fun e => ft e, fun e => ft e, fun e => ft e, fun e => ft e, fun e => ft e, fun e => ft e, fun e => ft e, fun e => ft e, fun e => ft e, fun e => ft e, fun e => ft e⟩, ⟨(Below.refl _ _).drew, fun e => ft e, fun e => ft e, fun e => ft e, fun e => ft e⟩⟩
  · refine StepsI.cons rfl ?_ ?_
    · rintro L zA vv8 ⟨zB, zS, Aq, gq, qw, rfl, rfl, hF, hW⟩ hL hm K hK
      have hb0 : zB 0 = false := by simpa using hL
      clear hL hm
      simp only [puts, Act.put, List.setIfInBounds_toArray, List.set_cons_zero, List.set_cons_succ]
      go_simp
      exact hK.out _ _ ⟨fun zj => if zj = 0 then true else zB zj, fun zd => if zd = 28 then .int .i64 size else zS zd, Aq, gq, qw, rfl, by kernel_rfl, ⟨fun _ => rfl, hF.2.1, hF.2.2.1, hF.2.2.2.1, hF.2.2.2.2.1, hF.2.2.2.2.2.1, hF.2.2.2.2.2.2.1, hF.2.2.2.2.2.2.2.1, hF.2.2.2.2.2.2.2.2.1, hF.2.2.2.2.2.2.2.2.2.1, hF.2.2.2.2.2.2.2.2.2.2.1, hF.2.2.2.2.2.2.2.2.2.2.2⟩, hW⟩
    refine StepsI.cons rfl ?_ ?_
    · rintro L zA vv8 ⟨zB, zS, Aq, gq, qw, rfl, rfl, hF, hW⟩ hL hm K hK
      have hb1 : zB 1 = false := by simpa using hL
      clear hL hm
      simp only [puts, Act.put, List.setIfInBounds_toArray, List.set_cons_zero, List.set_cons_succ]
      go_simp
      exact hK.out _ _ ⟨fun zj => if zj = 1 then true else zB zj, fun zd => if zd = 29 then .int .i64 lv else zS zd, Aq, gq, qw, rfl, by kernel_rfl, ⟨hF.1, fun _ => rfl, hF.2.2.1, hF.2.2.2.1, hF.2.2.2.2.1, hF.2.2.2.2.2.1, hF.2.2.2.2.2.2.1, hF.2.2.2.2.2.2.2.1, hF.2.2.2.2.2.2.2.2.1, hF.2.2.2.2.2.2.2.2.2.1, hF.2.2.2.2.2.2.2.2.2.2.1, hF.2.2.2.2.2.2.2.2.2.2.2⟩, hW⟩
    refine StepsI.cons rfl ?_ ?_
    · rintro L zA vv8 ⟨zB, zS, Aq, gq, qw, rfl, rfl, hF, hW⟩ hL hm K hK
      have hb2 : zB 2 = false := by simpa using hL
      clear hL hm
      simp only [puts, Act.put, List.setIfInBounds_toArray, List.set_cons_zero, List.set_cons_succ]
      obtain ⟨k0, k1, k2, _, _, _⟩ := cFS0 _ hW.1
      go_simp
      exact hK.out _ _ ⟨fun zj => if zj = 2 then true else zB zj, fun zd => if zd = 30 then .agg #[.slice A.a0 S.B.length A.c0, .slice A.a1 S.V.length A.c1, .slice A.a2 S.M.length A.c2] else zS zd, Aq, gq, qw, rfl, by kernel_rfl, ⟨hF.1, hF.2.1, fun _ => rfl, hF.2.2.2.1, hF.2.2.2.2.1, hF.2.2.2.2.2.1, hF.2.2.2.2.2.2.1, hF.2.2.2.2.2.2.2.1, hF.2.2.2.2.2.2.2.2.1, hF.2.2.2.2.2.2.2.2.2.1, hF.2.2.2.2.2.2.2.2.2.2.1, hF.2.2.2.2.2.2.2.2.2.2.2⟩, hW⟩
    refine StepsI.cons rfl ?_ ?_
    · rintro L zA vv8 ⟨zB, zS, Aq, gq, qw, rfl, rfl, hF, hW⟩ hL hm K hK
      have hb3 : zB 3 = false := by simpa using hL
      have hb2 : zB 2 = true := by cases e : zB 2 with | false => (exfalso; revert hm; simp [metB, Region.binds, e]) | true => rfl
      have e2 : zS 30 = .agg #[.slice A.a0 S.B.length A.c0, .slice A.a1 S.V.length A.c1, .slice A.a2 S.M.length A.c2] := hF.2.2.1 hb2
      clear hL hm
      rw [hb3] at hW
      simp only [puts, Act.put, List.setIfInBounds_toArray, List.set_cons_zero, List.set_cons_succ]
      simp only [e2]
      go_simp
      refine (toSeg_any S A _ HM.out.b HM.out.t HM.out.v HM.out.m (LS.out.below hW.1)).mono ?_
      rintro e vv82 ⟨Aq9, rfl, ho, hb⟩
      go_wp2_with fail
      exact hK.out _ _ ⟨fun zj => if zj = 2 then true else if zj = 3 then true else zB zj, fun zd => if zd = 31 then .agg #[.slice Aq9.a0 S.B.length Aq9.c0, .slice Aq9.a1 S.V.length Aq9.c1, .slice Aq9.a2 S.M.length Aq9.c2] else if zd = 30 then .agg #[.slice A.a0 S.B.length A.c0, .slice A.a1 S.V.length A.c1, .slice A.a2 S.M.length A.c2] else zS zd, Aq9, gq, qw, by simp [hb2], by kernel_rfl, ⟨hF.1, hF.2.1, fun _ => rfl, fun _ => rfl, hF.2.2.2.2.1, hF.2.2.2.2.2.1, hF.2.2.2.2.2.2.1, hF.2.2.2.2.2.2.2.1, hF.2.2.2.2.2.2.2.2.1, hF.2.2.2.2.2.2.2.2.2.1, hF.2.2.2.2.2.2.2.2.2.2.1, hF.2.2.2.2.2.2.2.2.2.2.2⟩, ⟨below_step hW.1 hb, fun _ _ => ho.at, fun q r => (hW.2.2.1 q r).below hb, fun q r => ⟨(hW.2.2.2.1 q r).1.below hb, (hW.2.2.2.1 q r).2⟩, fun q => ⟨(hW.2.2.2.2 q).1, (hW.2.2.2.2 q).2.1.below hb, (hW.2.2.2.2 q).2.2⟩⟩⟩
    refine StepsI.cons rfl ?_ ?_
    · rintro L zA vv8 ⟨zB, zS, Aq, gq, qw, rfl, rfl, hF, hW⟩ hL hm K hK
      have hb4 : zB 4 = false := by simpa using hL
      clear hL hm
      simp only [puts, Act.put, List.setIfInBounds_toArray, List.set_cons_zero, List.set_cons_succ]
      obtain ⟨k0, k1⟩ := cFF0 _ hW.1
      go_simp
      exact hK.out _ _ ⟨fun zj => if zj = 4 then true else zB zj, fun zd => if zd = 32 then .agg #[.int .i64 z, .slice a l.length c] else zS zd, Aq, gq, qw, rfl, by kernel_rfl, ⟨hF.1, hF.2.1, hF.2.2.1, hF.2.2.2.1, fun _ => rfl, hF.2.2.2.2.2.1, hF.2.2.2.2.2.2.1, hF.2.2.2.2.2.2.2.1, hF.2.2.2.2.2.2.2.2.1, hF.2.2.2.2.2.2.2.2.2.1, hF.2.2.2.2.2.2.2.2.2.2.1, hF.2.2.2.2.2.2.2.2.2.2.2⟩, hW⟩
    refine StepsI.cons rfl ?_ ?_
    · rintro L zA vv8 ⟨zB, zS, Aq, gq, qw, rfl, rfl, hF, hW⟩ hL hm K hK
      have hb5 : zB 5 = false := by simpa using hL
      have hb4 : zB 4 = true := by cases e : zB 4 with | false => (exfalso; revert hm; simp [metB, Region.binds, e]) | true => rfl
      have e4 : zS 32 = .agg #[.int .i64 z, .slice a l.length c] := hF.2.2.2.2.1 hb4
      clear hL hm
      rw [hb5] at hW
      simp only [puts, Act.put, List.setIfInBounds_toArray, List.set_cons_zero, List.set_cons_succ]
      simp only [e4]
      go_simp
      refine (Q.toFacts_any z l a c _ HLN.out (LF.out.below hW.1)).mono ?_
      rintro e vv82 ⟨gq9, rfl, ho, hb⟩
      go_wp2_with fail
      exact hK.out _ _ ⟨fun zj => if zj = 4 then true else if zj = 5 then true else zB zj, fun zd => if zd = 33 then .agg #[.int .i64 z, .slice (some ⟨gq9, 0, none⟩) l.length l.length] else if zd = 32 then .agg #[.int .i64 z, .slice a l.length c] else zS zd, Aq, gq9, qw, by simp [hb4], by kernel_rfl, ⟨hF.1, hF.2.1, hF.2.2.1, hF.2.2.2.1, fun _ => rfl, fun _ => rfl, hF.2.2.2.2.2.2.1, hF.2.2.2.2.2.2.2.1, hF.2.2.2.2.2.2.2.2.1, hF.2.2.2.2.2.2.2.2.2.1, hF.2.2.2.2.2.2.2.2.2.2.1, hF.2.2.2.2.2.2.2.2.2.2.2⟩, ⟨below_step hW.1 hb, fun q r => (hW.2.1 q r).below hb, fun _ _ => ho.at, fun q r => ⟨(hW.2.2.2.1 q r).1.below hb, (hW.2.2.2.1 q r).2⟩, fun q => ⟨(hW.2.2.2.2 q).1, (hW.2.2.2.2 q).2.1.below hb, (hW.2.2.2.2 q).2.2⟩⟩⟩
    refine StepsI.cons rfl ?_ ?_
    · rintro L zA vv8 ⟨zB, zS, Aq, gq, qw, rfl, rfl, hF, hW⟩ hL hm K hK
      have hb6 : zB 6 = false := by simpa using hL
      clear hL hm
      simp only [puts, Act.put, List.setIfInBounds_toArray, List.set_cons_zero, List.set_cons_succ]
      obtain ⟨k0, k1, _, _⟩ := cFYx _ hW.1
      go_simp
      exact hK.out _ _ ⟨fun zj => if zj = 6 then true else zB zj, fun zd => if zd = 34 then .agg #[.int .i64 x.1, .int .i64 x.2] else zS zd, Aq, gq, qw, rfl, by kernel_rfl, ⟨hF.1, hF.2.1, hF.2.2.1, hF.2.2.2.1, hF.2.2.2.2.1, hF.2.2.2.2.2.1, fun _ => rfl, hF.2.2.2.2.2.2.2.1, hF.2.2.2.2.2.2.2.2.1, hF.2.2.2.2.2.2.2.2.2.1, hF.2.2.2.2.2.2.2.2.2.2.1, hF.2.2.2.2.2.2.2.2.2.2.2⟩, hW⟩
    refine StepsI.cons rfl ?_ ?_
    · rintro L zA vv8 ⟨zB, zS, Aq, gq, qw, rfl, rfl, hF, hW⟩ hL hm K hK
      have hb7 : zB 7 = false := by simpa using hL
      have hb6 : zB 6 = true := by cases e : zB 6 with | false => (exfalso; revert hm; simp [metB, Region.binds, e]) | true => rfl
      have e6 : zS 34 = .agg #[.int .i64 x.1, .int .i64 x.2] := hF.2.2.2.2.2.2.1 hb6
      clear hL hm
      simp only [puts, Act.put, List.setIfInBounds_toArray, List.set_cons_zero, List.set_cons_succ]
      simp only [e6]
      go_simp
      refine (toSym_any x.1 x.2 _).mono ?_
      rintro e vv82 ⟨rfl, hb⟩
      go_wp2_with fail
      exact hK.out _ _ ⟨fun zj => if zj = 6 then true else if zj = 7 then true else zB zj, fun zd => if zd = 35 then .agg #[.int .i64 x.1, .int .i64 x.2] else if zd = 34 then .agg #[.int .i64 x.1, .int .i64 x.2] else zS zd, Aq, gq, qw, by simp [hb6], by kernel_rfl, ⟨hF.1, hF.2.1, hF.2.2.1, hF.2.2.2.1, hF.2.2.2.2.1, hF.2.2.2.2.2.1, fun _ => rfl, fun _ => rfl, hF.2.2.2.2.2.2.2.2.1, hF.2.2.2.2.2.2.2.2.2.1, hF.2.2.2.2.2.2.2.2.2.2.1, hF.2.2.2.2.2.2.2.2.2.2.2⟩, ⟨below_step hW.1 hb, fun q r => (hW.2.1 q r).below hb, fun q r => (hW.2.2.1 q r).below hb, fun q r => ⟨(hW.2.2.2.1 q r).1.below hb, (hW.2.2.2.1 q r).2⟩, fun q => ⟨(hW.2.2.2.2 q).1, (hW.2.2.2.2 q).2.1.below hb, (hW.2.2.2.2 q).2.2⟩⟩⟩
    refine StepsI.cons rfl ?_ ?_
    · rintro L zA vv8 ⟨zB, zS, Aq, gq, qw, rfl, rfl, hF, hW⟩ hL hm K hK
      have hb8 : zB 8 = false := by simpa using hL
      clear hL hm
      simp only [puts, Act.put, List.setIfInBounds_toArray, List.set_cons_zero, List.set_cons_succ]
      obtain ⟨k0, k1, _, _⟩ := cFYy _ hW.1
      go_simp
      exact hK.out _ _ ⟨fun zj => if zj = 8 then true else zB zj, fun zd => if zd = 36 then .agg #[.int .i64 y.1, .int .i64 y.2] else zS zd, Aq, gq, qw, rfl, by kernel_rfl, ⟨hF.1, hF.2.1, hF.2.2.1, hF.2.2.2.1, hF.2.2.2.2.1, hF.2.2.2.2.2.1, hF.2.2.2.2.2.2.1, hF.2.2.2.2.2.2.2.1, fun _ => rfl, hF.2.2.2.2.2.2.2.2.2.1, hF.2.2.2.2.2.2.2.2.2.2.1, hF.2.2.2.2.2.2.2.2.2.2.2⟩, hW⟩
    refine StepsI.cons rfl ?_ ?_
    · rintro L zA vv8 ⟨zB, zS, Aq, gq, qw, rfl, rfl, hF, hW⟩ hL hm K hK
      have hb9 : zB 9 = false := by simpa using hL
      have hb8 : zB 8 = true := by cases e : zB 8 with | false => (exfalso; revert hm; simp [metB, Region.binds, e]) | true => rfl
      have e8 : zS 36 = .agg #[.int .i64 y.1, .int .i64 y.2] := hF.2.2.2.2.2.2.2.2.1 hb8
      clear hL hm
      simp only [puts, Act.put, List.setIfInBounds_toArray, List.set_cons_zero, List.set_cons_succ]
      simp only [e8]
      go_simp
      refine (toSym_any y.1 y.2 _).mono ?_
      rintro e vv82 ⟨rfl, hb⟩
      go_wp2_with fail
      exact hK.out _ _ ⟨fun zj => if zj = 8 then true else if zj = 9 then true else zB zj, fun zd => if zd = 37 then .agg #[.int .i64 y.1, .int .i64 y.2] else if zd = 36 then .agg #[.int .i64 y.1, .int .i64 y.2] else zS zd, Aq, gq, qw, by simp [hb8], by kernel_rfl, ⟨hF.1, hF.2.1, hF.2.2.1, hF.2.2.2.1, hF.2.2.2.2.1, hF.2.2.2.2.2.1, hF.2.2.2.2.2.2.1, hF.2.2.2.2.2.2.2.1, fun _ => rfl, fun _ => rfl, hF.2.2.2.2.2.2.2.2.2.2.1, hF.2.2.2.2.2.2.2.2.2.2.2⟩, ⟨below_step hW.1 hb, fun q r => (hW.2.1 q r).below hb, fun q r => (hW.2.2.1 q r).below hb, fun q r => ⟨(hW.2.2.2.1 q r).1.below hb, (hW.2.2.2.1 q r).2⟩, fun q => ⟨(hW.2.2.2.2 q).1, (hW.2.2.2.2 q).2.1.below hb, (hW.2.2.2.2 q).2.2⟩⟩⟩
    refine StepsI.cons rfl ?_ ?_
    · rintro L zA vv8 ⟨zB, zS, Aq, gq, qw, rfl, rfl, hF, hW⟩ hL hm K hK
      have hb10 : zB 10 = false := by simpa using hL
      have hb0 : zB 0 = true := by cases e : zB 0 with | false => (exfalso; revert hm; simp [metB, Region.binds, e]) | true => rfl
      have hb1 : zB 1 = true := by cases e : zB 1 with | false => (exfalso; revert hm; simp [metB, Region.binds, e]) | true => rfl
      have hb3 : zB 3 = true := by cases e : zB 3 with | false => (exfalso; revert hm; simp [metB, Region.binds, e]) | true => rfl
      have hb5 : zB 5 = true := by cases e : zB 5 with | false => (exfalso; revert hm; simp [metB, Region.binds, e]) | true => rfl
      have hb7 : zB 7 = true := by cases e : zB 7 with | false => (exfalso; revert hm; simp [metB, Region.binds, e]) | true => rfl
      have hb9 : zB 9 = true := by cases e : zB 9 with | false => (exfalso; revert hm; simp [metB, Region.binds, e]) | true => rfl
      have e0 : zS 28 = .int .i64 size := hF.1 hb0
      have e1 : zS 29 = .int .i64 lv := hF.2.1 hb1
      have e3 : zS 31 = .agg #[.slice Aq.a0 S.B.length Aq.c0, .slice Aq.a1 S.V.length Aq.c1, .slice Aq.a2 S.M.length Aq.c2] := hF.2.2.2.1 hb3
      have e5 : zS 33 = .agg #[.int .i64 z, .slice (some ⟨gq, 0, none⟩) l.length l.length] := hF.2.2.2.2.2.1 hb5
      have e7 : zS 35 = .agg #[.int .i64 x.1, .int .i64 x.2] := hF.2.2.2.2.2.2.2.1 hb7
      have e9 : zS 37 = .agg #[.int .i64 y.1, .int .i64 y.2] := hF.2.2.2.2.2.2.2.2.2.1 hb9
      clear hL hm
      rw [hb10] at hW
      rw [hb3] at hW
      rw [hb5] at hW
      simp only [puts, Act.put, List.setIfInBounds_toArray, List.set_cons_zero, List.set_cons_succ]
      simp only [e0, e1, e3, e5, e7, e9]
      go_simp
      refine (sSegRead_any size lv S Aq z l (some ⟨gq, 0, none⟩) l.length x y _ HM.out (hW.2.1 (by first | rfl | trivial) rfl) (hW.2.2.1 (by first | rfl | trivial) rfl)).mono ?_
      rintro e vv82 ⟨rr9, hsp, rfl, hb⟩
      obtain rfl := HRD.out.one hsp
      clear hsp
      go_wp2_with fail
      exact hK.out _ _ ⟨fun zj => if zj = 9 then true else if zj = 7 then true else if zj = 5 then true else if zj = 3 then true else if zj = 1 then true else if zj = 0 then true else if zj = 10 then true else zB zj, fun zd => if zd = 38 then .agg #[.int .i64 rd.1, .int .i64 rd.2.1, .bool rd.2.2] else if zd = 37 then .agg #[.int .i64 y.1, .int .i64 y.2] else if zd = 35 then .agg #[.int .i64 x.1, .int .i64 x.2] else if zd = 33 then .agg #[.int .i64 z, .slice (some ⟨gq, 0, none⟩) l.length l.length] else if zd = 31 then .agg #[.slice Aq.a0 S.B.length Aq.c0, .slice Aq.a1 S.V.length Aq.c1, .slice Aq.a2 S.M.length Aq.c2] else if zd = 29 then .int .i64 lv else if zd = 28 then .int .i64 size else zS zd, Aq, gq, qw, by simp [hb0, hb1, hb3, hb5, hb7, hb9], by kernel_rfl, ⟨fun _ => rfl, fun _ => rfl, hF.2.2.1, fun _ => rfl, hF.2.2.2.2.1, fun _ => rfl, hF.2.2.2.2.2.2.1, fun _ => rfl, hF.2.2.2.2.2.2.2.2.1, fun _ => rfl, fun _ => rfl, hF.2.2.2.2.2.2.2.2.2.2.2⟩, ⟨below_step hW.1 hb, fun _ e => tf e, fun _ e => tf e, fun q r => ⟨(hW.2.2.2.1 q r).1.below hb, (hW.2.2.2.1 q r).2⟩, fun q => ⟨(hW.2.2.2.2 q).1, (hW.2.2.2.2 q).2.1.below hb, (hW.2.2.2.2 q).2.2⟩⟩⟩
    refine StepsI.cons rfl ?_ ?_
    · rintro L zA vv8 ⟨zB, zS, Aq, gq, qw, rfl, rfl, hF, hW⟩ hL hm K hK
      have hb11 : zB 11 = false := by simpa using hL
      clear hL hm
      rw [hb11] at hW
      simp only [puts, Act.put, List.setIfInBounds_toArray, List.set_cons_zero, List.set_cons_succ]
      go_simp
      exact hK.out _ _ ⟨fun zj => if zj = 11 then true else zB zj, fun zd => if zd = 14 then .pointer (some ⟨vv8.heap.size, 0, none⟩) else zS zd, Aq, gq, vv8.heap.size, rfl, by kernel_rfl, ⟨hF.1, hF.2.1, hF.2.2.1, hF.2.2.2.1, hF.2.2.2.2.1, hF.2.2.2.2.2.1, hF.2.2.2.2.2.2.1, hF.2.2.2.2.2.2.2.1, hF.2.2.2.2.2.2.2.2.1, hF.2.2.2.2.2.2.2.2.2.1, hF.2.2.2.2.2.2.2.2.2.2.1, fun _ => rfl⟩, ⟨bl_alloc hW.1 _, fun q r => (hW.2.1 q r).below (bl_alloc (Below.refl _ _) _), fun q r => (hW.2.2.1 q r).below (bl_alloc (Below.refl _ _) _), fun _ _ => ⟨V3.new vv8 0 0 false 55, hW.1.size⟩, fun e => ft (hW.2.2.2.2 e).1⟩⟩
    refine StepsI.cons rfl ?_ ?_
    · rintro L zA vv8 ⟨zB, zS, Aq, gq, qw, rfl, rfl, hF, hW⟩ hL hm K hK
      have hb12 : zB 12 = false := by simpa using hL
      have hb10 : zB 10 = true := by cases e : zB 10 with | false => (exfalso; revert hm; simp [metB, Region.binds, e]) | true => rfl
      have hb11 : zB 11 = true := by cases e : zB 11 with | false => (exfalso; revert hm; simp [metB, Region.binds, e]) | true => rfl
      have e10 : zS 38 = .agg #[.int .i64 rd.1, .int .i64 rd.2.1, .bool rd.2.2] := hF.2.2.2.2.2.2.2.2.2.2.1 hb10
      have e11 : zS 14 = .pointer (some ⟨qw, 0, none⟩) := hF.2.2.2.2.2.2.2.2.2.2.2 hb11
      clear hL hm
      rw [hb12] at hW
      rw [hb10] at hW
      rw [hb11] at hW
      simp only [puts, Act.put, List.setIfInBounds_toArray, List.set_cons_zero, List.set_cons_succ]
      simp only [e10, e11]
      have hz9 := mkHid (hW.2.2.2.1 rfl rfl)
      obtain ⟨k0, k1, k2, k3, k4, k5⟩ := hz9.out.1
      go_simp
      exact hK.out _ _ ⟨fun zj => if zj = 11 then true else if zj = 10 then true else if zj = 12 then true else zB zj, fun zd => if zd = 14 then .pointer (some ⟨qw, 0, none⟩) else if zd = 38 then .agg #[.int .i64 rd.1, .int .i64 rd.2.1, .bool rd.2.2] else zS zd, Aq, gq, qw, by simp [hb10, hb11], by kernel_rfl, ⟨hF.1, hF.2.1, hF.2.2.1, hF.2.2.2.1, hF.2.2.2.2.1, hF.2.2.2.2.2.1, hF.2.2.2.2.2.2.1, hF.2.2.2.2.2.2.2.1, hF.2.2.2.2.2.2.2.2.1, hF.2.2.2.2.2.2.2.2.2.1, fun _ => rfl, fun _ => rfl⟩, ⟨below_set3 hW.1 hz9.out.2 _ _ _, fun _ e => tf e, fun _ e => tf e, fun _ e => tf e, fun _ => ⟨rfl, hz9.out.1.set _ _ _, hz9.out.2⟩⟩⟩
    exact StepsI.nil (by kernel_rfl)
  · rintro L zA vv8 ⟨zB, zS, Aq, gq, qw, rfl, rfl, hF, hW⟩ hr
    have hu := all_up (by kernel_rfl) (N := 13) (by kernel_rfl) hr
    have hb0 : zB 0 = true := by simpa using hu 0 (by decide)
    have hb1 : zB 1 = true := by simpa using hu 1 (by decide)
    have hb2 : zB 2 = true := by simpa using hu 2 (by decide)
    have hb3 : zB 3 = true := by simpa using hu 3 (by decide)
    have hb4 : zB 4 = true := by simpa using hu 4 (by decide)
    have hb5 : zB 5 = true := by simpa using hu 5 (by decide)
    have hb6 : zB 6 = true := by simpa using hu 6 (by decide)
    have hb7 : zB 7 = true := by simpa using hu 7 (by decide)
    have hb8 : zB 8 = true := by simpa using hu 8 (by decide)
    have hb9 : zB 9 = true := by simpa using hu 9 (by decide)
    have hb10 : zB 10 = true := by simpa using hu 10 (by decide)
    have hb11 : zB 11 = true := by simpa using hu 11 (by decide)
    have hb12 : zB 12 = true := by simpa using hu 12 (by decide)
    have e0 : zS 28 = .int .i64 size := hF.1 hb0
    have e1 : zS 29 = .int .i64 lv := hF.2.1 hb1
    have e2 : zS 30 = .agg #[.slice A.a0 S.B.length A.c0, .slice A.a1 S.V.length A.c1, .slice A.a2 S.M.length A.c2] := hF.2.2.1 hb2
    have e3 : zS 31 = .agg #[.slice Aq.a0 S.B.length Aq.c0, .slice Aq.a1 S.V.length Aq.c1, .slice Aq.a2 S.M.length Aq.c2] := hF.2.2.2.1 hb3
    have e4 : zS 32 = .agg #[.int .i64 z, .slice a l.length c] := hF.2.2.2.2.1 hb4
    have e5 : zS 33 = .agg #[.int .i64 z, .slice (some ⟨gq, 0, none⟩) l.length l.length] := hF.2.2.2.2.2.1 hb5
    have e6 : zS 34 = .agg #[.int .i64 x.1, .int .i64 x.2] := hF.2.2.2.2.2.2.1 hb6
    have e7 : zS 35 = .agg #[.int .i64 x.1, .int .i64 x.2] := hF.2.2.2.2.2.2.2.1 hb7
    have e8 : zS 36 = .agg #[.int .i64 y.1, .int .i64 y.2] := hF.2.2.2.2.2.2.2.2.1 hb8
    have e9 : zS 37 = .agg #[.int .i64 y.1, .int .i64 y.2] := hF.2.2.2.2.2.2.2.2.2.1 hb9
    have e10 : zS 38 = .agg #[.int .i64 rd.1, .int .i64 rd.2.1, .bool rd.2.2] := hF.2.2.2.2.2.2.2.2.2.2.1 hb10
    have e11 : zS 14 = .pointer (some ⟨qw, 0, none⟩) := hF.2.2.2.2.2.2.2.2.2.2.2 hb11
    rw [hb3] at hW
    rw [hb5] at hW
    rw [hb10] at hW
    rw [hb11] at hW
    rw [hb12] at hW
    clear hu hr hF
    simp only [puts, Act.put, List.setIfInBounds_toArray, List.set_cons_zero, List.set_cons_succ]
    simp only [e0, e1, e2, e3, e4, e5, e6, e7, e8, e9, e10, e11]
    clear e0 e1 e2 e3 e4 e5 e6 e7 e8 e9 e10 e11
    clear hb0 hb1 hb2 hb3 hb4 hb5 hb6 hb7 hb8 hb9 hb10 hb11 hb12
    clear zB zS
    have hb := hW.1
    have FW := mkHid (hW.2.2.2.2 (by first | rfl | trivial)).2.1
    have BE := mkHid (below_step BE.out hb)
    have FS0 := mkHid (FS0.out.below hb)
    have FF0 := mkHid (FF0.out.below hb)
    have FYx := mkHid (FYx.out.below hb)
    have FYy := mkHid (FYy.out.below hb)
    have LS := mkHid (LS.out.below hb)
    have LF := mkHid (LF.out.below hb)
    clear hb hW
    clear cFS0 cFF0 cFYx cFYy
    obtain ⟨k0, k1, k2, _, _, _⟩ := FS0.out
    go_wp2_with fail
    refine (toSeg_any S A _ HM.out.b HM.out.t HM.out.v HM.out.m LS.out).mono ?_
    rintro e wa ⟨Ax, rfl, ho, hb⟩
    have BE := mkHid (below_step BE.out hb)
    have FS0 := mkHid (FS0.out.below hb)
    have FF0 := mkHid (FF0.out.below hb)
    have FYx := mkHid (FYx.out.below hb)
    have FYy := mkHid (FYy.out.below hb)
    have LS := mkHid (LS.out.below hb)
    have LF := mkHid (LF.out.below hb)
    have FW := mkHid (FW.out.below hb)
    have LX := mkHid ho.at
    clear ho hb k0 k1 k2
    obtain ⟨X15, hX15⟩ : ∃ x, wa.heap.size = x := ⟨_, rfl⟩
    obtain ⟨w4, hw4⟩ : ∃ x : World, wa.alloc (.cells #[.slice Ax.a0 S.B.length Ax.c0, .slice Ax.a1 S.V.length Ax.c1, .slice Ax.a2 S.M.length Ax.c2] 35) = x := ⟨_, rfl⟩
    have hb : Below wa.heap.size wa w4 := by rw [← hw4]; exact bl_alloc (Below.refl _ _) _
    have BE := mkHid (below_step BE.out hb)
    have FS0 := mkHid (FS0.out.below hb)
    have FF0 := mkHid (FF0.out.below hb)
    have FYx := mkHid (FYx.out.below hb)
    have FYy := mkHid (FYy.out.below hb)
    have LS := mkHid (LS.out.below hb)
    have LF := mkHid (LF.out.below hb)
    have FW := mkHid (FW.out.below hb)
    have LX := mkHid (LX.out.below hb)
    have FS15 : Hid (G3 w4 X15 (.slice Ax.a0 S.B.length Ax.c0) (.slice Ax.a1 S.V.length Ax.c1) (.slice Ax.a2 S.M.length Ax.c2)) := mkHid (by rw [← hw4, ← hX15]; exact G3.new _ _ _ _ 35)
    clear hb
    obtain ⟨k0, k1⟩ := FF0.out
    go_wp2_with fail
    first | rw [hw4] | skip
    first | rw [hX15] | skip
    clear hw4 hX15
    refine (Q.toFacts_any z l a c _ HLN.out LF.out).mono ?_
    rintro e wb ⟨gx, rfl, ho, hb⟩
    have BE := mkHid (below_step BE.out hb)
    have FS0 := mkHid (FS0.out.below hb)
    have FF0 := mkHid (FF0.out.below hb)
    have FYx := mkHid (FYx.out.below hb)
    have FYy := mkHid (FYy.out.below hb)
    have LS := mkHid (LS.out.below hb)
    have LF := mkHid (LF.out.below hb)
    have FW := mkHid (FW.out.below hb)
    have LX := mkHid (LX.out.below hb)
    have FS15 := mkHid (FS15.out.below hb)
    have LG := mkHid ho.at
    clear ho hb k0 k1
    obtain ⟨X16, hX16⟩ : ∃ x, wb.heap.size = x := ⟨_, rfl⟩
    obtain ⟨w5, hw5⟩ : ∃ x : World, wb.alloc (.cells #[.int .i64 z, .slice (some ⟨gx, 0, none⟩) l.length l.length] 38) = x := ⟨_, rfl⟩
    have hb : Below wb.heap.size wb w5 := by rw [← hw5]; exact bl_alloc (Below.refl _ _) _
    have BE := mkHid (below_step BE.out hb)
    have FS0 := mkHid (FS0.out.below hb)
    have FF0 := mkHid (FF0.out.below hb)
    have FYx := mkHid (FYx.out.below hb)
    have FYy := mkHid (FYy.out.below hb)
    have LS := mkHid (LS.out.below hb)
    have LF := mkHid (LF.out.below hb)
    have FW := mkHid (FW.out.below hb)
    have LX := mkHid (LX.out.below hb)
    have FS15 := mkHid (FS15.out.below hb)
    have LG := mkHid (LG.out.below hb)
    have FF16 : Hid (Q.Fc w5 X16 z (some ⟨gx, 0, none⟩) l.length l.length) := mkHid (by rw [← hw5, ← hX16]; exact Q.Fc.new _ _ _ _ _ 38)
    clear hb
    have cFS0 : ∀ v', Below w5.heap.size w5 v' → G3 v' (X) (.slice A.a0 S.B.length A.c0) (.slice A.a1 S.V.length A.c1) (.slice A.a2 S.M.length A.c2) := fun v' h => FS0.out.below h
    have cFF0 : ∀ v', Below w5.heap.size w5 v' → Q.Fc v' (X + 1) z a l.length (c) := fun v' h => FF0.out.below h
    have cFYx : ∀ v', Below w5.heap.size w5 v' → Box v' (X + 2) (x.1) (x.2) := fun v' h => FYx.out.below h
    have cFYy : ∀ v', Below w5.heap.size w5 v' → Box v' (X + 3) (y.1) (y.2) := fun v' h => FYy.out.below h
    have cFW : ∀ v', Below w5.heap.size w5 v' → V3 v' (qw) rd.1 rd.2.1 rd.2.2 := fun v' h => FW.out.below h
    have cFS15 : ∀ v', Below w5.heap.size w5 v' → G3 v' (X15) (.slice Ax.a0 S.B.length Ax.c0) (.slice Ax.a1 S.V.length Ax.c1) (.slice Ax.a2 S.M.length Ax.c2) := fun v' h => FS15.out.below h
    have cFF16 : ∀ v', Below w5.heap.size w5 v' → Q.Fc v' (X16) z (some ⟨gx, 0, none⟩) l.length (l.length) := fun v' h => FF16.out.below h
    go_wp2_with fail
    first | rw [hw5] | skip
    first | rw [hX16] | skip
    clear hw5 hX16
    refine wp_region_inv2 (fun zA0 L zA vv11 => ∃ (zB : Nat → Bool) (zS : Nat → Value) (qg : Nat), L = #[zB 0, zB 1, zB 2, zB 3, zB 4, zB 5, zB 6, zB 7, zB 8, zB 9, zB 10] ∧ zA = puts zA0 [(43, zS 43), (44, zS 44), (45, zS 45), (46, zS 46), (47, zS 47), (48, zS 48), (49, zS 49), (50, zS 50), (51, zS 51), (17, zS 17)] ∧ ((zB 0 = true → zS 43 = .int .i64 size) ∧ (zB 1 = true → zS 44 = .int .i64 lv) ∧ (zB 2 = true → zS 45 = .agg #[.slice Ax.a0 S.B.length Ax.c0, .slice Ax.a1 S.V.length Ax.c1, .slice Ax.a2 S.M.length Ax.c2]) ∧ (zB 3 = true → zS 46 = .agg #[.int .i64 z, .slice (some ⟨gx, 0, none⟩) l.length l.length]) ∧ (zB 4 = true → zS 47 = .agg #[.int .i64 x.1, .int .i64 x.2]) ∧ (zB 5 = true → zS 48 = .agg #[.int .i64 x.1, .int .i64 x.2]) ∧ (zB 6 = true → zS 49 = .agg #[.int .i64 y.1, .int .i64 y.2]) ∧ (zB 7 = true → zS 50 = .agg #[.int .i64 y.1, .int .i64 y.2]) ∧ (zB 8 = true → zS 51 = .agg #[.int .i64 rd.1, .int .i64 rd.2.1, .bool rd.2.2]) ∧ (zB 9 = true → zS 17 = .pointer (some ⟨qg, 0, none⟩))) ∧ Below w5.heap.size w5 vv11 ∧ ((zB 9) = true → (zB 10) = false → V3 vv11 qg 0 0 false ∧ w5.heap.size ≤ qg) ∧ ((zB 10) = true → (zB 9) = true ∧ V3 vv11 qg rd.1 rd.2.1 rd.2.2 ∧ w5.heap.size ≤ qg)) (by kernel_rfl) ?_ ?_ ?_
    · exact ⟨fun _ => false, fun _ => undef, 0, rfl, by kernel_rfl, ⟨fun e => ft e, fun e => ft e, fun e => ft e, fun e => ft e, fun e => ft e, fun e => ft e, fun e => ft e, fun e => ft e, fun e => ft e, fun e => ft e⟩, ⟨(Below.refl _ _).drew, fun e => ft e, fun e => ft e⟩⟩
    · refine StepsI.cons rfl ?_ ?_
      · rintro L zA vv11 ⟨zB, zS, qg, rfl, rfl, hF, hW⟩ hL hm K hK
        have hb0 : zB 0 = false := by simpa using hL
        clear hL hm
        simp only [puts, Act.put, List.setIfInBounds_toArray, List.set_cons_zero, List.set_cons_succ]
        go_simp
        exact hK.out _ _ ⟨fun zj => if zj = 0 then true else zB zj, fun zd => if zd = 43 then .int .i64 size else zS zd, qg, rfl, by kernel_rfl, ⟨fun _ => rfl, hF.2.1, hF.2.2.1, hF.2.2.2.1, hF.2.2.2.2.1, hF.2.2.2.2.2.1, hF.2.2.2.2.2.2.1, hF.2.2.2.2.2.2.2.1, hF.2.2.2.2.2.2.2.2.1, hF.2.2.2.2.2.2.2.2.2⟩, hW⟩
      refine StepsI.cons rfl ?_ ?_
      · rintro L zA vv11 ⟨zB, zS, qg, rfl, rfl, hF, hW⟩ hL hm K hK
        have hb1 : zB 1 = false := by simpa using hL
        clear hL hm
        simp only [puts, Act.put, List.setIfInBounds_toArray, List.set_cons_zero, List.set_cons_succ]
        go_simp
        exact hK.out _ _ ⟨fun zj => if zj = 1 then true else zB zj, fun zd => if zd = 44 then .int .i64 lv else zS zd, qg, rfl, by kernel_rfl, ⟨hF.1, fun _ => rfl, hF.2.2.1, hF.2.2.2.1, hF.2.2.2.2.1, hF.2.2.2.2.2.1, hF.2.2.2.2.2.2.1, hF.2.2.2.2.2.2.2.1, hF.2.2.2.2.2.2.2.2.1, hF.2.2.2.2.2.2.2.2.2⟩, hW⟩
      refine StepsI.cons rfl ?_ ?_
      · rintro L zA vv11 ⟨zB, zS, qg, rfl, rfl, hF, hW⟩ hL hm K hK
        have hb2 : zB 2 = false := by simpa using hL
        clear hL hm
        simp only [puts, Act.put, List.setIfInBounds_toArray, List.set_cons_zero, List.set_cons_succ]
        obtain ⟨k0, k1, k2, _, _, _⟩ := cFS15 _ hW.1
        go_simp
        exact hK.out _ _ ⟨fun zj => if zj = 2 then true else zB zj, fun zd => if zd = 45 then .agg #[.slice Ax.a0 S.B.length Ax.c0, .slice Ax.a1 S.V.length Ax.c1, .slice Ax.a2 S.M.length Ax.c2] else zS zd, qg, rfl, by kernel_rfl, ⟨hF.1, hF.2.1, fun _ => rfl, hF.2.2.2.1, hF.2.2.2.2.1, hF.2.2.2.2.2.1, hF.2.2.2.2.2.2.1, hF.2.2.2.2.2.2.2.1, hF.2.2.2.2.2.2.2.2.1, hF.2.2.2.2.2.2.2.2.2⟩, hW⟩
      refine StepsI.cons rfl ?_ ?_
      · rintro L zA vv11 ⟨zB, zS, qg, rfl, rfl, hF, hW⟩ hL hm K hK
        have hb3 : zB 3 = false := by simpa using hL
        clear hL hm
        simp only [puts, Act.put, List.setIfInBounds_toArray, List.set_cons_zero, List.set_cons_succ]
        obtain ⟨k0, k1⟩ := cFF16 _ hW.1
        go_simp
        exact hK.out _ _ ⟨fun zj => if zj = 3 then true else zB zj, fun zd => if zd = 46 then .agg #[.int .i64 z, .slice (some ⟨gx, 0, none⟩) l.length l.length] else zS zd, qg, rfl, by kernel_rfl, ⟨hF.1, hF.2.1, hF.2.2.1, fun _ => rfl, hF.2.2.2.2.1, hF.2.2.2.2.2.1, hF.2.2.2.2.2.2.1, hF.2.2.2.2.2.2.2.1, hF.2.2.2.2.2.2.2.2.1, hF.2.2.2.2.2.2.2.2.2⟩, hW⟩
      refine StepsI.cons rfl ?_ ?_
      · rintro L zA vv11 ⟨zB, zS, qg, rfl, rfl, hF, hW⟩ hL hm K hK
        have hb4 : zB 4 = false := by simpa using hL
        clear hL hm
        simp only [puts, Act.put, List.setIfInBounds_toArray, List.set_cons_zero, List.set_cons_succ]
        obtain ⟨k0, k1, _, _⟩ := cFYx _ hW.1
        go_simp
        exact hK.out _ _ ⟨fun zj => if zj = 4 then true else zB zj, fun zd => if zd = 47 then .agg #[.int .i64 x.1, .int .i64 x.2] else zS zd, qg, rfl, by kernel_rfl, ⟨hF.1, hF.2.1, hF.2.2.1, hF.2.2.2.1, fun _ => rfl, hF.2.2.2.2.2.1, hF.2.2.2.2.2.2.1, hF.2.2.2.2.2.2.2.1, hF.2.2.2.2.2.2.2.2.1, hF.2.2.2.2.2.2.2.2.2⟩, hW⟩
      refine StepsI.cons rfl ?_ ?_
      · rintro L zA vv11 ⟨zB, zS, qg, rfl, rfl, hF, hW⟩ hL hm K hK
        have hb5 : zB 5 = false := by simpa using hL
        have hb4 : zB 4 = true := by cases e : zB 4 with | false => (exfalso; revert hm; simp [metB, Region.binds, e]) | true => rfl
        have e4 : zS 47 = .agg #[.int .i64 x.1, .int .i64 x.2] := hF.2.2.2.2.1 hb4
        clear hL hm
        simp only [puts, Act.put, List.setIfInBounds_toArray, List.set_cons_zero, List.set_cons_succ]
        simp only [e4]
        go_simp
        refine (toSym_any x.1 x.2 _).mono ?_
        rintro e vv112 ⟨rfl, hb⟩
        go_wp2_with fail
        exact hK.out _ _ ⟨fun zj => if zj = 4 then true else if zj = 5 then true else zB zj, fun zd => if zd = 48 then .agg #[.int .i64 x.1, .int .i64 x.2] else if zd = 47 then .agg #[.int .i64 x.1, .int .i64 x.2] else zS zd, qg, by simp [hb4], by kernel_rfl, ⟨hF.1, hF.2.1, hF.2.2.1, hF.2.2.2.1, fun _ => rfl, fun _ => rfl, hF.2.2.2.2.2.2.1, hF.2.2.2.2.2.2.2.1, hF.2.2.2.2.2.2.2.2.1, hF.2.2.2.2.2.2.2.2.2⟩, ⟨below_step hW.1 hb, fun q r => ⟨(hW.2.1 q r).1.below hb, (hW.2.1 q r).2⟩, fun q => ⟨(hW.2.2 q).1, (hW.2.2 q).2.1.below hb, (hW.2.2 q).2.2⟩⟩⟩
      refine StepsI.cons rfl ?_ ?_
      · rintro L zA vv11 ⟨zB, zS, qg, rfl, rfl, hF, hW⟩ hL hm K hK
        have hb6 : zB 6 = false := by simpa using hL
        clear hL hm
        simp only [puts, Act.put, List.setIfInBounds_toArray, List.set_cons_zero, List.set_cons_succ]
        obtain ⟨k0, k1, _, _⟩ := cFYy _ hW.1
        go_simp
        exact hK.out _ _ ⟨fun zj => if zj = 6 then true else zB zj, fun zd => if zd = 49 then .agg #[.int .i64 y.1, .int .i64 y.2] else zS zd, qg, rfl, by kernel_rfl, ⟨hF.1, hF.2.1, hF.2.2.1, hF.2.2.2.1, hF.2.2.2.2.1, hF.2.2.2.2.2.1, fun _ => rfl, hF.2.2.2.2.2.2.2.1, hF.2.2.2.2.2.2.2.2.1, hF.2.2.2.2.2.2.2.2.2⟩, hW⟩
      refine StepsI.cons rfl ?_ ?_
      · rintro L zA vv11 ⟨zB, zS, qg, rfl, rfl, hF, hW⟩ hL hm K hK
        have hb7 : zB 7 = false := by simpa using hL
        have hb6 : zB 6 = true := by cases e : zB 6 with | false => (exfalso; revert hm; simp [metB, Region.binds, e]) | true => rfl
        have e6 : zS 49 = .agg #[.int .i64 y.1, .int .i64 y.2] := hF.2.2.2.2.2.2.1 hb6
        clear hL hm
        simp only [puts, Act.put, List.setIfInBounds_toArray, List.set_cons_zero, List.set_cons_succ]
        simp only [e6]
        go_simp
        refine (toSym_any y.1 y.2 _).mono ?_
        rintro e vv112 ⟨rfl, hb⟩
        go_wp2_with fail
        exact hK.out _ _ ⟨fun zj => if zj = 6 then true else if zj = 7 then true else zB zj, fun zd => if zd = 50 then .agg #[.int .i64 y.1, .int .i64 y.2] else if zd = 49 then .agg #[.int .i64 y.1, .int .i64 y.2] else zS zd, qg, by simp [hb6], by kernel_rfl, ⟨hF.1, hF.2.1, hF.2.2.1, hF.2.2.2.1, hF.2.2.2.2.1, hF.2.2.2.2.2.1, fun _ => rfl, fun _ => rfl, hF.2.2.2.2.2.2.2.2.1, hF.2.2.2.2.2.2.2.2.2⟩, ⟨below_step hW.1 hb, fun q r => ⟨(hW.2.1 q r).1.below hb, (hW.2.1 q r).2⟩, fun q => ⟨(hW.2.2 q).1, (hW.2.2 q).2.1.below hb, (hW.2.2 q).2.2⟩⟩⟩
      refine StepsI.cons rfl ?_ ?_
      · rintro L zA vv11 ⟨zB, zS, qg, rfl, rfl, hF, hW⟩ hL hm K hK
        have hb8 : zB 8 = false := by simpa using hL
        have hb0 : zB 0 = true := by cases e : zB 0 with | false => (exfalso; revert hm; simp [metB, Region.binds, e]) | true => rfl
        have hb1 : zB 1 = true := by cases e : zB 1 with | false => (exfalso; revert hm; simp [metB, Region.binds, e]) | true => rfl
        have hb2 : zB 2 = true := by cases e : zB 2 with | false => (exfalso; revert hm; simp [metB, Region.binds, e]) | true => rfl
        have hb3 : zB 3 = true := by cases e : zB 3 with | false => (exfalso; revert hm; simp [metB, Region.binds, e]) | true => rfl
        have hb5 : zB 5 = true := by cases e : zB 5 with | false => (exfalso; revert hm; simp [metB, Region.binds, e]) | true => rfl
        have hb7 : zB 7 = true := by cases e : zB 7 with | false => (exfalso; revert hm; simp [metB, Region.binds, e]) | true => rfl
        have e0 : zS 43 = .int .i64 size := hF.1 hb0
        have e1 : zS 44 = .int .i64 lv := hF.2.1 hb1
        have e2 : zS 45 = .agg #[.slice Ax.a0 S.B.length Ax.c0, .slice Ax.a1 S.V.length Ax.c1, .slice Ax.a2 S.M.length Ax.c2] := hF.2.2.1 hb2
        have e3 : zS 46 = .agg #[.int .i64 z, .slice (some ⟨gx, 0, none⟩) l.length l.length] := hF.2.2.2.1 hb3
        have e5 : zS 48 = .agg #[.int .i64 x.1, .int .i64 x.2] := hF.2.2.2.2.2.1 hb5
        have e7 : zS 50 = .agg #[.int .i64 y.1, .int .i64 y.2] := hF.2.2.2.2.2.2.2.1 hb7
        clear hL hm
        simp only [puts, Act.put, List.setIfInBounds_toArray, List.set_cons_zero, List.set_cons_succ]
        simp only [e0, e1, e2, e3, e5, e7]
        go_simp
        refine (iSegRead_any size lv S Ax z l (some ⟨gx, 0, none⟩) l.length x y _ HM.out (LX.out.below hW.1) (Nat.le_refl _) (LG.out.below hW.1)).mono ?_
        rintro e vv112 ⟨rr9, hsp, rfl, hb⟩
        obtain rfl := HRD.out.one hsp
        clear hsp
        go_wp2_with fail
        exact hK.out _ _ ⟨fun zj => if zj = 7 then true else if zj = 5 then true else if zj = 3 then true else if zj = 2 then true else if zj = 1 then true else if zj = 0 then true else if zj = 8 then true else zB zj, fun zd => if zd = 51 then .agg #[.int .i64 rd.1, .int .i64 rd.2.1, .bool rd.2.2] else if zd = 50 then .agg #[.int .i64 y.1, .int .i64 y.2] else if zd = 48 then .agg #[.int .i64 x.1, .int .i64 x.2] else if zd = 46 then .agg #[.int .i64 z, .slice (some ⟨gx, 0, none⟩) l.length l.length] else if zd = 45 then .agg #[.slice Ax.a0 S.B.length Ax.c0, .slice Ax.a1 S.V.length Ax.c1, .slice Ax.a2 S.M.length Ax.c2] else if zd = 44 then .int .i64 lv else if zd = 43 then .int .i64 size else zS zd, qg, by simp [hb0, hb1, hb2, hb3, hb5, hb7], by kernel_rfl, ⟨fun _ => rfl, fun _ => rfl, fun _ => rfl, fun _ => rfl, hF.2.2.2.2.1, fun _ => rfl, hF.2.2.2.2.2.2.1, fun _ => rfl, fun _ => rfl, hF.2.2.2.2.2.2.2.2.2⟩, ⟨below_step hW.1 hb, fun q r => ⟨(hW.2.1 q r).1.below hb, (hW.2.1 q r).2⟩, fun q => ⟨(hW.2.2 q).1, (hW.2.2 q).2.1.below hb, (hW.2.2 q).2.2⟩⟩⟩
      refine StepsI.cons rfl ?_ ?_
      · rintro L zA vv11 ⟨zB, zS, qg, rfl, rfl, hF, hW⟩ hL hm K hK
        have hb9 : zB 9 = false := by simpa using hL
        clear hL hm
        rw [hb9] at hW
        simp only [puts, Act.put, List.setIfInBounds_toArray, List.set_cons_zero, List.set_cons_succ]
        go_simp
        exact hK.out _ _ ⟨fun zj => if zj = 9 then true else zB zj, fun zd => if zd = 17 then .pointer (some ⟨vv11.heap.size, 0, none⟩) else zS zd, vv11.heap.size, rfl, by kernel_rfl, ⟨hF.1, hF.2.1, hF.2.2.1, hF.2.2.2.1, hF.2.2.2.2.1, hF.2.2.2.2.2.1, hF.2.2.2.2.2.2.1, hF.2.2.2.2.2.2.2.1, hF.2.2.2.2.2.2.2.2.1, fun _ => rfl⟩, ⟨bl_alloc hW.1 _, fun _ _ => ⟨V3.new vv11 0 0 false 55, hW.1.size⟩, fun e => ft (hW.2.2 e).1⟩⟩
      refine StepsI.cons rfl ?_ ?_
      · rintro L zA vv11 ⟨zB, zS, qg, rfl, rfl, hF, hW⟩ hL hm K hK
        have hb10 : zB 10 = false := by simpa using hL
        have hb8 : zB 8 = true := by cases e : zB 8 with | false => (exfalso; revert hm; simp [metB, Region.binds, e]) | true => rfl
        have hb9 : zB 9 = true := by cases e : zB 9 with | false => (exfalso; revert hm; simp [metB, Region.binds, e]) | true => rfl
        have e8 : zS 51 = .agg #[.int .i64 rd.1, .int .i64 rd.2.1, .bool rd.2.2] := hF.2.2.2.2.2.2.2.2.1 hb8
        have e9 : zS 17 = .pointer (some ⟨qg, 0, none⟩) := hF.2.2.2.2.2.2.2.2.2 hb9
        clear hL hm
        rw [hb10] at hW
        rw [hb9] at hW
        simp only [puts, Act.put, List.setIfInBounds_toArray, List.set_cons_zero, List.set_cons_succ]
        simp only [e8, e9]
        have hz9 := mkHid (hW.2.1 rfl rfl)
        obtain ⟨k0, k1, k2, k3, k4, k5⟩ := hz9.out.1
        go_simp
        exact hK.out _ _ ⟨fun zj => if zj = 9 then true else if zj = 8 then true else if zj = 10 then true else zB zj, fun zd => if zd = 17 then .pointer (some ⟨qg, 0, none⟩) else if zd = 51 then .agg #[.int .i64 rd.1, .int .i64 rd.2.1, .bool rd.2.2] else zS zd, qg, by simp [hb8, hb9], by kernel_rfl, ⟨hF.1, hF.2.1, hF.2.2.1, hF.2.2.2.1, hF.2.2.2.2.1, hF.2.2.2.2.2.1, hF.2.2.2.2.2.2.1, hF.2.2.2.2.2.2.2.1, fun _ => rfl, fun _ => rfl⟩, ⟨below_set3 hW.1 hz9.out.2 _ _ _, fun _ e => tf e, fun _ => ⟨rfl, hz9.out.1.set _ _ _, hz9.out.2⟩⟩⟩
      exact StepsI.nil (by kernel_rfl)
    · rintro L zA vv11 ⟨zB, zS, qg, rfl, rfl, hF, hW⟩ hr
      have hu := all_up (by kernel_rfl) (N := 11) (by kernel_rfl) hr
      have hb0 : zB 0 = true := by simpa using hu 0 (by decide)
      have hb1 : zB 1 = true := by simpa using hu 1 (by decide)
      have hb2 : zB 2 = true := by simpa using hu 2 (by decide)
      have hb3 : zB 3 = true := by simpa using hu 3 (by decide)
      have hb4 : zB 4 = true := by simpa using hu 4 (by decide)
      have hb5 : zB 5 = true := by simpa using hu 5 (by decide)
      have hb6 : zB 6 = true := by simpa using hu 6 (by decide)
      have hb7 : zB 7 = true := by simpa using hu 7 (by decide)
      have hb8 : zB 8 = true := by simpa using hu 8 (by decide)
      have hb9 : zB 9 = true := by simpa using hu 9 (by decide)
      have hb10 : zB 10 = true := by simpa using hu 10 (by decide)
      have e0 : zS 43 = .int .i64 size := hF.1 hb0
      have e1 : zS 44 = .int .i64 lv := hF.2.1 hb1
      have e2 : zS 45 = .agg #[.slice Ax.a0 S.B.length Ax.c0, .slice Ax.a1 S.V.length Ax.c1, .slice Ax.a2 S.M.length Ax.c2] := hF.2.2.1 hb2
      have e3 : zS 46 = .agg #[.int .i64 z, .slice (some ⟨gx, 0, none⟩) l.length l.length] := hF.2.2.2.1 hb3
      have e4 : zS 47 = .agg #[.int .i64 x.1, .int .i64 x.2] := hF.2.2.2.2.1 hb4
      have e5 : zS 48 = .agg #[.int .i64 x.1, .int .i64 x.2] := hF.2.2.2.2.2.1 hb5
      have e6 : zS 49 = .agg #[.int .i64 y.1, .int .i64 y.2] := hF.2.2.2.2.2.2.1 hb6
      have e7 : zS 50 = .agg #[.int .i64 y.1, .int .i64 y.2] := hF.2.2.2.2.2.2.2.1 hb7
      have e8 : zS 51 = .agg #[.int .i64 rd.1, .int .i64 rd.2.1, .bool rd.2.2] := hF.2.2.2.2.2.2.2.2.1 hb8
      have e9 : zS 17 = .pointer (some ⟨qg, 0, none⟩) := hF.2.2.2.2.2.2.2.2.2 hb9
      rw [hb9] at hW
      rw [hb10] at hW
      clear hu hr hF
      simp only [puts, Act.put, List.setIfInBounds_toArray, List.set_cons_zero, List.set_cons_succ]
      simp only [e0, e1, e2, e3, e4, e5, e6, e7, e8, e9]
      clear e0 e1 e2 e3 e4 e5 e6 e7 e8 e9
      clear hb0 hb1 hb2 hb3 hb4 hb5 hb6 hb7 hb8 hb9 hb10
      clear zB zS
      have hb := hW.1
      have FG := mkHid (hW.2.2 (by first | rfl | trivial)).2.1
      have BE := mkHid (below_step BE.out hb)
      have FS0 := mkHid (FS0.out.below hb)
      have FF0 := mkHid (FF0.out.below hb)
      have FYx := mkHid (FYx.out.below hb)
      have FYy := mkHid (FYy.out.below hb)
      have LS := mkHid (LS.out.below hb)
      have LF := mkHid (LF.out.below hb)
      have FW := mkHid (FW.out.below hb)
      have LX := mkHid (LX.out.below hb)
      have FS15 := mkHid (FS15.out.below hb)
      have LG := mkHid (LG.out.below hb)
      have FF16 := mkHid (FF16.out.below hb)
      clear hb hW
      clear cFS0 cFF0 cFYx cFYy cFW cFS15 cFF16
      obtain ⟨k0, k1, k2, _, _, _⟩ := FG.out
      obtain ⟨j0, j1, j2, _, _, _⟩ := FW.out
      go_wp2_with fail
      refine (eqVal_same rd.1 rd.2.1 rd.2.2 _).mono ?_
      rintro e wc ⟨rfl, hb⟩
      have BE := mkHid (below_step BE.out hb)
      have FS0 := mkHid (FS0.out.below hb)
      have FF0 := mkHid (FF0.out.below hb)
      have FYx := mkHid (FYx.out.below hb)
      have FYy := mkHid (FYy.out.below hb)
      have LS := mkHid (LS.out.below hb)
      have LF := mkHid (LF.out.below hb)
      have FW := mkHid (FW.out.below hb)
      have LX := mkHid (LX.out.below hb)
      have FS15 := mkHid (FS15.out.below hb)
      have LG := mkHid (LG.out.below hb)
      have FF16 := mkHid (FF16.out.below hb)
      have FG := mkHid (FG.out.below hb)
      clear hb k0 k1 k2 j0 j1 j2
      have cFS0 : ∀ v', Below wc.heap.size wc v' → G3 v' (X) (.slice A.a0 S.B.length A.c0) (.slice A.a1 S.V.length A.c1) (.slice A.a2 S.M.length A.c2) := fun v' h => FS0.out.below h
      have cFF0 : ∀ v', Below wc.heap.size wc v' → Q.Fc v' (X + 1) z a l.length (c) := fun v' h => FF0.out.below h
      have cFYx : ∀ v', Below wc.heap.size wc v' → Box v' (X + 2) (x.1) (x.2) := fun v' h => FYx.out.below h
      have cFYy : ∀ v', Below wc.heap.size wc v' → Box v' (X + 3) (y.1) (y.2) := fun v' h => FYy.out.below h
      have cFW : ∀ v', Below wc.heap.size wc v' → V3 v' (qw) rd.1 rd.2.1 rd.2.2 := fun v' h => FW.out.below h
      have cFS15 : ∀ v', Below wc.heap.size wc v' → G3 v' (X15) (.slice Ax.a0 S.B.length Ax.c0) (.slice Ax.a1 S.V.length Ax.c1) (.slice Ax.a2 S.M.length Ax.c2) := fun v' h => FS15.out.below h
      have cFF16 : ∀ v', Below wc.heap.size wc v' → Q.Fc v' (X16) z (some ⟨gx, 0, none⟩) l.length (l.length) := fun v' h => FF16.out.below h
      have cFG : ∀ v', Below wc.heap.size wc v' → V3 v' (qg) rd.1 rd.2.1 rd.2.2 := fun v' h => FG.out.below h
      go_wp2_with fail
      refine wp_region_inv2 (fun zA0 L zA vv14 => ∃ (zB : Nat → Bool) (zS : Nat → Value) (Aq : SAd), L = #[zB 0, zB 1, zB 2, zB 3, zB 4] ∧ zA = puts zA0 [(56, zS 56), (57, zS 57), (58, zS 58), (59, zS 59), (60, zS 60)] ∧ ((zB 0 = true → zS 56 = .agg #[.slice Ax.a0 S.B.length Ax.c0, .slice Ax.a1 S.V.length Ax.c1, .slice Ax.a2 S.M.length Ax.c2]) ∧ (zB 1 = true → zS 57 = .agg #[.slice A.a0 S.B.length A.c0, .slice A.a1 S.V.length A.c1, .slice A.a2 S.M.length A.c2]) ∧ (zB 2 = true → zS 58 = .agg #[.slice Aq.a0 S.B.length Aq.c0, .slice Aq.a1 S.V.length Aq.c1, .slice Aq.a2 S.M.length Aq.c2]) ∧ (zB 3 = true → zS 59 = .bool true) ∧ (zB 4 = true → zS 60 = .bool false)) ∧ Below wc.heap.size wc vv14 ∧ ((zB 2) = true → SegAt vv14 Aq S)) (by kernel_rfl) ?_ ?_ ?_
      · exact ⟨fun _ => false, fun _ => undef, zAd, rfl, by kernel_rfl, ⟨fun e => ft e, fun e => ft e, fun e => ft e, fun e => ft e, fun e => ft e⟩, ⟨(Below.refl _ _).drew, fun e => ft e⟩⟩
      · refine StepsI.cons rfl ?_ ?_
        · rintro L zA vv14 ⟨zB, zS, Aq, rfl, rfl, hF, hW⟩ hL hm K hK
          have hb0 : zB 0 = false := by simpa using hL
          clear hL hm
          simp only [puts, Act.put, List.setIfInBounds_toArray, List.set_cons_zero, List.set_cons_succ]
          obtain ⟨k0, k1, k2, _, _, _⟩ := cFS15 _ hW.1
          go_simp
          exact hK.out _ _ ⟨fun zj => if zj = 0 then true else zB zj, fun zd => if zd = 56 then .agg #[.slice Ax.a0 S.B.length Ax.c0, .slice Ax.a1 S.V.length Ax.c1, .slice Ax.a2 S.M.length Ax.c2] else zS zd, Aq, rfl, by kernel_rfl, ⟨fun _ => rfl, hF.2.1, hF.2.2.1, hF.2.2.2.1, hF.2.2.2.2⟩, hW⟩
        refine StepsI.cons rfl ?_ ?_
        · rintro L zA vv14 ⟨zB, zS, Aq, rfl, rfl, hF, hW⟩ hL hm K hK
          have hb1 : zB 1 = false := by simpa using hL
          clear hL hm
          simp only [puts, Act.put, List.setIfInBounds_toArray, List.set_cons_zero, List.set_cons_succ]
          obtain ⟨k0, k1, k2, _, _, _⟩ := cFS0 _ hW.1
          go_simp
          exact hK.out _ _ ⟨fun zj => if zj = 1 then true else zB zj, fun zd => if zd = 57 then .agg #[.slice A.a0 S.B.length A.c0, .slice A.a1 S.V.length A.c1, .slice A.a2 S.M.length A.c2] else zS zd, Aq, rfl, by kernel_rfl, ⟨hF.1, fun _ => rfl, hF.2.2.1, hF.2.2.2.1, hF.2.2.2.2⟩, hW⟩
        refine StepsI.cons rfl ?_ ?_
        · rintro L zA vv14 ⟨zB, zS, Aq, rfl, rfl, hF, hW⟩ hL hm K hK
          have hb2 : zB 2 = false := by simpa using hL
          have hb1 : zB 1 = true := by cases e : zB 1 with | false => (exfalso; revert hm; simp [metB, Region.binds, e]) | true => rfl
          have e1 : zS 57 = .agg #[.slice A.a0 S.B.length A.c0, .slice A.a1 S.V.length A.c1, .slice A.a2 S.M.length A.c2] := hF.2.1 hb1
          clear hL hm
          rw [hb2] at hW
          simp only [puts, Act.put, List.setIfInBounds_toArray, List.set_cons_zero, List.set_cons_succ]
          simp only [e1]
          go_simp
          refine (toSeg_any S A _ HM.out.b HM.out.t HM.out.v HM.out.m (LS.out.below hW.1)).mono ?_
          rintro e vv142 ⟨Aq9, rfl, ho, hb⟩
          go_wp2_with fail
          exact hK.out _ _ ⟨fun zj => if zj = 1 then true else if zj = 2 then true else zB zj, fun zd => if zd = 58 then .agg #[.slice Aq9.a0 S.B.length Aq9.c0, .slice Aq9.a1 S.V.length Aq9.c1, .slice Aq9.a2 S.M.length Aq9.c2] else if zd = 57 then .agg #[.slice A.a0 S.B.length A.c0, .slice A.a1 S.V.length A.c1, .slice A.a2 S.M.length A.c2] else zS zd, Aq9, by simp [hb1], by kernel_rfl, ⟨hF.1, fun _ => rfl, fun _ => rfl, hF.2.2.2.1, hF.2.2.2.2⟩, ⟨below_step hW.1 hb, fun _ => ho.at⟩⟩
        refine StepsI.cons rfl ?_ ?_
        · rintro L zA vv14 ⟨zB, zS, Aq, rfl, rfl, hF, hW⟩ hL hm K hK
          have hb3 : zB 3 = false := by simpa using hL
          have hb0 : zB 0 = true := by cases e : zB 0 with | false => (exfalso; revert hm; simp [metB, Region.binds, e]) | true => rfl
          have hb2 : zB 2 = true := by cases e : zB 2 with | false => (exfalso; revert hm; simp [metB, Region.binds, e]) | true => rfl
          have e0 : zS 56 = .agg #[.slice Ax.a0 S.B.length Ax.c0, .slice Ax.a1 S.V.length Ax.c1, .slice Ax.a2 S.M.length Ax.c2] := hF.1 hb0
          have e2 : zS 58 = .agg #[.slice Aq.a0 S.B.length Aq.c0, .slice Aq.a1 S.V.length Aq.c1, .slice Aq.a2 S.M.length Aq.c2] := hF.2.2.1 hb2
          clear hL hm
          rw [hb2] at hW
          simp only [puts, Act.put, List.setIfInBounds_toArray, List.set_cons_zero, List.set_cons_succ]
          simp only [e0, e2]
          go_simp
          refine (eqSeg_same S Ax Aq _ HM.out (LX.out.below hW.1) (hW.2 (by first | rfl | trivial))).mono ?_
          rintro e vv142 ⟨rfl, hb⟩
          go_wp2_with fail
          exact hK.out _ _ ⟨fun zj => if zj = 2 then true else if zj = 0 then true else if zj = 3 then true else zB zj, fun zd => if zd = 59 then .bool true else if zd = 58 then .agg #[.slice Aq.a0 S.B.length Aq.c0, .slice Aq.a1 S.V.length Aq.c1, .slice Aq.a2 S.M.length Aq.c2] else if zd = 56 then .agg #[.slice Ax.a0 S.B.length Ax.c0, .slice Ax.a1 S.V.length Ax.c1, .slice Ax.a2 S.M.length Ax.c2] else zS zd, Aq, by simp [hb0, hb2], by kernel_rfl, ⟨fun _ => rfl, hF.2.1, fun _ => rfl, fun _ => rfl, hF.2.2.2.2⟩, ⟨below_step hW.1 hb, fun _ => (hW.2 (by first | rfl | trivial)).below hb⟩⟩
        refine StepsI.cons rfl ?_ ?_
        · rintro L zA vv14 ⟨zB, zS, Aq, rfl, rfl, hF, hW⟩ hL hm K hK
          have hb4 : zB 4 = false := by simpa using hL
          have hb3 : zB 3 = true := by cases e : zB 3 with | false => (exfalso; revert hm; simp [metB, Region.binds, e]) | true => rfl
          have e3 : zS 59 = .bool true := hF.2.2.2.1 hb3
          clear hL hm
          simp only [puts, Act.put, List.setIfInBounds_toArray, List.set_cons_zero, List.set_cons_succ]
          simp only [e3]
          go_simp
          exact hK.out _ _ ⟨fun zj => if zj = 3 then true else if zj = 4 then true else zB zj, fun zd => if zd = 60 then .bool false else if zd = 59 then .bool true else zS zd, Aq, by simp [hb3], by kernel_rfl, ⟨hF.1, hF.2.1, hF.2.2.1, fun _ => rfl, fun _ => rfl⟩, hW⟩
        exact StepsI.nil (by kernel_rfl)
      · rintro L zA vv14 ⟨zB, zS, Aq, rfl, rfl, hF, hW⟩ hr
        have hu := all_up (by kernel_rfl) (N := 5) (by kernel_rfl) hr
        have hb0 : zB 0 = true := by simpa using hu 0 (by decide)
        have hb1 : zB 1 = true := by simpa using hu 1 (by decide)
        have hb2 : zB 2 = true := by simpa using hu 2 (by decide)
        have hb3 : zB 3 = true := by simpa using hu 3 (by decide)
        have hb4 : zB 4 = true := by simpa using hu 4 (by decide)
        have e0 : zS 56 = .agg #[.slice Ax.a0 S.B.length Ax.c0, .slice Ax.a1 S.V.length Ax.c1, .slice Ax.a2 S.M.length Ax.c2] := hF.1 hb0
        have e1 : zS 57 = .agg #[.slice A.a0 S.B.length A.c0, .slice A.a1 S.V.length A.c1, .slice A.a2 S.M.length A.c2] := hF.2.1 hb1
        have e2 : zS 58 = .agg #[.slice Aq.a0 S.B.length Aq.c0, .slice Aq.a1 S.V.length Aq.c1, .slice Aq.a2 S.M.length Aq.c2] := hF.2.2.1 hb2
        have e3 : zS 59 = .bool true := hF.2.2.2.1 hb3
        have e4 : zS 60 = .bool false := hF.2.2.2.2 hb4
        rw [hb2] at hW
        clear hu hr hF
        simp only [puts, Act.put, List.setIfInBounds_toArray, List.set_cons_zero, List.set_cons_succ]
        simp only [e0, e1, e2, e3, e4]
        clear e0 e1 e2 e3 e4
        clear hb0 hb1 hb2 hb3 hb4
        clear zB zS
        have hb := hW.1
        have n0 := mkHid (hW.2 (by first | rfl | trivial))
        have BE := mkHid (below_step BE.out hb)
        have FS0 := mkHid (FS0.out.below hb)
        have FF0 := mkHid (FF0.out.below hb)
        have FYx := mkHid (FYx.out.below hb)
        have FYy := mkHid (FYy.out.below hb)
        have LS := mkHid (LS.out.below hb)
        have LF := mkHid (LF.out.below hb)
        have FW := mkHid (FW.out.below hb)
        have LX := mkHid (LX.out.below hb)
        have FS15 := mkHid (FS15.out.below hb)
        have LG := mkHid (LG.out.below hb)
        have FF16 := mkHid (FF16.out.below hb)
        have FG := mkHid (FG.out.below hb)
        clear hb hW
        clear cFS0 cFF0 cFYx cFYy cFW cFS15 cFF16 cFG
        clear n0
        have cFS0 : ∀ v', Below vv14.heap.size vv14 v' → G3 v' (X) (.slice A.a0 S.B.length A.c0) (.slice A.a1 S.V.length A.c1) (.slice A.a2 S.M.length A.c2) := fun v' h => FS0.out.below h
        have cFF0 : ∀ v', Below vv14.heap.size vv14 v' → Q.Fc v' (X + 1) z a l.length (c) := fun v' h => FF0.out.below h
        have cFYx : ∀ v', Below vv14.heap.size vv14 v' → Box v' (X + 2) (x.1) (x.2) := fun v' h => FYx.out.below h
        have cFYy : ∀ v', Below vv14.heap.size vv14 v' → Box v' (X + 3) (y.1) (y.2) := fun v' h => FYy.out.below h
        have cFW : ∀ v', Below vv14.heap.size vv14 v' → V3 v' (qw) rd.1 rd.2.1 rd.2.2 := fun v' h => FW.out.below h
        have cFS15 : ∀ v', Below vv14.heap.size vv14 v' → G3 v' (X15) (.slice Ax.a0 S.B.length Ax.c0) (.slice Ax.a1 S.V.length Ax.c1) (.slice Ax.a2 S.M.length Ax.c2) := fun v' h => FS15.out.below h
        have cFF16 : ∀ v', Below vv14.heap.size vv14 v' → Q.Fc v' (X16) z (some ⟨gx, 0, none⟩) l.length (l.length) := fun v' h => FF16.out.below h
        have cFG : ∀ v', Below vv14.heap.size vv14 v' → V3 v' (qg) rd.1 rd.2.1 rd.2.2 := fun v' h => FG.out.below h
        go_wp2_with fail
        refine wp_region_inv2 (fun zA0 L zA vv16 => ∃ (zB : Nat → Bool) (zS : Nat → Value) (gq : Nat), L = #[zB 0, zB 1, zB 2, zB 3, zB 4] ∧ zA = puts zA0 [(61, zS 61), (62, zS 62), (63, zS 63), (64, zS 64), (65, zS 65)] ∧ ((zB 0 = true → zS 61 = .agg #[.int .i64 z, .slice (some ⟨gx, 0, none⟩) l.length l.length]) ∧ (zB 1 = true → zS 62 = .agg #[.int .i64 z, .slice a l.length c]) ∧ (zB 2 = true → zS 63 = .agg #[.int .i64 z, .slice (some ⟨gq, 0, none⟩) l.length l.length]) ∧ (zB 3 = true → zS 64 = .bool true) ∧ (zB 4 = true → zS 65 = .bool false)) ∧ Below vv14.heap.size vv14 vv16 ∧ ((zB 2) = true → Q.IntsAt vv16 (some ⟨gq, 0, none⟩) l)) (by kernel_rfl) ?_ ?_ ?_
        · exact ⟨fun _ => false, fun _ => undef, 0, rfl, by kernel_rfl, ⟨fun e => ft e, fun e => ft e, fun e => ft e, fun e => ft e, fun e => ft e⟩, ⟨(Below.refl _ _).drew, fun e => ft e⟩⟩
        · refine StepsI.cons rfl ?_ ?_
          · rintro L zA vv16 ⟨zB, zS, gq, rfl, rfl, hF, hW⟩ hL hm K hK
            have hb0 : zB 0 = false := by simpa using hL
            clear hL hm
            simp only [puts, Act.put, List.setIfInBounds_toArray, List.set_cons_zero, List.set_cons_succ]
            obtain ⟨k0, k1⟩ := cFF16 _ hW.1
            go_simp
            exact hK.out _ _ ⟨fun zj => if zj = 0 then true else zB zj, fun zd => if zd = 61 then .agg #[.int .i64 z, .slice (some ⟨gx, 0, none⟩) l.length l.length] else zS zd, gq, rfl, by kernel_rfl, ⟨fun _ => rfl, hF.2.1, hF.2.2.1, hF.2.2.2.1, hF.2.2.2.2⟩, hW⟩
          refine StepsI.cons rfl ?_ ?_
          · rintro L zA vv16 ⟨zB, zS, gq, rfl, rfl, hF, hW⟩ hL hm K hK
            have hb1 : zB 1 = false := by simpa using hL
            clear hL hm
            simp only [puts, Act.put, List.setIfInBounds_toArray, List.set_cons_zero, List.set_cons_succ]
            obtain ⟨k0, k1⟩ := cFF0 _ hW.1
            go_simp
            exact hK.out _ _ ⟨fun zj => if zj = 1 then true else zB zj, fun zd => if zd = 62 then .agg #[.int .i64 z, .slice a l.length c] else zS zd, gq, rfl, by kernel_rfl, ⟨hF.1, fun _ => rfl, hF.2.2.1, hF.2.2.2.1, hF.2.2.2.2⟩, hW⟩
          refine StepsI.cons rfl ?_ ?_
          · rintro L zA vv16 ⟨zB, zS, gq, rfl, rfl, hF, hW⟩ hL hm K hK
            have hb2 : zB 2 = false := by simpa using hL
            have hb1 : zB 1 = true := by cases e : zB 1 with | false => (exfalso; revert hm; simp [metB, Region.binds, e]) | true => rfl
            have e1 : zS 62 = .agg #[.int .i64 z, .slice a l.length c] := hF.2.1 hb1
            clear hL hm
            rw [hb2] at hW
            simp only [puts, Act.put, List.setIfInBounds_toArray, List.set_cons_zero, List.set_cons_succ]
            simp only [e1]
            go_simp
            refine (Q.toFacts_any z l a c _ HLN.out (LF.out.below hW.1)).mono ?_
            rintro e vv162 ⟨gq9, rfl, ho, hb⟩
            go_wp2_with fail
            exact hK.out _ _ ⟨fun zj => if zj = 1 then true else if zj = 2 then true else zB zj, fun zd => if zd = 63 then .agg #[.int .i64 z, .slice (some ⟨gq9, 0, none⟩) l.length l.length] else if zd = 62 then .agg #[.int .i64 z, .slice a l.length c] else zS zd, gq9, by simp [hb1], by kernel_rfl, ⟨hF.1, fun _ => rfl, fun _ => rfl, hF.2.2.2.1, hF.2.2.2.2⟩, ⟨below_step hW.1 hb, fun _ => ho.at⟩⟩
          refine StepsI.cons rfl ?_ ?_
          · rintro L zA vv16 ⟨zB, zS, gq, rfl, rfl, hF, hW⟩ hL hm K hK
            have hb3 : zB 3 = false := by simpa using hL
            have hb0 : zB 0 = true := by cases e : zB 0 with | false => (exfalso; revert hm; simp [metB, Region.binds, e]) | true => rfl
            have hb2 : zB 2 = true := by cases e : zB 2 with | false => (exfalso; revert hm; simp [metB, Region.binds, e]) | true => rfl
            have e0 : zS 61 = .agg #[.int .i64 z, .slice (some ⟨gx, 0, none⟩) l.length l.length] := hF.1 hb0
            have e2 : zS 63 = .agg #[.int .i64 z, .slice (some ⟨gq, 0, none⟩) l.length l.length] := hF.2.2.1 hb2
            clear hL hm
            rw [hb2] at hW
            simp only [puts, Act.put, List.setIfInBounds_toArray, List.set_cons_zero, List.set_cons_succ]
            simp only [e0, e2]
            go_simp
            refine (Q.eqFacts_ok z l (some ⟨gx, 0, none⟩) (some ⟨gq, 0, none⟩) l.length l.length _ HN.out (LG.out.below hW.1) (hW.2 (by first | rfl | trivial))).mono ?_
            rintro e vv162 ⟨rfl, hb⟩
            go_wp2_with fail
            exact hK.out _ _ ⟨fun zj => if zj = 2 then true else if zj = 0 then true else if zj = 3 then true else zB zj, fun zd => if zd = 64 then .bool true else if zd = 63 then .agg #[.int .i64 z, .slice (some ⟨gq, 0, none⟩) l.length l.length] else if zd = 61 then .agg #[.int .i64 z, .slice (some ⟨gx, 0, none⟩) l.length l.length] else zS zd, gq, by simp [hb0, hb2], by kernel_rfl, ⟨fun _ => rfl, hF.2.1, fun _ => rfl, fun _ => rfl, hF.2.2.2.2⟩, ⟨below_step hW.1 hb, fun _ => (hW.2 (by first | rfl | trivial)).below hb⟩⟩
          refine StepsI.cons rfl ?_ ?_
          · rintro L zA vv16 ⟨zB, zS, gq, rfl, rfl, hF, hW⟩ hL hm K hK
            have hb4 : zB 4 = false := by simpa using hL
            have hb3 : zB 3 = true := by cases e : zB 3 with | false => (exfalso; revert hm; simp [metB, Region.binds, e]) | true => rfl
            have e3 : zS 64 = .bool true := hF.2.2.2.1 hb3
            clear hL hm
            simp only [puts, Act.put, List.setIfInBounds_toArray, List.set_cons_zero, List.set_cons_succ]
            simp only [e3]
            go_simp
            exact hK.out _ _ ⟨fun zj => if zj = 3 then true else if zj = 4 then true else zB zj, fun zd => if zd = 65 then .bool false else if zd = 64 then .bool true else zS zd, gq, by simp [hb3], by kernel_rfl, ⟨hF.1, hF.2.1, hF.2.2.1, fun _ => rfl, fun _ => rfl⟩, hW⟩
          exact StepsI.nil (by kernel_rfl)
        · rintro L zA vv16 ⟨zB, zS, gq, rfl, rfl, hF, hW⟩ hr
          have hu := all_up (by kernel_rfl) (N := 5) (by kernel_rfl) hr
          have hb0 : zB 0 = true := by simpa using hu 0 (by decide)
          have hb1 : zB 1 = true := by simpa using hu 1 (by decide)
          have hb2 : zB 2 = true := by simpa using hu 2 (by decide)
          have hb3 : zB 3 = true := by simpa using hu 3 (by decide)
          have hb4 : zB 4 = true := by simpa using hu 4 (by decide)
          have e0 : zS 61 = .agg #[.int .i64 z, .slice (some ⟨gx, 0, none⟩) l.length l.length] := hF.1 hb0
          have e1 : zS 62 = .agg #[.int .i64 z, .slice a l.length c] := hF.2.1 hb1
          have e2 : zS 63 = .agg #[.int .i64 z, .slice (some ⟨gq, 0, none⟩) l.length l.length] := hF.2.2.1 hb2
          have e3 : zS 64 = .bool true := hF.2.2.2.1 hb3
          have e4 : zS 65 = .bool false := hF.2.2.2.2 hb4
          rw [hb2] at hW
          clear hu hr hF
          simp only [puts, Act.put, List.setIfInBounds_toArray, List.set_cons_zero, List.set_cons_succ]
          simp only [e0, e1, e2, e3, e4]
          clear e0 e1 e2 e3 e4
          clear hb0 hb1 hb2 hb3 hb4
          clear zB zS
          have hb := hW.1
          have n0 := mkHid (hW.2 (by first | rfl | trivial))
          have BE := mkHid (below_step BE.out hb)
          have FS0 := mkHid (FS0.out.below hb)
          have FF0 := mkHid (FF0.out.below hb)
          have FYx := mkHid (FYx.out.below hb)
          have FYy := mkHid (FYy.out.below hb)
          have LS := mkHid (LS.out.below hb)
          have LF := mkHid (LF.out.below hb)
          have FW := mkHid (FW.out.below hb)
          have LX := mkHid (LX.out.below hb)
          have FS15 := mkHid (FS15.out.below hb)
          have LG := mkHid (LG.out.below hb)
          have FF16 := mkHid (FF16.out.below hb)
          have FG := mkHid (FG.out.below hb)
          clear hb hW
          clear cFS0 cFF0 cFYx cFYy cFW cFS15 cFF16 cFG
          go_wp2
          go_ret
          exact ⟨rfl, BE.out⟩

theorem cellsF : Tryz.prog.cellsOf 29 = 2 := by kernel_rfl
set_option maxRecDepth 100000 in
theorem law_lifted (os : Os) (started : os.Started) (H : Type) (enc : TypeId × Value → H) :
    ReturnsInHanded {} Tryz.checked os 5 .any (Rows.fnExactSegReadSpec.pre6 enc Tryz.prog Tryz.f5 Rows.fnExactSegReadRow.domain false) (Rows.fnExactSegReadSpec.post enc Tryz.prog Tryz.f5 false true false false) := by
  refine returnsInHanded_of_change (C := Tryz.checked) Tryz.own started (by kernel_rfl) Tryz.func5
    (ChangeSpec.witness6 (enc := enc) (C := Tryz.checked) false ⟨#[], #[.int .i64 0, .int .i64 0, .agg #[.slice none 0 0, .slice none 0 0, .slice none 0 0], .agg #[.int .i64 0, .slice none 0 0], .agg #[.int .i64 0, .int .i64 0], .agg #[.int .i64 0, .int .i64 0]], []⟩ 8 (by kernel_rfl) (by kernel_rfl) (by kernel_rfl) (by kernel_rfl)) ?_
  intro W base args ds gs before hval0 hW hcnd _
  have hval : ∀ (j : Nat) t v, Tryz.f5.params[j]? = some t → args[j]? = some v → Value.okWide Tryz.prog W .any base t v := hval0
  have hW' := hW
  obtain ⟨p, q, hA0, hV, rfl, hfz, hnd⟩ := hW
  have hA : DataW.TrodAll enc Tryz.prog W 0 (fun _ => true) true Tryz.f5.params.toList args.toList ds p := hA0
  rw [Tryz.params5] at hA hval
  obtain ⟨v0, vs0, d0, ds0, p0, q0, hargs, rfl, rfl, h0, r0⟩ := trodAll_cons hA
  obtain ⟨v1, vs1, d1, ds1, p1, q1, rfl, rfl, rfl, h1, r1⟩ := trodAll_cons r0
  obtain ⟨v2, vs2, d2, ds2, p2, q2, rfl, rfl, rfl, h2, r2⟩ := trodAll_cons r1
  obtain ⟨v3, vs3, d3, ds3, p3, q3, rfl, rfl, rfl, h3, r3⟩ := trodAll_cons r2
  obtain ⟨v4, vs4, d4, ds4, p4, q4, rfl, rfl, rfl, h4, r4⟩ := trodAll_cons r3
  obtain ⟨v5, vs5, d5, ds5, p5, q5, rfl, rfl, rfl, h5, r5⟩ := trodAll_cons r4
  obtain ⟨rfl, rfl, rfl⟩ := trodAll_nil r5
  obtain rfl : args = #[v0, v1, v2, v3, v4, v5] := by cases args; simp_all
  obtain ⟨rfl, rfl⟩ := trodVars_none hV
  have k0 := h0
  have lt0 : ∀ x ∈ p0, x.block < W.heap.size := by obtain ⟨m, hm⟩ := k0; exact DataW.trod_lt m _ _ _ hm
  have k1 := h1
  have lt1 : ∀ x ∈ p1, x.block < W.heap.size := by obtain ⟨m, hm⟩ := k1; exact DataW.trod_lt m _ _ _ hm
  have k2 := h2
  have lt2 : ∀ x ∈ p2, x.block < W.heap.size := by obtain ⟨m, hm⟩ := k2; exact DataW.trod_lt m _ _ _ hm
  have k3 := h3
  have lt3 : ∀ x ∈ p3, x.block < W.heap.size := by obtain ⟨m, hm⟩ := k3; exact DataW.trod_lt m _ _ _ hm
  have k4 := h4
  have lt4 : ∀ x ∈ p4, x.block < W.heap.size := by obtain ⟨m, hm⟩ := k4; exact DataW.trod_lt m _ _ _ hm
  have k5 := h5
  have lt5 : ∀ x ∈ p5, x.block < W.heap.size := by obtain ⟨m, hm⟩ := k5; exact DataW.trod_lt m _ _ _ hm
  obtain ⟨x0, hv0, _, _, _⟩ := open_int Tryz.underlying3 (hval 0 3 v0 rfl rfl) h0
  subst hv0
  obtain ⟨x1, hv1, _, _, _⟩ := open_int Tryz.underlying3 (hval 1 3 v1 rfl rfl) h1
  subst hv1
  obtain ⟨S2, A2, hv2, hg2, hl2⟩ := open_seg (hval 2 26 v2 rfl rfl) h2
  subst hv2
  obtain ⟨u30, u31, y30, y31, m3, hv3, _, _, hy30, hy31⟩ := open_agg2 Tryz.underlying29 (by kernel_rfl) cellsF (hval 3 29 v3 rfl rfl) h3
  obtain ⟨z3, e30, _, _⟩ := DataW.trod_int Tryz.underlying3 hy30
  obtain ⟨a3, c3, l3, e31, hn3, hk3⟩ := Q.open_intsv hy31
  simp at e30
  subst e30 e31 hv3
  obtain ⟨u40, u41, y40, y41, m4, hv4, _, _, hy40, hy41⟩ := open_agg2 Tryz.underlying46 (by kernel_rfl) Tryz.cells46 (hval 4 46 v4 rfl rfl) h4
  obtain ⟨s4, e40, _, _⟩ := DataW.trod_int Tryz.underlying3 hy40
  obtain ⟨t4, e41, _, _⟩ := DataW.trod_int Tryz.underlying3 hy41
  simp at e40 e41
  subst e40 e41 hv4
  obtain ⟨u50, u51, y50, y51, m5, hv5, _, _, hy50, hy51⟩ := open_agg2 Tryz.underlying46 (by kernel_rfl) Tryz.cells46 (hval 5 46 v5 rfl rfl) h5
  obtain ⟨s5, e50, _, _⟩ := DataW.trod_int Tryz.underlying3 hy50
  obtain ⟨t5, e51, _, _⟩ := DataW.trod_int Tryz.underlying3 hy51
  simp at e50 e51
  subst e50 e51 hv5
  clear hA0 hval0
  refine (law_walk x0 x1 S2 A2 z3 l3 a3 c3 (s4, t4) (s5, t5) W hg2 hl2 hn3 hk3).mono fun e W' ⟨he, bel⟩ => ?_
  subst he
  exact ⟨_, rfl, _, _, _, [], _, [], hW', trodAll_mk1 (shut_bool Tryz.underlying4 _), (trodAll_cons_mk (Below.trod Tryz.laidOut (by kernel_rfl) (of_decide_eq_true (by kernel_rfl)) k0 bel lt0) (trodAll_cons_mk (Below.trod Tryz.laidOut (by kernel_rfl) (of_decide_eq_true (by kernel_rfl)) k1 bel lt1) (trodAll_cons_mk (Below.trod Tryz.laidOut (by kernel_rfl) (of_decide_eq_true (by kernel_rfl)) k2 bel lt2) (trodAll_cons_mk (Below.trod Tryz.laidOut (by kernel_rfl) (of_decide_eq_true (by kernel_rfl)) k3 bel lt3) (trodAll_cons_mk (Below.trod Tryz.laidOut (by kernel_rfl) (of_decide_eq_true (by kernel_rfl)) k4 bel lt4) (trodAll_cons_mk (Below.trod Tryz.laidOut (by kernel_rfl) (of_decide_eq_true (by kernel_rfl)) k5 bel lt5) trodAll_mk0)))))), rfl, bel.frame _, fun h => by cases h⟩

theorem law_holds : Rows.FnExactSegReadSaid :=
  OpenClaim.holds_of_wide 5 Tryz.f5 rfl rfl rfl rfl rfl rfl rfl ⟨rfl, rfl, rfl, rfl, rfl⟩ rfl rfl rfl rfl rfl (by kernel_rfl) Tryz.func5 (by kernel_rfl)
    (of_decide_eq_true (by kernel_rfl)) (by unfold Func.isWrapper; first | (rw [if_pos (by decide +kernel)]; kernel_rfl) | (rw [if_neg (by decide +kernel)]; exact ⟨rfl, rfl⟩))
    (fun os started H enc _ => law_lifted os started H enc)

#print axioms law_holds
end Go.Proofs.YtihpajiololfoaaGreat
