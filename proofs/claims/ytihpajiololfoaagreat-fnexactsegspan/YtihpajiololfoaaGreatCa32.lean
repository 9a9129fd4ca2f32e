/-
  FnExactSegSpan holds at every argument: the program's SegSpan answers as the specification's; it writes into no argument. No conditions.
-/
import Derived.Test.YtihpajiololfoaaGreatCa29
import Derived.Test.YtihpajiololfoaaGreatCa31
import Derived.Test.YtihpajiololfoaaGreatCa15
import Derived.Test.YtihpajiololfoaaGreatCa30
import Derived.Test.YtihpajiololfoaaGreatCa09
import Derived.ProofKit
import Derived.OpenShut
import Derived.ChangeOld
import Derived.ChangeSlices
import Derived.Laws.OwnMore
namespace Go.Proofs.YtihpajiololfoaaGreat
open Go.ChangeShapes Go.WideShapes Go.ChangeAt Go.RowKit Go.Joins

theorem SpR.ex (size lv : Int) (S : SG) (z : Int) (l : List Int) (x y : Y) : ∃ r, SpR size lv S z l x y r := by
  by_cases h : OkS size lv S.B S.V S.M ∧ FS z l size ∧ ∀ t, t ∈ [x, y] → Wd size.toNat t
  · obtain ⟨h1, ⟨f, h2, h3⟩, h4⟩ := h
    obtain ⟨n, q0, _, _⟩ := cF_size h2
    have hs : size = n := h3.symm.trans q0
    exact ⟨_, .inl ⟨n, f, ⟨hs, q0, h2, h1, fun t ht => by have := h4 t ht; rw [hs, Int.toNat_natCast] at this; exact this⟩, rfl⟩⟩
  · exact ⟨_, .inr ⟨h, rfl⟩⟩
set_option maxRecDepth 100000 in
set_option maxHeartbeats 12800000 in
theorem law_walk (size lv : Int) (S : SG) (A : SAd) (z : Int) (l : List Int) (a : Option Addr) (c : Nat) (x y : Y) (w : World) (hg : Lim S) (hl : SegAt w A S) (hn : l.length ≤ maxLen) (hk : Q.IntsAt w a l) : Calls Tryz.prog 4 #[.int .i64 size, .int .i64 lv, .agg #[.slice A.a0 S.B.length A.c0, .slice A.a1 S.V.length A.c1, .slice A.a2 S.M.length A.c2], .agg #[.int .i64 z, .slice a l.length c], .agg #[.int .i64 x.1, .int .i64 x.2], .agg #[.int .i64 y.1, .int .i64 y.2]] w fun e w' => e = .returned (.bool true) ∧ Below w.heap.size w w' := by
  have HG := mkHid hg
  have HN := mkHid hn
  obtain ⟨w0, hw0⟩ : ∃ q, ((((w.alloc (.cells #[.slice A.a0 S.B.length A.c0, .slice A.a1 S.V.length A.c1, .slice A.a2 S.M.length A.c2] 26)).alloc (.cells #[.int .i64 z, .slice a l.length c] 29)).alloc (.cells #[.int .i64 x.1, .int .i64 x.2] 46)).alloc (.cells #[.int .i64 y.1, .int .i64 y.2] 46)) = q := ⟨_, rfl⟩
  obtain ⟨X, hX⟩ : ∃ q, w.heap.size = q := ⟨_, rfl⟩
  have BE : Hid (Below w.heap.size w w0) := mkHid (by rw [← hw0]; exact (bl_alloc (bl_alloc (bl_alloc (bl_alloc (Below.refl _ _) _) _) _) _))
  have FS0 : Hid (G3 w0 (X) (.slice A.a0 S.B.length A.c0) (.slice A.a1 S.V.length A.c1) (.slice A.a2 S.M.length A.c2)) := mkHid (by rw [← hw0, ← hX]; exact (G3.new w _ _ _ 26).below (bl_alloc (bl_alloc (bl_alloc (Below.refl _ _) _) _) _))
  have FF0 : Hid (Q.Fc w0 (X + 1) z a l.length c) := mkHid (by rw [← hw0, ← hX]; have := (Q.Fc.new (w.alloc (.cells #[.slice A.a0 S.B.length A.c0, .slice A.a1 S.V.length A.c1, .slice A.a2 S.M.length A.c2] 26)) z a l.length c 29).below (bl_alloc (bl_alloc (Below.refl _ _) (.cells #[.int .i64 x.1, .int .i64 x.2] 46)) (.cells #[.int .i64 y.1, .int .i64 y.2] 46)); simpa using this)
  have FYx : Hid (Box w0 (X + 2) x.1 x.2) := mkHid (by rw [← hw0, ← hX]; have := (Box.new' ((w.alloc (.cells #[.slice A.a0 S.B.length A.c0, .slice A.a1 S.V.length A.c1, .slice A.a2 S.M.length A.c2] 26)).alloc (.cells #[.int .i64 z, .slice a l.length c] 29)) x.1 x.2 46).below (bl_alloc (Below.refl _ _) (.cells #[.int .i64 y.1, .int .i64 y.2] 46)); simpa using this)
  have FYy : Hid (Box w0 (X + 3) y.1 y.2) := mkHid (by rw [← hw0, ← hX]; have := Box.new' (((w.alloc (.cells #[.slice A.a0 S.B.length A.c0, .slice A.a1 S.V.length A.c1, .slice A.a2 S.M.length A.c2] 26)).alloc (.cells #[.int .i64 z, .slice a l.length c] 29)).alloc (.cells #[.int .i64 x.1, .int .i64 x.2] 46)) y.1 y.2 46; simpa using this)
  have LS := mkHid (hl.below BE.out)
  have LF := mkHid (hk.below BE.out)
  clear hg hn hl hk
  obtain ⟨q0, q1, q2, _, _, _⟩ := FS0.out
  go_enter Tryz.func4, Tryz.ntmps4
  go_wp2_with fail
  first | rw [hw0] | skip
  refine (szSeg_any S A _ HG.out.b HG.out.r HG.out.v HG.out.m 1048576 (by omega) (by omega) LS.out).mono ?_
  rintro e w1 ⟨hb, r, rfl, hr⟩
  have HQ := mkHid hr
  have BE := mkHid (below_step BE.out hb)
  have FS0 := mkHid (FS0.out.below hb)
  have FF0 := mkHid (FF0.out.below hb)
  have FYx := mkHid (FYx.out.below hb)
  have FYy := mkHid (FYy.out.below hb)
  have LS := mkHid (LS.out.below hb)
  have LF := mkHid (LF.out.below hb)
  clear hb hr hw0 q0 q1 q2
  first | rw [hX] | skip
  by_cases hneg : r < 0
  · go_wp2
    go_ret
    exact ⟨rfl, BE.out⟩
  obtain ⟨hz1, hz2, hz3, hz4, hz5⟩ := HQ.out (by omega)
  have HM : Hid (Small S) := mkHid ⟨hz1, hz2, hz3, hz4⟩
  clear HQ hz1 hz2 hz3 hz4
  obtain ⟨t0, t1⟩ := FF0.out
  go_wp2_with fail
  refine (Q.szFacts_any z a l.length c r _ HN.out (by omega) hz5).mono ?_
  rintro e w2 ⟨rfl, hb⟩
  have BE := mkHid (below_step BE.out hb)
  have FS0 := mkHid (FS0.out.below hb)
  have FF0 := mkHid (FF0.out.below hb)
  have FYx := mkHid (FYx.out.below hb)
  have FYy := mkHid (FYy.out.below hb)
  have LS := mkHid (LS.out.below hb)
  have LF := mkHid (LF.out.below hb)
  clear hb t0 t1
  by_cases hll : (l.length : Int) ≤ r
  rotate_left
  · have e1 : Q.szR r l.length = -1 := if_neg hll
    rw [e1]
    go_wp2
    go_ret
    exact ⟨rfl, BE.out⟩
  have e1 : Q.szR r l.length = r - l.length := if_pos hll
  have HLN : Hid (l.length ≤ 1048576) := mkHid (by omega)
  obtain ⟨r2, hr2⟩ : ∃ q, r - (l.length : Int) = q := ⟨_, rfl⟩
  have hr3 : ¬ r2 < 0 := by omega
  rw [e1, hr2]
  clear e1 hr2 hll hz5 hneg
  obtain ⟨rq, hrq⟩ := SpR.ex size lv S z l x y
  have HSP := mkHid hrq
  clear hrq
  have cFS0 : ∀ v', Below w2.heap.size w2 v' → G3 v' (X) (.slice A.a0 S.B.length A.c0) (.slice A.a1 S.V.length A.c1) (.slice A.a2 S.M.length A.c2) := fun v' h => FS0.out.below h
  have cFF0 : ∀ v', Below w2.heap.size w2 v' → Q.Fc v' (X + 1) z a l.length (c) := fun v' h => FF0.out.below h
  have cFYx : ∀ v', Below w2.heap.size w2 v' → Box v' (X + 2) (x.1) (x.2) := fun v' h => FYx.out.below h
  have cFYy : ∀ v', Below w2.heap.size w2 v' → Box v' (X + 3) (y.1) (y.2) := fun v' h => FYy.out.below h
  go_wp2_with fail
  refine wp_region_inv2 (fun zA0 L zA vv8 => ∃ (zB : Nat → Bool) (zS : Nat → Value) (Aq : SAd) (gq : Nat), L = #[zB 0, zB 1, zB 2, zB 3, zB 4, zB 5, zB 6, zB 7, zB 8, zB 9, zB 10, zB 11, zB 12, zB 13, zB 14, zB 15] ∧ zA = puts zA0 [(31, zS 31), (32, zS 32), (33, zS 33), (34, zS 34), (35, zS 35), (36, zS 36), (37, zS 37), (38, zS 38), (39, zS 39), (40, zS 40), (41, zS 41), (30, zS 30), (42, zS 42), (43, zS 43), (14, zS 14), (15, zS 15)] ∧ ((zB 0 = true → zS 31 = .int .i64 size) ∧ (zB 1 = true → zS 32 = .int .i64 lv) ∧ (zB 2 = true → zS 33 = .agg #[.slice A.a0 S.B.length A.c0, .slice A.a1 S.V.length A.c1, .slice A.a2 S.M.length A.c2]) ∧ (zB 3 = true → zS 34 = .agg #[.slice Aq.a0 S.B.length Aq.c0, .slice Aq.a1 S.V.length Aq.c1, .slice Aq.a2 S.M.length Aq.c2]) ∧ (zB 4 = true → zS 35 = .agg #[.int .i64 z, .slice a l.length c]) ∧ (zB 5 = true → zS 36 = .agg #[.int .i64 z, .slice (some ⟨gq, 0, none⟩) l.length l.length]) ∧ (zB 6 = true → zS 37 = .agg #[.int .i64 x.1, .int .i64 x.2]) ∧ (zB 7 = true → zS 38 = .agg #[.int .i64 x.1, .int .i64 x.2]) ∧ (zB 8 = true → zS 39 = .agg #[.int .i64 y.1, .int .i64 y.2]) ∧ (zB 9 = true → zS 40 = .agg #[.int .i64 y.1, .int .i64 y.2]) ∧ (zB 10 = true → zS 41 = .tuple #[.int .i64 rq.1, .int .i64 rq.2]) ∧ (zB 11 = true → zS 30 = .tuple #[.int .i64 rq.1, .int .i64 rq.2]) ∧ (zB 12 = true → zS 42 = .int .i64 rq.1) ∧ (zB 13 = true → zS 43 = .int .i64 rq.2) ∧ (zB 14 = true → zS 14 = .int .i64 rq.1) ∧ (zB 15 = true → zS 15 = .int .i64 rq.2)) ∧ Below w2.heap.size w2 vv8 ∧ ((zB 3) = true → SegAt vv8 Aq S) ∧ ((zB 5) = true → Q.IntsAt vv8 (some ⟨gq, 0, none⟩) l)) (by kernel_rfl) ?_ ?_ ?_
  · exact ⟨fun _ => false, fun _ => undef, zAd, 0, rfl, by kernel_rfl, ⟨fun e => ft e, fun e => ft e, fun e => ft e, fun e => ft e, fun e => ft e, fun e => ft e, fun e => ft e, fun e => ft e, fun e => ft e, fun e => ft e, fun e => ft e, fun e => ft e, fun e => ft e, fun e => ft e, fun e => ft e, fun e => ft e⟩, ⟨(Below.refl _ _).drew, fun e => ft e, fun e => ft e⟩⟩
  · refine StepsI.cons rfl ?_ ?_
    · rintro L zA vv8 ⟨zB, zS, Aq, gq, rfl, rfl, hF, hW⟩ hL hm K hK
      have hb0 : zB 0 = false := by simpa using hL
      clear hL hm
      simp only [puts, Act.put, List.setIfInBounds_toArray, List.set_cons_zero, List.set_cons_succ]
      go_simp
      exact hK.out _ _ ⟨fun zj => if zj = 0 then true else zB zj, fun zd => if zd = 31 then .int .i64 size else zS zd, Aq, gq, rfl, by kernel_rfl, ⟨fun _ => rfl, hF.2.1, hF.2.2.1, hF.2.2.2.1, hF.2.2.2.2.1, hF.2.2.2.2.2.1, hF.2.2.2.2.2.2.1, hF.2.2.2.2.2.2.2.1, hF.2.2.2.2.2.2.2.2.1, hF.2.2.2.2.2.2.2.2.2.1, hF.2.2.2.2.2.2.2.2.2.2.1, hF.2.2.2.2.2.2.2.2.2.2.2.1, hF.2.2.2.2.2.2.2.2.2.2.2.2.1, hF.2.2.2.2.2.2.2.2.2.2.2.2.2.1, hF.2.2.2.2.2.2.2.2.2.2.2.2.2.2.1, hF.2.2.2.2.2.2.2.2.2.2.2.2.2.2.2⟩, hW⟩
    refine StepsI.cons rfl ?_ ?_
    · rintro L zA vv8 ⟨zB, zS, Aq, gq, rfl, rfl, hF, hW⟩ hL hm K hK
      have hb1 : zB 1 = false := by simpa using hL
      clear hL hm
      simp only [puts, Act.put, List.setIfInBounds_toArray, List.set_cons_zero, List.set_cons_succ]
      go_simp
      exact hK.out _ _ ⟨fun zj => if zj = 1 then true else zB zj, fun zd => if zd = 32 then .int .i64 lv else zS zd, Aq, gq, rfl, by kernel_rfl, ⟨hF.1, fun _ => rfl, hF.2.2.1, hF.2.2.2.1, hF.2.2.2.2.1, hF.2.2.2.2.2.1, hF.2.2.2.2.2.2.1, hF.2.2.2.2.2.2.2.1, hF.2.2.2.2.2.2.2.2.1, hF.2.2.2.2.2.2.2.2.2.1, hF.2.2.2.2.2.2.2.2.2.2.1, hF.2.2.2.2.2.2.2.2.2.2.2.1, hF.2.2.2.2.2.2.2.2.2.2.2.2.1, hF.2.2.2.2.2.2.2.2.2.2.2.2.2.1, hF.2.2.2.2.2.2.2.2.2.2.2.2.2.2.1, hF.2.2.2.2.2.2.2.2.2.2.2.2.2.2.2⟩, hW⟩
    refine StepsI.cons rfl ?_ ?_
    · rintro L zA vv8 ⟨zB, zS, Aq, gq, rfl, rfl, hF, hW⟩ hL hm K hK
      have hb2 : zB 2 = false := by simpa using hL
      clear hL hm
      simp only [puts, Act.put, List.setIfInBounds_toArray, List.set_cons_zero, List.set_cons_succ]
      obtain ⟨k0, k1, k2, _, _, _⟩ := cFS0 _ hW.1
      go_simp
      exact hK.out _ _ ⟨fun zj => if zj = 2 then true else zB zj, fun zd => if zd = 33 then .agg #[.slice A.a0 S.B.length A.c0, .slice A.a1 S.V.length A.c1, .slice A.a2 S.M.length A.c2] else zS zd, Aq, gq, rfl, by kernel_rfl, ⟨hF.1, hF.2.1, fun _ => rfl, hF.2.2.2.1, hF.2.2.2.2.1, hF.2.2.2.2.2.1, hF.2.2.2.2.2.2.1, hF.2.2.2.2.2.2.2.1, hF.2.2.2.2.2.2.2.2.1, hF.2.2.2.2.2.2.2.2.2.1, hF.2.2.2.2.2.2.2.2.2.2.1, hF.2.2.2.2.2.2.2.2.2.2.2.1, hF.2.2.2.2.2.2.2.2.2.2.2.2.1, hF.2.2.2.2.2.2.2.2.2.2.2.2.2.1, hF.2.2.2.2.2.2.2.2.2.2.2.2.2.2.1, hF.2.2.2.2.2.2.2.2.2.2.2.2.2.2.2⟩, hW⟩
    refine StepsI.cons rfl ?_ ?_
    · rintro L zA vv8 ⟨zB, zS, Aq, gq, rfl, rfl, hF, hW⟩ hL hm K hK
      have hb3 : zB 3 = false := by simpa using hL
      have hb2 : zB 2 = true := by cases e : zB 2 with | false => (exfalso; revert hm; simp [metB, Region.binds, e]) | true => rfl
      have e2 : zS 33 = .agg #[.slice A.a0 S.B.length A.c0, .slice A.a1 S.V.length A.c1, .slice A.a2 S.M.length A.c2] := hF.2.2.1 hb2
      clear hL hm
      rw [hb3] at hW
      simp only [puts, Act.put, List.setIfInBounds_toArray, List.set_cons_zero, List.set_cons_succ]
      simp only [e2]
      go_simp
      refine (toSeg_any S A _ HM.out.b HM.out.t HM.out.v HM.out.m (LS.out.below hW.1)).mono ?_
      rintro e vv82 ⟨Aq9, rfl, ho, hb⟩
      go_wp2_with fail
      exact hK.out _ _ ⟨fun zj => if zj = 2 then true else if zj = 3 then true else zB zj, fun zd => if zd = 34 then .agg #[.slice Aq9.a0 S.B.length Aq9.c0, .slice Aq9.a1 S.V.length Aq9.c1, .slice Aq9.a2 S.M.length Aq9.c2] else if zd = 33 then .agg #[.slice A.a0 S.B.length A.c0, .slice A.a1 S.V.length A.c1, .slice A.a2 S.M.length A.c2] else zS zd, Aq9, gq, by simp [hb2], by kernel_rfl, ⟨hF.1, hF.2.1, fun _ => rfl, fun _ => rfl, hF.2.2.2.2.1, hF.2.2.2.2.2.1, hF.2.2.2.2.2.2.1, hF.2.2.2.2.2.2.2.1, hF.2.2.2.2.2.2.2.2.1, hF.2.2.2.2.2.2.2.2.2.1, hF.2.2.2.2.2.2.2.2.2.2.1, hF.2.2.2.2.2.2.2.2.2.2.2.1, hF.2.2.2.2.2.2.2.2.2.2.2.2.1, hF.2.2.2.2.2.2.2.2.2.2.2.2.2.1, hF.2.2.2.2.2.2.2.2.2.2.2.2.2.2.1, hF.2.2.2.2.2.2.2.2.2.2.2.2.2.2.2⟩, ⟨below_step hW.1 hb, fun _ => ho.at, fun q => (hW.2.2 q).below hb⟩⟩
    refine StepsI.cons rfl ?_ ?_
    · rintro L zA vv8 ⟨zB, zS, Aq, gq, rfl, rfl, hF, hW⟩ hL hm K hK
      have hb4 : zB 4 = false := by simpa using hL
      clear hL hm
      simp only [puts, Act.put, List.setIfInBounds_toArray, List.set_cons_zero, List.set_cons_succ]
      obtain ⟨k0, k1⟩ := cFF0 _ hW.1
      go_simp
      exact hK.out _ _ ⟨fun zj => if zj = 4 then true else zB zj, fun zd => if zd = 35 then .agg #[.int .i64 z, .slice a l.length c] else zS zd, Aq, gq, rfl, by kernel_rfl, ⟨hF.1, hF.2.1, hF.2.2.1, hF.2.2.2.1, fun _ => rfl, hF.2.2.2.2.2.1, hF.2.2.2.2.2.2.1, hF.2.2.2.2.2.2.2.1, hF.2.2.2.2.2.2.2.2.1, hF.2.2.2.2.2.2.2.2.2.1, hF.2.2.2.2.2.2.2.2.2.2.1, hF.2.2.2.2.2.2.2.2.2.2.2.1, hF.2.2.2.2.2.2.2.2.2.2.2.2.1, hF.2.2.2.2.2.2.2.2.2.2.2.2.2.1, hF.2.2.2.2.2.2.2.2.2.2.2.2.2.2.1, hF.2.2.2.2.2.2.2.2.2.2.2.2.2.2.2⟩, hW⟩
    refine StepsI.cons rfl ?_ ?_
    · rintro L zA vv8 ⟨zB, zS, Aq, gq, rfl, rfl, hF, hW⟩ hL hm K hK
      have hb5 : zB 5 = false := by simpa using hL
      have hb4 : zB 4 = true := by cases e : zB 4 with | false => (exfalso; revert hm; simp [metB, Region.binds, e]) | true => rfl
      have e4 : zS 35 = .agg #[.int .i64 z, .slice a l.length c] := hF.2.2.2.2.1 hb4
      clear hL hm
      rw [hb5] at hW
      simp only [puts, Act.put, List.setIfInBounds_toArray, List.set_cons_zero, List.set_cons_succ]
      simp only [e4]
      go_simp
      refine (Q.toFacts_any z l a c _ HLN.out (LF.out.below hW.1)).mono ?_
      rintro e vv82 ⟨gq9, rfl, ho, hb⟩
      go_wp2_with fail
      exact hK.out _ _ ⟨fun zj => if zj = 4 then true else if zj = 5 then true else zB zj, fun zd => if zd = 36 then .agg #[.int .i64 z, .slice (some ⟨gq9, 0, none⟩) l.length l.length] else if zd = 35 then .agg #[.int .i64 z, .slice a l.length c] else zS zd, Aq, gq9, by simp [hb4], by kernel_rfl, ⟨hF.1, hF.2.1, hF.2.2.1, hF.2.2.2.1, fun _ => rfl, fun _ => rfl, hF.2.2.2.2.2.2.1, hF.2.2.2.2.2.2.2.1, hF.2.2.2.2.2.2.2.2.1, hF.2.2.2.2.2.2.2.2.2.1, hF.2.2.2.2.2.2.2.2.2.2.1, hF.2.2.2.2.2.2.2.2.2.2.2.1, hF.2.2.2.2.2.2.2.2.2.2.2.2.1, hF.2.2.2.2.2.2.2.2.2.2.2.2.2.1, hF.2.2.2.2.2.2.2.2.2.2.2.2.2.2.1, hF.2.2.2.2.2.2.2.2.2.2.2.2.2.2.2⟩, ⟨below_step hW.1 hb, fun q => (hW.2.1 q).below hb, fun _ => ho.at⟩⟩
    refine StepsI.cons rfl ?_ ?_
    · rintro L zA vv8 ⟨zB, zS, Aq, gq, rfl, rfl, hF, hW⟩ hL hm K hK
      have hb6 : zB 6 = false := by simpa using hL
      clear hL hm
      simp only [puts, Act.put, List.setIfInBounds_toArray, List.set_cons_zero, List.set_cons_succ]
      obtain ⟨k0, k1, _, _⟩ := cFYx _ hW.1
      go_simp
      exact hK.out _ _ ⟨fun zj => if zj = 6 then true else zB zj, fun zd => if zd = 37 then .agg #[.int .i64 x.1, .int .i64 x.2] else zS zd, Aq, gq, rfl, by kernel_rfl, ⟨hF.1, hF.2.1, hF.2.2.1, hF.2.2.2.1, hF.2.2.2.2.1, hF.2.2.2.2.2.1, fun _ => rfl, hF.2.2.2.2.2.2.2.1, hF.2.2.2.2.2.2.2.2.1, hF.2.2.2.2.2.2.2.2.2.1, hF.2.2.2.2.2.2.2.2.2.2.1, hF.2.2.2.2.2.2.2.2.2.2.2.1, hF.2.2.2.2.2.2.2.2.2.2.2.2.1, hF.2.2.2.2.2.2.2.2.2.2.2.2.2.1, hF.2.2.2.2.2.2.2.2.2.2.2.2.2.2.1, hF.2.2.2.2.2.2.2.2.2.2.2.2.2.2.2⟩, hW⟩
    refine StepsI.cons rfl ?_ ?_
    · rintro L zA vv8 ⟨zB, zS, Aq, gq, rfl, rfl, hF, hW⟩ hL hm K hK
      have hb7 : zB 7 = false := by simpa using hL
      have hb6 : zB 6 = true := by cases e : zB 6 with | false => (exfalso; revert hm; simp [metB, Region.binds, e]) | true => rfl
      have e6 : zS 37 = .agg #[.int .i64 x.1, .int .i64 x.2] := hF.2.2.2.2.2.2.1 hb6
      clear hL hm
      simp only [puts, Act.put, List.setIfInBounds_toArray, List.set_cons_zero, List.set_cons_succ]
      simp only [e6]
      go_simp
      refine (toSym_any x.1 x.2 _).mono ?_
      rintro e vv82 ⟨rfl, hb⟩
      go_wp2_with fail
      exact hK.out _ _ ⟨fun zj => if zj = 6 then true else if zj = 7 then true else zB zj, fun zd => if zd = 38 then .agg #[.int .i64 x.1, .int .i64 x.2] else if zd = 37 then .agg #[.int .i64 x.1, .int .i64 x.2] else zS zd, Aq, gq, by simp [hb6], by kernel_rfl, ⟨hF.1, hF.2.1, hF.2.2.1, hF.2.2.2.1, hF.2.2.2.2.1, hF.2.2.2.2.2.1, fun _ => rfl, fun _ => rfl, hF.2.2.2.2.2.2.2.2.1, hF.2.2.2.2.2.2.2.2.2.1, hF.2.2.2.2.2.2.2.2.2.2.1, hF.2.2.2.2.2.2.2.2.2.2.2.1, hF.2.2.2.2.2.2.2.2.2.2.2.2.1, hF.2.2.2.2.2.2.2.2.2.2.2.2.2.1, hF.2.2.2.2.2.2.2.2.2.2.2.2.2.2.1, hF.2.2.2.2.2.2.2.2.2.2.2.2.2.2.2⟩, ⟨below_step hW.1 hb, fun q => (hW.2.1 q).below hb, fun q => (hW.2.2 q).below hb⟩⟩
    refine StepsI.cons rfl ?_ ?_
    · rintro L zA vv8 ⟨zB, zS, Aq, gq, rfl, rfl, hF, hW⟩ hL hm K hK
      have hb8 : zB 8 = false := by simpa using hL
      clear hL hm
      simp only [puts, Act.put, List.setIfInBounds_toArray, List.set_cons_zero, List.set_cons_succ]
      obtain ⟨k0, k1, _, _⟩ := cFYy _ hW.1
      go_simp
      exact hK.out _ _ ⟨fun zj => if zj = 8 then true else zB zj, fun zd => if zd = 39 then .agg #[.int .i64 y.1, .int .i64 y.2] else zS zd, Aq, gq, rfl, by kernel_rfl, ⟨hF.1, hF.2.1, hF.2.2.1, hF.2.2.2.1, hF.2.2.2.2.1, hF.2.2.2.2.2.1, hF.2.2.2.2.2.2.1, hF.2.2.2.2.2.2.2.1, fun _ => rfl, hF.2.2.2.2.2.2.2.2.2.1, hF.2.2.2.2.2.2.2.2.2.2.1, hF.2.2.2.2.2.2.2.2.2.2.2.1, hF.2.2.2.2.2.2.2.2.2.2.2.2.1, hF.2.2.2.2.2.2.2.2.2.2.2.2.2.1, hF.2.2.2.2.2.2.2.2.2.2.2.2.2.2.1, hF.2.2.2.2.2.2.2.2.2.2.2.2.2.2.2⟩, hW⟩
    refine StepsI.cons rfl ?_ ?_
    · rintro L zA vv8 ⟨zB, zS, Aq, gq, rfl, rfl, hF, hW⟩ hL hm K hK
      have hb9 : zB 9 = false := by simpa using hL
      have hb8 : zB 8 = true := by cases e : zB 8 with | false => (exfalso; revert hm; simp [metB, Region.binds, e]) | true => rfl
      have e8 : zS 39 = .agg #[.int .i64 y.1, .int .i64 y.2] := hF.2.2.2.2.2.2.2.2.1 hb8
      clear hL hm
      simp only [puts, Act.put, List.setIfInBounds_toArray, List.set_cons_zero, List.set_cons_succ]
      simp only [e8]
      go_simp
      refine (toSym_any y.1 y.2 _).mono ?_
      rintro e vv82 ⟨rfl, hb⟩
      go_wp2_with fail
      exact hK.out _ _ ⟨fun zj => if zj = 8 then true else if zj = 9 then true else zB zj, fun zd => if zd = 40 then .agg #[.int .i64 y.1, .int .i64 y.2] else if zd = 39 then .agg #[.int .i64 y.1, .int .i64 y.2] else zS zd, Aq, gq, by simp [hb8], by kernel_rfl, ⟨hF.1, hF.2.1, hF.2.2.1, hF.2.2.2.1, hF.2.2.2.2.1, hF.2.2.2.2.2.1, hF.2.2.2.2.2.2.1, hF.2.2.2.2.2.2.2.1, fun _ => rfl, fun _ => rfl, hF.2.2.2.2.2.2.2.2.2.2.1, hF.2.2.2.2.2.2.2.2.2.2.2.1, hF.2.2.2.2.2.2.2.2.2.2.2.2.1, hF.2.2.2.2.2.2.2.2.2.2.2.2.2.1, hF.2.2.2.2.2.2.2.2.2.2.2.2.2.2.1, hF.2.2.2.2.2.2.2.2.2.2.2.2.2.2.2⟩, ⟨below_step hW.1 hb, fun q => (hW.2.1 q).below hb, fun q => (hW.2.2 q).below hb⟩⟩
    refine StepsI.cons rfl ?_ ?_
    · rintro L zA vv8 ⟨zB, zS, Aq, gq, rfl, rfl, hF, hW⟩ hL hm K hK
      have hb10 : zB 10 = false := by simpa using hL
      have hb0 : zB 0 = true := by cases e : zB 0 with | false => (exfalso; revert hm; simp [metB, Region.binds, e]) | true => rfl
      have hb1 : zB 1 = true := by cases e : zB 1 with | false => (exfalso; revert hm; simp [metB, Region.binds, e]) | true => rfl
      have hb3 : zB 3 = true := by cases e : zB 3 with | false => (exfalso; revert hm; simp [metB, Region.binds, e]) | true => rfl
      have hb5 : zB 5 = true := by cases e : zB 5 with | false => (exfalso; revert hm; simp [metB, Region.binds, e]) | true => rfl
      have hb7 : zB 7 = true := by cases e : zB 7 with | false => (exfalso; revert hm; simp [metB, Region.binds, e]) | true => rfl
      have hb9 : zB 9 = true := by cases e : zB 9 with | false => (exfalso; revert hm; simp [metB, Region.binds, e]) | true => rfl
      have e0 : zS 31 = .int .i64 size := hF.1 hb0
      have e1 : zS 32 = .int .i64 lv := hF.2.1 hb1
      have e3 : zS 34 = .agg #[.slice Aq.a0 S.B.length Aq.c0, .slice Aq.a1 S.V.length Aq.c1, .slice Aq.a2 S.M.length Aq.c2] := hF.2.2.2.1 hb3
      have e5 : zS 36 = .agg #[.int .i64 z, .slice (some ⟨gq, 0, none⟩) l.length l.length] := hF.2.2.2.2.2.1 hb5
      have e7 : zS 38 = .agg #[.int .i64 x.1, .int .i64 x.2] := hF.2.2.2.2.2.2.2.1 hb7
      have e9 : zS 40 = .agg #[.int .i64 y.1, .int .i64 y.2] := hF.2.2.2.2.2.2.2.2.2.1 hb9
      clear hL hm
      rw [hb3] at hW
      rw [hb5] at hW
      simp only [puts, Act.put, List.setIfInBounds_toArray, List.set_cons_zero, List.set_cons_succ]
      simp only [e0, e1, e3, e5, e7, e9]
      go_simp
      refine (sSegSpan_any size lv S Aq z l (some ⟨gq, 0, none⟩) l.length x y _ HM.out (hW.2.1 (by first | rfl | trivial)) (hW.2.2 (by first | rfl | trivial))).mono ?_
      rintro e vv82 ⟨rr9, hsp, rfl, hb⟩
      obtain rfl := HSP.out.one hsp
      clear hsp
      go_wp2_with fail
      exact hK.out _ _ ⟨fun zj => if zj = 9 then true else if zj = 7 then true else if zj = 5 then true else if zj = 3 then true else if zj = 1 then true else if zj = 0 then true else if zj = 10 then true else zB zj, fun zd => if zd = 41 then .tuple #[.int .i64 rq.1, .int .i64 rq.2] else if zd = 40 then .agg #[.int .i64 y.1, .int .i64 y.2] else if zd = 38 then .agg #[.int .i64 x.1, .int .i64 x.2] else if zd = 36 then .agg #[.int .i64 z, .slice (some ⟨gq, 0, none⟩) l.length l.length] else if zd = 34 then .agg #[.slice Aq.a0 S.B.length Aq.c0, .slice Aq.a1 S.V.length Aq.c1, .slice Aq.a2 S.M.length Aq.c2] else if zd = 32 then .int .i64 lv else if zd = 31 then .int .i64 size else zS zd, Aq, gq, by simp [hb0, hb1, hb3, hb5, hb7, hb9], by kernel_rfl, ⟨fun _ => rfl, fun _ => rfl, hF.2.2.1, fun _ => rfl, hF.2.2.2.2.1, fun _ => rfl, hF.2.2.2.2.2.2.1, fun _ => rfl, hF.2.2.2.2.2.2.2.2.1, fun _ => rfl, fun _ => rfl, hF.2.2.2.2.2.2.2.2.2.2.2.1, hF.2.2.2.2.2.2.2.2.2.2.2.2.1, hF.2.2.2.2.2.2.2.2.2.2.2.2.2.1, hF.2.2.2.2.2.2.2.2.2.2.2.2.2.2.1, hF.2.2.2.2.2.2.2.2.2.2.2.2.2.2.2⟩, ⟨below_step hW.1 hb, fun _ => (hW.2.1 (by first | rfl | trivial)).below hb, fun _ => (hW.2.2 (by first | rfl | trivial)).below hb⟩⟩
    refine StepsI.cons rfl ?_ ?_
    · rintro L zA vv8 ⟨zB, zS, Aq, gq, rfl, rfl, hF, hW⟩ hL hm K hK
      have hb11 : zB 11 = false := by simpa using hL
      have hb10 : zB 10 = true := by cases e : zB 10 with | false => (exfalso; revert hm; simp [metB, Region.binds, e]) | true => rfl
      have e10 : zS 41 = .tuple #[.int .i64 rq.1, .int .i64 rq.2] := hF.2.2.2.2.2.2.2.2.2.2.1 hb10
      clear hL hm
      simp only [puts, Act.put, List.setIfInBounds_toArray, List.set_cons_zero, List.set_cons_succ]
      simp only [e10]
      go_simp
      exact hK.out _ _ ⟨fun zj => if zj = 10 then true else if zj = 11 then true else zB zj, fun zd => if zd = 30 then .tuple #[.int .i64 rq.1, .int .i64 rq.2] else if zd = 41 then .tuple #[.int .i64 rq.1, .int .i64 rq.2] else zS zd, Aq, gq, by simp [hb10], by kernel_rfl, ⟨hF.1, hF.2.1, hF.2.2.1, hF.2.2.2.1, hF.2.2.2.2.1, hF.2.2.2.2.2.1, hF.2.2.2.2.2.2.1, hF.2.2.2.2.2.2.2.1, hF.2.2.2.2.2.2.2.2.1, hF.2.2.2.2.2.2.2.2.2.1, fun _ => rfl, fun _ => rfl, hF.2.2.2.2.2.2.2.2.2.2.2.2.1, hF.2.2.2.2.2.2.2.2.2.2.2.2.2.1, hF.2.2.2.2.2.2.2.2.2.2.2.2.2.2.1, hF.2.2.2.2.2.2.2.2.2.2.2.2.2.2.2⟩, hW⟩
    refine StepsI.cons rfl ?_ ?_
    · rintro L zA vv8 ⟨zB, zS, Aq, gq, rfl, rfl, hF, hW⟩ hL hm K hK
      have hb12 : zB 12 = false := by simpa using hL
      have hb11 : zB 11 = true := by cases e : zB 11 with | false => (exfalso; revert hm; simp [metB, Region.binds, e]) | true => rfl
      have e11 : zS 30 = .tuple #[.int .i64 rq.1, .int .i64 rq.2] := hF.2.2.2.2.2.2.2.2.2.2.2.1 hb11
      clear hL hm
      simp only [puts, Act.put, List.setIfInBounds_toArray, List.set_cons_zero, List.set_cons_succ]
      simp only [e11]
      go_simp
      exact hK.out _ _ ⟨fun zj => if zj = 11 then true else if zj = 12 then true else zB zj, fun zd => if zd = 42 then .int .i64 rq.1 else if zd = 30 then .tuple #[.int .i64 rq.1, .int .i64 rq.2] else zS zd, Aq, gq, by simp [hb11], by kernel_rfl, ⟨hF.1, hF.2.1, hF.2.2.1, hF.2.2.2.1, hF.2.2.2.2.1, hF.2.2.2.2.2.1, hF.2.2.2.2.2.2.1, hF.2.2.2.2.2.2.2.1, hF.2.2.2.2.2.2.2.2.1, hF.2.2.2.2.2.2.2.2.2.1, hF.2.2.2.2.2.2.2.2.2.2.1, fun _ => rfl, fun _ => rfl, hF.2.2.2.2.2.2.2.2.2.2.2.2.2.1, hF.2.2.2.2.2.2.2.2.2.2.2.2.2.2.1, hF.2.2.2.2.2.2.2.2.2.2.2.2.2.2.2⟩, hW⟩
    refine StepsI.cons rfl ?_ ?_
    · rintro L zA vv8 ⟨zB, zS, Aq, gq, rfl, rfl, hF, hW⟩ hL hm K hK
      have hb13 : zB 13 = false := by simpa using hL
      have hb11 : zB 11 = true := by cases e : zB 11 with | false => (exfalso; revert hm; simp [metB, Region.binds, e]) | true => rfl
      have e11 : zS 30 = .tuple #[.int .i64 rq.1, .int .i64 rq.2] := hF.2.2.2.2.2.2.2.2.2.2.2.1 hb11
      clear hL hm
      simp only [puts, Act.put, List.setIfInBounds_toArray, List.set_cons_zero, List.set_cons_succ]
      simp only [e11]
      go_simp
      exact hK.out _ _ ⟨fun zj => if zj = 11 then true else if zj = 13 then true else zB zj, fun zd => if zd = 43 then .int .i64 rq.2 else if zd = 30 then .tuple #[.int .i64 rq.1, .int .i64 rq.2] else zS zd, Aq, gq, by simp [hb11], by kernel_rfl, ⟨hF.1, hF.2.1, hF.2.2.1, hF.2.2.2.1, hF.2.2.2.2.1, hF.2.2.2.2.2.1, hF.2.2.2.2.2.2.1, hF.2.2.2.2.2.2.2.1, hF.2.2.2.2.2.2.2.2.1, hF.2.2.2.2.2.2.2.2.2.1, hF.2.2.2.2.2.2.2.2.2.2.1, fun _ => rfl, hF.2.2.2.2.2.2.2.2.2.2.2.2.1, fun _ => rfl, hF.2.2.2.2.2.2.2.2.2.2.2.2.2.2.1, hF.2.2.2.2.2.2.2.2.2.2.2.2.2.2.2⟩, hW⟩
    refine StepsI.cons rfl ?_ ?_
    · rintro L zA vv8 ⟨zB, zS, Aq, gq, rfl, rfl, hF, hW⟩ hL hm K hK
      have hb14 : zB 14 = false := by simpa using hL
      have hb12 : zB 12 = true := by cases e : zB 12 with | false => (exfalso; revert hm; simp [metB, Region.binds, e]) | true => rfl
      have e12 : zS 42 = .int .i64 rq.1 := hF.2.2.2.2.2.2.2.2.2.2.2.2.1 hb12
      clear hL hm
      simp only [puts, Act.put, List.setIfInBounds_toArray, List.set_cons_zero, List.set_cons_succ]
      simp only [e12]
      go_simp
      exact hK.out _ _ ⟨fun zj => if zj = 12 then true else if zj = 14 then true else zB zj, fun zd => if zd = 14 then .int .i64 rq.1 else if zd = 42 then .int .i64 rq.1 else zS zd, Aq, gq, by simp [hb12], by kernel_rfl, ⟨hF.1, hF.2.1, hF.2.2.1, hF.2.2.2.1, hF.2.2.2.2.1, hF.2.2.2.2.2.1, hF.2.2.2.2.2.2.1, hF.2.2.2.2.2.2.2.1, hF.2.2.2.2.2.2.2.2.1, hF.2.2.2.2.2.2.2.2.2.1, hF.2.2.2.2.2.2.2.2.2.2.1, hF.2.2.2.2.2.2.2.2.2.2.2.1, fun _ => rfl, hF.2.2.2.2.2.2.2.2.2.2.2.2.2.1, fun _ => rfl, hF.2.2.2.2.2.2.2.2.2.2.2.2.2.2.2⟩, hW⟩
    refine StepsI.cons rfl ?_ ?_
    · rintro L zA vv8 ⟨zB, zS, Aq, gq, rfl, rfl, hF, hW⟩ hL hm K hK
      have hb15 : zB 15 = false := by simpa using hL
      have hb13 : zB 13 = true := by cases e : zB 13 with | false => (exfalso; revert hm; simp [metB, Region.binds, e]) | true => rfl
      have e13 : zS 43 = .int .i64 rq.2 := hF.2.2.2.2.2.2.2.2.2.2.2.2.2.1 hb13
      clear hL hm
      simp only [puts, Act.put, List.setIfInBounds_toArray, List.set_cons_zero, List.set_cons_succ]
      simp only [e13]
      go_simp
      exact hK.out _ _ ⟨fun zj => if zj = 13 then true else if zj = 15 then true else zB zj, fun zd => if zd = 15 then .int .i64 rq.2 else if zd = 43 then .int .i64 rq.2 else zS zd, Aq, gq, by simp [hb13], by kernel_rfl, ⟨hF.1, hF.2.1, hF.2.2.1, hF.2.2.2.1, hF.2.2.2.2.1, hF.2.2.2.2.2.1, hF.2.2.2.2.2.2.1, hF.2.2.2.2.2.2.2.1, hF.2.2.2.2.2.2.2.2.1, hF.2.2.2.2.2.2.2.2.2.1, hF.2.2.2.2.2.2.2.2.2.2.1, hF.2.2.2.2.2.2.2.2.2.2.2.1, hF.2.2.2.2.2.2.2.2.2.2.2.2.1, fun _ => rfl, hF.2.2.2.2.2.2.2.2.2.2.2.2.2.2.1, fun _ => rfl⟩, hW⟩
    exact StepsI.nil (by kernel_rfl)
  · rintro L zA vv8 ⟨zB, zS, Aq, gq, rfl, rfl, hF, hW⟩ hr
    have hu := all_up (by kernel_rfl) (N := 16) (by kernel_rfl) hr
    have hb0 : zB 0 = true := by simpa using hu 0 (by decide)
    have hb1 : zB 1 = true := by simpa using hu 1 (by decide)
    have hb2 : zB 2 = true := by simpa using hu 2 (by decide)
    have hb3 : zB 3 = true := by simpa using hu 3 (by decide)
    have hb4 : zB 4 = true := by simpa using hu 4 (by decide)
    have hb5 : zB 5 = true := by simpa using hu 5 (by decide)
    have hb6 : zB 6 = true := by simpa using hu 6 (by decide)
    have hb7 : zB 7 = true := by simpa using hu 7 (by decide)
    have hb8 : zB 8 = true := by simpa using hu 8 (by decide)
    have hb9 : zB 9 = true := by simpa using hu 9 (by decide)
    have hb10 : zB 10 = true := by simpa using hu 10 (by decide)
    have hb11 : zB 11 = true := by simpa using hu 11 (by decide)
    have hb12 : zB 12 = true := by simpa using hu 12 (by decide)
    have hb13 : zB 13 = true := by simpa using hu 13 (by decide)
    have hb14 : zB 14 = true := by simpa using hu 14 (by decide)
    have hb15 : zB 15 = true := by simpa using hu 15 (by decide)
    have e0 : zS 31 = .int .i64 size := hF.1 hb0
    have e1 : zS 32 = .int .i64 lv := hF.2.1 hb1
    have e2 : zS 33 = .agg #[.slice A.a0 S.B.length A.c0, .slice A.a1 S.V.length A.c1, .slice A.a2 S.M.length A.c2] := hF.2.2.1 hb2
    have e3 : zS 34 = .agg #[.slice Aq.a0 S.B.length Aq.c0, .slice Aq.a1 S.V.length Aq.c1, .slice Aq.a2 S.M.length Aq.c2] := hF.2.2.2.1 hb3
    have e4 : zS 35 = .agg #[.int .i64 z, .slice a l.length c] := hF.2.2.2.2.1 hb4
    have e5 : zS 36 = .agg #[.int .i64 z, .slice (some ⟨gq, 0, none⟩) l.length l.length] := hF.2.2.2.2.2.1 hb5
    have e6 : zS 37 = .agg #[.int .i64 x.1, .int .i64 x.2] := hF.2.2.2.2.2.2.1 hb6
    have e7 : zS 38 = .agg #[.int .i64 x.1, .int .i64 x.2] := hF.2.2.2.2.2.2.2.1 hb7
    have e8 : zS 39 = .agg #[.int .i64 y.1, .int .i64 y.2] := hF.2.2.2.2.2.2.2.2.1 hb8
    have e9 : zS 40 = .agg #[.int .i64 y.1, .int .i64 y.2] := hF.2.2.2.2.2.2.2.2.2.1 hb9
    have e10 : zS 41 = .tuple #[.int .i64 rq.1, .int .i64 rq.2] := hF.2.2.2.2.2.2.2.2.2.2.1 hb10
    have e11 : zS 30 = .tuple #[.int .i64 rq.1, .int .i64 rq.2] := hF.2.2.2.2.2.2.2.2.2.2.2.1 hb11
    have e12 : zS 42 = .int .i64 rq.1 := hF.2.2.2.2.2.2.2.2.2.2.2.2.1 hb12
    have e13 : zS 43 = .int .i64 rq.2 := hF.2.2.2.2.2.2.2.2.2.2.2.2.2.1 hb13
    have e14 : zS 14 = .int .i64 rq.1 := hF.2.2.2.2.2.2.2.2.2.2.2.2.2.2.1 hb14
    have e15 : zS 15 = .int .i64 rq.2 := hF.2.2.2.2.2.2.2.2.2.2.2.2.2.2.2 hb15
    rw [hb3] at hW
    rw [hb5] at hW
    clear hu hr hF
    simp only [puts, Act.put, List.setIfInBounds_toArray, List.set_cons_zero, List.set_cons_succ]
    simp only [e0, e1, e2, e3, e4, e5, e6, e7, e8, e9, e10, e11, e12, e13, e14, e15]
    clear e0 e1 e2 e3 e4 e5 e6 e7 e8 e9 e10 e11 e12 e13 e14 e15
    clear hb0 hb1 hb2 hb3 hb4 hb5 hb6 hb7 hb8 hb9 hb10 hb11 hb12 hb13 hb14 hb15
    clear zB zS
    have hb := hW.1
    have n0 := mkHid (hW.2.1 (by first | rfl | trivial))
    have n1 := mkHid (hW.2.2 (by first | rfl | trivial))
    have BE := mkHid (below_step BE.out hb)
    have FS0 := mkHid (FS0.out.below hb)
    have FF0 := mkHid (FF0.out.below hb)
    have FYx := mkHid (FYx.out.below hb)
    have FYy := mkHid (FYy.out.below hb)
    have LS := mkHid (LS.out.below hb)
    have LF := mkHid (LF.out.below hb)
    clear hb hW
    clear cFS0 cFF0 cFYx cFYy
    clear n0 n1
    obtain ⟨k0, k1, k2, _, _, _⟩ := FS0.out
    go_wp2_with fail
    refine (toSeg_any S A _ HM.out.b HM.out.t HM.out.v HM.out.m LS.out).mono ?_
    rintro e wa ⟨Ax, rfl, ho, hb⟩
    have BE := mkHid (below_step BE.out hb)
    have FS0 := mkHid (FS0.out.below hb)
    have FF0 := mkHid (FF0.out.below hb)
    have FYx := mkHid (FYx.out.below hb)
    have FYy := mkHid (FYy.out.below hb)
    have LS := mkHid (LS.out.below hb)
    have LF := mkHid (LF.out.below hb)
    have LX := mkHid ho.at
    clear ho hb k0 k1 k2
    obtain ⟨X16, hX16⟩ : ∃ x, wa.heap.size = x := ⟨_, rfl⟩
    obtain ⟨w4, hw4⟩ : ∃ x : World, wa.alloc (.cells #[.slice Ax.a0 S.B.length Ax.c0, .slice Ax.a1 S.V.length Ax.c1, .slice Ax.a2 S.M.length Ax.c2] 35) = x := ⟨_, rfl⟩
    have hb : Below wa.heap.size wa w4 := by rw [← hw4]; exact bl_alloc (Below.refl _ _) _
    have BE := mkHid (below_step BE.out hb)
    have FS0 := mkHid (FS0.out.below hb)
    have FF0 := mkHid (FF0.out.below hb)
    have FYx := mkHid (FYx.out.below hb)
    have FYy := mkHid (FYy.out.below hb)
    have LS := mkHid (LS.out.below hb)
    have LF := mkHid (LF.out.below hb)
    have LX := mkHid (LX.out.below hb)
    have FS16 : Hid (G3 w4 X16 (.slice Ax.a0 S.B.length Ax.c0) (.slice Ax.a1 S.V.length Ax.c1) (.slice Ax.a2 S.M.length Ax.c2)) := mkHid (by rw [← hw4, ← hX16]; exact G3.new _ _ _ _ 35)
    clear hb
    obtain ⟨k0, k1⟩ := FF0.out
    go_wp2_with fail
    first | rw [hw4] | skip
    first | rw [hX16] | skip
    clear hw4 hX16
    refine (Q.toFacts_any z l a c _ HLN.out LF.out).mono ?_
    rintro e wb ⟨gx, rfl, ho, hb⟩
    have BE := mkHid (below_step BE.out hb)
    have FS0 := mkHid (FS0.out.below hb)
    have FF0 := mkHid (FF0.out.below hb)
    have FYx := mkHid (FYx.out.below hb)
    have FYy := mkHid (FYy.out.below hb)
    have LS := mkHid (LS.out.below hb)
    have LF := mkHid (LF.out.below hb)
    have LX := mkHid (LX.out.below hb)
    have FS16 := mkHid (FS16.out.below hb)
    have LG := mkHid ho.at
    clear ho hb k0 k1
    obtain ⟨X17, hX17⟩ : ∃ x, wb.heap.size = x := ⟨_, rfl⟩
    obtain ⟨w5, hw5⟩ : ∃ x : World, wb.alloc (.cells #[.int .i64 z, .slice (some ⟨gx, 0, none⟩) l.length l.length] 38) = x := ⟨_, rfl⟩
    have hb : Below wb.heap.size wb w5 := by rw [← hw5]; exact bl_alloc (Below.refl _ _) _
    have BE := mkHid (below_step BE.out hb)
    have FS0 := mkHid (FS0.out.below hb)
    have FF0 := mkHid (FF0.out.below hb)
    have FYx := mkHid (FYx.out.below hb)
    have FYy := mkHid (FYy.out.below hb)
    have LS := mkHid (LS.out.below hb)
    have LF := mkHid (LF.out.below hb)
    have LX := mkHid (LX.out.below hb)
    have FS16 := mkHid (FS16.out.below hb)
    have LG := mkHid (LG.out.below hb)
    have FF17 : Hid (Q.Fc w5 X17 z (some ⟨gx, 0, none⟩) l.length l.length) := mkHid (by rw [← hw5, ← hX17]; exact Q.Fc.new _ _ _ _ _ 38)
    clear hb
    have cFS0 : ∀ v', Below w5.heap.size w5 v' → G3 v' (X) (.slice A.a0 S.B.length A.c0) (.slice A.a1 S.V.length A.c1) (.slice A.a2 S.M.length A.c2) := fun v' h => FS0.out.below h
    have cFF0 : ∀ v', Below w5.heap.size w5 v' → Q.Fc v' (X + 1) z a l.length (c) := fun v' h => FF0.out.below h
    have cFYx : ∀ v', Below w5.heap.size w5 v' → Box v' (X + 2) (x.1) (x.2) := fun v' h => FYx.out.below h
    have cFYy : ∀ v', Below w5.heap.size w5 v' → Box v' (X + 3) (y.1) (y.2) := fun v' h => FYy.out.below h
    have cFS16 : ∀ v', Below w5.heap.size w5 v' → G3 v' (X16) (.slice Ax.a0 S.B.length Ax.c0) (.slice Ax.a1 S.V.length Ax.c1) (.slice Ax.a2 S.M.length Ax.c2) := fun v' h => FS16.out.below h
    have cFF17 : ∀ v', Below w5.heap.size w5 v' → Q.Fc v' (X17) z (some ⟨gx, 0, none⟩) l.length (l.length) := fun v' h => FF17.out.below h
    go_wp2_with fail
    first | rw [hw5] | skip
    first | rw [hX17] | skip
    clear hw5 hX17
    refine wp_region_inv2 (fun zA0 L zA vv11 => ∃ (zB : Nat → Bool) (zS : Nat → Value), L = #[zB 0, zB 1, zB 2, zB 3, zB 4, zB 5, zB 6, zB 7, zB 8, zB 9, zB 10, zB 11, zB 12, zB 13] ∧ zA = puts zA0 [(49, zS 49), (50, zS 50), (51, zS 51), (52, zS 52), (53, zS 53), (54, zS 54), (55, zS 55), (56, zS 56), (57, zS 57), (48, zS 48), (58, zS 58), (59, zS 59), (18, zS 18), (19, zS 19)] ∧ ((zB 0 = true → zS 49 = .int .i64 size) ∧ (zB 1 = true → zS 50 = .int .i64 lv) ∧ (zB 2 = true → zS 51 = .agg #[.slice Ax.a0 S.B.length Ax.c0, .slice Ax.a1 S.V.length Ax.c1, .slice Ax.a2 S.M.length Ax.c2]) ∧ (zB 3 = true → zS 52 = .agg #[.int .i64 z, .slice (some ⟨gx, 0, none⟩) l.length l.length]) ∧ (zB 4 = true → zS 53 = .agg #[.int .i64 x.1, .int .i64 x.2]) ∧ (zB 5 = true → zS 54 = .agg #[.int .i64 x.1, .int .i64 x.2]) ∧ (zB 6 = true → zS 55 = .agg #[.int .i64 y.1, .int .i64 y.2]) ∧ (zB 7 = true → zS 56 = .agg #[.int .i64 y.1, .int .i64 y.2]) ∧ (zB 8 = true → zS 57 = .tuple #[.int .i64 rq.1, .int .i64 rq.2]) ∧ (zB 9 = true → zS 48 = .tuple #[.int .i64 rq.1, .int .i64 rq.2]) ∧ (zB 10 = true → zS 58 = .int .i64 rq.1) ∧ (zB 11 = true → zS 59 = .int .i64 rq.2) ∧ (zB 12 = true → zS 18 = .int .i64 rq.1) ∧ (zB 13 = true → zS 19 = .int .i64 rq.2)) ∧ Below w5.heap.size w5 vv11 ∧ True) (by kernel_rfl) ?_ ?_ ?_
    · exact ⟨fun _ => false, fun _ => undef, rfl, by kernel_rfl, ⟨fun e => ft e, fun e => ft e, fun e => ft e, fun e => ft e, fun e => ft e, fun e => ft e, fun e => ft e, fun e => ft e, fun e => ft e, fun e => ft e, fun e => ft e, fun e => ft e, fun e => ft e, fun e => ft e⟩, ⟨(Below.refl _ _).drew, trivial⟩⟩
    · refine StepsI.cons rfl ?_ ?_
      · rintro L zA vv11 ⟨zB, zS, rfl, rfl, hF, hW⟩ hL hm K hK
        have hb0 : zB 0 = false := by simpa using hL
        clear hL hm
        simp only [puts, Act.put, List.setIfInBounds_toArray, List.set_cons_zero, List.set_cons_succ]
        go_simp
        exact hK.out _ _ ⟨fun zj => if zj = 0 then true else zB zj, fun zd => if zd = 49 then .int .i64 size else zS zd, rfl, by kernel_rfl, ⟨fun _ => rfl, hF.2.1, hF.2.2.1, hF.2.2.2.1, hF.2.2.2.2.1, hF.2.2.2.2.2.1, hF.2.2.2.2.2.2.1, hF.2.2.2.2.2.2.2.1, hF.2.2.2.2.2.2.2.2.1, hF.2.2.2.2.2.2.2.2.2.1, hF.2.2.2.2.2.2.2.2.2.2.1, hF.2.2.2.2.2.2.2.2.2.2.2.1, hF.2.2.2.2.2.2.2.2.2.2.2.2.1, hF.2.2.2.2.2.2.2.2.2.2.2.2.2⟩, hW⟩
      refine StepsI.cons rfl ?_ ?_
      · rintro L zA vv11 ⟨zB, zS, rfl, rfl, hF, hW⟩ hL hm K hK
        have hb1 : zB 1 = false := by simpa using hL
        clear hL hm
        simp only [puts, Act.put, List.setIfInBounds_toArray, List.set_cons_zero, List.set_cons_succ]
        go_simp
        exact hK.out _ _ ⟨fun zj => if zj = 1 then true else zB zj, fun zd => if zd = 50 then .int .i64 lv else zS zd, rfl, by kernel_rfl, ⟨hF.1, fun _ => rfl, hF.2.2.1, hF.2.2.2.1, hF.2.2.2.2.1, hF.2.2.2.2.2.1, hF.2.2.2.2.2.2.1, hF.2.2.2.2.2.2.2.1, hF.2.2.2.2.2.2.2.2.1, hF.2.2.2.2.2.2.2.2.2.1, hF.2.2.2.2.2.2.2.2.2.2.1, hF.2.2.2.2.2.2.2.2.2.2.2.1, hF.2.2.2.2.2.2.2.2.2.2.2.2.1, hF.2.2.2.2.2.2.2.2.2.2.2.2.2⟩, hW⟩
      refine StepsI.cons rfl ?_ ?_
      · rintro L zA vv11 ⟨zB, zS, rfl, rfl, hF, hW⟩ hL hm K hK
        have hb2 : zB 2 = false := by simpa using hL
        clear hL hm
        simp only [puts, Act.put, List.setIfInBounds_toArray, List.set_cons_zero, List.set_cons_succ]
        obtain ⟨k0, k1, k2, _, _, _⟩ := cFS16 _ hW.1
        go_simp
        exact hK.out _ _ ⟨fun zj => if zj = 2 then true else zB zj, fun zd => if zd = 51 then .agg #[.slice Ax.a0 S.B.length Ax.c0, .slice Ax.a1 S.V.length Ax.c1, .slice Ax.a2 S.M.length Ax.c2] else zS zd, rfl, by kernel_rfl, ⟨hF.1, hF.2.1, fun _ => rfl, hF.2.2.2.1, hF.2.2.2.2.1, hF.2.2.2.2.2.1, hF.2.2.2.2.2.2.1, hF.2.2.2.2.2.2.2.1, hF.2.2.2.2.2.2.2.2.1, hF.2.2.2.2.2.2.2.2.2.1, hF.2.2.2.2.2.2.2.2.2.2.1, hF.2.2.2.2.2.2.2.2.2.2.2.1, hF.2.2.2.2.2.2.2.2.2.2.2.2.1, hF.2.2.2.2.2.2.2.2.2.2.2.2.2⟩, hW⟩
      refine StepsI.cons rfl ?_ ?_
      · rintro L zA vv11 ⟨zB, zS, rfl, rfl, hF, hW⟩ hL hm K hK
        have hb3 : zB 3 = false := by simpa using hL
        clear hL hm
        simp only [puts, Act.put, List.setIfInBounds_toArray, List.set_cons_zero, List.set_cons_succ]
        obtain ⟨k0, k1⟩ := cFF17 _ hW.1
        go_simp
        exact hK.out _ _ ⟨fun zj => if zj = 3 then true else zB zj, fun zd => if zd = 52 then .agg #[.int .i64 z, .slice (some ⟨gx, 0, none⟩) l.length l.length] else zS zd, rfl, by kernel_rfl, ⟨hF.1, hF.2.1, hF.2.2.1, fun _ => rfl, hF.2.2.2.2.1, hF.2.2.2.2.2.1, hF.2.2.2.2.2.2.1, hF.2.2.2.2.2.2.2.1, hF.2.2.2.2.2.2.2.2.1, hF.2.2.2.2.2.2.2.2.2.1, hF.2.2.2.2.2.2.2.2.2.2.1, hF.2.2.2.2.2.2.2.2.2.2.2.1, hF.2.2.2.2.2.2.2.2.2.2.2.2.1, hF.2.2.2.2.2.2.2.2.2.2.2.2.2⟩, hW⟩
      refine StepsI.cons rfl ?_ ?_
      · rintro L zA vv11 ⟨zB, zS, rfl, rfl, hF, hW⟩ hL hm K hK
        have hb4 : zB 4 = false := by simpa using hL
        clear hL hm
        simp only [puts, Act.put, List.setIfInBounds_toArray, List.set_cons_zero, List.set_cons_succ]
        obtain ⟨k0, k1, _, _⟩ := cFYx _ hW.1
        go_simp
        exact hK.out _ _ ⟨fun zj => if zj = 4 then true else zB zj, fun zd => if zd = 53 then .agg #[.int .i64 x.1, .int .i64 x.2] else zS zd, rfl, by kernel_rfl, ⟨hF.1, hF.2.1, hF.2.2.1, hF.2.2.2.1, fun _ => rfl, hF.2.2.2.2.2.1, hF.2.2.2.2.2.2.1, hF.2.2.2.2.2.2.2.1, hF.2.2.2.2.2.2.2.2.1, hF.2.2.2.2.2.2.2.2.2.1, hF.2.2.2.2.2.2.2.2.2.2.1, hF.2.2.2.2.2.2.2.2.2.2.2.1, hF.2.2.2.2.2.2.2.2.2.2.2.2.1, hF.2.2.2.2.2.2.2.2.2.2.2.2.2⟩, hW⟩
      refine StepsI.cons rfl ?_ ?_
      · rintro L zA vv11 ⟨zB, zS, rfl, rfl, hF, hW⟩ hL hm K hK
        have hb5 : zB 5 = false := by simpa using hL
        have hb4 : zB 4 = true := by cases e : zB 4 with | false => (exfalso; revert hm; simp [metB, Region.binds, e]) | true => rfl
        have e4 : zS 53 = .agg #[.int .i64 x.1, .int .i64 x.2] := hF.2.2.2.2.1 hb4
        clear hL hm
        simp only [puts, Act.put, List.setIfInBounds_toArray, List.set_cons_zero, List.set_cons_succ]
        simp only [e4]
        go_simp
        refine (toSym_any x.1 x.2 _).mono ?_
        rintro e vv112 ⟨rfl, hb⟩
        go_wp2_with fail
        exact hK.out _ _ ⟨fun zj => if zj = 4 then true else if zj = 5 then true else zB zj, fun zd => if zd = 54 then .agg #[.int .i64 x.1, .int .i64 x.2] else if zd = 53 then .agg #[.int .i64 x.1, .int .i64 x.2] else zS zd, by simp [hb4], by kernel_rfl, ⟨hF.1, hF.2.1, hF.2.2.1, hF.2.2.2.1, fun _ => rfl, fun _ => rfl, hF.2.2.2.2.2.2.1, hF.2.2.2.2.2.2.2.1, hF.2.2.2.2.2.2.2.2.1, hF.2.2.2.2.2.2.2.2.2.1, hF.2.2.2.2.2.2.2.2.2.2.1, hF.2.2.2.2.2.2.2.2.2.2.2.1, hF.2.2.2.2.2.2.2.2.2.2.2.2.1, hF.2.2.2.2.2.2.2.2.2.2.2.2.2⟩, ⟨below_step hW.1 hb, trivial⟩⟩
      refine StepsI.cons rfl ?_ ?_
      · rintro L zA vv11 ⟨zB, zS, rfl, rfl, hF, hW⟩ hL hm K hK
        have hb6 : zB 6 = false := by simpa using hL
        clear hL hm
        simp only [puts, Act.put, List.setIfInBounds_toArray, List.set_cons_zero, List.set_cons_succ]
        obtain ⟨k0, k1, _, _⟩ := cFYy _ hW.1
        go_simp
        exact hK.out _ _ ⟨fun zj => if zj = 6 then true else zB zj, fun zd => if zd = 55 then .agg #[.int .i64 y.1, .int .i64 y.2] else zS zd, rfl, by kernel_rfl, ⟨hF.1, hF.2.1, hF.2.2.1, hF.2.2.2.1, hF.2.2.2.2.1, hF.2.2.2.2.2.1, fun _ => rfl, hF.2.2.2.2.2.2.2.1, hF.2.2.2.2.2.2.2.2.1, hF.2.2.2.2.2.2.2.2.2.1, hF.2.2.2.2.2.2.2.2.2.2.1, hF.2.2.2.2.2.2.2.2.2.2.2.1, hF.2.2.2.2.2.2.2.2.2.2.2.2.1, hF.2.2.2.2.2.2.2.2.2.2.2.2.2⟩, hW⟩
      refine StepsI.cons rfl ?_ ?_
      · rintro L zA vv11 ⟨zB, zS, rfl, rfl, hF, hW⟩ hL hm K hK
        have hb7 : zB 7 = false := by simpa using hL
        have hb6 : zB 6 = true := by cases e : zB 6 with | false => (exfalso; revert hm; simp [metB, Region.binds, e]) | true => rfl
        have e6 : zS 55 = .agg #[.int .i64 y.1, .int .i64 y.2] := hF.2.2.2.2.2.2.1 hb6
        clear hL hm
        simp only [puts, Act.put, List.setIfInBounds_toArray, List.set_cons_zero, List.set_cons_succ]
        simp only [e6]
        go_simp
        refine (toSym_any y.1 y.2 _).mono ?_
        rintro e vv112 ⟨rfl, hb⟩
        go_wp2_with fail
        exact hK.out _ _ ⟨fun zj => if zj = 6 then true else if zj = 7 then true else zB zj, fun zd => if zd = 56 then .agg #[.int .i64 y.1, .int .i64 y.2] else if zd = 55 then .agg #[.int .i64 y.1, .int .i64 y.2] else zS zd, by simp [hb6], by kernel_rfl, ⟨hF.1, hF.2.1, hF.2.2.1, hF.2.2.2.1, hF.2.2.2.2.1, hF.2.2.2.2.2.1, fun _ => rfl, fun _ => rfl, hF.2.2.2.2.2.2.2.2.1, hF.2.2.2.2.2.2.2.2.2.1, hF.2.2.2.2.2.2.2.2.2.2.1, hF.2.2.2.2.2.2.2.2.2.2.2.1, hF.2.2.2.2.2.2.2.2.2.2.2.2.1, hF.2.2.2.2.2.2.2.2.2.2.2.2.2⟩, ⟨below_step hW.1 hb, trivial⟩⟩
      refine StepsI.cons rfl ?_ ?_
      · rintro L zA vv11 ⟨zB, zS, rfl, rfl, hF, hW⟩ hL hm K hK
        have hb8 : zB 8 = false := by simpa using hL
        have hb0 : zB 0 = true := by cases e : zB 0 with | false => (exfalso; revert hm; simp [metB, Region.binds, e]) | true => rfl
        have hb1 : zB 1 = true := by cases e : zB 1 with | false => (exfalso; revert hm; simp [metB, Region.binds, e]) | true => rfl
        have hb2 : zB 2 = true := by cases e : zB 2 with | false => (exfalso; revert hm; simp [metB, Region.binds, e]) | true => rfl
        have hb3 : zB 3 = true := by cases e : zB 3 with | false => (exfalso; revert hm; simp [metB, Region.binds, e]) | true => rfl
        have hb5 : zB 5 = true := by cases e : zB 5 with | false => (exfalso; revert hm; simp [metB, Region.binds, e]) | true => rfl
        have hb7 : zB 7 = true := by cases e : zB 7 with | false => (exfalso; revert hm; simp [metB, Region.binds, e]) | true => rfl
        have e0 : zS 49 = .int .i64 size := hF.1 hb0
        have e1 : zS 50 = .int .i64 lv := hF.2.1 hb1
        have e2 : zS 51 = .agg #[.slice Ax.a0 S.B.length Ax.c0, .slice Ax.a1 S.V.length Ax.c1, .slice Ax.a2 S.M.length Ax.c2] := hF.2.2.1 hb2
        have e3 : zS 52 = .agg #[.int .i64 z, .slice (some ⟨gx, 0, none⟩) l.length l.length] := hF.2.2.2.1 hb3
        have e5 : zS 54 = .agg #[.int .i64 x.1, .int .i64 x.2] := hF.2.2.2.2.2.1 hb5
        have e7 : zS 56 = .agg #[.int .i64 y.1, .int .i64 y.2] := hF.2.2.2.2.2.2.2.1 hb7
        clear hL hm
        simp only [puts, Act.put, List.setIfInBounds_toArray, List.set_cons_zero, List.set_cons_succ]
        simp only [e0, e1, e2, e3, e5, e7]
        go_simp
        refine (iSegSpan_any size lv S Ax z l (some ⟨gx, 0, none⟩) l.length x y _ HM.out (LX.out.below hW.1) (Nat.le_refl _) (LG.out.below hW.1)).mono ?_
        rintro e vv112 ⟨rr9, hsp, rfl, hb⟩
        obtain rfl := HSP.out.one hsp
        clear hsp
        go_wp2_with fail
        exact hK.out _ _ ⟨fun zj => if zj = 7 then true else if zj = 5 then true else if zj = 3 then true else if zj = 2 then true else if zj = 1 then true else if zj = 0 then true else if zj = 8 then true else zB zj, fun zd => if zd = 57 then .tuple #[.int .i64 rq.1, .int .i64 rq.2] else if zd = 56 then .agg #[.int .i64 y.1, .int .i64 y.2] else if zd = 54 then .agg #[.int .i64 x.1, .int .i64 x.2] else if zd = 52 then .agg #[.int .i64 z, .slice (some ⟨gx, 0, none⟩) l.length l.length] else if zd = 51 then .agg #[.slice Ax.a0 S.B.length Ax.c0, .slice Ax.a1 S.V.length Ax.c1, .slice Ax.a2 S.M.length Ax.c2] else if zd = 50 then .int .i64 lv else if zd = 49 then .int .i64 size else zS zd, by simp [hb0, hb1, hb2, hb3, hb5, hb7], by kernel_rfl, ⟨fun _ => rfl, fun _ => rfl, fun _ => rfl, fun _ => rfl, hF.2.2.2.2.1, fun _ => rfl, hF.2.2.2.2.2.2.1, fun _ => rfl, fun _ => rfl, hF.2.2.2.2.2.2.2.2.2.1, hF.2.2.2.2.2.2.2.2.2.2.1, hF.2.2.2.2.2.2.2.2.2.2.2.1, hF.2.2.2.2.2.2.2.2.2.2.2.2.1, hF.2.2.2.2.2.2.2.2.2.2.2.2.2⟩, ⟨below_step hW.1 hb, trivial⟩⟩
      refine StepsI.cons rfl ?_ ?_
      · rintro L zA vv11 ⟨zB, zS, rfl, rfl, hF, hW⟩ hL hm K hK
        have hb9 : zB 9 = false := by simpa using hL
        have hb8 : zB 8 = true := by cases e : zB 8 with | false => (exfalso; revert hm; simp [metB, Region.binds, e]) | true => rfl
        have e8 : zS 57 = .tuple #[.int .i64 rq.1, .int .i64 rq.2] := hF.2.2.2.2.2.2.2.2.1 hb8
        clear hL hm
        simp only [puts, Act.put, List.setIfInBounds_toArray, List.set_cons_zero, List.set_cons_succ]
        simp only [e8]
        go_simp
        exact hK.out _ _ ⟨fun zj => if zj = 8 then true else if zj = 9 then true else zB zj, fun zd => if zd = 48 then .tuple #[.int .i64 rq.1, .int .i64 rq.2] else if zd = 57 then .tuple #[.int .i64 rq.1, .int .i64 rq.2] else zS zd, by simp [hb8], by kernel_rfl, ⟨hF.1, hF.2.1, hF.2.2.1, hF.2.2.2.1, hF.2.2.2.2.1, hF.2.2.2.2.2.1, hF.2.2.2.2.2.2.1, hF.2.2.2.2.2.2.2.1, fun _ => rfl, fun _ => rfl, hF.2.2.2.2.2.2.2.2.2.2.1, hF.2.2.2.2.2.2.2.2.2.2.2.1, hF.2.2.2.2.2.2.2.2.2.2.2.2.1, hF.2.2.2.2.2.2.2.2.2.2.2.2.2⟩, hW⟩
      refine StepsI.cons rfl ?_ ?_
      · rintro L zA vv11 ⟨zB, zS, rfl, rfl, hF, hW⟩ hL hm K hK
        have hb10 : zB 10 = false := by simpa using hL
        have hb9 : zB 9 = true := by cases e : zB 9 with | false => (exfalso; revert hm; simp [metB, Region.binds, e]) | true => rfl
        have e9 : zS 48 = .tuple #[.int .i64 rq.1, .int .i64 rq.2] := hF.2.2.2.2.2.2.2.2.2.1 hb9
        clear hL hm
        simp only [puts, Act.put, List.setIfInBounds_toArray, List.set_cons_zero, List.set_cons_succ]
        simp only [e9]
        go_simp
        exact hK.out _ _ ⟨fun zj => if zj = 9 then true else if zj = 10 then true else zB zj, fun zd => if zd = 58 then .int .i64 rq.1 else if zd = 48 then .tuple #[.int .i64 rq.1, .int .i64 rq.2] else zS zd, by simp [hb9], by kernel_rfl, ⟨hF.1, hF.2.1, hF.2.2.1, hF.2.2.2.1, hF.2.2.2.2.1, hF.2.2.2.2.2.1, hF.2.2.2.2.2.2.1, hF.2.2.2.2.2.2.2.1, hF.2.2.2.2.2.2.2.2.1, fun _ => rfl, fun _ => rfl, hF.2.2.2.2.2.2.2.2.2.2.2.1, hF.2.2.2.2.2.2.2.2.2.2.2.2.1, hF.2.2.2.2.2.2.2.2.2.2.2.2.2⟩, hW⟩
      refine StepsI.cons rfl ?_ ?_
      · rintro L zA vv11 ⟨zB, zS, rfl, rfl, hF, hW⟩ hL hm K hK
        have hb11 : zB 11 = false := by simpa using hL
        have hb9 : zB 9 = true := by cases e : zB 9 with | false => (exfalso; revert hm; simp [metB, Region.binds, e]) | true => rfl
        have e9 : zS 48 = .tuple #[.int .i64 rq.1, .int .i64 rq.2] := hF.2.2.2.2.2.2.2.2.2.1 hb9
        clear hL hm
        simp only [puts, Act.put, List.setIfInBounds_toArray, List.set_cons_zero, List.set_cons_succ]
        simp only [e9]
        go_simp
        exact hK.out _ _ ⟨fun zj => if zj = 9 then true else if zj = 11 then true else zB zj, fun zd => if zd = 59 then .int .i64 rq.2 else if zd = 48 then .tuple #[.int .i64 rq.1, .int .i64 rq.2] else zS zd, by simp [hb9], by kernel_rfl, ⟨hF.1, hF.2.1, hF.2.2.1, hF.2.2.2.1, hF.2.2.2.2.1, hF.2.2.2.2.2.1, hF.2.2.2.2.2.2.1, hF.2.2.2.2.2.2.2.1, hF.2.2.2.2.2.2.2.2.1, fun _ => rfl, hF.2.2.2.2.2.2.2.2.2.2.1, fun _ => rfl, hF.2.2.2.2.2.2.2.2.2.2.2.2.1, hF.2.2.2.2.2.2.2.2.2.2.2.2.2⟩, hW⟩
      refine StepsI.cons rfl ?_ ?_
      · rintro L zA vv11 ⟨zB, zS, rfl, rfl, hF, hW⟩ hL hm K hK
        have hb12 : zB 12 = false := by simpa using hL
        have hb10 : zB 10 = true := by cases e : zB 10 with | false => (exfalso; revert hm; simp [metB, Region.binds, e]) | true => rfl
        have e10 : zS 58 = .int .i64 rq.1 := hF.2.2.2.2.2.2.2.2.2.2.1 hb10
        clear hL hm
        simp only [puts, Act.put, List.setIfInBounds_toArray, List.set_cons_zero, List.set_cons_succ]
        simp only [e10]
        go_simp
        exact hK.out _ _ ⟨fun zj => if zj = 10 then true else if zj = 12 then true else zB zj, fun zd => if zd = 18 then .int .i64 rq.1 else if zd = 58 then .int .i64 rq.1 else zS zd, by simp [hb10], by kernel_rfl, ⟨hF.1, hF.2.1, hF.2.2.1, hF.2.2.2.1, hF.2.2.2.2.1, hF.2.2.2.2.2.1, hF.2.2.2.2.2.2.1, hF.2.2.2.2.2.2.2.1, hF.2.2.2.2.2.2.2.2.1, hF.2.2.2.2.2.2.2.2.2.1, fun _ => rfl, hF.2.2.2.2.2.2.2.2.2.2.2.1, fun _ => rfl, hF.2.2.2.2.2.2.2.2.2.2.2.2.2⟩, hW⟩
      refine StepsI.cons rfl ?_ ?_
      · rintro L zA vv11 ⟨zB, zS, rfl, rfl, hF, hW⟩ hL hm K hK
        have hb13 : zB 13 = false := by simpa using hL
        have hb11 : zB 11 = true := by cases e : zB 11 with | false => (exfalso; revert hm; simp [metB, Region.binds, e]) | true => rfl
        have e11 : zS 59 = .int .i64 rq.2 := hF.2.2.2.2.2.2.2.2.2.2.2.1 hb11
        clear hL hm
        simp only [puts, Act.put, List.setIfInBounds_toArray, List.set_cons_zero, List.set_cons_succ]
        simp only [e11]
        go_simp
        exact hK.out _ _ ⟨fun zj => if zj = 11 then true else if zj = 13 then true else zB zj, fun zd => if zd = 19 then .int .i64 rq.2 else if zd = 59 then .int .i64 rq.2 else zS zd, by simp [hb11], by kernel_rfl, ⟨hF.1, hF.2.1, hF.2.2.1, hF.2.2.2.1, hF.2.2.2.2.1, hF.2.2.2.2.2.1, hF.2.2.2.2.2.2.1, hF.2.2.2.2.2.2.2.1, hF.2.2.2.2.2.2.2.2.1, hF.2.2.2.2.2.2.2.2.2.1, hF.2.2.2.2.2.2.2.2.2.2.1, fun _ => rfl, hF.2.2.2.2.2.2.2.2.2.2.2.2.1, fun _ => rfl⟩, hW⟩
      exact StepsI.nil (by kernel_rfl)
    · rintro L zA vv11 ⟨zB, zS, rfl, rfl, hF, hW⟩ hr
      have hu := all_up (by kernel_rfl) (N := 14) (by kernel_rfl) hr
      have hb0 : zB 0 = true := by simpa using hu 0 (by decide)
      have hb1 : zB 1 = true := by simpa using hu 1 (by decide)
      have hb2 : zB 2 = true := by simpa using hu 2 (by decide)
      have hb3 : zB 3 = true := by simpa using hu 3 (by decide)
      have hb4 : zB 4 = true := by simpa using hu 4 (by decide)
      have hb5 : zB 5 = true := by simpa using hu 5 (by decide)
      have hb6 : zB 6 = true := by simpa using hu 6 (by decide)
      have hb7 : zB 7 = true := by simpa using hu 7 (by decide)
      have hb8 : zB 8 = true := by simpa using hu 8 (by decide)
      have hb9 : zB 9 = true := by simpa using hu 9 (by decide)
      have hb10 : zB 10 = true := by simpa using hu 10 (by decide)
      have hb11 : zB 11 = true := by simpa using hu 11 (by decide)
      have hb12 : zB 12 = true := by simpa using hu 12 (by decide)
      have hb13 : zB 13 = true := by simpa using hu 13 (by decide)
      have e0 : zS 49 = .int .i64 size := hF.1 hb0
      have e1 : zS 50 = .int .i64 lv := hF.2.1 hb1
      have e2 : zS 51 = .agg #[.slice Ax.a0 S.B.length Ax.c0, .slice Ax.a1 S.V.length Ax.c1, .slice Ax.a2 S.M.length Ax.c2] := hF.2.2.1 hb2
      have e3 : zS 52 = .agg #[.int .i64 z, .slice (some ⟨gx, 0, none⟩) l.length l.length] := hF.2.2.2.1 hb3
      have e4 : zS 53 = .agg #[.int .i64 x.1, .int .i64 x.2] := hF.2.2.2.2.1 hb4
      have e5 : zS 54 = .agg #[.int .i64 x.1, .int .i64 x.2] := hF.2.2.2.2.2.1 hb5
      have e6 : zS 55 = .agg #[.int .i64 y.1, .int .i64 y.2] := hF.2.2.2.2.2.2.1 hb6
      have e7 : zS 56 = .agg #[.int .i64 y.1, .int .i64 y.2] := hF.2.2.2.2.2.2.2.1 hb7
      have e8 : zS 57 = .tuple #[.int .i64 rq.1, .int .i64 rq.2] := hF.2.2.2.2.2.2.2.2.1 hb8
      have e9 : zS 48 = .tuple #[.int .i64 rq.1, .int .i64 rq.2] := hF.2.2.2.2.2.2.2.2.2.1 hb9
      have e10 : zS 58 = .int .i64 rq.1 := hF.2.2.2.2.2.2.2.2.2.2.1 hb10
      have e11 : zS 59 = .int .i64 rq.2 := hF.2.2.2.2.2.2.2.2.2.2.2.1 hb11
      have e12 : zS 18 = .int .i64 rq.1 := hF.2.2.2.2.2.2.2.2.2.2.2.2.1 hb12
      have e13 : zS 19 = .int .i64 rq.2 := hF.2.2.2.2.2.2.2.2.2.2.2.2.2 hb13
      clear hu hr hF
      simp only [puts, Act.put, List.setIfInBounds_toArray, List.set_cons_zero, List.set_cons_succ]
      simp only [e0, e1, e2, e3, e4, e5, e6, e7, e8, e9, e10, e11, e12, e13]
      clear e0 e1 e2 e3 e4 e5 e6 e7 e8 e9 e10 e11 e12 e13
      clear hb0 hb1 hb2 hb3 hb4 hb5 hb6 hb7 hb8 hb9 hb10 hb11 hb12 hb13
      clear zB zS
      have hb := hW.1
      have BE := mkHid (below_step BE.out hb)
      have FS0 := mkHid (FS0.out.below hb)
      have FF0 := mkHid (FF0.out.below hb)
      have FYx := mkHid (FYx.out.below hb)
      have FYy := mkHid (FYy.out.below hb)
      have LS := mkHid (LS.out.below hb)
      have LF := mkHid (LF.out.below hb)
      have LX := mkHid (LX.out.below hb)
      have FS16 := mkHid (FS16.out.below hb)
      have LG := mkHid (LG.out.below hb)
      have FF17 := mkHid (FF17.out.below hb)
      clear hb hW
      clear cFS0 cFF0 cFYx cFYy cFS16 cFF17
      have cFS0 : ∀ v', Below vv11.heap.size vv11 v' → G3 v' (X) (.slice A.a0 S.B.length A.c0) (.slice A.a1 S.V.length A.c1) (.slice A.a2 S.M.length A.c2) := fun v' h => FS0.out.below h
      have cFF0 : ∀ v', Below vv11.heap.size vv11 v' → Q.Fc v' (X + 1) z a l.length (c) := fun v' h => FF0.out.below h
      have cFYx : ∀ v', Below vv11.heap.size vv11 v' → Box v' (X + 2) (x.1) (x.2) := fun v' h => FYx.out.below h
      have cFYy : ∀ v', Below vv11.heap.size vv11 v' → Box v' (X + 3) (y.1) (y.2) := fun v' h => FYy.out.below h
      have cFS16 : ∀ v', Below vv11.heap.size vv11 v' → G3 v' (X16) (.slice Ax.a0 S.B.length Ax.c0) (.slice Ax.a1 S.V.length Ax.c1) (.slice Ax.a2 S.M.length Ax.c2) := fun v' h => FS16.out.below h
      have cFF17 : ∀ v', Below vv11.heap.size vv11 v' → Q.Fc v' (X17) z (some ⟨gx, 0, none⟩) l.length (l.length) := fun v' h => FF17.out.below h
      go_wp2_with fail
      refine wp_region_inv2 (fun zA0 L zA vv14 => ∃ (zB : Nat → Bool) (zS : Nat → Value) (Aq : SAd), L = #[zB 0, zB 1, zB 2, zB 3, zB 4] ∧ zA = puts zA0 [(68, zS 68), (69, zS 69), (70, zS 70), (71, zS 71), (72, zS 72)] ∧ ((zB 0 = true → zS 68 = .agg #[.slice Ax.a0 S.B.length Ax.c0, .slice Ax.a1 S.V.length Ax.c1, .slice Ax.a2 S.M.length Ax.c2]) ∧ (zB 1 = true → zS 69 = .agg #[.slice A.a0 S.B.length A.c0, .slice A.a1 S.V.length A.c1, .slice A.a2 S.M.length A.c2]) ∧ (zB 2 = true → zS 70 = .agg #[.slice Aq.a0 S.B.length Aq.c0, .slice Aq.a1 S.V.length Aq.c1, .slice Aq.a2 S.M.length Aq.c2]) ∧ (zB 3 = true → zS 71 = .bool true) ∧ (zB 4 = true → zS 72 = .bool false)) ∧ Below vv11.heap.size vv11 vv14 ∧ ((zB 2) = true → SegAt vv14 Aq S)) (by kernel_rfl) ?_ ?_ ?_
      · exact ⟨fun _ => false, fun _ => undef, zAd, rfl, by kernel_rfl, ⟨fun e => ft e, fun e => ft e, fun e => ft e, fun e => ft e, fun e => ft e⟩, ⟨(Below.refl _ _).drew, fun e => ft e⟩⟩
      · refine StepsI.cons rfl ?_ ?_
        · rintro L zA vv14 ⟨zB, zS, Aq, rfl, rfl, hF, hW⟩ hL hm K hK
          have hb0 : zB 0 = false := by simpa using hL
          clear hL hm
          simp only [puts, Act.put, List.setIfInBounds_toArray, List.set_cons_zero, List.set_cons_succ]
          obtain ⟨k0, k1, k2, _, _, _⟩ := cFS16 _ hW.1
          go_simp
          exact hK.out _ _ ⟨fun zj => if zj = 0 then true else zB zj, fun zd => if zd = 68 then .agg #[.slice Ax.a0 S.B.length Ax.c0, .slice Ax.a1 S.V.length Ax.c1, .slice Ax.a2 S.M.length Ax.c2] else zS zd, Aq, rfl, by kernel_rfl, ⟨fun _ => rfl, hF.2.1, hF.2.2.1, hF.2.2.2.1, hF.2.2.2.2⟩, hW⟩
        refine StepsI.cons rfl ?_ ?_
        · rintro L zA vv14 ⟨zB, zS, Aq, rfl, rfl, hF, hW⟩ hL hm K hK
          have hb1 : zB 1 = false := by simpa using hL
          clear hL hm
          simp only [puts, Act.put, List.setIfInBounds_toArray, List.set_cons_zero, List.set_cons_succ]
          obtain ⟨k0, k1, k2, _, _, _⟩ := cFS0 _ hW.1
          go_simp
          exact hK.out _ _ ⟨fun zj => if zj = 1 then true else zB zj, fun zd => if zd = 69 then .agg #[.slice A.a0 S.B.length A.c0, .slice A.a1 S.V.length A.c1, .slice A.a2 S.M.length A.c2] else zS zd, Aq, rfl, by kernel_rfl, ⟨hF.1, fun _ => rfl, hF.2.2.1, hF.2.2.2.1, hF.2.2.2.2⟩, hW⟩
        refine StepsI.cons rfl ?_ ?_
        · rintro L zA vv14 ⟨zB, zS, Aq, rfl, rfl, hF, hW⟩ hL hm K hK
          have hb2 : zB 2 = false := by simpa using hL
          have hb1 : zB 1 = true := by cases e : zB 1 with | false => (exfalso; revert hm; simp [metB, Region.binds, e]) | true => rfl
          have e1 : zS 69 = .agg #[.slice A.a0 S.B.length A.c0, .slice A.a1 S.V.length A.c1, .slice A.a2 S.M.length A.c2] := hF.2.1 hb1
          clear hL hm
          rw [hb2] at hW
          simp only [puts, Act.put, List.setIfInBounds_toArray, List.set_cons_zero, List.set_cons_succ]
          simp only [e1]
          go_simp
          refine (toSeg_any S A _ HM.out.b HM.out.t HM.out.v HM.out.m (LS.out.below hW.1)).mono ?_
          rintro e vv142 ⟨Aq9, rfl, ho, hb⟩
          go_wp2_with fail
          exact hK.out _ _ ⟨fun zj => if zj = 1 then true else if zj = 2 then true else zB zj, fun zd => if zd = 70 then .agg #[.slice Aq9.a0 S.B.length Aq9.c0, .slice Aq9.a1 S.V.length Aq9.c1, .slice Aq9.a2 S.M.length Aq9.c2] else if zd = 69 then .agg #[.slice A.a0 S.B.length A.c0, .slice A.a1 S.V.length A.c1, .slice A.a2 S.M.length A.c2] else zS zd, Aq9, by simp [hb1], by kernel_rfl, ⟨hF.1, fun _ => rfl, fun _ => rfl, hF.2.2.2.1, hF.2.2.2.2⟩, ⟨below_step hW.1 hb, fun _ => ho.at⟩⟩
        refine StepsI.cons rfl ?_ ?_
        · rintro L zA vv14 ⟨zB, zS, Aq, rfl, rfl, hF, hW⟩ hL hm K hK
          have hb3 : zB 3 = false := by simpa using hL
          have hb0 : zB 0 = true := by cases e : zB 0 with | false => (exfalso; revert hm; simp [metB, Region.binds, e]) | true => rfl
          have hb2 : zB 2 = true := by cases e : zB 2 with | false => (exfalso; revert hm; simp [metB, Region.binds, e]) | true => rfl
          have e0 : zS 68 = .agg #[.slice Ax.a0 S.B.length Ax.c0, .slice Ax.a1 S.V.length Ax.c1, .slice Ax.a2 S.M.length Ax.c2] := hF.1 hb0
          have e2 : zS 70 = .agg #[.slice Aq.a0 S.B.length Aq.c0, .slice Aq.a1 S.V.length Aq.c1, .slice Aq.a2 S.M.length Aq.c2] := hF.2.2.1 hb2
          clear hL hm
          rw [hb2] at hW
          simp only [puts, Act.put, List.setIfInBounds_toArray, List.set_cons_zero, List.set_cons_succ]
          simp only [e0, e2]
          go_simp
          refine (eqSeg_same S Ax Aq _ HM.out (LX.out.below hW.1) (hW.2 (by first | rfl | trivial))).mono ?_
          rintro e vv142 ⟨rfl, hb⟩
          go_wp2_with fail
          exact hK.out _ _ ⟨fun zj => if zj = 2 then true else if zj = 0 then true else if zj = 3 then true else zB zj, fun zd => if zd = 71 then .bool true else if zd = 70 then .agg #[.slice Aq.a0 S.B.length Aq.c0, .slice Aq.a1 S.V.length Aq.c1, .slice Aq.a2 S.M.length Aq.c2] else if zd = 68 then .agg #[.slice Ax.a0 S.B.length Ax.c0, .slice Ax.a1 S.V.length Ax.c1, .slice Ax.a2 S.M.length Ax.c2] else zS zd, Aq, by simp [hb0, hb2], by kernel_rfl, ⟨fun _ => rfl, hF.2.1, fun _ => rfl, fun _ => rfl, hF.2.2.2.2⟩, ⟨below_step hW.1 hb, fun _ => (hW.2 (by first | rfl | trivial)).below hb⟩⟩
        refine StepsI.cons rfl ?_ ?_
        · rintro L zA vv14 ⟨zB, zS, Aq, rfl, rfl, hF, hW⟩ hL hm K hK
          have hb4 : zB 4 = false := by simpa using hL
          have hb3 : zB 3 = true := by cases e : zB 3 with | false => (exfalso; revert hm; simp [metB, Region.binds, e]) | true => rfl
          have e3 : zS 71 = .bool true := hF.2.2.2.1 hb3
          clear hL hm
          simp only [puts, Act.put, List.setIfInBounds_toArray, List.set_cons_zero, List.set_cons_succ]
          simp only [e3]
          go_simp
          exact hK.out _ _ ⟨fun zj => if zj = 3 then true else if zj = 4 then true else zB zj, fun zd => if zd = 72 then .bool false else if zd = 71 then .bool true else zS zd, Aq, by simp [hb3], by kernel_rfl, ⟨hF.1, hF.2.1, hF.2.2.1, fun _ => rfl, fun _ => rfl⟩, hW⟩
        exact StepsI.nil (by kernel_rfl)
      · rintro L zA vv14 ⟨zB, zS, Aq, rfl, rfl, hF, hW⟩ hr
        have hu := all_up (by kernel_rfl) (N := 5) (by kernel_rfl) hr
        have hb0 : zB 0 = true := by simpa using hu 0 (by decide)
        have hb1 : zB 1 = true := by simpa using hu 1 (by decide)
        have hb2 : zB 2 = true := by simpa using hu 2 (by decide)
        have hb3 : zB 3 = true := by simpa using hu 3 (by decide)
        have hb4 : zB 4 = true := by simpa using hu 4 (by decide)
        have e0 : zS 68 = .agg #[.slice Ax.a0 S.B.length Ax.c0, .slice Ax.a1 S.V.length Ax.c1, .slice Ax.a2 S.M.length Ax.c2] := hF.1 hb0
        have e1 : zS 69 = .agg #[.slice A.a0 S.B.length A.c0, .slice A.a1 S.V.length A.c1, .slice A.a2 S.M.length A.c2] := hF.2.1 hb1
        have e2 : zS 70 = .agg #[.slice Aq.a0 S.B.length Aq.c0, .slice Aq.a1 S.V.length Aq.c1, .slice Aq.a2 S.M.length Aq.c2] := hF.2.2.1 hb2
        have e3 : zS 71 = .bool true := hF.2.2.2.1 hb3
        have e4 : zS 72 = .bool false := hF.2.2.2.2 hb4
        rw [hb2] at hW
        clear hu hr hF
        simp only [puts, Act.put, List.setIfInBounds_toArray, List.set_cons_zero, List.set_cons_succ]
        simp only [e0, e1, e2, e3, e4]
        clear e0 e1 e2 e3 e4
        clear hb0 hb1 hb2 hb3 hb4
        clear zB zS
        have hb := hW.1
        have n0 := mkHid (hW.2 (by first | rfl | trivial))
        have BE := mkHid (below_step BE.out hb)
        have FS0 := mkHid (FS0.out.below hb)
        have FF0 := mkHid (FF0.out.below hb)
        have FYx := mkHid (FYx.out.below hb)
        have FYy := mkHid (FYy.out.below hb)
        have LS := mkHid (LS.out.below hb)
        have LF := mkHid (LF.out.below hb)
        have LX := mkHid (LX.out.below hb)
        have FS16 := mkHid (FS16.out.below hb)
        have LG := mkHid (LG.out.below hb)
        have FF17 := mkHid (FF17.out.below hb)
        clear hb hW
        clear cFS0 cFF0 cFYx cFYy cFS16 cFF17
        clear n0
        have cFS0 : ∀ v', Below vv14.heap.size vv14 v' → G3 v' (X) (.slice A.a0 S.B.length A.c0) (.slice A.a1 S.V.length A.c1) (.slice A.a2 S.M.length A.c2) := fun v' h => FS0.out.below h
        have cFF0 : ∀ v', Below vv14.heap.size vv14 v' → Q.Fc v' (X + 1) z a l.length (c) := fun v' h => FF0.out.below h
        have cFYx : ∀ v', Below vv14.heap.size vv14 v' → Box v' (X + 2) (x.1) (x.2) := fun v' h => FYx.out.below h
        have cFYy : ∀ v', Below vv14.heap.size vv14 v' → Box v' (X + 3) (y.1) (y.2) := fun v' h => FYy.out.below h
        have cFS16 : ∀ v', Below vv14.heap.size vv14 v' → G3 v' (X16) (.slice Ax.a0 S.B.length Ax.c0) (.slice Ax.a1 S.V.length Ax.c1) (.slice Ax.a2 S.M.length Ax.c2) := fun v' h => FS16.out.below h
        have cFF17 : ∀ v', Below vv14.heap.size vv14 v' → Q.Fc v' (X17) z (some ⟨gx, 0, none⟩) l.length (l.length) := fun v' h => FF17.out.below h
        go_wp2_with fail
        refine wp_region_inv2 (fun zA0 L zA vv16 => ∃ (zB : Nat → Bool) (zS : Nat → Value) (gq : Nat), L = #[zB 0, zB 1, zB 2, zB 3, zB 4] ∧ zA = puts zA0 [(73, zS 73), (74, zS 74), (75, zS 75), (76, zS 76), (77, zS 77)] ∧ ((zB 0 = true → zS 73 = .agg #[.int .i64 z, .slice (some ⟨gx, 0, none⟩) l.length l.length]) ∧ (zB 1 = true → zS 74 = .agg #[.int .i64 z, .slice a l.length c]) ∧ (zB 2 = true → zS 75 = .agg #[.int .i64 z, .slice (some ⟨gq, 0, none⟩) l.length l.length]) ∧ (zB 3 = true → zS 76 = .bool true) ∧ (zB 4 = true → zS 77 = .bool false)) ∧ Below vv14.heap.size vv14 vv16 ∧ ((zB 2) = true → Q.IntsAt vv16 (some ⟨gq, 0, none⟩) l)) (by kernel_rfl) ?_ ?_ ?_
        · exact ⟨fun _ => false, fun _ => undef, 0, rfl, by kernel_rfl, ⟨fun e => ft e, fun e => ft e, fun e => ft e, fun e => ft e, fun e => ft e⟩, ⟨(Below.refl _ _).drew, fun e => ft e⟩⟩
        · refine StepsI.cons rfl ?_ ?_
          · rintro L zA vv16 ⟨zB, zS, gq, rfl, rfl, hF, hW⟩ hL hm K hK
            have hb0 : zB 0 = false := by simpa using hL
            clear hL hm
            simp only [puts, Act.put, List.setIfInBounds_toArray, List.set_cons_zero, List.set_cons_succ]
            obtain ⟨k0, k1⟩ := cFF17 _ hW.1
            go_simp
            exact hK.out _ _ ⟨fun zj => if zj = 0 then true else zB zj, fun zd => if zd = 73 then .agg #[.int .i64 z, .slice (some ⟨gx, 0, none⟩) l.length l.length] else zS zd, gq, rfl, by kernel_rfl, ⟨fun _ => rfl, hF.2.1, hF.2.2.1, hF.2.2.2.1, hF.2.2.2.2⟩, hW⟩
          refine StepsI.cons rfl ?_ ?_
          · rintro L zA vv16 ⟨zB, zS, gq, rfl, rfl, hF, hW⟩ hL hm K hK
            have hb1 : zB 1 = false := by simpa using hL
            clear hL hm
            simp only [puts, Act.put, List.setIfInBounds_toArray, List.set_cons_zero, List.set_cons_succ]
            obtain ⟨k0, k1⟩ := cFF0 _ hW.1
            go_simp
            exact hK.out _ _ ⟨fun zj => if zj = 1 then true else zB zj, fun zd => if zd = 74 then .agg #[.int .i64 z, .slice a l.length c] else zS zd, gq, rfl, by kernel_rfl, ⟨hF.1, fun _ => rfl, hF.2.2.1, hF.2.2.2.1, hF.2.2.2.2⟩, hW⟩
          refine StepsI.cons rfl ?_ ?_
          · rintro L zA vv16 ⟨zB, zS, gq, rfl, rfl, hF, hW⟩ hL hm K hK
            have hb2 : zB 2 = false := by simpa using hL
            have hb1 : zB 1 = true := by cases e : zB 1 with | false => (exfalso; revert hm; simp [metB, Region.binds, e]) | true => rfl
            have e1 : zS 74 = .agg #[.int .i64 z, .slice a l.length c] := hF.2.1 hb1
            clear hL hm
            rw [hb2] at hW
            simp only [puts, Act.put, List.setIfInBounds_toArray, List.set_cons_zero, List.set_cons_succ]
            simp only [e1]
            go_simp
            refine (Q.toFacts_any z l a c _ HLN.out (LF.out.below hW.1)).mono ?_
            rintro e vv162 ⟨gq9, rfl, ho, hb⟩
            go_wp2_with fail
            exact hK.out _ _ ⟨fun zj => if zj = 1 then true else if zj = 2 then true else zB zj, fun zd => if zd = 75 then .agg #[.int .i64 z, .slice (some ⟨gq9, 0, none⟩) l.length l.length] else if zd = 74 then .agg #[.int .i64 z, .slice a l.length c] else zS zd, gq9, by simp [hb1], by kernel_rfl, ⟨hF.1, fun _ => rfl, fun _ => rfl, hF.2.2.2.1, hF.2.2.2.2⟩, ⟨below_step hW.1 hb, fun _ => ho.at⟩⟩
          refine StepsI.cons rfl ?_ ?_
          · rintro L zA vv16 ⟨zB, zS, gq, rfl, rfl, hF, hW⟩ hL hm K hK
            have hb3 : zB 3 = false := by simpa using hL
            have hb0 : zB 0 = true := by cases e : zB 0 with | false => (exfalso; revert hm; simp [metB, Region.binds, e]) | true => rfl
            have hb2 : zB 2 = true := by cases e : zB 2 with | false => (exfalso; revert hm; simp [metB, Region.binds, e]) | true => rfl
            have e0 : zS 73 = .agg #[.int .i64 z, .slice (some ⟨gx, 0, none⟩) l.length l.length] := hF.1 hb0
            have e2 : zS 75 = .agg #[.int .i64 z, .slice (some ⟨gq, 0, none⟩) l.length l.length] := hF.2.2.1 hb2
            clear hL hm
            rw [hb2] at hW
            simp only [puts, Act.put, List.setIfInBounds_toArray, List.set_cons_zero, List.set_cons_succ]
            simp only [e0, e2]
            go_simp
            refine (Q.eqFacts_ok z l (some ⟨gx, 0, none⟩) (some ⟨gq, 0, none⟩) l.length l.length _ HN.out (LG.out.below hW.1) (hW.2 (by first | rfl | trivial))).mono ?_
            rintro e vv162 ⟨rfl, hb⟩
            go_wp2_with fail
            exact hK.out _ _ ⟨fun zj => if zj = 2 then true else if zj = 0 then true else if zj = 3 then true else zB zj, fun zd => if zd = 76 then .bool true else if zd = 75 then .agg #[.int .i64 z, .slice (some ⟨gq, 0, none⟩) l.length l.length] else if zd = 73 then .agg #[.int .i64 z, .slice (some ⟨gx, 0, none⟩) l.length l.length] else zS zd, gq, by simp [hb0, hb2], by kernel_rfl, ⟨fun _ => rfl, hF.2.1, fun _ => rfl, fun _ => rfl, hF.2.2.2.2⟩, ⟨below_step hW.1 hb, fun _ => (hW.2 (by first | rfl | trivial)).below hb⟩⟩
          refine StepsI.cons rfl ?_ ?_
          · rintro L zA vv16 ⟨zB, zS, gq, rfl, rfl, hF, hW⟩ hL hm K hK
            have hb4 : zB 4 = false := by simpa using hL
            have hb3 : zB 3 = true := by cases e : zB 3 with | false => (exfalso; revert hm; simp [metB, Region.binds, e]) | true => rfl
            have e3 : zS 76 = .bool true := hF.2.2.2.1 hb3
            clear hL hm
            simp only [puts, Act.put, List.setIfInBounds_toArray, List.set_cons_zero, List.set_cons_succ]
            simp only [e3]
            go_simp
            exact hK.out _ _ ⟨fun zj => if zj = 3 then true else if zj = 4 then true else zB zj, fun zd => if zd = 77 then .bool false else if zd = 76 then .bool true else zS zd, gq, by simp [hb3], by kernel_rfl, ⟨hF.1, hF.2.1, hF.2.2.1, fun _ => rfl, fun _ => rfl⟩, hW⟩
          exact StepsI.nil (by kernel_rfl)
        · rintro L zA vv16 ⟨zB, zS, gq, rfl, rfl, hF, hW⟩ hr
          have hu := all_up (by kernel_rfl) (N := 5) (by kernel_rfl) hr
          have hb0 : zB 0 = true := by simpa using hu 0 (by decide)
          have hb1 : zB 1 = true := by simpa using hu 1 (by decide)
          have hb2 : zB 2 = true := by simpa using hu 2 (by decide)
          have hb3 : zB 3 = true := by simpa using hu 3 (by decide)
          have hb4 : zB 4 = true := by simpa using hu 4 (by decide)
          have e0 : zS 73 = .agg #[.int .i64 z, .slice (some ⟨gx, 0, none⟩) l.length l.length] := hF.1 hb0
          have e1 : zS 74 = .agg #[.int .i64 z, .slice a l.length c] := hF.2.1 hb1
          have e2 : zS 75 = .agg #[.int .i64 z, .slice (some ⟨gq, 0, none⟩) l.length l.length] := hF.2.2.1 hb2
          have e3 : zS 76 = .bool true := hF.2.2.2.1 hb3
          have e4 : zS 77 = .bool false := hF.2.2.2.2 hb4
          rw [hb2] at hW
          clear hu hr hF
          simp only [puts, Act.put, List.setIfInBounds_toArray, List.set_cons_zero, List.set_cons_succ]
          simp only [e0, e1, e2, e3, e4]
          clear e0 e1 e2 e3 e4
          clear hb0 hb1 hb2 hb3 hb4
          clear zB zS
          have hb := hW.1
          have n0 := mkHid (hW.2 (by first | rfl | trivial))
          have BE := mkHid (below_step BE.out hb)
          have FS0 := mkHid (FS0.out.below hb)
          have FF0 := mkHid (FF0.out.below hb)
          have FYx := mkHid (FYx.out.below hb)
          have FYy := mkHid (FYy.out.below hb)
          have LS := mkHid (LS.out.below hb)
          have LF := mkHid (LF.out.below hb)
          have LX := mkHid (LX.out.below hb)
          have FS16 := mkHid (FS16.out.below hb)
          have LG := mkHid (LG.out.below hb)
          have FF17 := mkHid (FF17.out.below hb)
          clear hb hW
          clear cFS0 cFF0 cFYx cFYy cFS16 cFF17
          go_wp2
          go_ret
          exact ⟨rfl, BE.out⟩

theorem cellsF : Tryz.prog.cellsOf 29 = 2 := by kernel_rfl
set_option maxRecDepth 100000 in
theorem law_lifted (os : Os) (started : os.Started) (H : Type) (enc : TypeId × Value → H) :
    ReturnsInHanded {} Tryz.checked os 4 .any (Rows.fnExactSegSpanSpec.pre6 enc Tryz.prog Tryz.f4 Rows.fnExactSegSpanRow.domain false) (Rows.fnExactSegSpanSpec.post enc Tryz.prog Tryz.f4 false true false false) := by
  refine returnsInHanded_of_change (C := Tryz.checked) Tryz.own started (by kernel_rfl) Tryz.func4
    (ChangeSpec.witness6 (enc := enc) (C := Tryz.checked) false ⟨#[], #[.int .i64 0, .int .i64 0, .agg #[.slice none 0 0, .slice none 0 0, .slice none 0 0], .agg #[.int .i64 0, .slice none 0 0], .agg #[.int .i64 0, .int .i64 0], .agg #[.int .i64 0, .int .i64 0]], []⟩ 8 (by kernel_rfl) (by kernel_rfl) (by kernel_rfl) (by kernel_rfl)) ?_
  intro W base args ds gs before hval0 hW hcnd _
  have hval : ∀ (j : Nat) t v, Tryz.f4.params[j]? = some t → args[j]? = some v → Value.okWide Tryz.prog W .any base t v := hval0
  have hW' := hW
  obtain ⟨p, q, hA0, hV, rfl, hfz, hnd⟩ := hW
  have hA : DataW.TrodAll enc Tryz.prog W 0 (fun _ => true) true Tryz.f4.params.toList args.toList ds p := hA0
  rw [Tryz.params4] at hA hval
  obtain ⟨v0, vs0, d0, ds0, p0, q0, hargs, rfl, rfl, h0, r0⟩ := trodAll_cons hA
  obtain ⟨v1, vs1, d1, ds1, p1, q1, rfl, rfl, rfl, h1, r1⟩ := trodAll_cons r0
  obtain ⟨v2, vs2, d2, ds2, p2, q2, rfl, rfl, rfl, h2, r2⟩ := trodAll_cons r1
  obtain ⟨v3, vs3, d3, ds3, p3, q3, rfl, rfl, rfl, h3, r3⟩ := trodAll_cons r2
  obtain ⟨v4, vs4, d4, ds4, p4, q4, rfl, rfl, rfl, h4, r4⟩ := trodAll_cons r3
  obtain ⟨v5, vs5, d5, ds5, p5, q5, rfl, rfl, rfl, h5, r5⟩ := trodAll_cons r4
  obtain ⟨rfl, rfl, rfl⟩ := trodAll_nil r5
  obtain rfl : args = #[v0, v1, v2, v3, v4, v5] := by cases args; simp_all
  obtain ⟨rfl, rfl⟩ := trodVars_none hV
  have k0 := h0
  have lt0 : ∀ x ∈ p0, x.block < W.heap.size := by obtain ⟨m, hm⟩ := k0; exact DataW.trod_lt m _ _ _ hm
  have k1 := h1
  have lt1 : ∀ x ∈ p1, x.block < W.heap.size := by obtain ⟨m, hm⟩ := k1; exact DataW.trod_lt m _ _ _ hm
  have k2 := h2
  have lt2 : ∀ x ∈ p2, x.block < W.heap.size := by obtain ⟨m, hm⟩ := k2; exact DataW.trod_lt m _ _ _ hm
  have k3 := h3
  have lt3 : ∀ x ∈ p3, x.block < W.heap.size := by obtain ⟨m, hm⟩ := k3; exact DataW.trod_lt m _ _ _ hm
  have k4 := h4
  have lt4 : ∀ x ∈ p4, x.block < W.heap.size := by obtain ⟨m, hm⟩ := k4; exact DataW.trod_lt m _ _ _ hm
  have k5 := h5
  have lt5 : ∀ x ∈ p5, x.block < W.heap.size := by obtain ⟨m, hm⟩ := k5; exact DataW.trod_lt m _ _ _ hm
  obtain ⟨x0, hv0, _, _, _⟩ := open_int Tryz.underlying3 (hval 0 3 v0 rfl rfl) h0
  subst hv0
  obtain ⟨x1, hv1, _, _, _⟩ := open_int Tryz.underlying3 (hval 1 3 v1 rfl rfl) h1
  subst hv1
  obtain ⟨S2, A2, hv2, hg2, hl2⟩ := open_seg (hval 2 26 v2 rfl rfl) h2
  subst hv2
  obtain ⟨u30, u31, y30, y31, m3, hv3, _, _, hy30, hy31⟩ := open_agg2 Tryz.underlying29 (by kernel_rfl) cellsF (hval 3 29 v3 rfl rfl) h3
  obtain ⟨z3, e30, _, _⟩ := DataW.trod_int Tryz.underlying3 hy30
  obtain ⟨a3, c3, l3, e31, hn3, hk3⟩ := Q.open_intsv hy31
  simp at e30
  subst e30 e31 hv3
  obtain ⟨u40, u41, y40, y41, m4, hv4, _, _, hy40, hy41⟩ := open_agg2 Tryz.underlying46 (by kernel_rfl) Tryz.cells46 (hval 4 46 v4 rfl rfl) h4
  obtain ⟨s4, e40, _, _⟩ := DataW.trod_int Tryz.underlying3 hy40
  obtain ⟨t4, e41, _, _⟩ := DataW.trod_int Tryz.underlying3 hy41
  simp at e40 e41
  subst e40 e41 hv4
  obtain ⟨u50, u51, y50, y51, m5, hv5, _, _, hy50, hy51⟩ := open_agg2 Tryz.underlying46 (by kernel_rfl) Tryz.cells46 (hval 5 46 v5 rfl rfl) h5
  obtain ⟨s5, e50, _, _⟩ := DataW.trod_int Tryz.underlying3 hy50
  obtain ⟨t5, e51, _, _⟩ := DataW.trod_int Tryz.underlying3 hy51
  simp at e50 e51
  subst e50 e51 hv5
  clear hA0 hval0
  refine (law_walk x0 x1 S2 A2 z3 l3 a3 c3 (s4, t4) (s5, t5) W hg2 hl2 hn3 hk3).mono fun e W' ⟨he, bel⟩ => ?_
  subst he
  exact ⟨_, rfl, _, _, _, [], _, [], hW', trodAll_mk1 (shut_bool Tryz.underlying4 _), (trodAll_cons_mk (Below.trod Tryz.laidOut (by kernel_rfl) (of_decide_eq_true (by kernel_rfl)) k0 bel lt0) (trodAll_cons_mk (Below.trod Tryz.laidOut (by kernel_rfl) (of_decide_eq_true (by kernel_rfl)) k1 bel lt1) (trodAll_cons_mk (Below.trod Tryz.laidOut (by kernel_rfl) (of_decide_eq_true (by kernel_rfl)) k2 bel lt2) (trodAll_cons_mk (Below.trod Tryz.laidOut (by kernel_rfl) (of_decide_eq_true (by kernel_rfl)) k3 bel lt3) (trodAll_cons_mk (Below.trod Tryz.laidOut (by kernel_rfl) (of_decide_eq_true (by kernel_rfl)) k4 bel lt4) (trodAll_cons_mk (Below.trod Tryz.laidOut (by kernel_rfl) (of_decide_eq_true (by kernel_rfl)) k5 bel lt5) trodAll_mk0)))))), rfl, bel.frame _, fun h => by cases h⟩

theorem law_holds : Rows.FnExactSegSpanSaid :=
  OpenClaim.holds_of_wide 4 Tryz.f4 rfl rfl rfl rfl rfl rfl rfl ⟨rfl, rfl, rfl, rfl, rfl⟩ rfl rfl rfl rfl rfl (by kernel_rfl) Tryz.func4 (by kernel_rfl)
    (of_decide_eq_true (by kernel_rfl)) (by unfold Func.isWrapper; first | (rw [if_pos (by decide +kernel)]; kernel_rfl) | (rw [if_neg (by decide +kernel)]; exact ⟨rfl, rfl⟩))
    (fun os started H enc _ => law_lifted os started H enc)

#print axioms law_holds
end Go.Proofs.YtihpajiololfoaaGreat
