/-
  FnExactSegShift holds at every argument: the program's SegShift answers as the specification's, field by field; it writes into no argument, and its answer owns its memory, behind another call too. No conditions.
-/
import Derived.Test.YtodjmpocpfkpaaaGreatKx07
import Derived.Test.YtodjmpocpfkpaaaGreatKx34
import Derived.Test.YtodjmpocpfkpaaaGreatKx05
namespace Go.Proofs.YtodjmpocpfkpaaaGreat
open Go.ChangeShapes Go.WideShapes Go.ChangeAt Go.RowKit Go.Joins

theorem MvR.small {n l v u c : Int} {S F Z : SG} (h : MvR n l v u c S F Z) (hF : OkS n l S.B S.V S.M → MvP n l v u c → Small F) : Small Z := by
  by_cases e : OkS n l S.B S.V S.M ∧ MvP n l v u c
  · rw [h.1 e]; exact hF e.1 e.2
  · rw [h.2 e]
    exact ⟨by simp [noS], by simp [noS, tot], by simp [noS], by simp [noS]⟩
theorem tidyR_small : ∀ (B : List (List Y)) (V : List VV) (M : List Bool) (v : VV) (mb : Bool), (tidyR v mb B V M).1.length ≤ B.length ∧ tot (tidyR v mb B V M).1 ≤ tot B ∧ (tidyR v mb B V M).2.1.length ≤ V.length ∧ (tidyR v mb B V M).2.2.length ≤ M.length
  | [], _, _, _, _ => by simp [tidyR, tot]
  | _ :: _, [], _, _, _ => by simp [tidyR, tot]
  | _ :: _, _ :: _, [], _, _ => by simp [tidyR, tot]
  | b :: B, x :: V, m :: M, v, mb => by
    unfold tidyR
    split
    · have h := tidyR_small B V M (jv v x) (mb && m)
      simp only [List.length_cons, tot]
      omega
    · have h := tidyR_small B V M noneV true
      simp only [List.length_cons, tot]
      omega
theorem smallShift {n lv v u c : Int} {S : SG} (hok : OkS n lv S.B S.V S.M) (_ : MvP n lv v u c) (hs : Small S) : Small (shS n v c S) := by
  have h1 := tidyR_small (S.B.map (shB n v c)).tail S.V S.M noneV true
  have h2 := tot_map_sh n v c S.B
  obtain ⟨hb, ht, hv, hm⟩ := hs
  unfold shS tidyS
  cases hB : S.B with
  | nil => have := hok.k1; rw [hB] at this; simp at this
  | cons b B =>
    rw [hB] at h1 h2 hb ht
    simp only [List.map_cons, List.tail_cons, List.length_cons, tot, List.length_map] at h1 h2 hb ht ⊢
    refine ⟨?_, ?_, ?_, ?_⟩ <;> (first | omega | (simp only [List.headD_cons, List.length_cons, tot]; omega))
set_option maxRecDepth 100000 in
set_option maxHeartbeats 3200000 in
theorem law_walk (n lv : Int) (S : SG) (A : SAd) (v c : Int) (w : World) (hg : Lim S) (hl : SegAt w A S) : Calls Tryz.prog 4 #[.int .i64 n, .int .i64 lv, .agg #[.slice A.a0 S.B.length A.c0, .slice A.a1 S.V.length A.c1, .slice A.a2 S.M.length A.c2], .int .i64 v, .int .i64 c] w fun e w' => e = .returned (.bool true) ∧ Below w.heap.size w w' := by
  have HG := mkHid hg
  have HL := mkHid hl
  clear hg hl
  obtain ⟨w0, hw0⟩ : ∃ x : World, w.alloc (.cells #[.slice A.a0 S.B.length A.c0, .slice A.a1 S.V.length A.c1, .slice A.a2 S.M.length A.c2] 26) = x := ⟨_, rfl⟩
  obtain ⟨X, hX⟩ : ∃ x, w.heap.size = x := ⟨_, rfl⟩
  have QX : Hid (w.heap.size = X) := mkHid hX
  have QY : Hid (w0.heap.size = X + 1) := mkHid (by rw [← hw0, ← hX]; simp)
  have B_0 : Hid (Below w.heap.size w w0) := mkHid (by rw [← hw0]; exact bl_alloc (Below.refl _ _) _)
  have P_0 : Hid (G3 w0 X (.slice A.a0 S.B.length A.c0) (.slice A.a1 S.V.length A.c1) (.slice A.a2 S.M.length A.c2)) := mkHid (by rw [← hw0, ← hX]; exact G3.new _ _ _ _ _)
  go_enter Tryz.func4, Tryz.ntmps4
  obtain ⟨q0, q1, q2, _, _, _⟩ := P_0.out
  go_wp2_with fail
  refine (szSeg_any S A _ HG.out.b HG.out.r HG.out.v HG.out.m 1048576 (by omega) (by omega) (HL.out.below B_0.out)).mono ?_
  rintro e w1 ⟨hb, r, rfl, hr⟩
  have HQ := mkHid hr
  have SZ1 : Hid (w0.heap.size ≤ w1.heap.size) := mkHid hb.size
  have B_1 := mkHid (below_step B_0.out hb)
  have P_1 := mkHid (P_0.out.below hb)
  clear B_0 P_0
  clear hb hr hw0 hX q0 q1 q2
  by_cases hneg : r < 0
  · go_wp2
    go_ret
    exact ⟨rfl, B_1.out⟩
  obtain ⟨hz1, hz2, hz3, hz4, hz5⟩ := HQ.out (by omega)
  have HM : Hid (Small S) := mkHid ⟨hz1, hz2, hz3, hz4⟩
  clear HQ hz1 hz2 hz3 hz4 hz5
  obtain ⟨q0, q1, q2, _, _, _⟩ := P_1.out
  go_wp2_with fail
  refine (toSeg_any S A _ HM.out.b HM.out.t HM.out.v HM.out.m (HL.out.below B_1.out)).mono ?_
  rintro e w2 ⟨Aw, rfl, ho, hb⟩
  have SZ2 : Hid (w1.heap.size ≤ w2.heap.size) := mkHid hb.size
  have B_2 := mkHid (below_step B_1.out hb)
  have P_2 := mkHid (P_1.out.below hb)
  clear B_1 P_1
  clear hb q0 q1 q2
  have Ow_0 := mkHid (ho)
  clear ho
  go_wp2_with fail
  refine (sShift_any n lv S Aw v c _ HM.out Ow_0.out.at).mono ?_
  rintro e w3 ⟨Z, hZ, Ar, rfl, ho, hb⟩
  have SZ3 : Hid (w2.heap.size ≤ w3.heap.size) := mkHid hb.size
  have B_3 := mkHid (below_step B_2.out hb)
  have P_3 := mkHid (P_2.out.below hb)
  have Ow_1 := mkHid (Ow_0.out.below hb)
  clear B_2 P_2 Ow_0
  clear hb 
  have OW_0 := mkHid (ho)
  have HZ := mkHid hZ
  have HSZ : Hid (Small Z) := mkHid (hZ.small (fun hok hm => smallShift hok hm HM.out))
  clear hZ ho
  clear Ow_1
  obtain ⟨Xw, hXw⟩ : ∃ x, w3.heap.size = x := ⟨_, rfl⟩
  obtain ⟨w4, hw4⟩ : ∃ x : World, w3.alloc (.cells #[.slice Ar.a0 Z.B.length Ar.c0, .slice Ar.a1 Z.V.length Ar.c1, .slice Ar.a2 Z.M.length Ar.c2] 31) = x := ⟨_, rfl⟩
  have hb : Below w3.heap.size w3 w4 := by rw [← hw4]; exact bl_alloc (Below.refl _ _) _
  have SZ4 : Hid (w3.heap.size + 1 ≤ w4.heap.size) := mkHid (by rw [← hw4]; simp)
  have QXw : Hid (w3.heap.size = Xw) := mkHid hXw
  have B_4 := mkHid (below_step B_3.out hb)
  have P_4 := mkHid (P_3.out.below hb)
  have OW_1 := mkHid (OW_0.out.below hb)
  clear B_3 P_3 OW_0
  have GW_0 : Hid (G3 w4 Xw (.slice Ar.a0 Z.B.length Ar.c0) (.slice Ar.a1 Z.V.length Ar.c1) (.slice Ar.a2 Z.M.length Ar.c2)) := mkHid (by rw [← hw4, ← hXw]; exact G3.new _ _ _ _ _)
  clear hb
  obtain ⟨p0, p1, p2, _, _, _⟩ := P_4.out
  go_wp2_with fail
  refine (toSeg_any S A _ HM.out.b HM.out.t HM.out.v HM.out.m (HL.out.below B_4.out)).mono ?_
  rintro e w5 ⟨Ax, rfl, ho, hb⟩
  have SZ5 : Hid (w4.heap.size ≤ w5.heap.size) := mkHid hb.size
  have B_5 := mkHid (below_step B_4.out hb)
  have P_5 := mkHid (P_4.out.below hb)
  have OW_2 := mkHid (OW_1.out.below hb)
  have GW_1 := mkHid (GW_0.out.below hb)
  clear B_4 P_4 OW_1 GW_0
  clear hb hw4 hXw p0 p1 p2
  have OX_0 := mkHid (ho)
  clear ho
  obtain ⟨Xx, hXx⟩ : ∃ x, w5.heap.size = x := ⟨_, rfl⟩
  obtain ⟨w6, hw6⟩ : ∃ x : World, w5.alloc (.cells #[.slice Ax.a0 S.B.length Ax.c0, .slice Ax.a1 S.V.length Ax.c1, .slice Ax.a2 S.M.length Ax.c2] 31) = x := ⟨_, rfl⟩
  have hb : Below w5.heap.size w5 w6 := by rw [← hw6]; exact bl_alloc (Below.refl _ _) _
  have SZ6 : Hid (w5.heap.size + 1 ≤ w6.heap.size) := mkHid (by rw [← hw6]; simp)
  have QXx : Hid (w5.heap.size = Xx) := mkHid hXx
  have B_6 := mkHid (below_step B_5.out hb)
  have P_6 := mkHid (P_5.out.below hb)
  have OW_3 := mkHid (OW_2.out.below hb)
  have GW_2 := mkHid (GW_1.out.below hb)
  have OX_1 := mkHid (OX_0.out.below hb)
  clear B_5 P_5 OW_2 GW_1 OX_0
  have GX_0 : Hid (G3 w6 Xx (.slice Ax.a0 S.B.length Ax.c0) (.slice Ax.a1 S.V.length Ax.c1) (.slice Ax.a2 S.M.length Ax.c2)) := mkHid (by rw [← hw6, ← hXx]; exact G3.new _ _ _ _ _)
  clear hb
  obtain ⟨q0, q1, q2, _, _, _⟩ := GX_0.out
  go_wp2_with fail
  refine (iShift_any n lv S Ax v c _ HM.out OX_1.out.at).mono ?_
  rintro e w7 ⟨Z', hZ', Ag, rfl, ho, hb⟩
  have SZ7 : Hid (w6.heap.size ≤ w7.heap.size) := mkHid hb.size
  have B_7 := mkHid (below_step B_6.out hb)
  have P_7 := mkHid (P_6.out.below hb)
  have OW_4 := mkHid (OW_3.out.below hb)
  have GW_3 := mkHid (GW_2.out.below hb)
  have OX_2 := mkHid (OX_1.out.below hb)
  have GX_1 := mkHid (GX_0.out.below hb)
  clear B_6 P_6 OW_3 GW_2 OX_1 GX_0
  clear hb hw6 hXx q0 q1 q2
  have eZ : Z = Z' := HZ.out.one hZ'
  subst eZ
  clear hZ'
  have OG_0 := mkHid (ho)
  clear ho
  obtain ⟨Xg, hXg⟩ : ∃ x, w7.heap.size = x := ⟨_, rfl⟩
  obtain ⟨w8, hw8⟩ : ∃ x : World, w7.alloc (.cells #[.slice Ag.a0 Z.B.length Ag.c0, .slice Ag.a1 Z.V.length Ag.c1, .slice Ag.a2 Z.M.length Ag.c2] 31) = x := ⟨_, rfl⟩
  have hb : Below w7.heap.size w7 w8 := by rw [← hw8]; exact bl_alloc (Below.refl _ _) _
  have SZ8 : Hid (w7.heap.size + 1 ≤ w8.heap.size) := mkHid (by rw [← hw8]; simp)
  have QXg : Hid (w7.heap.size = Xg) := mkHid hXg
  have B_8 := mkHid (below_step B_7.out hb)
  have P_8 := mkHid (P_7.out.below hb)
  have OW_5 := mkHid (OW_4.out.below hb)
  have GW_4 := mkHid (GW_3.out.below hb)
  have OX_3 := mkHid (OX_2.out.below hb)
  have GX_2 := mkHid (GX_1.out.below hb)
  have OG_1 := mkHid (OG_0.out.below hb)
  clear B_7 P_7 OW_4 GW_3 OX_2 GX_1 OG_0
  have GG_0 : Hid (G3 w8 Xg (.slice Ag.a0 Z.B.length Ag.c0) (.slice Ag.a1 Z.V.length Ag.c1) (.slice Ag.a2 Z.M.length Ag.c2)) := mkHid (by rw [← hw8, ← hXg]; exact G3.new _ _ _ _ _)
  clear hb
  obtain ⟨q0, q1, q2, _, _, _⟩ := GG_0.out
  obtain ⟨r0, r1, r2, _, _, _⟩ := GW_4.out
  go_wp2_with fail
  refine (eqSeg_same Z Ag Ar _ HSZ.out OG_1.out.at OW_5.out.at).mono ?_
  rintro e w9 ⟨rfl, hb⟩
  have SZ9 : Hid (w8.heap.size ≤ w9.heap.size) := mkHid hb.size
  have B_9 := mkHid (below_step B_8.out hb)
  have P_9 := mkHid (P_8.out.below hb)
  have OW_6 := mkHid (OW_5.out.below hb)
  have GW_5 := mkHid (GW_4.out.below hb)
  have OX_4 := mkHid (OX_3.out.below hb)
  have GX_3 := mkHid (GX_2.out.below hb)
  have OG_2 := mkHid (OG_1.out.below hb)
  have GG_1 := mkHid (GG_0.out.below hb)
  clear B_8 P_8 OW_5 GW_4 OX_3 GX_2 OG_1 GG_0
  clear hb hw8 hXg q0 q1 q2 r0 r1 r2
  have LS_0 := mkHid ((HL.out.below B_9.out))
  obtain ⟨p0, p1, p2, _, _, _⟩ := P_9.out
  obtain ⟨q0, q1, q2, _, _, _⟩ := GX_3.out
  have hlx := P_9.out.lt
  have hly := GX_3.out.lt
  go_wp2_with fail
  go_region_held3 (fun w' => w'.cell? ⟨X, 0, none⟩ = some (.slice A.a0 S.B.length A.c0) ∧ w'.cell? ⟨X, 1, none⟩ = some (.slice A.a1 S.V.length A.c1) ∧ w'.cell? ⟨X, 2, none⟩ = some (.slice A.a2 S.M.length A.c2) ∧ w'.cell? ⟨Xx, 0, none⟩ = some (.slice Ax.a0 S.B.length Ax.c0) ∧ w'.cell? ⟨Xx, 1, none⟩ = some (.slice Ax.a1 S.V.length Ax.c1) ∧ w'.cell? ⟨Xx, 2, none⟩ = some (.slice Ax.a2 S.M.length Ax.c2))
    (first | exact ⟨p0, p1, p2, q0, q1, q2⟩ | exact ⟨(hc _ _ hlx).trans p0, (hc _ _ hlx).trans p1, (hc _ _ hlx).trans p2, (hc _ _ hly).trans q0, (hc _ _ hly).trans q1, (hc _ _ hly).trans q2⟩)
    (first | (go_at_call 8; refine (toSeg_any S A _ HM.out.b HM.out.t HM.out.v HM.out.m (LS_0.out.below (Below.refl _ _).drew)).mono ?_; rintro e w10 ⟨Ay, rfl, hox, hbx⟩; obtain ⟨hc, hf⟩ := bcell hbx) | (go_at_call 10; refine (eqSeg_same S Ax Ay _ HM.out ((OX_4.out.at.below (Below.refl _ _).drew).below hbx) hox.at).mono ?_; rintro e w11 ⟨rfl, hby⟩; obtain ⟨hc', hf'⟩ := bcell hby; have hc := fun b o (h : b < w9.drew.heap.size) => (hc' b o (Nat.lt_of_lt_of_le h hbx.size)).trans (hc b o h)))
  have hb := below_step (below_step (Below.refl w9.heap.size w9).drew hbx) hby
  have SZ11 : Hid (w9.heap.size ≤ w11.heap.size) := mkHid hb.size
  have B_10 := mkHid (below_step B_9.out hb)
  have P_10 := mkHid (P_9.out.below hb)
  have OW_7 := mkHid (OW_6.out.below hb)
  have GW_6 := mkHid (GW_5.out.below hb)
  have OX_5 := mkHid (OX_4.out.below hb)
  have GX_4 := mkHid (GX_3.out.below hb)
  have OG_3 := mkHid (OG_2.out.below hb)
  have GG_2 := mkHid (GG_1.out.below hb)
  have LS_1 := mkHid (LS_0.out.below hb)
  clear B_9 P_9 OW_6 GW_5 OX_4 GX_3 OG_2 GG_1 LS_0
  clear hb hc hc' hf hf' hbx hby hox p0 p1 p2 q0 q1 q2 hlx hly
  clear LS_1
  obtain ⟨q0, q1, q2, _, _, _⟩ := GX_4.out
  go_wp2_with fail
  refine (markSeg_ok S Ax _ _ 1 _ HM.out (by omega) (by omega) (by have := QX.out; have := QY.out; have := SZ1.out; have := SZ2.out; have := SZ3.out; have := SZ4.out; have := QXw.out; have := SZ5.out; have := SZ6.out; have := QXx.out; have := SZ7.out; have := SZ8.out; have := QXg.out; have := SZ9.out; have := SZ11.out; omega) OX_5.out).mono ?_
  rintro e w12 ⟨rfl, og, ho⟩
  have SZ12 : Hid (w11.heap.size ≤ w12.heap.size) := mkHid ho.size
  have B_11 := mkHid (Outs.below B_10.out ho (by have := QX.out; have := QY.out; have := SZ1.out; have := SZ2.out; have := SZ3.out; have := SZ4.out; have := QXw.out; have := SZ5.out; have := SZ6.out; have := QXx.out; have := SZ7.out; have := SZ8.out; have := QXg.out; have := SZ9.out; have := SZ11.out; omega) (Nat.le_refl _))
  have P_11 := mkHid (G3.outs P_10.out ho (.inl (by have := QX.out; have := QY.out; have := SZ1.out; have := SZ2.out; have := SZ3.out; have := SZ4.out; have := QXw.out; have := SZ5.out; have := SZ6.out; have := QXx.out; have := SZ7.out; have := SZ8.out; have := QXg.out; have := SZ9.out; have := SZ11.out; omega)))
  have OW_8 := mkHid (OwnS.outs OW_7.out ho (.inl (by have := QX.out; have := QY.out; have := SZ1.out; have := SZ2.out; have := SZ3.out; have := SZ4.out; have := QXw.out; have := SZ5.out; have := SZ6.out; have := QXx.out; have := SZ7.out; have := SZ8.out; have := QXg.out; have := SZ9.out; have := SZ11.out; omega)))
  have GW_7 := mkHid (G3.outs GW_6.out ho (.inl (by have := QX.out; have := QY.out; have := SZ1.out; have := SZ2.out; have := SZ3.out; have := SZ4.out; have := QXw.out; have := SZ5.out; have := SZ6.out; have := QXx.out; have := SZ7.out; have := SZ8.out; have := QXg.out; have := SZ9.out; have := SZ11.out; omega)))
  have OX_6 := mkHid (og)
  have GX_5 := mkHid (G3.outs GX_4.out ho (.inr (by have := QX.out; have := QY.out; have := SZ1.out; have := SZ2.out; have := SZ3.out; have := SZ4.out; have := QXw.out; have := SZ5.out; have := SZ6.out; have := QXx.out; have := SZ7.out; have := SZ8.out; have := QXg.out; have := SZ9.out; have := SZ11.out; omega)))
  have OG_4 := mkHid (OwnS.outs OG_3.out ho (.inr (by have := QX.out; have := QY.out; have := SZ1.out; have := SZ2.out; have := SZ3.out; have := SZ4.out; have := QXw.out; have := SZ5.out; have := SZ6.out; have := QXx.out; have := SZ7.out; have := SZ8.out; have := QXg.out; have := SZ9.out; have := SZ11.out; omega)))
  have GG_3 := mkHid (G3.outs GG_2.out ho (.inr (by have := QX.out; have := QY.out; have := SZ1.out; have := SZ2.out; have := SZ3.out; have := SZ4.out; have := QXw.out; have := SZ5.out; have := SZ6.out; have := QXx.out; have := SZ7.out; have := SZ8.out; have := QXg.out; have := SZ9.out; have := SZ11.out; omega)))
  clear B_10 P_10 OW_7 GW_6 OX_5 GX_4 OG_3 GG_2
  clear ho og q0 q1 q2
  obtain ⟨m1, hm1⟩ : ∃ m, 1 + cntS S = m := ⟨_, rfl⟩
  have hm2a : ¬ m1 < 0 := by have := cntS_nonneg S; omega
  rw [hm1]
  clear hm1
  obtain ⟨q0, q1, q2, _, _, _⟩ := GG_3.out
  obtain ⟨r0, r1, r2, _, _, _⟩ := GW_7.out
  go_wp2_with fail
  refine (eqSeg_same Z Ag Ar _ HSZ.out OG_4.out.at OW_8.out.at).mono ?_
  rintro e w13 ⟨rfl, hb⟩
  have SZ13 : Hid (w12.heap.size ≤ w13.heap.size) := mkHid hb.size
  have B_12 := mkHid (below_step B_11.out hb)
  have P_12 := mkHid (P_11.out.below hb)
  have OW_9 := mkHid (OW_8.out.below hb)
  have GW_8 := mkHid (GW_7.out.below hb)
  have OX_7 := mkHid (OX_6.out.below hb)
  have GX_6 := mkHid (GX_5.out.below hb)
  have OG_5 := mkHid (OG_4.out.below hb)
  have GG_4 := mkHid (GG_3.out.below hb)
  clear B_11 P_11 OW_8 GW_7 OX_6 GX_5 OG_4 GG_3
  clear hb q0 q1 q2 r0 r1 r2
  clear OX_7
  clear GX_6
  obtain ⟨q0, q1, q2, _, _, _⟩ := GG_4.out
  go_wp2_with fail
  refine (markSeg_ok Z Ag _ _ 1 _ HSZ.out (by omega) (by omega) (by have := QX.out; have := QY.out; have := SZ1.out; have := SZ2.out; have := SZ3.out; have := SZ4.out; have := QXw.out; have := SZ5.out; have := SZ6.out; have := QXx.out; have := SZ7.out; have := SZ8.out; have := QXg.out; have := SZ9.out; have := SZ11.out; have := SZ12.out; have := SZ13.out; omega) OG_5.out).mono ?_
  rintro e w14 ⟨rfl, og, ho⟩
  have SZ14 : Hid (w13.heap.size ≤ w14.heap.size) := mkHid ho.size
  have B_13 := mkHid (Outs.below B_12.out ho (by have := QX.out; have := QY.out; have := SZ1.out; have := SZ2.out; have := SZ3.out; have := SZ4.out; have := QXw.out; have := SZ5.out; have := SZ6.out; have := QXx.out; have := SZ7.out; have := SZ8.out; have := QXg.out; have := SZ9.out; have := SZ11.out; have := SZ12.out; have := SZ13.out; omega) (Nat.le_refl _))
  have P_13 := mkHid (G3.outs P_12.out ho (.inl (by have := QX.out; have := QY.out; have := SZ1.out; have := SZ2.out; have := SZ3.out; have := SZ4.out; have := QXw.out; have := SZ5.out; have := SZ6.out; have := QXx.out; have := SZ7.out; have := SZ8.out; have := QXg.out; have := SZ9.out; have := SZ11.out; have := SZ12.out; have := SZ13.out; omega)))
  have OW_10 := mkHid (OwnS.outs OW_9.out ho (.inl (by have := QX.out; have := QY.out; have := SZ1.out; have := SZ2.out; have := SZ3.out; have := SZ4.out; have := QXw.out; have := SZ5.out; have := SZ6.out; have := QXx.out; have := SZ7.out; have := SZ8.out; have := QXg.out; have := SZ9.out; have := SZ11.out; have := SZ12.out; have := SZ13.out; omega)))
  have GW_9 := mkHid (G3.outs GW_8.out ho (.inl (by have := QX.out; have := QY.out; have := SZ1.out; have := SZ2.out; have := SZ3.out; have := SZ4.out; have := QXw.out; have := SZ5.out; have := SZ6.out; have := QXx.out; have := SZ7.out; have := SZ8.out; have := QXg.out; have := SZ9.out; have := SZ11.out; have := SZ12.out; have := SZ13.out; omega)))
  have OG_6 := mkHid (og)
  have GG_5 := mkHid (G3.outs GG_4.out ho (.inr (by have := QX.out; have := QY.out; have := SZ1.out; have := SZ2.out; have := SZ3.out; have := SZ4.out; have := QXw.out; have := SZ5.out; have := SZ6.out; have := QXx.out; have := SZ7.out; have := SZ8.out; have := QXg.out; have := SZ9.out; have := SZ11.out; have := SZ12.out; have := SZ13.out; omega)))
  clear B_12 P_12 OW_9 GW_8 OG_5 GG_4
  clear ho og q0 q1 q2
  obtain ⟨m, hm⟩ : ∃ m, 1 + cntS Z = m := ⟨_, rfl⟩
  have hm0 : ¬ m < 0 := by have := cntS_nonneg Z; omega
  have hmm : (m != m) = false := by simp
  have HMm := mkHid hm
  rw [hm]
  clear hm
  obtain ⟨q0, q1, q2, _, _, _⟩ := GG_5.out
  go_wp2_with fail
  refine (heldSeg_ok Z Ag 1 _ HSZ.out (by omega) (by omega) OG_6.out.at).mono ?_
  rintro e w15 ⟨rfl, hb⟩
  have SZ15 : Hid (w14.heap.size ≤ w15.heap.size) := mkHid hb.size
  have B_14 := mkHid (below_step B_13.out hb)
  have P_14 := mkHid (P_13.out.below hb)
  have OW_11 := mkHid (OW_10.out.below hb)
  have GW_10 := mkHid (GW_9.out.below hb)
  have OG_7 := mkHid (OG_6.out.below hb)
  have GG_6 := mkHid (GG_5.out.below hb)
  clear B_13 P_13 OW_10 GW_9 OG_6 GG_5
  clear hb q0 q1 q2
  rw [HMm.out]
  obtain ⟨q0, q1, q2, _, _, _⟩ := P_14.out
  go_wp2_with fail
  refine (toSeg_any S A _ HM.out.b HM.out.t HM.out.v HM.out.m (HL.out.below B_14.out)).mono ?_
  rintro e w16 ⟨Av, rfl, ho, hb⟩
  have SZ16 : Hid (w15.heap.size ≤ w16.heap.size) := mkHid hb.size
  have B_15 := mkHid (below_step B_14.out hb)
  have P_15 := mkHid (P_14.out.below hb)
  have OW_12 := mkHid (OW_11.out.below hb)
  have GW_11 := mkHid (GW_10.out.below hb)
  have OG_8 := mkHid (OG_7.out.below hb)
  have GG_7 := mkHid (GG_6.out.below hb)
  clear B_14 P_14 OW_11 GW_10 OG_7 GG_6
  clear hb q0 q1 q2
  have Ov_0 := mkHid (ho)
  clear ho
  go_wp2_with fail
  refine (iShift_any n lv S Av v c _ HM.out Ov_0.out.at).mono ?_
  rintro e w17 ⟨Z', hZ', Ah, rfl, ho, hb⟩
  have SZ17 : Hid (w16.heap.size ≤ w17.heap.size) := mkHid hb.size
  have B_16 := mkHid (below_step B_15.out hb)
  have P_16 := mkHid (P_15.out.below hb)
  have OW_13 := mkHid (OW_12.out.below hb)
  have GW_12 := mkHid (GW_11.out.below hb)
  have OG_9 := mkHid (OG_8.out.below hb)
  have GG_8 := mkHid (GG_7.out.below hb)
  have Ov_1 := mkHid (Ov_0.out.below hb)
  clear B_15 P_15 OW_12 GW_11 OG_8 GG_7 Ov_0
  clear hb 
  have eZ : Z = Z' := HZ.out.one hZ'
  subst eZ
  clear hZ'
  have OH_0 := mkHid (ho)
  clear ho
  clear Ov_1
  obtain ⟨Xh, hXh⟩ : ∃ x, w17.heap.size = x := ⟨_, rfl⟩
  obtain ⟨w18, hw18⟩ : ∃ x : World, w17.alloc (.cells #[.slice Ah.a0 Z.B.length Ah.c0, .slice Ah.a1 Z.V.length Ah.c1, .slice Ah.a2 Z.M.length Ah.c2] 31) = x := ⟨_, rfl⟩
  have hb : Below w17.heap.size w17 w18 := by rw [← hw18]; exact bl_alloc (Below.refl _ _) _
  have SZ18 : Hid (w17.heap.size + 1 ≤ w18.heap.size) := mkHid (by rw [← hw18]; simp)
  have QXh : Hid (w17.heap.size = Xh) := mkHid hXh
  have B_17 := mkHid (below_step B_16.out hb)
  have P_17 := mkHid (P_16.out.below hb)
  have OW_14 := mkHid (OW_13.out.below hb)
  have GW_13 := mkHid (GW_12.out.below hb)
  have OG_10 := mkHid (OG_9.out.below hb)
  have GG_9 := mkHid (GG_8.out.below hb)
  have OH_1 := mkHid (OH_0.out.below hb)
  clear B_16 P_16 OW_13 GW_12 OG_9 GG_8 OH_0
  have GH_0 : Hid (G3 w18 Xh (.slice Ah.a0 Z.B.length Ah.c0) (.slice Ah.a1 Z.V.length Ah.c1) (.slice Ah.a2 Z.M.length Ah.c2)) := mkHid (by rw [← hw18, ← hXh]; exact G3.new _ _ _ _ _)
  clear hb
  obtain ⟨q0, q1, q2, _, _, _⟩ := GH_0.out
  obtain ⟨r0, r1, r2, _, _, _⟩ := GW_13.out
  go_wp2_with fail
  refine (eqSeg_same Z Ah Ar _ HSZ.out OH_1.out.at OW_14.out.at).mono ?_
  rintro e w19 ⟨rfl, hb⟩
  have SZ19 : Hid (w18.heap.size ≤ w19.heap.size) := mkHid hb.size
  have B_18 := mkHid (below_step B_17.out hb)
  have P_18 := mkHid (P_17.out.below hb)
  have OW_15 := mkHid (OW_14.out.below hb)
  have GW_14 := mkHid (GW_13.out.below hb)
  have OG_11 := mkHid (OG_10.out.below hb)
  have GG_10 := mkHid (GG_9.out.below hb)
  have OH_2 := mkHid (OH_1.out.below hb)
  have GH_1 := mkHid (GH_0.out.below hb)
  clear B_17 P_17 OW_14 GW_13 OG_10 GG_9 OH_1 GH_0
  clear hb hw18 hXh q0 q1 q2 r0 r1 r2
  obtain ⟨q0, q1, q2, _, _, _⟩ := GG_10.out
  go_wp2_with fail
  refine (heldSeg_ok Z Ag 1 _ HSZ.out (by omega) (by omega) OG_11.out.at).mono ?_
  rintro e w20 ⟨rfl, hb⟩
  have SZ20 : Hid (w19.heap.size ≤ w20.heap.size) := mkHid hb.size
  have B_19 := mkHid (below_step B_18.out hb)
  have P_19 := mkHid (P_18.out.below hb)
  have OW_16 := mkHid (OW_15.out.below hb)
  have GW_15 := mkHid (GW_14.out.below hb)
  have OG_12 := mkHid (OG_11.out.below hb)
  have GG_11 := mkHid (GG_10.out.below hb)
  have OH_3 := mkHid (OH_2.out.below hb)
  have GH_2 := mkHid (GH_1.out.below hb)
  clear B_18 P_18 OW_15 GW_14 OG_11 GG_10 OH_2 GH_1
  clear hb q0 q1 q2
  rw [HMm.out]
  go_wp2
  go_ret
  exact ⟨rfl, B_19.out⟩

set_option maxRecDepth 100000 in
theorem law_lifted (os : Os) (started : os.Started) (H : Type) (enc : TypeId × Value → H) :
    ReturnsInHanded {} Tryz.checked os 4 .any (Rows.fnExactSegShiftSpec.pre6 enc Tryz.prog Tryz.f4 Rows.fnExactSegShiftRow.domain false) (Rows.fnExactSegShiftSpec.post enc Tryz.prog Tryz.f4 false true false false) := by
  refine returnsInHanded_of_change (C := Tryz.checked) Tryz.own started (by kernel_rfl) Tryz.func4
    (ChangeSpec.witness6 (enc := enc) (C := Tryz.checked) false ⟨#[], #[.int .i64 0, .int .i64 0, .agg #[.slice none 0 0, .slice none 0 0, .slice none 0 0], .int .i64 0, .int .i64 0], []⟩ 8 (by kernel_rfl) (by kernel_rfl) (by kernel_rfl) (by kernel_rfl)) ?_
  intro W base args ds gs before hval0 hW hcnd _
  have hval : ∀ (j : Nat) t v, Tryz.f4.params[j]? = some t → args[j]? = some v → Value.okWide Tryz.prog W .any base t v := hval0
  have hW' := hW
  obtain ⟨p, q, hA0, hV, rfl, hfz, hnd⟩ := hW
  have hA : DataW.TrodAll enc Tryz.prog W 0 (fun _ => true) true Tryz.f4.params.toList args.toList ds p := hA0
  rw [Tryz.params4] at hA hval
  obtain ⟨v0, vs0, d0, ds0, p0, q0, hargs, rfl, rfl, h0, r0⟩ := trodAll_cons hA
  obtain ⟨v1, vs1, d1, ds1, p1, q1, rfl, rfl, rfl, h1, r1⟩ := trodAll_cons r0
  obtain ⟨v2, vs2, d2, ds2, p2, q2, rfl, rfl, rfl, h2, r2⟩ := trodAll_cons r1
  obtain ⟨v3, vs3, d3, ds3, p3, q3, rfl, rfl, rfl, h3, r3⟩ := trodAll_cons r2
  obtain ⟨v4, vs4, d4, ds4, p4, q4, rfl, rfl, rfl, h4, r4⟩ := trodAll_cons r3
  obtain ⟨rfl, rfl, rfl⟩ := trodAll_nil r4
  obtain rfl : args = #[v0, v1, v2, v3, v4] := by cases args; simp_all
  obtain ⟨rfl, rfl⟩ := trodVars_none hV
  have k0 := h0
  have lt0 : ∀ x ∈ p0, x.block < W.heap.size := by obtain ⟨m, hm⟩ := k0; exact DataW.trod_lt m _ _ _ hm
  have k1 := h1
  have lt1 : ∀ x ∈ p1, x.block < W.heap.size := by obtain ⟨m, hm⟩ := k1; exact DataW.trod_lt m _ _ _ hm
  have k2 := h2
  have lt2 : ∀ x ∈ p2, x.block < W.heap.size := by obtain ⟨m, hm⟩ := k2; exact DataW.trod_lt m _ _ _ hm
  have k3 := h3
  have lt3 : ∀ x ∈ p3, x.block < W.heap.size := by obtain ⟨m, hm⟩ := k3; exact DataW.trod_lt m _ _ _ hm
  have k4 := h4
  have lt4 : ∀ x ∈ p4, x.block < W.heap.size := by obtain ⟨m, hm⟩ := k4; exact DataW.trod_lt m _ _ _ hm
  obtain ⟨x0, hv0, _, _, _⟩ := open_int Tryz.underlying3 (hval 0 3 v0 rfl rfl) h0
  subst hv0
  obtain ⟨x1, hv1, _, _, _⟩ := open_int Tryz.underlying3 (hval 1 3 v1 rfl rfl) h1
  subst hv1
  obtain ⟨S2, A2, hv2, hg2, hl2⟩ := open_seg (hval 2 26 v2 rfl rfl) h2
  subst hv2
  obtain ⟨x3, hv3, _, _, _⟩ := open_int Tryz.underlying3 (hval 3 3 v3 rfl rfl) h3
  subst hv3
  obtain ⟨x4, hv4, _, _, _⟩ := open_int Tryz.underlying3 (hval 4 3 v4 rfl rfl) h4
  subst hv4
  clear hA0 hval0
  refine (law_walk x0 x1 S2 A2 x3 x4 W hg2 hl2).mono fun e W' ⟨he, bel⟩ => ?_
  subst he
  exact ⟨_, rfl, _, _, _, [], _, [], hW', trodAll_mk1 (shut_bool Tryz.underlying4 _), (trodAll_cons_mk (Below.trod Tryz.laidOut (by kernel_rfl) (of_decide_eq_true (by kernel_rfl)) k0 bel lt0) (trodAll_cons_mk (Below.trod Tryz.laidOut (by kernel_rfl) (of_decide_eq_true (by kernel_rfl)) k1 bel lt1) (trodAll_cons_mk (Below.trod Tryz.laidOut (by kernel_rfl) (of_decide_eq_true (by kernel_rfl)) k2 bel lt2) (trodAll_cons_mk (Below.trod Tryz.laidOut (by kernel_rfl) (of_decide_eq_true (by kernel_rfl)) k3 bel lt3) (trodAll_cons_mk (Below.trod Tryz.laidOut (by kernel_rfl) (of_decide_eq_true (by kernel_rfl)) k4 bel lt4) trodAll_mk0))))), rfl, bel.frame _, fun h => by cases h⟩

theorem law_holds : Rows.FnExactSegShiftSaid :=
  OpenClaim.holds_of_wide 4 Tryz.f4 rfl rfl rfl rfl rfl rfl rfl ⟨rfl, rfl, rfl, rfl, rfl⟩ rfl rfl rfl rfl rfl (by kernel_rfl) Tryz.func4 (by kernel_rfl)
    (of_decide_eq_true (by kernel_rfl)) (by unfold Func.isWrapper; first | (rw [if_pos (by decide +kernel)]; kernel_rfl) | (rw [if_neg (by decide +kernel)]; exact ⟨rfl, rfl⟩))
    (fun os started H enc _ => law_lifted os started H enc)

#print axioms law_holds
end Go.Proofs.YtodjmpocpfkpaaaGreat
