/-
  FnExactSegDrop holds at every argument: the program's SegDrop answers as the specification's, field by field; it writes into no argument, and its answer owns its memory, behind another call too. No conditions.
-/
import Derived.Test.YtbfmljogfljhdaaGreatLmv
import Derived.Test.YtbfmljogfljhdaaGreatSdr
import Derived.Test.YtbfmljogfljhdaaGreatLmy
namespace Go.Proofs.YtbfmljogfljhdaaGreat
open Go.ChangeShapes Go.WideShapes Go.ChangeAt Go.RowKit Go.Joins

theorem szN_le {r : Int} {n : Nat} (h : r ≤ 1048576) : ¬ szN r n < 0 → n ≤ 1048576 := by
  unfold szN
  split <;> intro h2 <;> omega
theorem own_at {w : World} {base g c n : Nat} {l : List Y} (h : Own eY 39 w base (.slice (some ⟨g, 0, none⟩) n c) l) : Own eY 39 w g (.slice (some ⟨g, 0, none⟩) n c) l := by
  refine ⟨h.1, ?_⟩
  rcases h.2 with ⟨e, h0⟩ | ⟨g', cap, cur, e, h1, h2⟩
  · cases e
  · simp at e
    obtain ⟨rfl, rfl, rfl⟩ := e
    exact .inr ⟨g, _, cur, rfl, Nat.le_refl _, h2⟩
theorem tidyR_small : ∀ (B : List (List Y)) (V : List VV) (M : List Bool) (v : VV) (mb : Bool), (tidyR v mb B V M).1.length ≤ B.length ∧ tot (tidyR v mb B V M).1 ≤ tot B ∧ (tidyR v mb B V M).2.1.length ≤ V.length ∧ (tidyR v mb B V M).2.2.length ≤ M.length
  | [], _, _, _, _ => by simp [tidyR, tot]
  | _ :: _, [], _, _, _ => by simp [tidyR, tot]
  | _ :: _, _ :: _, [], _, _ => by simp [tidyR, tot]
  | b :: B, x :: V, m :: M, v, mb => by
    unfold tidyR
    split
    · have h := tidyR_small B V M (jv v x) (mb && m)
      simp only [List.length_cons, tot]
      omega
    · have h := tidyR_small B V M noneV true
      simp only [List.length_cons, tot]
      omega
theorem DropR.small {n l : Int} {T : List Y} {S Z : SG} (h : DropR n l T S Z) (hs : Small S) : Small Z := by
  by_cases e : OkS n l S.B S.V S.M ∧ T.length ≤ 40
  · rw [h.1 e, drop_tidyS l T S e.1.k1]
    have h1 := tidyR_small (S.B.map (outD l T)).tail S.V S.M noneV true
    have h2 := tot_map_le l T S.B
    obtain ⟨hb, ht, hv, hm⟩ := hs
    unfold tidyS
    cases hB : S.B with
    | nil => have := e.1.k1; rw [hB] at this; simp at this
    | cons b B =>
      rw [hB] at h1 h2 hb ht
      simp only [List.map_cons, List.tail_cons, List.length_cons, tot, List.length_map] at h1 h2 hb ht ⊢
      refine ⟨?_, ?_, ?_, ?_⟩ <;> (first | omega | (simp only [List.headD_cons, List.length_cons, tot]; omega))
  · rw [h.2 e]
    exact ⟨by simp [noS], by simp [noS, tot], by simp [noS], by simp [noS]⟩
set_option maxRecDepth 100000 in
set_option maxHeartbeats 3200000 in
theorem law_walk (n lv : Int) (S : SG) (A : SAd) (T : List Y) (a : Option Addr) (c : Nat) (w : World) (hg : Lim S) (hl : SegAt w A S) (htn : T.length ≤ maxLen) (ht : At eY w a T) : Calls Tryz.prog 5 #[.int .i64 n, .int .i64 lv, .agg #[.slice A.a0 S.B.length A.c0, .slice A.a1 S.V.length A.c1, .slice A.a2 S.M.length A.c2], .slice a T.length c] w fun e w' => e = .returned (.bool true) ∧ Below w.heap.size w w' := by
  have HG := mkHid hg
  have HL := mkHid hl
  have HTN := mkHid htn
  have HLT := mkHid ht
  clear hg hl htn ht
  obtain ⟨w0, hw0⟩ : ∃ x : World, w.alloc (.cells #[.slice A.a0 S.B.length A.c0, .slice A.a1 S.V.length A.c1, .slice A.a2 S.M.length A.c2] 47) = x := ⟨_, rfl⟩
  obtain ⟨X, hX⟩ : ∃ x, w.heap.size = x := ⟨_, rfl⟩
  have QX : Hid (w.heap.size = X) := mkHid hX
  have QY : Hid (w0.heap.size = X + 1) := mkHid (by rw [← hw0, ← hX]; simp)
  have B_0 : Hid (Below w.heap.size w w0) := mkHid (by rw [← hw0]; exact bl_alloc (Below.refl _ _) _)
  have P_0 : Hid (G3 w0 X (.slice A.a0 S.B.length A.c0) (.slice A.a1 S.V.length A.c1) (.slice A.a2 S.M.length A.c2)) := mkHid (by rw [← hw0, ← hX]; exact G3.new _ _ _ _ _)
  go_enter Tryz.func5, Tryz.ntmps5
  obtain ⟨q0, q1, q2, _, _, _⟩ := P_0.out
  go_wp2_with fail
  refine (szSeg_any S A _ HG.out.b HG.out.r HG.out.v HG.out.m 1048576 (by omega) (by omega) (HL.out.below B_0.out)).mono ?_
  rintro e w1 ⟨hb, r, rfl, hr⟩
  have HQ := mkHid hr
  have SZ1 : Hid (w0.heap.size ≤ w1.heap.size) := mkHid hb.size
  have B_1 := mkHid (below_step B_0.out hb)
  have P_1 := mkHid (P_0.out.below hb)
  clear B_0 P_0
  clear hb hr hw0 hX q0 q1 q2
  by_cases hneg : r < 0
  · go_wp2
    go_ret
    exact ⟨rfl, B_1.out⟩
  obtain ⟨hz1, hz2, hz3, hz4, hz5⟩ := HQ.out (by omega)
  have HM : Hid (Small S) := mkHid ⟨hz1, hz2, hz3, hz4⟩
  clear HQ hz1 hz2 hz3 hz4
  obtain ⟨q, hq⟩ : ∃ z, szN r T.length = z := ⟨_, rfl⟩
  have HQ : Hid (¬ q < 0 → T.length ≤ 1048576) := mkHid (by rw [← hq]; exact szN_le hz5)
  go_wp2_with fail
  refine (szSymS_any a T.length c r _ HTN.out (by omega) hz5).mono ?_
  rw [hq]
  clear hq
  rintro e w2 ⟨rfl, rfl⟩
  clear hz5 hneg
  by_cases hneg : q < 0
  · go_wp2
    go_ret
    exact ⟨rfl, B_1.out⟩
  have HN := mkHid (HQ.out (by omega))
  clear HQ
  obtain ⟨q0, q1, q2, _, _, _⟩ := P_1.out
  go_wp2_with fail
  refine (toSeg_any S A _ HM.out.b HM.out.t HM.out.v HM.out.m (HL.out.below B_1.out)).mono ?_
  rintro e w2 ⟨Aw, rfl, ho, hb⟩
  have SZ2 : Hid (w1.heap.size ≤ w2.heap.size) := mkHid hb.size
  have B_2 := mkHid (below_step B_1.out hb)
  have P_2 := mkHid (P_1.out.below hb)
  clear B_1 P_1
  clear hb q0 q1 q2
  have Ow_0 := mkHid (ho)
  clear ho
  go_wp2_with fail
  refine (toSymS_any T a c _ HN.out (HLT.out.below B_2.out)).mono ?_
  rintro e w3 ⟨gw, rfl, ho, hb⟩
  have SZ3 : Hid (w2.heap.size ≤ w3.heap.size) := mkHid hb.size
  have B_3 := mkHid (below_step B_2.out hb)
  have P_3 := mkHid (P_2.out.below hb)
  have Ow_1 := mkHid (Ow_0.out.below hb)
  clear B_2 P_2 Ow_0
  clear hb 
  have Gw : Hid (w2.heap.size ≤ gw ∧ gw < w3.heap.size) := mkHid ((ho.lt (q := gw) rfl))
  have Iw_0 := mkHid (ho)
  clear ho
  go_wp2_with fail
  refine (sDrop_any n lv S Aw T _ T.length _ HM.out HN.out Ow_1.out.at Iw_0.out.at).mono ?_
  rintro e w4 ⟨Z, hZ, Ar, rfl, ho, hb⟩
  have SZ4 : Hid (w3.heap.size ≤ w4.heap.size) := mkHid hb.size
  have B_4 := mkHid (below_step B_3.out hb)
  have P_4 := mkHid (P_3.out.below hb)
  have Ow_2 := mkHid (Ow_1.out.below hb)
  have Iw_1 := mkHid (Iw_0.out.below hb)
  clear B_3 P_3 Ow_1 Iw_0
  clear hb 
  have OW_0 := mkHid (ho)
  have HZ := mkHid hZ
  have HSZ : Hid (Small Z) := mkHid (hZ.small HM.out)
  clear hZ ho
  clear Ow_2
  clear Iw_1
  obtain ⟨Xw, hXw⟩ : ∃ x, w4.heap.size = x := ⟨_, rfl⟩
  obtain ⟨w5, hw5⟩ : ∃ x : World, w4.alloc (.cells #[.slice Ar.a0 Z.B.length Ar.c0, .slice Ar.a1 Z.V.length Ar.c1, .slice Ar.a2 Z.M.length Ar.c2] 28) = x := ⟨_, rfl⟩
  have hb : Below w4.heap.size w4 w5 := by rw [← hw5]; exact bl_alloc (Below.refl _ _) _
  have SZ5 : Hid (w4.heap.size + 1 ≤ w5.heap.size) := mkHid (by rw [← hw5]; simp)
  have QXw : Hid (w4.heap.size = Xw) := mkHid hXw
  have B_5 := mkHid (below_step B_4.out hb)
  have P_5 := mkHid (P_4.out.below hb)
  have OW_1 := mkHid (OW_0.out.below hb)
  clear B_4 P_4 OW_0
  have GW_0 : Hid (G3 w5 Xw (.slice Ar.a0 Z.B.length Ar.c0) (.slice Ar.a1 Z.V.length Ar.c1) (.slice Ar.a2 Z.M.length Ar.c2)) := mkHid (by rw [← hw5, ← hXw]; exact G3.new _ _ _ _ _)
  clear hb
  obtain ⟨p0, p1, p2, _, _, _⟩ := P_5.out
  go_wp2_with fail
  refine (toSeg_any S A _ HM.out.b HM.out.t HM.out.v HM.out.m (HL.out.below B_5.out)).mono ?_
  rintro e w6 ⟨Ax, rfl, ho, hb⟩
  have SZ6 : Hid (w5.heap.size ≤ w6.heap.size) := mkHid hb.size
  have B_6 := mkHid (below_step B_5.out hb)
  have P_6 := mkHid (P_5.out.below hb)
  have OW_2 := mkHid (OW_1.out.below hb)
  have GW_1 := mkHid (GW_0.out.below hb)
  clear B_5 P_5 OW_1 GW_0
  clear hb hw5 hXw p0 p1 p2
  have OX_0 := mkHid (ho)
  clear ho
  obtain ⟨Xx, hXx⟩ : ∃ x, w6.heap.size = x := ⟨_, rfl⟩
  obtain ⟨w7, hw7⟩ : ∃ x : World, w6.alloc (.cells #[.slice Ax.a0 S.B.length Ax.c0, .slice Ax.a1 S.V.length Ax.c1, .slice Ax.a2 S.M.length Ax.c2] 28) = x := ⟨_, rfl⟩
  have hb : Below w6.heap.size w6 w7 := by rw [← hw7]; exact bl_alloc (Below.refl _ _) _
  have SZ7 : Hid (w6.heap.size + 1 ≤ w7.heap.size) := mkHid (by rw [← hw7]; simp)
  have QXx : Hid (w6.heap.size = Xx) := mkHid hXx
  have B_7 := mkHid (below_step B_6.out hb)
  have P_7 := mkHid (P_6.out.below hb)
  have OW_3 := mkHid (OW_2.out.below hb)
  have GW_2 := mkHid (GW_1.out.below hb)
  have OX_1 := mkHid (OX_0.out.below hb)
  clear B_6 P_6 OW_2 GW_1 OX_0
  have GX_0 : Hid (G3 w7 Xx (.slice Ax.a0 S.B.length Ax.c0) (.slice Ax.a1 S.V.length Ax.c1) (.slice Ax.a2 S.M.length Ax.c2)) := mkHid (by rw [← hw7, ← hXx]; exact G3.new _ _ _ _ _)
  clear hb
  go_wp2_with fail
  refine (toSymS_any T a c _ HN.out (HLT.out.below B_7.out)).mono ?_
  rintro e w8 ⟨gx, rfl, ho, hb⟩
  have SZ8 : Hid (w7.heap.size ≤ w8.heap.size) := mkHid hb.size
  have B_8 := mkHid (below_step B_7.out hb)
  have P_8 := mkHid (P_7.out.below hb)
  have OW_4 := mkHid (OW_3.out.below hb)
  have GW_3 := mkHid (GW_2.out.below hb)
  have OX_2 := mkHid (OX_1.out.below hb)
  have GX_1 := mkHid (GX_0.out.below hb)
  clear B_7 P_7 OW_3 GW_2 OX_1 GX_0
  clear hb hw7 hXx
  have Gx : Hid (w7.heap.size ≤ gx ∧ gx < w8.heap.size) := mkHid ((ho.lt (q := gx) rfl))
  have IX_0 := mkHid (ho)
  clear ho
  obtain ⟨q0, q1, q2, _, _, _⟩ := GX_1.out
  go_wp2_with fail
  refine (iDrop_any n lv S Ax T _ T.length _ HM.out HN.out OX_2.out.at IX_0.out.at).mono ?_
  rintro e w9 ⟨Z', hZ', Ag, rfl, ho, hb⟩
  have SZ9 : Hid (w8.heap.size ≤ w9.heap.size) := mkHid hb.size
  have B_9 := mkHid (below_step B_8.out hb)
  have P_9 := mkHid (P_8.out.below hb)
  have OW_5 := mkHid (OW_4.out.below hb)
  have GW_4 := mkHid (GW_3.out.below hb)
  have OX_3 := mkHid (OX_2.out.below hb)
  have GX_2 := mkHid (GX_1.out.below hb)
  have IX_1 := mkHid (IX_0.out.below hb)
  clear B_8 P_8 OW_4 GW_3 OX_2 GX_1 IX_0
  clear hb q0 q1 q2
  have eZ : Z = Z' := HZ.out.one hZ'
  subst eZ
  clear hZ'
  have OG_0 := mkHid (ho)
  clear ho
  obtain ⟨Xg, hXg⟩ : ∃ x, w9.heap.size = x := ⟨_, rfl⟩
  obtain ⟨w10, hw10⟩ : ∃ x : World, w9.alloc (.cells #[.slice Ag.a0 Z.B.length Ag.c0, .slice Ag.a1 Z.V.length Ag.c1, .slice Ag.a2 Z.M.length Ag.c2] 28) = x := ⟨_, rfl⟩
  have hb : Below w9.heap.size w9 w10 := by rw [← hw10]; exact bl_alloc (Below.refl _ _) _
  have SZ10 : Hid (w9.heap.size + 1 ≤ w10.heap.size) := mkHid (by rw [← hw10]; simp)
  have QXg : Hid (w9.heap.size = Xg) := mkHid hXg
  have B_10 := mkHid (below_step B_9.out hb)
  have P_10 := mkHid (P_9.out.below hb)
  have OW_6 := mkHid (OW_5.out.below hb)
  have GW_5 := mkHid (GW_4.out.below hb)
  have OX_4 := mkHid (OX_3.out.below hb)
  have GX_3 := mkHid (GX_2.out.below hb)
  have IX_2 := mkHid (IX_1.out.below hb)
  have OG_1 := mkHid (OG_0.out.below hb)
  clear B_9 P_9 OW_5 GW_4 OX_3 GX_2 IX_1 OG_0
  have GG_0 : Hid (G3 w10 Xg (.slice Ag.a0 Z.B.length Ag.c0) (.slice Ag.a1 Z.V.length Ag.c1) (.slice Ag.a2 Z.M.length Ag.c2)) := mkHid (by rw [← hw10, ← hXg]; exact G3.new _ _ _ _ _)
  clear hb
  obtain ⟨q0, q1, q2, _, _, _⟩ := GG_0.out
  obtain ⟨r0, r1, r2, _, _, _⟩ := GW_5.out
  go_wp2_with fail
  refine (eqSeg_same Z Ag Ar _ HSZ.out OG_1.out.at OW_6.out.at).mono ?_
  rintro e w11 ⟨rfl, hb⟩
  have SZ11 : Hid (w10.heap.size ≤ w11.heap.size) := mkHid hb.size
  have B_11 := mkHid (below_step B_10.out hb)
  have P_11 := mkHid (P_10.out.below hb)
  have OW_7 := mkHid (OW_6.out.below hb)
  have GW_6 := mkHid (GW_5.out.below hb)
  have OX_5 := mkHid (OX_4.out.below hb)
  have GX_4 := mkHid (GX_3.out.below hb)
  have IX_3 := mkHid (IX_2.out.below hb)
  have OG_2 := mkHid (OG_1.out.below hb)
  have GG_1 := mkHid (GG_0.out.below hb)
  clear B_10 P_10 OW_6 GW_5 OX_4 GX_3 IX_2 OG_1 GG_0
  clear hb hw10 hXg q0 q1 q2 r0 r1 r2
  have LS_0 := mkHid ((HL.out.below B_11.out))
  obtain ⟨p0, p1, p2, _, _, _⟩ := P_11.out
  obtain ⟨q0, q1, q2, _, _, _⟩ := GX_4.out
  have hlx := P_11.out.lt
  have hly := GX_4.out.lt
  go_wp2_with fail
  go_region_held3 (fun w' => w'.cell? ⟨X, 0, none⟩ = some (.slice A.a0 S.B.length A.c0) ∧ w'.cell? ⟨X, 1, none⟩ = some (.slice A.a1 S.V.length A.c1) ∧ w'.cell? ⟨X, 2, none⟩ = some (.slice A.a2 S.M.length A.c2) ∧ w'.cell? ⟨Xx, 0, none⟩ = some (.slice Ax.a0 S.B.length Ax.c0) ∧ w'.cell? ⟨Xx, 1, none⟩ = some (.slice Ax.a1 S.V.length Ax.c1) ∧ w'.cell? ⟨Xx, 2, none⟩ = some (.slice Ax.a2 S.M.length Ax.c2))
    (first | exact ⟨p0, p1, p2, q0, q1, q2⟩ | exact ⟨(hc _ _ hlx).trans p0, (hc _ _ hlx).trans p1, (hc _ _ hlx).trans p2, (hc _ _ hly).trans q0, (hc _ _ hly).trans q1, (hc _ _ hly).trans q2⟩)
    (first | (go_at_call 19; refine (toSeg_any S A _ HM.out.b HM.out.t HM.out.v HM.out.m (LS_0.out.below (Below.refl _ _).drew)).mono ?_; rintro e w12 ⟨Ay, rfl, hox, hbx⟩; obtain ⟨hc, hf⟩ := bcell hbx) | (go_at_call 22; refine (eqSeg_same S Ax Ay _ HM.out ((OX_5.out.at.below (Below.refl _ _).drew).below hbx) hox.at).mono ?_; rintro e w13 ⟨rfl, hby⟩; obtain ⟨hc', hf'⟩ := bcell hby; have hc := fun b o (h : b < w11.drew.heap.size) => (hc' b o (Nat.lt_of_lt_of_le h hbx.size)).trans (hc b o h)))
  have hb := below_step (below_step (Below.refl w11.heap.size w11).drew hbx) hby
  have SZ13 : Hid (w11.heap.size ≤ w13.heap.size) := mkHid hb.size
  have B_12 := mkHid (below_step B_11.out hb)
  have P_12 := mkHid (P_11.out.below hb)
  have OW_8 := mkHid (OW_7.out.below hb)
  have GW_7 := mkHid (GW_6.out.below hb)
  have OX_6 := mkHid (OX_5.out.below hb)
  have GX_5 := mkHid (GX_4.out.below hb)
  have IX_4 := mkHid (IX_3.out.below hb)
  have OG_3 := mkHid (OG_2.out.below hb)
  have GG_2 := mkHid (GG_1.out.below hb)
  have LS_1 := mkHid (LS_0.out.below hb)
  clear B_11 P_11 OW_7 GW_6 OX_5 GX_4 IX_3 OG_2 GG_1 LS_0
  clear hb hc hc' hf hf' hbx hby hox p0 p1 p2 q0 q1 q2 hlx hly
  clear LS_1
  go_wp2_with fail
  refine (toSymS_any T a c _ HN.out (HLT.out.below B_12.out)).mono ?_
  rintro e w14 ⟨gy, rfl, ho, hb⟩
  have SZ14 : Hid (w13.heap.size ≤ w14.heap.size) := mkHid hb.size
  have B_13 := mkHid (below_step B_12.out hb)
  have P_13 := mkHid (P_12.out.below hb)
  have OW_9 := mkHid (OW_8.out.below hb)
  have GW_8 := mkHid (GW_7.out.below hb)
  have OX_7 := mkHid (OX_6.out.below hb)
  have GX_6 := mkHid (GX_5.out.below hb)
  have IX_5 := mkHid (IX_4.out.below hb)
  have OG_4 := mkHid (OG_3.out.below hb)
  have GG_3 := mkHid (GG_2.out.below hb)
  clear B_12 P_12 OW_8 GW_7 OX_6 GX_5 IX_4 OG_3 GG_2
  clear hb 
  have IY_0 := mkHid (ho)
  clear ho
  go_wp2_with fail
  refine (eqSymS_same T _ _ _ _ _ (by have := HN.out; unfold maxLen; omega) IX_5.out.at IY_0.out.at).mono ?_
  rintro e w15 ⟨rfl, hb⟩
  have SZ15 : Hid (w14.heap.size ≤ w15.heap.size) := mkHid hb.size
  have B_14 := mkHid (below_step B_13.out hb)
  have P_14 := mkHid (P_13.out.below hb)
  have OW_10 := mkHid (OW_9.out.below hb)
  have GW_9 := mkHid (GW_8.out.below hb)
  have OX_8 := mkHid (OX_7.out.below hb)
  have GX_7 := mkHid (GX_6.out.below hb)
  have IX_6 := mkHid (IX_5.out.below hb)
  have OG_5 := mkHid (OG_4.out.below hb)
  have GG_4 := mkHid (GG_3.out.below hb)
  have IY_1 := mkHid (IY_0.out.below hb)
  clear B_13 P_13 OW_9 GW_8 OX_7 GX_6 IX_5 OG_4 GG_3 IY_0
  clear hb 
  clear IY_1
  have IXb : Hid (Own eY 39 w15 gx (.slice (some ⟨gx, 0, none⟩) T.length T.length) T) := mkHid (own_at IX_6.out)
  clear IXb
  obtain ⟨q0, q1, q2, _, _, _⟩ := GX_7.out
  go_wp2_with fail
  refine (markSeg_ok S Ax _ _ 1 _ HM.out (by omega) (by omega) (by have := QX.out; have := QY.out; have := SZ1.out; have := SZ2.out; have := SZ3.out; have := Gw.out; have := SZ4.out; have := SZ5.out; have := QXw.out; have := SZ6.out; have := SZ7.out; have := QXx.out; have := SZ8.out; have := Gx.out; have := SZ9.out; have := SZ10.out; have := QXg.out; have := SZ11.out; have := SZ13.out; have := SZ14.out; have := SZ15.out; omega) OX_8.out).mono ?_
  rintro e w16 ⟨rfl, og, ho⟩
  have SZ16 : Hid (w15.heap.size ≤ w16.heap.size) := mkHid ho.size
  have B_15 := mkHid (Outs.below B_14.out ho (by have := QX.out; have := QY.out; have := SZ1.out; have := SZ2.out; have := SZ3.out; have := Gw.out; have := SZ4.out; have := SZ5.out; have := QXw.out; have := SZ6.out; have := SZ7.out; have := QXx.out; have := SZ8.out; have := Gx.out; have := SZ9.out; have := SZ10.out; have := QXg.out; have := SZ11.out; have := SZ13.out; have := SZ14.out; have := SZ15.out; omega) (Nat.le_refl _))
  have P_15 := mkHid (G3.outs P_14.out ho (.inl (by have := QX.out; have := QY.out; have := SZ1.out; have := SZ2.out; have := SZ3.out; have := Gw.out; have := SZ4.out; have := SZ5.out; have := QXw.out; have := SZ6.out; have := SZ7.out; have := QXx.out; have := SZ8.out; have := Gx.out; have := SZ9.out; have := SZ10.out; have := QXg.out; have := SZ11.out; have := SZ13.out; have := SZ14.out; have := SZ15.out; omega)))
  have OW_11 := mkHid (OwnS.outs OW_10.out ho (.inl (by have := QX.out; have := QY.out; have := SZ1.out; have := SZ2.out; have := SZ3.out; have := Gw.out; have := SZ4.out; have := SZ5.out; have := QXw.out; have := SZ6.out; have := SZ7.out; have := QXx.out; have := SZ8.out; have := Gx.out; have := SZ9.out; have := SZ10.out; have := QXg.out; have := SZ11.out; have := SZ13.out; have := SZ14.out; have := SZ15.out; omega)))
  have GW_10 := mkHid (G3.outs GW_9.out ho (.inl (by have := QX.out; have := QY.out; have := SZ1.out; have := SZ2.out; have := SZ3.out; have := Gw.out; have := SZ4.out; have := SZ5.out; have := QXw.out; have := SZ6.out; have := SZ7.out; have := QXx.out; have := SZ8.out; have := Gx.out; have := SZ9.out; have := SZ10.out; have := QXg.out; have := SZ11.out; have := SZ13.out; have := SZ14.out; have := SZ15.out; omega)))
  have OX_9 := mkHid (og)
  have GX_8 := mkHid (G3.outs GX_7.out ho (.inr (by have := QX.out; have := QY.out; have := SZ1.out; have := SZ2.out; have := SZ3.out; have := Gw.out; have := SZ4.out; have := SZ5.out; have := QXw.out; have := SZ6.out; have := SZ7.out; have := QXx.out; have := SZ8.out; have := Gx.out; have := SZ9.out; have := SZ10.out; have := QXg.out; have := SZ11.out; have := SZ13.out; have := SZ14.out; have := SZ15.out; omega)))
  have IX_7 := mkHid (Own.outs (b := gx + 1) (own_at IX_6.out) (fun q hq => by simp [Value.ownBlock] at hq; omega) ho (.inr (by have := QX.out; have := QY.out; have := SZ1.out; have := SZ2.out; have := SZ3.out; have := Gw.out; have := SZ4.out; have := SZ5.out; have := QXw.out; have := SZ6.out; have := SZ7.out; have := QXx.out; have := SZ8.out; have := Gx.out; have := SZ9.out; have := SZ10.out; have := QXg.out; have := SZ11.out; have := SZ13.out; have := SZ14.out; have := SZ15.out; omega)))
  have OG_6 := mkHid (OwnS.outs OG_5.out ho (.inr (by have := QX.out; have := QY.out; have := SZ1.out; have := SZ2.out; have := SZ3.out; have := Gw.out; have := SZ4.out; have := SZ5.out; have := QXw.out; have := SZ6.out; have := SZ7.out; have := QXx.out; have := SZ8.out; have := Gx.out; have := SZ9.out; have := SZ10.out; have := QXg.out; have := SZ11.out; have := SZ13.out; have := SZ14.out; have := SZ15.out; omega)))
  have GG_5 := mkHid (G3.outs GG_4.out ho (.inr (by have := QX.out; have := QY.out; have := SZ1.out; have := SZ2.out; have := SZ3.out; have := Gw.out; have := SZ4.out; have := SZ5.out; have := QXw.out; have := SZ6.out; have := SZ7.out; have := QXx.out; have := SZ8.out; have := Gx.out; have := SZ9.out; have := SZ10.out; have := QXg.out; have := SZ11.out; have := SZ13.out; have := SZ14.out; have := SZ15.out; omega)))
  clear B_14 P_14 OW_10 GW_9 OX_8 GX_7 IX_6 OG_5 GG_4
  clear ho og q0 q1 q2
  obtain ⟨m1, hm1⟩ : ∃ m, 1 + cntS S = m := ⟨_, rfl⟩
  have hm1a : 0 ≤ m1 ∧ m1 ≤ 10000000 := by have := cntS_nonneg S; have := HM.out.cnt; omega
  rw [hm1]
  clear hm1
  go_wp2_with fail
  refine (markSymS_ok T _ _ _ m1 _ (by have := HN.out; omega) hm1a.1 (by omega) IX_7.out).mono ?_
  rintro e w17 ⟨rfl, og, hgr⟩
  have ho : Outs gx (gx + 1) _ _ := Outs.grown (Outs.refl _ _ _) hgr (fun q hq => by simp [Value.ownBlock] at hq; omega)
  clear hgr
  have SZ17 : Hid (w16.heap.size ≤ w17.heap.size) := mkHid ho.size
  have B_16 := mkHid (Outs.below B_15.out ho (by have := QX.out; have := QY.out; have := SZ1.out; have := SZ2.out; have := SZ3.out; have := Gw.out; have := SZ4.out; have := SZ5.out; have := QXw.out; have := SZ6.out; have := SZ7.out; have := QXx.out; have := SZ8.out; have := Gx.out; have := SZ9.out; have := SZ10.out; have := QXg.out; have := SZ11.out; have := SZ13.out; have := SZ14.out; have := SZ15.out; have := SZ16.out; omega) (Nat.le_refl _))
  have P_16 := mkHid (G3.outs P_15.out ho (.inl (by have := QX.out; have := QY.out; have := SZ1.out; have := SZ2.out; have := SZ3.out; have := Gw.out; have := SZ4.out; have := SZ5.out; have := QXw.out; have := SZ6.out; have := SZ7.out; have := QXx.out; have := SZ8.out; have := Gx.out; have := SZ9.out; have := SZ10.out; have := QXg.out; have := SZ11.out; have := SZ13.out; have := SZ14.out; have := SZ15.out; have := SZ16.out; omega)))
  have OW_12 := mkHid (OwnS.outs OW_11.out ho (.inl (by have := QX.out; have := QY.out; have := SZ1.out; have := SZ2.out; have := SZ3.out; have := Gw.out; have := SZ4.out; have := SZ5.out; have := QXw.out; have := SZ6.out; have := SZ7.out; have := QXx.out; have := SZ8.out; have := Gx.out; have := SZ9.out; have := SZ10.out; have := QXg.out; have := SZ11.out; have := SZ13.out; have := SZ14.out; have := SZ15.out; have := SZ16.out; omega)))
  have GW_11 := mkHid (G3.outs GW_10.out ho (.inl (by have := QX.out; have := QY.out; have := SZ1.out; have := SZ2.out; have := SZ3.out; have := Gw.out; have := SZ4.out; have := SZ5.out; have := QXw.out; have := SZ6.out; have := SZ7.out; have := QXx.out; have := SZ8.out; have := Gx.out; have := SZ9.out; have := SZ10.out; have := QXg.out; have := SZ11.out; have := SZ13.out; have := SZ14.out; have := SZ15.out; have := SZ16.out; omega)))
  have OX_10 := mkHid (OwnS.outs OX_9.out ho (.inl (by have := QX.out; have := QY.out; have := SZ1.out; have := SZ2.out; have := SZ3.out; have := Gw.out; have := SZ4.out; have := SZ5.out; have := QXw.out; have := SZ6.out; have := SZ7.out; have := QXx.out; have := SZ8.out; have := Gx.out; have := SZ9.out; have := SZ10.out; have := QXg.out; have := SZ11.out; have := SZ13.out; have := SZ14.out; have := SZ15.out; have := SZ16.out; omega)))
  have GX_9 := mkHid (G3.outs GX_8.out ho (.inl (by have := QX.out; have := QY.out; have := SZ1.out; have := SZ2.out; have := SZ3.out; have := Gw.out; have := SZ4.out; have := SZ5.out; have := QXw.out; have := SZ6.out; have := SZ7.out; have := QXx.out; have := SZ8.out; have := Gx.out; have := SZ9.out; have := SZ10.out; have := QXg.out; have := SZ11.out; have := SZ13.out; have := SZ14.out; have := SZ15.out; have := SZ16.out; omega)))
  have IX_8 := mkHid (og)
  have OG_7 := mkHid (OwnS.outs OG_6.out ho (.inr (by have := QX.out; have := QY.out; have := SZ1.out; have := SZ2.out; have := SZ3.out; have := Gw.out; have := SZ4.out; have := SZ5.out; have := QXw.out; have := SZ6.out; have := SZ7.out; have := QXx.out; have := SZ8.out; have := Gx.out; have := SZ9.out; have := SZ10.out; have := QXg.out; have := SZ11.out; have := SZ13.out; have := SZ14.out; have := SZ15.out; have := SZ16.out; omega)))
  have GG_6 := mkHid (G3.outs GG_5.out ho (.inr (by have := QX.out; have := QY.out; have := SZ1.out; have := SZ2.out; have := SZ3.out; have := Gw.out; have := SZ4.out; have := SZ5.out; have := QXw.out; have := SZ6.out; have := SZ7.out; have := QXx.out; have := SZ8.out; have := Gx.out; have := SZ9.out; have := SZ10.out; have := QXg.out; have := SZ11.out; have := SZ13.out; have := SZ14.out; have := SZ15.out; have := SZ16.out; omega)))
  clear B_15 P_15 OW_11 GW_10 OX_9 GX_8 IX_7 OG_6 GG_5
  clear ho og 
  obtain ⟨m2, hm2⟩ : ∃ m, m1 + (T.length : Int) * 2 = m := ⟨_, rfl⟩
  have hm2a : ¬ m2 < 0 := by omega
  rw [hm2]
  clear hm2
  obtain ⟨q0, q1, q2, _, _, _⟩ := GG_6.out
  obtain ⟨r0, r1, r2, _, _, _⟩ := GW_11.out
  go_wp2_with fail
  refine (eqSeg_same Z Ag Ar _ HSZ.out OG_7.out.at OW_12.out.at).mono ?_
  rintro e w18 ⟨rfl, hb⟩
  have SZ18 : Hid (w17.heap.size ≤ w18.heap.size) := mkHid hb.size
  have B_17 := mkHid (below_step B_16.out hb)
  have P_17 := mkHid (P_16.out.below hb)
  have OW_13 := mkHid (OW_12.out.below hb)
  have GW_12 := mkHid (GW_11.out.below hb)
  have OX_11 := mkHid (OX_10.out.below hb)
  have GX_10 := mkHid (GX_9.out.below hb)
  have IX_9 := mkHid (IX_8.out.below hb)
  have OG_8 := mkHid (OG_7.out.below hb)
  have GG_7 := mkHid (GG_6.out.below hb)
  clear B_16 P_16 OW_12 GW_11 OX_10 GX_9 IX_8 OG_7 GG_6
  clear hb q0 q1 q2 r0 r1 r2
  clear OX_11
  clear GX_10
  clear IX_9
  obtain ⟨q0, q1, q2, _, _, _⟩ := GG_7.out
  go_wp2_with fail
  refine (markSeg_ok Z Ag _ _ 1 _ HSZ.out (by omega) (by omega) (by have := QX.out; have := QY.out; have := SZ1.out; have := SZ2.out; have := SZ3.out; have := Gw.out; have := SZ4.out; have := SZ5.out; have := QXw.out; have := SZ6.out; have := SZ7.out; have := QXx.out; have := SZ8.out; have := Gx.out; have := SZ9.out; have := SZ10.out; have := QXg.out; have := SZ11.out; have := SZ13.out; have := SZ14.out; have := SZ15.out; have := SZ16.out; have := SZ17.out; have := SZ18.out; omega) OG_8.out).mono ?_
  rintro e w19 ⟨rfl, og, ho⟩
  have SZ19 : Hid (w18.heap.size ≤ w19.heap.size) := mkHid ho.size
  have B_18 := mkHid (Outs.below B_17.out ho (by have := QX.out; have := QY.out; have := SZ1.out; have := SZ2.out; have := SZ3.out; have := Gw.out; have := SZ4.out; have := SZ5.out; have := QXw.out; have := SZ6.out; have := SZ7.out; have := QXx.out; have := SZ8.out; have := Gx.out; have := SZ9.out; have := SZ10.out; have := QXg.out; have := SZ11.out; have := SZ13.out; have := SZ14.out; have := SZ15.out; have := SZ16.out; have := SZ17.out; have := SZ18.out; omega) (Nat.le_refl _))
  have P_18 := mkHid (G3.outs P_17.out ho (.inl (by have := QX.out; have := QY.out; have := SZ1.out; have := SZ2.out; have := SZ3.out; have := Gw.out; have := SZ4.out; have := SZ5.out; have := QXw.out; have := SZ6.out; have := SZ7.out; have := QXx.out; have := SZ8.out; have := Gx.out; have := SZ9.out; have := SZ10.out; have := QXg.out; have := SZ11.out; have := SZ13.out; have := SZ14.out; have := SZ15.out; have := SZ16.out; have := SZ17.out; have := SZ18.out; omega)))
  have OW_14 := mkHid (OwnS.outs OW_13.out ho (.inl (by have := QX.out; have := QY.out; have := SZ1.out; have := SZ2.out; have := SZ3.out; have := Gw.out; have := SZ4.out; have := SZ5.out; have := QXw.out; have := SZ6.out; have := SZ7.out; have := QXx.out; have := SZ8.out; have := Gx.out; have := SZ9.out; have := SZ10.out; have := QXg.out; have := SZ11.out; have := SZ13.out; have := SZ14.out; have := SZ15.out; have := SZ16.out; have := SZ17.out; have := SZ18.out; omega)))
  have GW_13 := mkHid (G3.outs GW_12.out ho (.inl (by have := QX.out; have := QY.out; have := SZ1.out; have := SZ2.out; have := SZ3.out; have := Gw.out; have := SZ4.out; have := SZ5.out; have := QXw.out; have := SZ6.out; have := SZ7.out; have := QXx.out; have := SZ8.out; have := Gx.out; have := SZ9.out; have := SZ10.out; have := QXg.out; have := SZ11.out; have := SZ13.out; have := SZ14.out; have := SZ15.out; have := SZ16.out; have := SZ17.out; have := SZ18.out; omega)))
  have OG_9 := mkHid (og)
  have GG_8 := mkHid (G3.outs GG_7.out ho (.inr (by have := QX.out; have := QY.out; have := SZ1.out; have := SZ2.out; have := SZ3.out; have := Gw.out; have := SZ4.out; have := SZ5.out; have := QXw.out; have := SZ6.out; have := SZ7.out; have := QXx.out; have := SZ8.out; have := Gx.out; have := SZ9.out; have := SZ10.out; have := QXg.out; have := SZ11.out; have := SZ13.out; have := SZ14.out; have := SZ15.out; have := SZ16.out; have := SZ17.out; have := SZ18.out; omega)))
  clear B_17 P_17 OW_13 GW_12 OG_8 GG_7
  clear ho og q0 q1 q2
  obtain ⟨m, hm⟩ : ∃ m, 1 + cntS Z = m := ⟨_, rfl⟩
  have hm0 : ¬ m < 0 := by have := cntS_nonneg Z; omega
  have hmm : (m != m) = false := by simp
  have HMm := mkHid hm
  rw [hm]
  clear hm
  obtain ⟨q0, q1, q2, _, _, _⟩ := GG_8.out
  go_wp2_with fail
  refine (heldSeg_ok Z Ag 1 _ HSZ.out (by omega) (by omega) OG_9.out.at).mono ?_
  rintro e w20 ⟨rfl, hb⟩
  have SZ20 : Hid (w19.heap.size ≤ w20.heap.size) := mkHid hb.size
  have B_19 := mkHid (below_step B_18.out hb)
  have P_19 := mkHid (P_18.out.below hb)
  have OW_15 := mkHid (OW_14.out.below hb)
  have GW_14 := mkHid (GW_13.out.below hb)
  have OG_10 := mkHid (OG_9.out.below hb)
  have GG_9 := mkHid (GG_8.out.below hb)
  clear B_18 P_18 OW_14 GW_13 OG_9 GG_8
  clear hb q0 q1 q2
  rw [HMm.out]
  obtain ⟨q0, q1, q2, _, _, _⟩ := P_19.out
  go_wp2_with fail
  refine (toSeg_any S A _ HM.out.b HM.out.t HM.out.v HM.out.m (HL.out.below B_19.out)).mono ?_
  rintro e w21 ⟨Av, rfl, ho, hb⟩
  have SZ21 : Hid (w20.heap.size ≤ w21.heap.size) := mkHid hb.size
  have B_20 := mkHid (below_step B_19.out hb)
  have P_20 := mkHid (P_19.out.below hb)
  have OW_16 := mkHid (OW_15.out.below hb)
  have GW_15 := mkHid (GW_14.out.below hb)
  have OG_11 := mkHid (OG_10.out.below hb)
  have GG_10 := mkHid (GG_9.out.below hb)
  clear B_19 P_19 OW_15 GW_14 OG_10 GG_9
  clear hb q0 q1 q2
  have Ov_0 := mkHid (ho)
  clear ho
  go_wp2_with fail
  refine (toSymS_any T a c _ HN.out (HLT.out.below B_20.out)).mono ?_
  rintro e w22 ⟨gv, rfl, ho, hb⟩
  have SZ22 : Hid (w21.heap.size ≤ w22.heap.size) := mkHid hb.size
  have B_21 := mkHid (below_step B_20.out hb)
  have P_21 := mkHid (P_20.out.below hb)
  have OW_17 := mkHid (OW_16.out.below hb)
  have GW_16 := mkHid (GW_15.out.below hb)
  have OG_12 := mkHid (OG_11.out.below hb)
  have GG_11 := mkHid (GG_10.out.below hb)
  have Ov_1 := mkHid (Ov_0.out.below hb)
  clear B_20 P_20 OW_16 GW_15 OG_11 GG_10 Ov_0
  clear hb 
  have Gv : Hid (w21.heap.size ≤ gv ∧ gv < w22.heap.size) := mkHid ((ho.lt (q := gv) rfl))
  have Iv_0 := mkHid (ho)
  clear ho
  go_wp2_with fail
  refine (iDrop_any n lv S Av T _ T.length _ HM.out HN.out Ov_1.out.at Iv_0.out.at).mono ?_
  rintro e w23 ⟨Z', hZ', Ah, rfl, ho, hb⟩
  have SZ23 : Hid (w22.heap.size ≤ w23.heap.size) := mkHid hb.size
  have B_22 := mkHid (below_step B_21.out hb)
  have P_22 := mkHid (P_21.out.below hb)
  have OW_18 := mkHid (OW_17.out.below hb)
  have GW_17 := mkHid (GW_16.out.below hb)
  have OG_13 := mkHid (OG_12.out.below hb)
  have GG_12 := mkHid (GG_11.out.below hb)
  have Ov_2 := mkHid (Ov_1.out.below hb)
  have Iv_1 := mkHid (Iv_0.out.below hb)
  clear B_21 P_21 OW_17 GW_16 OG_12 GG_11 Ov_1 Iv_0
  clear hb 
  have eZ : Z = Z' := HZ.out.one hZ'
  subst eZ
  clear hZ'
  have OH_0 := mkHid (ho)
  clear ho
  clear Ov_2
  clear Iv_1
  obtain ⟨Xh, hXh⟩ : ∃ x, w23.heap.size = x := ⟨_, rfl⟩
  obtain ⟨w24, hw24⟩ : ∃ x : World, w23.alloc (.cells #[.slice Ah.a0 Z.B.length Ah.c0, .slice Ah.a1 Z.V.length Ah.c1, .slice Ah.a2 Z.M.length Ah.c2] 28) = x := ⟨_, rfl⟩
  have hb : Below w23.heap.size w23 w24 := by rw [← hw24]; exact bl_alloc (Below.refl _ _) _
  have SZ24 : Hid (w23.heap.size + 1 ≤ w24.heap.size) := mkHid (by rw [← hw24]; simp)
  have QXh : Hid (w23.heap.size = Xh) := mkHid hXh
  have B_23 := mkHid (below_step B_22.out hb)
  have P_23 := mkHid (P_22.out.below hb)
  have OW_19 := mkHid (OW_18.out.below hb)
  have GW_18 := mkHid (GW_17.out.below hb)
  have OG_14 := mkHid (OG_13.out.below hb)
  have GG_13 := mkHid (GG_12.out.below hb)
  have OH_1 := mkHid (OH_0.out.below hb)
  clear B_22 P_22 OW_18 GW_17 OG_13 GG_12 OH_0
  have GH_0 : Hid (G3 w24 Xh (.slice Ah.a0 Z.B.length Ah.c0) (.slice Ah.a1 Z.V.length Ah.c1) (.slice Ah.a2 Z.M.length Ah.c2)) := mkHid (by rw [← hw24, ← hXh]; exact G3.new _ _ _ _ _)
  clear hb
  obtain ⟨q0, q1, q2, _, _, _⟩ := GH_0.out
  obtain ⟨r0, r1, r2, _, _, _⟩ := GW_18.out
  go_wp2_with fail
  refine (eqSeg_same Z Ah Ar _ HSZ.out OH_1.out.at OW_19.out.at).mono ?_
  rintro e w25 ⟨rfl, hb⟩
  have SZ25 : Hid (w24.heap.size ≤ w25.heap.size) := mkHid hb.size
  have B_24 := mkHid (below_step B_23.out hb)
  have P_24 := mkHid (P_23.out.below hb)
  have OW_20 := mkHid (OW_19.out.below hb)
  have GW_19 := mkHid (GW_18.out.below hb)
  have OG_15 := mkHid (OG_14.out.below hb)
  have GG_14 := mkHid (GG_13.out.below hb)
  have OH_2 := mkHid (OH_1.out.below hb)
  have GH_1 := mkHid (GH_0.out.below hb)
  clear B_23 P_23 OW_19 GW_18 OG_14 GG_13 OH_1 GH_0
  clear hb hw24 hXh q0 q1 q2 r0 r1 r2
  obtain ⟨q0, q1, q2, _, _, _⟩ := GG_14.out
  go_wp2_with fail
  refine (heldSeg_ok Z Ag 1 _ HSZ.out (by omega) (by omega) OG_15.out.at).mono ?_
  rintro e w26 ⟨rfl, hb⟩
  have SZ26 : Hid (w25.heap.size ≤ w26.heap.size) := mkHid hb.size
  have B_25 := mkHid (below_step B_24.out hb)
  have P_25 := mkHid (P_24.out.below hb)
  have OW_21 := mkHid (OW_20.out.below hb)
  have GW_20 := mkHid (GW_19.out.below hb)
  have OG_16 := mkHid (OG_15.out.below hb)
  have GG_15 := mkHid (GG_14.out.below hb)
  have OH_3 := mkHid (OH_2.out.below hb)
  have GH_2 := mkHid (GH_1.out.below hb)
  clear B_24 P_24 OW_20 GW_19 OG_15 GG_14 OH_2 GH_1
  clear hb q0 q1 q2
  rw [HMm.out]
  go_wp2
  go_ret
  exact ⟨rfl, B_25.out⟩

set_option maxRecDepth 100000 in
theorem law_lifted (os : Os) (started : os.Started) (H : Type) (enc : TypeId × Value → H) :
    ReturnsInHanded {} Tryz.checked os 5 .any (Rows.fnExactSegDropSpec.pre6 enc Tryz.prog Tryz.f5 Rows.fnExactSegDropRow.domain false) (Rows.fnExactSegDropSpec.post enc Tryz.prog Tryz.f5 false true false false) := by
  refine returnsInHanded_of_change (C := Tryz.checked) Tryz.own started (by kernel_rfl) Tryz.func5
    (ChangeSpec.witness6 (enc := enc) (C := Tryz.checked) false ⟨#[], #[.int .i64 0, .int .i64 0, .agg #[.slice none 0 0, .slice none 0 0, .slice none 0 0], .slice none 0 0], []⟩ 8 (by kernel_rfl) (by kernel_rfl) (by kernel_rfl) (by kernel_rfl)) ?_
  intro W base args ds gs before hval0 hW hcnd _
  have hval : ∀ (j : Nat) t v, Tryz.f5.params[j]? = some t → args[j]? = some v → Value.okWide Tryz.prog W .any base t v := hval0
  have hW' := hW
  obtain ⟨p, q, hA0, hV, rfl, hfz, hnd⟩ := hW
  have hA : DataW.TrodAll enc Tryz.prog W 0 (fun _ => true) true Tryz.f5.params.toList args.toList ds p := hA0
  rw [Tryz.params5] at hA hval
  obtain ⟨v0, vs0, d0, ds0, p0, q0, hargs, rfl, rfl, h0, r0⟩ := trodAll_cons hA
  obtain ⟨v1, vs1, d1, ds1, p1, q1, rfl, rfl, rfl, h1, r1⟩ := trodAll_cons r0
  obtain ⟨v2, vs2, d2, ds2, p2, q2, rfl, rfl, rfl, h2, r2⟩ := trodAll_cons r1
  obtain ⟨v3, vs3, d3, ds3, p3, q3, rfl, rfl, rfl, h3, r3⟩ := trodAll_cons r2
  obtain ⟨rfl, rfl, rfl⟩ := trodAll_nil r3
  obtain rfl : args = #[v0, v1, v2, v3] := by cases args; simp_all
  obtain ⟨rfl, rfl⟩ := trodVars_none hV
  have k0 := h0
  have lt0 : ∀ x ∈ p0, x.block < W.heap.size := by obtain ⟨m, hm⟩ := k0; exact DataW.trod_lt m _ _ _ hm
  have k1 := h1
  have lt1 : ∀ x ∈ p1, x.block < W.heap.size := by obtain ⟨m, hm⟩ := k1; exact DataW.trod_lt m _ _ _ hm
  have k2 := h2
  have lt2 : ∀ x ∈ p2, x.block < W.heap.size := by obtain ⟨m, hm⟩ := k2; exact DataW.trod_lt m _ _ _ hm
  have k3 := h3
  have lt3 : ∀ x ∈ p3, x.block < W.heap.size := by obtain ⟨m, hm⟩ := k3; exact DataW.trod_lt m _ _ _ hm
  obtain ⟨x0, hv0, _, _, _⟩ := open_int Tryz.underlying3 (hval 0 3 v0 rfl rfl) h0
  subst hv0
  obtain ⟨x1, hv1, _, _, _⟩ := open_int Tryz.underlying3 (hval 1 3 v1 rfl rfl) h1
  subst hv1
  obtain ⟨S2, A2, hv2, hg2, hl2⟩ := open_seg (hval 2 47 v2 rfl rfl) h2
  subst hv2
  obtain ⟨a3, le3, c3, hv3⟩ := okWide_slice Tryz.underlying57 (hval 3 57 v3 rfl rfl)
  subst hv3
  obtain ⟨l3, rfl, hn3, hl3⟩ := open_syms h3
  clear hA0 hval0
  refine (law_walk x0 x1 S2 A2 l3 a3 c3 W hg2 hl2 hn3 hl3).mono fun e W' ⟨he, bel⟩ => ?_
  subst he
  exact ⟨_, rfl, _, _, _, [], _, [], hW', trodAll_mk1 (shut_bool Tryz.underlying4 _), (trodAll_cons_mk (Below.trod Tryz.laidOut (by kernel_rfl) (of_decide_eq_true (by kernel_rfl)) k0 bel lt0) (trodAll_cons_mk (Below.trod Tryz.laidOut (by kernel_rfl) (of_decide_eq_true (by kernel_rfl)) k1 bel lt1) (trodAll_cons_mk (Below.trod Tryz.laidOut (by kernel_rfl) (of_decide_eq_true (by kernel_rfl)) k2 bel lt2) (trodAll_cons_mk (Below.trod Tryz.laidOut (by kernel_rfl) (of_decide_eq_true (by kernel_rfl)) k3 bel lt3) trodAll_mk0)))), rfl, bel.frame _, fun h => by cases h⟩

theorem law_holds : Rows.FnExactSegDropSaid :=
  OpenClaim.holds_of_wide 5 Tryz.f5 rfl rfl rfl rfl rfl rfl rfl ⟨rfl, rfl, rfl, rfl, rfl⟩ rfl rfl rfl rfl rfl (by kernel_rfl) Tryz.func5 (by kernel_rfl)
    (of_decide_eq_true (by kernel_rfl)) (by unfold Func.isWrapper; first | (rw [if_pos (by decide +kernel)]; kernel_rfl) | (rw [if_neg (by decide +kernel)]; exact ⟨rfl, rfl⟩))
    (fun os started H enc _ => law_lifted os started H enc)

#print axioms law_holds
end Go.Proofs.YtbfmljogfljhdaaGreat
