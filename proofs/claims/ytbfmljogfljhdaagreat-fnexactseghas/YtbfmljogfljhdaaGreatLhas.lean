/-
  FnExactSegHas holds at every argument: the program's SegHas answers as the specification's, and the arguments read as before. No conditions.
-/
import Derived.Test.YtbfmljogfljhdaaGreatLoc
import Derived.Test.YtbfmljogfljhdaaGreatShs
import Derived.Test.YtbfmljogfljhdaaGreatIs
import Derived.Test.YtbfmljogfljhdaaGreatLti
namespace Go.Proofs.YtbfmljogfljhdaaGreat
open Go.ChangeShapes Go.WideShapes Go.ChangeAt Go.RowKit Go.Joins

set_option maxRecDepth 100000 in
set_option maxHeartbeats 3200000 in
theorem law_walk (n lv : Int) (S : SG) (A : SAd) (l : List Int) (a : Option Addr) (c : Nat) (cs : List CC) (ac : Option Addr) (cc : Nat) (w : World) (hg : Lim S) (hl : SegAt w A S) (hvn : l.length ≤ maxLen) (hv : At eI w a l) (hcm : cs.length ≤ maxLen) (hc : At eC w ac cs) : Calls Tryz.prog 4 #[.int .i64 n, .int .i64 lv, .agg #[.slice A.a0 S.B.length A.c0, .slice A.a1 S.V.length A.c1, .slice A.a2 S.M.length A.c2], .slice a l.length c, .slice ac cs.length cc] w fun e w' => e = .returned (.bool true) ∧ Below w.heap.size w w' := by
  have HG := mkHid hg
  have HL := mkHid hl
  have HVN := mkHid hvn
  have HCM := mkHid hcm
  clear hg hl
  obtain ⟨w0, hw0⟩ : ∃ x : World, w.alloc (.cells #[.slice A.a0 S.B.length A.c0, .slice A.a1 S.V.length A.c1, .slice A.a2 S.M.length A.c2] 47) = x := ⟨_, rfl⟩
  obtain ⟨X, hX⟩ : ∃ x, w.heap.size = x := ⟨_, rfl⟩
  have B_0 : Hid (Below w.heap.size w w0) := mkHid (by rw [← hw0]; exact bl_alloc (Below.refl _ _) _)
  have P_0 : Hid (G3 w0 X (.slice A.a0 S.B.length A.c0) (.slice A.a1 S.V.length A.c1) (.slice A.a2 S.M.length A.c2)) := mkHid (by rw [← hw0, ← hX]; exact G3.new _ _ _ _ _)
  have LS_0 : Hid (SegAt w0 A S) := mkHid (HL.out.below B_0.out)
  have LV_0 : Hid (At eI w0 a l) := mkHid (hv.below B_0.out)
  have LC_0 : Hid (At eC w0 ac cs) := mkHid (hc.below B_0.out)
  clear hv hc
  have hvn2 : (l.length : Int) ≤ 9223372036854775807 := by unfold maxLen at hvn; omega
  clear hvn hcm
  by_cases hbig : (1048576 : Int) < (l.length : Int)
  · go_enter Tryz.func4, Tryz.ntmps4
    go_wp2
    go_ret
    exact ⟨rfl, B_0.out⟩
  have HN : Hid (l.length ≤ 1048576) := mkHid (by omega)
  go_enter Tryz.func4, Tryz.ntmps4
  obtain ⟨q0, q1, q2, _, _, _⟩ := P_0.out
  go_wp2_with fail
  refine (szSeg_any S A _ HG.out.b HG.out.r HG.out.v HG.out.m 1048576 (by omega) (by omega) LS_0.out).mono ?_
  rintro e w1 ⟨hb, r, rfl, hr⟩
  have HQ := mkHid hr
  have B_1 := mkHid (below_step B_0.out hb)
  have P_1 := mkHid (P_0.out.below hb)
  have LS_1 := mkHid (LS_0.out.below hb)
  have LV_1 := mkHid (LV_0.out.below hb)
  have LC_1 := mkHid (LC_0.out.below hb)
  clear B_0 P_0 LS_0 LV_0 LC_0
  clear hb hr hw0 hX hbig q0 q1 q2
  by_cases hneg : r < 0
  · go_wp2
    go_ret
    exact ⟨rfl, B_1.out⟩
  obtain ⟨hz1, hz2, hz3, hz4, hz5⟩ := HQ.out (by omega)
  have HM : Hid (Small S) := mkHid ⟨hz1, hz2, hz3, hz4⟩
  clear HQ hz1 hz2 hz3 hz4
  go_wp2_with fail
  refine (szCellS_any cs ac cc r _ HCM.out (by omega) hz5).mono ?_
  rintro e w2 ⟨hb, q, rfl, hq⟩
  have HQ := mkHid hq
  have B_2 := mkHid (below_step B_1.out hb)
  have P_2 := mkHid (P_1.out.below hb)
  have LS_2 := mkHid (LS_1.out.below hb)
  have LV_2 := mkHid (LV_1.out.below hb)
  have LC_2 := mkHid (LC_1.out.below hb)
  clear B_1 P_1 LS_1 LV_1 LC_1
  clear hb hq hz5 hneg
  by_cases hneg : q < 0
  · go_wp2
    go_ret
    exact ⟨rfl, B_2.out⟩
  have HC := mkHid (HQ.out hneg)
  clear HQ
  obtain ⟨q0, q1, q2, _, _, _⟩ := P_2.out
  go_wp2_with fail
  refine (toSeg_any S A _ HM.out.b HM.out.t HM.out.v HM.out.m LS_2.out).mono ?_
  rintro e w3 ⟨Aw, rfl, ho, hb⟩
  have SZ3 : Hid (w2.heap.size ≤ w3.heap.size) := mkHid hb.size
  have B_3 := mkHid (below_step B_2.out hb)
  have P_3 := mkHid (P_2.out.below hb)
  have LS_3 := mkHid (LS_2.out.below hb)
  have LV_3 := mkHid (LV_2.out.below hb)
  have LC_3 := mkHid (LC_2.out.below hb)
  clear B_2 P_2 LS_2 LV_2 LC_2
  clear hb q0 q1 q2
  have Ow_0 := mkHid (ho)
  clear ho
  go_wp2_with fail
  refine (toIntS_any l a c _ HN.out LV_3.out).mono ?_
  rintro e w4 ⟨giw, rfl, ho, hb⟩
  have SZ4 : Hid (w3.heap.size ≤ w4.heap.size) := mkHid hb.size
  have B_4 := mkHid (below_step B_3.out hb)
  have P_4 := mkHid (P_3.out.below hb)
  have LS_4 := mkHid (LS_3.out.below hb)
  have LV_4 := mkHid (LV_3.out.below hb)
  have LC_4 := mkHid (LC_3.out.below hb)
  have Ow_1 := mkHid (Ow_0.out.below hb)
  clear B_3 P_3 LS_3 LV_3 LC_3 Ow_0
  clear hb 
  have Iw_0 := mkHid (ho)
  clear ho
  go_wp2_with fail
  refine (toCellS_any cs ac cc _ HC.out LC_4.out).mono ?_
  rintro e w5 ⟨gcw, rfl, ho, hb⟩
  have SZ5 : Hid (w4.heap.size ≤ w5.heap.size) := mkHid hb.size
  have B_5 := mkHid (below_step B_4.out hb)
  have P_5 := mkHid (P_4.out.below hb)
  have LS_5 := mkHid (LS_4.out.below hb)
  have LV_5 := mkHid (LV_4.out.below hb)
  have LC_5 := mkHid (LC_4.out.below hb)
  have Ow_2 := mkHid (Ow_1.out.below hb)
  have Iw_1 := mkHid (Iw_0.out.below hb)
  clear B_4 P_4 LS_4 LV_4 LC_4 Ow_1 Iw_0
  clear hb 
  have Cw_0 := mkHid (ho)
  clear ho
  go_wp2_with fail
  refine (sSegHas_any n lv S Aw l _ l.length cs _ cs.length _ HM.out HN.out HC.out Ow_2.out.at Iw_1.out.at Cw_0.out.at).mono ?_
  rintro e w6 ⟨hb, r0, rfl, hr0⟩
  have SZ6 : Hid (w5.heap.size ≤ w6.heap.size) := mkHid hb.size
  have B_6 := mkHid (below_step B_5.out hb)
  have P_6 := mkHid (P_5.out.below hb)
  have LS_6 := mkHid (LS_5.out.below hb)
  have LV_6 := mkHid (LV_5.out.below hb)
  have LC_6 := mkHid (LC_5.out.below hb)
  have Ow_3 := mkHid (Ow_2.out.below hb)
  have Iw_2 := mkHid (Iw_1.out.below hb)
  have Cw_1 := mkHid (Cw_0.out.below hb)
  clear B_5 P_5 LS_5 LV_5 LC_5 Ow_2 Iw_1 Cw_0
  clear hb 
  have HR0 := mkHid hr0
  clear hr0
  clear Ow_3
  clear Iw_2
  clear Cw_1
  obtain ⟨q0, q1, q2, _, _, _⟩ := P_6.out
  go_wp2_with fail
  refine (toSeg_any S A _ HM.out.b HM.out.t HM.out.v HM.out.m LS_6.out).mono ?_
  rintro e w7 ⟨Ax, rfl, ho, hb⟩
  have SZ7 : Hid (w6.heap.size ≤ w7.heap.size) := mkHid hb.size
  have B_7 := mkHid (below_step B_6.out hb)
  have P_7 := mkHid (P_6.out.below hb)
  have LS_7 := mkHid (LS_6.out.below hb)
  have LV_7 := mkHid (LV_6.out.below hb)
  have LC_7 := mkHid (LC_6.out.below hb)
  clear B_6 P_6 LS_6 LV_6 LC_6
  clear hb q0 q1 q2
  have Ox_0 := mkHid (ho)
  clear ho
  obtain ⟨Xx, hXx⟩ : ∃ x, w7.heap.size = x := ⟨_, rfl⟩
  obtain ⟨w8, hw8⟩ : ∃ x : World, w7.alloc (.cells #[.slice Ax.a0 S.B.length Ax.c0, .slice Ax.a1 S.V.length Ax.c1, .slice Ax.a2 S.M.length Ax.c2] 28) = x := ⟨_, rfl⟩
  have hb : Below w7.heap.size w7 w8 := by rw [← hw8]; exact bl_alloc (Below.refl _ _) _
  have SZ8 : Hid (w7.heap.size + 1 ≤ w8.heap.size) := mkHid (by rw [← hw8]; simp)
  have QXx : Hid (w7.heap.size = Xx) := mkHid hXx
  have B_8 := mkHid (below_step B_7.out hb)
  have P_8 := mkHid (P_7.out.below hb)
  have LS_8 := mkHid (LS_7.out.below hb)
  have LV_8 := mkHid (LV_7.out.below hb)
  have LC_8 := mkHid (LC_7.out.below hb)
  have Ox_1 := mkHid (Ox_0.out.below hb)
  clear B_7 P_7 LS_7 LV_7 LC_7 Ox_0
  have GX_0 : Hid (G3 w8 Xx (.slice Ax.a0 S.B.length Ax.c0) (.slice Ax.a1 S.V.length Ax.c1) (.slice Ax.a2 S.M.length Ax.c2)) := mkHid (by rw [← hw8, ← hXx]; exact G3.new _ _ _ _ _)
  clear hb
  go_wp2_with fail
  refine (toIntS_any l a c _ HN.out LV_8.out).mono ?_
  rintro e w9 ⟨gix, rfl, ho, hb⟩
  have SZ9 : Hid (w8.heap.size ≤ w9.heap.size) := mkHid hb.size
  have B_9 := mkHid (below_step B_8.out hb)
  have P_9 := mkHid (P_8.out.below hb)
  have LS_9 := mkHid (LS_8.out.below hb)
  have LV_9 := mkHid (LV_8.out.below hb)
  have LC_9 := mkHid (LC_8.out.below hb)
  have Ox_2 := mkHid (Ox_1.out.below hb)
  have GX_1 := mkHid (GX_0.out.below hb)
  clear B_8 P_8 LS_8 LV_8 LC_8 Ox_1 GX_0
  clear hb 
  have Ix_0 := mkHid (ho)
  clear ho
  go_wp2_with fail
  refine (toCellS_any cs ac cc _ HC.out LC_9.out).mono ?_
  rintro e w10 ⟨gcx, rfl, ho, hb⟩
  have SZ10 : Hid (w9.heap.size ≤ w10.heap.size) := mkHid hb.size
  have B_10 := mkHid (below_step B_9.out hb)
  have P_10 := mkHid (P_9.out.below hb)
  have LS_10 := mkHid (LS_9.out.below hb)
  have LV_10 := mkHid (LV_9.out.below hb)
  have LC_10 := mkHid (LC_9.out.below hb)
  have Ox_3 := mkHid (Ox_2.out.below hb)
  have GX_2 := mkHid (GX_1.out.below hb)
  have Ix_1 := mkHid (Ix_0.out.below hb)
  clear B_9 P_9 LS_9 LV_9 LC_9 Ox_2 GX_1 Ix_0
  clear hb 
  have Cx_0 := mkHid (ho)
  clear ho
  obtain ⟨q0, q1, q2, _, _, _⟩ := GX_2.out
  go_wp2_with fail
  refine (iSegHas_any n lv S Ax l _ l.length cs _ cs.length _ HM.out HN.out (Nat.le_refl _) (by have := HC.out; unfold maxLen; omega) Ox_3.out.at Ix_1.out.at Cx_0.out.at).mono ?_
  rintro e w11 ⟨hb, r1, rfl, hr1⟩
  have SZ11 : Hid (w10.heap.size ≤ w11.heap.size) := mkHid hb.size
  have B_11 := mkHid (below_step B_10.out hb)
  have P_11 := mkHid (P_10.out.below hb)
  have LS_11 := mkHid (LS_10.out.below hb)
  have LV_11 := mkHid (LV_10.out.below hb)
  have LC_11 := mkHid (LC_10.out.below hb)
  have Ox_4 := mkHid (Ox_3.out.below hb)
  have GX_3 := mkHid (GX_2.out.below hb)
  have Ix_2 := mkHid (Ix_1.out.below hb)
  have Cx_1 := mkHid (Cx_0.out.below hb)
  clear B_10 P_10 LS_10 LV_10 LC_10 Ox_3 GX_2 Ix_1 Cx_0
  clear hb hw8 hXx q0 q1 q2
  have hrr : r1 = r0 := by have h0 := HR0.out; have h2 := hr1.trans h0.symm; cases r1 <;> cases r0 <;> simp_all
  subst hrr
  clear hr1 HR0
  have hne : (r1 != r1) = false := by simp
  obtain ⟨p0, p1, p2, _, _, _⟩ := P_11.out
  obtain ⟨q0, q1, q2, _, _, _⟩ := GX_3.out
  have hlx := P_11.out.lt
  have hly := GX_3.out.lt
  go_wp2_with fail
  go_region_held3 (fun w' => w'.cell? ⟨X, 0, none⟩ = some (.slice A.a0 S.B.length A.c0) ∧ w'.cell? ⟨X, 1, none⟩ = some (.slice A.a1 S.V.length A.c1) ∧ w'.cell? ⟨X, 2, none⟩ = some (.slice A.a2 S.M.length A.c2) ∧ w'.cell? ⟨Xx, 0, none⟩ = some (.slice Ax.a0 S.B.length Ax.c0) ∧ w'.cell? ⟨Xx, 1, none⟩ = some (.slice Ax.a1 S.V.length Ax.c1) ∧ w'.cell? ⟨Xx, 2, none⟩ = some (.slice Ax.a2 S.M.length Ax.c2))
    (first | exact ⟨p0, p1, p2, q0, q1, q2⟩ | exact ⟨(hc _ _ hlx).trans p0, (hc _ _ hlx).trans p1, (hc _ _ hlx).trans p2, (hc _ _ hly).trans q0, (hc _ _ hly).trans q1, (hc _ _ hly).trans q2⟩)
    (first | (go_at_call 19; refine (toSeg_any S A _ HM.out.b HM.out.t HM.out.v HM.out.m (LS_11.out.below (Below.refl _ _).drew)).mono ?_; rintro e w12 ⟨Ay, rfl, hox, hbx⟩; obtain ⟨hc, hf⟩ := bcell hbx) | (go_at_call 22; refine (eqSeg_same S Ax Ay _ HM.out ((Ox_4.out.at.below (Below.refl _ _).drew).below hbx) hox.at).mono ?_; rintro e w13 ⟨rfl, hby⟩; obtain ⟨hc', hf'⟩ := bcell hby; have hc := fun b o (h : b < w11.drew.heap.size) => (hc' b o (Nat.lt_of_lt_of_le h hbx.size)).trans (hc b o h)))
  have hb := below_step (below_step (Below.refl w11.heap.size w11).drew hbx) hby
  have SZ13 : Hid (w11.heap.size ≤ w13.heap.size) := mkHid hb.size
  have B_12 := mkHid (below_step B_11.out hb)
  have P_12 := mkHid (P_11.out.below hb)
  have LS_12 := mkHid (LS_11.out.below hb)
  have LV_12 := mkHid (LV_11.out.below hb)
  have LC_12 := mkHid (LC_11.out.below hb)
  have Ox_5 := mkHid (Ox_4.out.below hb)
  have GX_4 := mkHid (GX_3.out.below hb)
  have Ix_3 := mkHid (Ix_2.out.below hb)
  have Cx_2 := mkHid (Cx_1.out.below hb)
  clear B_11 P_11 LS_11 LV_11 LC_11 Ox_4 GX_3 Ix_2 Cx_1
  clear hb hc hc' hf hf' hbx hby hox p0 p1 p2 q0 q1 q2 hlx hly
  go_wp2_with fail
  refine (toIntS_any l a c _ HN.out LV_12.out).mono ?_
  rintro e w14 ⟨giy, rfl, ho, hb⟩
  have SZ14 : Hid (w13.heap.size ≤ w14.heap.size) := mkHid hb.size
  have B_13 := mkHid (below_step B_12.out hb)
  have P_13 := mkHid (P_12.out.below hb)
  have LS_13 := mkHid (LS_12.out.below hb)
  have LV_13 := mkHid (LV_12.out.below hb)
  have LC_13 := mkHid (LC_12.out.below hb)
  have Ox_6 := mkHid (Ox_5.out.below hb)
  have GX_5 := mkHid (GX_4.out.below hb)
  have Ix_4 := mkHid (Ix_3.out.below hb)
  have Cx_3 := mkHid (Cx_2.out.below hb)
  clear B_12 P_12 LS_12 LV_12 LC_12 Ox_5 GX_4 Ix_3 Cx_2
  clear hb 
  have Iy_0 := mkHid (ho)
  clear ho
  go_wp2_with fail
  refine (eqIntS_same l _ _ _ _ _ (by have := HN.out; unfold maxLen; omega) Ix_4.out.at Iy_0.out.at).mono ?_
  rintro e w15 ⟨rfl, hb⟩
  have SZ15 : Hid (w14.heap.size ≤ w15.heap.size) := mkHid hb.size
  have B_14 := mkHid (below_step B_13.out hb)
  have P_14 := mkHid (P_13.out.below hb)
  have LS_14 := mkHid (LS_13.out.below hb)
  have LV_14 := mkHid (LV_13.out.below hb)
  have LC_14 := mkHid (LC_13.out.below hb)
  have Ox_7 := mkHid (Ox_6.out.below hb)
  have GX_6 := mkHid (GX_5.out.below hb)
  have Ix_5 := mkHid (Ix_4.out.below hb)
  have Cx_4 := mkHid (Cx_3.out.below hb)
  have Iy_1 := mkHid (Iy_0.out.below hb)
  clear B_13 P_13 LS_13 LV_13 LC_13 Ox_6 GX_5 Ix_4 Cx_3 Iy_0
  clear hb 
  go_wp2_with fail
  refine (toCellS_any cs ac cc _ HC.out LC_14.out).mono ?_
  rintro e w16 ⟨gcy, rfl, ho, hb⟩
  have SZ16 : Hid (w15.heap.size ≤ w16.heap.size) := mkHid hb.size
  have B_15 := mkHid (below_step B_14.out hb)
  have P_15 := mkHid (P_14.out.below hb)
  have LS_15 := mkHid (LS_14.out.below hb)
  have LV_15 := mkHid (LV_14.out.below hb)
  have LC_15 := mkHid (LC_14.out.below hb)
  have Ox_8 := mkHid (Ox_7.out.below hb)
  have GX_7 := mkHid (GX_6.out.below hb)
  have Ix_6 := mkHid (Ix_5.out.below hb)
  have Cx_5 := mkHid (Cx_4.out.below hb)
  have Iy_2 := mkHid (Iy_1.out.below hb)
  clear B_14 P_14 LS_14 LV_14 LC_14 Ox_7 GX_6 Ix_5 Cx_4 Iy_1
  clear hb 
  have Cy_0 := mkHid (ho)
  clear ho
  go_wp2_with fail
  refine (eqCellS_same cs _ _ _ _ _ (by have := HC.out; unfold maxLen; omega) Cx_5.out.at Cy_0.out.at).mono ?_
  rintro e w17 ⟨rfl, hb⟩
  have SZ17 : Hid (w16.heap.size ≤ w17.heap.size) := mkHid hb.size
  have B_16 := mkHid (below_step B_15.out hb)
  have P_16 := mkHid (P_15.out.below hb)
  have LS_16 := mkHid (LS_15.out.below hb)
  have LV_16 := mkHid (LV_15.out.below hb)
  have LC_16 := mkHid (LC_15.out.below hb)
  have Ox_9 := mkHid (Ox_8.out.below hb)
  have GX_8 := mkHid (GX_7.out.below hb)
  have Ix_7 := mkHid (Ix_6.out.below hb)
  have Cx_6 := mkHid (Cx_5.out.below hb)
  have Iy_3 := mkHid (Iy_2.out.below hb)
  have Cy_1 := mkHid (Cy_0.out.below hb)
  clear B_15 P_15 LS_15 LV_15 LC_15 Ox_8 GX_7 Ix_6 Cx_5 Iy_2 Cy_0
  clear hb 
  go_wp2
  go_ret
  exact ⟨rfl, B_16.out⟩

set_option maxRecDepth 100000 in
theorem law_lifted (os : Os) (started : os.Started) (H : Type) (enc : TypeId × Value → H) :
    ReturnsInHanded {} Tryz.checked os 4 .any (Rows.fnExactSegHasSpec.pre6 enc Tryz.prog Tryz.f4 Rows.fnExactSegHasRow.domain false) (Rows.fnExactSegHasSpec.post enc Tryz.prog Tryz.f4 false true false false) := by
  refine returnsInHanded_of_change (C := Tryz.checked) Tryz.own started (by kernel_rfl) Tryz.func4
    (ChangeSpec.witness6 (enc := enc) (C := Tryz.checked) false ⟨#[], #[.int .i64 0, .int .i64 0, .agg #[.slice none 0 0, .slice none 0 0, .slice none 0 0], .slice none 0 0, .slice none 0 0], []⟩ 8 (by kernel_rfl) (by kernel_rfl) (by kernel_rfl) (by kernel_rfl)) ?_
  intro W base args ds gs before hval0 hW hcnd _
  have hval : ∀ (j : Nat) t v, Tryz.f4.params[j]? = some t → args[j]? = some v → Value.okWide Tryz.prog W .any base t v := hval0
  have hW' := hW
  obtain ⟨p, q, hA0, hV, rfl, hfz, hnd⟩ := hW
  have hA : DataW.TrodAll enc Tryz.prog W 0 (fun _ => true) true Tryz.f4.params.toList args.toList ds p := hA0
  rw [Tryz.params4] at hA hval
  obtain ⟨v0, vs0, d0, ds0, p0, q0, hargs, rfl, rfl, h0, r0⟩ := trodAll_cons hA
  obtain ⟨v1, vs1, d1, ds1, p1, q1, rfl, rfl, rfl, h1, r1⟩ := trodAll_cons r0
  obtain ⟨v2, vs2, d2, ds2, p2, q2, rfl, rfl, rfl, h2, r2⟩ := trodAll_cons r1
  obtain ⟨v3, vs3, d3, ds3, p3, q3, rfl, rfl, rfl, h3, r3⟩ := trodAll_cons r2
  obtain ⟨v4, vs4, d4, ds4, p4, q4, rfl, rfl, rfl, h4, r4⟩ := trodAll_cons r3
  obtain ⟨rfl, rfl, rfl⟩ := trodAll_nil r4
  obtain rfl : args = #[v0, v1, v2, v3, v4] := by cases args; simp_all
  obtain ⟨rfl, rfl⟩ := trodVars_none hV
  have k0 := h0
  have lt0 : ∀ x ∈ p0, x.block < W.heap.size := by obtain ⟨m, hm⟩ := k0; exact DataW.trod_lt m _ _ _ hm
  have k1 := h1
  have lt1 : ∀ x ∈ p1, x.block < W.heap.size := by obtain ⟨m, hm⟩ := k1; exact DataW.trod_lt m _ _ _ hm
  have k2 := h2
  have lt2 : ∀ x ∈ p2, x.block < W.heap.size := by obtain ⟨m, hm⟩ := k2; exact DataW.trod_lt m _ _ _ hm
  have k3 := h3
  have lt3 : ∀ x ∈ p3, x.block < W.heap.size := by obtain ⟨m, hm⟩ := k3; exact DataW.trod_lt m _ _ _ hm
  have k4 := h4
  have lt4 : ∀ x ∈ p4, x.block < W.heap.size := by obtain ⟨m, hm⟩ := k4; exact DataW.trod_lt m _ _ _ hm
  obtain ⟨x0, hv0, _, _, _⟩ := open_int Tryz.underlying3 (hval 0 3 v0 rfl rfl) h0
  subst hv0
  obtain ⟨x1, hv1, _, _, _⟩ := open_int Tryz.underlying3 (hval 1 3 v1 rfl rfl) h1
  subst hv1
  obtain ⟨S2, A2, hv2, hg2, hl2⟩ := open_seg (hval 2 47 v2 rfl rfl) h2
  subst hv2
  obtain ⟨a3, le3, c3, hv3⟩ := okWide_slice Tryz.underlying29 (hval 3 29 v3 rfl rfl)
  subst hv3
  obtain ⟨l3, rfl, hn3, hl3⟩ := open_ints' h3
  obtain ⟨a4, le4, c4, hv4⟩ := okWide_slice Tryz.underlying48 (hval 4 48 v4 rfl rfl)
  subst hv4
  obtain ⟨l4, rfl, hn4, hl4⟩ := open_cellS h4
  clear hA0 hval0
  refine (law_walk x0 x1 S2 A2 l3 a3 c3 l4 a4 c4 W hg2 hl2 hn3 hl3 hn4 hl4).mono fun e W' ⟨he, bel⟩ => ?_
  subst he
  exact ⟨_, rfl, _, _, _, [], _, [], hW', trodAll_mk1 (shut_bool Tryz.underlying4 _), (trodAll_cons_mk (Below.trod Tryz.laidOut (by kernel_rfl) (of_decide_eq_true (by kernel_rfl)) k0 bel lt0) (trodAll_cons_mk (Below.trod Tryz.laidOut (by kernel_rfl) (of_decide_eq_true (by kernel_rfl)) k1 bel lt1) (trodAll_cons_mk (Below.trod Tryz.laidOut (by kernel_rfl) (of_decide_eq_true (by kernel_rfl)) k2 bel lt2) (trodAll_cons_mk (Below.trod Tryz.laidOut (by kernel_rfl) (of_decide_eq_true (by kernel_rfl)) k3 bel lt3) (trodAll_cons_mk (Below.trod Tryz.laidOut (by kernel_rfl) (of_decide_eq_true (by kernel_rfl)) k4 bel lt4) trodAll_mk0))))), rfl, bel.frame _, fun h => by cases h⟩

theorem law_holds : Rows.FnExactSegHasSaid :=
  OpenClaim.holds_of_wide 4 Tryz.f4 rfl rfl rfl rfl rfl rfl rfl ⟨rfl, rfl, rfl, rfl, rfl⟩ rfl rfl rfl rfl rfl (by kernel_rfl) Tryz.func4 (by kernel_rfl)
    (of_decide_eq_true (by kernel_rfl)) (by unfold Func.isWrapper; first | (rw [if_pos (by decide +kernel)]; kernel_rfl) | (rw [if_neg (by decide +kernel)]; exact ⟨rfl, rfl⟩))
    (fun os started H enc _ => law_lifted os started H enc)

#print axioms law_holds
end Go.Proofs.YtbfmljogfljhdaaGreat
