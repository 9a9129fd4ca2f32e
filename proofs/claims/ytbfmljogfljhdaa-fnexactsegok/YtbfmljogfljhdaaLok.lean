/-
  FnExactSegOk holds at every argument: the program's SegOk answers as the specification's, and the argument reads as before. No conditions.
-/
import Derived.Test.YtbfmljogfljhdaaLo
import Derived.Test.YtbfmljogfljhdaaSos
import Derived.Test.YtbfmljogfljhdaaIc
namespace Go.Proofs.Ytbfmljogfljhdaa
open Go.ChangeShapes Go.WideShapes Go.ChangeAt Go.RowKit Go.Joins

set_option maxRecDepth 100000 in
set_option maxHeartbeats 3200000 in
theorem law_walk (n l : Int) (S : SG) (A : SAd) (w : World) (hg : Lim S) (hl : SegAt w A S) : Calls Try.prog 3 #[.int .i64 n, .int .i64 l, .agg #[.slice A.a0 S.B.length A.c0, .slice A.a1 S.V.length A.c1, .slice A.a2 S.M.length A.c2]] w fun e w' => e = .returned (.bool true) ∧ Below w.heap.size w w' := by
  have HG := mkHid hg
  have HL := mkHid hl
  clear hg hl
  obtain ⟨w0, hw0⟩ : ∃ x : World, w.alloc (.cells #[.slice A.a0 S.B.length A.c0, .slice A.a1 S.V.length A.c1, .slice A.a2 S.M.length A.c2] 26) = x := ⟨_, rfl⟩
  obtain ⟨X, hX⟩ : ∃ x, w.heap.size = x := ⟨_, rfl⟩
  have QX : Hid (w.heap.size = X) := mkHid hX
  have QY : Hid (w0.heap.size = X + 1) := mkHid (by rw [← hw0, ← hX]; simp)
  have B_0 : Hid (Below w.heap.size w w0) := mkHid (by rw [← hw0]; exact bl_alloc (Below.refl _ _) _)
  have P_0 : Hid (G3 w0 X (.slice A.a0 S.B.length A.c0) (.slice A.a1 S.V.length A.c1) (.slice A.a2 S.M.length A.c2)) := mkHid (by rw [← hw0, ← hX]; exact G3.new _ _ _ _ _)
  have LS_0 : Hid (SegAt w0 A S) := mkHid (HL.out.below B_0.out)
  go_enter Try.func3, Try.ntmps3
  obtain ⟨q0, q1, q2, _, _, _⟩ := P_0.out
  go_wp2_with fail
  refine (szSeg_any S A _ HG.out.b HG.out.r HG.out.v HG.out.m 1048576 (by omega) (by omega) LS_0.out).mono ?_
  rintro e w1 ⟨hb, r, rfl, hr⟩
  have HQ := mkHid hr
  have SZ1 : Hid (w0.heap.size ≤ w1.heap.size) := mkHid hb.size
  have B_1 := mkHid (below_step B_0.out hb)
  have P_1 := mkHid (P_0.out.below hb)
  have LS_1 := mkHid (LS_0.out.below hb)
  clear B_0 P_0 LS_0
  clear hb hr hw0 hX q0 q1 q2
  by_cases hneg : r < 0
  · go_wp2
    go_ret
    exact ⟨rfl, B_1.out⟩
  obtain ⟨hz1, hz2, hz3, hz4, hz5⟩ := HQ.out (by omega)
  have HM : Hid (Small S) := mkHid ⟨hz1, hz2, hz3, hz4⟩
  clear HQ hz1 hz2 hz3 hz4 hz5
  obtain ⟨q0, q1, q2, _, _, _⟩ := P_1.out
  go_wp2_with fail
  refine (toSeg_any S A _ HM.out.b HM.out.t HM.out.v HM.out.m LS_1.out).mono ?_
  rintro e w2 ⟨Aw, rfl, ho, hb⟩
  have SZ2 : Hid (w1.heap.size ≤ w2.heap.size) := mkHid hb.size
  have B_2 := mkHid (below_step B_1.out hb)
  have P_2 := mkHid (P_1.out.below hb)
  have LS_2 := mkHid (LS_1.out.below hb)
  clear B_1 P_1 LS_1
  clear hb q0 q1 q2
  have OW_0 := mkHid (ho)
  clear ho
  go_wp2_with fail
  refine (sSegOk_any n l S Aw _ HM.out OW_0.out.at).mono ?_
  rintro e w3 ⟨hb, r0, rfl, hr0⟩
  have SZ3 : Hid (w2.heap.size ≤ w3.heap.size) := mkHid hb.size
  have B_3 := mkHid (below_step B_2.out hb)
  have P_3 := mkHid (P_2.out.below hb)
  have LS_3 := mkHid (LS_2.out.below hb)
  have OW_1 := mkHid (OW_0.out.below hb)
  clear B_2 P_2 LS_2 OW_0
  clear hb 
  have HR0 := mkHid hr0
  clear hr0
  clear OW_1
  obtain ⟨q0, q1, q2, _, _, _⟩ := P_3.out
  go_wp2_with fail
  refine (toSeg_any S A _ HM.out.b HM.out.t HM.out.v HM.out.m LS_3.out).mono ?_
  rintro e w4 ⟨Ax, rfl, ho, hb⟩
  have SZ4 : Hid (w3.heap.size ≤ w4.heap.size) := mkHid hb.size
  have B_4 := mkHid (below_step B_3.out hb)
  have P_4 := mkHid (P_3.out.below hb)
  have LS_4 := mkHid (LS_3.out.below hb)
  clear B_3 P_3 LS_3
  clear hb q0 q1 q2
  have OX_0 := mkHid (ho)
  clear ho
  obtain ⟨Xx, hXx⟩ : ∃ x, w4.heap.size = x := ⟨_, rfl⟩
  obtain ⟨w5, hw5⟩ : ∃ x : World, w4.alloc (.cells #[.slice Ax.a0 S.B.length Ax.c0, .slice Ax.a1 S.V.length Ax.c1, .slice Ax.a2 S.M.length Ax.c2] 32) = x := ⟨_, rfl⟩
  have hb : Below w4.heap.size w4 w5 := by rw [← hw5]; exact bl_alloc (Below.refl _ _) _
  have SZ5 : Hid (w4.heap.size + 1 ≤ w5.heap.size) := mkHid (by rw [← hw5]; simp)
  have QXx : Hid (w4.heap.size = Xx) := mkHid hXx
  have B_5 := mkHid (below_step B_4.out hb)
  have P_5 := mkHid (P_4.out.below hb)
  have LS_5 := mkHid (LS_4.out.below hb)
  have OX_1 := mkHid (OX_0.out.below hb)
  clear B_4 P_4 LS_4 OX_0
  have GX_0 : Hid (G3 w5 Xx (.slice Ax.a0 S.B.length Ax.c0) (.slice Ax.a1 S.V.length Ax.c1) (.slice Ax.a2 S.M.length Ax.c2)) := mkHid (by rw [← hw5, ← hXx]; exact G3.new _ _ _ _ _)
  clear hb
  obtain ⟨q0, q1, q2, _, _, _⟩ := GX_0.out
  go_wp2_with fail
  refine (iSegOk_any n l S Ax _ HM.out OX_1.out.at).mono ?_
  rintro e w6 ⟨hb, r1, rfl, hr1⟩
  have SZ6 : Hid (w5.heap.size ≤ w6.heap.size) := mkHid hb.size
  have B_6 := mkHid (below_step B_5.out hb)
  have P_6 := mkHid (P_5.out.below hb)
  have LS_6 := mkHid (LS_5.out.below hb)
  have OX_2 := mkHid (OX_1.out.below hb)
  have GX_1 := mkHid (GX_0.out.below hb)
  clear B_5 P_5 LS_5 OX_1 GX_0
  clear hb hw5 hXx q0 q1 q2
  have hrr : r1 = r0 := by have h0 := HR0.out; have h2 := hr1.trans h0.symm; cases r1 <;> cases r0 <;> simp_all
  subst hrr
  clear hr1 HR0
  have hne : (r1 != r1) = false := by simp
  obtain ⟨p0, p1, p2, _, _, _⟩ := P_6.out
  obtain ⟨q0, q1, q2, _, _, _⟩ := GX_1.out
  have hlx := P_6.out.lt
  have hly := GX_1.out.lt
  go_wp2_with fail
  go_region_held3 (fun w' => w'.cell? ⟨X, 0, none⟩ = some (.slice A.a0 S.B.length A.c0) ∧ w'.cell? ⟨X, 1, none⟩ = some (.slice A.a1 S.V.length A.c1) ∧ w'.cell? ⟨X, 2, none⟩ = some (.slice A.a2 S.M.length A.c2) ∧ w'.cell? ⟨Xx, 0, none⟩ = some (.slice Ax.a0 S.B.length Ax.c0) ∧ w'.cell? ⟨Xx, 1, none⟩ = some (.slice Ax.a1 S.V.length Ax.c1) ∧ w'.cell? ⟨Xx, 2, none⟩ = some (.slice Ax.a2 S.M.length Ax.c2))
    (first | exact ⟨p0, p1, p2, q0, q1, q2⟩ | exact ⟨(hc _ _ hlx).trans p0, (hc _ _ hlx).trans p1, (hc _ _ hlx).trans p2, (hc _ _ hly).trans q0, (hc _ _ hly).trans q1, (hc _ _ hly).trans q2⟩)
    (first | (go_at_call 7; refine (toSeg_any S A _ HM.out.b HM.out.t HM.out.v HM.out.m (LS_6.out.below (Below.refl _ _).drew)).mono ?_; rintro e w7 ⟨Ay, rfl, hox, hbx⟩; obtain ⟨hc, hf⟩ := bcell hbx) | (go_at_call 9; refine (eqSeg_same S Ax Ay _ HM.out ((OX_2.out.at.below (Below.refl _ _).drew).below hbx) hox.at).mono ?_; rintro e w8 ⟨rfl, hby⟩; obtain ⟨hc', hf'⟩ := bcell hby; have hc := fun b o (h : b < w6.drew.heap.size) => (hc' b o (Nat.lt_of_lt_of_le h hbx.size)).trans (hc b o h)))
  have hb := below_step (below_step (Below.refl w6.heap.size w6).drew hbx) hby
  have SZ8 : Hid (w6.heap.size ≤ w8.heap.size) := mkHid hb.size
  have B_7 := mkHid (below_step B_6.out hb)
  have P_7 := mkHid (P_6.out.below hb)
  have LS_7 := mkHid (LS_6.out.below hb)
  have OX_3 := mkHid (OX_2.out.below hb)
  have GX_2 := mkHid (GX_1.out.below hb)
  clear B_6 P_6 LS_6 OX_2 GX_1
  clear hb hc hc' hf hf' hbx hby hox p0 p1 p2 q0 q1 q2 hlx hly
  go_wp2
  go_ret
  exact ⟨rfl, B_7.out⟩

set_option maxRecDepth 100000 in
theorem law_lifted (os : Os) (started : os.Started) (H : Type) (enc : TypeId × Value → H) :
    ReturnsInHanded {} Try.checked os 3 .any (Rows.fnExactSegOkSpec.pre6 enc Try.prog Try.f3 Rows.fnExactSegOkRow.domain false) (Rows.fnExactSegOkSpec.post enc Try.prog Try.f3 false true false false) := by
  refine returnsInHanded_of_change (C := Try.checked) Try.own started (by kernel_rfl) Try.func3
    (ChangeSpec.witness6 (enc := enc) (C := Try.checked) false ⟨#[], #[.int .i64 0, .int .i64 0, .agg #[.slice none 0 0, .slice none 0 0, .slice none 0 0]], []⟩ 8 (by kernel_rfl) (by kernel_rfl) (by kernel_rfl) (by kernel_rfl)) ?_
  intro W base args ds gs before hval0 hW hcnd _
  have hval : ∀ (j : Nat) t v, Try.f3.params[j]? = some t → args[j]? = some v → Value.okWide Try.prog W .any base t v := hval0
  have hW' := hW
  obtain ⟨p, q, hA0, hV, rfl, hfz, hnd⟩ := hW
  have hA : DataW.TrodAll enc Try.prog W 0 (fun _ => true) true Try.f3.params.toList args.toList ds p := hA0
  rw [Try.params3] at hA hval
  obtain ⟨v0, vs0, d0, ds0, p0, q0, hargs, rfl, rfl, h0, r0⟩ := trodAll_cons hA
  obtain ⟨v1, vs1, d1, ds1, p1, q1, rfl, rfl, rfl, h1, r1⟩ := trodAll_cons r0
  obtain ⟨v2, vs2, d2, ds2, p2, q2, rfl, rfl, rfl, h2, r2⟩ := trodAll_cons r1
  obtain ⟨rfl, rfl, rfl⟩ := trodAll_nil r2
  obtain rfl : args = #[v0, v1, v2] := by cases args; simp_all
  obtain ⟨rfl, rfl⟩ := trodVars_none hV
  have k0 := h0
  have lt0 : ∀ x ∈ p0, x.block < W.heap.size := by obtain ⟨m, hm⟩ := k0; exact DataW.trod_lt m _ _ _ hm
  have k1 := h1
  have lt1 : ∀ x ∈ p1, x.block < W.heap.size := by obtain ⟨m, hm⟩ := k1; exact DataW.trod_lt m _ _ _ hm
  have k2 := h2
  have lt2 : ∀ x ∈ p2, x.block < W.heap.size := by obtain ⟨m, hm⟩ := k2; exact DataW.trod_lt m _ _ _ hm
  obtain ⟨x0, hv0, _, _, _⟩ := open_int Try.underlying3 (hval 0 3 v0 rfl rfl) h0
  subst hv0
  obtain ⟨x1, hv1, _, _, _⟩ := open_int Try.underlying3 (hval 1 3 v1 rfl rfl) h1
  subst hv1
  obtain ⟨S2, A2, hv2, hg2, hl2⟩ := open_seg (hval 2 26 v2 rfl rfl) h2
  subst hv2
  clear hA0 hval0
  refine (law_walk x0 x1 S2 A2 W hg2 hl2).mono fun e W' ⟨he, bel⟩ => ?_
  subst he
  exact ⟨_, rfl, _, _, _, [], _, [], hW', trodAll_mk1 (shut_bool Try.underlying4 _), (trodAll_cons_mk (Below.trod Try.laidOut (by kernel_rfl) (of_decide_eq_true (by kernel_rfl)) k0 bel lt0) (trodAll_cons_mk (Below.trod Try.laidOut (by kernel_rfl) (of_decide_eq_true (by kernel_rfl)) k1 bel lt1) (trodAll_cons_mk (Below.trod Try.laidOut (by kernel_rfl) (of_decide_eq_true (by kernel_rfl)) k2 bel lt2) trodAll_mk0))), rfl, bel.frame _, fun h => by cases h⟩

theorem law_holds : Rows.FnExactSegOkSaid :=
  OpenClaim.holds_of_wide 3 Try.f3 rfl rfl rfl rfl rfl rfl rfl ⟨rfl, rfl, rfl, rfl, rfl⟩ rfl rfl rfl rfl rfl (by kernel_rfl) Try.func3 (by kernel_rfl)
    (of_decide_eq_true (by kernel_rfl)) (by unfold Func.isWrapper; first | (rw [if_pos (by decide +kernel)]; kernel_rfl) | (rw [if_neg (by decide +kernel)]; exact ⟨rfl, rfl⟩))
    (fun os started H enc _ => law_lifted os started H enc)

#print axioms law_holds
end Go.Proofs.Ytbfmljogfljhdaa
