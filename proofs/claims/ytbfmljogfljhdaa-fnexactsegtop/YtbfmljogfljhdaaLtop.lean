/-
  FnExactSegTop holds at every argument: the program's SegTop answers as the specification's, field by field, and its answer owns its memory, behind another call too. No conditions.
-/
import Derived.Test.YtbfmljogfljhdaaLo
import Derived.Test.YtbfmljogfljhdaaTp
namespace Go.Proofs.Ytbfmljogfljhdaa
open Go.ChangeShapes Go.WideShapes Go.ChangeAt Go.RowKit Go.Joins

theorem V3.outs {v v' : World} {X : Nat} {a b : Int} {s : Bool} (h : V3 v X a b s) {lo hi : Nat} (ho : Outs lo hi v v') (hd : X < lo ∨ hi ≤ X) : V3 v' X a b s := by
  have g : G3 v X (.int .i64 a) (.int .i64 b) (.bool s) := ⟨h.c0, h.c1, h.c2, h.f0, h.f1, h.f2⟩
  obtain ⟨c0, c1, c2, f0, f1, f2⟩ := g.outs ho hd
  exact ⟨c0, c1, c2, f0, f1, f2⟩
set_option maxRecDepth 100000 in
set_option maxHeartbeats 3200000 in
theorem law_walk (n l a b : Int) (s : Bool) (w : World) : Calls Try.prog 4 #[.int .i64 n, .int .i64 l, .agg #[.int .i64 a, .int .i64 b, .bool s]] w fun e w' => e = .returned (.bool true) ∧ Below w.heap.size w w' := by
  obtain ⟨S, hS⟩ : ∃ S, topS n l a b s = S := ⟨_, rfl⟩
  have HM : Hid (Small S) := mkHid (by rw [← hS]; unfold topS; split <;> exact ⟨by simp [noS], by simp [noS, tot], by simp [noS], by simp [noS]⟩)
  have HSp : Hid (∀ v : World, Calls Try.prog 10 #[.int .i64 n, .int .i64 l, .agg #[.int .i64 a, .int .i64 b, .bool s]] v fun e v' => GivesS v v' e S) := mkHid fun v => by rw [← hS]; exact sTop_any n l a b s v
  have HIm : Hid (∀ v : World, Calls Try.prog 12 #[.int .i64 n, .int .i64 l, .agg #[.int .i64 a, .int .i64 b, .bool s]] v fun e v' => GivesS v v' e S) := mkHid fun v => by rw [← hS]; exact iTop_any n l a b s v
  clear hS
  obtain ⟨w0, hw0⟩ : ∃ x : World, w.alloc (.cells #[.int .i64 a, .int .i64 b, .bool s] 39) = x := ⟨_, rfl⟩
  obtain ⟨X, hX⟩ : ∃ x, w.heap.size = x := ⟨_, rfl⟩
  have QX : Hid (w.heap.size = X) := mkHid hX
  have QY : Hid (w0.heap.size = X + 1) := mkHid (by rw [← hw0, ← hX]; simp)
  have B_0 : Hid (Below w.heap.size w w0) := mkHid (by rw [← hw0]; exact bl_alloc (Below.refl _ _) _)
  have P_0 : Hid (V3 w0 X a b s) := mkHid (by rw [← hw0, ← hX]; exact V3.new _ _ _ _ _)
  obtain ⟨q0, q1, q2, _, _, _⟩ := P_0.out
  go_enter Try.func4, Try.ntmps4
  go_wp2_with fail
  refine (toVal_any a b s _).mono ?_
  rintro e w1 ⟨rfl, hb⟩
  have SZ1 : Hid (w0.heap.size ≤ w1.heap.size) := mkHid hb.size
  have B_1 := mkHid (below_step B_0.out hb)
  have P_1 := mkHid (P_0.out.below hb)
  clear B_0 P_0
  clear hb hw0 hX q0 q1 q2
  go_wp2_with fail
  refine (HSp.out _).mono ?_
  rintro e w2 ⟨Aw, rfl, ho, hb⟩
  have SZ2 : Hid (w1.heap.size ≤ w2.heap.size) := mkHid hb.size
  have B_2 := mkHid (below_step B_1.out hb)
  have P_2 := mkHid (P_1.out.below hb)
  clear B_1 P_1
  clear hb 
  have OW_0 := mkHid (ho)
  clear ho
  obtain ⟨Xw, hXw⟩ : ∃ x, w2.heap.size = x := ⟨_, rfl⟩
  obtain ⟨w3, hw3⟩ : ∃ x : World, w2.alloc (.cells #[.slice Aw.a0 S.B.length Aw.c0, .slice Aw.a1 S.V.length Aw.c1, .slice Aw.a2 S.M.length Aw.c2] 32) = x := ⟨_, rfl⟩
  have hb : Below w2.heap.size w2 w3 := by rw [← hw3]; exact bl_alloc (Below.refl _ _) _
  have SZ3 : Hid (w2.heap.size + 1 ≤ w3.heap.size) := mkHid (by rw [← hw3]; simp)
  have QXw : Hid (w2.heap.size = Xw) := mkHid hXw
  have B_3 := mkHid (below_step B_2.out hb)
  have P_3 := mkHid (P_2.out.below hb)
  have OW_1 := mkHid (OW_0.out.below hb)
  clear B_2 P_2 OW_0
  have GW_0 : Hid (G3 w3 Xw (.slice Aw.a0 S.B.length Aw.c0) (.slice Aw.a1 S.V.length Aw.c1) (.slice Aw.a2 S.M.length Aw.c2)) := mkHid (by rw [← hw3, ← hXw]; exact G3.new _ _ _ _ _)
  clear hb
  obtain ⟨q0, q1, q2, _, _, _⟩ := P_3.out
  go_wp2_with fail
  refine (toVal_any a b s _).mono ?_
  rintro e w4 ⟨rfl, hb⟩
  have SZ4 : Hid (w3.heap.size ≤ w4.heap.size) := mkHid hb.size
  have B_4 := mkHid (below_step B_3.out hb)
  have P_4 := mkHid (P_3.out.below hb)
  have OW_2 := mkHid (OW_1.out.below hb)
  have GW_1 := mkHid (GW_0.out.below hb)
  clear B_3 P_3 OW_1 GW_0
  clear hb hw3 hXw q0 q1 q2
  go_wp2_with fail
  refine (HIm.out _).mono ?_
  rintro e w5 ⟨Ag, rfl, ho, hb⟩
  have SZ5 : Hid (w4.heap.size ≤ w5.heap.size) := mkHid hb.size
  have B_5 := mkHid (below_step B_4.out hb)
  have P_5 := mkHid (P_4.out.below hb)
  have OW_3 := mkHid (OW_2.out.below hb)
  have GW_2 := mkHid (GW_1.out.below hb)
  clear B_4 P_4 OW_2 GW_1
  clear hb 
  have OG_0 := mkHid (ho)
  clear ho
  obtain ⟨Xg, hXg⟩ : ∃ x, w5.heap.size = x := ⟨_, rfl⟩
  obtain ⟨w6, hw6⟩ : ∃ x : World, w5.alloc (.cells #[.slice Ag.a0 S.B.length Ag.c0, .slice Ag.a1 S.V.length Ag.c1, .slice Ag.a2 S.M.length Ag.c2] 32) = x := ⟨_, rfl⟩
  have hb : Below w5.heap.size w5 w6 := by rw [← hw6]; exact bl_alloc (Below.refl _ _) _
  have SZ6 : Hid (w5.heap.size + 1 ≤ w6.heap.size) := mkHid (by rw [← hw6]; simp)
  have QXg : Hid (w5.heap.size = Xg) := mkHid hXg
  have B_6 := mkHid (below_step B_5.out hb)
  have P_6 := mkHid (P_5.out.below hb)
  have OW_4 := mkHid (OW_3.out.below hb)
  have GW_3 := mkHid (GW_2.out.below hb)
  have OG_1 := mkHid (OG_0.out.below hb)
  clear B_5 P_5 OW_3 GW_2 OG_0
  have GG_0 : Hid (G3 w6 Xg (.slice Ag.a0 S.B.length Ag.c0) (.slice Ag.a1 S.V.length Ag.c1) (.slice Ag.a2 S.M.length Ag.c2)) := mkHid (by rw [← hw6, ← hXg]; exact G3.new _ _ _ _ _)
  clear hb
  obtain ⟨q0, q1, q2, _, _, _⟩ := GG_0.out
  obtain ⟨r0, r1, r2, _, _, _⟩ := GW_3.out
  go_wp2_with fail
  refine (eqSeg_same S Ag Aw _ HM.out OG_1.out.at OW_4.out.at).mono ?_
  rintro e w7 ⟨rfl, hb⟩
  have SZ7 : Hid (w6.heap.size ≤ w7.heap.size) := mkHid hb.size
  have B_7 := mkHid (below_step B_6.out hb)
  have P_7 := mkHid (P_6.out.below hb)
  have OW_5 := mkHid (OW_4.out.below hb)
  have GW_4 := mkHid (GW_3.out.below hb)
  have OG_2 := mkHid (OG_1.out.below hb)
  have GG_1 := mkHid (GG_0.out.below hb)
  clear B_6 P_6 OW_4 GW_3 OG_1 GG_0
  clear hb hw6 hXg q0 q1 q2 r0 r1 r2
  obtain ⟨q0, q1, q2, _, _, _⟩ := GG_1.out
  go_wp2_with fail
  refine (markSeg_ok S Ag _ _ 1 _ HM.out (by omega) (by omega) (by have := QX.out; have := QY.out; have := SZ1.out; have := SZ2.out; have := SZ3.out; have := QXw.out; have := SZ4.out; have := SZ5.out; have := SZ6.out; have := QXg.out; have := SZ7.out; omega) OG_2.out).mono ?_
  rintro e w8 ⟨rfl, og, ho⟩
  have SZ8 : Hid (w7.heap.size ≤ w8.heap.size) := mkHid ho.size
  have B_8 := mkHid (Outs.below B_7.out ho (by have := QX.out; have := QY.out; have := SZ1.out; have := SZ2.out; have := SZ3.out; have := QXw.out; have := SZ4.out; have := SZ5.out; have := SZ6.out; have := QXg.out; have := SZ7.out; omega) (Nat.le_refl _))
  have P_8 := mkHid (V3.outs P_7.out ho (.inl (by have := QX.out; have := QY.out; have := SZ1.out; have := SZ2.out; have := SZ3.out; have := QXw.out; have := SZ4.out; have := SZ5.out; have := SZ6.out; have := QXg.out; have := SZ7.out; omega)))
  have OW_6 := mkHid (OwnS.outs OW_5.out ho (.inl (by have := QX.out; have := QY.out; have := SZ1.out; have := SZ2.out; have := SZ3.out; have := QXw.out; have := SZ4.out; have := SZ5.out; have := SZ6.out; have := QXg.out; have := SZ7.out; omega)))
  have GW_5 := mkHid (G3.outs GW_4.out ho (.inl (by have := QX.out; have := QY.out; have := SZ1.out; have := SZ2.out; have := SZ3.out; have := QXw.out; have := SZ4.out; have := SZ5.out; have := SZ6.out; have := QXg.out; have := SZ7.out; omega)))
  have OG_3 := mkHid (og)
  have GG_2 := mkHid (G3.outs GG_1.out ho (.inr (by have := QX.out; have := QY.out; have := SZ1.out; have := SZ2.out; have := SZ3.out; have := QXw.out; have := SZ4.out; have := SZ5.out; have := SZ6.out; have := QXg.out; have := SZ7.out; omega)))
  clear B_7 P_7 OW_5 GW_4 OG_2 GG_1
  clear ho og q0 q1 q2
  obtain ⟨m, hm⟩ : ∃ m, 1 + cntS S = m := ⟨_, rfl⟩
  have hm0 : ¬ m < 0 := by have := cntS_nonneg S; omega
  have hmm : (m != m) = false := by simp
  have HMm := mkHid hm
  rw [hm]
  clear hm
  obtain ⟨q0, q1, q2, _, _, _⟩ := GG_2.out
  go_wp2_with fail
  refine (heldSeg_ok S Ag 1 _ HM.out (by omega) (by omega) OG_3.out.at).mono ?_
  rintro e w9 ⟨rfl, hb⟩
  have SZ9 : Hid (w8.heap.size ≤ w9.heap.size) := mkHid hb.size
  have B_9 := mkHid (below_step B_8.out hb)
  have P_9 := mkHid (P_8.out.below hb)
  have OW_7 := mkHid (OW_6.out.below hb)
  have GW_6 := mkHid (GW_5.out.below hb)
  have OG_4 := mkHid (OG_3.out.below hb)
  have GG_3 := mkHid (GG_2.out.below hb)
  clear B_8 P_8 OW_6 GW_5 OG_3 GG_2
  clear hb q0 q1 q2
  rw [HMm.out]
  obtain ⟨q0, q1, q2, _, _, _⟩ := P_9.out
  go_wp2_with fail
  refine (toVal_any a b s _).mono ?_
  rintro e w10 ⟨rfl, hb⟩
  have SZ10 : Hid (w9.heap.size ≤ w10.heap.size) := mkHid hb.size
  have B_10 := mkHid (below_step B_9.out hb)
  have P_10 := mkHid (P_9.out.below hb)
  have OW_8 := mkHid (OW_7.out.below hb)
  have GW_7 := mkHid (GW_6.out.below hb)
  have OG_5 := mkHid (OG_4.out.below hb)
  have GG_4 := mkHid (GG_3.out.below hb)
  clear B_9 P_9 OW_7 GW_6 OG_4 GG_3
  clear hb q0 q1 q2
  go_wp2_with fail
  refine (HIm.out _).mono ?_
  rintro e w11 ⟨Ah, rfl, ho, hb⟩
  have SZ11 : Hid (w10.heap.size ≤ w11.heap.size) := mkHid hb.size
  have B_11 := mkHid (below_step B_10.out hb)
  have P_11 := mkHid (P_10.out.below hb)
  have OW_9 := mkHid (OW_8.out.below hb)
  have GW_8 := mkHid (GW_7.out.below hb)
  have OG_6 := mkHid (OG_5.out.below hb)
  have GG_5 := mkHid (GG_4.out.below hb)
  clear B_10 P_10 OW_8 GW_7 OG_5 GG_4
  clear hb 
  have OH_0 := mkHid (ho)
  clear ho
  obtain ⟨Xh, hXh⟩ : ∃ x, w11.heap.size = x := ⟨_, rfl⟩
  obtain ⟨w12, hw12⟩ : ∃ x : World, w11.alloc (.cells #[.slice Ah.a0 S.B.length Ah.c0, .slice Ah.a1 S.V.length Ah.c1, .slice Ah.a2 S.M.length Ah.c2] 32) = x := ⟨_, rfl⟩
  have hb : Below w11.heap.size w11 w12 := by rw [← hw12]; exact bl_alloc (Below.refl _ _) _
  have SZ12 : Hid (w11.heap.size + 1 ≤ w12.heap.size) := mkHid (by rw [← hw12]; simp)
  have QXh : Hid (w11.heap.size = Xh) := mkHid hXh
  have B_12 := mkHid (below_step B_11.out hb)
  have P_12 := mkHid (P_11.out.below hb)
  have OW_10 := mkHid (OW_9.out.below hb)
  have GW_9 := mkHid (GW_8.out.below hb)
  have OG_7 := mkHid (OG_6.out.below hb)
  have GG_6 := mkHid (GG_5.out.below hb)
  have OH_1 := mkHid (OH_0.out.below hb)
  clear B_11 P_11 OW_9 GW_8 OG_6 GG_5 OH_0
  have GH_0 : Hid (G3 w12 Xh (.slice Ah.a0 S.B.length Ah.c0) (.slice Ah.a1 S.V.length Ah.c1) (.slice Ah.a2 S.M.length Ah.c2)) := mkHid (by rw [← hw12, ← hXh]; exact G3.new _ _ _ _ _)
  clear hb
  obtain ⟨q0, q1, q2, _, _, _⟩ := GH_0.out
  obtain ⟨r0, r1, r2, _, _, _⟩ := GW_9.out
  go_wp2_with fail
  refine (eqSeg_same S Ah Aw _ HM.out OH_1.out.at OW_10.out.at).mono ?_
  rintro e w13 ⟨rfl, hb⟩
  have SZ13 : Hid (w12.heap.size ≤ w13.heap.size) := mkHid hb.size
  have B_13 := mkHid (below_step B_12.out hb)
  have P_13 := mkHid (P_12.out.below hb)
  have OW_11 := mkHid (OW_10.out.below hb)
  have GW_10 := mkHid (GW_9.out.below hb)
  have OG_8 := mkHid (OG_7.out.below hb)
  have GG_7 := mkHid (GG_6.out.below hb)
  have OH_2 := mkHid (OH_1.out.below hb)
  have GH_1 := mkHid (GH_0.out.below hb)
  clear B_12 P_12 OW_10 GW_9 OG_7 GG_6 OH_1 GH_0
  clear hb hw12 hXh q0 q1 q2 r0 r1 r2
  obtain ⟨q0, q1, q2, _, _, _⟩ := GG_7.out
  go_wp2_with fail
  refine (heldSeg_ok S Ag 1 _ HM.out (by omega) (by omega) OG_8.out.at).mono ?_
  rintro e w14 ⟨rfl, hb⟩
  have SZ14 : Hid (w13.heap.size ≤ w14.heap.size) := mkHid hb.size
  have B_14 := mkHid (below_step B_13.out hb)
  have P_14 := mkHid (P_13.out.below hb)
  have OW_12 := mkHid (OW_11.out.below hb)
  have GW_11 := mkHid (GW_10.out.below hb)
  have OG_9 := mkHid (OG_8.out.below hb)
  have GG_8 := mkHid (GG_7.out.below hb)
  have OH_3 := mkHid (OH_2.out.below hb)
  have GH_2 := mkHid (GH_1.out.below hb)
  clear B_13 P_13 OW_11 GW_10 OG_8 GG_7 OH_2 GH_1
  clear hb q0 q1 q2
  rw [HMm.out]
  go_wp2
  go_ret
  exact ⟨rfl, B_14.out⟩

set_option maxRecDepth 100000 in
theorem law_lifted (os : Os) (started : os.Started) (H : Type) (enc : TypeId × Value → H) :
    ReturnsInHanded {} Try.checked os 4 .any (Rows.fnExactSegTopSpec.pre6 enc Try.prog Try.f4 Rows.fnExactSegTopRow.domain false) (Rows.fnExactSegTopSpec.post enc Try.prog Try.f4 false true false false) := by
  refine returnsInHanded_of_change (C := Try.checked) Try.own started (by kernel_rfl) Try.func4
    (ChangeSpec.witness6 (enc := enc) (C := Try.checked) false ⟨#[], #[.int .i64 0, .int .i64 0, .agg #[.int .i64 0, .int .i64 0, .bool false]], []⟩ 8 (by kernel_rfl) (by kernel_rfl) (by kernel_rfl) (by kernel_rfl)) ?_
  intro W base args ds gs before hval0 hW hcnd _
  have hval : ∀ (j : Nat) t v, Try.f4.params[j]? = some t → args[j]? = some v → Value.okWide Try.prog W .any base t v := hval0
  have hW' := hW
  obtain ⟨p, q, hA0, hV, rfl, hfz, hnd⟩ := hW
  have hA : DataW.TrodAll enc Try.prog W 0 (fun _ => true) true Try.f4.params.toList args.toList ds p := hA0
  rw [Try.params4] at hA hval
  obtain ⟨v0, vs0, d0, ds0, p0, q0, hargs, rfl, rfl, h0, r0⟩ := trodAll_cons hA
  obtain ⟨v1, vs1, d1, ds1, p1, q1, rfl, rfl, rfl, h1, r1⟩ := trodAll_cons r0
  obtain ⟨v2, vs2, d2, ds2, p2, q2, rfl, rfl, rfl, h2, r2⟩ := trodAll_cons r1
  obtain ⟨rfl, rfl, rfl⟩ := trodAll_nil r2
  obtain rfl : args = #[v0, v1, v2] := by cases args; simp_all
  obtain ⟨rfl, rfl⟩ := trodVars_none hV
  have k0 := h0
  have lt0 : ∀ x ∈ p0, x.block < W.heap.size := by obtain ⟨m, hm⟩ := k0; exact DataW.trod_lt m _ _ _ hm
  have k1 := h1
  have lt1 : ∀ x ∈ p1, x.block < W.heap.size := by obtain ⟨m, hm⟩ := k1; exact DataW.trod_lt m _ _ _ hm
  have k2 := h2
  have lt2 : ∀ x ∈ p2, x.block < W.heap.size := by obtain ⟨m, hm⟩ := k2; exact DataW.trod_lt m _ _ _ hm
  obtain ⟨x0, hv0, _, _, _⟩ := open_int Try.underlying3 (hval 0 3 v0 rfl rfl) h0
  subst hv0
  obtain ⟨x1, hv1, _, _, _⟩ := open_int Try.underlying3 (hval 1 3 v1 rfl rfl) h1
  subst hv1
  obtain ⟨a2, b2, s2, hv2⟩ := open_val (hval 2 39 v2 rfl rfl) h2
  subst hv2
  clear hA0 hval0
  refine (law_walk x0 x1 a2 b2 s2 W ).mono fun e W' ⟨he, bel⟩ => ?_
  subst he
  exact ⟨_, rfl, _, _, _, [], _, [], hW', trodAll_mk1 (shut_bool Try.underlying4 _), (trodAll_cons_mk (Below.trod Try.laidOut (by kernel_rfl) (of_decide_eq_true (by kernel_rfl)) k0 bel lt0) (trodAll_cons_mk (Below.trod Try.laidOut (by kernel_rfl) (of_decide_eq_true (by kernel_rfl)) k1 bel lt1) (trodAll_cons_mk (Below.trod Try.laidOut (by kernel_rfl) (of_decide_eq_true (by kernel_rfl)) k2 bel lt2) trodAll_mk0))), rfl, bel.frame _, fun h => by cases h⟩

theorem law_holds : Rows.FnExactSegTopSaid :=
  OpenClaim.holds_of_wide 4 Try.f4 rfl rfl rfl rfl rfl rfl rfl ⟨rfl, rfl, rfl, rfl, rfl⟩ rfl rfl rfl rfl rfl (by kernel_rfl) Try.func4 (by kernel_rfl)
    (of_decide_eq_true (by kernel_rfl)) (by unfold Func.isWrapper; first | (rw [if_pos (by decide +kernel)]; kernel_rfl) | (rw [if_neg (by decide +kernel)]; exact ⟨rfl, rfl⟩))
    (fun os started H enc _ => law_lifted os started H enc)

#print axioms law_holds
end Go.Proofs.Ytbfmljogfljhdaa
