/-
  FnExactSymOk holds at every argument: the program's function answers as the specification's, writes into no argument. No conditions.
-/
import Derived.Test.YtmaejdomlggopaaSy
import Derived.Test.YtmaejdomlggopaaLo
import Derived.Test.YtmaejdomlggopaaInv
import Derived.Deep.RegionHeld3
namespace Go.Proofs.Ytmaejdomlggopaa
open Go.ChangeShapes Go.WideShapes Go.ChangeAt Go.RowKit Go.Joins

set_option maxRecDepth 100000 in
set_option maxHeartbeats 1600000 in
theorem law_walk (x0 : Int) (s1 t1 : Int) (w : World) : Calls Try.prog 7 #[.int .i64 x0, .agg #[.int .i64 s1, .int .i64 t1]] w fun e w' => e = .returned (.bool true) ∧ Below w.heap.size w w' := by
  have B_0 : Hid (Below w.heap.size w (w.alloc (.cells #[.int .i64 s1, .int .i64 t1] 44))) := mkHid (((Below.refl w.heap.size w).alloc (Nat.le_refl _) (.cells #[.int .i64 s1, .int .i64 t1] 44)))
  have A1_0 : Hid (Box (w.alloc (.cells #[.int .i64 s1, .int .i64 t1] 44)) (w.heap.size) s1 t1) := mkHid (by have := Box.new' w s1 t1 44; simpa using this)
  obtain ⟨r0, hr0⟩ : ∃ r, symOkB x0 s1 t1 = r := ⟨_, rfl⟩
  have HS : Hid (∀ (v : World), Calls Try.prog 30 #[.int .i64 x0, .agg #[.int .i64 s1, .int .i64 t1]] v fun e w' => e = .returned (.bool r0) ∧ Below v.heap.size v w') := mkHid fun  v  => by rw [← hr0]; exact sSymOk_any x0 s1 t1 v
  have HI : Hid (∀ (v : World), Calls Try.prog 32 #[.int .i64 x0, .agg #[.int .i64 s1, .int .i64 t1]] v fun e w' => e = .returned (.bool r0) ∧ Below v.heap.size v w') := mkHid fun  v  => by rw [← hr0]; exact iSymOk_any x0 s1 t1 v
  clear  hr0
  go_enter Try.func7, Try.ntmps7
  obtain ⟨a1q0, a1q1, a1q2, a1q3⟩ := A1_0.out
  go_wp2_with fail
  refine (toSym_any s1 t1 _).mono ?_
  rintro e w1 ⟨rfl, hb⟩
  have B_1 := mkHid (below_step B_0.out hb)
  have A1_1 := mkHid (A1_0.out.below hb)
  clear hb a1q0 a1q1 a1q2 a1q3 B_0 A1_0
  obtain ⟨a1q0, a1q1, a1q2, a1q3⟩ := A1_1.out
  go_wp2_with fail
  refine (HS.out  _ ).mono ?_
  rintro e w2 ⟨rfl, hb⟩
  have B_2 := mkHid (below_step B_1.out hb)
  have A1_2 := mkHid (A1_1.out.below hb)
  clear hb a1q0 a1q1 a1q2 a1q3 B_1 A1_1
  have hne0 : (r0 != r0) = false := by simp
  obtain ⟨a1q0, a1q1, a1q2, a1q3⟩ := A1_2.out
  go_wp2_with fail
  refine (toSym_any s1 t1 _).mono ?_
  rintro e w3 ⟨rfl, hb⟩
  have B_3 := mkHid (below_step B_2.out hb)
  have A1_3 := mkHid (A1_2.out.below hb)
  clear hb a1q0 a1q1 a1q2 a1q3 B_2 A1_2
  obtain ⟨a1q0, a1q1, a1q2, a1q3⟩ := A1_3.out
  go_wp2_with fail
  refine (HI.out  _ ).mono ?_
  rintro e w4 ⟨rfl, hb⟩
  have B_4 := mkHid (below_step B_3.out hb)
  have A1_4 := mkHid (A1_3.out.below hb)
  clear hb a1q0 a1q1 a1q2 a1q3 B_3 A1_3
  go_wp2
  go_ret
  exact ⟨rfl, B_4.out⟩

set_option maxRecDepth 100000 in
theorem law_lifted (os : Os) (started : os.Started) (H : Type) (enc : TypeId × Value → H) :
    ReturnsInHanded {} Try.checked os 7 .any (Rows.fnExactSymOkSpec.pre6 enc Try.prog Try.f7 Rows.fnExactSymOkRow.domain false) (Rows.fnExactSymOkSpec.post enc Try.prog Try.f7 false true false false) := by
  refine returnsInHanded_of_change (C := Try.checked) Try.own started (by kernel_rfl) Try.func7
    (ChangeSpec.witness6 (enc := enc) (C := Try.checked) false ⟨#[], #[.int .i64 0, .agg #[.int .i64 0, .int .i64 0]], []⟩ 8 (by kernel_rfl) (by kernel_rfl) (by kernel_rfl) (by kernel_rfl)) ?_
  intro W base args ds gs before hval0 hW hcnd _
  have hval : ∀ (j : Nat) t v, Try.f7.params[j]? = some t → args[j]? = some v → Value.okWide Try.prog W .any base t v := hval0
  have hW' := hW
  obtain ⟨p, q, hA0, hV, rfl, hfz, hnd⟩ := hW
  have hA : DataW.TrodAll enc Try.prog W 0 (fun _ => true) true Try.f7.params.toList args.toList ds p := hA0
  rw [Try.params7] at hA hval
  obtain ⟨v0, vs0, d0, ds0, p0, q0, hargs, rfl, rfl, h0, r0⟩ := trodAll_cons hA
  obtain ⟨v1, vs1, d1, ds1, p1, q1, rfl, rfl, rfl, h1, r1⟩ := trodAll_cons r0
  obtain ⟨rfl, rfl, rfl⟩ := trodAll_nil r1
  obtain rfl : args = #[v0, v1] := by cases args; simp_all
  obtain ⟨rfl, rfl⟩ := trodVars_none hV
  have k0 := h0
  have lt0 : ∀ x ∈ p0, x.block < W.heap.size := by obtain ⟨m, hm⟩ := k0; exact DataW.trod_lt m _ _ _ hm
  have k1 := h1
  have lt1 : ∀ x ∈ p1, x.block < W.heap.size := by obtain ⟨m, hm⟩ := k1; exact DataW.trod_lt m _ _ _ hm
  obtain ⟨x0, hv0, _, _, _⟩ := open_int Try.underlying3 (hval 0 3 v0 rfl rfl) h0
  subst hv0
  obtain ⟨u10, u11, y10, y11, m1, hv1, _, _, hy10, hy11⟩ := open_agg2 Try.underlying44 (by kernel_rfl) Try.cells44 (hval 1 44 v1 rfl rfl) h1
  obtain ⟨s1, e10, _, _⟩ := DataW.trod_int Try.underlying3 hy10
  obtain ⟨t1, e11, _, _⟩ := DataW.trod_int Try.underlying3 hy11
  simp at e10 e11
  subst e10 e11 hv1
  clear hA0 hval0
  refine (law_walk x0 s1 t1 W ).mono fun e W' ⟨he, bel⟩ => ?_
  subst he
  exact ⟨_, rfl, _, _, _, [], _, [], hW', trodAll_mk1 (shut_bool Try.underlying4 _), (trodAll_cons_mk (Below.trod Try.laidOut (by kernel_rfl) (of_decide_eq_true (by kernel_rfl)) k0 bel lt0) (trodAll_cons_mk (Below.trod Try.laidOut (by kernel_rfl) (of_decide_eq_true (by kernel_rfl)) k1 bel lt1) trodAll_mk0)), rfl, bel.frame _, fun h => by cases h⟩

theorem law_holds : Rows.FnExactSymOkSaid :=
  OpenClaim.holds_of_wide 7 Try.f7 rfl rfl rfl rfl rfl rfl rfl ⟨rfl, rfl, rfl, rfl, rfl⟩ rfl rfl rfl rfl rfl (by kernel_rfl) Try.func7 (by kernel_rfl)
    (of_decide_eq_true (by kernel_rfl)) (by unfold Func.isWrapper; first | (rw [if_pos (by decide +kernel)]; kernel_rfl) | (rw [if_neg (by decide +kernel)]; exact ⟨rfl, rfl⟩))
    (fun os started H enc _ => law_lifted os started H enc)

#print axioms law_holds
end Go.Proofs.Ytmaejdomlggopaa
