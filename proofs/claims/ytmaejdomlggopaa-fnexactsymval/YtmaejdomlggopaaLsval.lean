/-
  FnExactSymVal holds at every argument: the program's function answers as the specification's, writes into no argument. No conditions.
-/
import Derived.Test.YtmaejdomlggopaaSv
import Derived.Test.YtmaejdomlggopaaLo
import Derived.Test.YtmaejdomlggopaaInv
import Derived.Deep.RegionHeld3
namespace Go.Proofs.Ytmaejdomlggopaa
open Go.ChangeShapes Go.WideShapes Go.ChangeAt Go.RowKit Go.Joins

set_option maxRecDepth 100000 in
set_option maxHeartbeats 6400000 in
theorem law_walk (s0 t0 : Int) (l1 : List Int) (a1 : Option Addr) (c1 : Nat) (w : World) (hn1 : l1.length ≤ maxLen) (hl1 : IntsAt w a1 l1) : Calls Try.prog 9 #[.agg #[.int .i64 s0, .int .i64 t0], .slice a1 l1.length c1] w fun e w' => e = .returned (.bool true) ∧ Below w.heap.size w w' := by
  have HN1 := mkHid hn1
  have HL1 := mkHid hl1
  have B_0 : Hid (Below w.heap.size w (w.alloc (.cells #[.int .i64 s0, .int .i64 t0] 44))) := mkHid (((Below.refl w.heap.size w).alloc (Nat.le_refl _) (.cells #[.int .i64 s0, .int .i64 t0] 44)))
  have A0_0 : Hid (Box (w.alloc (.cells #[.int .i64 s0, .int .i64 t0] 44)) (w.heap.size) s0 t0) := mkHid (by have := Box.new' w s0 t0 44; simpa using this)
  obtain ⟨r0, hr0⟩ : ∃ r, (symVal s0 t0 l1).1 = r := ⟨_, rfl⟩
  obtain ⟨r1, hr1⟩ : ∃ r, (symVal s0 t0 l1).2 = r := ⟨_, rfl⟩
  have HS : Hid (∀ (a1 : Option Addr) (v : World), IntsAt v a1 l1 → Calls Try.prog 35 #[.agg #[.int .i64 s0, .int .i64 t0], .slice a1 l1.length l1.length] v fun e w' => e = .returned (.tuple #[.int .i64 r0, .bool r1]) ∧ Below v.heap.size v w') := mkHid fun a1 v h1 => by rw [← hr0]; rw [← hr1]; exact sSymVal_any s0 t0 l1 a1 _ v h1
  have HI : Hid (∀ (a1 : Option Addr) (v : World), IntsAt v a1 l1 → Calls Try.prog 36 #[.agg #[.int .i64 s0, .int .i64 t0], .slice a1 l1.length l1.length] v fun e w' => e = .returned (.tuple #[.int .i64 r0, .bool r1]) ∧ Below v.heap.size v w') := mkHid fun a1 v h1 => by rw [← hr0]; rw [← hr1]; exact iSymVal_any s0 t0 l1 a1 _ v HN1.out h1
  clear hn1 hl1 hr0 hr1
  go_enter Try.func9, Try.ntmps9
  by_cases hbig1 : (1048576 : Int) < (l1.length : Int)
  · go_wp2
    go_ret
    exact ⟨rfl, B_0.out⟩
  have HZZ1 : Hid (l1.length ≤ 1048576) := mkHid (by omega)
  obtain ⟨a0q0, a0q1, a0q2, a0q3⟩ := A0_0.out
  go_wp2_with fail
  refine (toSym_any s0 t0 _).mono ?_
  rintro e w1 ⟨rfl, hb⟩
  have B_1 := mkHid (below_step B_0.out hb)
  have A0_1 := mkHid (A0_0.out.below hb)
  clear hb a0q0 a0q1 a0q2 a0q3 B_0 A0_0
  obtain ⟨a0q0, a0q1, a0q2, a0q3⟩ := A0_1.out
  go_wp2_with fail
  refine (toIntS_any l1 a1 c1 _ HZZ1.out (HL1.out.below B_1.out)).mono ?_
  rintro e w2 ⟨gt17, rfl, ho, hb⟩
  have B_2 := mkHid (below_step B_1.out hb)
  have A0_2 := mkHid (A0_1.out.below hb)
  clear hb a0q0 a0q1 a0q2 a0q3 B_1 A0_1
  have T17_2 := mkHid (ho)
  clear ho
  obtain ⟨a0q0, a0q1, a0q2, a0q3⟩ := A0_2.out
  go_wp2_with fail
  refine (HS.out _ _ T17_2.out.at).mono ?_
  rintro e w3 ⟨rfl, hb⟩
  have B_3 := mkHid (below_step B_2.out hb)
  have A0_3 := mkHid (A0_2.out.below hb)
  have T17_3 := mkHid (T17_2.out.below hb)
  clear hb a0q0 a0q1 a0q2 a0q3 B_2 A0_2 T17_2
  clear T17_3
  obtain ⟨bz, hbz⟩ : ∃ bz, w3.heap.size = bz := ⟨_, rfl⟩
  go_wp2_with fail
  skip
  refine (toIntS_any l1 a1 c1 _ HZZ1.out (HL1.out.below B_3.out)).mono ?_
  rintro e w4 ⟨cp1, rfl, ho, hb⟩
  obtain ⟨bx1, hbx1⟩ : ∃ b, w4.heap.size = b := ⟨_, rfl⟩
  have hx1 : bz ≤ cp1 ∧ cp1 < bx1 := by have h1 := ho.base_le; have h2 := ho.lt (q := cp1) rfl; omega
  have B_4 := mkHid (below_step B_3.out hb)
  have A0_4 := mkHid (A0_3.out.below hb)
  clear hb hbz B_3 A0_3
  have O1_4 := mkHid (ho)
  clear ho
  have hne0 : (r0 != r0) = false := by simp
  have hne1 : (r1 != r1) = false := by simp
  obtain ⟨a0q0, a0q1, a0q2, a0q3⟩ := A0_4.out
  go_wp2_with fail
  refine (toSym_any s0 t0 _).mono ?_
  rintro e w5 ⟨rfl, hb⟩
  have B_5 := mkHid (below_step B_4.out hb)
  have A0_5 := mkHid (A0_4.out.below hb)
  have O1_5 := mkHid (O1_4.out.below hb)
  clear hb a0q0 a0q1 a0q2 a0q3 B_4 A0_4 O1_4
  obtain ⟨a0q0, a0q1, a0q2, a0q3⟩ := A0_5.out
  go_wp2_with fail
  refine (HI.out _ _ O1_5.out.at).mono ?_
  rintro e w6 ⟨rfl, hb⟩
  have B_6 := mkHid (below_step B_5.out hb)
  have A0_6 := mkHid (A0_5.out.below hb)
  have O1_6 := mkHid (O1_5.out.below hb)
  clear hb a0q0 a0q1 a0q2 a0q3 B_5 A0_5 O1_5
  clear hbx1
  go_wp2_with fail
  refine (toIntS_any l1 a1 c1 _ HZZ1.out (HL1.out.below B_6.out)).mono ?_
  rintro e w7 ⟨gx, rfl, hox, hb⟩
  have B_7 := mkHid (below_step B_6.out hb)
  have A0_7 := mkHid (A0_6.out.below hb)
  have O1_7 := mkHid (O1_6.out.below hb)
  clear hb  B_6 A0_6 O1_6
  go_wp2_with fail
  refine (eqIntS_ok l1 _ _ _ _ _ HN1.out O1_7.out.at hox.at).mono ?_
  rintro e w8 ⟨rfl, hb⟩
  have B_8 := mkHid (below_step B_7.out hb)
  have A0_8 := mkHid (A0_7.out.below hb)
  have O1_8 := mkHid (O1_7.out.below hb)
  clear hb hox B_7 A0_7 O1_7
  go_wp2
  go_ret
  exact ⟨rfl, B_8.out⟩

set_option maxRecDepth 100000 in
theorem law_lifted (os : Os) (started : os.Started) (H : Type) (enc : TypeId × Value → H) :
    ReturnsInHanded {} Try.checked os 9 .any (Rows.fnExactSymValSpec.pre6 enc Try.prog Try.f9 Rows.fnExactSymValRow.domain false) (Rows.fnExactSymValSpec.post enc Try.prog Try.f9 false true false false) := by
  refine returnsInHanded_of_change (C := Try.checked) Try.own started (by kernel_rfl) Try.func9
    (ChangeSpec.witness6 (enc := enc) (C := Try.checked) false ⟨#[], #[.agg #[.int .i64 0, .int .i64 0], .slice none 0 0], []⟩ 8 (by kernel_rfl) (by kernel_rfl) (by kernel_rfl) (by kernel_rfl)) ?_
  intro W base args ds gs before hval0 hW hcnd _
  have hval : ∀ (j : Nat) t v, Try.f9.params[j]? = some t → args[j]? = some v → Value.okWide Try.prog W .any base t v := hval0
  have hW' := hW
  obtain ⟨p, q, hA0, hV, rfl, hfz, hnd⟩ := hW
  have hA : DataW.TrodAll enc Try.prog W 0 (fun _ => true) true Try.f9.params.toList args.toList ds p := hA0
  rw [Try.params9] at hA hval
  obtain ⟨v0, vs0, d0, ds0, p0, q0, hargs, rfl, rfl, h0, r0⟩ := trodAll_cons hA
  obtain ⟨v1, vs1, d1, ds1, p1, q1, rfl, rfl, rfl, h1, r1⟩ := trodAll_cons r0
  obtain ⟨rfl, rfl, rfl⟩ := trodAll_nil r1
  obtain rfl : args = #[v0, v1] := by cases args; simp_all
  obtain ⟨rfl, rfl⟩ := trodVars_none hV
  have k0 := h0
  have lt0 : ∀ x ∈ p0, x.block < W.heap.size := by obtain ⟨m, hm⟩ := k0; exact DataW.trod_lt m _ _ _ hm
  have k1 := h1
  have lt1 : ∀ x ∈ p1, x.block < W.heap.size := by obtain ⟨m, hm⟩ := k1; exact DataW.trod_lt m _ _ _ hm
  obtain ⟨u00, u01, y00, y01, m0, hv0, _, _, hy00, hy01⟩ := open_agg2 Try.underlying44 (by kernel_rfl) Try.cells44 (hval 0 44 v0 rfl rfl) h0
  obtain ⟨s0, e00, _, _⟩ := DataW.trod_int Try.underlying3 hy00
  obtain ⟨t0, e01, _, _⟩ := DataW.trod_int Try.underlying3 hy01
  simp at e00 e01
  subst e00 e01 hv0
  obtain ⟨a1, c1, l1, hv1, hn1, hk1⟩ := open_intsof (okWide_slice Try.underlying22 (hval 1 22 v1 rfl rfl)) h1
  subst hv1
  clear hA0 hval0
  refine (law_walk s0 t0 l1 a1 c1 W hn1 hk1).mono fun e W' ⟨he, bel⟩ => ?_
  subst he
  exact ⟨_, rfl, _, _, _, [], _, [], hW', trodAll_mk1 (shut_bool Try.underlying4 _), (trodAll_cons_mk (Below.trod Try.laidOut (by kernel_rfl) (of_decide_eq_true (by kernel_rfl)) k0 bel lt0) (trodAll_cons_mk (Below.trod Try.laidOut (by kernel_rfl) (of_decide_eq_true (by kernel_rfl)) k1 bel lt1) trodAll_mk0)), rfl, bel.frame _, fun h => by cases h⟩

theorem law_holds : Rows.FnExactSymValSaid :=
  OpenClaim.holds_of_wide 9 Try.f9 rfl rfl rfl rfl rfl rfl rfl ⟨rfl, rfl, rfl, rfl, rfl⟩ rfl rfl rfl rfl rfl (by kernel_rfl) Try.func9 (by kernel_rfl)
    (of_decide_eq_true (by kernel_rfl)) (by unfold Func.isWrapper; first | (rw [if_pos (by decide +kernel)]; kernel_rfl) | (rw [if_neg (by decide +kernel)]; exact ⟨rfl, rfl⟩))
    (fun os started H enc _ => law_lifted os started H enc)

#print axioms law_holds
end Go.Proofs.Ytmaejdomlggopaa
