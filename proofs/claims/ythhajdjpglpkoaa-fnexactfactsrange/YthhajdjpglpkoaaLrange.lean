/-
  FnExactFactsRange holds at every argument: the program's FactsRange answers as the specification's, and the argument reads as before. No conditions.
-/
import Derived.Test.YthhajdjpglpkoaaRs
import Derived.Test.YthhajdjpglpkoaaLo
namespace Go.Proofs.Ythhajdjpglpkoaa
open Go.ChangeShapes Go.WideShapes Go.ChangeAt Go.RowKit Go.Joins

set_option maxRecDepth 100000 in
set_option maxHeartbeats 3200000 in
theorem law_walk (z : Int) (l : List Int) (a : Option Addr) (c : Nat) (i : Int) (w : World) (hn : l.length ≤ maxLen) (hl : IntsAt w a l) : Calls Try.prog 15 #[.agg #[.int .i64 z, .slice a l.length c], .int .i64 i] w fun e w' => e = .returned (.bool true) ∧ Below w.heap.size w w' := by
  have HN := mkHid hn
  have HL := mkHid hl
  have B0 := mkHid ((Below.refl w.heap.size w).alloc (Nat.le_refl _) (.cells #[.int .i64 z, .slice a l.length c] 29))
  have F0 := mkHid (Fc.new w z a l.length c 29)
  clear hn hl
  go_enter Try.func15, Try.ntmps15
  go_wp2_with fail
  refine (szFacts_any z a l.length c 1048576 _ HN.out (by omega) (by omega)).mono ?_
  rintro e w1 ⟨rfl, hb1⟩
  have B1 := mkHid (below_step B0.out hb1)
  have F1 := mkHid (F0.out.below hb1)
  clear hb1 B0 F0
  obtain ⟨r, hr⟩ : ∃ r, szR 1048576 l.length = r := ⟨_, rfl⟩
  have HZ : Hid (¬ r < 0 → l.length ≤ 1048576) := mkHid fun h => by unfold szR at hr; split at hr <;> omega
  rw [hr]
  clear hr
  by_cases hneg : r < 0
  · go_wp2
    go_ret
    exact ⟨rfl, B1.out⟩
  · have HZZ := mkHid (HZ.out hneg)
    obtain ⟨p0, p1⟩ := F1.out
    go_wp2_with fail
    refine (toFacts_any z l a c _ HZZ.out (HL.out.below B1.out)).mono ?_
    rintro e w2 ⟨g2, rfl, ho2, hb2⟩
    have B2 := mkHid (below_step B1.out hb2)
    have F2 := mkHid (F1.out.below hb2)
    have O2 := mkHid ho2.at
    clear hb2 ho2 p0 p1 F1
    obtain ⟨p, hp⟩ : ∃ p, rngF z l i = p := ⟨_, rfl⟩
    have HP := mkHid hp
    clear hp
    go_wp2_with fail
    refine (sRange_any z l _ _ i _ O2.out).mono ?_
    rintro e w3 ⟨rfl, hb3⟩
    rw [HP.out]
    obtain ⟨x, y⟩ := p
    have B3 := mkHid ((below_step B2.out hb3).alloc (below_step B2.out hb3).size (.cells #[.int .i64 x, .int .i64 y] 51))
    have A3 := (Below.refl w3.heap.size w3).alloc (Nat.le_refl _) (.cells #[.int .i64 x, .int .i64 y] 51)
    have F3 := mkHid ((F2.out.below hb3).below A3)
    have W3 := mkHid (Box.new w3 x y 51)
    obtain ⟨bw, hbw⟩ : ∃ bw, w3.heap.size = bw := ⟨_, rfl⟩
    rw [hbw] at W3
    clear hb3 B2 F2 O2 A3
    obtain ⟨p0, p1⟩ := F3.out
    go_wp2_with fail
    refine (toFacts_any z l a c _ HZZ.out (HL.out.below B3.out)).mono ?_
    rintro e w4 ⟨g4, rfl, ho4, hb4⟩
    obtain ⟨bx, hbx⟩ : ∃ bx, w4.heap.size = bx := ⟨_, rfl⟩
    have B4 := mkHid ((below_step B3.out hb4).alloc (below_step B3.out hb4).size (.cells #[.int .i64 z, .slice (some ⟨g4, 0, none⟩) l.length l.length] 24))
    have A4 := (Below.refl w4.heap.size w4).alloc (Nat.le_refl _) (.cells #[.int .i64 z, .slice (some ⟨g4, 0, none⟩) l.length l.length] 24)
    have F4 := mkHid ((F3.out.below hb4).below A4)
    have W4 := mkHid ((W3.out.below hb4).below A4)
    have X4 := mkHid (Fc.new w4 z (some ⟨g4, 0, none⟩) l.length l.length 24)
    have O4 := mkHid (ho4.below A4).at
    rw [hbx] at X4
    clear hb4 ho4 A4 p0 p1 B3 F3 W3 hbw
    obtain ⟨q0, q1⟩ := X4.out
    go_wp2_with fail
    refine (iRange_any z l _ _ i _ (Nat.le_refl _) O4.out).mono ?_
    rintro e w5 ⟨rfl, hb5⟩
    rw [HP.out]
    have B5 := mkHid ((below_step B4.out hb5).alloc (below_step B4.out hb5).size (.cells #[.int .i64 x, .int .i64 y] 51))
    have A5 := (Below.refl w5.heap.size w5).alloc (Nat.le_refl _) (.cells #[.int .i64 x, .int .i64 y] 51)
    have F5 := mkHid ((F4.out.below hb5).below A5)
    have X5 := mkHid ((X4.out.below hb5).below A5)
    have O5 := mkHid ((O4.out.below hb5).below A5)
    obtain ⟨v0, v1, -, -⟩ := (W4.out.below hb5)
    have hvl := (W4.out.below hb5).lt
    have hvn : bw ≠ w5.heap.size := by omega
    clear hb5 A5 q0 q1 B4 F4 X4 O4 W4 hbx
    go_wp2_with fail
    refine (eqRange_same _ _ _).mono ?_
    rintro e w6 ⟨rfl, hb⟩
    have B6 := mkHid (below_step B5.out hb)
    have F6 := mkHid (F5.out.below hb)
    have X6 := mkHid (X5.out.below hb)
    have O6 := mkHid (O5.out.below hb)
    clear hb v0 v1 hvl hvn B5 F5 X5 O5
    obtain ⟨p0, p1⟩ := F6.out
    obtain ⟨q0, q1⟩ := X6.out
    have hlx := F6.out.lt
    have hly := X6.out.lt
    go_wp2_with fail
    go_region_held3 (fun w' => w'.cell? ⟨w.heap.size, 0, none⟩ = some (.int .i64 z) ∧ w'.cell? ⟨w.heap.size, 1, none⟩ = some (.slice a l.length c) ∧ w'.cell? ⟨bx, 0, none⟩ = some (.int .i64 z) ∧ w'.cell? ⟨bx, 1, none⟩ = some (.slice (some ⟨g4, 0, none⟩) l.length l.length))
      (first | exact ⟨p0, p1, q0, q1⟩ | exact ⟨(hc _ _ hlx).trans p0, (hc _ _ hlx).trans p1, (hc _ _ hly).trans q0, (hc _ _ hly).trans q1⟩)
      (first | (go_at_call 24; refine (toFacts_any z l a c _ HZZ.out (HL.out.below B6.out.drew)).mono ?_; rintro e w7 ⟨g7, rfl, ho7, hb7⟩; obtain ⟨hc, hf⟩ := bcell hb7) | (go_at_call 19; refine (eqFacts_ok z l (some ⟨g4, 0, none⟩) (some ⟨g7, 0, none⟩) _ _ _ HN.out ((O6.out.below (Below.refl _ _).drew).below hb7) ho7.at).mono ?_; rintro e w8 ⟨rfl, hb8⟩; obtain ⟨hc', hf'⟩ := bcell hb8; have hc := fun b o (h : b < w6.drew.heap.size) => (hc' b o (Nat.lt_of_lt_of_le h hb7.size)).trans (hc b o h)))
    have N8 := mkHid (below_step (below_step (Below.refl w6.heap.size w6).drew hb7) hb8)
    have B8 := mkHid (below_step B6.out N8.out)
    clear hc hc' hf hf' hb7 hb8 ho7 p0 p1 q0 q1
    go_wp2
    go_ret
    exact ⟨rfl, B8.out⟩

set_option maxRecDepth 100000 in
theorem law_lifted (os : Os) (started : os.Started) (H : Type) (enc : TypeId × Value → H) :
    ReturnsInHanded {} Try.checked os 15 .any (Rows.fnExactFactsRangeSpec.pre6 enc Try.prog Try.f15 Rows.fnExactFactsRangeRow.domain false) (Rows.fnExactFactsRangeSpec.post enc Try.prog Try.f15 false true false false) := by
  refine returnsInHanded_of_change (C := Try.checked) Try.own started (by kernel_rfl) Try.func15
    (ChangeSpec.witness6 (enc := enc) (C := Try.checked) false ⟨#[], #[.agg #[.int .i64 0, .slice none 0 0], .int .i64 0], []⟩ 8 (by kernel_rfl) (by kernel_rfl) (by kernel_rfl) (by kernel_rfl)) ?_
  intro W base args ds gs before hval0 hW hcnd _
  have hval : ∀ (j : Nat) t v, Try.f15.params[j]? = some t → args[j]? = some v → Value.okWide Try.prog W .any base t v := hval0
  have hW' := hW
  obtain ⟨p, q, hA0, hV, rfl, hfz, hnd⟩ := hW
  have hA : DataW.TrodAll enc Try.prog W 0 (fun _ => true) true Try.f15.params.toList args.toList ds p := hA0
  rw [Try.params15] at hA hval
  obtain ⟨v0, vs0, d0, ds0, p0, q0, hargs, rfl, rfl, h0, r0⟩ := trodAll_cons hA
  obtain ⟨v1, vs1, d1, ds1, p1, q1, rfl, rfl, rfl, h1, r1⟩ := trodAll_cons r0
  obtain ⟨rfl, rfl, rfl⟩ := trodAll_nil r1
  obtain rfl : args = #[v0, v1] := by cases args; simp_all
  obtain ⟨rfl, rfl⟩ := trodVars_none hV
  have k0 := h0
  have lt0 : ∀ x ∈ p0, x.block < W.heap.size := by obtain ⟨m, hm⟩ := k0; exact DataW.trod_lt m _ _ _ hm
  have k1 := h1
  have lt1 : ∀ x ∈ p1, x.block < W.heap.size := by obtain ⟨m, hm⟩ := k1; exact DataW.trod_lt m _ _ _ hm
  obtain ⟨u00, u01, y00, y01, m0, hv0, _, _, hy00, hy01⟩ := open_agg2 Try.underlying29 (by kernel_rfl) Try.cells29 (hval 0 29 v0 rfl rfl) h0
  obtain ⟨z0, e00, _, _⟩ := DataW.trod_int Try.underlying3 hy00
  obtain ⟨a0, c0, l0, e01, hn0, hk0⟩ := open_intsv hy01
  simp at e00
  subst e00 e01 hv0
  obtain ⟨x1, hv1, _, _, _⟩ := open_int Try.underlying3 (hval 1 3 v1 rfl rfl) h1
  subst hv1
  clear hA0 hval0
  refine (law_walk z0 l0 a0 c0 x1 W hn0 hk0).mono fun e W' ⟨he, bel⟩ => ?_
  subst he
  exact ⟨_, rfl, _, _, _, [], _, [], hW', trodAll_mk1 (shut_bool Try.underlying4 _), (trodAll_cons_mk (Below.trod Try.laidOut (by kernel_rfl) (of_decide_eq_true (by kernel_rfl)) k0 bel lt0) (trodAll_cons_mk (Below.trod Try.laidOut (by kernel_rfl) (of_decide_eq_true (by kernel_rfl)) k1 bel lt1) trodAll_mk0)), rfl, bel.frame _, fun h => by cases h⟩

theorem law_holds : Rows.FnExactFactsRangeSaid :=
  OpenClaim.holds_of_wide 15 Try.f15 rfl rfl rfl rfl rfl rfl rfl ⟨rfl, rfl, rfl, rfl, rfl⟩ rfl rfl rfl rfl rfl (by kernel_rfl) Try.func15 (by kernel_rfl)
    (of_decide_eq_true (by kernel_rfl)) (by unfold Func.isWrapper; first | (rw [if_pos (by decide +kernel)]; kernel_rfl) | (rw [if_neg (by decide +kernel)]; exact ⟨rfl, rfl⟩))
    (fun os started H enc _ => law_lifted os started H enc)

#print axioms law_holds
end Go.Proofs.Ythhajdjpglpkoaa
