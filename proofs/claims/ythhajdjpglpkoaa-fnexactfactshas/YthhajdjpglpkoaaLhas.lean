/-
  FnExactFactsHas holds at every argument: the program's FactsHas answers as the specification's, and the arguments read as before. No conditions.
-/
import Derived.Test.YthhajdjpglpkoaaLh
import Derived.Test.YthhajdjpglpkoaaHt
import Derived.Test.YthhajdjpglpkoaaLo
namespace Go.Proofs.Ythhajdjpglpkoaa
open Go.ChangeShapes Go.WideShapes Go.ChangeAt Go.RowKit Go.Joins

set_option maxRecDepth 100000 in
set_option maxHeartbeats 3200000 in
theorem law_walk (z : Int) (l : List Int) (a : Option Addr) (c : Nat) (v : List Int) (av : Option Addr) (cv : Nat) (w : World) (hn : l.length ≤ maxLen) (hl : IntsAt w a l) (hvn : v.length ≤ maxLen) (hv : IntsAt w av v) : Calls Try.prog 5 #[.agg #[.int .i64 z, .slice a l.length c], .slice av v.length cv] w fun e w' => e = .returned (.bool true) ∧ Below w.heap.size w w' := by
  have HN := mkHid hn
  have HL := mkHid hl
  have HVN := mkHid hvn
  have HV := mkHid hv
  have B0 := mkHid ((Below.refl w.heap.size w).alloc (Nat.le_refl _) (.cells #[.int .i64 z, .slice a l.length c] 29))
  have F0 := mkHid (Fc.new w z a l.length c 29)
  unfold maxLen at hvn
  clear hn hl hv
  by_cases hvl : v.length ≤ 1048576
  · have HVL := mkHid hvl
    have hvi : ¬ ((1048576 : Int) < (v.length : Int)) := by omega
    clear hvl
    go_enter Try.func5, Try.ntmps5
    go_wp2_with fail
    refine (szFacts_any z a l.length c 1048576 _ HN.out (by omega) (by omega)).mono ?_
    rintro e w1 ⟨rfl, hb1⟩
    have B1 := mkHid (below_step B0.out hb1)
    have F1 := mkHid (F0.out.below hb1)
    clear hb1 B0 F0
    obtain ⟨r, hr⟩ : ∃ r, szR 1048576 l.length = r := ⟨_, rfl⟩
    have HZ : Hid (¬ r < 0 → l.length ≤ 1048576) := mkHid fun h => by unfold szR at hr; split at hr <;> omega
    rw [hr]
    clear hr
    by_cases hneg : r < 0
    · go_wp2
      go_ret
      exact ⟨rfl, B1.out⟩
    · have HZZ := mkHid (HZ.out hneg)
      obtain ⟨p0, p1⟩ := F1.out
      obtain ⟨ok, hok⟩ : ∃ ok, hasF z l v = ok := ⟨_, rfl⟩
      have HOK := mkHid hok
      clear hok
      have hne : (ok != ok) = false := by cases ok <;> rfl
      go_wp2_with fail
      refine (toFacts_any z l a c _ HZZ.out (HL.out.below B1.out)).mono ?_
      rintro e w2 ⟨g2, rfl, ho2, hb2⟩
      have B2 := mkHid (below_step B1.out hb2)
      have F2 := mkHid (F1.out.below hb2)
      have O2 := mkHid ho2.at
      clear hb2 ho2 p0 p1 F1
      go_wp2_with fail
      refine (toIntS_any v av cv _ HVL.out (HV.out.below B2.out)).mono ?_
      rintro e w2b ⟨h2, rfl, hv2, hb2⟩
      have B2b := mkHid (below_step B2.out hb2)
      have F2b := mkHid (F2.out.below hb2)
      have O2b := mkHid (O2.out.below hb2)
      have V2 := mkHid hv2.at
      clear hb2 hv2 B2 F2 O2
      go_wp2_with fail
      refine (sHas_any z l _ _ v _ _ _ O2b.out V2.out).mono ?_
      rintro e w3 ⟨rfl, hb3⟩
      rw [HOK.out]
      have B3 := mkHid (below_step B2b.out hb3)
      have F3 := mkHid (F2b.out.below hb3)
      clear hb3 B2b F2b O2b V2
      obtain ⟨p0, p1⟩ := F3.out
      go_wp2_with fail
      refine (toFacts_any z l a c _ HZZ.out (HL.out.below B3.out)).mono ?_
      rintro e w4 ⟨g4, rfl, ho4, hb4⟩
      obtain ⟨bx, hbx⟩ : ∃ bx, w4.heap.size = bx := ⟨_, rfl⟩
      have B4 := mkHid ((below_step B3.out hb4).alloc (below_step B3.out hb4).size (.cells #[.int .i64 z, .slice (some ⟨g4, 0, none⟩) l.length l.length] 24))
      have A4 := (Below.refl w4.heap.size w4).alloc (Nat.le_refl _) (.cells #[.int .i64 z, .slice (some ⟨g4, 0, none⟩) l.length l.length] 24)
      have F4 := mkHid ((F3.out.below hb4).below A4)
      have X4 := mkHid (Fc.new w4 z (some ⟨g4, 0, none⟩) l.length l.length 24)
      have O4 := mkHid (ho4.below A4).at
      rw [hbx] at X4
      clear hb4 ho4 A4 p0 p1 B3 F3
      go_wp2_with fail
      refine (toIntS_any v av cv _ HVL.out (HV.out.below B4.out)).mono ?_
      rintro e w5 ⟨h5, rfl, hv5, hb5⟩
      have B5 := mkHid (below_step B4.out hb5)
      have F5 := mkHid (F4.out.below hb5)
      have X5 := mkHid (X4.out.below hb5)
      have O5 := mkHid (O4.out.below hb5)
      have V5 := mkHid hv5.at
      clear hb5 hv5 B4 F4 X4 O4 hbx
      obtain ⟨q0, q1⟩ := X5.out
      go_wp2_with fail
      refine (iHas_any z l _ _ v _ _ _ O5.out V5.out HVN.out).mono ?_
      rintro e w6 ⟨rfl, hb⟩
      rw [HOK.out]
      have B6 := mkHid (below_step B5.out hb)
      have F6 := mkHid (F5.out.below hb)
      have X6 := mkHid (X5.out.below hb)
      have O6 := mkHid (O5.out.below hb)
      have V6 := mkHid (V5.out.below hb)
      clear hb q0 q1 B5 F5 X5 O5 V5
      obtain ⟨p0, p1⟩ := F6.out
      obtain ⟨q0, q1⟩ := X6.out
      have hlx := F6.out.lt
      have hly := X6.out.lt
      go_wp2_with fail
      go_region_held3 (fun w' => w'.cell? ⟨w.heap.size, 0, none⟩ = some (.int .i64 z) ∧ w'.cell? ⟨w.heap.size, 1, none⟩ = some (.slice a l.length c) ∧ w'.cell? ⟨bx, 0, none⟩ = some (.int .i64 z) ∧ w'.cell? ⟨bx, 1, none⟩ = some (.slice (some ⟨g4, 0, none⟩) l.length l.length))
        (first | exact ⟨p0, p1, q0, q1⟩ | exact ⟨(hc _ _ hlx).trans p0, (hc _ _ hlx).trans p1, (hc _ _ hly).trans q0, (hc _ _ hly).trans q1⟩)
        (first | (go_at_call 24; refine (toFacts_any z l a c _ HZZ.out (HL.out.below B6.out.drew)).mono ?_; rintro e w7 ⟨g7, rfl, ho7, hb7⟩; obtain ⟨hc, hf⟩ := bcell hb7) | (go_at_call 19; refine (eqFacts_ok z l (some ⟨g4, 0, none⟩) (some ⟨g7, 0, none⟩) _ _ _ HN.out ((O6.out.below (Below.refl _ _).drew).below hb7) ho7.at).mono ?_; rintro e w8 ⟨rfl, hb8⟩; obtain ⟨hc', hf'⟩ := bcell hb8; have hc := fun b o (h : b < w6.drew.heap.size) => (hc' b o (Nat.lt_of_lt_of_le h hb7.size)).trans (hc b o h)))
      have N8 := mkHid (below_step (below_step (Below.refl w6.heap.size w6).drew hb7) hb8)
      have B8 := mkHid (below_step B6.out N8.out)
      have V8 := mkHid (V6.out.below N8.out)
      clear hc hc' hf hf' hb7 hb8 ho7 p0 p1 q0 q1 B6 F6 X6 O6 V6 N8 hlx hly
      go_wp2_with fail
      refine (toIntS_any v av cv _ HVL.out (HV.out.below B8.out)).mono ?_
      rintro e w9 ⟨h9, rfl, hv9, hb9⟩
      have B9 := mkHid (below_step B8.out hb9)
      have V9 := mkHid (V8.out.below hb9)
      have U9 := mkHid hv9.at
      clear hb9 hv9 B8 V8
      go_wp2_with fail
      refine (eqIntS_ok v _ _ _ _ _ HVN.out V9.out U9.out).mono ?_
      rintro e w10 ⟨rfl, hb10⟩
      have B10 := mkHid (below_step B9.out hb10)
      clear hb10
      go_wp2
      go_ret
      exact ⟨rfl, B10.out⟩
  · have hvi : (1048576 : Int) < (v.length : Int) := by omega
    go_enter Try.func5, Try.ntmps5
    go_wp2
    go_ret
    exact ⟨rfl, B0.out⟩

set_option maxRecDepth 100000 in
theorem law_lifted (os : Os) (started : os.Started) (H : Type) (enc : TypeId × Value → H) :
    ReturnsInHanded {} Try.checked os 5 .any (Rows.fnExactFactsHasSpec.pre6 enc Try.prog Try.f5 Rows.fnExactFactsHasRow.domain false) (Rows.fnExactFactsHasSpec.post enc Try.prog Try.f5 false true false false) := by
  refine returnsInHanded_of_change (C := Try.checked) Try.own started (by kernel_rfl) Try.func5
    (ChangeSpec.witness6 (enc := enc) (C := Try.checked) false ⟨#[], #[.agg #[.int .i64 0, .slice none 0 0], .slice none 0 0], []⟩ 8 (by kernel_rfl) (by kernel_rfl) (by kernel_rfl) (by kernel_rfl)) ?_
  intro W base args ds gs before hval0 hW hcnd _
  have hval : ∀ (j : Nat) t v, Try.f5.params[j]? = some t → args[j]? = some v → Value.okWide Try.prog W .any base t v := hval0
  have hW' := hW
  obtain ⟨p, q, hA0, hV, rfl, hfz, hnd⟩ := hW
  have hA : DataW.TrodAll enc Try.prog W 0 (fun _ => true) true Try.f5.params.toList args.toList ds p := hA0
  rw [Try.params5] at hA hval
  obtain ⟨v0, vs0, d0, ds0, p0, q0, hargs, rfl, rfl, h0, r0⟩ := trodAll_cons hA
  obtain ⟨v1, vs1, d1, ds1, p1, q1, rfl, rfl, rfl, h1, r1⟩ := trodAll_cons r0
  obtain ⟨rfl, rfl, rfl⟩ := trodAll_nil r1
  obtain rfl : args = #[v0, v1] := by cases args; simp_all
  obtain ⟨rfl, rfl⟩ := trodVars_none hV
  have k0 := h0
  have lt0 : ∀ x ∈ p0, x.block < W.heap.size := by obtain ⟨m, hm⟩ := k0; exact DataW.trod_lt m _ _ _ hm
  have k1 := h1
  have lt1 : ∀ x ∈ p1, x.block < W.heap.size := by obtain ⟨m, hm⟩ := k1; exact DataW.trod_lt m _ _ _ hm
  obtain ⟨u00, u01, y00, y01, m0, hv0, _, _, hy00, hy01⟩ := open_agg2 Try.underlying29 (by kernel_rfl) Try.cells29 (hval 0 29 v0 rfl rfl) h0
  obtain ⟨z0, e00, _, _⟩ := DataW.trod_int Try.underlying3 hy00
  obtain ⟨a0, c0, l0, e01, hn0, hk0⟩ := open_intsv hy01
  simp at e00
  subst e00 e01 hv0
  obtain ⟨a1, c1, l1, hv1, hn1, hk1⟩ := open_intsof (okWide_slice Try.underlying22 (hval 1 22 v1 rfl rfl)) h1
  subst hv1
  clear hA0 hval0
  refine (law_walk z0 l0 a0 c0 l1 a1 c1 W hn0 hk0 hn1 hk1).mono fun e W' ⟨he, bel⟩ => ?_
  subst he
  exact ⟨_, rfl, _, _, _, [], _, [], hW', trodAll_mk1 (shut_bool Try.underlying4 _), (trodAll_cons_mk (Below.trod Try.laidOut (by kernel_rfl) (of_decide_eq_true (by kernel_rfl)) k0 bel lt0) (trodAll_cons_mk (Below.trod Try.laidOut (by kernel_rfl) (of_decide_eq_true (by kernel_rfl)) k1 bel lt1) trodAll_mk0)), rfl, bel.frame _, fun h => by cases h⟩

theorem law_holds : Rows.FnExactFactsHasSaid :=
  OpenClaim.holds_of_wide 5 Try.f5 rfl rfl rfl rfl rfl rfl rfl ⟨rfl, rfl, rfl, rfl, rfl⟩ rfl rfl rfl rfl rfl (by kernel_rfl) Try.func5 (by kernel_rfl)
    (of_decide_eq_true (by kernel_rfl)) (by unfold Func.isWrapper; first | (rw [if_pos (by decide +kernel)]; kernel_rfl) | (rw [if_neg (by decide +kernel)]; exact ⟨rfl, rfl⟩))
    (fun os started H enc _ => law_lifted os started H enc)

#print axioms law_holds
end Go.Proofs.Ythhajdjpglpkoaa
