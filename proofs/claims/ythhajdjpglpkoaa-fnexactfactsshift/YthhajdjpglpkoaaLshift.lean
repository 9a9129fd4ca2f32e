/-
  FnExactFactsShift holds at every argument: the program's function answers as the specification's, writes into no argument, and its answer owns its memory. No conditions.
-/
import Derived.Test.YthhajdjpglpkoaaSs
import Derived.Test.YthhajdjpglpkoaaLo
namespace Go.Proofs.Ythhajdjpglpkoaa
open Go.ChangeShapes Go.WideShapes Go.ChangeAt Go.RowKit Go.Joins

set_option maxRecDepth 100000 in
set_option maxHeartbeats 3200000 in
theorem law_walk (z : Int) (l : List Int) (a : Option Addr) (c : Nat) (i k : Int) (w : World) (hn : l.length ≤ maxLen) (hl : IntsAt w a l) : Calls Try.prog 13 #[.agg #[.int .i64 z, .slice a l.length c], .int .i64 i, .int .i64 k] w fun e w' => e = .returned (.bool true) ∧ Below w.heap.size w w' := by
  have HN := mkHid hn
  have HL := mkHid hl
  have B0 := mkHid ((Below.refl w.heap.size w).alloc (Nat.le_refl _) (.cells #[.int .i64 z, .slice a l.length c] 29))
  have F0 := mkHid (Fc.new w z a l.length c 29)
  obtain ⟨rz, hrz⟩ : ∃ rz, outZ (shF z l i k) z.toNat = rz := ⟨_, rfl⟩
  obtain ⟨rl, hrl⟩ : ∃ rl, outL (shF z l i k) z.toNat = rl := ⟨_, rfl⟩
  have hlen : rl.length ≤ 169 := by rw [← hrl]; exact outL_len ((shF_fine z l i k).good)
  have HM : Hid (rl.length ≤ maxLen) := mkHid (by unfold maxLen; omega)
  have HLE := mkHid hlen
  have HS : Hid (∀ (a : Option Addr) (v : World), IntsAt v a l → Calls Try.prog 45 #[.agg #[.int .i64 z, .slice a l.length l.length], .int .i64 i, .int .i64 k] v fun e w' => Gives v w' e rz rl) := mkHid fun a v h => by rw [← hrz, ← hrl]; exact sShift_any z l a _ i k v h
  have HI : Hid (∀ (a : Option Addr) (v : World), IntsAt v a l → Calls Try.prog 46 #[.agg #[.int .i64 z, .slice a l.length l.length], .int .i64 i, .int .i64 k] v fun e w' => Gives v w' e rz rl) := mkHid fun a v h => by rw [← hrz, ← hrl]; exact iShift_any z l a _ i k v (Nat.le_refl _) h
  clear hn hl hrz hrl hlen
  go_enter Try.func13, Try.ntmps13
  go_wp2_with fail
  refine (szFacts_any z a l.length c 1048576 _ HN.out (by omega) (by omega)).mono ?_
  rintro e w1 ⟨rfl, hb1⟩
  have B1 := mkHid (below_step B0.out hb1)
  have F1 := mkHid (F0.out.below hb1)
  clear hb1 B0 F0
  obtain ⟨r, hr⟩ : ∃ r, szR 1048576 l.length = r := ⟨_, rfl⟩
  have HZ : Hid (¬ r < 0 → l.length ≤ 1048576) := mkHid fun h => by unfold szR at hr; split at hr <;> omega
  rw [hr]
  clear hr
  by_cases hneg : r < 0
  · go_wp2
    go_ret
    exact ⟨rfl, B1.out⟩
  · have HZZ := mkHid (HZ.out hneg)
    obtain ⟨p0, p1⟩ := F1.out
    go_wp2_with fail
    refine (toFacts_any z l a c _ HZZ.out (HL.out.below B1.out)).mono ?_
    rintro e w2 ⟨g2, rfl, ho2, hb2⟩
    have B2 := mkHid (below_step B1.out hb2)
    have F2 := mkHid (F1.out.below hb2)
    have O2 := mkHid ho2.at
    have s2 := hb2.size
    have s1 := F1.out.lt
    clear hb2 ho2 p0 p1 F1
    go_wp2_with fail
    refine (HS.out _ _ O2.out).mono ?_
    rintro e w3 ⟨sa, sc, rfl, so, hb3⟩
    obtain ⟨bw, hbw⟩ : ∃ bw, w3.heap.size = bw := ⟨_, rfl⟩
    have B3 := mkHid ((below_step B2.out hb3).alloc (below_step B2.out hb3).size (.cells #[.int .i64 rz, .slice sa rl.length sc] 24))
    have F3 := mkHid ((F2.out.below hb3).alloc (.cells #[.int .i64 rz, .slice sa rl.length sc] 24))
    have W3 := mkHid (Fc.new w3 rz sa rl.length sc 24)
    have S3 := mkHid (so.below ((Below.refl _ _).alloc (Nat.le_refl _) (.cells #[.int .i64 rz, .slice sa rl.length sc] 24)))
    have SL : Hid (∀ q, Value.ownBlock (.slice sa rl.length sc) = some q → w.heap.size < q ∧ q < bw) := mkHid fun q hq => by
      have h1 := so.lt hq
      omega
    have s3 := hb3.size
    rw [hbw] at W3
    clear hb3 so B2 F2 O2
    obtain ⟨p0, p1⟩ := F3.out
    go_wp2_with fail
    refine (toFacts_any z l a c _ HZZ.out (HL.out.below B3.out)).mono ?_
    rintro e w4 ⟨g4, rfl, ho4, hb4⟩
    obtain ⟨bx, hbx⟩ : ∃ bx, w4.heap.size = bx := ⟨_, rfl⟩
    have B4 := mkHid ((below_step B3.out hb4).alloc (below_step B3.out hb4).size (.cells #[.int .i64 z, .slice (some ⟨g4, 0, none⟩) l.length l.length] 24))
    have A4 := (Below.refl w4.heap.size w4).alloc (Nat.le_refl _) (.cells #[.int .i64 z, .slice (some ⟨g4, 0, none⟩) l.length l.length] 24)
    have F4 := mkHid ((F3.out.below hb4).below A4)
    have W4 := mkHid ((W3.out.below hb4).below A4)
    have S4 := mkHid ((S3.out.below hb4).below A4)
    have X4 := mkHid (Fc.new w4 z (some ⟨g4, 0, none⟩) l.length l.length 24)
    have O4 := mkHid (ho4.below A4)
    have hx4 : bw < g4 ∧ g4 < bx := by have := ho4.base_le; simp at this; omega
    have s4 := hb4.size
    rw [hbx] at X4
    clear hb4 ho4 A4 p0 p1 B3 F3 W3 S3
    obtain ⟨q0, q1⟩ := X4.out
    go_wp2_with fail
    refine (HI.out _ _ O4.out.at).mono ?_
    rintro e w5 ⟨ga, gc, rfl, go, hb5⟩
    obtain ⟨bg, hbg⟩ : ∃ bg, w5.heap.size = bg := ⟨_, rfl⟩
    have B5 := mkHid ((below_step B4.out hb5).alloc (below_step B4.out hb5).size (.cells #[.int .i64 rz, .slice ga rl.length gc] 24))
    have A5 := (Below.refl w5.heap.size w5).alloc (Nat.le_refl _) (.cells #[.int .i64 rz, .slice ga rl.length gc] 24)
    have F5 := mkHid ((F4.out.below hb5).below A5)
    have W5 := mkHid ((W4.out.below hb5).below A5)
    have S5 := mkHid ((S4.out.below hb5).below A5)
    have X5 := mkHid ((X4.out.below hb5).below A5)
    have O5 := mkHid ((O4.out.below hb5).below A5)
    have G5 := mkHid (Fc.new w5 rz ga rl.length gc 24)
    have Q5 := mkHid (go.below A5)
    have GL : Hid (∀ q, Value.ownBlock (.slice ga rl.length gc) = some q → bx < q ∧ q < bg) := mkHid fun q hq => by
      have h1 := go.lt hq
      simp at h1
      omega
    have s5 : bx < bg := by have := hb5.size; simp at this; omega
    have sw : w.heap.size < bw := by omega
    rw [hbg] at G5
    clear hb5 go A5 q0 q1 B4 F4 W4 S4 X4 O4
    obtain ⟨g0, g1⟩ := G5.out
    obtain ⟨v0, v1⟩ := W5.out
    go_wp2_with fail
    refine (eqFacts_ok rz rl ga sa gc sc _ HM.out Q5.out.at S5.out.at).mono ?_
    rintro e w6 ⟨rfl, hb⟩
    clear g0 g1 v0 v1 s1 s2 s3 s4 hbw hbx hbg
    have B6 := mkHid (below_step B5.out hb)
    have F6 := mkHid (F5.out.below hb)
    have W6 := mkHid (W5.out.below hb)
    have S6 := mkHid (S5.out.below hb)
    have X6 := mkHid (X5.out.below hb)
    have O6 := mkHid (O5.out.below hb)
    have G6 := mkHid (G5.out.below hb)
    have Q6 := mkHid (Q5.out.below hb)
    clear hb B5 F5 W5 S5 X5 O5 G5 Q5
    obtain ⟨p0, p1⟩ := F6.out
    obtain ⟨q0, q1⟩ := X6.out
    have hlx := F6.out.lt
    have hly := X6.out.lt
    go_wp2_with fail
    go_region_held3 (fun w' => w'.cell? ⟨w.heap.size, 0, none⟩ = some (.int .i64 z) ∧ w'.cell? ⟨w.heap.size, 1, none⟩ = some (.slice a l.length c) ∧ w'.cell? ⟨bx, 0, none⟩ = some (.int .i64 z) ∧ w'.cell? ⟨bx, 1, none⟩ = some (.slice (some ⟨g4, 0, none⟩) l.length l.length))
      (first | exact ⟨p0, p1, q0, q1⟩ | exact ⟨(hc _ _ hlx).trans p0, (hc _ _ hlx).trans p1, (hc _ _ hly).trans q0, (hc _ _ hly).trans q1⟩)
      (first | (go_at_call 24; refine (toFacts_any z l a c _ HZZ.out (HL.out.below B6.out.drew)).mono ?_; rintro e w7 ⟨g7, rfl, ho7, hb7⟩; obtain ⟨hc, hf⟩ := bcell hb7) | (go_at_call 19; refine (eqFacts_ok z l (some ⟨g4, 0, none⟩) (some ⟨g7, 0, none⟩) _ _ _ HN.out ((O6.out.at.below (Below.refl _ _).drew).below hb7) ho7.at).mono ?_; rintro e w8 ⟨rfl, hb8⟩; obtain ⟨hc', hf'⟩ := bcell hb8; have hc := fun b o (h : b < w6.drew.heap.size) => (hc' b o (Nat.lt_of_lt_of_le h hb7.size)).trans (hc b o h)))
    have N8 := mkHid (below_step (below_step (Below.refl w6.heap.size w6).drew hb7) hb8)
    have B8 := mkHid (below_step B6.out N8.out)
    have F8 := mkHid (F6.out.below N8.out)
    have W8 := mkHid (W6.out.below N8.out)
    have S8 := mkHid (S6.out.below N8.out)
    have X8 := mkHid (X6.out.below N8.out)
    have O8 := mkHid (O6.out.below N8.out)
    have G8 := mkHid (G6.out.below N8.out)
    have Q8 := mkHid (Q6.out.below N8.out)
    clear hc hc' hf hf' hb7 hb8 ho7 p0 p1 q0 q1 B6 F6 W6 S6 X6 O6 G6 Q6 N8 hlx hly
    obtain ⟨q0, q1⟩ := X8.out
    go_wp2_with fail
    refine (markFacts_ok z l (some ⟨g4, 0, none⟩) _ _ 1 _ (by have := HZZ.out; omega) (by omega) (by omega) O8.out).mono ?_
    rintro e w9 ⟨rfl, _, hg⟩
    have hk : ¬ (1 + (l.length : Int) < 0) := by omega
    have B9 := mkHid (B8.out.grown hg B8.out.size (fun q hq => by have e : g4 = q := Option.some.inj hq; omega))
    have F9 := mkHid (F8.out.grown hg (some_ne (by show w.heap.size ≠ g4; omega)))
    have W9 := mkHid (W8.out.grown hg (some_ne (by show bw ≠ g4; omega)))
    have S9 := mkHid (S8.out.grown hg (fun q hq => some_ne (by have := SL.out q hq; show g4 ≠ q; omega)))
    have G9 := mkHid (G8.out.grown hg (some_ne (by show bg ≠ g4; omega)))
    have Q9 := mkHid (Q8.out.grown hg (fun q hq => some_ne (by have := GL.out q hq; show g4 ≠ q; omega)))
    clear hg q0 q1 B8 F8 W8 S8 X8 O8 G8 Q8
    obtain ⟨g0, g1⟩ := G9.out
    obtain ⟨v0, v1⟩ := W9.out
    go_wp2_with fail
    refine (eqFacts_ok rz rl ga sa gc sc _ HM.out Q9.out.at S9.out.at).mono ?_
    rintro e w10 ⟨rfl, hb⟩
    have B10 := mkHid (below_step B9.out hb)
    have F10 := mkHid (F9.out.below hb)
    have W10 := mkHid (W9.out.below hb)
    have S10 := mkHid (S9.out.below hb)
    have G10 := mkHid (G9.out.below hb)
    have Q10 := mkHid (Q9.out.below hb)
    clear hb g0 g1 v0 v1 B9 F9 W9 S9 G9 Q9
    obtain ⟨g0, g1⟩ := G10.out
    go_wp2_with fail
    refine (markFacts_ok rz rl ga gc _ 1 _ (by have := HLE.out; omega) (by omega) (by omega) Q10.out).mono ?_
    rintro e w11 ⟨rfl, go11, hg⟩
    have B11 := mkHid (B10.out.grown hg B10.out.size (fun q hq => by have := GL.out q hq; omega))
    have F11 := mkHid (F10.out.grown hg (fun e => by have := GL.out _ e.symm; omega))
    have W11 := mkHid (W10.out.grown hg (fun e => by have := GL.out _ e.symm; omega))
    have S11 := mkHid (S10.out.grown hg (fun q hq e => by have h1 := SL.out q hq; have h2 := GL.out q e; omega))
    have G11 := mkHid (G10.out.grown hg (fun e => by have := GL.out _ e.symm; omega))
    have Q11 := mkHid go11
    clear hg go11 g0 g1 B10 F10 W10 S10 G10 Q10
    obtain ⟨g0, g1⟩ := G11.out
    have hq0 : ¬ (1 + (rl.length : Int) < 0) := by omega
    go_wp2_with fail
    refine (heldFacts_ok rz rl.length ga gc 1 _ (by have := HLE.out; omega) (by omega) (by omega) Q11.out.at).mono ?_
    rintro e w12 ⟨rfl, hb⟩
    have B12 := mkHid (below_step B11.out hb)
    have F12 := mkHid (F11.out.below hb)
    have W12 := mkHid (W11.out.below hb)
    have S12 := mkHid (S11.out.below hb)
    have G12 := mkHid (G11.out.below hb)
    have Q12 := mkHid (Q11.out.below hb)
    clear hb g0 g1 B11 F11 W11 S11 G11 Q11
    obtain ⟨p0, p1⟩ := F12.out
    go_wp2_with fail
    refine (toFacts_any z l a c _ HZZ.out (HL.out.below B12.out)).mono ?_
    rintro e w13 ⟨g13, rfl, ho13, hb⟩
    have B13 := mkHid (below_step B12.out hb)
    have W13 := mkHid (W12.out.below hb)
    have S13 := mkHid (S12.out.below hb)
    have G13 := mkHid (G12.out.below hb)
    have Q13 := mkHid (Q12.out.below hb)
    have O13 := mkHid ho13.at
    clear hb ho13 p0 p1 B12 F12 W12 S12 G12 Q12
    go_wp2_with fail
    refine (HI.out _ _ O13.out).mono ?_
    rintro e w14 ⟨ha, hcap, rfl, ho14, hb⟩
    obtain ⟨bh, hbh⟩ : ∃ bh, w14.heap.size = bh := ⟨_, rfl⟩
    have A14 := (Below.refl w14.heap.size w14).alloc (Nat.le_refl _) (.cells #[.int .i64 rz, .slice ha rl.length hcap] 24)
    have B14 := mkHid ((below_step B13.out hb).alloc (below_step B13.out hb).size (.cells #[.int .i64 rz, .slice ha rl.length hcap] 24))
    have W14 := mkHid ((W13.out.below hb).below A14)
    have S14 := mkHid ((S13.out.below hb).below A14)
    have G14 := mkHid ((G13.out.below hb).below A14)
    have Q14 := mkHid ((Q13.out.below hb).below A14)
    have H14 := mkHid (Fc.new w14 rz ha rl.length hcap 24)
    have Y14 := mkHid (ho14.below A14)
    rw [hbh] at H14
    clear hb ho14 A14 B13 W13 S13 G13 Q13 O13
    obtain ⟨h0, h1⟩ := H14.out
    obtain ⟨v0, v1⟩ := W14.out
    go_wp2_with fail
    refine (eqFacts_ok rz rl ha sa hcap sc _ HM.out Y14.out.at S14.out.at).mono ?_
    rintro e w15 ⟨rfl, hb⟩
    have B15 := mkHid (below_step B14.out hb)
    have G15 := mkHid (G14.out.below hb)
    have Q15 := mkHid (Q14.out.below hb)
    clear hb h0 h1 v0 v1 B14 W14 S14 G14 Q14 H14 Y14 hbh
    obtain ⟨g0, g1⟩ := G15.out
    go_wp2_with fail
    refine (heldFacts_ok rz rl.length ga gc 1 _ (by have := HLE.out; omega) (by omega) (by omega) Q15.out.at).mono ?_
    rintro e w16 ⟨rfl, hb⟩
    have B16 := mkHid (below_step B15.out hb)
    clear hb g0 g1
    go_wp2
    go_ret
    exact ⟨rfl, B16.out⟩

set_option maxRecDepth 100000 in
theorem law_lifted (os : Os) (started : os.Started) (H : Type) (enc : TypeId × Value → H) :
    ReturnsInHanded {} Try.checked os 13 .any (Rows.fnExactFactsShiftSpec.pre6 enc Try.prog Try.f13 Rows.fnExactFactsShiftRow.domain false) (Rows.fnExactFactsShiftSpec.post enc Try.prog Try.f13 false true false false) := by
  refine returnsInHanded_of_change (C := Try.checked) Try.own started (by kernel_rfl) Try.func13
    (ChangeSpec.witness6 (enc := enc) (C := Try.checked) false ⟨#[], #[.agg #[.int .i64 0, .slice none 0 0], .int .i64 0, .int .i64 0], []⟩ 8 (by kernel_rfl) (by kernel_rfl) (by kernel_rfl) (by kernel_rfl)) ?_
  intro W base args ds gs before hval0 hW hcnd _
  have hval : ∀ (j : Nat) t v, Try.f13.params[j]? = some t → args[j]? = some v → Value.okWide Try.prog W .any base t v := hval0
  have hW' := hW
  obtain ⟨p, q, hA0, hV, rfl, hfz, hnd⟩ := hW
  have hA : DataW.TrodAll enc Try.prog W 0 (fun _ => true) true Try.f13.params.toList args.toList ds p := hA0
  rw [Try.params13] at hA hval
  obtain ⟨v0, vs0, d0, ds0, p0, q0, hargs, rfl, rfl, h0, r0⟩ := trodAll_cons hA
  obtain ⟨v1, vs1, d1, ds1, p1, q1, rfl, rfl, rfl, h1, r1⟩ := trodAll_cons r0
  obtain ⟨v2, vs2, d2, ds2, p2, q2, rfl, rfl, rfl, h2, r2⟩ := trodAll_cons r1
  obtain ⟨rfl, rfl, rfl⟩ := trodAll_nil r2
  obtain rfl : args = #[v0, v1, v2] := by cases args; simp_all
  obtain ⟨rfl, rfl⟩ := trodVars_none hV
  have k0 := h0
  have lt0 : ∀ x ∈ p0, x.block < W.heap.size := by obtain ⟨m, hm⟩ := k0; exact DataW.trod_lt m _ _ _ hm
  have k1 := h1
  have lt1 : ∀ x ∈ p1, x.block < W.heap.size := by obtain ⟨m, hm⟩ := k1; exact DataW.trod_lt m _ _ _ hm
  have k2 := h2
  have lt2 : ∀ x ∈ p2, x.block < W.heap.size := by obtain ⟨m, hm⟩ := k2; exact DataW.trod_lt m _ _ _ hm
  obtain ⟨u00, u01, y00, y01, m0, hv0, _, _, hy00, hy01⟩ := open_agg2 Try.underlying29 (by kernel_rfl) Try.cells29 (hval 0 29 v0 rfl rfl) h0
  obtain ⟨z0, e00, _, _⟩ := DataW.trod_int Try.underlying3 hy00
  obtain ⟨a0, c0, l0, e01, hn0, hk0⟩ := open_intsv hy01
  simp at e00
  subst e00 e01 hv0
  obtain ⟨x1, hv1, _, _, _⟩ := open_int Try.underlying3 (hval 1 3 v1 rfl rfl) h1
  subst hv1
  obtain ⟨x2, hv2, _, _, _⟩ := open_int Try.underlying3 (hval 2 3 v2 rfl rfl) h2
  subst hv2
  clear hA0 hval0
  refine (law_walk z0 l0 a0 c0 x1 x2 W hn0 hk0).mono fun e W' ⟨he, bel⟩ => ?_
  subst he
  exact ⟨_, rfl, _, _, _, [], _, [], hW', trodAll_mk1 (shut_bool Try.underlying4 _), (trodAll_cons_mk (Below.trod Try.laidOut (by kernel_rfl) (of_decide_eq_true (by kernel_rfl)) k0 bel lt0) (trodAll_cons_mk (Below.trod Try.laidOut (by kernel_rfl) (of_decide_eq_true (by kernel_rfl)) k1 bel lt1) (trodAll_cons_mk (Below.trod Try.laidOut (by kernel_rfl) (of_decide_eq_true (by kernel_rfl)) k2 bel lt2) trodAll_mk0))), rfl, bel.frame _, fun h => by cases h⟩

theorem law_holds : Rows.FnExactFactsShiftSaid :=
  OpenClaim.holds_of_wide 13 Try.f13 rfl rfl rfl rfl rfl rfl rfl ⟨rfl, rfl, rfl, rfl, rfl⟩ rfl rfl rfl rfl rfl (by kernel_rfl) Try.func13 (by kernel_rfl)
    (of_decide_eq_true (by kernel_rfl)) (by unfold Func.isWrapper; first | (rw [if_pos (by decide +kernel)]; kernel_rfl) | (rw [if_neg (by decide +kernel)]; exact ⟨rfl, rfl⟩))
    (fun os started H enc _ => law_lifted os started H enc)

#print axioms law_holds
end Go.Proofs.Ythhajdjpglpkoaa
