/-
  FnExactFactsTop holds at every argument: the program's FactsTop answers as the specification's, and its answer owns its memory. No conditions.
-/
import Derived.Test.YthhajdjpglpkoaaTs
import Derived.Test.YthhajdjpglpkoaaLo
namespace Go.Proofs.Ythhajdjpglpkoaa
open Go.ChangeShapes Go.WideShapes Go.ChangeAt Go.RowKit Go.Joins

set_option maxRecDepth 100000 in
set_option maxHeartbeats 3200000 in
theorem law_walk (z : Int) (w : World) : Calls Try.prog 3 #[.int .i64 z] w fun e w' => e = .returned (.bool true) ∧ Below w.heap.size w w' := by
  obtain ⟨rz, hrz⟩ : ∃ rz, outZ (topO z) z.toNat = rz := ⟨_, rfl⟩
  obtain ⟨rl, hrl⟩ : ∃ rl, outL (topO z) z.toNat = rl := ⟨_, rfl⟩
  have hlen : rl.length ≤ 169 := by rw [← hrl]; exact outL_len (topO_fine z).good
  have HM : Hid (rl.length ≤ maxLen) := mkHid (by unfold maxLen; omega)
  have HLE := mkHid hlen
  have HS : Hid (∀ (v : World), Calls Try.prog 17 #[.int .i64 z] v fun e w' => Gives v w' e rz rl) := mkHid fun v => by rw [← hrz, ← hrl]; exact sTop_any z v
  have HI : Hid (∀ (v : World), Calls Try.prog 18 #[.int .i64 z] v fun e w' => Gives v w' e rz rl) := mkHid fun v => by rw [← hrz, ← hrl]; exact iTop_any z v
  clear hrz hrl hlen
  go_enter Try.func3, Try.ntmps3
  go_wp2_with fail
  refine (HS.out _).mono ?_
  rintro e w3 ⟨sa, sc, rfl, so, hb3⟩
  obtain ⟨bw, hbw⟩ : ∃ bw, w3.heap.size = bw := ⟨_, rfl⟩
  have A3 := (Below.refl w3.heap.size w3).alloc (Nat.le_refl _) (.cells #[.int .i64 rz, .slice sa rl.length sc] 24)
  have B3 := mkHid (hb3.alloc hb3.size (.cells #[.int .i64 rz, .slice sa rl.length sc] 24))
  have W3 := mkHid (Fc.new w3 rz sa rl.length sc 24)
  have S3 := mkHid (so.below A3)
  have SL : Hid (∀ q, Value.ownBlock (.slice sa rl.length sc) = some q → w.heap.size ≤ q ∧ q < bw) := mkHid fun q hq => by
    have h1 := so.lt hq
    omega
  have s3 := hb3.size
  rw [hbw] at W3
  clear hb3 so A3
  go_wp2_with fail
  refine (HI.out _).mono ?_
  rintro e w5 ⟨ga, gc, rfl, go, hb5⟩
  obtain ⟨bg, hbg⟩ : ∃ bg, w5.heap.size = bg := ⟨_, rfl⟩
  have B5 := mkHid ((below_step B3.out hb5).alloc (below_step B3.out hb5).size (.cells #[.int .i64 rz, .slice ga rl.length gc] 24))
  have A5 := (Below.refl w5.heap.size w5).alloc (Nat.le_refl _) (.cells #[.int .i64 rz, .slice ga rl.length gc] 24)
  have W5 := mkHid ((W3.out.below hb5).below A5)
  have S5 := mkHid ((S3.out.below hb5).below A5)
  have G5 := mkHid (Fc.new w5 rz ga rl.length gc 24)
  have Q5 := mkHid (go.below A5)
  have GL : Hid (∀ q, Value.ownBlock (.slice ga rl.length gc) = some q → bw < q ∧ q < bg) := mkHid fun q hq => by
    have h1 := go.lt hq
    simp at h1
    omega
  have s5 : bw < bg := by have := hb5.size; simp at this; omega
  have sw : w.heap.size ≤ bw := by omega
  rw [hbg] at G5
  clear hb5 go A5 B3 W3 S3 s3
  obtain ⟨g0, g1⟩ := G5.out
  obtain ⟨v0, v1⟩ := W5.out
  go_wp2_with fail
  refine (eqFacts_ok rz rl ga sa gc sc _ HM.out Q5.out.at S5.out.at).mono ?_
  rintro e w10 ⟨rfl, hb⟩
  have B10 := mkHid (below_step B5.out hb)
  have W10 := mkHid (W5.out.below hb)
  have S10 := mkHid (S5.out.below hb)
  have G10 := mkHid (G5.out.below hb)
  have Q10 := mkHid (Q5.out.below hb)
  clear hb g0 g1 v0 v1 B5 W5 S5 G5 Q5 hbw hbg
  obtain ⟨g0, g1⟩ := G10.out
  go_wp2_with fail
  refine (markFacts_ok rz rl ga gc _ 1 _ (by have := HLE.out; omega) (by omega) (by omega) Q10.out).mono ?_
  rintro e w11 ⟨rfl, go11, hg⟩
  have B11 := mkHid (B10.out.grown hg B10.out.size (fun q hq => by have := GL.out q hq; omega))
  have W11 := mkHid (W10.out.grown hg (fun e => by have := GL.out _ e.symm; omega))
  have S11 := mkHid (S10.out.grown hg (fun q hq e => by have h1 := SL.out q hq; have h2 := GL.out q e; omega))
  have G11 := mkHid (G10.out.grown hg (fun e => by have := GL.out _ e.symm; omega))
  have Q11 := mkHid go11
  clear hg go11 g0 g1 B10 W10 S10 G10 Q10
  obtain ⟨g0, g1⟩ := G11.out
  have hq0 : ¬ (1 + (rl.length : Int) < 0) := by omega
  go_wp2_with fail
  refine (heldFacts_ok rz rl.length ga gc 1 _ (by have := HLE.out; omega) (by omega) (by omega) Q11.out.at).mono ?_
  rintro e w12 ⟨rfl, hb⟩
  have B12 := mkHid (below_step B11.out hb)
  have W12 := mkHid (W11.out.below hb)
  have S12 := mkHid (S11.out.below hb)
  have G12 := mkHid (G11.out.below hb)
  have Q12 := mkHid (Q11.out.below hb)
  clear hb g0 g1 B11 W11 S11 G11 Q11
  have B13 := B12
  have W13 := W12
  have S13 := S12
  have G13 := G12
  have Q13 := Q12
  clear B12 W12 S12 G12 Q12
  go_wp2_with fail
  refine (HI.out _).mono ?_
  rintro e w14 ⟨ha, hcap, rfl, ho14, hb⟩
  obtain ⟨bh, hbh⟩ : ∃ bh, w14.heap.size = bh := ⟨_, rfl⟩
  have A14 := (Below.refl w14.heap.size w14).alloc (Nat.le_refl _) (.cells #[.int .i64 rz, .slice ha rl.length hcap] 24)
  have B14 := mkHid ((below_step B13.out hb).alloc (below_step B13.out hb).size (.cells #[.int .i64 rz, .slice ha rl.length hcap] 24))
  have W14 := mkHid ((W13.out.below hb).below A14)
  have S14 := mkHid ((S13.out.below hb).below A14)
  have G14 := mkHid ((G13.out.below hb).below A14)
  have Q14 := mkHid ((Q13.out.below hb).below A14)
  have H14 := mkHid (Fc.new w14 rz ha rl.length hcap 24)
  have Y14 := mkHid (ho14.below A14)
  rw [hbh] at H14
  clear hb ho14 A14 B13 W13 S13 G13 Q13
  obtain ⟨h0, h1⟩ := H14.out
  obtain ⟨v0, v1⟩ := W14.out
  go_wp2_with fail
  refine (eqFacts_ok rz rl ha sa hcap sc _ HM.out Y14.out.at S14.out.at).mono ?_
  rintro e w15 ⟨rfl, hb⟩
  have B15 := mkHid (below_step B14.out hb)
  have G15 := mkHid (G14.out.below hb)
  have Q15 := mkHid (Q14.out.below hb)
  clear hb h0 h1 v0 v1 B14 W14 S14 G14 Q14 H14 Y14 hbh
  obtain ⟨g0, g1⟩ := G15.out
  go_wp2_with fail
  refine (heldFacts_ok rz rl.length ga gc 1 _ (by have := HLE.out; omega) (by omega) (by omega) Q15.out.at).mono ?_
  rintro e w16 ⟨rfl, hb⟩
  have B16 := mkHid (below_step B15.out hb)
  clear hb g0 g1
  go_wp2
  go_ret
  exact ⟨rfl, B16.out⟩

set_option maxRecDepth 100000 in
theorem law_lifted (os : Os) (started : os.Started) (H : Type) (enc : TypeId × Value → H) :
    ReturnsInHanded {} Try.checked os 3 .any (Rows.fnExactFactsTopSpec.pre6 enc Try.prog Try.f3 Rows.fnExactFactsTopRow.domain false) (Rows.fnExactFactsTopSpec.post enc Try.prog Try.f3 false true false false) := by
  refine returnsInHanded_of_change (C := Try.checked) Try.own started (by kernel_rfl) Try.func3
    (ChangeSpec.witness6 (enc := enc) (C := Try.checked) false ⟨#[], #[.int .i64 0], []⟩ 8 (by kernel_rfl) (by kernel_rfl) (by kernel_rfl) (by kernel_rfl)) ?_
  intro W base args ds gs before hval0 hW hcnd _
  have hval : ∀ (j : Nat) t v, Try.f3.params[j]? = some t → args[j]? = some v → Value.okWide Try.prog W .any base t v := hval0
  have hW' := hW
  obtain ⟨p, q, hA0, hV, rfl, hfz, hnd⟩ := hW
  have hA : DataW.TrodAll enc Try.prog W 0 (fun _ => true) true Try.f3.params.toList args.toList ds p := hA0
  rw [Try.params3] at hA hval
  obtain ⟨v0, vs0, d0, ds0, p0, q0, hargs, rfl, rfl, h0, r0⟩ := trodAll_cons hA
  obtain ⟨rfl, rfl, rfl⟩ := trodAll_nil r0
  obtain rfl : args = #[v0] := by cases args; simp_all
  obtain ⟨rfl, rfl⟩ := trodVars_none hV
  have k0 := h0
  have lt0 : ∀ x ∈ p0, x.block < W.heap.size := by obtain ⟨m, hm⟩ := k0; exact DataW.trod_lt m _ _ _ hm
  obtain ⟨x0, hv0, _, _, _⟩ := open_int Try.underlying3 (hval 0 3 v0 rfl rfl) h0
  subst hv0
  clear hA0 hval0
  refine (law_walk x0 W ).mono fun e W' ⟨he, bel⟩ => ?_
  subst he
  exact ⟨_, rfl, _, _, _, [], _, [], hW', trodAll_mk1 (shut_bool Try.underlying4 _), (trodAll_cons_mk (Below.trod Try.laidOut (by kernel_rfl) (of_decide_eq_true (by kernel_rfl)) k0 bel lt0) trodAll_mk0), rfl, bel.frame _, fun h => by cases h⟩

theorem law_holds : Rows.FnExactFactsTopSaid :=
  OpenClaim.holds_of_wide 3 Try.f3 rfl rfl rfl rfl rfl rfl rfl ⟨rfl, rfl, rfl, rfl, rfl⟩ rfl rfl rfl rfl rfl (by kernel_rfl) Try.func3 (by kernel_rfl)
    (of_decide_eq_true (by kernel_rfl)) (by unfold Func.isWrapper; first | (rw [if_pos (by decide +kernel)]; kernel_rfl) | (rw [if_neg (by decide +kernel)]; exact ⟨rfl, rfl⟩))
    (fun os started H enc _ => law_lifted os started H enc)

#print axioms law_holds
end Go.Proofs.Ythhajdjpglpkoaa
