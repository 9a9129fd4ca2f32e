/-
  FnExactRangeGuard holds at every argument: the program's RangeGuard answers as the specification's, and the arguments read as before. No conditions.
-/
import Derived.Test.YtadpicpehoidjaaGl
import Derived.Test.YtadpicpehoidjaaReg
import Derived.ProofKit
import Derived.Deep.Cut
import Derived.OpenShut
import Derived.ChangeOld
import Derived.Lib.SmallJoins
namespace Go.Proofs.Ytadpicpehoidjaa
open Go.ChangeShapes Go.WideShapes Go.ChangeAt Go.RowKit Go.Joins
attribute [local go_sem] nlt2 nlt3 nlt4 nle2 nle3 nle4 drew_size drew_cell drew_frozen

theorem Try.own : ownKnob Try.prog.godebug = none := by kernel_rfl
theorem Try.laidOut : laidOutB Try.prog = true := by kernel_rfl
theorem Try.cells23 : Try.prog.cellsOf 23 = 2 := by kernel_rfl

set_option maxHeartbeats 8000000 in
theorem law_walk (a b c d e : Int) (w : World) : Calls Try.prog 12 #[.int .i64 a, .agg #[.int .i64 b, .int .i64 c], .agg #[.int .i64 d, .int .i64 e]] w fun e w' => e = .returned (.bool true) ∧ Below w.heap.size w w' := by
  go_enter Try.func12, Try.ntmps12
  go_wp2_with fail
  go_cut [7, 8] from 11 (fun s s2 v => ∃ X X2 : Nat, s = .pointer (some ⟨X, 0, none⟩) ∧ s2 = .pointer (some ⟨X2, 0, none⟩) ∧ (v.cell? ⟨w.heap.size, 0, none⟩ = some (.int .i64 b) ∧ v.cell? ⟨w.heap.size, 1, none⟩ = some (.int .i64 c) ∧ v.cell? ⟨w.heap.size + 1, 0, none⟩ = some (.int .i64 d) ∧ v.cell? ⟨w.heap.size + 1, 1, none⟩ = some (.int .i64 e) ∧ v.cell? ⟨X, 0, none⟩ = some (.int .i64 (guardM a b c d e).1.1) ∧ v.cell? ⟨X, 1, none⟩ = some (.int .i64 (guardM a b c d e).1.2) ∧ v.cell? ⟨X2, 0, none⟩ = some (.int .i64 (guardM a b c d e).2.1) ∧ v.cell? ⟨X2, 1, none⟩ = some (.int .i64 (guardM a b c d e).2.2)) ∧ Below w.heap.size w v)
  case first =>
    go_region_held3 (fun v => v.cell? ⟨w.heap.size, 0, none⟩ = some (.int .i64 b) ∧ v.cell? ⟨w.heap.size, 1, none⟩ = some (.int .i64 c) ∧ v.cell? ⟨w.heap.size + 1, 0, none⟩ = some (.int .i64 d) ∧ v.cell? ⟨w.heap.size + 1, 1, none⟩ = some (.int .i64 e)) (first | (simp (maxDischargeDepth := 12) [*, go_sem]; done) | assumption) (first | (go_at_call 15; refine (toRange_any _ _ _).mono ?_; rintro e w9 ⟨rfl, hb⟩; (try rw [below_drew] at hb); obtain ⟨hc, hf, hm, hs⟩ := bcell4 hb; have hz0 : w.heap.size < w9.heap.size := (by have := hb.size; (try simp at this); omega); have hl0 := Nat.le_of_lt hz0; have hz1 : w.heap.size + 1 < w9.heap.size := (by have := hb.size; (try simp at this); omega); have hl1 := Nat.le_of_lt hz1; (try (have hy0 : w.heap.size + 2 < w9.heap.size := (by have := hb.size; (try simp at this); omega); have hx0 := Nat.ne_of_lt hy0; have hu0 := Ne.symm hx0)); (try (have hy1 : w.heap.size + 3 < w9.heap.size := (by have := hb.size; (try simp at this); omega); have hx1 := Nat.ne_of_lt hy1; have hu1 := Ne.symm hx1)); (try (have hy2 : w'.heap.size < w9.heap.size := (by have := hb.size; (try simp at this); omega); have hx2 := Nat.ne_of_lt hy2; have hu2 := Ne.symm hx2)); (try (have hy3 : w'.heap.size + 1 < w9.heap.size := (by have := hb.size; (try simp at this); omega); have hx3 := Nat.ne_of_lt hy3; have hu3 := Ne.symm hx3)); obtain ⟨w', hww⟩ : ∃ x : World, x = w9 := ⟨_, rfl⟩; subst hww) | (go_at_call 34; refine (sGuard_any _ _ _ _ _ _).mono ?_; rintro e w9 ⟨rfl, hb⟩; (try rw [below_drew] at hb); obtain ⟨hc, hf, hm, hs⟩ := bcell4 hb; have hz0 : w.heap.size < w9.heap.size := (by have := hb.size; (try simp at this); omega); have hl0 := Nat.le_of_lt hz0; have hz1 : w.heap.size + 1 < w9.heap.size := (by have := hb.size; (try simp at this); omega); have hl1 := Nat.le_of_lt hz1; (try (have hy0 : w.heap.size + 2 < w9.heap.size := (by have := hb.size; (try simp at this); omega); have hx0 := Nat.ne_of_lt hy0; have hu0 := Ne.symm hx0)); (try (have hy1 : w.heap.size + 3 < w9.heap.size := (by have := hb.size; (try simp at this); omega); have hx1 := Nat.ne_of_lt hy1; have hu1 := Ne.symm hx1)); (try (have hy2 : w'.heap.size < w9.heap.size := (by have := hb.size; (try simp at this); omega); have hx2 := Nat.ne_of_lt hy2; have hu2 := Ne.symm hx2)); (try (have hy3 : w'.heap.size + 1 < w9.heap.size := (by have := hb.size; (try simp at this); omega); have hx3 := Nat.ne_of_lt hy3; have hu3 := Ne.symm hx3)); obtain ⟨w', hww⟩ : ∃ x : World, x = w9 := ⟨_, rfl⟩; subst hww))
    all_goals
      go_wp2_with fail
      go_meet
      case rel => exact ⟨_, _, rfl, rfl, (by (simp (maxDischargeDepth := 12) [*, go_sem]; done)), (by repeat (first | (with_reducible refine bl_set2 ?_ ?_ _; (first | (simp; done) | (simp [*]; done) | (simp [*] <;> omega))) | with_reducible refine bl_drew ?_ | with_reducible refine bl_alloc ?_ _ | with_reducible refine below_step ?_ (by assumption) | with_reducible assumption | with_reducible exact Below.refl _ _))⟩
  case rest =>
    obtain ⟨X, X2, rfl, rfl, ⟨p0, p1, p2, p3, p4, p5, p6, p7⟩, hB⟩ := hcut
    have hX := World.block_lt_of_cell? wc _ p4
    have hX2 := World.block_lt_of_cell? wc _ p6
    have hw0 := World.block_lt_of_cell? wc _ p0
    have hw1 := World.block_lt_of_cell? wc _ p2
    have hvX := Nat.le_of_lt hX
    have hvX2 := Nat.le_of_lt hX2
    have hv0 := Nat.le_of_lt hw0
    have hv1 := Nat.le_of_lt hw1
    go_wp2_with fail
    go_cut [9, 10] from 11 (fun s s2 v => ∃ Y Y2 : Nat, s = .pointer (some ⟨Y, 0, none⟩) ∧ s2 = .pointer (some ⟨Y2, 0, none⟩) ∧ (v.cell? ⟨X, 0, none⟩ = some (.int .i64 (guardM a b c d e).1.1) ∧ v.cell? ⟨X, 1, none⟩ = some (.int .i64 (guardM a b c d e).1.2) ∧ v.cell? ⟨X2, 0, none⟩ = some (.int .i64 (guardM a b c d e).2.1) ∧ v.cell? ⟨X2, 1, none⟩ = some (.int .i64 (guardM a b c d e).2.2) ∧ v.cell? ⟨Y, 0, none⟩ = some (.int .i64 (guardM a b c d e).1.1) ∧ v.cell? ⟨Y, 1, none⟩ = some (.int .i64 (guardM a b c d e).1.2) ∧ v.cell? ⟨Y2, 0, none⟩ = some (.int .i64 (guardM a b c d e).2.1) ∧ v.cell? ⟨Y2, 1, none⟩ = some (.int .i64 (guardM a b c d e).2.2)) ∧ Below w.heap.size w v)
    case first =>
      go_region_held3 (fun v => v.cell? ⟨w.heap.size, 0, none⟩ = some (.int .i64 b) ∧ v.cell? ⟨w.heap.size, 1, none⟩ = some (.int .i64 c) ∧ v.cell? ⟨w.heap.size + 1, 0, none⟩ = some (.int .i64 d) ∧ v.cell? ⟨w.heap.size + 1, 1, none⟩ = some (.int .i64 e) ∧ v.cell? ⟨X, 0, none⟩ = some (.int .i64 (guardM a b c d e).1.1) ∧ v.cell? ⟨X, 1, none⟩ = some (.int .i64 (guardM a b c d e).1.2) ∧ v.cell? ⟨X2, 0, none⟩ = some (.int .i64 (guardM a b c d e).2.1) ∧ v.cell? ⟨X2, 1, none⟩ = some (.int .i64 (guardM a b c d e).2.2)) (first | (simp (maxDischargeDepth := 12) [*, go_sem]; done) | assumption) (first | (go_at_call 15; refine (toRange_any _ _ _).mono ?_; rintro e w9 ⟨rfl, hb⟩; (try rw [below_drew] at hb); obtain ⟨hc, hf, hm, hs⟩ := bcell4 hb; have hz0 : w.heap.size < w9.heap.size := (by have := hb.size; (try simp at this); omega); have hl0 := Nat.le_of_lt hz0; have hz1 : w.heap.size + 1 < w9.heap.size := (by have := hb.size; (try simp at this); omega); have hl1 := Nat.le_of_lt hz1; have hz2 : X < w9.heap.size := (by have := hb.size; (try simp at this); omega); have hl2 := Nat.le_of_lt hz2; have hz3 : X2 < w9.heap.size := (by have := hb.size; (try simp at this); omega); have hl3 := Nat.le_of_lt hz3; (try (have hy0 : wc.heap.size < w9.heap.size := (by have := hb.size; (try simp at this); omega); have hx0 := Nat.ne_of_lt hy0; have hu0 := Ne.symm hx0)); (try (have hy1 : wc.heap.size + 1 < w9.heap.size := (by have := hb.size; (try simp at this); omega); have hx1 := Nat.ne_of_lt hy1; have hu1 := Ne.symm hx1)); (try (have hy2 : w'.heap.size < w9.heap.size := (by have := hb.size; (try simp at this); omega); have hx2 := Nat.ne_of_lt hy2; have hu2 := Ne.symm hx2)); (try (have hy3 : w'.heap.size + 1 < w9.heap.size := (by have := hb.size; (try simp at this); omega); have hx3 := Nat.ne_of_lt hy3; have hu3 := Ne.symm hx3)); obtain ⟨w', hww⟩ : ∃ x : World, x = w9 := ⟨_, rfl⟩; subst hww) | (go_at_call 35; refine (iGuard_any _ _ _ _ _ _).mono ?_; rintro e w9 ⟨rfl, hb⟩; (try rw [below_drew] at hb); obtain ⟨hc, hf, hm, hs⟩ := bcell4 hb; have hz0 : w.heap.size < w9.heap.size := (by have := hb.size; (try simp at this); omega); have hl0 := Nat.le_of_lt hz0; have hz1 : w.heap.size + 1 < w9.heap.size := (by have := hb.size; (try simp at this); omega); have hl1 := Nat.le_of_lt hz1; have hz2 : X < w9.heap.size := (by have := hb.size; (try simp at this); omega); have hl2 := Nat.le_of_lt hz2; have hz3 : X2 < w9.heap.size := (by have := hb.size; (try simp at this); omega); have hl3 := Nat.le_of_lt hz3; (try (have hy0 : wc.heap.size < w9.heap.size := (by have := hb.size; (try simp at this); omega); have hx0 := Nat.ne_of_lt hy0; have hu0 := Ne.symm hx0)); (try (have hy1 : wc.heap.size + 1 < w9.heap.size := (by have := hb.size; (try simp at this); omega); have hx1 := Nat.ne_of_lt hy1; have hu1 := Ne.symm hx1)); (try (have hy2 : w'.heap.size < w9.heap.size := (by have := hb.size; (try simp at this); omega); have hx2 := Nat.ne_of_lt hy2; have hu2 := Ne.symm hx2)); (try (have hy3 : w'.heap.size + 1 < w9.heap.size := (by have := hb.size; (try simp at this); omega); have hx3 := Nat.ne_of_lt hy3; have hu3 := Ne.symm hx3)); obtain ⟨w', hww⟩ : ∃ x : World, x = w9 := ⟨_, rfl⟩; subst hww))
      all_goals
        go_wp2_with fail
        go_meet
        case rel => exact ⟨_, _, rfl, rfl, (by (simp (maxDischargeDepth := 12) [*, go_sem]; done)), (by repeat (first | (with_reducible refine bl_set2 ?_ ?_ _; (first | (simp; done) | (simp [*]; done) | (simp [*] <;> omega))) | with_reducible refine bl_drew ?_ | with_reducible refine bl_alloc ?_ _ | with_reducible refine below_step ?_ (by assumption) | with_reducible assumption | with_reducible exact Below.refl _ _))⟩
    case rest =>
      clear p0 p1 p2 p3 p4 p5 p6 p7 hX hX2 hB hw0 hw1 hv0 hv1 hvX hvX2
      obtain ⟨Y, Y2, rfl, rfl, ⟨p0, p1, p2, p3, p4, p5, p6, p7⟩, hB⟩ := hcut
      have hX := World.block_lt_of_cell? wc _ p0
      have hX2 := World.block_lt_of_cell? wc _ p2
      have hY := World.block_lt_of_cell? wc _ p4
      have hY2 := World.block_lt_of_cell? wc _ p6
      go_wp2_with (go_at_call 23; refine (eqRange_same _ _ _).mono ?_; rintro e w' ⟨rfl, hb⟩; (try rw [below_drew] at hb); obtain ⟨hc, hf, hm, hs⟩ := bcell4 hb)
      go_ret
      exact ⟨rfl, (by repeat (first | (with_reducible refine bl_set2 ?_ ?_ _; (first | (simp; done) | (simp [*]; done) | (simp [*] <;> omega))) | with_reducible refine bl_drew ?_ | with_reducible refine bl_alloc ?_ _ | with_reducible refine below_step ?_ (by assumption) | with_reducible assumption | with_reducible exact Below.refl _ _))⟩

set_option maxRecDepth 100000 in
theorem law_lifted (os : Os) (started : os.Started) (H : Type) (enc : TypeId × Value → H) :
    ReturnsInHanded {} Try.checked os 12 .any (Rows.fnExactRangeGuardSpec.pre6 enc Try.prog Try.f12 Rows.fnExactRangeGuardRow.domain false) (Rows.fnExactRangeGuardSpec.post enc Try.prog Try.f12 false true false false) := by
  refine returnsInHanded_of_change (C := Try.checked) Try.own started (by kernel_rfl) Try.func12
    (ChangeSpec.witness6 (enc := enc) (C := Try.checked) false ⟨#[], #[.int .i64 0, .agg #[.int .i64 0, .int .i64 0], .agg #[.int .i64 0, .int .i64 0]], []⟩ 8 (by kernel_rfl) (by kernel_rfl) (by kernel_rfl) (by kernel_rfl)) ?_
  intro W base args ds gs before hval0 hW hcnd _
  have hval : ∀ (j : Nat) t v, Try.f12.params[j]? = some t → args[j]? = some v → Value.okWide Try.prog W .any base t v := hval0
  have hW' := hW
  obtain ⟨p, q, hA0, hV, rfl, hfz, hnd⟩ := hW
  have hA : DataW.TrodAll enc Try.prog W 0 (fun _ => true) true Try.f12.params.toList args.toList ds p := hA0
  rw [Try.params12] at hA hval
  obtain ⟨v0, vs0, d0, ds0, p0, q0, hargs, rfl, rfl, h0, r0⟩ := trodAll_cons hA
  obtain ⟨v1, vs1, d1, ds1, p1, q1, rfl, rfl, rfl, h1, r1⟩ := trodAll_cons r0
  obtain ⟨v2, vs2, d2, ds2, p2, q2, rfl, rfl, rfl, h2, r2⟩ := trodAll_cons r1
  obtain ⟨rfl, rfl, rfl⟩ := trodAll_nil r2
  obtain rfl : args = #[v0, v1, v2] := by cases args; simp_all
  obtain ⟨rfl, rfl⟩ := trodVars_none hV
  have k0 := h0
  have lt0 : ∀ x ∈ p0, x.block < W.heap.size := by obtain ⟨m, hm⟩ := k0; exact DataW.trod_lt m _ _ _ hm
  have k1 := h1
  have lt1 : ∀ x ∈ p1, x.block < W.heap.size := by obtain ⟨m, hm⟩ := k1; exact DataW.trod_lt m _ _ _ hm
  have k2 := h2
  have lt2 : ∀ x ∈ p2, x.block < W.heap.size := by obtain ⟨m, hm⟩ := k2; exact DataW.trod_lt m _ _ _ hm
  obtain ⟨a, hv0, _, _, _⟩ := open_int Try.underlying3 (hval 0 3 v0 rfl rfl) h0
  subst hv0
  obtain ⟨u10, u11, y10, y11, m1, hv1, _, _, hy10, hy11⟩ := open_agg2 Try.underlying23 (by kernel_rfl) Try.cells23 (hval 1 23 v1 rfl rfl) h1
  obtain ⟨b, e10, _, _⟩ := DataW.trod_int Try.underlying3 hy10
  obtain ⟨c, e11, _, _⟩ := DataW.trod_int Try.underlying3 hy11
  simp at e10 e11
  subst e10 e11 hv1
  obtain ⟨u20, u21, y20, y21, m2, hv2, _, _, hy20, hy21⟩ := open_agg2 Try.underlying23 (by kernel_rfl) Try.cells23 (hval 2 23 v2 rfl rfl) h2
  obtain ⟨d, e20, _, _⟩ := DataW.trod_int Try.underlying3 hy20
  obtain ⟨e, e21, _, _⟩ := DataW.trod_int Try.underlying3 hy21
  simp at e20 e21
  subst e20 e21 hv2
  clear hA0 hval0
  refine (law_walk a b c d e W).mono fun e W' ⟨he, bel⟩ => ?_
  subst he
  exact ⟨_, rfl, _, _, _, [], _, [], hW', trodAll_mk1 (shut_bool Try.underlying4 _), (trodAll_cons_mk (Below.trod Try.laidOut (by kernel_rfl) (of_decide_eq_true (by kernel_rfl)) k0 bel lt0) (trodAll_cons_mk (Below.trod Try.laidOut (by kernel_rfl) (of_decide_eq_true (by kernel_rfl)) k1 bel lt1) (trodAll_cons_mk (Below.trod Try.laidOut (by kernel_rfl) (of_decide_eq_true (by kernel_rfl)) k2 bel lt2) trodAll_mk0))), rfl, bel.frame _, fun h => by cases h⟩

theorem law_holds : Rows.FnExactRangeGuardSaid :=
  OpenClaim.holds_of_wide 12 Try.f12 rfl rfl rfl rfl rfl rfl rfl ⟨rfl, rfl, rfl, rfl, rfl⟩ rfl rfl rfl rfl rfl (by kernel_rfl) Try.func12 (by kernel_rfl)
    (of_decide_eq_true (by kernel_rfl)) (by unfold Func.isWrapper; first | (rw [if_pos (by decide +kernel)]; kernel_rfl) | (rw [if_neg (by decide +kernel)]; exact ⟨rfl, rfl⟩))
    (fun os started H enc _ => law_lifted os started H enc)

#print axioms law_holds
end Go.Proofs.Ytadpicpehoidjaa
