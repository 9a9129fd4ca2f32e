/-
  FnExactRangeMul holds at every argument: the program's RangeMul answers as the specification's, and the arguments read as before. No conditions.
-/
import Derived.Test.YtadpicpehoidjaaImu
import Derived.Test.YtadpicpehoidjaaReg
import Derived.ProofKit
import Derived.Deep.Cut
import Derived.OpenShut
import Derived.ChangeOld
import Derived.Lib.SmallJoins
namespace Go.Proofs.Ytadpicpehoidjaa
open Go.ChangeShapes Go.WideShapes Go.ChangeAt Go.RowKit Go.Joins
attribute [local go_sem] nlt2 nlt3 nlt4 nle2 nle3 nle4 drew_size drew_cell drew_frozen

theorem Try.own : ownKnob Try.prog.godebug = none := by kernel_rfl
theorem Try.laidOut : laidOutB Try.prog = true := by kernel_rfl
theorem Try.cells23 : Try.prog.cellsOf 23 = 2 := by kernel_rfl

set_option maxHeartbeats 1600000 in
theorem law_walk (a b c d : Int) (w : World) : Calls Try.prog 11 #[.agg #[.int .i64 a, .int .i64 b], .agg #[.int .i64 c, .int .i64 d]] w fun e w' => e = .returned (.bool true) ∧ Below w.heap.size w w' := by
  go_enter Try.func11, Try.ntmps11
  go_wp2_with fail
  go_cut [5] from 7 (fun s v => ∃ X : Nat, s = .pointer (some ⟨X, 0, none⟩) ∧ (v.cell? ⟨w.heap.size, 0, none⟩ = some (.int .i64 a) ∧ v.cell? ⟨w.heap.size, 1, none⟩ = some (.int .i64 b) ∧ v.cell? ⟨w.heap.size + 1, 0, none⟩ = some (.int .i64 c) ∧ v.cell? ⟨w.heap.size + 1, 1, none⟩ = some (.int .i64 d) ∧ v.cell? ⟨X, 0, none⟩ = some (.int .i64 (mulM a b c d).1) ∧ v.cell? ⟨X, 1, none⟩ = some (.int .i64 (mulM a b c d).2)) ∧ w.heap.size + 1 < X ∧ X < v.heap.size ∧ Below w.heap.size w v)
  case first =>
    go_region_held3 (fun v => v.cell? ⟨w.heap.size, 0, none⟩ = some (.int .i64 a) ∧ v.cell? ⟨w.heap.size, 1, none⟩ = some (.int .i64 b) ∧ v.cell? ⟨w.heap.size + 1, 0, none⟩ = some (.int .i64 c) ∧ v.cell? ⟨w.heap.size + 1, 1, none⟩ = some (.int .i64 d))
      (first | assumption | (simp (maxDischargeDepth := 12) [*, go_sem]; done))
      (first | (go_at_call 15; refine (toRange_any _ _ _).mono ?_; rintro e w' ⟨rfl, hb⟩; (try rw [below_drew] at hb); obtain ⟨hc, hf, hm, hs⟩ := bcell4 hb; have hz0 : w.heap.size < w'.heap.size := (by have := hb.size; (try simp at this); omega); have hl0 := Nat.le_of_lt hz0; have hz1 : w.heap.size + 1 < w'.heap.size := (by have := hb.size; (try simp at this); omega); have hl1 := Nat.le_of_lt hz1; (try have hy0 : w.heap.size + 2 < w'.heap.size := (by have := hb.size; (try simp at this); omega))) | (go_at_call 32; refine (sMul_any _ _ _ _ _).mono ?_; rintro e w' ⟨rfl, hb⟩; (try rw [below_drew] at hb); obtain ⟨hc, hf, hm, hs⟩ := bcell4 hb; have hz0 : w.heap.size < w'.heap.size := (by have := hb.size; (try simp at this); omega); have hl0 := Nat.le_of_lt hz0; have hz1 : w.heap.size + 1 < w'.heap.size := (by have := hb.size; (try simp at this); omega); have hl1 := Nat.le_of_lt hz1; (try have hy0 : w.heap.size + 2 < w'.heap.size := (by have := hb.size; (try simp at this); omega))))
    all_goals
      go_wp2_with fail
      go_meet
      case rel => exact ⟨_, rfl, (by (simp (maxDischargeDepth := 12) [*, go_sem]; done)), (by (simp (maxDischargeDepth := 12) [*, go_sem]; try omega)), (by (simp (maxDischargeDepth := 12) [*, go_sem]; done)), (by repeat (first | assumption | exact Below.refl _ _ | refine bl_set ?_ (by first | (simp; done) | (simp [*]; done) | (simp (maxDischargeDepth := 12) [*, go_sem]; done) | (simp [*] <;> omega)) _ | refine bl_alloc ?_ _ | refine bl_drew ?_ | refine below_step ?_ (by assumption)))⟩
  case rest =>
    obtain ⟨X, rfl, ⟨p0, p1, p2, p3, p4, p5⟩, hX0, hX, hB⟩ := hcut
    have hw1 : w.heap.size + 1 < wc.heap.size := by omega
    have hw0 : w.heap.size < wc.heap.size := by omega
    have hv1 := Nat.le_of_lt hw1
    have hv0 := Nat.le_of_lt hw0
    have hvX := Nat.le_of_lt hX
    go_wp2_with fail
    go_cut [6] from 7 (fun s v => ∃ Y : Nat, s = .pointer (some ⟨Y, 0, none⟩) ∧ (v.cell? ⟨X, 0, none⟩ = some (.int .i64 (mulM a b c d).1) ∧ v.cell? ⟨X, 1, none⟩ = some (.int .i64 (mulM a b c d).2) ∧ v.cell? ⟨Y, 0, none⟩ = some (.int .i64 (mulM a b c d).1) ∧ v.cell? ⟨Y, 1, none⟩ = some (.int .i64 (mulM a b c d).2)) ∧ Below w.heap.size w v)
    case first =>
      go_region_held3 (fun v => v.cell? ⟨w.heap.size, 0, none⟩ = some (.int .i64 a) ∧ v.cell? ⟨w.heap.size, 1, none⟩ = some (.int .i64 b) ∧ v.cell? ⟨w.heap.size + 1, 0, none⟩ = some (.int .i64 c) ∧ v.cell? ⟨w.heap.size + 1, 1, none⟩ = some (.int .i64 d) ∧ v.cell? ⟨X, 0, none⟩ = some (.int .i64 (mulM a b c d).1) ∧ v.cell? ⟨X, 1, none⟩ = some (.int .i64 (mulM a b c d).2))
        (first | assumption | (simp (maxDischargeDepth := 12) [*, go_sem]; done))
        (first | (go_at_call 15; refine (toRange_any _ _ _).mono ?_; rintro e w' ⟨rfl, hb⟩; (try rw [below_drew] at hb); obtain ⟨hc, hf, hm, hs⟩ := bcell4 hb; have hz0 : w.heap.size < w'.heap.size := (by have := hb.size; (try simp at this); omega); have hl0 := Nat.le_of_lt hz0; have hz1 : w.heap.size + 1 < w'.heap.size := (by have := hb.size; (try simp at this); omega); have hl1 := Nat.le_of_lt hz1; have hz2 : X < w'.heap.size := (by have := hb.size; (try simp at this); omega); have hl2 := Nat.le_of_lt hz2; (try have hy0 : wc.heap.size < w'.heap.size := (by have := hb.size; (try simp at this); omega))) | (go_at_call 33; refine (iMul_any _ _ _ _ _).mono ?_; rintro e w' ⟨rfl, hb⟩; (try rw [below_drew] at hb); obtain ⟨hc, hf, hm, hs⟩ := bcell4 hb; have hz0 : w.heap.size < w'.heap.size := (by have := hb.size; (try simp at this); omega); have hl0 := Nat.le_of_lt hz0; have hz1 : w.heap.size + 1 < w'.heap.size := (by have := hb.size; (try simp at this); omega); have hl1 := Nat.le_of_lt hz1; have hz2 : X < w'.heap.size := (by have := hb.size; (try simp at this); omega); have hl2 := Nat.le_of_lt hz2; (try have hy0 : wc.heap.size < w'.heap.size := (by have := hb.size; (try simp at this); omega))))
      all_goals
        go_wp2_with fail
        go_meet
        case rel => exact ⟨_, rfl, (by (simp (maxDischargeDepth := 12) [*, go_sem]; done)), (by repeat (first | assumption | exact Below.refl _ _ | refine bl_set ?_ (by first | (simp; done) | (simp [*]; done) | (simp (maxDischargeDepth := 12) [*, go_sem]; done) | (simp [*] <;> omega)) _ | refine bl_alloc ?_ _ | refine bl_drew ?_ | refine below_step ?_ (by assumption)))⟩
    case rest =>
      clear p0 p1 p2 p3 p4 p5 hX0 hX hB hw0 hw1 hv0 hv1 hvX
      obtain ⟨Y, rfl, ⟨p0, p1, p2, p3⟩, hB⟩ := hcut
      go_wp2_with (go_at_call 23; refine (eqRange_same _ _ _).mono ?_; rintro e w' ⟨rfl, hb⟩; (try rw [below_drew] at hb); obtain ⟨hc, hf, hm, hs⟩ := bcell4 hb)
      go_ret
      exact ⟨rfl, (by repeat (first | assumption | exact Below.refl _ _ | refine bl_set ?_ (by first | (simp; done) | (simp [*]; done) | (simp (maxDischargeDepth := 12) [*, go_sem]; done) | (simp [*] <;> omega)) _ | refine bl_alloc ?_ _ | refine bl_drew ?_ | refine below_step ?_ (by assumption)))⟩

set_option maxRecDepth 100000 in
theorem law_lifted (os : Os) (started : os.Started) (H : Type) (enc : TypeId × Value → H) :
    ReturnsInHanded {} Try.checked os 11 .any (Rows.fnExactRangeMulSpec.pre6 enc Try.prog Try.f11 Rows.fnExactRangeMulRow.domain false) (Rows.fnExactRangeMulSpec.post enc Try.prog Try.f11 false true false false) := by
  refine returnsInHanded_of_change (C := Try.checked) Try.own started (by kernel_rfl) Try.func11
    (ChangeSpec.witness6 (enc := enc) (C := Try.checked) false ⟨#[], #[.agg #[.int .i64 0, .int .i64 0], .agg #[.int .i64 0, .int .i64 0]], []⟩ 8 (by kernel_rfl) (by kernel_rfl) (by kernel_rfl) (by kernel_rfl)) ?_
  intro W base args ds gs before hval0 hW hcnd _
  have hval : ∀ (j : Nat) t v, Try.f11.params[j]? = some t → args[j]? = some v → Value.okWide Try.prog W .any base t v := hval0
  have hW' := hW
  obtain ⟨p, q, hA0, hV, rfl, hfz, hnd⟩ := hW
  have hA : DataW.TrodAll enc Try.prog W 0 (fun _ => true) true Try.f11.params.toList args.toList ds p := hA0
  rw [Try.params11] at hA hval
  obtain ⟨v0, vs0, d0, ds0, p0, q0, hargs, rfl, rfl, h0, r0⟩ := trodAll_cons hA
  obtain ⟨v1, vs1, d1, ds1, p1, q1, rfl, rfl, rfl, h1, r1⟩ := trodAll_cons r0
  obtain ⟨rfl, rfl, rfl⟩ := trodAll_nil r1
  obtain rfl : args = #[v0, v1] := by cases args; simp_all
  obtain ⟨rfl, rfl⟩ := trodVars_none hV
  have k0 := h0
  have lt0 : ∀ x ∈ p0, x.block < W.heap.size := by obtain ⟨m, hm⟩ := k0; exact DataW.trod_lt m _ _ _ hm
  have k1 := h1
  have lt1 : ∀ x ∈ p1, x.block < W.heap.size := by obtain ⟨m, hm⟩ := k1; exact DataW.trod_lt m _ _ _ hm
  obtain ⟨u00, u01, y00, y01, m0, hv0, _, _, hy00, hy01⟩ := open_agg2 Try.underlying23 (by kernel_rfl) Try.cells23 (hval 0 23 v0 rfl rfl) h0
  obtain ⟨a, e00, _, _⟩ := DataW.trod_int Try.underlying3 hy00
  obtain ⟨b, e01, _, _⟩ := DataW.trod_int Try.underlying3 hy01
  simp at e00 e01
  subst e00 e01 hv0
  obtain ⟨u10, u11, y10, y11, m1, hv1, _, _, hy10, hy11⟩ := open_agg2 Try.underlying23 (by kernel_rfl) Try.cells23 (hval 1 23 v1 rfl rfl) h1
  obtain ⟨c, e10, _, _⟩ := DataW.trod_int Try.underlying3 hy10
  obtain ⟨d, e11, _, _⟩ := DataW.trod_int Try.underlying3 hy11
  simp at e10 e11
  subst e10 e11 hv1
  clear hA0 hval0
  refine (law_walk a b c d W).mono fun e W' ⟨he, bel⟩ => ?_
  subst he
  exact ⟨_, rfl, _, _, _, [], _, [], hW', trodAll_mk1 (shut_bool Try.underlying4 _), (trodAll_cons_mk (Below.trod Try.laidOut (by kernel_rfl) (of_decide_eq_true (by kernel_rfl)) k0 bel lt0) (trodAll_cons_mk (Below.trod Try.laidOut (by kernel_rfl) (of_decide_eq_true (by kernel_rfl)) k1 bel lt1) trodAll_mk0)), rfl, bel.frame _, fun h => by cases h⟩

theorem law_holds : Rows.FnExactRangeMulSaid :=
  OpenClaim.holds_of_wide 11 Try.f11 rfl rfl rfl rfl rfl rfl rfl ⟨rfl, rfl, rfl, rfl, rfl⟩ rfl rfl rfl rfl rfl (by kernel_rfl) Try.func11 (by kernel_rfl)
    (of_decide_eq_true (by kernel_rfl)) (by unfold Func.isWrapper; first | (rw [if_pos (by decide +kernel)]; kernel_rfl) | (rw [if_neg (by decide +kernel)]; exact ⟨rfl, rfl⟩))
    (fun os started H enc _ => law_lifted os started H enc)

#print axioms law_holds
end Go.Proofs.Ytadpicpehoidjaa
