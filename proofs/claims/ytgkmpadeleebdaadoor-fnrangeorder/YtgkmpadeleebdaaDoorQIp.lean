/-
  CONTRACTS of the program's functions on ranges: RangeOk, RangeHas, spanOf, cutDown, RangeMeet, RangeNeg, RangeAdd.
-/
import Derived.Test.YtgkmpadeleebdaaDoorQSp
import Derived.Test.YtgkmpadeleebdaaDoorQEq
namespace Go.Proofs.YtgkmpadeleebdaaDoor.Q
open Go.RowKit

set_option maxRecDepth 100000 in
set_option maxHeartbeats 400000 in
theorem iOk_any (a b : Int) (w : World) : Calls Tryd.prog 22 #[.agg #[.int .i64 a, .int .i64 b]] w fun e w' => e = .returned (.bool (okB a b)) ∧ Below w.heap.size w w' := by
  have g0 : w.heap.size < (w.alloc (.cells #[.int .i64 a, .int .i64 b] 25)).heap.size := by simp
  have p0 : (w.alloc (.cells #[.int .i64 a, .int .i64 b] 25)).cell? ⟨w.heap.size, 0, none⟩ = some (.int .i64 a) := by simp [go_sem]
  have p1 : (w.alloc (.cells #[.int .i64 a, .int .i64 b] 25)).cell? ⟨w.heap.size, 1, none⟩ = some (.int .i64 b) := by simp [go_sem]
  have e0 : okB a b = (eqB a b 1 0 || someB a b) := by
    rw [Bool.eq_iff_iff, Bool.or_eq_true, ok_iff, some_iff]; unfold eqB; simp
  have hund : undef = Value.tuple #[] := rfl
  cases h1 : eqB a b 1 0
  · rw [h1] at e0
    have E := mkHid e0
    clear e0
    have hEq := eql_rng
    have hMx := @run_max_M Tryd.prog
    have hMn := @run_min_M Tryd.prog
    go_enter Tryd.func22, Tryd.ntmps22
    go_wp2
    go_region_held3 (fun v => v.cell? ⟨w.heap.size, 0, none⟩ = some (.int .i64 a) ∧ v.cell? ⟨w.heap.size, 1, none⟩ = some (.int .i64 b))
      (first | exact ⟨p0, p1⟩ | assumption | exact ⟨(hc _ _ g0).trans p0, (hc _ _ g0).trans p1⟩ | exact ⟨(hc _ _ hz0).trans p0, (hc _ _ hz0).trans p1⟩ | (simp [*, go_sem]; done))
      (first | (go_at_call 23; refine (iNone_any _).mono ?_; rintro e w' ⟨rfl, hb⟩; obtain ⟨hc, hf⟩ := bcell hb; have hz0 : w.heap.size < w'.heap.size := (by have := hb.size; (try simp at this); omega)) | (go_at_call 25; refine (isSome_any _ _ _).mono ?_; rintro e w' ⟨rfl, hb⟩; obtain ⟨hc, hf⟩ := bcell hb; have hz0 : w.heap.size < w'.heap.size := (by have := hb.size; (try simp at this); omega)))
    all_goals
      go_wp2
      go_ret
      exact ⟨ret_bool (E.out.trans (Bool.false_or _)).symm, (by repeat (first | exact Below.refl _ _ | refine bl_set ?_ (by simp <;> omega) _ | refine bl_alloc ?_ _ | refine bl_drew ?_ | refine below_step ?_ (by assumption)))⟩
  · rw [h1] at e0
    have E := mkHid e0
    clear e0
    have hEq := eql_rng
    have hMx := @run_max_M Tryd.prog
    have hMn := @run_min_M Tryd.prog
    go_enter Tryd.func22, Tryd.ntmps22
    go_wp2
    first | (go_region_with (first | (go_at_call 23; refine (iNone_any _).mono ?_; rintro e w' ⟨rfl, hb⟩; obtain ⟨hc, hf⟩ := bcell hb; have hz0 : w.heap.size < w'.heap.size := (by have := hb.size; (try simp at this); omega)) | (go_at_call 25; refine (isSome_any _ _ _).mono ?_; rintro e w' ⟨rfl, hb⟩; obtain ⟨hc, hf⟩ := bcell hb; have hz0 : w.heap.size < w'.heap.size := (by have := hb.size; (try simp at this); omega)))) | fail
    all_goals
      go_wp2
      go_ret
      exact ⟨ret_bool (E.out.trans (Bool.true_or _)).symm, (by repeat (first | exact Below.refl _ _ | refine bl_set ?_ (by simp <;> omega) _ | refine bl_alloc ?_ _ | refine bl_drew ?_ | refine below_step ?_ (by assumption)))⟩
theorem span_if (a b : Int) : (if b < a then Value.agg #[.int .i64 1, .int .i64 0] else .agg #[.int .i64 a, .int .i64 b]) = .agg #[.int .i64 (spanM a b).1, .int .i64 (spanM a b).2] := by
  unfold spanM; by_cases h : b < a
  · rw [if_pos h, if_pos h]
  · rw [if_neg h, if_neg h]
end Go.Proofs.YtgkmpadeleebdaaDoor.Q
