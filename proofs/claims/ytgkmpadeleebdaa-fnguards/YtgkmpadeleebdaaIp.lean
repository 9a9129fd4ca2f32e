/-
  CONTRACTS of the program's functions on ranges: RangeOk, RangeHas, spanOf, cutDown, RangeMeet, RangeNeg, RangeAdd.
-/
import Derived.Test.YtgkmpadeleebdaaSp
import Derived.Test.YtgkmpadeleebdaaEq
namespace Go.Proofs.Ytgkmpadeleebdaa
open Go.RowKit

set_option maxHeartbeats 400000 in
theorem iOk_any (a b : Int) (w : World) : Calls Try.prog 47 #[.agg #[.int .i64 a, .int .i64 b]] w fun e w' => e = .returned (.bool (okB a b)) ∧ Below w.heap.size w w' := by
  have g0 : w.heap.size < (w.alloc (.cells #[.int .i64 a, .int .i64 b] 25)).heap.size := by simp
  have p0 : (w.alloc (.cells #[.int .i64 a, .int .i64 b] 25)).cell? ⟨w.heap.size, 0, none⟩ = some (.int .i64 a) := by simp [go_sem]
  have p1 : (w.alloc (.cells #[.int .i64 a, .int .i64 b] 25)).cell? ⟨w.heap.size, 1, none⟩ = some (.int .i64 b) := by simp [go_sem]
  have e0 : okB a b = (eqB a b 1 0 || someB a b) := by
    rw [Bool.eq_iff_iff, Bool.or_eq_true, ok_iff, some_iff]; unfold eqB; simp
  have hund : undef = Value.tuple #[] := rfl
  cases h1 : eqB a b 1 0
  · rw [h1] at e0
    have E := mkHid e0
    clear e0
    have hEq := eql_rng
    have hMx := @run_max_M Try.prog
    have hMn := @run_min_M Try.prog
    go_enter Try.func47, Try.ntmps47
    go_wp2
    go_region_held3 (fun v => v.cell? ⟨w.heap.size, 0, none⟩ = some (.int .i64 a) ∧ v.cell? ⟨w.heap.size, 1, none⟩ = some (.int .i64 b))
      (first | exact ⟨p0, p1⟩ | assumption | exact ⟨(hc _ _ g0).trans p0, (hc _ _ g0).trans p1⟩ | exact ⟨(hc _ _ hz0).trans p0, (hc _ _ hz0).trans p1⟩ | (simp [*, go_sem]; done))
      (first | (go_at_call 27; refine (iNone_any _).mono ?_; rintro e w' ⟨rfl, hb⟩; obtain ⟨hc, hf⟩ := bcell hb; have hz0 : w.heap.size < w'.heap.size := (by have := hb.size; (try simp at this); omega)) | (go_at_call 26; refine (isSome_any _ _ _).mono ?_; rintro e w' ⟨rfl, hb⟩; obtain ⟨hc, hf⟩ := bcell hb; have hz0 : w.heap.size < w'.heap.size := (by have := hb.size; (try simp at this); omega)))
    all_goals
      go_wp2
      go_ret
      exact ⟨ret_bool (E.out.trans (Bool.false_or _)).symm, (by repeat (first | exact Below.refl _ _ | refine bl_set ?_ (by simp <;> omega) _ | refine bl_alloc ?_ _ | refine bl_drew ?_ | refine below_step ?_ (by assumption)))⟩
  · rw [h1] at e0
    have E := mkHid e0
    clear e0
    have hEq := eql_rng
    have hMx := @run_max_M Try.prog
    have hMn := @run_min_M Try.prog
    go_enter Try.func47, Try.ntmps47
    go_wp2
    first | (go_region_with (first | (go_at_call 27; refine (iNone_any _).mono ?_; rintro e w' ⟨rfl, hb⟩; obtain ⟨hc, hf⟩ := bcell hb; have hz0 : w.heap.size < w'.heap.size := (by have := hb.size; (try simp at this); omega)) | (go_at_call 26; refine (isSome_any _ _ _).mono ?_; rintro e w' ⟨rfl, hb⟩; obtain ⟨hc, hf⟩ := bcell hb; have hz0 : w.heap.size < w'.heap.size := (by have := hb.size; (try simp at this); omega)))) | fail
    all_goals
      go_wp2
      go_ret
      exact ⟨ret_bool (E.out.trans (Bool.true_or _)).symm, (by repeat (first | exact Below.refl _ _ | refine bl_set ?_ (by simp <;> omega) _ | refine bl_alloc ?_ _ | refine bl_drew ?_ | refine below_step ?_ (by assumption)))⟩
set_option maxHeartbeats 400000 in
theorem iHas_any (a b x : Int) (w : World) : Calls Try.prog 18 #[.agg #[.int .i64 a, .int .i64 b], .int .i64 x] w fun e w' => e = .returned (.bool (hasB a b x)) ∧ Below w.heap.size w w' := by
  have e0 : hasB a b x = (someB a b && btw x a b) := by rw [Bool.eq_iff_iff]; unfold hasB someB btw; simp; omega
  cases h1 : someB a b <;> cases h2 : btw x a b
  all_goals
    simp only [h1, h2] at e0
    have e1 := mkHid e0
    clear e0
    have hEq := eql_rng
    have hMx := @run_max_M Try.prog
    have hMn := @run_min_M Try.prog
    go_enter Try.func18, Try.ntmps18
    go_wp2_with (first | (go_at_call 26; refine (isSome_any _ _ _).mono ?_; rintro e w' ⟨rfl, hb⟩; obtain ⟨hc, hf⟩ := bcell hb; have hz0 : w.heap.size < w'.heap.size := (by have := hb.size; (try simp at this); omega)) | (go_at_call 38; refine (isBetween_any _ _ _ _).mono ?_; rintro e w' ⟨rfl, rfl⟩))
    go_ret
    exact ⟨ret_bool (by rw [e1.out]; rfl), (by repeat (first | exact Below.refl _ _ | refine bl_set ?_ (by simp <;> omega) _ | refine bl_alloc ?_ _ | refine bl_drew ?_ | refine below_step ?_ (by assumption)))⟩
theorem span_if (a b : Int) : (if b < a then Value.agg #[.int .i64 1, .int .i64 0] else .agg #[.int .i64 a, .int .i64 b]) = .agg #[.int .i64 (spanM a b).1, .int .i64 (spanM a b).2] := by
  unfold spanM; by_cases h : b < a
  · rw [if_pos h, if_pos h]
  · rw [if_neg h, if_neg h]
theorem iSpanM_any (a b : Int) (w : World) : Calls Try.prog 49 #[.int .i64 a, .int .i64 b] w fun e w' => e = .returned (.agg #[.int .i64 (spanM a b).1, .int .i64 (spanM a b).2]) ∧ Below w.heap.size w w' :=
  (iSpan_any a b w).mono fun e w' h => ⟨by rw [h.1, span_if], h.2⟩
set_option maxHeartbeats 400000 in
theorem iCut_any (a b : Int) (w : World) : Calls Try.prog 28 #[.agg #[.int .i64 a, .int .i64 b]] w fun e w' => e = .returned (.agg #[.int .i64 (mkM a b).1, .int .i64 (mkM a b).2]) ∧ Below w.heap.size w w' := by
  have E : Hid (mkM a b = spanM (max a (-1000000)) (min b 1000000)) := mkHid rfl
  have hEq := eql_rng
  have hMx := @run_max_M Try.prog
  have hMn := @run_min_M Try.prog
  go_enter Try.func28, Try.ntmps28
  go_wp2_with (first | (go_at_call 49; refine (iSpanM_any _ _ _).mono ?_; rintro e w' ⟨rfl, hb⟩; obtain ⟨hc, hf⟩ := bcell hb; obtain ⟨hz0, hz1⟩ : w.heap.size < w'.heap.size ∧ w.heap.size + 1 < w'.heap.size := (by have := hb.size; (try simp at this); omega)))
  exact bodyPost_ret (v := .agg #[.int .i64 (spanM (max a (-1000000)) (min b 1000000)).1, .int .i64 (spanM (max a (-1000000)) (min b 1000000)).2]) (by simp [results, Try.results28, go_sem, *]) rfl ⟨ret_rng E.out, (by repeat (first | exact Below.refl _ _ | refine bl_set ?_ (by simp <;> omega) _ | refine bl_alloc ?_ _ | refine bl_drew ?_ | refine below_step ?_ (by assumption)))⟩
set_option maxHeartbeats 400000 in
theorem iNeg_any (a b : Int) (w : World) : Calls Try.prog 13 #[.agg #[.int .i64 a, .int .i64 b]] w fun e w' => e = .returned (.agg #[.int .i64 (negM a b).1, .int .i64 (negM a b).2]) ∧ Below w.heap.size w w' := by
  cases h1 : someB a b
  · have E := mkHid (show negM a b = (1, 0) by unfold negM; rw [h1]; rfl)
    have hEq := eql_rng
    have hMx := @run_max_M Try.prog
    have hMn := @run_min_M Try.prog
    go_enter Try.func13, Try.ntmps13
    go_wp2_with (first | (go_at_call 26; refine (isSome_any _ _ _).mono ?_; rintro e w' ⟨rfl, hb⟩; obtain ⟨hc, hf⟩ := bcell hb; obtain ⟨hz0, hz1⟩ : w.heap.size < w'.heap.size ∧ w.heap.size + 1 < w'.heap.size := (by have := hb.size; (try simp at this); omega)) | (go_at_call 27; refine (iNone_any _).mono ?_; rintro e w' ⟨rfl, hb⟩; obtain ⟨hc, hf⟩ := bcell hb; obtain ⟨hz0, hz1⟩ : w.heap.size < w'.heap.size ∧ w.heap.size + 1 < w'.heap.size := (by have := hb.size; (try simp at this); omega)))
    exact bodyPost_ret (v := .agg #[.int .i64 1, .int .i64 0]) (by simp [results, Try.results13, go_sem, *]) rfl ⟨ret_rng E.out, (by repeat (first | exact Below.refl _ _ | refine bl_set ?_ (by simp <;> omega) _ | refine bl_alloc ?_ _ | refine bl_drew ?_ | refine below_step ?_ (by assumption)))⟩
  · have E := mkHid (show negM a b = (-b, -a) by unfold negM; rw [h1]; rfl)
    obtain ⟨q1, q2, q3⟩ := some_iff.1 h1
    have hEq := eql_rng
    have hMx := @run_max_M Try.prog
    have hMn := @run_min_M Try.prog
    go_enter Try.func13, Try.ntmps13
    go_wp2_with (first | (go_at_call 26; refine (isSome_any _ _ _).mono ?_; rintro e w' ⟨rfl, hb⟩; obtain ⟨hc, hf⟩ := bcell hb; obtain ⟨hz0, hz1⟩ : w.heap.size < w'.heap.size ∧ w.heap.size + 1 < w'.heap.size := (by have := hb.size; (try simp at this); omega)) | (go_at_call 27; refine (iNone_any _).mono ?_; rintro e w' ⟨rfl, hb⟩; obtain ⟨hc, hf⟩ := bcell hb; obtain ⟨hz0, hz1⟩ : w.heap.size < w'.heap.size ∧ w.heap.size + 1 < w'.heap.size := (by have := hb.size; (try simp at this); omega)))
    exact bodyPost_ret (v := .agg #[.int .i64 (-b), .int .i64 (-a)]) (by simp [results, Try.results13, go_sem, *]) rfl ⟨ret_rng E.out, (by repeat (first | exact Below.refl _ _ | refine bl_set ?_ (by simp <;> omega) _ | refine bl_alloc ?_ _ | refine bl_drew ?_ | refine below_step ?_ (by assumption)))⟩
set_option maxHeartbeats 400000 in
theorem iMeet_any (a b c d : Int) (w : World) : Calls Try.prog 42 #[.agg #[.int .i64 a, .int .i64 b], .agg #[.int .i64 c, .int .i64 d]] w fun e w' => e = .returned (.agg #[.int .i64 (meetM a b c d).1, .int .i64 (meetM a b c d).2]) ∧ Below w.heap.size w w' := by
  cases h1 : someB a b <;> cases h2 : someB c d
  case true.true =>
    have E := mkHid (show meetM a b c d = spanM (max a c) (min b d) by unfold meetM bothB; rw [h1, h2]; rfl)
    obtain ⟨q1, q2, q3⟩ := some_iff.1 h1
    obtain ⟨q4, q5, q6⟩ := some_iff.1 h2
    have hEq := eql_rng
    have hMx := @run_max_M Try.prog
    have hMn := @run_min_M Try.prog
    go_enter Try.func42, Try.ntmps42
    go_wp2_with (first | (go_at_call 26; refine (isSome_any _ _ _).mono ?_; rintro e w' ⟨rfl, hb⟩; obtain ⟨hc, hf⟩ := bcell hb; obtain ⟨hz0, hz1, hz2⟩ : w.heap.size < w'.heap.size ∧ w.heap.size + 1 < w'.heap.size ∧ w.heap.size + 2 < w'.heap.size := (by have := hb.size; (try simp at this); omega)) | (go_at_call 27; refine (iNone_any _).mono ?_; rintro e w' ⟨rfl, hb⟩; obtain ⟨hc, hf⟩ := bcell hb; obtain ⟨hz0, hz1, hz2⟩ : w.heap.size < w'.heap.size ∧ w.heap.size + 1 < w'.heap.size ∧ w.heap.size + 2 < w'.heap.size := (by have := hb.size; (try simp at this); omega)) | (go_at_call 49; refine (iSpanM_any _ _ _).mono ?_; rintro e w' ⟨rfl, hb⟩; obtain ⟨hc, hf⟩ := bcell hb; obtain ⟨hz0, hz1, hz2⟩ : w.heap.size < w'.heap.size ∧ w.heap.size + 1 < w'.heap.size ∧ w.heap.size + 2 < w'.heap.size := (by have := hb.size; (try simp at this); omega)) | (go_at_call 28; refine (iCut_any _ _ _).mono ?_; rintro e w' ⟨rfl, hb⟩; obtain ⟨hc, hf⟩ := bcell hb; obtain ⟨hz0, hz1, hz2⟩ : w.heap.size < w'.heap.size ∧ w.heap.size + 1 < w'.heap.size ∧ w.heap.size + 2 < w'.heap.size := (by have := hb.size; (try simp at this); omega)))
    exact bodyPost_ret (v := .agg #[.int .i64 (spanM (max a c) (min b d)).1, .int .i64 (spanM (max a c) (min b d)).2]) (by simp [results, Try.results42, go_sem, *]) rfl ⟨ret_rng E.out, (by repeat (first | exact Below.refl _ _ | refine bl_set ?_ (by simp <;> omega) _ | refine bl_alloc ?_ _ | refine bl_drew ?_ | refine below_step ?_ (by assumption)))⟩
  all_goals
    have E := mkHid (show meetM a b c d = (1, 0) by unfold meetM bothB; rw [h1, h2]; rfl)
    have hEq := eql_rng
    have hMx := @run_max_M Try.prog
    have hMn := @run_min_M Try.prog
    go_enter Try.func42, Try.ntmps42
    go_wp2_with (first | (go_at_call 26; refine (isSome_any _ _ _).mono ?_; rintro e w' ⟨rfl, hb⟩; obtain ⟨hc, hf⟩ := bcell hb; obtain ⟨hz0, hz1, hz2⟩ : w.heap.size < w'.heap.size ∧ w.heap.size + 1 < w'.heap.size ∧ w.heap.size + 2 < w'.heap.size := (by have := hb.size; (try simp at this); omega)) | (go_at_call 27; refine (iNone_any _).mono ?_; rintro e w' ⟨rfl, hb⟩; obtain ⟨hc, hf⟩ := bcell hb; obtain ⟨hz0, hz1, hz2⟩ : w.heap.size < w'.heap.size ∧ w.heap.size + 1 < w'.heap.size ∧ w.heap.size + 2 < w'.heap.size := (by have := hb.size; (try simp at this); omega)) | (go_at_call 49; refine (iSpanM_any _ _ _).mono ?_; rintro e w' ⟨rfl, hb⟩; obtain ⟨hc, hf⟩ := bcell hb; obtain ⟨hz0, hz1, hz2⟩ : w.heap.size < w'.heap.size ∧ w.heap.size + 1 < w'.heap.size ∧ w.heap.size + 2 < w'.heap.size := (by have := hb.size; (try simp at this); omega)) | (go_at_call 28; refine (iCut_any _ _ _).mono ?_; rintro e w' ⟨rfl, hb⟩; obtain ⟨hc, hf⟩ := bcell hb; obtain ⟨hz0, hz1, hz2⟩ : w.heap.size < w'.heap.size ∧ w.heap.size + 1 < w'.heap.size ∧ w.heap.size + 2 < w'.heap.size := (by have := hb.size; (try simp at this); omega)))
    exact bodyPost_ret (v := .agg #[.int .i64 1, .int .i64 0]) (by simp [results, Try.results42, go_sem, *]) rfl ⟨ret_rng E.out, (by repeat (first | exact Below.refl _ _ | refine bl_set ?_ (by simp <;> omega) _ | refine bl_alloc ?_ _ | refine bl_drew ?_ | refine below_step ?_ (by assumption)))⟩
set_option maxHeartbeats 400000 in
theorem iAdd_any (a b c d : Int) (w : World) : Calls Try.prog 7 #[.agg #[.int .i64 a, .int .i64 b], .agg #[.int .i64 c, .int .i64 d]] w fun e w' => e = .returned (.agg #[.int .i64 (addM a b c d).1, .int .i64 (addM a b c d).2]) ∧ Below w.heap.size w w' := by
  cases h1 : someB a b <;> cases h2 : someB c d
  case true.true =>
    have E := mkHid (show addM a b c d = mkM (a + c) (b + d) by unfold addM bothB; rw [h1, h2]; rfl)
    obtain ⟨q1, q2, q3⟩ := some_iff.1 h1
    obtain ⟨q4, q5, q6⟩ := some_iff.1 h2
    have hEq := eql_rng
    have hMx := @run_max_M Try.prog
    have hMn := @run_min_M Try.prog
    go_enter Try.func7, Try.ntmps7
    go_wp2_with (first | (go_at_call 26; refine (isSome_any _ _ _).mono ?_; rintro e w' ⟨rfl, hb⟩; obtain ⟨hc, hf⟩ := bcell hb; obtain ⟨hz0, hz1, hz2⟩ : w.heap.size < w'.heap.size ∧ w.heap.size + 1 < w'.heap.size ∧ w.heap.size + 2 < w'.heap.size := (by have := hb.size; (try simp at this); omega)) | (go_at_call 27; refine (iNone_any _).mono ?_; rintro e w' ⟨rfl, hb⟩; obtain ⟨hc, hf⟩ := bcell hb; obtain ⟨hz0, hz1, hz2⟩ : w.heap.size < w'.heap.size ∧ w.heap.size + 1 < w'.heap.size ∧ w.heap.size + 2 < w'.heap.size := (by have := hb.size; (try simp at this); omega)) | (go_at_call 49; refine (iSpanM_any _ _ _).mono ?_; rintro e w' ⟨rfl, hb⟩; obtain ⟨hc, hf⟩ := bcell hb; obtain ⟨hz0, hz1, hz2⟩ : w.heap.size < w'.heap.size ∧ w.heap.size + 1 < w'.heap.size ∧ w.heap.size + 2 < w'.heap.size := (by have := hb.size; (try simp at this); omega)) | (go_at_call 28; refine (iCut_any _ _ _).mono ?_; rintro e w' ⟨rfl, hb⟩; obtain ⟨hc, hf⟩ := bcell hb; obtain ⟨hz0, hz1, hz2⟩ : w.heap.size < w'.heap.size ∧ w.heap.size + 1 < w'.heap.size ∧ w.heap.size + 2 < w'.heap.size := (by have := hb.size; (try simp at this); omega)))
    exact bodyPost_ret (v := .agg #[.int .i64 (mkM (a + c) (b + d)).1, .int .i64 (mkM (a + c) (b + d)).2]) (by simp [results, Try.results7, go_sem, *]) rfl ⟨ret_rng E.out, (by repeat (first | exact Below.refl _ _ | refine bl_set ?_ (by simp <;> omega) _ | refine bl_alloc ?_ _ | refine bl_drew ?_ | refine below_step ?_ (by assumption)))⟩
  all_goals
    have E := mkHid (show addM a b c d = (1, 0) by unfold addM bothB; rw [h1, h2]; rfl)
    have hEq := eql_rng
    have hMx := @run_max_M Try.prog
    have hMn := @run_min_M Try.prog
    go_enter Try.func7, Try.ntmps7
    go_wp2_with (first | (go_at_call 26; refine (isSome_any _ _ _).mono ?_; rintro e w' ⟨rfl, hb⟩; obtain ⟨hc, hf⟩ := bcell hb; obtain ⟨hz0, hz1, hz2⟩ : w.heap.size < w'.heap.size ∧ w.heap.size + 1 < w'.heap.size ∧ w.heap.size + 2 < w'.heap.size := (by have := hb.size; (try simp at this); omega)) | (go_at_call 27; refine (iNone_any _).mono ?_; rintro e w' ⟨rfl, hb⟩; obtain ⟨hc, hf⟩ := bcell hb; obtain ⟨hz0, hz1, hz2⟩ : w.heap.size < w'.heap.size ∧ w.heap.size + 1 < w'.heap.size ∧ w.heap.size + 2 < w'.heap.size := (by have := hb.size; (try simp at this); omega)) | (go_at_call 49; refine (iSpanM_any _ _ _).mono ?_; rintro e w' ⟨rfl, hb⟩; obtain ⟨hc, hf⟩ := bcell hb; obtain ⟨hz0, hz1, hz2⟩ : w.heap.size < w'.heap.size ∧ w.heap.size + 1 < w'.heap.size ∧ w.heap.size + 2 < w'.heap.size := (by have := hb.size; (try simp at this); omega)) | (go_at_call 28; refine (iCut_any _ _ _).mono ?_; rintro e w' ⟨rfl, hb⟩; obtain ⟨hc, hf⟩ := bcell hb; obtain ⟨hz0, hz1, hz2⟩ : w.heap.size < w'.heap.size ∧ w.heap.size + 1 < w'.heap.size ∧ w.heap.size + 2 < w'.heap.size := (by have := hb.size; (try simp at this); omega)))
    exact bodyPost_ret (v := .agg #[.int .i64 1, .int .i64 0]) (by simp [results, Try.results7, go_sem, *]) rfl ⟨ret_rng E.out, (by repeat (first | exact Below.refl _ _ | refine bl_set ?_ (by simp <;> omega) _ | refine bl_alloc ?_ _ | refine bl_drew ?_ | refine below_step ?_ (by assumption)))⟩
end Go.Proofs.Ytgkmpadeleebdaa
