/-
  CONTRACTS of both RangeMeets and of the specification's RangeLeq.
-/
import Derived.Test.YtgkmpadeleebdaaDoorQIjm
import Derived.Test.YtgkmpadeleebdaaDoorQSpb
import Derived.Test.YtgkmpadeleebdaaDoorQGd
namespace Go.Proofs.YtgkmpadeleebdaaDoor.Q
open Go.RowKit

set_option maxHeartbeats 400000 in
theorem iSpan_any (a b : Int) (w : World) : Calls Tryd.prog 26 #[.int .i64 a, .int .i64 b] w fun e w' => e = .returned (if b < a then .agg #[.int .i64 1, .int .i64 0] else .agg #[.int .i64 a, .int .i64 b]) ∧ Below w.heap.size w w' := by
  by_cases h : b < a
  · rw [if_pos h]
    go_enter Tryd.func26, Tryd.ntmps26
    go_wp2_with (go_at_call 23; refine (iNone_any _).mono ?_; rintro e w1 ⟨rfl, hb1⟩; obtain ⟨hc1, hf1⟩ := bcell hb1)
    exact bodyPost_ret (v := .agg #[.int .i64 1, .int .i64 0]) (by simp [results, Tryd.results26, go_sem, hc1]) rfl ⟨rfl, ((((Below.refl _ _).alloc (Nat.le_refl _) _).trans (hb1.mono (by simp))).setCell (by simp) _).setCell (by simp) _⟩
  · rw [if_neg h]
    go_enter Tryd.func26, Tryd.ntmps26
    go_wp2
    exact bodyPost_ret (v := .agg #[.int .i64 a, .int .i64 b]) (by simp [results, Tryd.results26, go_sem]) rfl ⟨rfl, (Below.refl _ _).alloc (Nat.le_refl _) _⟩
set_option maxHeartbeats 800000 in
theorem sBoth_any (a b c d : Int) (w : World) : Calls Tryd.prog 35 #[.agg #[.int .i64 a, .int .i64 b], .agg #[.int .i64 c, .int .i64 d]] w fun e w' => e = .returned (.bool (bothB a b c d)) ∧ Below w.heap.size w w' := by
  have e0 : bothB a b c d = ((okB a b && isB a b) && (okB c d && isB c d)) := by unfold bothB; rw [some_ok, some_ok]
  cases h1 : okB a b <;> cases h2 : okB c d <;> cases h3 : isB a b <;> cases h4 : isB c d
  all_goals
    simp only [h1, h2, h3, h4] at e0
    have e1 := mkHid e0
    clear e0
    go_enter Tryd.func35, Tryd.ntmps35
    go_wp2_with (first | (go_at_call 13; refine (sOk_any _ _ _).mono ?_; rintro e w' ⟨rfl, hb⟩; obtain ⟨hc, hf⟩ := bcell hb; obtain ⟨hz0, hz1⟩ : w.heap.size < w'.heap.size ∧ w.heap.size + 1 < w'.heap.size := by have := hb.size; (try simp at this); omega) | (go_at_call 31; refine (sIs_any _ _ _).mono ?_; rintro e w' ⟨rfl, hb⟩; obtain ⟨hc, hf⟩ := bcell hb; obtain ⟨hz0, hz1⟩ : w.heap.size < w'.heap.size ∧ w.heap.size + 1 < w'.heap.size := by have := hb.size; (try simp at this); omega))
    go_ret
    exact ⟨ret_bool (by rw [e1.out]; first | rfl | simp [*] | (simp; omega)), (by repeat (first | exact Below.refl _ _ | refine bl_set ?_ (by simp) _ | refine bl_alloc ?_ _ | refine bl_drew ?_ | refine below_step ?_ (by assumption)))⟩
set_option maxHeartbeats 800000 in
theorem sLeq_any (a b c d : Int) (w : World) : Calls Tryd.prog 15 #[.agg #[.int .i64 a, .int .i64 b], .agg #[.int .i64 c, .int .i64 d]] w fun e w' => e = .returned (.bool (leqB a b c d)) ∧ Below w.heap.size w w' := by
  have e0 : leqB a b c d = (okB a b && (okB c d && (!isB a b || (decide (c ≤ a) && decide (b ≤ d))))) := by unfold leqB; rw [Bool.decide_and]
  cases h1 : okB a b <;> cases h2 : okB c d <;> cases h3 : isB a b <;> by_cases h4 : c ≤ a <;> by_cases h5 : b ≤ d
  all_goals
    simp only [h1, h2, h3, h4, h5, decide_true, decide_false] at e0
    have e1 := mkHid e0
    clear e0
    go_enter Tryd.func15, Tryd.ntmps15
    go_wp2_with (first | (go_at_call 13; refine (sOk_any _ _ _).mono ?_; rintro e w' ⟨rfl, hb⟩; obtain ⟨hc, hf⟩ := bcell hb; obtain ⟨hz0, hz1⟩ : w.heap.size < w'.heap.size ∧ w.heap.size + 1 < w'.heap.size := by have := hb.size; (try simp at this); omega) | (go_at_call 31; refine (sIs_any _ _ _).mono ?_; rintro e w' ⟨rfl, hb⟩; obtain ⟨hc, hf⟩ := bcell hb; obtain ⟨hz0, hz1⟩ : w.heap.size < w'.heap.size ∧ w.heap.size + 1 < w'.heap.size := by have := hb.size; (try simp at this); omega))
    go_ret
    exact ⟨ret_bool (by rw [e1.out]; first | rfl | simp [*] | (simp; omega)), (by repeat (first | exact Below.refl _ _ | refine bl_set ?_ (by simp) _ | refine bl_alloc ?_ _ | refine bl_drew ?_ | refine below_step ?_ (by assumption)))⟩
theorem iSpanM_any (a b : Int) (w : World) : Calls Tryd.prog 26 #[.int .i64 a, .int .i64 b] w fun e w' => e = .returned (.agg #[.int .i64 (spanM a b).1, .int .i64 (spanM a b).2]) ∧ Below w.heap.size w w' :=
  (iSpan_any a b w).mono fun e w' h => ⟨by rw [h.1, span_if], h.2⟩
set_option maxHeartbeats 400000 in
theorem iMeet_any (a b c d : Int) (w : World) : Calls Tryd.prog 8 #[.agg #[.int .i64 a, .int .i64 b], .agg #[.int .i64 c, .int .i64 d]] w fun e w' => e = .returned (.agg #[.int .i64 (meetM a b c d).1, .int .i64 (meetM a b c d).2]) ∧ Below w.heap.size w w' := by
  cases h1 : someB a b <;> cases h2 : someB c d
  case true.true =>
    have E := mkHid (show meetM a b c d = spanM (max a c) (min b d) by unfold meetM bothB; rw [h1, h2]; rfl)
    obtain ⟨q1, q2, q3⟩ := some_iff.1 h1
    obtain ⟨q4, q5, q6⟩ := some_iff.1 h2
    have hEq := eql_rng
    have hMx := @run_max_M Tryd.prog
    have hMn := @run_min_M Tryd.prog
    go_enter Tryd.func8, Tryd.ntmps8
    go_wp2_with (first | (go_at_call 25; refine (isSome_any _ _ _).mono ?_; rintro e w' ⟨rfl, hb⟩; obtain ⟨hc, hf⟩ := bcell hb; obtain ⟨hz0, hz1, hz2⟩ : w.heap.size < w'.heap.size ∧ w.heap.size + 1 < w'.heap.size ∧ w.heap.size + 2 < w'.heap.size := (by have := hb.size; (try simp at this); omega)) | (go_at_call 23; refine (iNone_any _).mono ?_; rintro e w' ⟨rfl, hb⟩; obtain ⟨hc, hf⟩ := bcell hb; obtain ⟨hz0, hz1, hz2⟩ : w.heap.size < w'.heap.size ∧ w.heap.size + 1 < w'.heap.size ∧ w.heap.size + 2 < w'.heap.size := (by have := hb.size; (try simp at this); omega)) | (go_at_call 26; refine (iSpanM_any _ _ _).mono ?_; rintro e w' ⟨rfl, hb⟩; obtain ⟨hc, hf⟩ := bcell hb; obtain ⟨hz0, hz1, hz2⟩ : w.heap.size < w'.heap.size ∧ w.heap.size + 1 < w'.heap.size ∧ w.heap.size + 2 < w'.heap.size := (by have := hb.size; (try simp at this); omega)))
    exact bodyPost_ret (v := .agg #[.int .i64 (spanM (max a c) (min b d)).1, .int .i64 (spanM (max a c) (min b d)).2]) (by simp [results, Tryd.results8, go_sem, *]) rfl ⟨ret_rng E.out, (by repeat (first | exact Below.refl _ _ | refine bl_set ?_ (by simp <;> omega) _ | refine bl_alloc ?_ _ | refine bl_drew ?_ | refine below_step ?_ (by assumption)))⟩
  all_goals
    have E := mkHid (show meetM a b c d = (1, 0) by unfold meetM bothB; rw [h1, h2]; rfl)
    have hEq := eql_rng
    have hMx := @run_max_M Tryd.prog
    have hMn := @run_min_M Tryd.prog
    go_enter Tryd.func8, Tryd.ntmps8
    go_wp2_with (first | (go_at_call 25; refine (isSome_any _ _ _).mono ?_; rintro e w' ⟨rfl, hb⟩; obtain ⟨hc, hf⟩ := bcell hb; obtain ⟨hz0, hz1, hz2⟩ : w.heap.size < w'.heap.size ∧ w.heap.size + 1 < w'.heap.size ∧ w.heap.size + 2 < w'.heap.size := (by have := hb.size; (try simp at this); omega)) | (go_at_call 23; refine (iNone_any _).mono ?_; rintro e w' ⟨rfl, hb⟩; obtain ⟨hc, hf⟩ := bcell hb; obtain ⟨hz0, hz1, hz2⟩ : w.heap.size < w'.heap.size ∧ w.heap.size + 1 < w'.heap.size ∧ w.heap.size + 2 < w'.heap.size := (by have := hb.size; (try simp at this); omega)) | (go_at_call 26; refine (iSpanM_any _ _ _).mono ?_; rintro e w' ⟨rfl, hb⟩; obtain ⟨hc, hf⟩ := bcell hb; obtain ⟨hz0, hz1, hz2⟩ : w.heap.size < w'.heap.size ∧ w.heap.size + 1 < w'.heap.size ∧ w.heap.size + 2 < w'.heap.size := (by have := hb.size; (try simp at this); omega)))
    exact bodyPost_ret (v := .agg #[.int .i64 1, .int .i64 0]) (by simp [results, Tryd.results8, go_sem, *]) rfl ⟨ret_rng E.out, (by repeat (first | exact Below.refl _ _ | refine bl_set ?_ (by simp <;> omega) _ | refine bl_alloc ?_ _ | refine bl_drew ?_ | refine below_step ?_ (by assumption)))⟩
set_option maxHeartbeats 800000 in
theorem sMeet_any (a b c d : Int) (w : World) : Calls Tryd.prog 11 #[.agg #[.int .i64 a, .int .i64 b], .agg #[.int .i64 c, .int .i64 d]] w fun e w' => e = .returned (.agg #[.int .i64 (meetM a b c d).1, .int .i64 (meetM a b c d).2]) ∧ Below w.heap.size w w' := by
  cases h1 : bothB a b c d
  · have E := mkHid (show meetM a b c d = (1, 0) by unfold meetM; rw [h1]; rfl)
    go_enter Tryd.func11, Tryd.ntmps11
    go_wp2_with (first | (go_at_call 35; refine (sBoth_any _ _ _ _ _).mono ?_; rintro e w' ⟨rfl, hb⟩; obtain ⟨hc, hf⟩ := bcell hb; obtain ⟨hz0, hz1, hz2⟩ : w.heap.size < w'.heap.size ∧ w.heap.size + 1 < w'.heap.size ∧ w.heap.size + 2 < w'.heap.size := (by have := hb.size; (try simp at this); omega)) | (go_at_call 30; refine (sNone_any _).mono ?_; rintro e w' ⟨rfl, hb⟩; obtain ⟨hc, hf⟩ := bcell hb; obtain ⟨hz0, hz1, hz2⟩ : w.heap.size < w'.heap.size ∧ w.heap.size + 1 < w'.heap.size ∧ w.heap.size + 2 < w'.heap.size := (by have := hb.size; (try simp at this); omega)))
    exact bodyPost_ret (v := .agg #[.int .i64 1, .int .i64 0]) (by simp [results, Tryd.results11, go_sem, *]) rfl ⟨ret_rng E.out, (by repeat (first | exact Below.refl _ _ | refine bl_set ?_ (by simp <;> omega) _ | refine bl_alloc ?_ _ | refine bl_drew ?_ | refine below_step ?_ (by assumption)))⟩
  · have E := mkHid (show meetM a b c d = mkM (max a c) (min b d) by unfold meetM; rw [if_pos h1]; have := both_iff.1 h1; unfold mkM spanM; by_cases h : min b d < max a c; rw [if_pos h, if_pos (by omega)]; rw [if_neg h, if_neg (by omega)]; congr 1 <;> omega)
    go_enter Tryd.func11, Tryd.ntmps11
    go_wp2_with (first | (go_at_call 35; refine (sBoth_any _ _ _ _ _).mono ?_; rintro e w' ⟨rfl, hb⟩; obtain ⟨hc, hf⟩ := bcell hb; obtain ⟨hz0, hz1, hz2⟩ : w.heap.size < w'.heap.size ∧ w.heap.size + 1 < w'.heap.size ∧ w.heap.size + 2 < w'.heap.size := (by have := hb.size; (try simp at this); omega)))
    have p0 : w'.cell? ⟨w.heap.size, 0, none⟩ = some (.int .i64 a) := by simp [go_sem, *]
    have p1 : w'.cell? ⟨w.heap.size, 1, none⟩ = some (.int .i64 b) := by simp [go_sem, *]
    have p2 : w'.cell? ⟨w.heap.size + 1, 0, none⟩ = some (.int .i64 c) := by simp [go_sem, *]
    have p3 : w'.cell? ⟨w.heap.size + 1, 1, none⟩ = some (.int .i64 d) := by simp [go_sem, *]
    have g0 := hz0
    have g1 := hz1
    have g2 := hz2
    have c0 : w'.cell? ⟨w.heap.size + 2, 0, none⟩ = some (.int .i64 0) := by simp [go_sem, *]
    have c1 : w'.cell? ⟨w.heap.size + 2, 1, none⟩ = some (.int .i64 0) := by simp [go_sem, *]
    have f0 : w'.frozen? ⟨w.heap.size + 2, 0, none⟩ = false := by simp [go_sem, *]
    have f1 : w'.frozen? ⟨w.heap.size + 2, 1, none⟩ = false := by simp [go_sem, *]
    go_region_held3 (fun v => v.cell? ⟨w.heap.size, 0, none⟩ = some (.int .i64 a) ∧ v.cell? ⟨w.heap.size, 1, none⟩ = some (.int .i64 b) ∧ v.cell? ⟨w.heap.size + 1, 0, none⟩ = some (.int .i64 c) ∧ v.cell? ⟨w.heap.size + 1, 1, none⟩ = some (.int .i64 d))
      (first | exact ⟨p0, p1, p2, p3⟩ | assumption | exact ⟨(hc _ _ g0).trans p0, (hc _ _ g0).trans p1, (hc _ _ g1).trans p2, (hc _ _ g1).trans p3⟩ | (simp [*, go_sem]; done))
      (first | (go_at_call 33; refine (sMin_any _ _ _).mono ?_; rintro e w' ⟨rfl, rfl⟩) | (go_at_call 34; refine (sMax_any _ _ _).mono ?_; rintro e w' ⟨rfl, rfl⟩) | (go_at_call 32; refine (sMake_any _ _ _).mono ?_; rintro e w' ⟨rfl, hb⟩; obtain ⟨hc, hf⟩ := bcell hb; obtain ⟨hz0, hz1, hz2⟩ : w.heap.size < w'.heap.size ∧ w.heap.size + 1 < w'.heap.size ∧ w.heap.size + 2 < w'.heap.size := (by have := hb.size; (try simp at this); omega); have r0 := (hc _ _ g2).trans c0; have r1 := (hc _ _ g2).trans c1; have s0 := (hf _ _ g2).trans f0; have s1 := (hf _ _ g2).trans f1))
    all_goals
      go_wp2
      exact bodyPost_ret (v := .agg #[.int .i64 (mkM (max a c) (min b d)).1, .int .i64 (mkM (max a c) (min b d)).2]) (by simp [results, Tryd.results11, go_sem, *]) rfl ⟨ret_rng E.out, (by repeat (first | exact Below.refl _ _ | refine bl_set ?_ (by simp <;> omega) _ | refine bl_alloc ?_ _ | refine bl_drew ?_ | refine below_step ?_ (by assumption)))⟩
end Go.Proofs.YtgkmpadeleebdaaDoor.Q
