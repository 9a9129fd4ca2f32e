/-
  CONTRACTS of the program's RangeLeq, RangeMul.
-/
import Derived.Test.YtgkmpadeleebdaaDoorQIjn
namespace Go.Proofs.YtgkmpadeleebdaaDoor.Q
open Go.RowKit
attribute [local go_sem] nlt2 nlt3 nlt4 nle2 nle3 nle4 drew_size drew_cell drew_frozen

set_option maxRecDepth 100000 in
set_option maxHeartbeats 1600000 in
theorem iLeq_any (a b c d : Int) (w : World) : Calls Tryd.prog 14 #[.agg #[.int .i64 a, .int .i64 b], .agg #[.int .i64 c, .int .i64 d]] w fun e w' => e = .returned (.bool (leqB a b c d)) ∧ Below w.heap.size w w' := by
  have hund : undef = Value.tuple #[] := rfl
  cases h1 : okB a b
  · have E := mkHid (show leqB a b c d = false by unfold leqB; rw [h1]; rfl)
    have hEq := eql_rng
    have hMx := @run_max_M Tryd.prog
    have hMn := @run_min_M Tryd.prog
    go_enter Tryd.func14, Tryd.ntmps14
    go_wp2
    first | (go_region_with (first | (go_at_call 22; refine (iOk_any _ _ _).mono ?_; rintro e w' ⟨rfl, hb⟩; (try rw [below_drew] at hb); obtain ⟨hc, hf, hm, hs⟩ := bcell4 hb; have hz0 : w.heap.size < w'.heap.size := (by have := hb.size; (try simp at this); omega); have hl0 := Nat.le_of_lt hz0; have hz1 : w.heap.size + 1 < w'.heap.size := (by have := hb.size; (try simp at this); omega); have hl1 := Nat.le_of_lt hz1) | (go_at_call 24; refine (joinOf2 a b c d _ _ _ (by (simp (maxDischargeDepth := 12) [*, go_sem]; done)) (by (simp (maxDischargeDepth := 12) [*, go_sem]; done)) (by (simp (maxDischargeDepth := 12) [*, go_sem]; done)) (by (simp (maxDischargeDepth := 12) [*, go_sem]; done))).mono ?_; rintro e w' ⟨rfl, hb⟩; (try rw [below_drew] at hb); obtain ⟨hc, hf, hm, hs⟩ := bcell4 hb; have hz0 : w.heap.size < w'.heap.size := (by have := hb.size; (try simp at this); omega); have hl0 := Nat.le_of_lt hz0; have hz1 : w.heap.size + 1 < w'.heap.size := (by have := hb.size; (try simp at this); omega); have hl1 := Nat.le_of_lt hz1))) | fail
    all_goals
      go_wp2
      go_ret
      exact ⟨ret_bool E.out.symm, (by repeat (first | assumption | exact Below.refl _ _ | refine bl_set ?_ (by first | (simp; done) | (simp [*]; done) | (simp (maxDischargeDepth := 12) [*, go_sem]; done) | (simp [*] <;> omega)) _ | refine bl_alloc ?_ _ | refine bl_drew ?_ | refine below_step ?_ (by assumption)))⟩
  · cases h2 : okB c d
    · have E := mkHid (show leqB a b c d = false by unfold leqB; rw [h1, h2]; rfl)
      have hEq := eql_rng
      have hMx := @run_max_M Tryd.prog
      have hMn := @run_min_M Tryd.prog
      go_enter Tryd.func14, Tryd.ntmps14
      go_wp2
      first | (go_region_with (first | (go_at_call 22; refine (iOk_any _ _ _).mono ?_; rintro e w' ⟨rfl, hb⟩; (try rw [below_drew] at hb); obtain ⟨hc, hf, hm, hs⟩ := bcell4 hb; have hz0 : w.heap.size < w'.heap.size := (by have := hb.size; (try simp at this); omega); have hl0 := Nat.le_of_lt hz0; have hz1 : w.heap.size + 1 < w'.heap.size := (by have := hb.size; (try simp at this); omega); have hl1 := Nat.le_of_lt hz1) | (go_at_call 24; refine (joinOf2 a b c d _ _ _ (by (simp (maxDischargeDepth := 12) [*, go_sem]; done)) (by (simp (maxDischargeDepth := 12) [*, go_sem]; done)) (by (simp (maxDischargeDepth := 12) [*, go_sem]; done)) (by (simp (maxDischargeDepth := 12) [*, go_sem]; done))).mono ?_; rintro e w' ⟨rfl, hb⟩; (try rw [below_drew] at hb); obtain ⟨hc, hf, hm, hs⟩ := bcell4 hb; have hz0 : w.heap.size < w'.heap.size := (by have := hb.size; (try simp at this); omega); have hl0 := Nat.le_of_lt hz0; have hz1 : w.heap.size + 1 < w'.heap.size := (by have := hb.size; (try simp at this); omega); have hl1 := Nat.le_of_lt hz1))) | fail
      all_goals
        go_wp2
        go_ret
        exact ⟨ret_bool E.out.symm, (by repeat (first | assumption | exact Below.refl _ _ | refine bl_set ?_ (by first | (simp; done) | (simp [*]; done) | (simp (maxDischargeDepth := 12) [*, go_sem]; done) | (simp [*] <;> omega)) _ | refine bl_alloc ?_ _ | refine bl_drew ?_ | refine below_step ?_ (by assumption)))⟩
    · have E := mkHid (leq_join h1 h2)
      have hEq := eql_rng
      have hMx := @run_max_M Tryd.prog
      have hMn := @run_min_M Tryd.prog
      go_enter Tryd.func14, Tryd.ntmps14
      go_wp2
      go_region_held3 (fun v => v.cell? ⟨w.heap.size, 0, none⟩ = some (.int .i64 a) ∧ v.cell? ⟨w.heap.size, 1, none⟩ = some (.int .i64 b) ∧ v.cell? ⟨w.heap.size + 1, 0, none⟩ = some (.int .i64 c) ∧ v.cell? ⟨w.heap.size + 1, 1, none⟩ = some (.int .i64 d)) (first | assumption | (simp (maxDischargeDepth := 12) [*, go_sem]; done)) (first | (go_at_call 22; refine (iOk_any _ _ _).mono ?_; rintro e w' ⟨rfl, hb⟩; (try rw [below_drew] at hb); obtain ⟨hc, hf, hm, hs⟩ := bcell4 hb; have hz0 : w.heap.size < w'.heap.size := (by have := hb.size; (try simp at this); omega); have hl0 := Nat.le_of_lt hz0; have hz1 : w.heap.size + 1 < w'.heap.size := (by have := hb.size; (try simp at this); omega); have hl1 := Nat.le_of_lt hz1) | (go_at_call 24; refine (joinOf2 a b c d _ _ _ (by (simp (maxDischargeDepth := 12) [*, go_sem]; done)) (by (simp (maxDischargeDepth := 12) [*, go_sem]; done)) (by (simp (maxDischargeDepth := 12) [*, go_sem]; done)) (by (simp (maxDischargeDepth := 12) [*, go_sem]; done))).mono ?_; rintro e w' ⟨rfl, hb⟩; (try rw [below_drew] at hb); obtain ⟨hc, hf, hm, hs⟩ := bcell4 hb; have hz0 : w.heap.size < w'.heap.size := (by have := hb.size; (try simp at this); omega); have hl0 := Nat.le_of_lt hz0; have hz1 : w.heap.size + 1 < w'.heap.size := (by have := hb.size; (try simp at this); omega); have hl1 := Nat.le_of_lt hz1))
      all_goals
        go_wp2
        go_ret
        exact ⟨ret_bool E.out.symm, (by repeat (first | assumption | exact Below.refl _ _ | refine bl_set ?_ (by first | (simp; done) | (simp [*]; done) | (simp (maxDischargeDepth := 12) [*, go_sem]; done) | (simp [*] <;> omega)) _ | refine bl_alloc ?_ _ | refine bl_drew ?_ | refine below_step ?_ (by assumption)))⟩
end Go.Proofs.YtgkmpadeleebdaaDoor.Q
