/-
  CONTRACT of the program's RangeGuard, kind 15.
-/
import Derived.Test.YtgkmpadeleebdaaGd
namespace Go.Proofs.Ytgkmpadeleebdaa
open Go.RowKit
attribute [local go_sem] nlt2 nlt3 nlt4 nle2 nle3 nle4 drew_size drew_cell drew_frozen

set_option maxHeartbeats 1600000 in
theorem iGuard_15 (a b c d : Int) (w : World) (h1 : someB a b = true) (h2 : someB c d = true) : Calls Try.prog 20 #[.int .i64 15, .agg #[.int .i64 a, .int .i64 b], .agg #[.int .i64 c, .int .i64 d]] w fun e w' => e = .returned (.tuple #[.agg #[.int .i64 (((meetM a b c d), (meetM a b c d))).1.1, .int .i64 (((meetM a b c d), (meetM a b c d))).1.2], .agg #[.int .i64 (((meetM a b c d), (meetM a b c d))).2.1, .int .i64 (((meetM a b c d), (meetM a b c d))).2.2]]) ∧ Below w.heap.size w w' := by
  have hEq := eql_rng
  have hMx := @run_max_M Try.prog
  have hMn := @run_min_M Try.prog
  go_enter Try.func20, Try.ntmps20
  go_wp2_with (first | (go_at_call 26; refine (isSome_any _ _ _).mono ?_; rintro e w' ⟨rfl, hb⟩; (try rw [below_drew] at hb); obtain ⟨hc, hf, hm, hs⟩ := bcell4 hb; have hz0 : w.heap.size < w'.heap.size := (by have := hb.size; (try simp at this); omega); have hl0 := Nat.le_of_lt hz0; have hz1 : w.heap.size + 1 < w'.heap.size := (by have := hb.size; (try simp at this); omega); have hl1 := Nat.le_of_lt hz1; have hz2 : w.heap.size + 2 < w'.heap.size := (by have := hb.size; (try simp at this); omega); have hl2 := Nat.le_of_lt hz2; have hz3 : w.heap.size + 3 < w'.heap.size := (by have := hb.size; (try simp at this); omega); have hl3 := Nat.le_of_lt hz3) | (go_at_call 27; refine (iNone_any _).mono ?_; rintro e w' ⟨rfl, hb⟩; (try rw [below_drew] at hb); obtain ⟨hc, hf, hm, hs⟩ := bcell4 hb; have hz0 : w.heap.size < w'.heap.size := (by have := hb.size; (try simp at this); omega); have hl0 := Nat.le_of_lt hz0; have hz1 : w.heap.size + 1 < w'.heap.size := (by have := hb.size; (try simp at this); omega); have hl1 := Nat.le_of_lt hz1; have hz2 : w.heap.size + 2 < w'.heap.size := (by have := hb.size; (try simp at this); omega); have hl2 := Nat.le_of_lt hz2; have hz3 : w.heap.size + 3 < w'.heap.size := (by have := hb.size; (try simp at this); omega); have hl3 := Nat.le_of_lt hz3) | (go_at_call 42; refine (iMeet_any _ _ _ _ _).mono ?_; rintro e wb ⟨rfl, hb⟩; (try rw [below_drew] at hb); obtain ⟨hc, hf, hm, hs⟩ := bcell4 hb; have hz0 : w.heap.size < wb.heap.size := (by have := hb.size; (try simp at this); omega); have hl0 := Nat.le_of_lt hz0; have hz1 : w.heap.size + 1 < wb.heap.size := (by have := hb.size; (try simp at this); omega); have hl1 := Nat.le_of_lt hz1; have hz2 : w.heap.size + 2 < wb.heap.size := (by have := hb.size; (try simp at this); omega); have hl2 := Nat.le_of_lt hz2; have hz3 : w.heap.size + 3 < wb.heap.size := (by have := hb.size; (try simp at this); omega); have hl3 := Nat.le_of_lt hz3; have hn0 : w.heap.size ≠ wb.heap.size := (by omega); have ho0 : wb.heap.size ≠ w.heap.size := (by omega); have hn1 : w.heap.size + 1 ≠ wb.heap.size := (by omega); have ho1 : wb.heap.size ≠ w.heap.size + 1 := (by omega); have hn2 : w.heap.size + 2 ≠ wb.heap.size := (by omega); have ho2 : wb.heap.size ≠ w.heap.size + 2 := (by omega); have hn3 : w.heap.size + 3 ≠ wb.heap.size := (by omega); have ho3 : wb.heap.size ≠ w.heap.size + 3 := (by omega)))
  go_region_held3 (fun v => v.cell? ⟨wb.heap.size, 0, none⟩ = some (.int .i64 (meetM a b c d).1) ∧ v.cell? ⟨wb.heap.size, 1, none⟩ = some (.int .i64 (meetM a b c d).2)) (first | (simp (maxDischargeDepth := 12) [*, go_sem]; done) | assumption) (fail)
  all_goals
    go_wp2_with fail
    go_region_held3 (fun v => v.cell? ⟨w.heap.size, 0, none⟩ = some (.int .i64 (meetM a b c d).1) ∧ v.cell? ⟨w.heap.size, 1, none⟩ = some (.int .i64 (meetM a b c d).2) ∧ v.cell? ⟨w.heap.size + 1, 0, none⟩ = some (.int .i64 (meetM a b c d).1) ∧ v.cell? ⟨w.heap.size + 1, 1, none⟩ = some (.int .i64 (meetM a b c d).2)) (first | (simp (maxDischargeDepth := 12) [*, go_sem]; done) | assumption) (fail)
    all_goals
      go_wp2
      exact bodyPost_ret (v := .tuple #[.agg #[.int .i64 (meetM a b c d).1, .int .i64 (meetM a b c d).2], .agg #[.int .i64 (meetM a b c d).1, .int .i64 (meetM a b c d).2]]) (by simp [results, Try.results20, go_sem, *]) rfl ⟨rfl, (by repeat (first | (with_reducible refine bl_set2 ?_ ?_ _; (first | (simp; done) | (simp [*]; done) | (simp [*] <;> omega))) | with_reducible refine bl_drew ?_ | with_reducible refine bl_alloc ?_ _ | with_reducible refine below_step ?_ (by assumption) | with_reducible assumption | with_reducible exact Below.refl _ _))⟩
end Go.Proofs.Ytgkmpadeleebdaa
