/-
  CONTRACT of the program's RangeMul.
-/
import Derived.Test.YtgkmpadeleebdaaIjn
namespace Go.Proofs.Ytgkmpadeleebdaa
open Go.RowKit
attribute [local go_sem] nlt2 nlt3 nlt4 nle2 nle3 nle4 drew_size drew_cell drew_frozen

set_option maxHeartbeats 4000000 in
theorem iMul_any (a b c d : Int) (w : World) : Calls Try.prog 9 #[.agg #[.int .i64 a, .int .i64 b], .agg #[.int .i64 c, .int .i64 d]] w fun e w' => e = .returned (.agg #[.int .i64 (mulM a b c d).1, .int .i64 (mulM a b c d).2]) ∧ Below w.heap.size w w' := by
  cases h1 : someB a b <;> cases h2 : someB c d
  case true.true =>
    have E := mkHid (show mulM a b c d = mkM (joinL [(a * c, a * c), (a * d, a * d), (b * c, b * c), (b * d, b * d)]).1 (joinL [(a * c, a * c), (a * d, a * d), (b * c, b * c), (b * d, b * d)]).2 by unfold mulM bothB; rw [h1, h2, joinL4]; rfl)
    obtain ⟨q1, q2, q3⟩ := some_iff.1 h1
    obtain ⟨q4, q5, q6⟩ := some_iff.1 h2
    obtain ⟨m1, m2⟩ := mul_bd q1 (by omega) q4 (by omega : c ≤ 1000000)
    obtain ⟨m3, m4⟩ := mul_bd q1 (by omega) (by omega : -1000000 ≤ d) q6
    obtain ⟨m5, m6⟩ := mul_bd (by omega : -1000000 ≤ b) q3 q4 (by omega : c ≤ 1000000)
    obtain ⟨m7, m8⟩ := mul_bd (by omega : -1000000 ≤ b) q3 (by omega : -1000000 ≤ d) q6
    have e1 : IntKind.i64.wrap (a * c) = a * c := by rw [IntKind.wrap_i64]; omega
    have e2 : IntKind.i64.wrap (a * d) = a * d := by rw [IntKind.wrap_i64]; omega
    have e3 : IntKind.i64.wrap (b * c) = b * c := by rw [IntKind.wrap_i64]; omega
    have e4 : IntKind.i64.wrap (b * d) = b * d := by rw [IntKind.wrap_i64]; omega
    have hEq := eql_rng
    have hMx := @run_max_M Try.prog
    have hMn := @run_min_M Try.prog
    go_enter Try.func9, Try.ntmps9
    go_wp2_with (first | (go_at_call 26; refine (isSome_any _ _ _).mono ?_; rintro e w' ⟨rfl, hb⟩; (try rw [below_drew] at hb); obtain ⟨hc, hf, hm, hs⟩ := bcell4 hb; have hz0 : w.heap.size < w'.heap.size := (by have := hb.size; (try simp at this); omega); have hl0 := Nat.le_of_lt hz0; have hz1 : w.heap.size + 1 < w'.heap.size := (by have := hb.size; (try simp at this); omega); have hl1 := Nat.le_of_lt hz1; have hz2 : w.heap.size + 2 < w'.heap.size := (by have := hb.size; (try simp at this); omega); have hl2 := Nat.le_of_lt hz2) | (go_at_call 27; refine (iNone_any _).mono ?_; rintro e w' ⟨rfl, hb⟩; (try rw [below_drew] at hb); obtain ⟨hc, hf, hm, hs⟩ := bcell4 hb; have hz0 : w.heap.size < w'.heap.size := (by have := hb.size; (try simp at this); omega); have hl0 := Nat.le_of_lt hz0; have hz1 : w.heap.size + 1 < w'.heap.size := (by have := hb.size; (try simp at this); omega); have hl1 := Nat.le_of_lt hz1; have hz2 : w.heap.size + 2 < w'.heap.size := (by have := hb.size; (try simp at this); omega); have hl2 := Nat.le_of_lt hz2))
    go_region_held3 (fun v => v.cell? ⟨w.heap.size, 0, none⟩ = some (.int .i64 a) ∧ v.cell? ⟨w.heap.size, 1, none⟩ = some (.int .i64 b) ∧ v.cell? ⟨w.heap.size + 1, 0, none⟩ = some (.int .i64 c) ∧ v.cell? ⟨w.heap.size + 1, 1, none⟩ = some (.int .i64 d)) (first | assumption | (simp (maxDischargeDepth := 12) [*, go_sem]; done)) (first | (go_at_call 30; refine (iOne_any _ _).mono ?_; rintro e w' ⟨rfl, hb⟩; (try rw [below_drew] at hb); obtain ⟨hc, hf, hm, hs⟩ := bcell4 hb; have hz0 : w.heap.size < w'.heap.size := (by have := hb.size; (try simp at this); omega); have hl0 := Nat.le_of_lt hz0; have hz1 : w.heap.size + 1 < w'.heap.size := (by have := hb.size; (try simp at this); omega); have hl1 := Nat.le_of_lt hz1; have hz2 : w.heap.size + 2 < w'.heap.size := (by have := hb.size; (try simp at this); omega); have hl2 := Nat.le_of_lt hz2) | (go_at_call 29; refine (joinOf4 (a * c) (a * d) (b * c) (b * d) _ _ _ (by (simp (maxDischargeDepth := 12) [*, go_sem]; done)) (by (simp (maxDischargeDepth := 12) [*, go_sem]; done)) (by (simp (maxDischargeDepth := 12) [*, go_sem]; done)) (by (simp (maxDischargeDepth := 12) [*, go_sem]; done)) (by (simp (maxDischargeDepth := 12) [*, go_sem]; done)) (by (simp (maxDischargeDepth := 12) [*, go_sem]; done)) (by (simp (maxDischargeDepth := 12) [*, go_sem]; done)) (by (simp (maxDischargeDepth := 12) [*, go_sem]; done))).mono ?_; rintro e w' ⟨rfl, hb⟩; (try rw [below_drew] at hb); obtain ⟨hc, hf, hm, hs⟩ := bcell4 hb; have hz0 : w.heap.size < w'.heap.size := (by have := hb.size; (try simp at this); omega); have hl0 := Nat.le_of_lt hz0; have hz1 : w.heap.size + 1 < w'.heap.size := (by have := hb.size; (try simp at this); omega); have hl1 := Nat.le_of_lt hz1; have hz2 : w.heap.size + 2 < w'.heap.size := (by have := hb.size; (try simp at this); omega); have hl2 := Nat.le_of_lt hz2) | (go_at_call 28; refine (iCut_any _ _ _).mono ?_; rintro e w' ⟨rfl, hb⟩; (try rw [below_drew] at hb); obtain ⟨hc, hf, hm, hs⟩ := bcell4 hb; have hz0 : w.heap.size < w'.heap.size := (by have := hb.size; (try simp at this); omega); have hl0 := Nat.le_of_lt hz0; have hz1 : w.heap.size + 1 < w'.heap.size := (by have := hb.size; (try simp at this); omega); have hl1 := Nat.le_of_lt hz1; have hz2 : w.heap.size + 2 < w'.heap.size := (by have := hb.size; (try simp at this); omega); have hl2 := Nat.le_of_lt hz2))
    all_goals
      go_wp2
      exact bodyPost_ret (v := .agg #[.int .i64 (mkM (joinL [(a * c, a * c), (a * d, a * d), (b * c, b * c), (b * d, b * d)]).1 (joinL [(a * c, a * c), (a * d, a * d), (b * c, b * c), (b * d, b * d)]).2).1, .int .i64 (mkM (joinL [(a * c, a * c), (a * d, a * d), (b * c, b * c), (b * d, b * d)]).1 (joinL [(a * c, a * c), (a * d, a * d), (b * c, b * c), (b * d, b * d)]).2).2]) (by simp [results, Try.results9, go_sem, *]) rfl ⟨ret_rng E.out, (by repeat (first | assumption | exact Below.refl _ _ | refine bl_set ?_ (by first | (simp; done) | (simp [*]; done) | (simp (maxDischargeDepth := 12) [*, go_sem]; done) | (simp [*] <;> omega)) _ | refine bl_alloc ?_ _ | refine bl_drew ?_ | refine below_step ?_ (by assumption)))⟩
  all_goals
    have E := mkHid (show mulM a b c d = (1, 0) by unfold mulM bothB; rw [h1, h2]; rfl)
    have hEq := eql_rng
    have hMx := @run_max_M Try.prog
    have hMn := @run_min_M Try.prog
    go_enter Try.func9, Try.ntmps9
    go_wp2_with (first | (go_at_call 26; refine (isSome_any _ _ _).mono ?_; rintro e w' ⟨rfl, hb⟩; (try rw [below_drew] at hb); obtain ⟨hc, hf, hm, hs⟩ := bcell4 hb; have hz0 : w.heap.size < w'.heap.size := (by have := hb.size; (try simp at this); omega); have hl0 := Nat.le_of_lt hz0; have hz1 : w.heap.size + 1 < w'.heap.size := (by have := hb.size; (try simp at this); omega); have hl1 := Nat.le_of_lt hz1; have hz2 : w.heap.size + 2 < w'.heap.size := (by have := hb.size; (try simp at this); omega); have hl2 := Nat.le_of_lt hz2) | (go_at_call 27; refine (iNone_any _).mono ?_; rintro e w' ⟨rfl, hb⟩; (try rw [below_drew] at hb); obtain ⟨hc, hf, hm, hs⟩ := bcell4 hb; have hz0 : w.heap.size < w'.heap.size := (by have := hb.size; (try simp at this); omega); have hl0 := Nat.le_of_lt hz0; have hz1 : w.heap.size + 1 < w'.heap.size := (by have := hb.size; (try simp at this); omega); have hl1 := Nat.le_of_lt hz1; have hz2 : w.heap.size + 2 < w'.heap.size := (by have := hb.size; (try simp at this); omega); have hl2 := Nat.le_of_lt hz2))
    exact bodyPost_ret (v := .agg #[.int .i64 1, .int .i64 0]) (by simp [results, Try.results9, go_sem, *]) rfl ⟨ret_rng E.out, (by repeat (first | assumption | exact Below.refl _ _ | refine bl_set ?_ (by first | (simp; done) | (simp [*]; done) | (simp (maxDischargeDepth := 12) [*, go_sem]; done) | (simp [*] <;> omega)) _ | refine bl_alloc ?_ _ | refine bl_drew ?_ | refine below_step ?_ (by assumption)))⟩
end Go.Proofs.Ytgkmpadeleebdaa
