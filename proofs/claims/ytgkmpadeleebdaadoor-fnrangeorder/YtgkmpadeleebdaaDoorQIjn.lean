/-
  CONTRACTS of the program's RangeJoin, RangeLeq, RangeSub, RangeMul.
-/
import Derived.Test.YtgkmpadeleebdaaDoorQJo
import Derived.Test.YtgkmpadeleebdaaDoorQIp
import Derived.Test.YtgkmpadeleebdaaDoorQSpb
namespace Go.Proofs.YtgkmpadeleebdaaDoor.Q
open Go.RowKit
attribute [local go_sem] nlt2 nlt3 nlt4 nle2 nle3 nle4 drew_size drew_cell drew_frozen

theorem joinOf2 (a b c d : Int) (k m : Nat) (w : World) (h0 : w.cell? ⟨k, 0, none⟩ = some (.int .i64 a)) (h1 : w.cell? ⟨k, 1, none⟩ = some (.int .i64 b)) (h2 : w.cell? ⟨k, 2, none⟩ = some (.int .i64 c)) (h3 : w.cell? ⟨k, 3, none⟩ = some (.int .i64 d)) :
    Calls Tryd.prog 24 #[.slice (some ⟨k, 0, none⟩) 2 m] w fun e w' => e = .returned (.agg #[.int .i64 (joinL [(a, b), (c, d)]).1, .int .i64 (joinL [(a, b), (c, d)]).2]) ∧ Below w.heap.size w w' :=
  joinOf_of [(a, b), (c, d)] k 0 m w (by simp) (fun i r hi => by
    match i, hi with
    | 0, hi => obtain rfl := Option.some.inj hi; exact ⟨h0, h1⟩
    | 1, hi => obtain rfl := Option.some.inj hi; exact ⟨h2, h3⟩
    | n + 2, hi => simp at hi)
theorem joinOf4 (a b c d : Int) (k m : Nat) (w : World) (h0 : w.cell? ⟨k, 0, none⟩ = some (.int .i64 a)) (h1 : w.cell? ⟨k, 1, none⟩ = some (.int .i64 a)) (h2 : w.cell? ⟨k, 2, none⟩ = some (.int .i64 b)) (h3 : w.cell? ⟨k, 3, none⟩ = some (.int .i64 b)) (h4 : w.cell? ⟨k, 4, none⟩ = some (.int .i64 c)) (h5 : w.cell? ⟨k, 5, none⟩ = some (.int .i64 c)) (h6 : w.cell? ⟨k, 6, none⟩ = some (.int .i64 d)) (h7 : w.cell? ⟨k, 7, none⟩ = some (.int .i64 d)) :
    Calls Tryd.prog 24 #[.slice (some ⟨k, 0, none⟩) 4 m] w fun e w' => e = .returned (.agg #[.int .i64 (joinL [(a, a), (b, b), (c, c), (d, d)]).1, .int .i64 (joinL [(a, a), (b, b), (c, c), (d, d)]).2]) ∧ Below w.heap.size w w' :=
  joinOf_of [(a, a), (b, b), (c, c), (d, d)] k 0 m w (by simp) (fun i r hi => by
    match i, hi with
    | 0, hi => obtain rfl := Option.some.inj hi; exact ⟨h0, h1⟩
    | 1, hi => obtain rfl := Option.some.inj hi; exact ⟨h2, h3⟩
    | 2, hi => obtain rfl := Option.some.inj hi; exact ⟨h4, h5⟩
    | 3, hi => obtain rfl := Option.some.inj hi; exact ⟨h6, h7⟩
    | n + 4, hi => simp at hi)
theorem eq_none {a b : Int} : eqB a b 1 0 = true ↔ a = 1 ∧ b = 0 := by unfold eqB; simp
theorem eq_not {a b : Int} : eqB a b 1 0 = false ↔ ¬ (a = 1 ∧ b = 0) := by unfold eqB; simp
theorem ok_eq {a b : Int} (h : okB a b = true) : isB a b = !eqB a b 1 0 := by
  have := ok_iff.1 h
  cases h1 : eqB a b 1 0
  · have := eq_not.1 h1
    exact is_iff.2 (by omega)
  · have := eq_none.1 h1
    cases h2 : isB a b
    · rfl
    · have := is_iff.1 h2; omega
theorem joinL2 {a b c d : Int} (h1 : okB a b = true) (h2 : okB c d = true) : joinL [(a, b), (c, d)] = joinM a b c d := by
  have e1 := ok_eq h1
  have e2 := ok_eq h2
  have n : eqB 1 0 1 0 = true := by decide
  unfold joinM
  rw [h1, h2, e1, e2]
  show joinStep (joinStep (1, 0) (a, b)) (c, d) = _
  cases h3 : eqB a b 1 0
  · have s : joinStep (1, 0) (a, b) = (a, b) := by simp [joinStep, h3, n]
    rw [s]
    cases h4 : eqB c d 1 0 <;> simp [joinStep, h3, h4]
  · have s : joinStep (1, 0) (a, b) = (1, 0) := by simp [joinStep, h3]
    have q := eq_none.1 h3
    rw [s]
    cases h4 : eqB c d 1 0
    · simp [joinStep, n, h4]
    · have := eq_none.1 h4
      simp [joinStep, this]
theorem leq_join {a b c d : Int} (h1 : okB a b = true) (h2 : okB c d = true) : leqB a b c d = eqB (joinL [(a, b), (c, d)]).1 (joinL [(a, b), (c, d)]).2 c d := by
  have i1 := ok_iff.1 h1
  have i2 := ok_iff.1 h2
  rw [joinL2 h1 h2]
  unfold leqB joinM
  rw [h1, h2]
  cases h3 : isB a b
  · simp [eqB]
  · have k3 := is_iff.1 h3
    cases h4 : isB c d
    · have k4 : ¬ c ≤ d := fun h => by rw [is_iff.2 h] at h4; cases h4
      rw [Bool.eq_iff_iff]
      simp [eqB]
      omega
    · have k4 := is_iff.1 h4
      rw [Bool.eq_iff_iff]
      simp [eqB]
      omega
theorem joinL4 (p q r s : Int) : joinL [(p, p), (q, q), (r, r), (s, s)] = (min (min p q) (min r s), max (max p q) (max r s)) := by
  have e : ∀ x : Int, eqB x x 1 0 = false := fun x => eq_not.2 (by omega)
  have n : eqB 1 0 1 0 = true := by decide
  have t : ∀ x y z : Int, x ≤ y → joinStep (x, y) (z, z) = (min x z, max y z) := fun x y z h => by
    have : eqB x y 1 0 = false := eq_not.2 (by omega)
    simp [joinStep, e, this]
  show joinStep (joinStep (joinStep (joinStep (1, 0) (p, p)) (q, q)) (r, r)) (s, s) = _
  have s0 : joinStep (1, 0) (p, p) = (p, p) := by simp [joinStep, e, n]
  rw [s0, t p p q (by omega), t (min p q) (max p q) r (by omega), t (min (min p q) r) (max (max p q) r) s (by omega)]
  refine Prod.ext ?_ ?_ <;> (simp only; omega)

set_option maxRecDepth 100000 in
set_option maxHeartbeats 1600000 in
theorem iJoin_any (a b c d : Int) (w : World) : Calls Tryd.prog 7 #[.agg #[.int .i64 a, .int .i64 b], .agg #[.int .i64 c, .int .i64 d]] w fun e w' => e = .returned (.agg #[.int .i64 (joinM a b c d).1, .int .i64 (joinM a b c d).2]) ∧ Below w.heap.size w w' := by
  cases h1 : okB a b
  · have E := mkHid (show joinM a b c d = (1, 0) by unfold joinM; rw [h1]; rfl)
    have hEq := eql_rng
    have hMx := @run_max_M Tryd.prog
    have hMn := @run_min_M Tryd.prog
    go_enter Tryd.func7, Tryd.ntmps7
    go_wp2_with (first | (go_at_call 22; refine (iOk_any _ _ _).mono ?_; rintro e w' ⟨rfl, hb⟩; (try rw [below_drew] at hb); obtain ⟨hc, hf, hm, hs⟩ := bcell4 hb; have hz0 : w.heap.size < w'.heap.size := (by have := hb.size; (try simp at this); omega); have hl0 := Nat.le_of_lt hz0; have hz1 : w.heap.size + 1 < w'.heap.size := (by have := hb.size; (try simp at this); omega); have hl1 := Nat.le_of_lt hz1; have hz2 : w.heap.size + 2 < w'.heap.size := (by have := hb.size; (try simp at this); omega); have hl2 := Nat.le_of_lt hz2) | (go_at_call 23; refine (iNone_any _).mono ?_; rintro e w' ⟨rfl, hb⟩; (try rw [below_drew] at hb); obtain ⟨hc, hf, hm, hs⟩ := bcell4 hb; have hz0 : w.heap.size < w'.heap.size := (by have := hb.size; (try simp at this); omega); have hl0 := Nat.le_of_lt hz0; have hz1 : w.heap.size + 1 < w'.heap.size := (by have := hb.size; (try simp at this); omega); have hl1 := Nat.le_of_lt hz1; have hz2 : w.heap.size + 2 < w'.heap.size := (by have := hb.size; (try simp at this); omega); have hl2 := Nat.le_of_lt hz2) | (go_at_call 24; refine (joinOf2 a b c d _ _ _ (by (simp (maxDischargeDepth := 12) [*, go_sem]; done)) (by (simp (maxDischargeDepth := 12) [*, go_sem]; done)) (by (simp (maxDischargeDepth := 12) [*, go_sem]; done)) (by (simp (maxDischargeDepth := 12) [*, go_sem]; done))).mono ?_; rintro e w' ⟨rfl, hb⟩; (try rw [below_drew] at hb); obtain ⟨hc, hf, hm, hs⟩ := bcell4 hb; have hz0 : w.heap.size < w'.heap.size := (by have := hb.size; (try simp at this); omega); have hl0 := Nat.le_of_lt hz0; have hz1 : w.heap.size + 1 < w'.heap.size := (by have := hb.size; (try simp at this); omega); have hl1 := Nat.le_of_lt hz1; have hz2 : w.heap.size + 2 < w'.heap.size := (by have := hb.size; (try simp at this); omega); have hl2 := Nat.le_of_lt hz2))
    exact bodyPost_ret (v := .agg #[.int .i64 1, .int .i64 0]) (by simp [results, Tryd.results7, go_sem, *]) rfl ⟨ret_rng E.out, (by repeat (first | assumption | exact Below.refl _ _ | refine bl_set ?_ (by first | (simp; done) | (simp [*]; done) | (simp (maxDischargeDepth := 12) [*, go_sem]; done) | (simp [*] <;> omega)) _ | refine bl_alloc ?_ _ | refine bl_drew ?_ | refine below_step ?_ (by assumption)))⟩
  · cases h2 : okB c d
    · have E := mkHid (show joinM a b c d = (1, 0) by unfold joinM; rw [h1, h2]; rfl)
      have hEq := eql_rng
      have hMx := @run_max_M Tryd.prog
      have hMn := @run_min_M Tryd.prog
      go_enter Tryd.func7, Tryd.ntmps7
      go_wp2_with (first | (go_at_call 22; refine (iOk_any _ _ _).mono ?_; rintro e w' ⟨rfl, hb⟩; (try rw [below_drew] at hb); obtain ⟨hc, hf, hm, hs⟩ := bcell4 hb; have hz0 : w.heap.size < w'.heap.size := (by have := hb.size; (try simp at this); omega); have hl0 := Nat.le_of_lt hz0; have hz1 : w.heap.size + 1 < w'.heap.size := (by have := hb.size; (try simp at this); omega); have hl1 := Nat.le_of_lt hz1; have hz2 : w.heap.size + 2 < w'.heap.size := (by have := hb.size; (try simp at this); omega); have hl2 := Nat.le_of_lt hz2) | (go_at_call 23; refine (iNone_any _).mono ?_; rintro e w' ⟨rfl, hb⟩; (try rw [below_drew] at hb); obtain ⟨hc, hf, hm, hs⟩ := bcell4 hb; have hz0 : w.heap.size < w'.heap.size := (by have := hb.size; (try simp at this); omega); have hl0 := Nat.le_of_lt hz0; have hz1 : w.heap.size + 1 < w'.heap.size := (by have := hb.size; (try simp at this); omega); have hl1 := Nat.le_of_lt hz1; have hz2 : w.heap.size + 2 < w'.heap.size := (by have := hb.size; (try simp at this); omega); have hl2 := Nat.le_of_lt hz2) | (go_at_call 24; refine (joinOf2 a b c d _ _ _ (by (simp (maxDischargeDepth := 12) [*, go_sem]; done)) (by (simp (maxDischargeDepth := 12) [*, go_sem]; done)) (by (simp (maxDischargeDepth := 12) [*, go_sem]; done)) (by (simp (maxDischargeDepth := 12) [*, go_sem]; done))).mono ?_; rintro e w' ⟨rfl, hb⟩; (try rw [below_drew] at hb); obtain ⟨hc, hf, hm, hs⟩ := bcell4 hb; have hz0 : w.heap.size < w'.heap.size := (by have := hb.size; (try simp at this); omega); have hl0 := Nat.le_of_lt hz0; have hz1 : w.heap.size + 1 < w'.heap.size := (by have := hb.size; (try simp at this); omega); have hl1 := Nat.le_of_lt hz1; have hz2 : w.heap.size + 2 < w'.heap.size := (by have := hb.size; (try simp at this); omega); have hl2 := Nat.le_of_lt hz2))
      exact bodyPost_ret (v := .agg #[.int .i64 1, .int .i64 0]) (by simp [results, Tryd.results7, go_sem, *]) rfl ⟨ret_rng E.out, (by repeat (first | assumption | exact Below.refl _ _ | refine bl_set ?_ (by first | (simp; done) | (simp [*]; done) | (simp (maxDischargeDepth := 12) [*, go_sem]; done) | (simp [*] <;> omega)) _ | refine bl_alloc ?_ _ | refine bl_drew ?_ | refine below_step ?_ (by assumption)))⟩
    · have E := mkHid (joinL2 h1 h2).symm
      have hEq := eql_rng
      have hMx := @run_max_M Tryd.prog
      have hMn := @run_min_M Tryd.prog
      go_enter Tryd.func7, Tryd.ntmps7
      go_wp2_with (first | (go_at_call 22; refine (iOk_any _ _ _).mono ?_; rintro e w' ⟨rfl, hb⟩; (try rw [below_drew] at hb); obtain ⟨hc, hf, hm, hs⟩ := bcell4 hb; have hz0 : w.heap.size < w'.heap.size := (by have := hb.size; (try simp at this); omega); have hl0 := Nat.le_of_lt hz0; have hz1 : w.heap.size + 1 < w'.heap.size := (by have := hb.size; (try simp at this); omega); have hl1 := Nat.le_of_lt hz1; have hz2 : w.heap.size + 2 < w'.heap.size := (by have := hb.size; (try simp at this); omega); have hl2 := Nat.le_of_lt hz2) | (go_at_call 23; refine (iNone_any _).mono ?_; rintro e w' ⟨rfl, hb⟩; (try rw [below_drew] at hb); obtain ⟨hc, hf, hm, hs⟩ := bcell4 hb; have hz0 : w.heap.size < w'.heap.size := (by have := hb.size; (try simp at this); omega); have hl0 := Nat.le_of_lt hz0; have hz1 : w.heap.size + 1 < w'.heap.size := (by have := hb.size; (try simp at this); omega); have hl1 := Nat.le_of_lt hz1; have hz2 : w.heap.size + 2 < w'.heap.size := (by have := hb.size; (try simp at this); omega); have hl2 := Nat.le_of_lt hz2) | (go_at_call 24; refine (joinOf2 a b c d _ _ _ (by (simp (maxDischargeDepth := 12) [*, go_sem]; done)) (by (simp (maxDischargeDepth := 12) [*, go_sem]; done)) (by (simp (maxDischargeDepth := 12) [*, go_sem]; done)) (by (simp (maxDischargeDepth := 12) [*, go_sem]; done))).mono ?_; rintro e w' ⟨rfl, hb⟩; (try rw [below_drew] at hb); obtain ⟨hc, hf, hm, hs⟩ := bcell4 hb; have hz0 : w.heap.size < w'.heap.size := (by have := hb.size; (try simp at this); omega); have hl0 := Nat.le_of_lt hz0; have hz1 : w.heap.size + 1 < w'.heap.size := (by have := hb.size; (try simp at this); omega); have hl1 := Nat.le_of_lt hz1; have hz2 : w.heap.size + 2 < w'.heap.size := (by have := hb.size; (try simp at this); omega); have hl2 := Nat.le_of_lt hz2))
      exact bodyPost_ret (v := .agg #[.int .i64 (joinL [(a, b), (c, d)]).1, .int .i64 (joinL [(a, b), (c, d)]).2]) (by simp [results, Tryd.results7, go_sem, *]) rfl ⟨ret_rng E.out, (by repeat (first | assumption | exact Below.refl _ _ | refine bl_set ?_ (by first | (simp; done) | (simp [*]; done) | (simp (maxDischargeDepth := 12) [*, go_sem]; done) | (simp [*] <;> omega)) _ | refine bl_alloc ?_ _ | refine bl_drew ?_ | refine below_step ?_ (by assumption)))⟩
theorem sub_add (a b c d : Int) : addM a b (negM c d).1 (negM c d).2 = subM a b c d := by
  unfold addM subM negM bothB
  cases h1 : someB a b
  · simp
  · cases h2 : someB c d
    · simp; intro h; have := some_iff.1 h; omega
    · have q := some_iff.1 h2
      have : someB (-d) (-c) = true := some_iff.2 (by omega)
      simp only [if_true, this, Bool.and_self]
      rw [show a + -d = a - d by omega, show b + -c = b - c by omega]
end Go.Proofs.YtgkmpadeleebdaaDoor.Q
