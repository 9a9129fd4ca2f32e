/-
  MODELS of the functions on ranges (plain), CONTRACTS of the specification's.
-/
import Derived.Test.YtgkmpadeleebdaaDoorLeaf
namespace Go.Proofs.YtgkmpadeleebdaaDoor
open Go.RowKit

theorem below_step {w a b : World} (h : Below w.heap.size w a) (hb : Below a.heap.size a b) : Below w.heap.size w b := h.trans (hb.mono h.size)
theorem bl_alloc {w a : World} (h : Below w.heap.size w a) (o : Obj) : Below w.heap.size w (a.alloc o) := h.alloc h.size o
theorem bl_set {w a : World} {p : Addr} (h : Below w.heap.size w a) (hp : w.heap.size ≤ p.block) (u : Value) : Below w.heap.size w (a.setCell p u) := h.setCell hp u
theorem bl_drew {w a : World} (h : Below w.heap.size w a) : Below w.heap.size w a.drew := h.drew
theorem ret_rng {p : Int × Int} {x y : Int} (h : p = (x, y)) : Ending.returned (.agg #[.int .i64 x, .int .i64 y]) = .returned (.agg #[.int .i64 p.1, .int .i64 p.2]) := by rw [h]

/-- A range between two ends, none where there is no number between. -/
def spanM (a b : Int) : Int × Int := if b < a then (1, 0) else (a, b)
/-- .. cut down to the bounds. -/
def mkM (a b : Int) : Int × Int := spanM (max a (-1000000)) (min b 1000000)
def hasB (a b x : Int) : Bool := decide (-1000000 ≤ a ∧ a ≤ b ∧ b ≤ 1000000 ∧ a ≤ x ∧ x ≤ b)
def leqB (a b c d : Int) : Bool := okB a b && (okB c d && (!isB a b || decide (c ≤ a ∧ b ≤ d)))
def bothB (a b c d : Int) : Bool := someB a b && someB c d
def joinM (a b c d : Int) : Int × Int := if okB a b && okB c d then (if isB a b then (if isB c d then (min a c, max b d) else (a, b)) else (c, d)) else (1, 0)
def meetM (a b c d : Int) : Int × Int := if bothB a b c d then spanM (max a c) (min b d) else (1, 0)
def negM (a b : Int) : Int × Int := if someB a b then (-b, -a) else (1, 0)
def addM (a b c d : Int) : Int × Int := if bothB a b c d then mkM (a + c) (b + d) else (1, 0)
def subM (a b c d : Int) : Int × Int := if bothB a b c d then mkM (a - d) (b - c) else (1, 0)
def mulM (a b c d : Int) : Int × Int := if bothB a b c d then mkM (min (min (a * c) (a * d)) (min (b * c) (b * d))) (max (max (a * c) (a * d)) (max (b * c) (b * d))) else (1, 0)
theorem some_iff {a b : Int} : someB a b = true ↔ -1000000 ≤ a ∧ a ≤ b ∧ b ≤ 1000000 := by unfold someB; simp
theorem ok_iff {a b : Int} : okB a b = true ↔ (a = 1 ∧ b = 0 ∨ -1000000 ≤ a ∧ a ≤ b ∧ b ≤ 1000000) := by unfold okB; simp
theorem is_iff {a b : Int} : isB a b = true ↔ a ≤ b := by unfold isB; simp
theorem some_ok {a b : Int} : someB a b = (okB a b && isB a b) := by
  rw [Bool.eq_iff_iff, Bool.and_eq_true, some_iff, ok_iff, is_iff]; omega
theorem both_iff {a b c d : Int} : bothB a b c d = true ↔ (-1000000 ≤ a ∧ a ≤ b ∧ b ≤ 1000000) ∧ (-1000000 ≤ c ∧ c ≤ d ∧ d ≤ 1000000) := by unfold bothB; rw [Bool.and_eq_true, some_iff, some_iff]

set_option maxHeartbeats 400000 in
theorem sOk_any (a b : Int) (w : World) : Calls Tryd.prog 13 #[.agg #[.int .i64 a, .int .i64 b]] w fun e w' => e = .returned (.bool (okB a b)) ∧ Below w.heap.size w w' := by
  by_cases hn : a = 1 ∧ b = 0
  · obtain ⟨rfl, rfl⟩ := hn
    go_enter Tryd.func13, Tryd.ntmps13
    go_wp2
    go_ret
    exact ⟨ret_bool (by decide), (by repeat (first | exact Below.refl _ _ | refine bl_set ?_ (by simp) _ | refine bl_alloc ?_ _ | refine bl_drew ?_ | refine below_step ?_ (by assumption)))⟩
  · have e0 : okB a b = (isB a b && (valB a && valB b)) := by
      rw [Bool.eq_iff_iff]; unfold okB isB valB; simp; omega
    by_cases h4 : a = 1
    · subst h4
      have h5 : ¬ b = 0 := fun e => hn ⟨rfl, e⟩
      clear hn
      cases h1 : isB 1 b <;> cases h3 : valB b
      all_goals
        simp only [h1, h3] at e0
        have e1 := mkHid e0
        clear e0
        have h2 : valB 1 = true := by decide
        go_enter Tryd.func13, Tryd.ntmps13
        go_wp2_with (first | (go_at_call 31; refine (sIs_any _ _ _).mono ?_; rintro e w' ⟨rfl, hb⟩; obtain ⟨hc, hf⟩ := bcell hb; have hz0 : w.heap.size < w'.heap.size := by have := hb.size; (try simp at this); omega) | (go_at_call 37; refine (sVal_any _ _).mono ?_; rintro e w' ⟨rfl, rfl⟩))
        go_ret
        exact ⟨ret_bool (by rw [e1.out]; first | rfl | simp [*] | (simp; omega)), (by repeat (first | exact Below.refl _ _ | refine bl_set ?_ (by simp) _ | refine bl_alloc ?_ _ | refine bl_drew ?_ | refine below_step ?_ (by assumption)))⟩
    · clear hn
      cases h1 : isB a b <;> cases h2 : valB a <;> cases h3 : valB b
      all_goals
        simp only [h1, h2, h3] at e0
        have e1 := mkHid e0
        clear e0
        go_enter Tryd.func13, Tryd.ntmps13
        go_wp2_with (first | (go_at_call 31; refine (sIs_any _ _ _).mono ?_; rintro e w' ⟨rfl, hb⟩; obtain ⟨hc, hf⟩ := bcell hb; have hz0 : w.heap.size < w'.heap.size := by have := hb.size; (try simp at this); omega) | (go_at_call 37; refine (sVal_any _ _).mono ?_; rintro e w' ⟨rfl, rfl⟩))
        go_ret
        exact ⟨ret_bool (by rw [e1.out]; first | rfl | simp [*] | (simp; omega)), (by repeat (first | exact Below.refl _ _ | refine bl_set ?_ (by simp) _ | refine bl_alloc ?_ _ | refine bl_drew ?_ | refine below_step ?_ (by assumption)))⟩
end Go.Proofs.YtgkmpadeleebdaaDoor
