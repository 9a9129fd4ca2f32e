/-
  CONTRACT of the program's freed.
-/
import Derived.Test.YtmaejdomlggopaaAd
namespace Go.Proofs.Ytmaejdomlggopaa
open Go.RowKit

/-- The first u of what is said of symbol i are the caps. -/
def freeP (i u : Nat) (f : Tab) : Tab := fun a b => if a = i ∧ b < u ∨ b = i ∧ a < u then capT a b else f a b
def freeT (i : Nat) (f : Tab) : Tab := fun a b => if a = i ∨ b = i then capT a b else f a b
theorem freeP_none (i : Nat) (f : Tab) : freeP i 0 f = f := by
  funext a b
  unfold freeP
  rw [if_neg (by omega)]
theorem freeP_all {n i : Nat} (f : Tab) {a b : Nat} (ha : a < n) (hb : b < n) : freeP i n f a b = freeT i f a b := by
  unfold freeP freeT
  by_cases h : a = i ∨ b = i
  · rw [if_pos (by omega), if_pos h]
  · rw [if_neg (by omega), if_neg h]
theorem free_step {n i j : Nat} (hn : n ≤ 13) (f : Tab) (hi : i < n) (hj : j < n) : ((grid n (freeP i j f)).set (i * 13 + j) (capT i j)).set (j * 13 + i) (capT j i) = grid n (freeP i (j + 1) f) := by
  rw [grid_set hn _ hi hj, grid_set hn _ hj hi]
  refine grid_congr hn fun a b _ _ => ?_
  unfold freeP
  by_cases h1 : a = j ∧ b = i
  · obtain ⟨rfl, rfl⟩ := h1
    rw [if_pos ⟨rfl, rfl⟩, if_pos (by omega)]
  · rw [if_neg h1]
    by_cases h2 : a = i ∧ b = j
    · obtain ⟨rfl, rfl⟩ := h2
      rw [if_pos ⟨rfl, rfl⟩, if_pos (by omega)]
    · rw [if_neg h2]
      by_cases h3 : a = i ∧ b < j ∨ b = i ∧ a < j
      · rw [if_pos h3, if_pos (by omega)]
      · rw [if_neg h3, if_neg (by omega)]
end Go.Proofs.Ytmaejdomlggopaa
