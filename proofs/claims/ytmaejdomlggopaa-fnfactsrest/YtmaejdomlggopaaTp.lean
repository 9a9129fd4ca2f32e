/-
  CONTRACT of the program's FactsTop.
-/
import Derived.Test.YtmaejdomlggopaaFi
namespace Go.Proofs.Ytmaejdomlggopaa
open Go.RowKit

def topO (z : Int) : Option Tab := if btw z 1 13 then some capT else none
theorem topO_fine (z : Int) : FineO z.toNat (topO z) := fun f e => by
  unfold topO at e
  split at e
  · rename_i h
    have h := of_decide_eq_true h
    cases e
    exact ⟨by omega, by omega, fun i j _ _ => ⟨by have := cap_le i j; omega, Int.le_refl _, fun e => if_pos e⟩⟩
  · cases e
def topP (u : Nat) : Tab := fun a b => if a < u ∨ b < u then capT a b else 0
theorem topP_zero (n : Nat) : grid n (topP 0) = zs := by
  apply List.ext_getElem?
  intro p
  by_cases hp : p < 169
  · have e : p / 13 * 13 + p % 13 = p := by omega
    have h4 := grid_at (n := n) (f := topP 0) (i := p / 13) (j := p % 13) (by omega) (by omega)
    rw [e] at h4
    rw [h4, zs, List.getElem?_replicate, if_pos hp]
    simp [topP]
  · rw [List.getElem?_eq_none (by rw [grid_len]; omega), List.getElem?_eq_none (by rw [zs_len]; omega)]
theorem topP_next {n : Nat} (hn : n ≤ 13) (u : Nat) : grid n (freeT u (topP u)) = grid n (topP (u + 1)) := grid_congr hn fun a b _ _ => by
  unfold freeT topP
  by_cases h : a = u ∨ b = u
  · rw [if_pos h, if_pos (by omega)]
  · rw [if_neg h]
    by_cases h2 : a < u ∨ b < u
    · rw [if_pos h2, if_pos (by omega)]
    · rw [if_neg h2, if_neg (by omega)]
theorem topP_all {n : Nat} (hn : n ≤ 13) : grid n (topP n) = grid n capT := grid_congr hn fun _ _ ha _ => if_pos (.inl ha)
end Go.Proofs.Ytmaejdomlggopaa
