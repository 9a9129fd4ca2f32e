/-
  CONTRACT of the specification's FactsForget.
-/
import Derived.Test.YtmaejdomlggopaaFi
namespace Go.Proofs.Ytmaejdomlggopaa
open Go.RowKit

theorem free_stepS {n i j : Nat} (f : Tab) (hi : i < n) (hj : j < n) : ((mk n (freeP i j f)).set (i * n + j) (capT i j)).set (j * n + i) (capT j i) = mk n (freeP i (j + 1) f) := by
  rw [mk_set _ hi hj, mk_set _ hj hi]
  refine mk_congr fun a b _ _ => ?_
  unfold freeP
  by_cases h1 : a = j ∧ b = i
  · obtain ⟨rfl, rfl⟩ := h1
    rw [if_pos ⟨rfl, rfl⟩, if_pos (by omega)]
  · rw [if_neg h1]
    by_cases h2 : a = i ∧ b = j
    · obtain ⟨rfl, rfl⟩ := h2
      rw [if_pos ⟨rfl, rfl⟩, if_pos (by omega)]
    · rw [if_neg h2]
      by_cases h3 : a = i ∧ b < j ∨ b = i ∧ a < j
      · rw [if_pos h3, if_pos (by omega)]
      · rw [if_neg h3, if_neg (by omega)]
theorem Fc.drew {w : World} {b : Nat} {z : Int} {a : Option Addr} {n c : Nat} (h : Fc w b z a n c) : Fc w.drew b z a n c := h.below (Below.refl _ _).drew
theorem Fz.drew {w : World} {b : Nat} (h : Fz w b) : Fz w.drew b := h.below (Below.refl _ _).drew
theorem OwnI.drew {w : World} {base : Nat} {v : Value} {l : List Int} (h : OwnI w base v l) : OwnI w.drew base v l := h.below (Below.refl _ _).drew
theorem Gives.shut2 {w w5 : World} {b base : Nat} {ao : Option Addr} {cap : Nat} {l : List Int} (hbel : Below w.heap.size w w5) (hb : w.heap.size ≤ b) (h : OwnI w5 base (.slice ao l.length cap) l) (h5 : b < base) (v0 v1 : Value) :
    OwnI ((w5.setCell ⟨b, 0, none⟩ v0).setCell ⟨b, 1, none⟩ v1) w.heap.size (.slice ao l.length cap) l ∧ Below w.heap.size w ((w5.setCell ⟨b, 0, none⟩ v0).setCell ⟨b, 1, none⟩ v1) := by
  have hlo : ∀ q, Value.ownBlock (.slice ao l.length cap) = some q → some b ≠ some q := fun q hq => some_ne (by have := h.lt hq; omega)
  exact ⟨((h.mono (by omega)).grown (grown_setCell _ ⟨b, 0, none⟩ _) hlo).grown (grown_setCell _ ⟨b, 1, none⟩ _) hlo, (hbel.setCell (p := ⟨b, 0, none⟩) hb _).setCell (p := ⟨b, 1, none⟩) hb _⟩
end Go.Proofs.Ytmaejdomlggopaa
