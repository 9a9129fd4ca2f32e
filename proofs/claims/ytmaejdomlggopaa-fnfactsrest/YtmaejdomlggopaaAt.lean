/-
  CONTRACT of the specification's FactsAdd.
-/
import Derived.Test.YtmaejdomlggopaaAs
namespace Go.Proofs.Ytmaejdomlggopaa
open Go.RowKit

theorem btw_sym {n : Nat} (i : Int) {k : Int} (hk : (n : Int) - 1 = k) : btw i 0 k = symB i n := by unfold btw symB; rw [decide_eq_decide]; omega
theorem btw_set {n : Nat} (i : Int) {k : Int} (hk : (n : Int) - 1 = k) : btw i 1 k = setB i n := by unfold btw setB; rw [decide_eq_decide]; omega
theorem outZ_some (f : Tab) (n : Nat) : outZ (some f) n = n := rfl
theorem addF_fine (z : Int) (l : List Int) (i j c : Int) : FineO z.toNat (addF z l i j c) := by
  unfold addF
  split
  · rename_i h
    rw [Bool.and_eq_true] at h
    obtain ⟨i', rfl, hi'⟩ := sym_nat h.1
    obtain ⟨j', rfl, hj'⟩ := sym_nat h.2
    exact addO_good (okO_fine z l) (fun f _ => ⟨by simpa using hi', by simpa using hj'⟩) c
  · exact fun f e => by cases e
end Go.Proofs.Ytmaejdomlggopaa
