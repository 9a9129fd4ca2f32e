/-
  CONTRACTS of the specification's l01Number, l01Kind.
-/
import Derived.Test.YtncdhmogkgefaabDoorSpecb
namespace Go.Proofs.YtncdhmogkgefaabDoor
open Go.RowKit
open Pl

theorem val_lt (s : ByteArray) (k : Nat) (h : ∀ j, j < k → digI (byt s j) = true) : val s k < 10 ^ k := by
  induction k with
  | zero => simp [val]
  | succ k ih =>
    have h1 := ih (fun j hj => h j (by omega))
    have h2 := (dig_iff _).1 (h k (by omega))
    rw [Int.pow_succ]
    simp only [val]; omega
theorem val_seven (s : ByteArray) (k : Nat) (hk : k ≤ 7) (h : ∀ j, j < k → digI (byt s j) = true) : val s k < 10000000 := by
  have h1 := val_lt s k h
  have h2 : (10 : Int) ^ k ≤ 10000000 := by
    rcases (by omega : k = 0 ∨ k = 1 ∨ k = 2 ∨ k = 3 ∨ k = 4 ∨ k = 5 ∨ k = 6 ∨ k = 7) with e | e | e | e | e | e | e | e <;> (subst e; decide)
  omega
theorem numV_neg {s : ByteArray} (h : ¬ numP s) : numV s = -1 := numV_no (numB_of (by simp [h]))

end Go.Proofs.YtncdhmogkgefaabDoor
