/-
  PURE: what is said between two bounds; CONTRACTS of the specification's l13Among and the program's saidBetween.
-/
import Derived.Test.YtihpajiololfoaaGreatCc14
import Derived.Test.YtihpajiololfoaaGreatCc15
import Derived.Test.YtihpajiololfoaaGreatCc06
namespace Go.Proofs.YtihpajiololfoaaGreat
open Go.RowKit

/-- The join of so many from one on. -/
def amg (V : List VV) (fr : Nat) : Nat → VV
 | 0 => noneV
 | k + 1 => jv (amg V fr k) (V.getD (fr + k) noneV)
theorem below_set3 {B : Nat} {w v : World} (h : Below B w v) {X : Nat} (hX : B ≤ X) (a b c : Value) : Below B w (((v.setCell ⟨X, 0, none⟩ a).setCell ⟨X, 1, none⟩ b).setCell ⟨X, 2, none⟩ c) := ((h.setCell (p := ⟨X, 0, none⟩) hX a).setCell (p := ⟨X, 1, none⟩) hX b).setCell (p := ⟨X, 2, none⟩) hX c
end Go.Proofs.YtihpajiololfoaaGreat
