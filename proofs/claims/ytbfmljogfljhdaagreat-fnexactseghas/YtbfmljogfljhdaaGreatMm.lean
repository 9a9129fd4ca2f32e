/-
  CONTRACTS of the law's marks: what is written.
-/
import Derived.Test.YtbfmljogfljhdaaGreatRm
namespace Go.Proofs.YtbfmljogfljhdaaGreat
open Go.RowKit

/-- The flags that the law writes. -/
def m3 (k : Int) : Bool := decide (k % 3 = 0)
theorem ret_int' {k : IntKind} {a b : Int} (h : a = b) : Ending.returned (.int k a) = .returned (.int k b) := by rw [h]
theorem tmod3 {k : Int} (h : 0 ≤ k) : (k.tmod 3 == 0) = m3 k := by unfold m3; rw [Int.tmod_eq_emod_of_nonneg h]; rfl
def marksY (k0 : Int) (n : Nat) : List Y := (List.range n).map fun (k : Nat) => (k0 + (k : Int) * 2, k0 + (k : Int) * 2 + 1)
theorem marksY_len (k0 : Int) (n : Nat) : (marksY k0 n).length = n := by simp [marksY]
theorem marksY_get {k0 : Int} {n k : Nat} (h : k < n) : (marksY k0 n)[k]? = some (k0 + (k : Int) * 2, k0 + (k : Int) * 2 + 1) := by simp [marksY, h]
def marksV (k0 : Int) (n : Nat) : List VV := (List.range n).map fun (k : Nat) => (k0 + (k : Int) * 3, k0 + (k : Int) * 3 + 1, m3 (k0 + (k : Int) * 3 + 1 + 1))
theorem marksV_len (k0 : Int) (n : Nat) : (marksV k0 n).length = n := by simp [marksV]
theorem marksV_get {k0 : Int} {n k : Nat} (h : k < n) : (marksV k0 n)[k]? = some (k0 + (k : Int) * 3, k0 + (k : Int) * 3 + 1, m3 (k0 + (k : Int) * 3 + 1 + 1)) := by simp [marksV, h]
def marksB (k0 : Int) (n : Nat) : List Bool := (List.range n).map fun (k : Nat) => (m3 (k0 + (k : Int)))
theorem marksB_len (k0 : Int) (n : Nat) : (marksB k0 n).length = n := by simp [marksB]
theorem marksB_get {k0 : Int} {n k : Nat} (h : k < n) : (marksB k0 n)[k]? = some (m3 (k0 + (k : Int))) := by simp [marksB, h]
end Go.Proofs.YtbfmljogfljhdaaGreat
