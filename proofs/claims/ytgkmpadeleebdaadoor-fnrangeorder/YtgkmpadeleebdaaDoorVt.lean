/-
  CONTRACTS of both ValTexts, and of taking a Val over.
-/
import Derived.Test.YtgkmpadeleebdaaDoorRtt
namespace Go.Proofs.YtgkmpadeleebdaaDoor
open Go.RowKit

def orB : ByteArray := ⟨#[32, 111, 114, 32, 117, 110, 119, 114, 105, 116, 116, 101, 110]⟩
theorem ba_empty {t : ByteArray} (h : t.toList.isEmpty = true) : t = ⟨#[]⟩ := by
  have h1 : t.data.toList = [] := by simpa [ByteArray.toList_eq] using h
  apply ByteArray.ext
  exact Array.toList_inj.1 h1
def textV (a b : Int) (s : Bool) : ByteArray := if okB a b then (if s then textM a b else textM a b ++ orB) else ⟨#[]⟩
theorem textM_no {a b : Int} (h : okB a b = false) : textM a b = ⟨#[]⟩ := by unfold textM; rw [h]; rfl
theorem textM_size (a b : Int) : (textM a b).size ≤ 3000000 := by
  unfold textM
  cases h1 : okB a b
  · exact (by decide : (ByteArray.mk #[]).size ≤ 3000000)
  · cases h2 : isB a b
    · simp; decide
    · simp only [if_true]
      obtain ⟨q1, q2, q3⟩ : -1000000 ≤ a ∧ a ≤ b ∧ b ≤ 1000000 := by have := ok_iff.1 h1; have := is_iff.1 h2; omega
      have s1 := dI_size a (by omega) (by omega)
      have s2 := dI_size b (by omega) (by omega)
      rw [ByteArray.size_append, ByteArray.size_append]
      have : (ByteArray.mk #[46, 46]).size = 2 := rfl
      omega
theorem textM_pos {a b : Int} (h : okB a b = true) : 2 ≤ (textM a b).size := by
  unfold textM
  rw [h]
  cases h2 : isB a b
  · simp; decide
  · simp only [if_true]
    rw [ByteArray.size_append, ByteArray.size_append]
    have : (ByteArray.mk #[46, 46]).size = 2 := rfl
    omega
end Go.Proofs.YtgkmpadeleebdaaDoor
