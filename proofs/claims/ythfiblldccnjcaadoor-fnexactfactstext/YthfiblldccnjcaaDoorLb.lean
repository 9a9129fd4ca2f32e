/-
  LABELS: what one is; both sides ask alike.
-/
import Derived.Test.YthfiblldccnjcaaDoorWImpl
import Derived.Test.YthfiblldccnjcaaDoorWSpecb
import Derived.Test.YthfiblldccnjcaaDoorRt
import Derived.Test.YthfiblldccnjcaaDoorShelfs
import Derived.Test.YthfiblldccnjcaaDoorReg
namespace Go.Proofs.YthfiblldccnjcaaDoor
open Go.RowKit
open Wd.Pl (nameB byt)

def lenL : List UInt8 := [108, 101, 110, 40]
/-- A label: a name, or len( a name ). -/
def labB (s : ByteArray) : Bool := if Lib.hasPrefix s.data.toList lenL && (Lib.hasSuffix s.data.toList [41] && decide (5 < s.size)) then nameB (s.extract 4 (s.size - 1)) else nameB s
theorem name_bad {s : ByteArray} {k : Nat} (hk : k < s.size) (h1 : ¬ (97 ≤ byt s k ∧ byt s k ≤ 122)) (h2 : ¬ (48 ≤ byt s k ∧ byt s k ≤ 57)) : nameB s = false := by
  cases h : nameB s
  · rfl
  · have hp : Wd.Pl.nameP s := by unfold nameB at h; exact @of_decide_eq_true _ (Wd.Pl.namePD s) h
    rcases hp.2.2.2 k hk with q | ⟨_, q⟩
    · exact absurd ((Wd.Pl.low_iff _).1 q) h1
    · exact absurd ((Wd.Pl.dig_iff _).1 q) h2
theorem byt_list {s : ByteArray} {k : Nat} {c : UInt8} (h : s.data.toList[k]? = some c) : k < s.size ∧ byt s k = (c.toNat : Int) := by
  have hk : k < s.size := by have := (List.getElem?_eq_some_iff.1 h).1; rw [ba_len] at this; exact this
  refine ⟨hk, ?_⟩
  rw [Wd.Pl.byt_eq s k hk]
  rw [ba_get hk] at h
  rw [Option.some.inj h]
theorem pre_name {s : ByteArray} (h : Lib.hasPrefix s.data.toList lenL = true) : nameB s = false := by
  obtain ⟨q, hq⟩ := List.isPrefixOf_iff_prefix.1 h
  have e : s.data.toList[3]? = some 40 := by rw [← hq]; rfl
  obtain ⟨h1, h2⟩ := byt_list e
  exact name_bad h1 (by rw [h2]; decide) (by rw [h2]; decide)
theorem name_empty : nameB ⟨#[]⟩ = false := by
  cases h : nameB ⟨#[]⟩
  · rfl
  · have hp : Wd.Pl.nameP ⟨#[]⟩ := by unfold nameB at h; exact @of_decide_eq_true _ (Wd.Pl.namePD _) h
    have h0 : (ByteArray.mk #[]).size = 0 := rfl
    have := hp.1
    omega
end Go.Proofs.YthfiblldccnjcaaDoor
