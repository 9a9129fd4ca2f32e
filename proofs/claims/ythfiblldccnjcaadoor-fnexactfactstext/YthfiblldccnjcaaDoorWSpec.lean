/-
  CONTRACTS of the specification's l01Has, l01Key, l01Sign, l01Name, l01Number, l01Kind.
-/
import Derived.Test.YthfiblldccnjcaaDoorWKind
namespace Go.Proofs.YthfiblldccnjcaaDoor.Wd
open Go.RowKit
open Pl

def str (l : List UInt8) : ByteArray := ⟨l.toArray⟩
def hasB (ls : List (List UInt8)) (s : ByteArray) : Bool := ls.contains s.toList
theorem getD_get (ls : List (List UInt8)) (k : Nat) (h : k < ls.length) : ls.getD k [] = ls[k] := by simp [List.getD, h]
theorem hasB_yes {ls : List (List UInt8)} {s c : ByteArray} {k : Nat} (h : k < ls.length) (he : (c.toList == s.toList) = true) (hv : c.toList = ls.getD k []) : hasB ls s = true := by
  have e := eq_of_beq he
  unfold hasB
  rw [List.contains_iff_mem, ← e, hv, getD_get _ _ h]
  exact List.getElem_mem _
theorem hasB_no {ls : List (List UInt8)} {s : ByteArray} (h : ∀ j, j < ls.length → (ls.getD j [] == s.toList) = false) : hasB ls s = false := by
  unfold hasB
  rw [Bool.eq_false_iff]
  intro hm
  rw [List.contains_iff_mem] at hm
  obtain ⟨j, hj, e⟩ := List.getElem_of_mem hm
  have := h j hj
  rw [getD_get _ _ hj, e] at this
  simp at this
theorem str_toList (l : List UInt8) : (str l).toList = l := by unfold str; simp
set_option maxHeartbeats 400000 in
theorem sHas_any (ls : List (List UInt8)) (s : ByteArray) (b : Nat) (w : World) (hn : ls.length ≤ 100) (hcell : ∀ i, i < ls.length → w.cell? ⟨b, i, none⟩ = some (.string (str (ls.getD i [])))) :
    Calls Tryd.prog 43 #[.slice (some ⟨b, 0, none⟩) ls.length ls.length, .string s] w fun e w' => e = .returned (.bool (hasB ls s)) ∧ w = w' := by
  have HC := mkHid hcell
  clear hcell
  go_enter Tryd.func43, Tryd.ntmps43
  go_wp2
  go_loop [5] (fun i => ∃ k : Nat, k ≤ ls.length ∧ i = .int .i64 k ∧ ∀ j, j < k → (ls.getD j [] == s.toList) = false) (fun i => ls.length - (intOf i).toNat)
  case atStart => exact ⟨0, Nat.zero_le _, rfl, fun j hj => by omega⟩
  case round =>
    obtain ⟨k, hk, rfl, hall⟩ := hrel
    have HA := mkHid hall
    clear hall
    by_cases hlt : k < ls.length
    · obtain ⟨c, hck, HV⟩ : ∃ c : ByteArray, w.cell? ⟨b, k, none⟩ = some (.string c) ∧ Hid (c.toList = ls.getD k []) := ⟨_, HC.out k hlt, str_toList _⟩
      by_cases he : (c.toList == s.toList) = true
      · have HN := mkHid (hasB_yes hlt he HV.out)
        clear HA HV HC
        go_wp2
        go_ret
        exact ⟨ret_bool HN.out.symm, rfl⟩
      · simp only [Bool.not_eq_true] at he
        have HN := mkHid (show ∀ j, j < k + 1 → (ls.getD j [] == s.toList) = false from fun j hj => by
          rcases (by omega : j < k ∨ j = k) with h | rfl
          · exact HA.out j h
          · rw [← HV.out]; exact he)
        clear HA HV HC
        go_wp2
        go_round
        case rel => exact ⟨k + 1, by omega, by go_num, HN.out⟩
        case measure => simp [intOf]; omega
    · have HN := mkHid (hasB_no (s := s) (fun j hj => HA.out j (by omega)))
      clear HA HC
      go_wp2
      go_ret
      exact ⟨ret_bool HN.out.symm, rfl⟩

theorem rowFact (C : Array Value) (ls : List (List UInt8)) (h : C.toList = ls.map (fun l => .string (str l))) (i : Nat) (hi : i < ls.length) : C[i]? = some (.string (str (ls.getD i []))) := by
  rw [← Array.getElem?_toList, h, getD_get _ _ hi]
  simp [hi]

set_option maxHeartbeats 400000 in
theorem sKey_any (s : ByteArray) (w : World) : Calls Tryd.prog 35 #[.string s] w fun e w' => e = .returned (.bool (keyB s)) ∧ Below w.heap.size w w' := by
  go_enter Tryd.func35, Tryd.ntmps35
  go_wp2_with fail
  refine (sHas_any keys s w.heap.size _ (by decide) (fun i hi => ?_)).mono ?_
  · rw [World.cell?_alloc_new]
    exact rowFact _ keys rfl i hi
  rintro e w' ⟨rfl, rfl⟩
  go_wp2
  go_ret
  exact ⟨rfl, (Below.refl _ _).alloc (Nat.le_refl _) _⟩
end Go.Proofs.YthfiblldccnjcaaDoor.Wd
