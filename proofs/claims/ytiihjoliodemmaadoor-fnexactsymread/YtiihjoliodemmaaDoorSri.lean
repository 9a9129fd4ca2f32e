/-
  CONTRACT of the program's SymRead.
-/
import Derived.Test.YtiihjoliodemmaaDoorPzz
import Derived.Test.YtiihjoliodemmaaDoorSyi
import Derived.Test.YtiihjoliodemmaaDoorEn
import Derived.Test.YtiihjoliodemmaaDoorShelfs
namespace Go.Proofs.YtiihjoliodemmaaDoor
open Go.RowKit
open Go.Lib (idxOfS)

theorem strs_getD {w : World} {l : List ByteArray} {b off : Nat} (h : StrsIn w l b off) : ∀ j, j < l.length → w.cell? ⟨b, off + j, none⟩ = some (.string (l.getD j ByteArray.empty)) := fun j hj => by
  rw [h j l[j] (List.getElem?_eq_getElem hj), List.getD_eq_getElem?_getD, List.getElem?_eq_getElem hj]; rfl
theorem idx_bd (l : List ByteArray) (x : ByteArray) : -1 ≤ idxOfS l x ∧ idxOfS l x ≤ l.length := by
  rcases idx_cases l x with h | ⟨k, hk, hi, _⟩ <;> omega
set_option maxRecDepth 100000 in
set_option maxHeartbeats 800000 in
theorem cloLab_any (x : ByteArray) (l : List ByteArray) (b off cap P : Nat) (w : World) (hF : Fit l 1048576) (hP : w.cell? ⟨P, 0, none⟩ = some (.slice (some ⟨b, off, none⟩) l.length cap)) (hl : StrsIn w l b off) : Calls Tryd.prog 111 #[.string x, .pointer (some ⟨P, 0, none⟩)] w fun e w' => e = .returned (.tuple #[.int .i64 (1 + idxOfS l x), .bool (decide (0 ≤ idxOfS l x))]) ∧ w = w' := by
  have HC := mkHid (Tryd.slices_Index_string b off l.length cap l x w (Nat.le_refl _) (by have := hF.1; omega) (strs_getD hl))
  have hbd := idx_bd l x
  have hn := hF.1
  rw [List.take_length] at HC
  generalize idxOfS l x = i at *
  have hw : IntKind.i64.wrap (1 + i) = 1 + i := IntWalk.i64_in _ ⟨by omega, by omega⟩
  clear hF hl
  go_enter Tryd.func111, Tryd.ntmps111
  go_wp2_with fail
  refine HC.out.mono ?_
  rintro e w' ⟨rfl, rfl⟩
  go_wp2
  exact bodyPost_ret (v := .tuple #[.int .i64 (1 + i), .bool (decide (0 ≤ i))]) (by simp [results, Tryd.results111, go_sem]) rfl ⟨rfl, rfl⟩
set_option maxRecDepth 100000 in
theorem labelReader_any (l : List ByteArray) (b off cap : Nat) (w : World) : Calls Tryd.prog 62 #[.slice (some ⟨b, off, none⟩) l.length cap] w fun e w' => ∃ P, e = .returned (.func (.func 111) #[] #[.pointer (some ⟨P, 0, none⟩)]) ∧ w'.cell? ⟨P, 0, none⟩ = some (.slice (some ⟨b, off, none⟩) l.length cap) ∧ Below w.heap.size w w' := by
  go_enter Tryd.func62, Tryd.ntmps62
  go_wp2
  go_ret
  exact ⟨w.heap.size, rfl, by simp [go_sem], bl_alloc (Below.refl _ _) _⟩
theorem repl_any (s : ByteArray) (w : World) (hE : Env w) (hs : s.size ≤ 1048576) : Calls Tryd.prog 110 #[.string s, .string ⟨#[32]⟩, .string ⟨#[]⟩, .int .i64 1] w fun e w' => e = .returned (.string ⟨(Lib.replace s.data.toList [32] [] 1).toArray⟩) ∧ Below w.heap.size w w' := by
  obtain ⟨m, hm⟩ := hE.ml
  exact Tryd.strings_Replace s ⟨#[32]⟩ ⟨#[]⟩ 1 m w (by omega) hm (by decide) (by rw [show (ByteArray.mk #[]).size = 0 from rfl]; omega)
end Go.Proofs.YtiihjoliodemmaaDoor
