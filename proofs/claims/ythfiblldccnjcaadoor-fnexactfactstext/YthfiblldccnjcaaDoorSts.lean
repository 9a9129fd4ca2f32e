/-
  ROWS OF STRINGS: taken over, compared.
-/
import Derived.Test.YthfiblldccnjcaaDoorLsp
import Derived.Deep.Onto
import Derived.BigQuiet
namespace Go.Proofs.YthfiblldccnjcaaDoor
open Go.RowKit

def StrsIn (w : World) (l : List ByteArray) (b off : Nat) : Prop := ∀ (i : Nat) (x : ByteArray), l[i]? = some x → w.cell? ⟨b, off + i, none⟩ = some (.string x)
theorem StrsIn.below {w w' : World} {l : List ByteArray} {b off : Nat} (h : StrsIn w l b off) (hb : Below w.heap.size w w') : StrsIn w' l b off := fun i x hi => by
  have := h i x hi
  exact (hb.cell (p := ⟨b, off + i, none⟩) (World.block_lt_of_cell? w _ this)).trans this
def strs (l : List ByteArray) : List Value := l.map Value.string
theorem strs_len (l : List ByteArray) : (strs l).length = l.length := by simp [strs]
theorem strs_get {l : List ByteArray} {i : Nat} : (strs l)[i]? = (l[i]?).map Value.string := by simp [strs]
/-- A slice that came in, as strings. -/
def StrsOf (w : World) (l : List ByteArray) (a : Option Addr) : Prop := l = [] ∨ ∃ b o, a = some ⟨b, o, none⟩ ∧ StrsIn w l b o
theorem StrsOf.below {w w' : World} {l : List ByteArray} {a : Option Addr} (h : StrsOf w l a) (hb : Below w.heap.size w w') : StrsOf w' l a := by
  rcases h with h | ⟨b, o, e, h⟩
  · exact .inl h
  · exact .inr ⟨b, o, e, h.below hb⟩
theorem Tryd.info9 : (Tryd.prog.info? 9).map (fun i => (i.zero, i.size, i.bytes)) = some (some (.string ⟨#[]⟩), 1, 16) := by kernel_rfl
theorem values_s {xs : List Value} {l : List ByteArray} (hl : xs.length = l.length) (h : ∀ j, j < l.length → xs[j]? = (l[j]?).map Value.string) : xs = strs l := by
  apply List.ext_getElem?
  intro q
  by_cases hq : q < l.length
  · rw [h q hq, strs_get]
  · rw [List.getElem?_eq_none (by omega), List.getElem?_eq_none (by rw [strs_len]; omega)]

set_option maxRecDepth 100000 in
set_option maxHeartbeats 1600000 in
theorem toStrS_ok (l : List ByteArray) (a : Option Addr) (c : Nat) (w : World) (hn : l.length ≤ 1048576) (hl : StrsOf w l a) :
    Calls Tryd.prog 8 #[.slice a l.length c] w fun e w' => e = .returned (.slice (some ⟨w.heap.size, 0, none⟩) l.length l.length) ∧ StrsIn w' l w.heap.size 0 ∧ Below w.heap.size w w' := by
  obtain ⟨i0, hi, hz⟩ := Option.map_eq_some_iff.1 Tryd.info9
  simp only [Prod.mk.injEq] at hz
  obtain ⟨hz0, hz1, hz2⟩ := hz
  obtain ⟨w1, hmk, hown0, hg0⟩ := run_make_full (P := Tryd.prog) w w.heap.size 25 9 i0 _ 1 Tryd.underlying25 hi hz0 hz1 .i64 .i64 l.length (by rw [hz2]; omega) (by unfold maxLen; omega) (Nat.le_refl _)
  have HL := mkHid hl
  have HO := mkHid hown0
  have HG := mkHid (Below.grown (Below.refl w.heap.size w) hg0 (Nat.le_refl _) (fun k hk => by cases hk))
  clear hl hown0 hg0 hi hz0 hz1 hz2
  go_enter Tryd.func8, Tryd.ntmps8
  go_wp2
  go_loopw [4] (fun i w' => ∃ (k : Nat) (xs : List Value), k ≤ l.length ∧ i = .int .i64 k ∧ w'.ownsRow w.heap.size 9 1 (.slice (some ⟨w.heap.size, 0, none⟩) l.length l.length) l.length xs ∧ (∀ j, j < k → xs[j]? = (l[j]?).map Value.string) ∧ Below w.heap.size w w') (fun i _ => l.length - (RowKit.intOf i).toNat)
  case atStart => exact ⟨0, _, Nat.zero_le _, rfl, by simpa using HO.out, fun j hj => by omega, HG.out⟩
  case round =>
    obtain ⟨k, xs, hk, rfl, hown, hdone, hbel⟩ := hrel
    have HW := mkHid hown
    have HD := mkHid hdone
    have HB := mkHid hbel
    clear hown hdone hbel HO HG hmk
    by_cases hlt : k < l.length
    · obtain ⟨x, hx⟩ : ∃ x, l[k]? = some x := ⟨_, List.getElem?_eq_getElem hlt⟩
      obtain ⟨b, o, rfl, hl⟩ : ∃ b o, a = some ⟨b, o, none⟩ ∧ StrsIn w l b o := by
        rcases HL.out with h | h
        · subst h; simp at hlt
        · exact h
      have c1 := (hl.below HB.out) k x hx
      have hxl := HW.out.1
      obtain ⟨v0, c0⟩ : ∃ v, wr.cell? ⟨w.heap.size, k, none⟩ = some v := ⟨_, (HW.out.cellAt k (by omega)).trans (List.getElem?_eq_getElem (by omega))⟩
      have f0 := HW.out.frozenAt k
      have HX := mkHid hx
      clear hxl hx hl
      have k2 : (0 : Int) ≤ (k : Int) := by omega
      have k3 : (k : Int) < (l.length : Int) := by omega
      go_wp2
      go_roundw
      case rel =>
        have hs := HW.out.stored k (.string x)
        refine ⟨k + 1, _, by omega, by go_num, hs.1, fun q hq => ?_, HB.out.setCell (p := ⟨w.heap.size, k, none⟩) (Nat.le_refl _) _⟩
        have hml := HW.out.1
        rw [List.getElem?_set]
        rcases (by omega : q < k ∨ q = k) with h | rfl
        · rw [if_neg (by omega)]; exact HD.out q h
        · rw [if_pos rfl, if_pos (by omega), HX.out]; rfl
      case measure => simp [RowKit.intOf]; omega
    · have e : k = l.length := by omega
      subst e
      have hown := HW.out
      rw [values_s (by have := HW.out.1; omega) HD.out] at hown
      have HW := mkHid hown
      clear hown HD
      go_wp2
      go_ret
      refine ⟨rfl, fun i x hx => ?_, HB.out⟩
      have hi := (List.getElem?_eq_some_iff.1 hx).1
      have := World.ownsRow.cellAt HW.out i (by omega)
      rw [Nat.zero_add, this, strs_get, hx]; rfl
set_option maxRecDepth 100000 in
theorem toStrS_any (l : List ByteArray) (a : Option Addr) (c : Nat) (w : World) (hn : l.length ≤ 1048576) (hl : StrsOf w l a) :
    Calls Tryd.prog 8 #[.slice a l.length c] w fun e w' => ∃ g, e = .returned (.slice (some ⟨g, 0, none⟩) l.length l.length) ∧ StrsIn w' l g 0 ∧ Below w.heap.size w w' :=
  (toStrS_ok l a c w hn hl).mono fun _ _ h => ⟨_, h⟩
set_option maxRecDepth 100000 in
set_option maxHeartbeats 800000 in
theorem eqStrS_of (l : List ByteArray) (b off c b' off' c' : Nat) (w : World) (hn : l.length ≤ maxLen) (hl : StrsIn w l b off) (hl' : StrsIn w l b' off') :
    Calls Tryd.prog 11 #[.slice (some ⟨b, off, none⟩) l.length c, .slice (some ⟨b', off', none⟩) l.length c'] w fun e w' => e = .returned (.bool true) ∧ Below w.heap.size w w' := by
  unfold maxLen at hn
  have HL := mkHid hl
  have HL' := mkHid hl'
  clear hl hl'
  go_enter Tryd.func11, Tryd.ntmps11
  go_wp2
  go_loopw [5] (fun i w' => ∃ (k : Nat), k ≤ l.length ∧ i = .int .i64 k ∧ Below w.heap.size w w') (fun i _ => l.length - (RowKit.intOf i).toNat)
  case atStart => exact ⟨0, Nat.zero_le _, rfl, Below.refl _ _⟩
  case round =>
    obtain ⟨k, hk, rfl, hbel⟩ := hrel
    have HB := mkHid hbel
    by_cases hlt : k < l.length
    · obtain ⟨x, hx⟩ : ∃ x, l[k]? = some x := ⟨_, List.getElem?_eq_getElem hlt⟩
      have hc1 := (HL.out.below hbel) k x hx
      have hc2 := (HL'.out.below hbel) k x hx
      clear hx hbel
      have i0 : (0 : Int) ≤ (k : Int) := by omega
      have i1 : (k : Int) < (l.length : Int) := by omega
      go_wp2
      go_quiet (fail)
      go_wp2
      go_roundw
      case rel => exact ⟨k + 1, by omega, by go_num, Below.trans HB.out ⟨rfl, rfl, rfl, Nat.le_refl _, fun _ _ => rfl⟩⟩
      case measure => simp [RowKit.intOf]; omega
    · go_wp2
      go_ret
      exact ⟨rfl, HB.out⟩
end Go.Proofs.YthfiblldccnjcaaDoor
