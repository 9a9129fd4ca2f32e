/-
  CONTRACTS of the law's eqBoolS.
-/
import Derived.Test.YtbfmljogfljhdaaRm
namespace Go.Proofs.Ytbfmljogfljhdaa
open Go.RowKit

set_option maxRecDepth 100000 in
set_option maxHeartbeats 400000 in
theorem eqBoolS_nil (a a' : Option Addr) (c c' : Nat) (w : World) : Calls Try.prog 33 #[.slice a 0 c, .slice a' 0 c'] w fun e w' => e = .returned (.bool true) ∧ Below w.heap.size w w' := by
  go_enter Try.func33, Try.ntmps33
  go_wp2
  go_loopw [5] (fun i w' => i = .int .i64 0 ∧ w' = w) (fun i _ => 0)
  case atStart => exact ⟨rfl, rfl⟩
  case round =>
    obtain ⟨rfl, rfl⟩ := hrel
    go_wp2
    go_ret
    exact ⟨rfl, Below.refl _ _⟩
set_option maxRecDepth 100000 in
set_option maxHeartbeats 800000 in
theorem eqBoolS_of (l : List Bool) (a a' : Option Addr) (c c' : Nat) (w : World) (h0 : 0 < l.length) (hn : l.length ≤ maxLen) (hl : At eB w a l) (hl' : At eB w a' l) :
    Calls Try.prog 33 #[.slice a l.length c, .slice a' l.length c'] w fun e w' => e = .returned (.bool true) ∧ Below w.heap.size w w' := by
  unfold maxLen at hn
  obtain ⟨b, off, rfl, hlb, _⟩ := hl.cons h0
  obtain ⟨b', off', rfl, hlb', _⟩ := hl'.cons h0
  have HL := mkHid hl
  have HL' := mkHid hl'
  clear hl hl'
  go_enter Try.func33, Try.ntmps33
  go_wp2
  go_loopw [5] (fun i w' => ∃ (k : Nat), k ≤ l.length ∧ i = .int .i64 k ∧ Below w.heap.size w w') (fun i _ => l.length - (intOf i).toNat)
  case atStart => exact ⟨0, Nat.zero_le _, rfl, Below.refl _ _⟩
  case round =>
    obtain ⟨k, hk, rfl, hbel⟩ := hrel
    have HB := mkHid hbel
    by_cases hlt : k < l.length
    · obtain ⟨x, hx⟩ : ∃ x, l[k]? = some x := ⟨_, List.getElem?_eq_getElem hlt⟩
      obtain ⟨_, _, e, hlc, hq⟩ := (HL.out.below hbel).cons h0
      cases e
      obtain ⟨_, _, e, hlc', hq'⟩ := (HL'.out.below hbel).cons h0
      cases e
      have hc0 := get_b hq hx
      have hd0 := get_b hq' hx
      clear hx hbel hq hq'
      have i0 : (0 : Int) ≤ (k : Int) := by omega
      have i1 : (k : Int) < (l.length : Int) := by omega
      have hne : (x != x) = false := by simp
      have HB1 : Hid (Below w.heap.size w wr.drew) := mkHid HB.out.drew
      go_wp2
      go_quiet (fail)
      go_wp2
      go_roundw
      case rel => exact ⟨k + 1, by omega, by go_num, Below.trans HB.out ⟨rfl, rfl, rfl, Nat.le_refl _, fun _ _ => rfl⟩⟩
      case measure => simp [intOf]; omega
    · go_wp2
      go_ret
      exact ⟨rfl, HB.out⟩
theorem eqBoolS_same (l : List Bool) (a a' : Option Addr) (c c' : Nat) (w : World) (hn : l.length ≤ maxLen) (hl : At eB w a l) (hl' : At eB w a' l) :
    Calls Try.prog 33 #[.slice a l.length c, .slice a' l.length c'] w fun e w' => e = .returned (.bool true) ∧ Below w.heap.size w w' := by
  rcases Nat.eq_zero_or_pos l.length with h | h
  · rw [h]; exact eqBoolS_nil a a' c c' w
  · exact eqBoolS_of l a a' c c' w h hn hl hl'
end Go.Proofs.Ytbfmljogfljhdaa
