/-
  CONTRACTS of the law's eqIntS, markIntS, heldIntS, at every slice.
-/
import Derived.Test.YtpikgigfeifliaaInts
namespace Go.Proofs.Ytpikgigfeifliaa
open Go.RowKit

set_option maxHeartbeats 400000 in
theorem eqIntS_nil (a a' : Option Addr) (c c' : Nat) (w : World) : Calls Try.prog 13 #[.slice a 0 c, .slice a' 0 c'] w fun e w' => e = .returned (.bool true) ∧ Below w.heap.size w w' := by
  go_enter Try.func13, Try.ntmps13
  go_wp2
  go_loopw [5] (fun i w' => i = .int .i64 0 ∧ w' = w) (fun i _ => 0)
  case atStart => exact ⟨rfl, rfl⟩
  case round =>
    obtain ⟨rfl, rfl⟩ := hrel
    go_wp2
    go_ret
    exact ⟨rfl, Below.refl _ _⟩
theorem eqIntS_ok (l : List Int) (a a' : Option Addr) (c c' : Nat) (w : World) (hn : l.length ≤ maxLen) (hl : IntsAt w a l) (hl' : IntsAt w a' l) :
    Calls Try.prog 13 #[.slice a l.length c, .slice a' l.length c'] w fun e w' => e = .returned (.bool true) ∧ Below w.heap.size w w' := by
  rcases hl with rfl | ⟨b, o, rfl, hl⟩
  · exact eqIntS_nil a a' c c' w
  · rcases hl' with rfl | ⟨b', o', rfl, hl'⟩
    · exact eqIntS_nil _ a' c c' w
    · exact eqIntS_of l b o c b' o' c' w hn hl hl'
/-- What the law writes into a row. -/
def marksI (k : Int) (n : Nat) : List Int := (List.range n).map fun i => k + (i : Nat)
theorem marksI_len (k : Int) (n : Nat) : (marksI k n).length = n := by simp [marksI]
theorem marksI_get {k : Int} {n i : Nat} (h : i < n) : (marksI k n)[i]? = some (k + i) := by simp [marksI, h]
theorem ret_int' {k : IntKind} {a b : Int} (h : a = b) : Ending.returned (.int k a) = .returned (.int k b) := by rw [h]

set_option maxHeartbeats 800000 in
theorem markIntS_of (l : List Int) (g cap base : Nat) (k0 : Int) (w : World) (hn : l.length ≤ 10000000) (h0 : 0 ≤ k0) (h1 : k0 ≤ 10000000) (hown : OwnI w base (.slice (some ⟨g, 0, none⟩) l.length cap) l) :
    Calls Try.prog 15 #[.slice (some ⟨g, 0, none⟩) l.length cap, .int .i64 k0] w fun e w' => e = .returned (.int .i64 (k0 + l.length)) ∧ OwnI w' base (.slice (some ⟨g, 0, none⟩) l.length cap) (marksI k0 l.length) ∧ w.grownBy w' (some g) := by
  have HO := mkHid hown
  clear hown
  go_enter Try.func15, Try.ntmps15
  go_wp2
  go_loopw [1, 5] (fun kv i w' => ∃ (j : Nat) (m : List Int), j ≤ l.length ∧ m.length = l.length ∧ i = .int .i64 j ∧ kv = .int .i64 (k0 + j) ∧ w'.ownsRow base 3 1 (.slice (some ⟨g, 0, none⟩) l.length cap) l.length (ints m) ∧ (∀ q, q < j → m[q]? = some (k0 + (q : Nat))) ∧ w.grownBy w' (some g)) (fun _ i _ => l.length - (intOf i).toNat)
  case atStart => exact ⟨0, l, Nat.zero_le _, rfl, rfl, by simp, HO.out, fun q hq => by omega, World.grownBy.refl _ _⟩
  case round =>
    obtain ⟨j, m, hj, hm, rfl, rfl, hown, hmk, hg⟩ := hrel
    have HW := mkHid hown
    have HM := mkHid hm
    have HK := mkHid hmk
    have HG := mkHid hg
    clear hown hmk hg HO hm
    by_cases hlt : j < l.length
    · obtain ⟨v0, c0⟩ : ∃ v, wr.cell? ⟨g, j, none⟩ = some v := ⟨_, (HW.out.cellAt j (by omega)).trans (List.getElem?_eq_getElem (by rw [ints_len, HM.out]; exact hlt))⟩
      have f0 := HW.out.frozenAt j
      go_wp2
      go_roundw
      case rel =>
        have hs := HW.out.stored j (.int .i64 (k0 + j))
        rw [ints_set] at hs
        refine ⟨j + 1, m.set j (k0 + j), by omega, by simpa using HM.out, by go_num, ?_, hs.1, fun q hq => ?_, World.grownBy.trans HG.out hs.2⟩
        · congr 1; omega
        · rw [List.getElem?_set]
          have hml := HM.out
          rcases (by omega : q < j ∨ q = j) with h | rfl
          · rw [if_neg (by omega)]; exact HK.out q h
          · rw [if_pos rfl, if_pos (by omega)]
      case measure => simp [intOf]; omega
    · have e : j = l.length := by omega
      subst e
      have em : m = marksI k0 l.length := by
        apply List.ext_getElem?
        intro q
        by_cases hq : q < l.length
        · rw [HK.out q hq, marksI_get hq]
        · rw [List.getElem?_eq_none (by have := HM.out; omega), List.getElem?_eq_none (by rw [marksI_len]; omega)]
      have hw := HW.out
      rw [em] at hw
      have HW := mkHid hw
      clear hw em
      go_wp2
      go_ret
      refine ⟨rfl, ?_, HG.out⟩
      unfold OwnI
      rw [marksI_len]
      exact HW.out
set_option maxHeartbeats 400000 in
theorem markIntS_nil (a : Option Addr) (c : Nat) (k0 : Int) (w : World) :
    Calls Try.prog 15 #[.slice a 0 c, .int .i64 k0] w fun e w' => e = .returned (.int .i64 k0) ∧ w' = w := by
  go_enter Try.func15, Try.ntmps15
  go_wp2
  go_loopw [1, 5] (fun kv i w' => i = .int .i64 0 ∧ kv = .int .i64 k0 ∧ w' = w) (fun _ i _ => 0)
  case atStart => exact ⟨rfl, rfl, rfl⟩
  case round =>
    obtain ⟨rfl, rfl, rfl⟩ := hrel
    go_wp2
    go_ret
    exact ⟨rfl, rfl⟩
theorem markIntS_ok (l : List Int) (ao : Option Addr) (cap base : Nat) (k0 : Int) (w : World) (hn : l.length ≤ 10000000) (h0 : 0 ≤ k0) (h1 : k0 ≤ 10000000) (hown : OwnI w base (.slice ao l.length cap) l) :
    Calls Try.prog 15 #[.slice ao l.length cap, .int .i64 k0] w fun e w' => e = .returned (.int .i64 (k0 + l.length)) ∧ OwnI w' base (.slice ao l.length cap) (marksI k0 l.length) ∧ w.grownBy w' (Value.ownBlock (.slice ao l.length cap)) := by
  rcases hown.2 with ⟨e, h⟩ | ⟨g, cap', cur, e, _⟩
  · have hl := List.length_eq_zero_iff.1 h
    subst hl
    refine (markIntS_nil ao cap k0 w).mono ?_
    rintro e w' ⟨rfl, rfl⟩
    exact ⟨ret_int' (by simp), hown, World.grownBy.refl _ _⟩
  · simp at e
    obtain ⟨rfl, rfl⟩ := e
    exact markIntS_of l g cap base k0 w hn h0 h1 hown

set_option maxHeartbeats 800000 in
theorem heldIntS_of (n b off c : Nat) (k0 : Int) (w : World) (hn : n ≤ 10000000) (h0 : 0 ≤ k0) (h1 : k0 ≤ 10000000) (hl : ∀ (i : Nat) (x : Int), (marksI k0 n)[i]? = some x → w.cell? ⟨b, off + i, none⟩ = some (.int .i64 x)) :
    Calls Try.prog 16 #[.slice (some ⟨b, off, none⟩) n c, .int .i64 k0] w fun e w' => e = .returned (.int .i64 (k0 + n)) ∧ w' = w := by
  have HL := mkHid hl
  clear hl
  go_enter Try.func16, Try.ntmps16
  go_wp2
  go_loopw [1, 5] (fun kv i w' => ∃ (j : Nat), j ≤ n ∧ i = .int .i64 j ∧ kv = .int .i64 (k0 + j) ∧ w' = w) (fun _ i _ => n - (intOf i).toNat)
  case atStart => exact ⟨0, Nat.zero_le _, rfl, by simp, rfl⟩
  case round =>
    obtain ⟨j, hj, rfl, rfl, rfl⟩ := hrel
    by_cases hlt : j < n
    · have c0 := HL.out j _ (marksI_get hlt)
      go_wp2
      go_roundw
      case rel => exact ⟨j + 1, by omega, by go_num, by congr 1; omega, by trivial⟩
      case measure => simp [intOf]; omega
    · have e : j = n := by omega
      subst e
      go_wp2
      go_ret
      exact ⟨rfl, rfl⟩
set_option maxHeartbeats 400000 in
theorem heldIntS_nil (a : Option Addr) (c : Nat) (k0 : Int) (w : World) :
    Calls Try.prog 16 #[.slice a 0 c, .int .i64 k0] w fun e w' => e = .returned (.int .i64 k0) ∧ w' = w := by
  go_enter Try.func16, Try.ntmps16
  go_wp2
  go_loopw [1, 5] (fun kv i w' => i = .int .i64 0 ∧ kv = .int .i64 k0 ∧ w' = w) (fun _ i _ => 0)
  case atStart => exact ⟨rfl, rfl, rfl⟩
  case round =>
    obtain ⟨rfl, rfl, rfl⟩ := hrel
    go_wp2
    go_ret
    exact ⟨rfl, rfl⟩
theorem heldIntS_ok (n : Nat) (a : Option Addr) (c : Nat) (k0 : Int) (w : World) (hn : n ≤ 10000000) (h0 : 0 ≤ k0) (h1 : k0 ≤ 10000000) (hl : IntsAt w a (marksI k0 n)) :
    Calls Try.prog 16 #[.slice a n c, .int .i64 k0] w fun e w' => e = .returned (.int .i64 (k0 + n)) ∧ w' = w := by
  rcases hl with h | ⟨b, o, rfl, hl⟩
  · have h' : n = 0 := by have := marksI_len k0 n; rw [h] at this; simpa using this.symm
    subst h'
    refine (heldIntS_nil a c k0 w).mono ?_
    rintro e w' ⟨rfl, rfl⟩
    exact ⟨ret_int' (by simp), rfl⟩
  · exact heldIntS_of n b o c k0 w hn h0 h1 hl
end Go.Proofs.Ytpikgigfeifliaa
