/-
  CONTRACTS of the program's isName, isNum, kindOf, WordOk.
-/
import Derived.Test.YthfiblldccnjcaaDoorWLeaf
namespace Go.Proofs.YthfiblldccnjcaaDoor.Wd
open Go.RowKit
open Pl

theorem mkHid {p : Prop} (h : p) : Hid p := h
theorem below_iter (w : World) (s : ByteArray) (pos : Nat) : Below w.heap.size w (w.iter s pos) := (Below.refl _ _).alloc (Nat.le_refl _) _
theorem nameB_of {s : ByteArray} {b : Bool} (h : nameP s ↔ b = true) : nameB s = b := by
  unfold nameB
  by_cases p : nameP s
  · simp [p, h.1 p]
  · have : b = false := by cases b <;> simp_all
    simp [p, this]
theorem numB_of {s : ByteArray} {b : Bool} (h : numP s ↔ b = true) : numB s = b := by
  unfold numB
  by_cases p : numP s
  · simp [p, h.1 p]
  · have : b = false := by cases b <;> simp_all
    simp [p, this]

set_option maxHeartbeats 400000 in
theorem isName_any (s : ByteArray) (w : World) (hs : s.size ≤ maxLen) : Calls Tryd.prog 39 #[.string s] w fun e w' => e = .returned (.bool (nameB s)) ∧ Below w.heap.size w w' := by
  unfold maxLen at hs
  by_cases h8 : 8 < s.size
  · go_enter Tryd.func39, Tryd.ntmps39
    go_wp2
    go_ret
    exact ⟨ret_bool (nameB_of (by unfold nameP; simp; omega)).symm, Below.refl _ _⟩
  · by_cases hk : keyB s = true
    · go_enter Tryd.func39, Tryd.ntmps39
      go_wp2_with (go_at_call 46; refine (isKey_any _ _).mono ?_; rintro e w' ⟨rfl, rfl⟩)
      go_ret
      exact ⟨ret_bool (nameB_of (by unfold nameP; simp [hk])).symm, Below.refl _ _⟩
    · simp only [Bool.not_eq_true] at hk
      go_enter Tryd.func39, Tryd.ntmps39
      go_wp2_with (go_at_call 46; refine (isKey_any _ _).mono ?_; rintro e w' ⟨rfl, rfl⟩)
      go_loopw [3] (fun _ w' => ∃ pos : Nat, w' = w.iter s pos ∧ pos ≤ s.size ∧ ∀ k, k < pos → nameAt s k) (fun _ w' => s.size - w'.iterPos w.heap.size)
      case atStart => exact ⟨0, rfl, Nat.zero_le _, fun k hk => by omega⟩
      case round =>
        obtain ⟨pos, rfl, hps, hall⟩ := hrel
        by_cases hp : pos < s.size
        · obtain ⟨r, d, hnx0, hd1, hl, hg, hr⟩ := next_rune (P := Tryd.prog) w s pos hp
          have hnx := hnx0
          clear hnx0
          by_cases g1 : lowI r = true
          · have hd : d = 1 := (hr (by rw [hl, low_iff] at g1; omega)).2
            subst hd
            have hA : nameAt s pos := .inl (by rw [← hl]; exact g1)
            clear hr hg
            have HL : Hid (lowI r = lowI (byt s pos)) := hl
            clear hl
            go_wp2_with (first | (go_at_call 47; refine (isLetter_any _ _).mono ?_; rintro e w' ⟨rfl, rfl⟩) | (go_at_call 48; refine (isDigit_any _ _).mono ?_; rintro e w' ⟨rfl, rfl⟩))
            go_roundw
            case rel => exact ⟨pos + 1, rfl, by omega, fun k hk => by rcases (by omega : k < pos ∨ k = pos) with h | rfl; exact hall k h; exact hA⟩
            case measure => simp; omega
          · simp only [Bool.not_eq_true] at g1
            by_cases g2 : pos ≠ 0 ∧ digI r = true
            · obtain ⟨g2, g3⟩ := g2
              have hz : ((pos : Int) == 0) = false := by simp; omega
              have hd : d = 1 := (hr (by rw [hg, dig_iff] at g3; omega)).2
              subst hd
              have hA : nameAt s pos := .inr ⟨g2, by rw [← hg]; exact g3⟩
              clear hr hl hg
              go_wp2_with (first | (go_at_call 47; refine (isLetter_any _ _).mono ?_; rintro e w' ⟨rfl, rfl⟩) | (go_at_call 48; refine (isDigit_any _ _).mono ?_; rintro e w' ⟨rfl, rfl⟩))
              go_roundw
              case rel => exact ⟨pos + 1, rfl, by omega, fun k hk => by rcases (by omega : k < pos ∨ k = pos) with h | rfl; exact hall k h; exact hA⟩
              case measure => simp; omega
            · have hno : nameB s = false := nameB_of (by
                unfold nameP nameAt
                simp only [Bool.false_eq_true, iff_false]
                rintro ⟨_, _, _, hq⟩
                have := hq pos hp
                rw [← hl, ← hg, g1] at this
                simp at this
                exact g2 this)
              clear hl hg hr
              by_cases g3 : pos = 0
              · have hz : ((pos : Int) == 0) = true := by simp; omega
                clear g2 g3
                go_wp2_with (first | (go_at_call 47; refine (isLetter_any _ _).mono ?_; rintro e w' ⟨rfl, rfl⟩) | (go_at_call 48; refine (isDigit_any _ _).mono ?_; rintro e w' ⟨rfl, rfl⟩))
                go_ret
                exact ⟨ret_bool hno.symm, below_iter _ _ _⟩
              · have hz : ((pos : Int) == 0) = false := by simp; omega
                have g4 : digI r = false := by
                  by_cases q : digI r = true
                  · exact absurd ⟨g3, q⟩ g2
                  · simpa using q
                clear g2
                go_wp2_with (first | (go_at_call 47; refine (isLetter_any _ _).mono ?_; rintro e w' ⟨rfl, rfl⟩) | (go_at_call 48; refine (isDigit_any _ _).mono ?_; rintro e w' ⟨rfl, rfl⟩))
                go_ret
                exact ⟨ret_bool hno.symm, below_iter _ _ _⟩
        · have hnx : ∀ ty, (Instr.next (.pointer (some ⟨w.heap.size, 0, none⟩)) true ty).run Tryd.prog (w.iter s pos) = _ := fun ty => run_next_end w s pos ty hp
          have hq : nameB s = !s.toList.isEmpty := nameB_of (by
            unfold nameP
            have : s.toList = [] ↔ s.size = 0 := by rw [Lib.toList_data, Lib.size_eq]; exact List.length_eq_zero_iff.symm
            simp only [Bool.not_eq_true', List.isEmpty_eq_false_iff, ne_eq, this]
            exact ⟨fun h => by omega, fun h => ⟨by omega, by omega, hk, fun k hk' => hall k (by omega)⟩⟩)
          go_wp2
          go_ret
          exact ⟨ret_bool hq.symm, below_iter _ _ _⟩

theorem numB_zero {s : ByteArray} {pos : Nat} (hp : pos < s.size) (h1 : 1 ≤ pos) (hv : val s pos = 0) (h2 : 2 ≤ pos → 10 ≤ val s pos ∧ byt s 0 ≠ 48) : numB s = false := numB_of (by
  unfold numP
  simp only [Bool.false_eq_true, iff_false]
  rintro ⟨_, _, hz, _⟩
  have e : pos = 1 := by
    by_cases q : 2 ≤ pos
    · have := h2 q; omega
    · omega
  subst e
  simp only [val] at hv
  have := hz (by omega)
  omega)

end Go.Proofs.YthfiblldccnjcaaDoor.Wd
