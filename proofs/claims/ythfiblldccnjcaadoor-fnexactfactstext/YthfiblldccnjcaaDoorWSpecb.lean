/-
  CONTRACTS of the specification's l01Name, l01Number, l01Kind.
-/
import Derived.Test.YthfiblldccnjcaaDoorWSpec
namespace Go.Proofs.YthfiblldccnjcaaDoor.Wd
open Go.RowKit
open Pl

set_option maxHeartbeats 400000 in
theorem sName_any (s : ByteArray) (w : World) (hs : s.size ≤ maxLen) : Calls Tryd.prog 27 #[.string s] w fun e w' => e = .returned (.bool (nameB s)) ∧ Below w.heap.size w w' := by
  unfold maxLen at hs
  by_cases h1 : (s.size : Int) < 1
  · have HN := mkHid (show nameB s = false from nameB_of (by unfold nameP; simp; omega))
    go_enter Tryd.func27, Tryd.ntmps27
    go_wp2
    go_ret
    exact ⟨ret_bool HN.out.symm, Below.refl _ _⟩
  · by_cases h8 : 8 < (s.size : Int)
    · have HN := mkHid (show nameB s = false from nameB_of (by unfold nameP; simp; omega))
      go_enter Tryd.func27, Tryd.ntmps27
      go_wp2
      go_ret
      exact ⟨ret_bool HN.out.symm, Below.refl _ _⟩
    · have hz : 0 < s.size := by omega
      by_cases hl : lowI (((s[0]'hz).toNat : Nat) : Int) = true
      · by_cases hk : keyB s = true
        · have HN := mkHid (show nameB s = false from nameB_of (by unfold nameP; simp [hk]))
          go_enter Tryd.func27, Tryd.ntmps27
          go_wp2_with (first | (go_at_call 34; refine (sLetter_any _ _).mono ?_; rintro e w' ⟨rfl, rfl⟩) | (go_at_call 35; refine (sKey_any _ _).mono ?_; rintro e w1 ⟨rfl, hb1⟩))
          go_ret
          exact ⟨ret_bool HN.out.symm, hb1⟩
        · simp only [Bool.not_eq_true] at hk
          have HL := mkHid (show nameAt s 0 from .inl (by rw [byt_eq s 0 hz]; exact hl))
          go_enter Tryd.func27, Tryd.ntmps27
          go_wp2_with (first | (go_at_call 34; refine (sLetter_any _ _).mono ?_; rintro e w' ⟨rfl, rfl⟩) | (go_at_call 35; refine (sKey_any _ _).mono ?_; rintro e w1 ⟨rfl, hb1⟩))
          go_loop [3] (fun i => ∃ k : Nat, k ≤ s.size ∧ i = .int .i64 k ∧ ∀ j, j < k → nameAt s j) (fun i => s.size - (intOf i).toNat)
          case atStart => exact ⟨0, Nat.zero_le _, rfl, fun j hj => by omega⟩
          case round =>
            obtain ⟨k, hks, rfl, hall⟩ := hrel
            have HA := mkHid hall
            have HB := mkHid hb1
            clear hall hb1 hl
            by_cases hlt : k < s.size
            · have HE := mkHid (byt_eq s k hlt)
              by_cases g1 : lowI (((s[k]'hlt).toNat : Nat) : Int) = true
              · have HN := mkHid (show ∀ j, j < k + 1 → nameAt s j from fun j hj => by
                  rcases (by omega : j < k ∨ j = k) with h | rfl
                  · exact HA.out j h
                  · exact .inl (by rw [HE.out]; exact g1))
                clear HA HE HL
                go_wp2_with (first | (go_at_call 34; refine (sLetter_any _ _).mono ?_; rintro e w' ⟨rfl, rfl⟩) | (go_at_call 36; refine (sDigit_any _ _).mono ?_; rintro e w' ⟨rfl, rfl⟩))
                go_round
                case rel => exact ⟨k + 1, by omega, by go_num, HN.out⟩
                case measure => simp [intOf]; omega
              · simp only [Bool.not_eq_true] at g1
                by_cases g2 : digI (((s[k]'hlt).toNat : Nat) : Int) = true
                · have HN := mkHid (show ∀ j, j < k + 1 → nameAt s j from fun j hj => by
                    rcases (by omega : j < k ∨ j = k) with h | rfl
                    · exact HA.out j h
                    · by_cases hj0 : j = 0
                      · subst hj0; exact HL.out
                      · exact .inr ⟨hj0, by rw [HE.out]; exact g2⟩)
                  clear HA HE HL
                  go_wp2_with (first | (go_at_call 34; refine (sLetter_any _ _).mono ?_; rintro e w' ⟨rfl, rfl⟩) | (go_at_call 36; refine (sDigit_any _ _).mono ?_; rintro e w' ⟨rfl, rfl⟩))
                  go_round
                  case rel => exact ⟨k + 1, by omega, by go_num, HN.out⟩
                  case measure => simp [intOf]; omega
                · simp only [Bool.not_eq_true] at g2
                  have HN := mkHid (show nameB s = false from nameB_of (by
                    unfold nameP nameAt
                    simp only [Bool.false_eq_true, iff_false]
                    rintro ⟨_, _, _, hq⟩
                    have := hq k hlt
                    rw [HE.out, g1, g2] at this
                    simp at this))
                  clear HA HE HL
                  go_wp2_with (first | (go_at_call 34; refine (sLetter_any _ _).mono ?_; rintro e w' ⟨rfl, rfl⟩) | (go_at_call 36; refine (sDigit_any _ _).mono ?_; rintro e w' ⟨rfl, rfl⟩))
                  go_ret
                  exact ⟨ret_bool HN.out.symm, HB.out⟩
            · have HN := mkHid (show nameB s = true from nameB_of (by
                unfold nameP
                simp only [iff_true]
                exact ⟨by omega, by omega, hk, fun j hj => HA.out j (by omega)⟩))
              clear HA HL
              go_wp2
              go_ret
              exact ⟨ret_bool HN.out.symm, HB.out⟩
      · have HN := mkHid (show nameB s = false from nameB_of (by
          unfold nameP nameAt
          simp only [Bool.false_eq_true, iff_false]
          rintro ⟨_, _, _, hq⟩
          have := hq 0 hz
          rw [byt_eq s 0 hz] at this
          simp at this
          exact hl this))
        simp only [Bool.not_eq_true] at hl
        go_enter Tryd.func27, Tryd.ntmps27
        go_wp2_with (first | (go_at_call 34; refine (sLetter_any _ _).mono ?_; rintro e w' ⟨rfl, rfl⟩) | (go_at_call 35; refine (sKey_any _ _).mono ?_; rintro e w1 ⟨rfl, hb1⟩))
        go_ret
        exact ⟨ret_bool HN.out.symm, Below.refl _ _⟩
end Go.Proofs.YthfiblldccnjcaaDoor.Wd
