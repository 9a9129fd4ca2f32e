/-
  CONTRACTS of the specification's l01Skip and l01End.
-/
import Derived.Test.YthaehhndfahocaaScan
namespace Go.Proofs.Ythaehhndfahocaa
open Go.RowKit
open Pl

theorem blank_eq {s : ByteArray} {k : Nat} (h : k < s.size) : blankB s k = ((((s[k]'h).toNat : Int) == 32) || (((s[k]'h).toNat : Int) == 10)) := by
  unfold blankB; rw [byt_eq s k h]

set_option maxHeartbeats 1000000 in
theorem sSkip_any (s : ByteArray) (at_ : Nat) (w : World) (hs : s.size ≤ 4000) (hat : at_ ≤ s.size) :
    Calls Try.prog 39 #[.string s, .int .i64 at_] w fun e w' => e = .returned (.int .i64 (skipI s at_ : Nat)) ∧ w = w' := by
  go_enter Try.func39, Try.ntmps39
  go_wp2
  go_loop [1] (fun v => ∃ p : Nat, at_ ≤ p ∧ p ≤ s.size ∧ v = .int .i64 p ∧ skipI s at_ = skipI s p) (fun v => s.size - (intOf v).toNat)
  case atStart => exact ⟨at_, Nat.le_refl _, hat, rfl, rfl⟩
  case round =>
    obtain ⟨p, hap, hps, rfl, heq⟩ := hrel
    have HE := mkHid heq
    clear heq
    by_cases hlt : p < s.size
    · have HBY := mkHid (byt_eq s p hlt)
      have HBL := mkHid (blank_eq hlt)
      by_cases h32 : (((s[p]'hlt).toNat : Int) == 32) = true
      · have HN := mkHid (show skipI s at_ = skipI s (p + 1) by rw [HE.out]; exact skip_blank hlt (by rw [HBL.out, h32]; rfl))
        clear HE HBY HBL
        go_wp2
        go_round
        case rel => exact ⟨p + 1, by omega, by omega, by go_num, HN.out⟩
        case measure => simp [intOf]; omega
      · simp only [Bool.not_eq_true] at h32
        by_cases h10 : (((s[p]'hlt).toNat : Int) == 10) = true
        · have HN := mkHid (show skipI s at_ = skipI s (p + 1) by rw [HE.out]; exact skip_blank hlt (by rw [HBL.out, h32, h10]; rfl))
          clear HE HBY HBL
          go_wp2
          go_round
          case rel => exact ⟨p + 1, by omega, by omega, by go_num, HN.out⟩
          case measure => simp [intOf]; omega
        · simp only [Bool.not_eq_true] at h10
          by_cases h35 : (((s[p]'hlt).toNat : Int) == 35) = true
          · have HN := mkHid (show skipI s at_ = skipI s (noteE s p) by rw [HE.out]; exact skip_note hlt (by rw [HBY.out]; simpa using h35))
            have HG := mkHid (noteE_gt hlt (by rw [HBY.out]; simpa using h35))
            clear HE HBY HBL
            go_wp2
            go_loop [1] (fun v => ∃ q : Nat, p ≤ q ∧ q ≤ s.size ∧ v = .int .i64 q ∧ ∀ j, p ≤ j → j < q → (byt s j == 10) = false) (fun v => s.size - (intOf v).toNat)
            case atStart => exact ⟨p, Nat.le_refl _, hps, rfl, fun j h1 h2 => by omega⟩
            case round =>
              obtain ⟨q, hpq, hqs, rfl, hq⟩ := hrel
              have HQ := mkHid hq
              clear hq h32 h10 h35
              by_cases hlq : q < s.size
              · have HBQ := mkHid (byt_eq s q hlq)
                by_cases g10 : (((s[q]'hlq).toNat : Int) != 10) = true
                · have HQ1 : Hid (∀ j, p ≤ j → j < q + 1 → (byt s j == 10) = false) := fun j h1 h2 => by
                    rcases (by omega : j < q ∨ j = q) with h | rfl
                    · exact HQ.out j h1 h
                    · rw [HBQ.out]; simpa using g10
                  clear HQ HBQ
                  go_wp2
                  go_round
                  case rel => exact ⟨q + 1, by omega, by omega, by go_num, HQ1.out⟩
                  case measure => simp [intOf]; omega
                · simp only [Bool.not_eq_true] at g10
                  have HF : Hid (noteE s p = q) := first_eq ⟨hpq, hqs, HQ.out, .inr (by show (byt s q == 10) = true; rw [HBQ.out]; simpa using g10)⟩
                  clear HQ HBQ
                  go_wp2
                  go_round
                  case rel => exact ⟨q, by omega, hqs, rfl, by rw [HN.out, HF.out]⟩
                  case measure => have := HG.out; rw [HF.out] at this; simp [intOf]; omega
              · have HF : Hid (noteE s p = q) := first_eq ⟨hpq, hqs, HQ.out, .inl (by omega)⟩
                clear HQ
                go_wp2
                go_round
                case rel => exact ⟨q, by omega, hqs, rfl, by rw [HN.out, HF.out]⟩
                case measure => have := HG.out; rw [HF.out] at this; simp [intOf]; omega
          · simp only [Bool.not_eq_true] at h35
            have HN := mkHid (show skipI s at_ = p by
              rw [HE.out]
              exact skip_stop hlt (by rw [HBL.out, h32, h10]; rfl) (by rw [HBY.out]; simpa using h35))
            clear HE HBY HBL
            go_wp2
            go_ret
            exact ⟨ret_int (by rw [HN.out]), rfl⟩
    · have HN := mkHid (show skipI s at_ = p by rw [HE.out]; exact skip_end hlt)
      go_wp2
      go_ret
      exact ⟨ret_int (by rw [HN.out]), rfl⟩

set_option maxHeartbeats 1000000 in
theorem sEnd_any (s : ByteArray) (at_ : Nat) (w : World) (hs : s.size ≤ 4000) (hat : at_ < s.size) :
    Calls Try.prog 40 #[.string s, .int .i64 at_] w fun e w' => e = .returned (.int .i64 (endI s at_ : Nat)) ∧ Below w.heap.size w w' := by
  have HBY := mkHid (byt_eq s at_ hat)
  by_cases ha : alnum s at_ = true
  · have HE := mkHid (show endI s at_ = runE s at_ by simp [endI, ha])
    have key : Calls Try.prog 40 #[.string s, .int .i64 at_] w fun e w' => e = .returned (.int .i64 (runE s at_ : Nat)) ∧ Below w.heap.size w w' := by
      have hor : lowI (((s[at_]'hat).toNat : Nat) : Int) = true ∨ (lowI (((s[at_]'hat).toNat : Nat) : Int) = false ∧ digI (((s[at_]'hat).toNat : Nat) : Int) = true) := by
        unfold alnum at ha
        rw [HBY.out] at ha
        revert ha
        cases lowI (((s[at_]'hat).toNat : Nat) : Int) <;> simp
      clear HE
      have HA := mkHid ha
      clear ha
      rcases hor with g1 | ⟨g1, g2⟩
      all_goals
        go_enter Try.func40, Try.ntmps40
        go_wp2_with (first | (go_at_call 55; refine (sLetter_any _ _).mono ?_; rintro e w' ⟨rfl, rfl⟩) | (go_at_call 56; refine (sDigit_any _ _).mono ?_; rintro e w' ⟨rfl, rfl⟩))
        go_loop [1] (fun v => ∃ q : Nat, at_ ≤ q ∧ q ≤ s.size ∧ v = .int .i64 q ∧ ∀ j, at_ ≤ j → j < q → (!alnum s j) = false) (fun v => s.size - (intOf v).toNat)
        case atStart => exact ⟨at_, Nat.le_refl _, by omega, rfl, fun j h1 h2 => by omega⟩
        case round =>
          obtain ⟨q, hpq, hqs, rfl, hq⟩ := hrel
          have HQ := mkHid hq
          first | clear hq g1 g2 | clear hq g1
          by_cases hlq : q < s.size
          · have HBQ := mkHid (byt_eq s q hlq)
            by_cases k1 : lowI (((s[q]'hlq).toNat : Nat) : Int) = true
            · have HQ1 : Hid (∀ j, at_ ≤ j → j < q + 1 → (!alnum s j) = false) := fun j h1 h2 => by
                rcases (by omega : j < q ∨ j = q) with h | rfl
                · exact HQ.out j h1 h
                · unfold alnum; rw [HBQ.out, k1]; rfl
              clear HQ HBQ
              go_wp2_with (first | (go_at_call 55; refine (sLetter_any _ _).mono ?_; rintro e w' ⟨rfl, rfl⟩) | (go_at_call 56; refine (sDigit_any _ _).mono ?_; rintro e w' ⟨rfl, rfl⟩))
              go_round
              case rel => exact ⟨q + 1, by omega, by omega, by go_num, HQ1.out⟩
              case measure => simp [intOf]; omega
            · simp only [Bool.not_eq_true] at k1
              by_cases k2 : digI (((s[q]'hlq).toNat : Nat) : Int) = true
              · have HQ1 : Hid (∀ j, at_ ≤ j → j < q + 1 → (!alnum s j) = false) := fun j h1 h2 => by
                  rcases (by omega : j < q ∨ j = q) with h | rfl
                  · exact HQ.out j h1 h
                  · unfold alnum; rw [HBQ.out, k2]; simp
                clear HQ HBQ
                go_wp2_with (first | (go_at_call 55; refine (sLetter_any _ _).mono ?_; rintro e w' ⟨rfl, rfl⟩) | (go_at_call 56; refine (sDigit_any _ _).mono ?_; rintro e w' ⟨rfl, rfl⟩))
                go_round
                case rel => exact ⟨q + 1, by omega, by omega, by go_num, HQ1.out⟩
                case measure => simp [intOf]; omega
              · simp only [Bool.not_eq_true] at k2
                have HF : Hid (runE s at_ = q) := first_eq ⟨hpq, hqs, HQ.out, .inr (by show (!alnum s q) = true; unfold alnum; rw [HBQ.out, k1, k2]; rfl)⟩
                clear HQ HBQ
                go_wp2_with (first | (go_at_call 55; refine (sLetter_any _ _).mono ?_; rintro e w' ⟨rfl, rfl⟩) | (go_at_call 56; refine (sDigit_any _ _).mono ?_; rintro e w' ⟨rfl, rfl⟩))
                go_ret
                exact ⟨ret_int (by rw [HF.out]), Below.refl _ _⟩
          · have HF : Hid (runE s at_ = q) := first_eq ⟨hpq, hqs, HQ.out, .inl (by omega)⟩
            clear HQ
            go_wp2
            go_ret
            exact ⟨ret_int (by rw [HF.out]), Below.refl _ _⟩
    rw [HE.out]
    exact key
  · simp only [Bool.not_eq_true] at ha
    have hno : lowI (((s[at_]'hat).toNat : Nat) : Int) = false ∧ digI (((s[at_]'hat).toNat : Nat) : Int) = false := by
      unfold alnum at ha
      rw [HBY.out] at ha
      simpa using ha
    obtain ⟨g1, g2⟩ := hno
    by_cases h2 : (at_ : Int) + 1 < (s.size : Int)
    · by_cases hsg : signB (s.extract at_ (at_ + 2)) = true
      · have HE := mkHid (show endI s at_ = at_ + 2 by
          unfold endI
          rw [if_neg (by simp [ha]), if_pos ⟨by omega, hsg⟩])
        clear ha HBY
        go_enter Try.func40, Try.ntmps40
        go_wp2_with (first | (go_at_call 55; refine (sLetter_any _ _).mono ?_; rintro e w' ⟨rfl, rfl⟩) | (go_at_call 56; refine (sDigit_any _ _).mono ?_; rintro e w' ⟨rfl, rfl⟩) | (go_at_call 57; refine (sSign_any _ _).mono ?_; rintro e w1 ⟨rfl, hb1⟩))
        go_ret
        exact ⟨ret_int (by rw [HE.out]; omega), hb1⟩
      · have HE := mkHid (show endI s at_ = at_ + 1 by
          unfold endI
          rw [if_neg (by simp [ha]), if_neg (fun h => hsg h.2)])
        simp only [Bool.not_eq_true] at hsg
        clear ha HBY
        go_enter Try.func40, Try.ntmps40
        go_wp2_with (first | (go_at_call 55; refine (sLetter_any _ _).mono ?_; rintro e w' ⟨rfl, rfl⟩) | (go_at_call 56; refine (sDigit_any _ _).mono ?_; rintro e w' ⟨rfl, rfl⟩) | (go_at_call 57; refine (sSign_any _ _).mono ?_; rintro e w1 ⟨rfl, hb1⟩))
        go_ret
        exact ⟨ret_int (by rw [HE.out]; omega), hb1⟩
    · have HE := mkHid (show endI s at_ = at_ + 1 by
        unfold endI
        rw [if_neg (by simp [ha]), if_neg (fun h => h2 (by omega))])
      clear ha HBY
      go_enter Try.func40, Try.ntmps40
      go_wp2_with (first | (go_at_call 55; refine (sLetter_any _ _).mono ?_; rintro e w' ⟨rfl, rfl⟩) | (go_at_call 56; refine (sDigit_any _ _).mono ?_; rintro e w' ⟨rfl, rfl⟩))
      go_ret
      exact ⟨ret_int (by rw [HE.out]; omega), Below.refl _ _⟩
end Go.Proofs.Ythaehhndfahocaa
