/-
  CONTRACTS of the specification's l01Number, l01Kind.
-/
import Derived.Test.YthaehhndfahocaaSpecb
namespace Go.Proofs.Ythaehhndfahocaa
open Go.RowKit
open Pl

theorem val_lt (s : ByteArray) (k : Nat) (h : ∀ j, j < k → digI (byt s j) = true) : val s k < 10 ^ k := by
  induction k with
  | zero => simp [val]
  | succ k ih =>
    have h1 := ih (fun j hj => h j (by omega))
    have h2 := (dig_iff _).1 (h k (by omega))
    rw [Int.pow_succ]
    simp only [val]; omega
theorem val_seven (s : ByteArray) (k : Nat) (hk : k ≤ 7) (h : ∀ j, j < k → digI (byt s j) = true) : val s k < 10000000 := by
  have h1 := val_lt s k h
  have h2 : (10 : Int) ^ k ≤ 10000000 := by
    rcases (by omega : k = 0 ∨ k = 1 ∨ k = 2 ∨ k = 3 ∨ k = 4 ∨ k = 5 ∨ k = 6 ∨ k = 7) with e | e | e | e | e | e | e | e <;> (subst e; decide)
  omega
theorem numV_neg {s : ByteArray} (h : ¬ numP s) : numV s = -1 := numV_no (numB_of (by simp [h]))

set_option maxHeartbeats 400000 in
theorem sNumber_any (s : ByteArray) (w : World) (hs : s.size ≤ maxLen) : Calls Try.prog 60 #[.string s] w fun e w' => e = .returned (.int .i64 (numV s)) ∧ w = w' := by
  unfold maxLen at hs
  by_cases h1 : (s.size : Int) < 1
  · have HN := mkHid (show numV s = -1 from numV_neg (by unfold numP; omega))
    go_enter Try.func60, Try.ntmps60
    go_wp2
    go_ret
    exact ⟨ret_int HN.out.symm, rfl⟩
  · by_cases h8 : 7 < (s.size : Int)
    · have HN := mkHid (show numV s = -1 from numV_neg (by
        rintro ⟨_, ha, hz, hb⟩
        have := val_long s s.size (by omega) ha (hz (by omega))
        omega))
      go_enter Try.func60, Try.ntmps60
      go_wp2
      go_ret
      exact ⟨ret_int HN.out.symm, rfl⟩
    · have hz : 0 < s.size := by omega
      by_cases hl : 1 < (s.size : Int) ∧ ((((s[0]'hz).toNat : Nat) : Int) == 48) = true
      · obtain ⟨hl1, hl2⟩ := hl
        have HN := mkHid (show numV s = -1 from numV_neg (by
          rintro ⟨_, ha, hz', hb⟩
          apply hz' (by omega)
          rw [byt_eq s 0 hz]
          simpa using hl2))
        go_enter Try.func60, Try.ntmps60
        go_wp2
        go_ret
        exact ⟨ret_int HN.out.symm, rfl⟩
      · have HZ := mkHid (show 1 < s.size → byt s 0 ≠ 48 from fun h h' => hl ⟨by omega, by rw [byt_eq s 0 hz] at h'; simpa using h'⟩)
        have key : Calls Try.prog 60 #[.string s] w fun e w' => e = .returned (.int .i64 (numV s)) ∧ w = w' := by
          have hl2 : 1 < (s.size : Int) → ((((s[0]'hz).toNat : Nat) : Int) == 48) = false := fun hl1 => by
            by_cases q : ((((s[0]'hz).toNat : Nat) : Int) == 48) = true
            · exact absurd ⟨hl1, q⟩ hl
            · simpa using q
          by_cases hl1 : 1 < (s.size : Int)
          all_goals
            first | replace hl2 := hl2 hl1 | clear hl2
            clear hl
            go_enter Try.func60, Try.ntmps60
            go_wp2
            go_loop [3, 4] (fun n i => ∃ k : Nat, k ≤ s.size ∧ i = .int .i64 k ∧ n = .int .i64 (val s k) ∧ ∀ j, j < k → digI (byt s j) = true) (fun _ i => s.size - (intOf i).toNat)
            case atStart => exact ⟨0, Nat.zero_le _, rfl, rfl, fun j hj => by omega⟩
            case round =>
              obtain ⟨k, hks, rfl, rfl, hall⟩ := hrel
              have hv0 := val_nonneg s k hall
              have hv1 := val_seven s k (by omega) hall
              have HA := mkHid hall
              clear hall
              by_cases hlt : k < s.size
              · have HE := mkHid (byt_eq s k hlt)
                by_cases g1 : digI (((s[k]'hlt).toNat : Nat) : Int) = true
                · have hb := (dig_iff _).1 g1
                  have HN := mkHid (show ∀ j, j < k + 1 → digI (byt s j) = true from fun j hj => by
                    rcases (by omega : j < k ∨ j = k) with h | rfl
                    · exact HA.out j h
                    · rw [HE.out]; exact g1)
                  have HV := mkHid (show val s (k + 1) = 10 * val s k + (((s[k]'hlt).toNat : Nat) : Int) - 48 by simp only [val]; rw [HE.out])
                  clear HA HE
                  go_wp2_with (go_at_call 56; refine (sDigit_any _ _).mono ?_; rintro e w' ⟨rfl, rfl⟩)
                  go_round
                  case rel => exact ⟨k + 1, by omega, by go_num, by rw [HV.out], HN.out⟩
                  case measure => simp [intOf]; omega
                · simp only [Bool.not_eq_true] at g1
                  have HN := mkHid (show numV s = -1 from numV_neg (by
                    rintro ⟨_, ha, _, _⟩
                    have := ha k hlt
                    rw [HE.out, g1] at this
                    cases this))
                  clear HA HE
                  go_wp2_with (go_at_call 56; refine (sDigit_any _ _).mono ?_; rintro e w' ⟨rfl, rfl⟩)
                  go_ret
                  exact ⟨ret_int HN.out.symm, rfl⟩
              · have HK : Hid (k = s.size) := show k = s.size by omega
                by_cases g2 : 1000000 < val s k
                · have HN := mkHid (show numV s = -1 from numV_neg (by
                    rintro ⟨_, ha, _, hb⟩
                    rw [← HK.out] at hb
                    omega))
                  clear HA
                  go_wp2
                  go_ret
                  exact ⟨ret_int HN.out.symm, rfl⟩
                · have HN := mkHid (show numV s = val s k by
                    have hp : numP s := by
                      refine ⟨by omega, fun j hj => HA.out j (by have := HK.out; omega), HZ.out, ?_⟩
                      rw [← HK.out]; omega
                    rw [(numV_yes (numB_of (b := true) (by simp [hp]))).1, ← HK.out])
                  clear HA
                  go_wp2
                  go_ret
                  exact ⟨ret_int HN.out.symm, rfl⟩
        exact key

set_option maxHeartbeats 400000 in
theorem sKind_any (s : ByteArray) (w : World) (hs : s.size ≤ maxLen) : Calls Try.prog 41 #[.string s] w fun e w' => e = .returned (.int .i64 (kindI s)) ∧ Below w.heap.size w w' := by
  by_cases h1 : keyB s = true
  · have HK := mkHid (show kindI s = 4 by simp [kindI, h1])
    go_enter Try.func41, Try.ntmps41
    go_wp2_with (go_at_call 58; refine (sKey_any _ _).mono ?_; rintro e w1 ⟨rfl, hb1⟩)
    go_ret
    exact ⟨ret_int HK.out.symm, hb1⟩
  · simp only [Bool.not_eq_true] at h1
    by_cases h2 : nameB s = true
    · have HK := mkHid (show kindI s = 1 by simp [kindI, h1, h2])
      go_enter Try.func41, Try.ntmps41
      go_wp2_with (first | (go_at_call 58; refine (sKey_any _ _).mono ?_; rintro e w1 ⟨rfl, hb1⟩) | (go_at_call 59; refine (sName_any _ _ hs).mono ?_; rintro e w2 ⟨rfl, hb2⟩))
      go_ret
      exact ⟨ret_int HK.out.symm, below_step hb1 hb2⟩
    · simp only [Bool.not_eq_true] at h2
      by_cases h3 : numB s = true
      · have HK := mkHid (show kindI s = 2 by simp [kindI, h1, h2, h3])
        have hv := (numV_yes h3).2
        clear h3
        go_enter Try.func41, Try.ntmps41
        go_wp2_with (first | (go_at_call 58; refine (sKey_any _ _).mono ?_; rintro e w1 ⟨rfl, hb1⟩) | (go_at_call 59; refine (sName_any _ _ hs).mono ?_; rintro e w2 ⟨rfl, hb2⟩) | (go_at_call 60; refine (sNumber_any _ _ hs).mono ?_; rintro e w3 ⟨rfl, rfl⟩))
        go_ret
        exact ⟨ret_int HK.out.symm, below_step hb1 hb2⟩
      · simp only [Bool.not_eq_true] at h3
        have hv : ¬ 0 ≤ numV s := by rw [numV_no h3]; decide
        by_cases h4 : signB s = true
        · have HK := mkHid (show kindI s = 3 by simp [kindI, h1, h2, h3, h4])
          clear h3
          go_enter Try.func41, Try.ntmps41
          go_wp2_with (first | (go_at_call 58; refine (sKey_any _ _).mono ?_; rintro e w1 ⟨rfl, hb1⟩) | (go_at_call 59; refine (sName_any _ _ hs).mono ?_; rintro e w2 ⟨rfl, hb2⟩) | (go_at_call 60; refine (sNumber_any _ _ hs).mono ?_; rintro e w3 ⟨rfl, rfl⟩) | (go_at_call 57; refine (sSign_any _ _).mono ?_; rintro e w3 ⟨rfl, hb3⟩))
          go_ret
          exact ⟨ret_int HK.out.symm, below_step (below_step hb1 hb2) hb3⟩
        · simp only [Bool.not_eq_true] at h4
          have HK := mkHid (show kindI s = 0 by simp [kindI, h1, h2, h3, h4])
          clear h3
          go_enter Try.func41, Try.ntmps41
          go_wp2_with (first | (go_at_call 58; refine (sKey_any _ _).mono ?_; rintro e w1 ⟨rfl, hb1⟩) | (go_at_call 59; refine (sName_any _ _ hs).mono ?_; rintro e w2 ⟨rfl, hb2⟩) | (go_at_call 60; refine (sNumber_any _ _ hs).mono ?_; rintro e w3 ⟨rfl, rfl⟩) | (go_at_call 57; refine (sSign_any _ _).mono ?_; rintro e w3 ⟨rfl, hb3⟩))
          go_ret
          exact ⟨ret_int HK.out.symm, below_step (below_step hb1 hb2) hb3⟩
end Go.Proofs.Ythaehhndfahocaa
