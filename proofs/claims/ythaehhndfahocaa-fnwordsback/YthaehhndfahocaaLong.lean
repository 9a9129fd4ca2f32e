/-
  CONTRACTS of the program's longestSign, longestWord, and of strings.Clone.
-/
import Derived.Test.YthaehhndfahocaaFound
namespace Go.Proofs.Ythaehhndfahocaa
open Go.RowKit
open Pl

def signT (t : ByteArray) : ByteArray := if 2 ≤ t.size ∧ signB (t.extract 0 2) = true then t.extract 0 2 else if signB (t.extract 0 1) = true then t.extract 0 1 else ⟨#[]⟩

theorem signT_at {t : ByteArray} {n : Nat} (h0 : 0 < n) (h2 : n ≤ 2) (hn : n ≤ t.size) (hs : signB (t.extract 0 n) = true) (hb : n ≤ 1 → ¬(2 ≤ t.size ∧ signB (t.extract 0 2) = true)) : signT t = t.extract 0 n := by
  unfold signT
  by_cases e : n = 2
  · subst e; rw [if_pos ⟨hn, hs⟩]
  · have e1 : n = 1 := by omega
    subst e1
    rw [if_neg (hb (Nat.le_refl _)), if_pos hs]

set_option maxHeartbeats 400000 in
theorem longestSign_any (t : ByteArray) (w : World) (hs : t.size ≤ 4000) (h1 : 1 ≤ t.size) : Calls Try.prog 49 #[.string t] w fun e w' => e = .returned (.string (signT t)) ∧ w = w' := by
  obtain ⟨m, hm⟩ : ∃ m : Nat, min (2 : Int) (t.size : Int) = m := ⟨min 2 t.size, by omega⟩
  have hm2 : m ≤ 2 ∧ m ≤ t.size ∧ (m ≤ 1 → ¬ 2 ≤ t.size) ∧ m ≠ 0 := by omega
  have HM := mkHid hm2
  clear hm2
  go_enter Try.func49, Try.ntmps49
  go_wp2
  go_loop [3] (fun v => ∃ n : Nat, v = .int .i64 n ∧ n ≤ 2 ∧ n ≤ t.size ∧ (n ≤ 1 → ¬(2 ≤ t.size ∧ signB (t.extract 0 2) = true)) ∧ (n = 0 → signB (t.extract 0 1) = false)) (fun v => (intOf v).toNat)
  case atStart => exact ⟨m, rfl, HM.out.1, HM.out.2.1, fun h h' => HM.out.2.2.1 h h'.1, fun h => absurd h HM.out.2.2.2⟩
  case round =>
    obtain ⟨n, rfl, hn2, hns, hb, hz⟩ := hrel
    have HB := mkHid hb
    have HZ := mkHid hz
    clear hb hz hm HM
    by_cases h0 : 0 < (n : Int)
    · by_cases hsg : signB (t.extract 0 n) = true
      · have HT := mkHid (signT_at (by omega) hn2 hns hsg HB.out)
        go_wp2_with (go_at_call 52; refine (isSign_any _ _).mono ?_; rintro e w' ⟨rfl, rfl⟩)
        go_ret
        exact ⟨ret_str HT.out.symm, rfl⟩
      · simp only [Bool.not_eq_true] at hsg
        have HN : Hid ((n - 1 ≤ 1 → ¬(2 ≤ t.size ∧ signB (t.extract 0 2) = true)) ∧ (n - 1 = 0 → signB (t.extract 0 1) = false)) := by
          refine ⟨fun h h' => ?_, fun h => ?_⟩
          · by_cases e : n = 2
            · subst e; rw [hsg] at h'; exact absurd h'.2 (by decide)
            · exact HB.out (by omega) h'
          · have e : n = 1 := by omega
            subst e; exact hsg
        clear HB HZ
        go_wp2_with (go_at_call 52; refine (isSign_any _ _).mono ?_; rintro e w' ⟨rfl, rfl⟩)
        go_round
        case rel => exact ⟨n - 1, by go_num, by omega, by omega, HN.out.1, HN.out.2⟩
        case measure => simp [intOf]; omega
    · have HT := mkHid (show signT t = ⟨#[]⟩ by
        unfold signT
        rw [if_neg (HB.out (by omega)), if_neg (by rw [HZ.out (by omega)]; decide)])
      clear HB HZ
      go_wp2
      go_ret
      exact ⟨ret_str HT.out.symm, rfl⟩

set_option maxHeartbeats 400000 in
theorem clone_any (t : ByteArray) (w : World) (hs : t.size ≤ 4000) : Calls Try.prog 37 #[.string t] w fun e w' => e = .returned (.string t) ∧ Below w.heap.size w w' := by
  go_enter Try.func37, Try.ntmps37
  go_wp2_with (go_at_call 54; refine (Try.stringslite_Clone t _ (by omega)).mono ?_; rintro e w1 ⟨rfl, hb1⟩)
  go_ret
  exact ⟨rfl, hb1⟩

def foundT (t : ByteArray) : ByteArray := if alnum t 0 then t.extract 0 (runE t 0) else signT t

set_option maxHeartbeats 1000000 in
theorem longestWord_any (t : ByteArray) (w : World) (hs : t.size ≤ 4000) (h1 : 1 ≤ t.size) : Calls Try.prog 35 #[.string t] w fun e w' => e = .returned (.string (foundT t)) ∧ Below w.heap.size w w' := by
  go_enter Try.func35, Try.ntmps35
  go_wp2
  go_step3
  go_wp2
  go_step3
  go_wp2
  go_loopw [3] (fun v w' => ∃ pos : Nat, w' = w.iter t pos ∧ v = .int .i64 pos ∧ pos ≤ t.size ∧ ∀ j, 0 ≤ j → j < pos → (!alnum t j) = false) (fun _ w' => t.size - w'.iterPos w.heap.size)
  case atStart => exact ⟨0, rfl, rfl, Nat.zero_le _, fun j _ hj => by omega⟩
  case round =>
    obtain ⟨pos, rfl, rfl, hps, hall⟩ := hrel
    have HA := mkHid hall
    clear hall
    by_cases hp : pos < t.size
    · obtain ⟨r, d, hnx, hd1, hl, hg, hr⟩ := next_rune (P := Try.prog) w t pos hp
      by_cases ga : alnum t pos = true
      · have HA1 : Hid (∀ j, 0 ≤ j → j < pos + 1 → (!alnum t j) = false) := fun j h0 hj => by
          rcases (by omega : j < pos ∨ j = pos) with h | rfl
          · exact HA.out j h0 h
          · rw [ga]; rfl
        have hlt : byt t pos < 128 := by
          unfold alnum at ga
          rw [Bool.or_eq_true, low_iff, dig_iff] at ga
          omega
        have hd : d = 1 := (hr hlt).2
        subst hd
        have hor : lowI r = true ∨ (lowI r = false ∧ digI r = true) := by
          unfold alnum at ga
          rw [← hl, ← hg] at ga
          revert ga
          cases lowI r <;> simp
        clear hr hl hg hlt ga HA
        rcases hor with g1 | ⟨g1, g2⟩
        · go_wp2_with (first | (go_at_call 47; refine (isLetter_any _ _).mono ?_; rintro e w' ⟨rfl, rfl⟩) | (go_at_call 48; refine (isDigit_any _ _).mono ?_; rintro e w' ⟨rfl, rfl⟩))
          go_roundw
          case rel => exact ⟨pos + 1, rfl, by go_num, by omega, HA1.out⟩
          case measure => simp; omega
        · go_wp2_with (first | (go_at_call 47; refine (isLetter_any _ _).mono ?_; rintro e w' ⟨rfl, rfl⟩) | (go_at_call 48; refine (isDigit_any _ _).mono ?_; rintro e w' ⟨rfl, rfl⟩))
          go_roundw
          case rel => exact ⟨pos + 1, rfl, by go_num, by omega, HA1.out⟩
          case measure => simp; omega
      · simp only [Bool.not_eq_true] at ga
        have hno : lowI r = false ∧ digI r = false := by
          unfold alnum at ga
          rw [← hl, ← hg] at ga
          simpa using ga
        obtain ⟨g1, g2⟩ := hno
        have HR : Hid (runE t 0 = pos) := first_eq ⟨Nat.zero_le _, hps, HA.out, .inr (by show (!alnum t pos) = true; rw [ga]; rfl)⟩
        clear hr hl hg
        by_cases h0 : ((pos : Int) == 0) = true
        · have HF : Hid (foundT t = signT t) := by
            show _ = _
            have e : pos = 0 := by simpa using h0
            subst e
            unfold foundT; rw [if_neg (by simp [ga])]
          clear ga HA HR
          go_wp2_with (first | (go_at_call 47; refine (isLetter_any _ _).mono ?_; rintro e w' ⟨rfl, rfl⟩) | (go_at_call 48; refine (isDigit_any _ _).mono ?_; rintro e w' ⟨rfl, rfl⟩) | (go_at_call 49; refine (longestSign_any t _ hs h1).mono ?_; rintro e w' ⟨rfl, rfl⟩))
          try rw [Exit.noGoto_ret]
          go_ret
          exact ⟨ret_str HF.out.symm, below_iter _ _ _⟩
        · simp only [Bool.not_eq_true] at h0
          have HF : Hid (foundT t = t.extract 0 pos) := by
            show _ = _
            have e : pos ≠ 0 := by simpa using h0
            have h00 := HA.out 0 (Nat.le_refl _) (by omega)
            unfold foundT
            rw [if_pos (by simpa using h00), HR.out]
          clear ga HA HR
          go_wp2_with (first | (go_at_call 47; refine (isLetter_any _ _).mono ?_; rintro e w' ⟨rfl, rfl⟩) | (go_at_call 48; refine (isDigit_any _ _).mono ?_; rintro e w' ⟨rfl, rfl⟩) | (go_at_call 49; refine (longestSign_any t _ hs h1).mono ?_; rintro e w' ⟨rfl, rfl⟩))
          try rw [Exit.noGoto_ret]
          go_ret
          exact ⟨ret_str HF.out.symm, below_iter _ _ _⟩
    · have hnx : ∀ ty, (Instr.next (.pointer (some ⟨w.heap.size, 0, none⟩)) true ty).run Try.prog (w.iter t pos) = _ := fun ty => run_next_end w t pos ty hp
      have HR : Hid (runE t 0 = pos) := first_eq ⟨Nat.zero_le _, hps, HA.out, .inl (by omega)⟩
      have h0 : ((pos : Int) == 0) = false := by simp; omega
      have HF : Hid (foundT t = t.extract 0 pos) := by
        show _ = _
        have h00 := HA.out 0 (Nat.le_refl _) (by omega)
        unfold foundT
        rw [if_pos (by simpa using h00), HR.out]
      clear HA HR
      go_wp2
      try rw [Exit.noGoto_ret]
      go_ret
      exact ⟨ret_str HF.out.symm, below_iter _ _ _⟩
end Go.Proofs.Ythaehhndfahocaa
