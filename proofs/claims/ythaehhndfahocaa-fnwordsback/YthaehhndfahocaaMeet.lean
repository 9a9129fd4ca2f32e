/-
  PLAIN FACTS: what the program takes for the next word, against what the specification takes; how far a step over a rune goes.
-/
import Derived.Test.YthaehhndfahocaaLong
namespace Go.Proofs.Ythaehhndfahocaa
open Go.RowKit
open Pl

theorem sign_ascii {t : ByteArray} (h : signB t = true) (k : Nat) : byt t k < 128 := by
  unfold signB signs at h
  simp only [List.contains_cons, Bool.or_eq_true, beq_iff_eq, List.contains_nil, Bool.false_eq_true, or_false] at h
  rcases h with h | h | h | h | h | h | h | h | h | h | h | h | h | h | h | h | h | h <;>
    (rw [byt_list, ← Lib.toList_data, h]; rcases k with _ | _ | k <;> simp)
theorem empty_byt (k : Nat) : byt ⟨#[]⟩ k = 0 := by
  rw [byt_list]; rfl
theorem empty_sign : signB ⟨#[]⟩ = false := by
  unfold signB
  rw [Lib.toList_data]; rfl
theorem kind_zero {t : ByteArray} (h1 : lowI (byt t 0) = false) (h2 : digI (byt t 0) = false) (h3 : signB t = false) : kindI t = 0 := by
  have hk : keyB t = false := by
    by_cases k : keyB t = true
    · rw [(key_low k).1] at h1; cases h1
    · simpa using k
  have hn : nameB t = false := nameB_of (by
    simp only [Bool.false_eq_true, iff_false]
    rintro ⟨a, _, _, d⟩
    rcases d 0 (by omega) with e | e
    · rw [h1] at e; cases e
    · exact e.1 rfl)
  have hu : numB t = false := numB_of (by
    simp only [Bool.false_eq_true, iff_false]
    rintro ⟨a, d, _⟩
    have := d 0 (by omega)
    rw [h2] at this; cases this)
  simp [kindI, hk, hn, hu, h3]
theorem empty_kind : kindI ⟨#[]⟩ = 0 := kind_zero (by rw [empty_byt]; rfl) (by rw [empty_byt]; rfl) empty_sign

theorem rest_size {s : ByteArray} {p : Nat} : (rest s p).size = s.size - p := size_ext s p s.size (Nat.le_refl _)
theorem rest_ext {s : ByteArray} {p n : Nat} (h : p + n ≤ s.size) : (rest s p).extract 0 n = s.extract p (p + n) := ext_ext s p s.size 0 n h
theorem rest_alnum {s : ByteArray} {p : Nat} (h : p < s.size) : alnum (rest s p) 0 = alnum s p := alnum_ext s p s.size 0 (by omega)

theorem found_alnum {s : ByteArray} {p : Nat} (h : p < s.size) (ha : alnum s p = true) : foundT (rest s p) = s.extract p (endI s p) ∧ ∀ j, p ≤ j → j < endI s p → byt s j < 128 := by
  have e1 : endI s p = runE s p := by simp [endI, ha]
  have e2 := runE_rest (s := s) (p := p) (by omega)
  obtain ⟨_, b, c, _⟩ := first_is (fun j => !alnum s j) s.size p (by omega)
  have b' : runE s p ≤ s.size := b
  refine ⟨?_, fun j h1 h2 => ?_⟩
  · unfold foundT
    rw [if_pos (by rw [rest_alnum h]; exact ha), rest_ext (by omega), e2, e1]
  · have : (!alnum s j) = false := c j h1 (by rw [e1] at h2; exact h2)
    have h3 : alnum s j = true := by simpa using this
    unfold alnum at h3
    rw [Bool.or_eq_true, low_iff, dig_iff] at h3
    omega
theorem found_sign {s : ByteArray} {p : Nat} (h : p < s.size) (ha : alnum s p = false) :
    (kindI (s.extract p (endI s p)) = 0 ∧ kindI (foundT (rest s p)) = 0) ∨ (foundT (rest s p) = s.extract p (endI s p) ∧ ∀ j, p ≤ j → j < endI s p → byt s j < 128) := by
  have hf : foundT (rest s p) = signT (rest s p) := by unfold foundT; rw [if_neg (by rw [rest_alnum h, ha]; decide)]
  have hz := rest_size (s := s) (p := p)
  by_cases h2 : p + 1 < s.size ∧ signB (s.extract p (p + 2)) = true
  · right
    have e1 : endI s p = p + 2 := by unfold endI; rw [if_neg (by simp [ha]), if_pos h2]
    rw [hf, e1]
    refine ⟨?_, fun j h3 h4 => ?_⟩
    · unfold signT
      rw [rest_ext (by omega), if_pos ⟨by omega, h2.2⟩]
    · have := sign_ascii h2.2 (j - p)
      rw [byt_ext s p (p + 2) (j - p) (by omega), show p + (j - p) = j by omega] at this
      exact this
  · have e1 : endI s p = p + 1 := by unfold endI; rw [if_neg (by simp [ha]), if_neg h2]
    have hb : byt (s.extract p (p + 1)) 0 = byt s p := byt_ext s p (p + 1) 0 (by omega)
    have hs2 : ¬ (2 ≤ (rest s p).size ∧ signB ((rest s p).extract 0 2) = true) := by
      rintro ⟨a, b⟩
      rw [rest_ext (by omega)] at b
      exact h2 ⟨by omega, b⟩
    rw [hf, e1]
    unfold signT
    rw [if_neg hs2, rest_ext (by omega)]
    by_cases h1 : signB (s.extract p (p + 1)) = true
    · right
      rw [if_pos h1]
      refine ⟨rfl, fun j h3 h4 => ?_⟩
      have := sign_ascii h1 0
      rw [hb] at this
      rwa [show j = p by omega]
    · left
      rw [if_neg h1]
      refine ⟨kind_zero ?_ ?_ (by simpa using h1), empty_kind⟩
      · rw [hb]; unfold alnum at ha; simp at ha; exact ha.1
      · rw [hb]; unfold alnum at ha; simp at ha; exact ha.2
theorem found_yes {s : ByteArray} {p : Nat} (h : p < s.size) (hk : kindI (s.extract p (endI s p)) ≠ 0) : foundT (rest s p) = s.extract p (endI s p) ∧ ∀ j, p ≤ j → j < endI s p → byt s j < 128 := by
  by_cases ha : alnum s p = true
  · exact found_alnum h ha
  · rcases found_sign h (by simpa using ha) with h1 | h1
    · exact absurd h1.1 hk
    · exact h1
theorem found_no {s : ByteArray} {p : Nat} (h : p < s.size) (hk : kindI (s.extract p (endI s p)) = 0) : kindI (foundT (rest s p)) = 0 := by
  by_cases ha : alnum s p = true
  · rw [(found_alnum h ha).1]; exact hk
  · rcases found_sign h (by simpa using ha) with h1 | h1
    · exact h1.2
    · rw [h1.1]; exact hk

/-- The bytes behind a rune's first one are none of ASCII. -/
theorem decode_cont (s : ByteArray) (p : Nat) : ∀ j, 1 ≤ j → j < (Utf8.decode s p).2 → p + j < s.size ∧ 128 ≤ byt s (p + j) := by
  have key : ∀ k, (p + k < s.size && (s.get! (p + k)).toNat / 64 == 2) = true → p + k < s.size ∧ 128 ≤ byt s (p + k) := fun k h => by
    rw [Bool.and_eq_true, decide_eq_true_eq, beq_iff_eq] at h
    refine ⟨h.1, ?_⟩
    rw [byt_eq s (p + k) h.1]
    have e : s.get! (p + k) = s[p + k]'h.1 := get_at s (p + k) h.1
    rw [e] at h
    omega
  intro j h1 h2
  simp only [Utf8.decode] at h2
  repeat' split at h2
  all_goals first
    | (simp at h2; omega)
    | (rename_i hc _; simp only [Bool.and_eq_true] at hc; rcases (by simp at h2; omega : j = 1 ∨ j = 2 ∨ j = 3) with rfl | rfl | rfl <;> (try (simp at h2; done)) <;> (apply key; simp_all))
end Go.Proofs.Ythaehhndfahocaa
