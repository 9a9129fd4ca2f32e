/-
  PURE: numbers as texts, there and back.
-/
import Derived.Test.YtgkmpadeleebdaaDoorRt
import Derived.Lib.AtoiAll
import Derived.Lib.AtoiErrMem
import Derived.Lib.IndexMore
namespace Go.Proofs.YtgkmpadeleebdaaDoor
open Go.Lib

theorem decFrom_app : ∀ (l r : List UInt8) (acc : Nat), decFrom acc (l ++ r) = (decFrom acc l).bind (fun m => decFrom m r)
  | [], r, acc => by simp [decFrom]
  | b :: l, r, acc => by
    simp only [List.cons_append, decFrom]
    cases digitVal b with
    | none => rfl
    | some d => exact decFrom_app l r _
theorem digit_ofNat {d : Nat} (h : d < 10) : digitVal (UInt8.ofNat (48 + d)) = some d := by
  unfold digitVal
  have e : (UInt8.ofNat (48 + d)).toNat = 48 + d := by rw [UInt8.toNat_ofNat']; omega
  rw [e, if_pos ⟨by omega, by omega⟩]
  congr 1
  omega
theorem digit_back {b : UInt8} {d : Nat} (h : digitVal b = some d) : d < 10 ∧ b = UInt8.ofNat (48 + d) := by
  unfold digitVal at h
  split at h
  · rename_i hh
    simp at h
    subst h
    refine ⟨by omega, ?_⟩
    apply UInt8.toNat_inj.1
    rw [UInt8.toNat_ofNat']
    omega
  · cases h
theorem decFrom_dec (n : Nat) : decFrom 0 (decDigits n) = some n := by
  induction n using Nat.strongRecOn with
  | ind n ih =>
    rw [decDigits]
    split
    · rename_i h
      simp only [decFrom, digit_ofNat h]
      congr 1
      omega
    · rename_i h
      rw [decFrom_app, ih (n / 10) (by omega)]
      simp only [Option.bind_some, decFrom, digit_ofNat (show n % 10 < 10 by omega)]
      congr 1
      omega
theorem dec_ne (n : Nat) : decDigits n ≠ [] := by
  rw [decDigits]; split <;> simp
theorem decNat_dec (n : Nat) : decNat (decDigits n) = some n := by
  unfold decNat
  rw [if_neg (by simpa using dec_ne n)]
  exact decFrom_dec n
/-- No number but 0 begins with a nought. -/
theorem dec_head (n : Nat) (h1 : 1 ≤ n) : (decDigits n).head? ≠ some 48 := by
  induction n using Nat.strongRecOn with
  | ind n ih =>
    rw [decDigits]
    split
    · rename_i h
      intro e
      have e1 : UInt8.ofNat (48 + n) = 48 := by simpa using e
      have e2 : (UInt8.ofNat (48 + n)).toNat = 48 := by rw [e1]; rfl
      rw [UInt8.toNat_ofNat'] at e2
      omega
    · rename_i h
      intro e
      have hi := ih (n / 10) (by omega) (by omega)
      cases hd : decDigits (n / 10) with
      | nil => exact dec_ne _ hd
      | cons b l => rw [hd] at e hi; simp at e hi; exact hi e
theorem dec_next {acc d : Nat} (h : 1 ≤ acc) (hd : d < 10) : decDigits (acc * 10 + d) = decDigits acc ++ [UInt8.ofNat (48 + d)] := by
  rw [decDigits, dif_neg (by omega), show (acc * 10 + d) / 10 = acc by omega, show (acc * 10 + d) % 10 = d by omega]
theorem dec_more2 : ∀ (l : List UInt8) (acc n : Nat), 1 ≤ acc → decFrom acc l = some n → decDigits acc ++ l = decDigits n
  | [], acc, n, _, h => by simp [decFrom] at h; subst h; simp
  | b :: r, acc, n, ha, h => by
    simp only [decFrom] at h
    cases hb : digitVal b with
    | none => rw [hb] at h; cases h
    | some d =>
      rw [hb] at h
      obtain ⟨hd10, eb⟩ := digit_back hb
      have := dec_more2 r (acc * 10 + d) n (by omega) h
      rw [dec_next ha hd10, ← eb] at this
      simpa using this
/-- A row of digits that does not begin with a nought (or is one alone) is the text of its number. -/
theorem dec_of (l : List UInt8) (n : Nat) (hl : l ≠ []) (h : decFrom 0 l = some n) (h48 : 1 < l.length → l.head? ≠ some 48) : l = decDigits n := by
  cases l with
  | nil => exact absurd rfl hl
  | cons b r =>
    simp only [decFrom] at h
    cases hb : digitVal b with
    | none => rw [hb] at h; cases h
    | some d =>
      rw [hb] at h
      obtain ⟨hd10, eb⟩ := digit_back hb
      have h' : decFrom d r = some n := by simpa using h
      have e1 : decDigits d = [b] := by rw [decDigits, dif_pos hd10, eb]
      cases r with
      | nil => simp [decFrom] at h'; subst h'; exact e1.symm
      | cons c r =>
        have h0 := h48 (by simp)
        have hd1 : 1 ≤ d := by
          by_cases hz : d = 0
          · subst hz; subst eb; exact absurd rfl h0
          · omega
        have := dec_more2 (c :: r) d n hd1 h'
        rw [e1] at this
        simpa using this
theorem dec_all (n : Nat) : ∀ b ∈ decDigits n, 48 ≤ b.toNat ∧ b.toNat ≤ 57 := by
  induction n using Nat.strongRecOn with
  | ind n ih =>
    intro b hb
    rw [decDigits] at hb
    split at hb
    · rw [List.mem_singleton.1 hb, UInt8.toNat_ofNat']; omega
    · rcases List.mem_append.1 hb with h | h
      · exact ih (n / 10) (by omega) b h
      · rw [List.mem_singleton.1 h, UInt8.toNat_ofNat']; omega
theorem dec_len7 {n : Nat} (h : n ≤ 1000000) : (decDigits n).length ≤ 7 := by
  rw [decDigits_length]
  have k0 : ∀ m, m < 10 → nDigits m = 1 := fun m h => nDigits_small h
  have ks : ∀ m k, ¬ m < 10 → nDigits (m / 10) ≤ k → nDigits m ≤ k + 1 := fun m k h1 h2 => by rw [nDigits, dif_neg h1]; omega
  have l1 : ∀ m, m < 10 → nDigits m ≤ 1 := fun m h => by rw [k0 m h]; omega
  have l2 : ∀ m, m < 100 → nDigits m ≤ 2 := fun m h => by by_cases c : m < 10; have := l1 m c; omega; exact ks m 1 c (l1 _ (by omega))
  have l3 : ∀ m, m < 1000 → nDigits m ≤ 3 := fun m h => by by_cases c : m < 10; have := l1 m c; omega; exact ks m 2 c (l2 _ (by omega))
  have l4 : ∀ m, m < 10000 → nDigits m ≤ 4 := fun m h => by by_cases c : m < 10; have := l1 m c; omega; exact ks m 3 c (l3 _ (by omega))
  have l5 : ∀ m, m < 100000 → nDigits m ≤ 5 := fun m h => by by_cases c : m < 10; have := l1 m c; omega; exact ks m 4 c (l4 _ (by omega))
  have l6 : ∀ m, m < 1000000 → nDigits m ≤ 6 := fun m h => by by_cases c : m < 10; have := l1 m c; omega; exact ks m 5 c (l5 _ (by omega))
  by_cases c : n < 10
  · have := l1 n c; omega
  · exact ks n 6 c (l6 _ (by omega))
theorem itoa_back (n : Int) : atoi (itoa n) = some n := by
  unfold itoa
  by_cases h : n < 0
  · rw [if_pos h]
    simp only [atoi]
    rw [if_pos (by decide), decNat_dec]
    simp
    omega
  · rw [if_neg h]
    cases hd : decDigits n.toNat with
    | nil => exact absurd hd (dec_ne _)
    | cons b l =>
      have hb := dec_all n.toNat b (by rw [hd]; simp)
      simp only [atoi]
      rw [if_neg (by intro e; have := beq_iff_eq.1 e; subst this; revert hb; decide), if_neg (by intro e; have := beq_iff_eq.1 e; subst this; revert hb; decide), ← hd, decNat_dec]
      simp
      omega
theorem itoa_inj {m n : Int} (h : itoa m = itoa n) : m = n := by
  have := itoa_back m
  rw [h, itoa_back] at this
  exact (Option.some.inj this).symm
theorem itoa_all (n : Int) : ∀ b ∈ itoa n, b.toNat = 45 ∨ 48 ≤ b.toNat ∧ b.toNat ≤ 57 := by
  intro b hb
  unfold itoa at hb
  split at hb
  · rcases List.mem_cons.1 hb with rfl | h
    · exact .inl rfl
    · exact .inr (dec_all _ b h)
  · exact .inr (dec_all _ b hb)
theorem itoa_len {n : Int} (h0 : -1000000 ≤ n) (h1 : n ≤ 1000000) : (itoa n).length ≤ 8 := by
  unfold itoa
  split
  · have := dec_len7 (n := n.natAbs) (by omega); simp; omega
  · have := dec_len7 (n := n.toNat) (by omega); omega
theorem itoa_ne (n : Int) : itoa n ≠ [] := by
  unfold itoa; split
  · simp
  · exact dec_ne _
theorem atoiAll_itoa {n : Int} (h0 : -1000000 ≤ n) (h1 : n ≤ 1000000) : atoiAll (itoa n) = .ok n := by
  rw [atoiAll_short _ (by have := itoa_len h0 h1; omega), itoa_back]; rfl
end Go.Proofs.YtgkmpadeleebdaaDoor
