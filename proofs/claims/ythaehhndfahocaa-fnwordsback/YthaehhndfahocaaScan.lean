/-
  PLAIN FACTS on the words of a text: where blanks end, where a word ends, the words one by one.
-/
import Derived.Test.YthaehhndfahocaaText
namespace Go.Proofs.Ythaehhndfahocaa
open Go.RowKit
open Pl

/-- The first place from at on where p holds, or n. -/
def firstF (p : Nat → Bool) (n : Nat) : Nat → Nat → Nat
  | 0, at_ => at_
  | f + 1, at_ => if at_ < n then (if p at_ then at_ else firstF p n f (at_ + 1)) else at_
def first (p : Nat → Bool) (n at_ : Nat) : Nat := firstF p n (n - at_) at_
def IsFirst (p : Nat → Bool) (n at_ e : Nat) : Prop := at_ ≤ e ∧ e ≤ n ∧ (∀ j, at_ ≤ j → j < e → p j = false) ∧ (e = n ∨ p e = true)
theorem firstF_is (p : Nat → Bool) (n : Nat) (f at_ : Nat) (h : at_ ≤ n) (hf : n - at_ ≤ f) : IsFirst p n at_ (firstF p n f at_) := by
  induction f generalizing at_ with
  | zero => have : at_ = n := by omega
            subst this; exact ⟨Nat.le_refl _, Nat.le_refl _, fun j h1 h2 => by simp [firstF] at h2; omega, .inl rfl⟩
  | succ f ih =>
    simp only [firstF]
    by_cases h1 : at_ < n
    · rw [if_pos h1]
      by_cases h2 : p at_ = true
      · rw [if_pos h2]
        exact ⟨Nat.le_refl _, h, fun j a b => by omega, .inr h2⟩
      · rw [if_neg h2]
        obtain ⟨a, b, c, d⟩ := ih (at_ + 1) (by omega) (by omega)
        refine ⟨by omega, b, fun j hj hj' => ?_, d⟩
        by_cases e : j = at_
        · subst e; simpa using h2
        · exact c j (by omega) hj'
    · rw [if_neg h1]
      exact ⟨Nat.le_refl _, h, fun j a b => by omega, .inl (by omega)⟩
theorem first_is (p : Nat → Bool) (n at_ : Nat) (h : at_ ≤ n) : IsFirst p n at_ (first p n at_) := firstF_is p n _ at_ h (Nat.le_refl _)
theorem first_eq {p : Nat → Bool} {n at_ e : Nat} (h : IsFirst p n at_ e) : first p n at_ = e := by
  obtain ⟨a, b, c, d⟩ := h
  obtain ⟨a', b', c', d'⟩ := first_is p n at_ (by omega)
  rcases Nat.lt_trichotomy (first p n at_) e with hlt | heq | hgt
  · have := c _ a' hlt
    rcases d' with h | h
    · omega
    · rw [h] at this; cases this
  · exact heq
  · have := c' _ a hgt
    rcases d with h | h
    · omega
    · rw [h] at this; cases this

def alnum (s : ByteArray) (k : Nat) : Bool := lowI (byt s k) || digI (byt s k)
def runE (s : ByteArray) (at_ : Nat) : Nat := first (fun j => !alnum s j) s.size at_
def noteE (s : ByteArray) (at_ : Nat) : Nat := first (fun j => byt s j == 10) s.size at_
def blankB (s : ByteArray) (k : Nat) : Bool := byt s k == 32 || byt s k == 10

theorem noteE_gt {s : ByteArray} {at_ : Nat} (h : at_ < s.size) (h35 : byt s at_ = 35) : at_ < noteE s at_ := by
  obtain ⟨a, b, c, d⟩ := first_is (fun j => byt s j == 10) s.size at_ (by omega)
  rcases Nat.lt_or_ge at_ (noteE s at_) with h1 | h1
  · exact h1
  · have e : noteE s at_ = at_ := by have : at_ ≤ noteE s at_ := a; omega
    have d' : noteE s at_ = s.size ∨ (byt s (noteE s at_) == 10) = true := d
    rw [e, h35] at d'
    simp at d'
    omega
theorem noteE_le {s : ByteArray} {at_ : Nat} (h : at_ ≤ s.size) : noteE s at_ ≤ s.size := (first_is _ _ _ h).2.1

def skipF (s : ByteArray) : Nat → Nat → Nat
  | 0, at_ => at_
  | f + 1, at_ => if at_ < s.size then (if blankB s at_ then skipF s f (at_ + 1) else if byt s at_ = 35 then skipF s f (noteE s at_) else at_) else at_
def skipI (s : ByteArray) (at_ : Nat) : Nat := skipF s (s.size - at_) at_
theorem skipF_fuel (s : ByteArray) (f g at_ : Nat) (hf : s.size - at_ ≤ f) (hg : s.size - at_ ≤ g) : skipF s f at_ = skipF s g at_ := by
  induction f generalizing g at_ with
  | zero =>
    cases g with
    | zero => rfl
    | succ g => simp only [skipF]; rw [if_neg (by omega)]
  | succ f ih =>
    cases g with
    | zero => simp only [skipF]; rw [if_neg (by omega)]
    | succ g =>
      simp only [skipF]
      by_cases h : at_ < s.size
      · rw [if_pos h, if_pos h]
        by_cases hb : blankB s at_ = true
        · rw [if_pos hb, if_pos hb]; exact ih g _ (by omega) (by omega)
        · rw [if_neg hb, if_neg hb]
          by_cases h35 : byt s at_ = 35
          · rw [if_pos h35, if_pos h35]
            have := noteE_gt h h35
            exact ih g _ (by omega) (by omega)
          · rw [if_neg h35, if_neg h35]
      · rw [if_neg h, if_neg h]
theorem skip_blank {s : ByteArray} {at_ : Nat} (h : at_ < s.size) (hb : blankB s at_ = true) : skipI s at_ = skipI s (at_ + 1) := by
  unfold skipI
  obtain ⟨f, hf⟩ : ∃ f, s.size - at_ = f + 1 := ⟨s.size - at_ - 1, by omega⟩
  rw [hf]; simp only [skipF]; rw [if_pos h, if_pos hb]
  exact skipF_fuel s _ _ _ (by omega) (by omega)
theorem skip_note {s : ByteArray} {at_ : Nat} (h : at_ < s.size) (h35 : byt s at_ = 35) : skipI s at_ = skipI s (noteE s at_) := by
  have hb : ¬ blankB s at_ = true := by unfold blankB; rw [h35]; decide
  unfold skipI
  obtain ⟨f, hf⟩ : ∃ f, s.size - at_ = f + 1 := ⟨s.size - at_ - 1, by omega⟩
  rw [hf]; simp only [skipF]; rw [if_pos h, if_neg hb, if_pos h35]
  have := noteE_gt h h35
  exact skipF_fuel s _ _ _ (by omega) (by omega)
theorem skip_stop {s : ByteArray} {at_ : Nat} (h : at_ < s.size) (hb : blankB s at_ = false) (h35 : byt s at_ ≠ 35) : skipI s at_ = at_ := by
  unfold skipI
  obtain ⟨f, hf⟩ : ∃ f, s.size - at_ = f + 1 := ⟨s.size - at_ - 1, by omega⟩
  rw [hf]; simp only [skipF]; rw [if_pos h, if_neg (by simp [hb]), if_neg h35]
theorem skip_end {s : ByteArray} {at_ : Nat} (h : ¬ at_ < s.size) : skipI s at_ = at_ := by
  unfold skipI
  rw [show s.size - at_ = 0 by omega]; rfl
theorem skip_ge (s : ByteArray) (at_ : Nat) : at_ ≤ skipI s at_ := by
  unfold skipI
  generalize hf : s.size - at_ = f
  induction f using Nat.strongRecOn generalizing at_ with
  | _ f ih =>
    by_cases h : at_ < s.size
    · by_cases hb : blankB s at_ = true
      · have e := skip_blank h hb
        unfold skipI at e
        rw [← hf, e]
        have := ih (s.size - (at_ + 1)) (by omega) (at_ + 1) rfl
        omega
      · by_cases h35 : byt s at_ = 35
        · have e := skip_note h h35
          have hg := noteE_gt h h35
          unfold skipI at e
          rw [← hf, e]
          have := ih (s.size - noteE s at_) (by omega) (noteE s at_) rfl
          omega
        · have e := skip_stop h (by simpa using hb) h35
          unfold skipI at e
          rw [← hf, e]; exact Nat.le_refl _
    · have e := skip_end h
      unfold skipI at e
      rw [← hf, e]; exact Nat.le_refl _
theorem skip_le {s : ByteArray} {at_ : Nat} (h : at_ ≤ s.size) : skipI s at_ ≤ s.size := by
  generalize hf : s.size - at_ = f
  induction f using Nat.strongRecOn generalizing at_ with
  | _ f ih =>
    by_cases h1 : at_ < s.size
    · by_cases hb : blankB s at_ = true
      · rw [skip_blank h1 hb]
        exact ih (s.size - (at_ + 1)) (by omega) (by omega) rfl
      · by_cases h35 : byt s at_ = 35
        · rw [skip_note h1 h35]
          have hg := noteE_gt h1 h35
          exact ih (s.size - noteE s at_) (by omega) (noteE_le h) rfl
        · rw [skip_stop h1 (by simpa using hb) h35]; exact h
    · rw [skip_end h1]; exact h
/-- Where it stops there is no blank. -/
theorem skip_at {s : ByteArray} {at_ : Nat} (h : skipI s at_ < s.size) : blankB s (skipI s at_) = false ∧ byt s (skipI s at_) ≠ 35 := by
  generalize hf : s.size - at_ = f
  induction f using Nat.strongRecOn generalizing at_ with
  | _ f ih =>
    by_cases h1 : at_ < s.size
    · by_cases hb : blankB s at_ = true
      · rw [skip_blank h1 hb] at h ⊢
        exact ih (s.size - (at_ + 1)) (by omega) h rfl
      · by_cases h35 : byt s at_ = 35
        · rw [skip_note h1 h35] at h ⊢
          have hg := noteE_gt h1 h35
          exact ih (s.size - noteE s at_) (by omega) h rfl
        · rw [skip_stop h1 (by simpa using hb) h35]
          exact ⟨by simpa using hb, h35⟩
    · rw [skip_end h1] at h; omega

/-- Where that ends which could be a word at a place. -/
def endI (s : ByteArray) (at_ : Nat) : Nat := if alnum s at_ then runE s at_ else if at_ + 1 < s.size ∧ signB (s.extract at_ (at_ + 2)) = true then at_ + 2 else at_ + 1
theorem runE_gt {s : ByteArray} {at_ : Nat} (h : at_ < s.size) (ha : alnum s at_ = true) : at_ < runE s at_ := by
  obtain ⟨a, b, c, d⟩ := first_is (fun j => !alnum s j) s.size at_ (by omega)
  rcases Nat.lt_or_ge at_ (runE s at_) with h1 | h1
  · exact h1
  · have e : runE s at_ = at_ := by have : at_ ≤ runE s at_ := a; omega
    have d' : runE s at_ = s.size ∨ (!alnum s (runE s at_)) = true := d
    rw [e, ha] at d'
    simp at d'
    omega
theorem endI_gt {s : ByteArray} {at_ : Nat} (h : at_ < s.size) : at_ < endI s at_ ∧ endI s at_ ≤ s.size := by
  unfold endI
  split
  · rename_i ha
    exact ⟨runE_gt h ha, (first_is _ _ _ (by omega)).2.1⟩
  · split <;> omega

/-- The words from a place on, behind those that were read; code and place of the fault. -/
def scanF (s : ByteArray) : Nat → Nat → List W3 → List W3 × Int × Int
  | 0, _, acc => (acc, 0, 0)
  | f + 1, at_, acc => if at_ < s.size then
      (if kindI (s.extract at_ (endI s at_)) = 0 then ([], 2, at_) else if acc.length = 1500 then ([], 3, at_) else
        scanF s f (skipI s (endI s at_)) (acc ++ [⟨kindI (s.extract at_ (endI s at_)), s.extract at_ (endI s at_), at_⟩]))
    else (acc, 0, 0)
def scanI (s : ByteArray) (at_ : Nat) (acc : List W3) : List W3 × Int × Int := scanF s (s.size - at_) at_ acc
theorem scanF_fuel (s : ByteArray) (f g at_ : Nat) (acc : List W3) (hf : s.size - at_ ≤ f) (hg : s.size - at_ ≤ g) : scanF s f at_ acc = scanF s g at_ acc := by
  induction f generalizing g at_ acc with
  | zero =>
    cases g with
    | zero => rfl
    | succ g => simp only [scanF]; rw [if_neg (by omega)]
  | succ f ih =>
    cases g with
    | zero => simp only [scanF]; rw [if_neg (by omega)]
    | succ g =>
      simp only [scanF]
      by_cases h : at_ < s.size
      · rw [if_pos h, if_pos h]
        have h1 := endI_gt h
        have h2 := skip_ge s (endI s at_)
        rw [ih g _ _ (by omega) (by omega)]
      · rw [if_neg h, if_neg h]
theorem scan_end {s : ByteArray} {at_ : Nat} {acc : List W3} (h : ¬ at_ < s.size) : scanI s at_ acc = (acc, 0, 0) := by
  unfold scanI
  rw [show s.size - at_ = 0 by omega]; rfl
theorem scan_bad {s : ByteArray} {at_ : Nat} {acc : List W3} (h : at_ < s.size) (hk : kindI (s.extract at_ (endI s at_)) = 0) : scanI s at_ acc = ([], 2, (at_ : Int)) := by
  unfold scanI
  obtain ⟨f, hf⟩ : ∃ f, s.size - at_ = f + 1 := ⟨s.size - at_ - 1, by omega⟩
  rw [hf]; simp only [scanF]; rw [if_pos h, if_pos hk]
theorem scan_many {s : ByteArray} {at_ : Nat} {acc : List W3} (h : at_ < s.size) (hk : kindI (s.extract at_ (endI s at_)) ≠ 0) (hm : acc.length = 1500) : scanI s at_ acc = ([], 3, (at_ : Int)) := by
  unfold scanI
  obtain ⟨f, hf⟩ : ∃ f, s.size - at_ = f + 1 := ⟨s.size - at_ - 1, by omega⟩
  rw [hf]; simp only [scanF]; rw [if_pos h, if_neg hk, if_pos hm]
theorem scan_go {s : ByteArray} {at_ : Nat} {acc : List W3} (h : at_ < s.size) (hk : kindI (s.extract at_ (endI s at_)) ≠ 0) (hm : acc.length ≠ 1500) :
    scanI s at_ acc = scanI s (skipI s (endI s at_)) (acc ++ [⟨kindI (s.extract at_ (endI s at_)), s.extract at_ (endI s at_), at_⟩]) := by
  have h1 := endI_gt h
  have h2 := skip_ge s (endI s at_)
  unfold scanI
  obtain ⟨f, hf⟩ : ∃ f, s.size - at_ = f + 1 := ⟨s.size - at_ - 1, by omega⟩
  rw [hf]; simp only [scanF]; rw [if_pos h, if_neg hk, if_neg hm]
  exact scanF_fuel s _ _ _ _ (by omega) (by omega)
def wordsI (s : ByteArray) : List W3 × Int × Int := if 4000 < s.size then ([], 1, 0) else scanI s (skipI s 0) []
end Go.Proofs.Ythaehhndfahocaa
