/-
  PURE: what a range's text is read as.
-/
import Derived.Test.YtgkmpadeleebdaaDoorPn
import Derived.Test.YtgkmpadeleebdaaDoorVt
import Derived.Test.YtgkmpadeleebdaaDoorRi
import Derived.Lib.IndexBytes
import Derived.Lib.Strings
namespace Go.Proofs.YtgkmpadeleebdaaDoor
open Go.Lib

def nonL : List UInt8 := [110, 111, 110, 101]
def rngL (a b : Int) : List UInt8 := itoa a ++ (46 :: 46 :: itoa b)
theorem textM_rng {a b : Int} (h1 : okB a b = true) (h2 : isB a b = true) : (textM a b).data.toList = rngL a b := by
  unfold textM rngL dI
  rw [h1, h2]
  simp
theorem textM_non {a b : Int} (h1 : okB a b = true) (h2 : isB a b = false) : (textM a b).data.toList = nonL := by
  unfold textM nonL
  rw [h1, h2]
  simp
/-- What the text is read as. -/
def ReadsR (l : List UInt8) : Option (Int × Int) → Prop
  | some p => okB p.1 p.2 = true ∧ l = (textM p.1 p.2).data.toList
  | none => ∀ a b, okB a b = true → l ≠ (textM a b).data.toList
theorem occ_at (a : Int) (r : List UInt8) : occAt (itoa a ++ (46 :: 46 :: r)) [46, 46] (itoa a).length = true := by
  unfold occAt
  rw [List.drop_left]
  simp
theorem noocc (a : Int) (r : List UInt8) (j : Nat) (hj : j < (itoa a).length) : occAt (itoa a ++ (46 :: 46 :: r)) [46, 46] j = false := by
  unfold occAt
  rw [List.drop_append_of_le_length (by omega)]
  cases h : (itoa a).drop j with
  | nil => have := List.length_drop (i := j) (l := itoa a); rw [h] at this; simp at this; omega
  | cons c q =>
    have hc := itoa_all a c (List.mem_of_mem_drop (by rw [h]; simp))
    have : (46 == c) = false := by
      cases e : (46 == c)
      · rfl
      · have := beq_iff_eq.1 e; subst this; revert hc; decide
    simp [List.isPrefixOf, this]
theorem cut_at {a : Int} {r l : List UInt8} (h : l = itoa a ++ (46 :: 46 :: r)) {u : Nat} (ho : occAt l [46, 46] u = true) (hn : ∀ j, j < u → occAt l [46, 46] j = false) : l.take u = itoa a ∧ l.drop (u + 2) = r := by
  subst h
  have e : u = (itoa a).length := by
    rcases Nat.lt_trichotomy u (itoa a).length with h | h | h
    · rw [noocc a r u h] at ho; cases ho
    · exact h
    · have := hn _ h; rw [occ_at] at this; cases this
  subst e
  refine ⟨List.take_left, ?_⟩
  rw [List.drop_append]
  simp
theorem cut_of {l : List UInt8} {u : Nat} (ho : occAt l [46, 46] u = true) : l = l.take u ++ (46 :: 46 :: l.drop (u + 2)) := by
  unfold occAt at ho
  obtain ⟨q, hq⟩ := List.isPrefixOf_iff_prefix.1 ho
  have e1 : l.drop (u + 2) = q := by rw [← List.drop_drop, ← hq]; rfl
  rw [e1]
  conv => lhs; rw [← List.take_append_drop u l, ← hq]
  rfl
theorem non_rng (a b : Int) : nonL ≠ rngL a b := by
  intro e
  have h0 : (rngL a b)[0]? = some 110 := by rw [← e]; rfl
  unfold rngL at h0
  cases hi : itoa a with
  | nil => exact itoa_ne a hi
  | cons c q =>
    rw [hi] at h0
    simp at h0
    subst h0
    have := itoa_all a 110 (by rw [hi]; simp)
    revert this; decide
theorem some_of_ok {a b : Int} (h1 : okB a b = true) (h2 : isB a b = true) : -1000000 ≤ a ∧ a ≤ b ∧ b ≤ 1000000 := by have := ok_iff.1 h1; have := is_iff.1 h2; omega
/-- A text that is not none and is no range. -/
theorem reads_none {l : List UInt8} (hN : l ≠ nonL) (h : ∀ a b, -1000000 ≤ a → a ≤ b → b ≤ 1000000 → l ≠ rngL a b) : ReadsR l none := by
  intro a b hok e
  cases hi : isB a b
  · rw [textM_non hok hi] at e; exact hN e
  · rw [textM_rng hok hi] at e
    obtain ⟨q1, q2, q3⟩ := some_of_ok hok hi
    exact h a b q1 q2 q3 e
theorem reads_non : ReadsR nonL (some (1, 0)) := ⟨by decide, (textM_non (by decide) (by decide)).symm⟩
theorem reads_some {a b : Int} (h0 : -1000000 ≤ a) (h1 : a ≤ b) (h2 : b ≤ 1000000) : ReadsR (rngL a b) (some (a, b)) := by
  have hok : okB a b = true := ok_iff.2 (.inr ⟨h0, h1, h2⟩)
  exact ⟨hok, (textM_rng hok (is_iff.2 h1)).symm⟩
/-- The specification's way: no dots, or too far. -/
theorem reads_far {l : List UInt8} {u : Nat} (hN : l ≠ nonL) (hn : ∀ j, j < u → occAt l [46, 46] j = false) (hu : l.length ≤ u + 1 ∨ 12 ≤ u) : ReadsR l none :=
  reads_none hN fun a b h0 h1 h2 e => by
    have h8 := itoa_len (n := a) h0 (by omega)
    have hl : l.length = (itoa a).length + (2 + (itoa b).length) := by rw [e]; unfold rngL; simp; omega
    have hb := List.length_pos_iff.2 (itoa_ne b)
    have ho : occAt l [46, 46] (itoa a).length = true := by rw [e]; exact occ_at a (itoa b)
    rw [hn _ (by omega)] at ho
    cases ho
theorem reads_two {l : List UInt8} {u : Nat} {r1 r2 : Option Int} (hN : l ≠ nonL) (ho : occAt l [46, 46] u = true) (hn : ∀ j, j < u → occAt l [46, 46] j = false) (h1 : IntR (l.take u) 1000000 r1) (h2 : IntR (l.drop (u + 2)) 1000000 r2) :
    ReadsR l (match r1, r2 with | some a, some b => if a ≤ b then some (a, b) else none | _, _ => none) := by
  have key : ∀ a b, -1000000 ≤ a → a ≤ b → b ≤ 1000000 → l = rngL a b → r1 = some a ∧ r2 = some b := by
    intro a b q1 q2 q3 e
    obtain ⟨e1, e2⟩ := cut_at (r := itoa b) e ho hn
    rw [e1] at h1
    rw [e2] at h2
    constructor
    · cases r1 with
      | none => exact absurd rfl (h1 a q1 (by omega))
      | some x => rw [itoa_inj h1.1]
    · cases r2 with
      | none => exact absurd rfl (h2 b (by omega) q3)
      | some x => rw [itoa_inj h2.1]
  cases r1 with
  | none => exact reads_none hN fun a b q1 q2 q3 e => by have := (key a b q1 q2 q3 e).1; cases this
  | some a =>
    cases r2 with
    | none => exact reads_none hN fun a b q1 q2 q3 e => by have := (key a b q1 q2 q3 e).2; cases this
    | some b =>
      simp only
      by_cases hab : a ≤ b
      · rw [if_pos hab]
        have e : l = rngL a b := by
          rw [cut_of ho, h1.1, h2.1]; rfl
        rw [e]
        exact reads_some h1.2.1 hab h2.2.2
      · rw [if_neg hab]
        exact reads_none hN fun a' b' q1 q2 q3 e => by
          have k1 := Option.some.inj (key a' b' q1 q2 q3 e).1
          have k2 := Option.some.inj (key a' b' q1 q2 q3 e).2
          omega
/-- The program's way: cut, read both, write again. -/
theorem cut_rng (a b : Int) : cut (rngL a b) [46, 46] = (itoa a, itoa b, true) := by
  have e : index (rngL a b) [46, 46] = (itoa a).length := index_first (by unfold rngL; simp) (occ_at a (itoa b)) (fun j hj => noocc a (itoa b) j hj)
  unfold cut
  rw [e, if_pos (by omega)]
  have e1 : (((itoa a).length : Int)).toNat = (itoa a).length := by omega
  rw [e1]
  unfold rngL
  refine Prod.ext List.take_left (Prod.ext ?_ rfl)
  show (itoa a ++ (46 :: 46 :: itoa b)).drop ((itoa a).length + 2) = itoa b
  rw [List.drop_append]
  simp
theorem reads_prog_no {l : List UInt8} (hN : l ≠ nonL) (h : ∀ a b, atoiAll (cut l [46, 46]).1 = .ok a → atoiAll (cut l [46, 46]).2.1 = .ok b → l ≠ (textM a b).data.toList) : ReadsR l none :=
  reads_none hN fun a b q1 q2 q3 e => by
    have hok : okB a b = true := ok_iff.2 (.inr ⟨q1, q2, q3⟩)
    refine h a b ?_ ?_ (by rw [textM_rng hok (is_iff.2 q2)]; exact e)
    · rw [e, cut_rng]; exact atoiAll_itoa q1 (by omega)
    · rw [e, cut_rng]; exact atoiAll_itoa (by omega) q3
theorem reads_prog_yes {l : List UInt8} {a b : Int} (h1 : atoiAll (cut l [46, 46]).1 = .ok a) (h : l = (textM a b).data.toList) : ReadsR l (some (a, b)) := by
  refine ⟨?_, h⟩
  cases hok : okB a b
  · rw [textM_no hok] at h
    have e : l = [] := by simpa using h
    subst e
    revert h1
    have : (cut ([] : List UInt8) [46, 46]).1 = [] := by decide
    rw [this]
    intro h1
    cases h1
  · rfl
/-- The text is read as one thing alone. -/
theorem rng_inj {a b c d : Int} (h : rngL a b = rngL c d) : a = c ∧ b = d := by
  have e1 := cut_rng a b
  rw [h, cut_rng] at e1
  simp only [Prod.mk.injEq] at e1
  exact ⟨(itoa_inj e1.1).symm, (itoa_inj e1.2.1).symm⟩
theorem textM_inj {a b c d : Int} (h1 : okB a b = true) (h2 : okB c d = true) (h : (textM a b).data.toList = (textM c d).data.toList) : a = c ∧ b = d := by
  cases i1 : isB a b <;> cases i2 : isB c d
  · have := ok_iff.1 h1
    have := ok_iff.1 h2
    have n1 : ¬ a ≤ b := fun q => by rw [is_iff.2 q] at i1; cases i1
    have n2 : ¬ c ≤ d := fun q => by rw [is_iff.2 q] at i2; cases i2
    omega
  · rw [textM_non h1 i1, textM_rng h2 i2] at h; exact absurd h (non_rng c d)
  · rw [textM_rng h1 i1, textM_non h2 i2] at h; exact absurd h.symm (non_rng a b)
  · rw [textM_rng h1 i1, textM_rng h2 i2] at h; exact rng_inj h
theorem reads_same {l : List UInt8} {r1 r2 : Option (Int × Int)} (h1 : ReadsR l r1) (h2 : ReadsR l r2) : r1 = r2 := by
  cases r1 with
  | none => cases r2 with
    | none => rfl
    | some q => exact absurd h2.2 (h1 _ _ h2.1)
  | some p => cases r2 with
    | none => exact absurd h1.2 (h2 _ _ h1.1)
    | some q =>
      have := textM_inj h1.1 h2.1 (h1.2.symm.trans h2.2)
      rw [Prod.ext this.1 this.2]
theorem occ_ext {s : ByteArray} {i : Nat} : ((s.extract i (i + 2)).toList == [46, 46]) = occAt s.data.toList [46, 46] i := by
  rw [extract_toList, show i + 2 - i = 2 by omega]
  unfold occAt
  cases h : s.data.toList.drop i with
  | nil => rfl
  | cons x y => cases y with
    | nil => simp [List.isPrefixOf]
    | cons y z => simp [List.isPrefixOf]; rw [Bool.eq_iff_iff]; simp; constructor <;> (rintro ⟨p, q⟩; exact ⟨p.symm, q.symm⟩)
end Go.Proofs.YtgkmpadeleebdaaDoor
