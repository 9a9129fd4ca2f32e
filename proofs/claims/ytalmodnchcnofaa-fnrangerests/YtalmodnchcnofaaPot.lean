/-
  A RANGE THAT IS WIDENED AGAIN AND AGAIN (plain): a number that falls at each change.
-/
import Derived.Test.YtalmodnchcnofaaWs
namespace Go.Proofs.Ytalmodnchcnofaa

/-- How many steps lie below, above; whether the bound does. -/
def nlo (l : List Int) (x : Int) : Nat := (l.filter fun s => decide (s < x)).length + (if -1000000 < x then 1 else 0)
def nhi (l : List Int) (x : Int) : Nat := (l.filter fun s => decide (x < s)).length + (if x < 1000000 then 1 else 0)
theorem filt_le (p q : Int → Bool) (h : ∀ s, p s = true → q s = true) : ∀ l : List Int, (l.filter p).length ≤ (l.filter q).length
  | [] => Nat.le_refl _
  | s :: l => by
    have ih := filt_le p q h l
    by_cases hp : p s = true
    · rw [List.filter_cons_of_pos hp, List.filter_cons_of_pos (h s hp)]; simpa using ih
    · rw [List.filter_cons_of_neg hp]
      by_cases hq : q s = true
      · rw [List.filter_cons_of_pos hq]; simp; omega
      · rw [List.filter_cons_of_neg hq]; exact ih
theorem filt_lt (p q : Int → Bool) (h : ∀ s, p s = true → q s = true) (x : Int) (hp : p x = false) (hq : q x = true) : ∀ l : List Int, x ∈ l → (l.filter p).length < (l.filter q).length
  | [], hx => by cases hx
  | s :: l, hx => by
    by_cases hs : s = x
    · subst hs
      rw [List.filter_cons_of_neg (by rw [hp]; simp), List.filter_cons_of_pos hq]
      have := filt_le p q h l
      simp; omega
    · have hx' : x ∈ l := by rcases List.mem_cons.1 hx with h | h; exact absurd h.symm hs; exact h
      have ih := filt_lt p q h x hp hq l hx'
      by_cases hps : p s = true
      · rw [List.filter_cons_of_pos hps, List.filter_cons_of_pos (h s hps)]; simpa using ih
      · rw [List.filter_cons_of_neg hps]
        by_cases hqs : q s = true
        · rw [List.filter_cons_of_pos hqs]; simp; omega
        · rw [List.filter_cons_of_neg hqs]; exact ih
theorem nlo_le (l : List Int) (x : Int) : nlo l x ≤ l.length + 1 := by
  unfold nlo
  have := List.length_filter_le (fun s => decide (s < x)) l
  split <;> omega
theorem nhi_le (l : List Int) (x : Int) : nhi l x ≤ l.length + 1 := by
  unfold nhi
  have := List.length_filter_le (fun s => decide (x < s)) l
  split <;> omega
theorem nlo_lt {l : List Int} {x y : Int} (h : y < x) (hm : y ∈ l ∨ y = -1000000) : nlo l y < nlo l x := by
  unfold nlo
  have h0 := filt_le (fun s => decide (s < y)) (fun s => decide (s < x)) (fun s hs => by simp at hs ⊢; omega) l
  rcases hm with hm | rfl
  · have h1 := filt_lt (fun s => decide (s < y)) (fun s => decide (s < x)) (fun s hs => by simp at hs ⊢; omega) y (by simp) (by simpa using h) l hm
    by_cases a : -1000000 < y
    · rw [if_pos a, if_pos (by omega)]; omega
    · rw [if_neg a]; split <;> omega
  · rw [if_neg (by omega), if_pos (by omega)]; omega
theorem nhi_lt {l : List Int} {x y : Int} (h : x < y) (hm : y ∈ l ∨ y = 1000000) : nhi l y < nhi l x := by
  unfold nhi
  have h0 := filt_le (fun s => decide (y < s)) (fun s => decide (x < s)) (fun s hs => by simp at hs ⊢; omega) l
  rcases hm with hm | rfl
  · have h1 := filt_lt (fun s => decide (y < s)) (fun s => decide (x < s)) (fun s hs => by simp at hs ⊢; omega) y (by simp) (by simpa using h) l hm
    by_cases a : y < 1000000
    · rw [if_pos a, if_pos (by omega)]; omega
    · rw [if_neg a]; split <;> omega
  · rw [if_neg (by omega), if_pos (by omega)]; omega
theorem below_mem (x : Int) : ∀ (l : List Int) (f : Int), l.foldl (fun f s => if s ≤ x then s else f) f ∈ l ∨ l.foldl (fun f s => if s ≤ x then s else f) f = f
  | [], f => .inr rfl
  | s :: l, f => by
    rw [List.foldl_cons]
    by_cases hc : s ≤ x
    · rw [if_pos hc]
      rcases below_mem x l s with h | h
      · exact .inl (List.mem_cons_of_mem _ h)
      · rw [h]; exact .inl List.mem_cons_self
    · rw [if_neg hc]
      rcases below_mem x l f with h | h
      · exact .inl (List.mem_cons_of_mem _ h)
      · exact .inr h
theorem above_mem (x : Int) : ∀ l : List Int, aboveM x l ∈ l ∨ aboveM x l = 1000000
  | [] => .inr rfl
  | s :: l => by
    unfold aboveM
    by_cases hc : x ≤ s
    · rw [if_pos hc]; exact .inl List.mem_cons_self
    · rw [if_neg hc]
      rcases above_mem x l with h | h
      · exact .inl (List.mem_cons_of_mem _ h)
      · exact .inr h
/-- What falls. -/
def pot (l : List Int) (r : Int × Int) : Nat := if isB r.1 r.2 then nlo l r.1 + nhi l r.2 else 2 * l.length + 3
theorem pot_le (l : List Int) (r : Int × Int) : pot l r ≤ 2 * l.length + 3 := by
  unfold pot
  have := nlo_le l r.1
  have := nhi_le l r.2
  split <;> omega
/-- Widened by what has numbers: it is ok, and where it changes the number falls; where the steps are none it is none. -/
theorem widen_pot {a b c d : Int} {l : List Int} (h1 : okB a b = true) (h2 : okB c d = true) (g2 : isB c d = true) (h3 : stepsB l = true) :
    okB (widenM a b c d l).1 (widenM a b c d l).2 = true ∧ (widenM a b c d l ≠ (a, b) → pot l (widenM a b c d l) < pot l (a, b)) := by
  have i1 := ok_iff.1 h1
  have i2 := ok_iff.1 h2
  have i4 := is_iff.1 g2
  cases g1 : isB a b
  · have e : widenM a b c d l = (c, d) := by unfold widenM; rw [h1, h2, h3, g1]; rfl
    rw [e]
    refine ⟨h2, fun _ => ?_⟩
    unfold pot
    simp only [g1, g2]
    have := nlo_le l c
    have := nhi_le l d
    simp only [if_true]
    show _ < 2 * l.length + 3
    omega
  · have i3 := is_iff.1 g1
    have e : widenM a b c d l = (if c < a then belowM c l else a, if b < d then aboveM d l else b) := by
      unfold widenM; rw [h1, h2, h3, g1, g2]; rfl
    have hv : l.all valB = true := by unfold stepsB valsB at h3; simp only [Bool.and_eq_true] at h3; exact h3.2.1
    have b1 := below_bd (x := c) (by omega) l (-1000000) hv (Int.le_refl _) (by omega)
    have b1' : -1000000 ≤ belowM c l ∧ belowM c l ≤ c := b1
    have b2 := above_bd (x := d) (by omega) l hv
    have m1 : belowM c l ∈ l ∨ belowM c l = -1000000 := below_mem c l (-1000000)
    have m2 := above_mem d l
    have lo : ∃ x, (if c < a then belowM c l else a) = x ∧ -1000000 ≤ x ∧ x ≤ a ∧ (x = a ∨ nlo l x < nlo l a) := by
      by_cases q : c < a
      · exact ⟨_, if_pos q, b1'.1, by omega, .inr (nlo_lt (by omega) m1)⟩
      · exact ⟨_, if_neg q, by omega, by omega, .inl rfl⟩
    have hi : ∃ y, (if b < d then aboveM d l else b) = y ∧ y ≤ 1000000 ∧ b ≤ y ∧ (y = b ∨ nhi l y < nhi l b) := by
      by_cases q : b < d
      · exact ⟨_, if_pos q, b2.2, by omega, .inr (nhi_lt (by omega) m2)⟩
      · exact ⟨_, if_neg q, by omega, by omega, .inl rfl⟩
    obtain ⟨x, ex, x1, x2, x3⟩ := lo
    obtain ⟨y, ey, y1, y2, y3⟩ := hi
    rw [e, ex, ey]
    refine ⟨ok_iff.2 (by omega), fun hne => ?_⟩
    have gx : isB x y = true := is_iff.2 (by omega)
    unfold pot
    simp only [g1, gx, if_true]
    rcases x3 with rfl | x3
    · rcases y3 with rfl | y3
      · exact absurd rfl hne
      · omega
    · rcases y3 with rfl | y3
      · omega
      · omega
theorem widen_none {a b c d : Int} {l : List Int} (h3 : stepsB l = false) : widenM a b c d l = (1, 0) := by
  unfold widenM; rw [h3]; simp
end Go.Proofs.Ytalmodnchcnofaa
