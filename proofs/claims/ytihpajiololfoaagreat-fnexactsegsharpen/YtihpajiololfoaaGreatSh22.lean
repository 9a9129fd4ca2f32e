/-
  CLOSING, as plain functions over lists of numbers and over tables; both ways of closing come to the same.
  FACTS as plain data: which are ok, their tables, what may be asked of the tables.
  TWO RANGES COMPARED, the greater and the less of two numbers: each as one step.
-/
import Derived.WalkKit
import Derived.IntWalk
import Derived.Test.YtihpajiololfoaaGreatSh20
import Derived.Laws.StructEq
namespace Go.Proofs.YtihpajiololfoaaGreat.Q
open Go.RowKit

def iter {α : Type} (f : Nat → α → α) : Nat → α → α
  | 0, a => a
  | k + 1, a => f k (iter f k a)
/-- One number of a pass: of i and j, by way of k; rows of s numbers. -/
def relax (s k i j : Nat) (m : List Int) : List Int :=
  if IntKind.i64.wrap (m.getD (i * s + k) 0 + m.getD (k * s + j) 0) < m.getD (i * s + j) 0 then m.set (i * s + j) (IntKind.i64.wrap (m.getD (i * s + k) 0 + m.getD (k * s + j) 0)) else m
def rowS (s k i t : Nat) (m : List Int) : List Int := iter (fun j m => relax s k i j m) t m
def passS (n k u : Nat) (m : List Int) : List Int := iter (fun i m => rowS n k i n m) u m
def negS (n t : Nat) (m : List Int) : Bool := (List.range t).any fun i => decide (m.getD (i * n + i) 0 < 0)
def stS (n : Nat) (m : List Int) : Nat → Option (List Int)
  | 0 => some m
  | k + 1 => (stS n m k).bind fun m => if negS n n (passS n k n m) then none else some (passS n k n m)
def rowI (n k i : Nat) (G : List Int) : List Int := if i = k then G else rowS 13 k i n G
def passI (n k u : Nat) (G : List Int) : List Int := iter (fun i G => rowI n k i G) u G
def stI (n : Nat) (G : List Int) : Nat → Option (List Int)
  | 0 => some G
  | k + 1 => (stI n G k).bind fun G => if G.getD (k * 13 + k) 0 < 0 then none else some (passI n k n G)

theorem getD_set {m : List Int} {q p : Nat} {x : Int} : (m.set q x).getD p 0 = if p = q ∧ p < m.length then x else m.getD p 0 := by
  simp only [List.getD_eq_getElem?_getD, List.getElem?_set]
  by_cases h : q = p
  · subst h
    by_cases h2 : q < m.length
    · simp [h2]
    · simp [h2]
  · have h' : ¬ p = q := fun e => h e.symm
    simp [h, h']
theorem relax_len (s k i j : Nat) (m : List Int) : (relax s k i j m).length = m.length := by unfold relax; split <;> simp
theorem relax_get (s k i j : Nat) (m : List Int) (p : Nat) : (relax s k i j m).getD p 0 = if p = i * s + j ∧ p < m.length then min (m.getD (i * s + j) 0) (IntKind.i64.wrap (m.getD (i * s + k) 0 + m.getD (k * s + j) 0)) else m.getD p 0 := by
  unfold relax
  split
  · rename_i h
    rw [getD_set]
    split
    · rw [Int.min_eq_right (Int.le_of_lt h)]
    · rfl
  · rename_i h
    split
    · rename_i h2
      rw [Int.min_eq_left (Int.not_lt.1 h), h2.1]
    · rfl
theorem relax_le (s k i j : Nat) (m : List Int) (p : Nat) : (relax s k i j m).getD p 0 ≤ m.getD p 0 := by
  rw [relax_get]
  split
  · rename_i h
    rw [h.1]
    exact Int.min_le_left _ _
  · exact Int.le_refl _
theorem iter_len {f : Nat → List Int → List Int} (h : ∀ i m, (f i m).length = m.length) (m : List Int) : ∀ t, (iter f t m).length = m.length
  | 0 => rfl
  | t + 1 => by rw [iter, h, iter_len h m t]
theorem iter_le {f : Nat → List Int → List Int} {p : Nat} (h : ∀ i m, (f i m).getD p 0 ≤ m.getD p 0) (m : List Int) : ∀ t, (iter f t m).getD p 0 ≤ m.getD p 0
  | 0 => Int.le_refl _
  | t + 1 => Int.le_trans (h t _) (iter_le h m t)
theorem iter_keep {f : Nat → List Int → List Int} {p n : Nat} (h : ∀ i m, i < n → (f i m).getD p 0 = m.getD p 0) (m : List Int) : ∀ t, t ≤ n → (iter f t m).getD p 0 = m.getD p 0
  | 0, _ => rfl
  | t + 1, ht => (h t _ (by omega)).trans (iter_keep h m t (by omega))
theorem rowS_len (s k i t : Nat) (m : List Int) : (rowS s k i t m).length = m.length := iter_len (fun _ _ => relax_len _ _ _ _ _) m t
theorem rowS_le (s k i t : Nat) (m : List Int) (p : Nat) : (rowS s k i t m).getD p 0 ≤ m.getD p 0 := iter_le (fun _ _ => relax_le _ _ _ _ _ _) m t
theorem rowS_keep {s k i t : Nat} {m : List Int} {p n : Nat} (h : ∀ j, j < n → p ≠ i * s + j) (ht : t ≤ n) : (rowS s k i t m).getD p 0 = m.getD p 0 :=
  iter_keep (fun j m hj => by rw [relax_get, if_neg (fun e => h j hj e.1)]) m t ht
theorem passS_len (n k u : Nat) (m : List Int) : (passS n k u m).length = m.length := iter_len (fun _ _ => rowS_len _ _ _ _ _) m u
theorem passS_le (n k u : Nat) (m : List Int) (p : Nat) : (passS n k u m).getD p 0 ≤ m.getD p 0 := iter_le (fun _ _ => rowS_le _ _ _ _ _ _) m u
theorem rowI_len (n k i : Nat) (m : List Int) : (rowI n k i m).length = m.length := by unfold rowI; split; rfl; exact rowS_len _ _ _ _ _
theorem rowI_le (n k i : Nat) (m : List Int) (p : Nat) : (rowI n k i m).getD p 0 ≤ m.getD p 0 := by unfold rowI; split; exact Int.le_refl _; exact rowS_le _ _ _ _ _ _
theorem rowI_keep {n k i : Nat} {m : List Int} {p : Nat} (h : ∀ j, j < n → p ≠ i * 13 + j) : (rowI n k i m).getD p 0 = m.getD p 0 := by unfold rowI; split; rfl; exact rowS_keep h (Nat.le_refl _)
theorem passI_len (n k u : Nat) (m : List Int) : (passI n k u m).length = m.length := iter_len (fun _ _ => rowI_len _ _ _ _) m u
theorem passI_le (n k u : Nat) (m : List Int) (p : Nat) : (passI n k u m).getD p 0 ≤ m.getD p 0 := iter_le (fun _ _ => rowI_le _ _ _ _ _) m u
theorem passI_keep {n k u : Nat} {m : List Int} {p : Nat} (h : ∀ i j, i < n → j < n → p ≠ i * 13 + j) (hu : u ≤ n) : (passI n k u m).getD p 0 = m.getD p 0 :=
  iter_keep (fun i _ hi => rowI_keep (fun j hj => h i j hi hj)) m u hu

theorem idx_inj {s i j a c : Nat} (hj : j < s) (hc : c < s) (h : i * s + j = a * s + c) : i = a ∧ j = c := by
  have hs : 0 < s := by omega
  have h1 : (i * s + j) / s = i := by rw [Nat.mul_comm, Nat.mul_add_div hs, Nat.div_eq_of_lt hj]; rfl
  have h2 : (a * s + c) / s = a := by rw [Nat.mul_comm, Nat.mul_add_div hs, Nat.div_eq_of_lt hc]; rfl
  have h3 : i = a := by rw [← h1, h, h2]
  subst h3
  exact ⟨rfl, by omega⟩
theorem idx_lt {n i j : Nat} (hi : i < n) (hj : j < n) : i * n + j < n * n := by
  have : (i + 1) * n ≤ n * n := Nat.mul_le_mul_right n hi
  rw [Nat.add_mul] at this
  omega

abbrev Tab := Nat → Nat → Int
/-- The table f lies in a list, its rows s numbers apart. -/
def V (s n : Nat) (m : List Int) (f : Tab) : Prop := ∀ i j, i < n → j < n → m.getD (i * s + j) 0 = f i j
def Room (s n : Nat) (m : List Int) : Prop := ∀ i j, i < n → j < n → i * s + j < m.length
def fw (k : Nat) (f : Tab) : Tab := fun i j => min (f i j) (f i k + f k j)
def fwN (f : Tab) : Nat → Tab
  | 0 => f
  | k + 1 => fw k (fwN f k)
def Bd (n : Nat) (f : Tab) (b : Int) : Prop := ∀ i j, i < n → j < n → -b ≤ f i j ∧ f i j ≤ b

theorem row_V {s n k i : Nat} {m : List Int} {f : Tab} {b : Int} (hs : n ≤ s) (hk : k < n) (hi : i < n) (hr : Room s n m) (hV : V s n m f) (h0 : 0 ≤ f k k) (hb : Bd n f b) (hB : b ≤ 4000000000000000000) :
    ∀ t, t ≤ n → V s n (rowS s k i t m) (fun a c => if a = i ∧ c < t then min (f a c) (f a k + f k c) else f a c)
  | 0, _ => fun a c ha hc => by simp [rowS, iter]; exact hV a c ha hc
  | t + 1, ht => fun a c ha hc => by
    have ih := row_V hs hk hi hr hV h0 hb hB t (by omega)
    have hl : (rowS s k i t m).length = m.length := rowS_len _ _ _ _ _
    have e1 := ih i t hi (by omega)
    have e2 := ih i k hi hk
    have e3 := ih k t hk (by omega)
    have e4 := ih a c ha hc
    have b1 := hb i k hi hk
    have b2 := hb k t hk (by omega)
    simp only [Nat.lt_irrefl, and_false, if_false] at e1 e3
    have e2' : (rowS s k i t m).getD (i * s + k) 0 = f i k := by
      rw [e2]; dsimp only; split
      · exact Int.min_eq_left (by omega)
      · rfl
    dsimp only at e4
    show (relax s k i t (rowS s k i t m)).getD (a * s + c) 0 = _
    rw [relax_get, e1, e2', e3, IntWalk.i64_in _ (by omega)]
    by_cases h : a = i ∧ c = t
    · obtain ⟨rfl, rfl⟩ := h
      have hlt := hr a c ha hc
      dsimp only
      rw [if_pos ⟨rfl, by rw [hl]; exact hlt⟩, if_pos ⟨rfl, by omega⟩]
    · rw [if_neg (fun e => h (by have := idx_inj (by omega) (by omega) e.1; exact this)), e4]
      dsimp only
      by_cases h1 : a = i
      · subst h1
        have h2 : ¬ c = t := fun e => h ⟨rfl, e⟩
        by_cases h3 : c < t
        · rw [if_pos ⟨rfl, h3⟩, if_pos ⟨rfl, by omega⟩]
        · rw [if_neg (fun e => h3 e.2), if_neg (fun e => by omega)]
      · rw [if_neg (fun e => h1 e.1), if_neg (fun e => h1 e.1)]

theorem pass_V {s n k : Nat} {f : Tab} {b : Int} {R : Nat → List Int → List Int} (hk : k < n) (h0 : 0 ≤ f k k) (hb : Bd n f b)
    (hl : ∀ i m, (R i m).length = m.length)
    (hR : ∀ i m g, i < n → Room s n m → V s n m g → 0 ≤ g k k → Bd n g (2 * b) → V s n (R i m) (fun a c => if a = i then fw k g a c else g a c)) {m : List Int} (hr : Room s n m) (hV : V s n m f) :
    ∀ u, u ≤ n → V s n (iter R u m) (fun a c => if a < u then fw k f a c else f a c)
  | 0, _ => fun a c ha hc => by simp [iter]; exact hV a c ha hc
  | u + 1, hu => fun a c ha hc => by
    have ih := pass_V hk h0 hb hl hR hr hV u (by omega)
    have hr' : Room s n (iter R u m) := fun i j hi hj => by rw [iter_len hl]; exact hr i j hi hj
    have hkc : ∀ c, c < n → (if k < u then fw k f k c else f k c) = f k c := fun c hc => by
      split
      · exact Int.min_eq_left (by omega)
      · rfl
    have hck : ∀ c, c < n → (if c < u then fw k f c k else f c k) = f c k := fun c hc => by
      split
      · exact Int.min_eq_left (by omega)
      · rfl
    have hbb : 0 ≤ b := by have := hb k k hk hk; omega
    have h1 := hR u _ _ (by omega) hr' ih (by show 0 ≤ (if k < u then fw k f k k else f k k); rw [hkc k hk]; exact h0) (fun i j hi hj => by
      have q1 := hb i j hi hj
      have q2 := hb i k hi hk
      have q3 := hb k j hk hj
      show -(2 * b) ≤ (if i < u then fw k f i j else f i j) ∧ (if i < u then fw k f i j else f i j) ≤ 2 * b
      unfold fw
      split <;> omega)
    have h2 := h1 a c ha hc
    show (R u (iter R u m)).getD (a * s + c) 0 = _
    rw [h2]
    dsimp only
    by_cases h : a = u
    · subst h
      rw [if_pos rfl, if_pos (by omega)]
      show min (if a < a then fw k f a c else f a c) ((if a < a then fw k f a k else f a k) + (if k < a then fw k f k c else f k c)) = _
      rw [hkc c hc, if_neg (by omega), if_neg (by omega)]
      rfl
    · rw [if_neg h]
      by_cases h3 : a < u
      · rw [if_pos h3, if_pos (by omega)]
      · rw [if_neg h3, if_neg (by omega)]
theorem V.congr {s n : Nat} {m : List Int} {f g : Tab} (h : V s n m f) (e : ∀ i j, i < n → j < n → f i j = g i j) : V s n m g := fun i j hi hj => (h i j hi hj).trans (e i j hi hj)

theorem passS_V {n k : Nat} {f : Tab} {b : Int} {m : List Int} (hk : k < n) (h0 : 0 ≤ f k k) (hb : Bd n f b) (hB : 2 * b ≤ 4000000000000000000) (hr : Room n n m) (hV : V n n m f) : V n n (passS n k n m) (fw k f) :=
  (pass_V (R := fun i m => rowS n k i n m) hk h0 hb (fun i m => rowS_len _ _ _ _ _) (fun i m g hi hr hV hg hbg =>
    (row_V (Nat.le_refl _) hk hi hr hV hg hbg hB n (Nat.le_refl _)).congr (fun a c ha hc => by
      by_cases h : a = i
      · rw [if_pos ⟨h, hc⟩, if_pos h]; rfl
      · rw [if_neg (fun e => h e.1), if_neg h])) hr hV n (Nat.le_refl _)).congr (fun a c ha _ => if_pos ha)
theorem passI_V {n k : Nat} {f : Tab} {b : Int} {m : List Int} (hn : n ≤ 13) (hk : k < n) (h0 : 0 ≤ f k k) (hb : Bd n f b) (hB : 2 * b ≤ 4000000000000000000) (hr : Room 13 n m) (hV : V 13 n m f) : V 13 n (passI n k n m) (fw k f) :=
  (pass_V (R := fun i m => rowI n k i m) hk h0 hb (fun i m => rowI_len _ _ _ _) (fun i m g hi hr hV hg hbg => by
    show V 13 n (rowI n k i m) _
    unfold rowI
    split
    · rename_i h
      subst h
      exact hV.congr (fun a c _ _ => by
        by_cases h : a = i
        · subst h; rw [if_pos rfl]; unfold fw; exact (Int.min_eq_left (by omega)).symm
        · rw [if_neg h])
    · exact (row_V hn hk hi hr hV hg hbg hB n (Nat.le_refl _)).congr (fun a c ha hc => by
        by_cases h : a = i
        · rw [if_pos ⟨h, hc⟩, if_pos h]; rfl
        · rw [if_neg (fun e => h e.1), if_neg h])) hr hV n (Nat.le_refl _)).congr (fun a c ha _ => if_pos ha)

/-- No way back has a sum below 0 so far. -/
def Gd (n : Nat) (f : Tab) (k : Nat) : Prop := ∀ i, i < n → 0 ≤ fwN f k i i
theorem fwN_le (f : Tab) (k i j : Nat) : fwN f (k + 1) i j ≤ fwN f k i j := Int.min_le_left _ _
theorem Gd.pred {n : Nat} {f : Tab} {k : Nat} (h : Gd n f (k + 1)) : Gd n f k := fun i hi => Int.le_trans (h i hi) (fwN_le f k i i)
theorem Gd.down {n : Nat} {f : Tab} : ∀ {k j : Nat}, j ≤ k → Gd n f k → Gd n f j
  | 0, j, hj, h => by have : j = 0 := by omega
                      subst this; exact h
  | k + 1, j, hj, h => by
    by_cases e : j = k + 1
    · subst e; exact h
    · exact Gd.down (k := k) (by omega) h.pred
theorem fwN_bd {n : Nat} {f : Tab} {b : Int} (hb : Bd n f b) (h0 : 0 ≤ b) : ∀ k, k ≤ n → Bd n (fwN f k) (2 ^ k * b)
  | 0, _ => fun i j hi hj => by simpa [fwN] using hb i j hi hj
  | k + 1, hk => fun i j hi hj => by
    have q1 := fwN_bd hb h0 k (by omega) i j hi hj
    have q2 := fwN_bd hb h0 k (by omega) i k hi (by omega)
    have q3 := fwN_bd hb h0 k (by omega) k j (by omega) hj
    have hp : (2 : Int) ^ (k + 1) * b = 2 * (2 ^ k * b) := by rw [Int.pow_succ]; rw [Int.mul_comm (2 ^ k) 2, Int.mul_assoc]
    have hnn : 0 ≤ (2 : Int) ^ k * b := Int.mul_nonneg (Int.le_of_lt (Int.pow_pos (by decide))) h0
    rw [hp]
    show -(2 * (2 ^ k * b)) ≤ min (fwN f k i j) (fwN f k i k + fwN f k k j) ∧ min (fwN f k i j) (fwN f k i k + fwN f k k j) ≤ 2 * (2 ^ k * b)
    generalize (2 : Int) ^ k * b = B at q1 q2 q3 hnn
    omega
theorem pow_small {k n : Nat} (h : k < n) (hn : n ≤ 13) : (2 : Int) ^ k ≤ 8192 := by
  have : (2 : Nat) ^ k ≤ 2 ^ 13 := Nat.pow_le_pow_right (by decide) (by omega)
  have h2 : ((2 ^ k : Nat) : Int) ≤ ((2 ^ 13 : Nat) : Int) := Int.ofNat_le.2 this
  simpa using h2
theorem fwN_bd' {n : Nat} {f : Tab} (hn : n ≤ 13) (hb : Bd n f 10000000) {k : Nat} (hk : k < n) : Bd n (fwN f k) 100000000000 := fun i j hi hj => by
  have h := fwN_bd hb (by decide) k (by omega) i j hi hj
  have := pow_small hk hn
  generalize (2 : Int) ^ k = P at h this
  omega

theorem neg_iff {n : Nat} {m : List Int} {f : Tab} (hV : V n n m f) : negS n n m = true ↔ ∃ i, i < n ∧ f i i < 0 := by
  unfold negS
  rw [List.any_eq_true]
  constructor
  · rintro ⟨i, hi, h⟩
    have hi := List.mem_range.1 hi
    exact ⟨i, hi, by rw [← hV i i hi hi]; exact of_decide_eq_true h⟩
  · rintro ⟨i, hi, h⟩
    exact ⟨i, List.mem_range.2 hi, decide_eq_true (by rw [hV i i hi hi]; exact h)⟩

theorem stS_some {n : Nat} {f : Tab} {m : List Int} (hn : n ≤ 13) (hb : Bd n f 10000000) (hr : Room n n m) (hV : V n n m f) : ∀ k, k ≤ n → Gd n f k → ∃ m', stS n m k = some m' ∧ m'.length = m.length ∧ V n n m' (fwN f k)
  | 0, _, _ => ⟨m, rfl, rfl, hV⟩
  | k + 1, hk, hg => by
    obtain ⟨m', e, hl, hV'⟩ := stS_some hn hb hr hV k (by omega) hg.pred
    have hp := passS_V (by omega) (hg.pred k (by omega)) (fwN_bd' hn hb (by omega)) (by decide) (fun i j hi hj => by rw [hl]; exact hr i j hi hj) hV'
    have hneg : negS n n (passS n k n m') = false := by
      cases h : negS n n (passS n k n m')
      · rfl
      · obtain ⟨i, hi, h2⟩ := (neg_iff hp).1 h
        have := hg i hi
        have e2 : fwN f (k + 1) i i = fw k (fwN f k) i i := rfl
        omega
    exact ⟨passS n k n m', by simp [stS, e, hneg], by rw [passS_len, hl], hp⟩
theorem stS_none {n : Nat} {f : Tab} {m : List Int} (hn : n ≤ 13) (hb : Bd n f 10000000) (hr : Room n n m) (hV : V n n m f) : ∀ k, k + 1 ≤ n → ¬ Gd n f (k + 1) → stS n m (k + 1) = none := by
  intro k
  induction k with
  | zero =>
    intro hk hg
    have hneg : negS n n (passS n 0 n m) = true := by
      by_cases h0 : Gd n f 0
      · have hp := passS_V (by omega) (h0 0 (by omega)) (fwN_bd' hn hb (by omega)) (by decide) hr hV
        rw [neg_iff hp]
        refine Classical.byContradiction fun hh => hg (fun i hi => ?_)
        exact Int.not_lt.1 fun hlt => hh ⟨i, hi, hlt⟩
      · obtain ⟨i, hi⟩ := Classical.not_forall.1 h0
        obtain ⟨hi, h2⟩ := Classical.not_imp.1 hi
        unfold negS
        rw [List.any_eq_true]
        refine ⟨i, List.mem_range.2 hi, decide_eq_true (Int.lt_of_le_of_lt (passS_le _ _ _ _ _) ?_)⟩
        rw [hV i i hi hi]
        exact Int.not_le.1 h2
    simp [stS, hneg]
  | succ k ih =>
    intro hk hg
    by_cases h0 : Gd n f (k + 1)
    · obtain ⟨m', e, hl, hV'⟩ := stS_some hn hb hr hV (k + 1) (by omega) h0
      have hp := passS_V (by omega) (h0 (k + 1) (by omega)) (fwN_bd' hn hb (by omega)) (by decide) (fun i j hi hj => by rw [hl]; exact hr i j hi hj) hV'
      have hneg : negS n n (passS n (k + 1) n m') = true := by
        rw [neg_iff hp]
        refine Classical.byContradiction fun hh => hg (fun i hi => ?_)
        exact Int.not_lt.1 fun hlt => hh ⟨i, hi, hlt⟩
      rw [stS, e]
      simp [hneg]
    · rw [stS, ih (by omega) h0]; rfl

/-- What follows by way of the first k symbols is said. -/
theorem tri {n : Nat} {f : Tab} : ∀ k, k ≤ n → Gd n f k → ∀ a b c, a < n → b < n → c < k → fwN f k a b ≤ fwN f k a c + fwN f k c b
  | 0, _, _, _, _, _, _, _, hc => by omega
  | k + 1, hk, hg, a, b, c, ha, hb, hc => by
    have h0 := hg.pred k (by omega)
    show fw k (fwN f k) a b ≤ fw k (fwN f k) a c + fw k (fwN f k) c b
    by_cases e : c = k
    · subst e
      unfold fw
      omega
    · have ih := tri k (by omega) hg.pred
      have i1 := ih a b c ha hb (by omega)
      have i2 := ih k b c (by omega) hb (by omega)
      have i3 := ih a k c ha (by omega) (by omega)
      have i4 := ih k k c (by omega) (by omega) (by omega)
      unfold fw
      omega
theorem diag_low {n : Nat} {f : Tab} {k : Nat} (hk : k < n) (hg : Gd n f k) {i : Nat} (hi : i ≤ k) : 0 ≤ fwN f (k + 1) i i := by
  have h0 := hg k hk
  have h1 := hg i (by omega)
  show 0 ≤ min (fwN f k i i) (fwN f k i k + fwN f k k i)
  by_cases e : i = k
  · subst e; omega
  · have := tri k (by omega) hg k k i hk hk (by omega)
    omega
theorem stI_some {n : Nat} {f : Tab} {m : List Int} (hn : n ≤ 13) (hb : Bd n f 10000000) (hr : Room 13 n m) (hV : V 13 n m f) : ∀ k, k ≤ n → (∀ j, j < k → Gd n f j) →
    ∃ m', stI n m k = some m' ∧ m'.length = m.length ∧ V 13 n m' (fwN f k) ∧ (∀ p, (∀ i j, i < n → j < n → p ≠ i * 13 + j) → m'.getD p 0 = m.getD p 0)
  | 0, _, _ => ⟨m, rfl, rfl, hV, fun _ _ => rfl⟩
  | k + 1, hk, hg => by
    obtain ⟨m', e, hl, hV', ho⟩ := stI_some hn hb hr hV k (by omega) (fun j hj => hg j (by omega))
    have h0 := hg k (by omega) k (by omega)
    have hp := passI_V hn (by omega) h0 (fwN_bd' hn hb (by omega)) (by decide) (fun i j hi hj => by rw [hl]; exact hr i j hi hj) hV'
    have hneg : ¬ m'.getD (k * 13 + k) 0 < 0 := by rw [hV' k k (by omega) (by omega)]; omega
    exact ⟨passI n k n m', by rw [stI, e]; simp only [Option.bind_some]; rw [if_neg hneg], by rw [passI_len, hl], hp, fun p h => (passI_keep h (Nat.le_refl _)).trans (ho p h)⟩
theorem stI_stuck {n : Nat} {m : List Int} {k i : Nat} {m' : List Int} (hi : i < n) (e : stI n m k = some m') (hneg : m'.getD (i * 13 + i) 0 < 0) : ∀ j, k + j ≤ i → stI n m (k + j) = none ∨ ∃ m'', stI n m (k + j) = some m'' ∧ m''.getD (i * 13 + i) 0 < 0
  | 0, _ => .inr ⟨m', e, hneg⟩
  | j + 1, hj => by
    rcases stI_stuck hi e hneg j (by omega) with h | ⟨m2, h, h2⟩
    · left
      show stI n m (k + j + 1) = none
      rw [stI, h]; rfl
    · show stI n m (k + j + 1) = none ∨ ∃ m'', stI n m (k + j + 1) = some m'' ∧ m''.getD (i * 13 + i) 0 < 0
      rw [stI, h]
      simp only [Option.bind_some]
      by_cases hx : m2.getD ((k + j) * 13 + (k + j)) 0 < 0
      · left; rw [if_pos hx]
      · right; rw [if_neg hx]; exact ⟨_, rfl, Int.lt_of_le_of_lt (passI_le _ _ _ _ _) h2⟩
theorem stI_dead {n : Nat} {m : List Int} {k : Nat} (h : stI n m k = none) : ∀ j, stI n m (k + j) = none
  | 0 => h
  | j + 1 => by show stI n m (k + j + 1) = none; rw [stI, stI_dead h j]; rfl
theorem stI_none_of {n : Nat} {m : List Int} {k i : Nat} {m' : List Int} (hi : i < n) (hk : k ≤ i) (e : stI n m k = some m') (hneg : m'.getD (i * 13 + i) 0 < 0) : stI n m n = none := by
  have h1 : stI n m (i + 1) = none := by
    have h := stI_stuck hi e hneg (i - k) (by omega)
    rw [show k + (i - k) = i by omega] at h
    rcases h with h | ⟨m2, h, h2⟩
    · rw [stI, h]; rfl
    · rw [stI, h]; simp only [Option.bind_some]; rw [if_pos h2]
  have := stI_dead h1 (n - (i + 1))
  rwa [show i + 1 + (n - (i + 1)) = n by omega] at this
theorem stI_none {n : Nat} {f : Tab} {m : List Int} (hn : n ≤ 13) (hb : Bd n f 10000000) (hr : Room 13 n m) (hV : V 13 n m f) (hg : ¬ Gd n f n) : stI n m n = none := by
  have key : ∀ k, k ≤ n → ¬ Gd n f k → stI n m n = none := by
    intro k
    induction k with
    | zero =>
      intro _ h0
      obtain ⟨i, hi⟩ := Classical.not_forall.1 h0
      obtain ⟨hi, h2⟩ := Classical.not_imp.1 hi
      exact stI_none_of (k := 0) hi (Nat.zero_le _) rfl (by rw [hV i i hi hi]; exact Int.not_le.1 h2)
    | succ k ih =>
      intro hk h0
      by_cases h1 : Gd n f k
      · obtain ⟨m', e, hl, hV', _⟩ := stI_some hn hb hr hV (k + 1) hk (fun j hj => h1.down (by omega))
        obtain ⟨i, hi⟩ := Classical.not_forall.1 h0
        obtain ⟨hi, h2⟩ := Classical.not_imp.1 hi
        have hki : k + 1 ≤ i := by
          refine Nat.not_lt.1 fun hlt => h2 (diag_low (by omega) h1 (by omega))
        exact stI_none_of hi hki e (by rw [hV' i i hi hi]; exact Int.not_le.1 h2)
      · exact ih (by omega) h1
  exact key n (Nat.le_refl _) hg

/-- The numbers of a table, row by row; in a grid of 13 times 13. -/
def mk (n : Nat) (f : Tab) : List Int := (List.range (n * n)).map fun p => f (p / n) (p % n)
def grid (n : Nat) (f : Tab) : List Int := (List.range 169).map fun p => if p / 13 < n ∧ p % 13 < n then f (p / 13) (p % 13) else 0
theorem mk_len (n : Nat) (f : Tab) : (mk n f).length = n * n := by simp [mk]
theorem grid_len (n : Nat) (f : Tab) : (grid n f).length = 169 := by simp [grid]
theorem idx_div {s i j : Nat} (hj : j < s) : (i * s + j) / s = i := by rw [Nat.mul_comm, Nat.mul_add_div (by omega), Nat.div_eq_of_lt hj]; rfl
theorem idx_mod {s i j : Nat} (hj : j < s) : (i * s + j) % s = j := by rw [Nat.mul_comm, Nat.mul_add_mod]; exact Nat.mod_eq_of_lt hj
theorem mk_get {n : Nat} {f : Tab} {i j : Nat} (hi : i < n) (hj : j < n) : (mk n f)[i * n + j]? = some (f i j) := by
  simp [mk, idx_lt hi hj, idx_div hj, idx_mod hj]
theorem mk_V (n : Nat) (f : Tab) : V n n (mk n f) f := fun i j hi hj => by rw [List.getD_eq_getElem?_getD, mk_get hi hj]; rfl
theorem mk_room (n : Nat) (f : Tab) : Room n n (mk n f) := fun i j hi hj => by rw [mk_len]; exact idx_lt hi hj
theorem grid_at {n : Nat} {f : Tab} {i j : Nat} (hi : i < 13) (hj : j < 13) : (grid n f)[i * 13 + j]? = some (if i < n ∧ j < n then f i j else 0) := by
  have h : i * 13 + j < 169 := by omega
  simp [grid, h, idx_div hj, idx_mod hj]
theorem grid_get {n : Nat} {f : Tab} {i j : Nat} (hn : n ≤ 13) (hi : i < n) (hj : j < n) : (grid n f)[i * 13 + j]? = some (f i j) := by
  rw [grid_at (by omega) (by omega), if_pos ⟨hi, hj⟩]
theorem grid_V {n : Nat} (hn : n ≤ 13) (f : Tab) : V 13 n (grid n f) f := fun i j hi hj => by rw [List.getD_eq_getElem?_getD, grid_get hn hi hj]; rfl
theorem grid_room {n : Nat} (hn : n ≤ 13) (f : Tab) : Room 13 n (grid n f) := fun i j hi hj => by rw [grid_len]; omega
theorem mk_of {n : Nat} {f : Tab} {m : List Int} (hl : m.length = n * n) (hV : V n n m f) : m = mk n f := by
  apply List.ext_getElem?
  intro p
  by_cases hp : p < n * n
  · have hn : 0 < n := by
      rcases Nat.eq_zero_or_pos n with h | h
      · subst h; simp at hp
      · exact h
    have h1 : p / n < n := Nat.div_lt_of_lt_mul hp
    have h2 : p % n < n := Nat.mod_lt _ hn
    have e : p / n * n + p % n = p := by rw [Nat.mul_comm]; exact Nat.div_add_mod p n
    have h3 := hV _ _ h1 h2
    have h4 := mk_get (f := f) h1 h2
    rw [e] at h3 h4
    rw [h4, ← h3, List.getD_eq_getElem?_getD, List.getElem?_eq_getElem (by omega)]; rfl
  · rw [List.getElem?_eq_none (by omega), List.getElem?_eq_none (by rw [mk_len]; omega)]
theorem grid_of {n : Nat} {f : Tab} {m : List Int} (hn : n ≤ 13) (hl : m.length = 169) (hV : V 13 n m f) (ho : ∀ p, (∀ i j, i < n → j < n → p ≠ i * 13 + j) → m.getD p 0 = 0) : m = grid n f := by
  apply List.ext_getElem?
  intro p
  by_cases hp : p < 169
  · have h2 : p % 13 < 13 := Nat.mod_lt _ (by decide)
    have h1 : p / 13 < 13 := by omega
    have e : p / 13 * 13 + p % 13 = p := by omega
    have h4 := grid_at (n := n) (f := f) h1 h2
    rw [e] at h4
    rw [h4]
    have h5 : m[p]? = some (m.getD p 0) := by rw [List.getD_eq_getElem?_getD, List.getElem?_eq_getElem (by omega)]; rfl
    rw [h5]
    by_cases h : p / 13 < n ∧ p % 13 < n
    · have h3 := hV _ _ h.1 h.2
      rw [e] at h3
      rw [if_pos h, h3]
    · rw [if_neg h, ho p (fun i j hi hj e2 => h (by subst e2; rw [idx_div (by omega), idx_mod (by omega)]; exact ⟨hi, hj⟩))]
  · rw [List.getElem?_eq_none (by omega), List.getElem?_eq_none (by rw [grid_len]; omega)]
theorem grid_out {n : Nat} {f : Tab} (p : Nat) (h : ∀ i j, i < n → j < n → p ≠ i * 13 + j) : (grid n f).getD p 0 = 0 := by
  by_cases hp : p < 169
  · have e : p / 13 * 13 + p % 13 = p := by omega
    have h4 := grid_at (n := n) (f := f) (i := p / 13) (j := p % 13) (by omega) (by omega)
    rw [e] at h4
    rw [List.getD_eq_getElem?_getD, h4, if_neg (fun hh => h _ _ hh.1 hh.2 e.symm)]; rfl
  · rw [List.getD_eq_getElem?_getD, List.getElem?_eq_none (by rw [grid_len]; omega)]; rfl
/-- A table that can be closed, and the closed one. -/
def cloB (n : Nat) (f : Tab) : Bool := (List.range n).all fun i => decide (0 ≤ fwN f n i i)
theorem clo_iff {n : Nat} {f : Tab} : cloB n f = true ↔ Gd n f n := by
  unfold cloB
  rw [List.all_eq_true]
  exact ⟨fun h i hi => of_decide_eq_true (h i (List.mem_range.2 hi)), fun h i hi => decide_eq_true (h i (List.mem_range.1 hi))⟩
def clo (n : Nat) (f : Tab) : Tab := fwN f n
theorem spec_close {n : Nat} {f : Tab} (h1 : 1 ≤ n) (hn : n ≤ 13) (hb : Bd n f 10000000) : stS n (mk n f) n = if cloB n f = true then some (mk n (clo n f)) else none := by
  split
  · rename_i h
    obtain ⟨m', e, hl, hV⟩ := stS_some hn hb (mk_room n f) (mk_V n f) n (Nat.le_refl _) (clo_iff.1 h)
    rw [e, mk_of (by rw [hl, mk_len]) hV]; rfl
  · rename_i h
    obtain ⟨k, rfl⟩ : ∃ k, n = k + 1 := ⟨n - 1, by omega⟩
    exact stS_none hn hb (mk_room _ f) (mk_V _ f) k (Nat.le_refl _) (fun hg => h (clo_iff.2 hg))
theorem impl_close {n : Nat} {f : Tab} (hn : n ≤ 13) (hb : Bd n f 10000000) : stI n (grid n f) n = if cloB n f = true then some (grid n (clo n f)) else none := by
  split
  · rename_i h
    obtain ⟨m', e, hl, hV, ho⟩ := stI_some hn hb (grid_room hn f) (grid_V hn f) n (Nat.le_refl _) (fun j hj => (clo_iff.1 h).down (by omega))
    rw [e, grid_of hn (by rw [hl, grid_len]) hV (fun p hp => (ho p hp).trans (grid_out p hp))]; rfl
  · rename_i h
    exact stI_none hn hb (grid_room hn f) (grid_V hn f) (fun hg => h (clo_iff.2 hg))
/-- All that follows is said. -/
def Closed (n : Nat) (f : Tab) : Prop := (∀ i, i < n → f i i = 0) ∧ ∀ a b c, a < n → b < n → c < n → f a b ≤ f a c + f c b
theorem fwN_mono (f : Tab) (i j : Nat) : ∀ k, fwN f k i j ≤ f i j
  | 0 => Int.le_refl _
  | k + 1 => Int.le_trans (fwN_le f k i j) (fwN_mono f i j k)
theorem clo_le (n : Nat) (f : Tab) (i j : Nat) : clo n f i j ≤ f i j := fwN_mono f i j n
theorem clo_closed {n : Nat} {f : Tab} (hd : ∀ i, i < n → f i i ≤ 0) (h : cloB n f = true) : Closed n (clo n f) :=
  ⟨fun i hi => by have h1 := (clo_iff.1 h) i hi; have h2 := clo_le n f i i; have := hd i hi; unfold clo at *; omega, fun a b c ha hb hc => tri n (Nat.le_refl _) (clo_iff.1 h) a b c ha hb hc⟩
theorem closed_low {n : Nat} {f : Tab} (h : Closed n f) {i j : Nat} (hi : i < n) (hj : j < n) : -(f j i) ≤ f i j := by
  have h1 := h.2 i i j hi hi hj
  have h2 := h.1 i hi
  omega
end Go.Proofs.YtihpajiololfoaaGreat.Q
namespace Go.Proofs.YtihpajiololfoaaGreat.Q
open Go.RowKit

def capT : Tab := fun i j => if i = j then 0 else if i = 0 ∨ j = 0 then 1000000 else 2000000
def entB (i j : Nat) (x : Int) : Bool := decide (-2000000 ≤ x ∧ x ≤ capT i j ∧ (i ≠ j ∨ x = 0))
def okF (z : Int) (l : List Int) : Bool := decide (1 ≤ z ∧ z ≤ 13 ∧ l.length = z.toNat * z.toNat) && (List.range l.length).all fun p => entB (p / z.toNat) (p % z.toNat) (l.getD p 0)
def tab (n : Nat) (l : List Int) : Tab := fun i j => l.getD (i * n + j) 0
/-- Each number is within its bounds. -/
def Fine (n : Nat) (f : Tab) : Prop := ∀ i j, i < n → j < n → -2000000 ≤ f i j ∧ f i j ≤ capT i j ∧ (i = j → f i j = 0)
theorem cap_le (i j : Nat) : 0 ≤ capT i j ∧ capT i j ≤ 2000000 := by unfold capT; split; omega; split <;> omega
theorem Fine.bd {n : Nat} {f : Tab} (h : Fine n f) : Bd n f 10000000 := fun i j hi hj => by
  have := h i j hi hj
  have := cap_le i j
  omega
theorem Fine.diag {n : Nat} {f : Tab} (h : Fine n f) : ∀ i, i < n → f i i ≤ 0 := fun i hi => by have := (h i i hi hi).2.2 rfl; omega
theorem tab_V (n : Nat) (l : List Int) : V n n l (tab n l) := fun _ _ _ _ => rfl
theorem tab_mk {n : Nat} {l : List Int} (h : l.length = n * n) : l = mk n (tab n l) := mk_of h (tab_V n l)
theorem ok_of {z : Int} {l : List Int} (h : okF z l = true) : ∃ n : Nat, z = n ∧ 1 ≤ n ∧ n ≤ 13 ∧ l.length = n * n ∧ l = mk n (tab n l) ∧ Fine n (tab n l) := by
  unfold okF at h
  rw [Bool.and_eq_true, decide_eq_true_eq, List.all_eq_true] at h
  obtain ⟨⟨h1, h2, h3⟩, h4⟩ := h
  refine ⟨z.toNat, by omega, by omega, by omega, h3, tab_mk h3, fun i j hi hj => ?_⟩
  have h5 := h4 (i * z.toNat + j) (List.mem_range.2 (by rw [h3]; exact idx_lt hi hj))
  rw [idx_div hj, idx_mod hj] at h5
  unfold entB at h5
  have h6 := of_decide_eq_true h5
  exact ⟨h6.1, h6.2.1, fun e => h6.2.2.resolve_left (fun hh => hh e)⟩
theorem clo_fine {n : Nat} {f : Tab} (h : Fine n f) (hc : cloB n f = true) : Fine n (clo n f) := fun i j hi hj => by
  have hcl := clo_closed h.diag hc
  have h1 := clo_le n f i j
  have h2 := clo_le n f j i
  have h3 := closed_low hcl hi hj
  have h4 := h i j hi hj
  have h5 := h j i hj hi
  have h6 := cap_le j i
  exact ⟨by omega, by omega, fun e => by subst e; exact hcl.1 i hi⟩
theorem sq_le {n : Nat} (h : n ≤ 13) : n * n ≤ 169 := Nat.mul_le_mul h h
theorem sq_pos {n : Nat} (h : 1 ≤ n) : 1 ≤ n * n := Nat.mul_le_mul h h
/-- Facts that a table gives, or none. -/
def outZ (o : Option Tab) (n : Nat) : Int := if o.isSome then n else 0
def outL (o : Option Tab) (n : Nat) : List Int := match o with | some f => mk n f | none => []
def cloO (n : Nat) (f : Tab) : Option Tab := if cloB n f = true then some (clo n f) else none
end Go.Proofs.YtihpajiololfoaaGreat.Q
namespace Go.Proofs.YtihpajiololfoaaGreat.Q
open Go.RowKit

theorem run_max_M {P : Program} (w : World) (ts : Array TypeId) (t : TypeId) (x y : Int) : (Builtin.max_ ts t #[.int .i64 x, .int .i64 y]).run P w = .ok (.int .i64 (max x y)) w := by
  rw [run_max_int2]
  by_cases h : y > x
  · rw [if_pos h, show max x y = y by omega]
  · rw [if_neg h, show max x y = x by omega]
theorem run_min_M {P : Program} (w : World) (ts : Array TypeId) (t : TypeId) (x y : Int) : (Builtin.min_ ts t #[.int .i64 x, .int .i64 y]).run P w = .ok (.int .i64 (min x y)) w := by
  rw [run_min_int2]
  by_cases h : y < x
  · rw [if_pos h, show min x y = y by omega]
  · rw [if_neg h, show min x y = x by omega]
end Go.Proofs.YtihpajiololfoaaGreat.Q
