/-
  WHICH HEADS LIE AROUND A POINT, as data; what a round of the program's inner loop keeps.
-/
import Derived.Test.YtpikgigfeifliaaRr
import Derived.Test.YtpikgigfeifliaaHds
import Derived.RangeFuncNested
namespace Go.Proofs.Ytpikgigfeifliaa
open Go.RowKit

def nestT (l : List Int) (p : Nat) : Nat → List Int
  | 0 => []
  | k + 1 => nestT l p k ++ (if (p : Int) ≤ l.getD k (-1) then [(k : Int)] else [])
def nestAt (l : List Int) (p : Nat) : List Int := nestT l p (p + 1)
def nestL (l : List Int) : Nat → List (List Int)
  | 0 => []
  | k + 1 => nestL l k ++ [nestAt l k]
theorem nestL_len (l : List Int) : ∀ k, (nestL l k).length = k
  | 0 => rfl
  | k + 1 => by simp [nestL, nestL_len l k]
theorem nestT_yes {l : List Int} {p k : Nat} {x : Int} (h : l[k]? = some x) (hx : (p : Int) ≤ x) : nestT l p (k + 1) = nestT l p k ++ [(k : Int)] := by
  simp only [nestT, List.getD, h, Option.getD_some]
  rw [if_pos hx]
theorem nestT_no {l : List Int} {p k : Nat} {x : Int} (h : l[k]? = some x) (hx : ¬ (p : Int) ≤ x) : nestT l p (k + 1) = nestT l p k := by
  simp only [nestT, List.getD, h, Option.getD_some]
  rw [if_neg hx, List.append_nil]
theorem nestT_len (l : List Int) (p : Nat) : ∀ k, (nestT l p k).length ≤ k
  | 0 => by simp [nestT]
  | k + 1 => by
    have := nestT_len l p k
    simp only [nestT, List.length_append]
    split <;> simp <;> omega
theorem nestL_tot (l : List Int) : ∀ k, k ≤ 3000 → tot (nestL l k) ≤ k * 3000
  | 0, _ => by simp [nestL, tot]
  | k + 1, h => by
    have h1 := nestL_tot l k (by omega)
    have h2 := nestT_len l k (k + 1)
    simp only [nestL, tot_append, tot, nestAt]
    omega
theorem nestL_rows (l : List Int) : ∀ k (i : Nat) (r : List Int), (nestL l k)[i]? = some r → r.length ≤ k
  | 0, i, r, h => by simp [nestL] at h
  | k + 1, i, r, h => by
    simp only [nestL] at h
    rw [List.getElem?_append] at h
    split at h
    · have := nestL_rows l k i r h
      omega
    · obtain ⟨_, e⟩ := List.getElem?_eq_some_iff.1 h
      simp at e
      subst e
      exact nestT_len l k (k + 1)
/-- The heads of the points below k are, of those that lie around p, just those whose last is not below p. -/
theorem heads_nest (l : List Int) (p : Nat) : ∀ k, (headsT l k).filter (fun h => decide ((p : Int) ≤ l.getD h.toNat (-1))) = nestT l p k
  | 0 => rfl
  | k + 1 => by
    simp only [headsT, nestT, List.filter_append, heads_nest l p k]
    congr 1
    by_cases h0 : 0 ≤ l.getD k (-1)
    · rw [if_pos h0]
      by_cases h1 : (p : Int) ≤ l.getD k (-1)
      · rw [if_pos h1]
        rw [List.filter_cons_of_pos (by simpa using h1)]
        rfl
      · rw [if_neg h1]
        rw [List.filter_cons_of_neg (by simpa using h1)]
        rfl
    · rw [if_neg h0, if_neg (by omega)]; rfl
theorem headsT_lt (l : List Int) : ∀ (k i : Nat) (x : Int), (headsT l k)[i]? = some x → 0 ≤ x ∧ x < k
  | 0, i, x, h => by simp [headsT] at h
  | k + 1, i, x, h => by
    simp only [headsT] at h
    rw [List.getElem?_append] at h
    split at h
    · have := headsT_lt l k i x h
      omega
    · split at h
      · obtain ⟨_, e⟩ := List.getElem?_eq_some_iff.1 h
        simp at e
        omega
      · simp at h
/-- The heads below m are the first of the heads below n; the others are m at least. -/
theorem headsT_split (l : List Int) (m : Nat) : ∀ n, m ≤ n → ∃ r : List Int, headsT l n = headsT l m ++ r ∧ ∀ (i : Nat) (x : Int), r[i]? = some x → (m : Int) ≤ x
  | 0, h => by
    obtain rfl : m = 0 := by omega
    exact ⟨[], by simp, fun i x h => by simp at h⟩
  | n + 1, h => by
    rcases Nat.lt_or_ge n m with h1 | h1
    · obtain rfl : m = n + 1 := by omega
      exact ⟨[], by simp, fun i x h => by simp at h⟩
    · obtain ⟨r, e, hr⟩ := headsT_split l m n h1
      refine ⟨r ++ (if 0 ≤ l.getD n (-1) then [(n : Int)] else []), by simp only [headsT, e, List.append_assoc], fun i x hx => ?_⟩
      rw [List.getElem?_append] at hx
      split at hx
      · exact hr i x hx
      · split at hx
        · obtain ⟨_, e⟩ := List.getElem?_eq_some_iff.1 hx
          simp at e
          omega
        · simp at hx

/-- What a round keeps: all below B, and the two boxes of the iterator behind it. -/
def Sel (B : Nat) (W W' : World) : Prop := W'.os = W.os ∧ W'.tape = W.tape ∧ W'.output = W.output ∧ W.heap.size ≤ W'.heap.size ∧ ∀ k, k < B + 3 → k ≠ B → W'.heap[k]? = W.heap[k]?
theorem Sel.refl (B : Nat) (W : World) : Sel B W W := ⟨rfl, rfl, rfl, Nat.le_refl _, fun _ _ _ => rfl⟩
theorem Sel.trans {B : Nat} {W W' W'' : World} (h : Sel B W W') (h' : Sel B W' W'') : Sel B W W'' :=
  ⟨h'.1.trans h.1, h'.2.1.trans h.2.1, h'.2.2.1.trans h.2.2.1, Nat.le_trans h.2.2.2.1 h'.2.2.2.1, fun k h1 h2 => (h'.2.2.2.2 k h1 h2).trans (h.2.2.2.2 k h1 h2)⟩
theorem Sel.cell {B : Nat} {W W' : World} (h : Sel B W W') {b i : Nat} (h1 : b < B + 3) (h2 : b ≠ B) : W'.cell? ⟨b, i, none⟩ = W.cell? ⟨b, i, none⟩ := World.cell?_of_block (w := W) (h.2.2.2.2 b h1 h2)
theorem Sel.below {B : Nat} {W W' : World} (h : Sel B W W') : Below B W W' := ⟨h.1, h.2.1, h.2.2.1, h.2.2.2.1, fun k hk => h.2.2.2.2 k (by omega) (by omega)⟩
theorem Sel.grown {B : Nat} {W W' W'' : World} (h : Sel B W W') {row : Option Nat} (hg : W'.grownBy W'' row) (hs : B + 3 ≤ W'.heap.size) (hr : ∀ r, row = some r → B + 3 ≤ r) : Sel B W W'' := by
  refine h.trans ⟨hg.os, hg.tape, hg.output, hg.size, fun k h1 h2 => hg.block k (by omega) fun e => ?_⟩
  have := hr k e.symm
  omega
theorem Sel.put {B : Nat} {W : World} {l : Nat} {o' : Obj} (h1 : B + 3 ≤ l) : Sel B W (W.putObj l o') :=
  ⟨rfl, rfl, rfl, by simp [World.putObj], fun k h2 _ => World.putObj_heap_other (by omega)⟩
theorem Sel.alloc {B : Nat} {W : World} (o : Obj) (h : B + 3 ≤ W.heap.size) : Sel B W (W.alloc o) := (Sel.refl B W).grown (World.grownBy_alloc W o none) h (fun r e => by cases e)
end Go.Proofs.Ytpikgigfeifliaa
