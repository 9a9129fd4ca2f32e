/-
  THE TEXT OF AN ORDER, as data: how many loops end at a point; what is written.
-/
import Derived.Test.YtpikgigfeifliaaDoorLsti
import Derived.Test.YtpikgigfeifliaaDoorDigits
namespace Go.Proofs.YtpikgigfeifliaaDoor
open Go.RowKit

def cntT (l : List Int) (p : Nat) : Nat → Nat
  | 0 => 0
  | k + 1 => cntT l p k + (if l.getD k (-1) = (p : Int) then 1 else 0)
theorem cntT_le (l : List Int) (p : Nat) : ∀ k, cntT l p k ≤ k
  | 0 => Nat.le_refl _
  | k + 1 => by
    have := cntT_le l p k
    simp only [cntT]
    split <;> omega
def orderT (l : List Int) : Nat → List UInt8
  | 0 => []
  | k + 1 => orderT l k ++ ((if 0 < k then [32] else []) ++ ((if 0 ≤ l.getD k (-1) then [40] else []) ++ ((dec k).data.toList ++ List.replicate (cntT l k l.length) 41)))
theorem dec_len (k : Nat) : (dec k).data.toList.length = (dec k).size := (Lib.size_eq (dec k)).symm
theorem orderT_len (l : List Int) (hl : l.length ≤ 3000) : ∀ k, k ≤ 3000 → (orderT l k).length ≤ k * 6003
  | 0, _ => by simp [orderT]
  | k + 1, h => by
    have h1 := orderT_len l hl k (by omega)
    have h2 := dec_size k
    have h3 := cntT_le l k l.length
    simp only [orderT, List.length_append, List.length_replicate, dec_len]
    have h4 : (if 0 < k then [(32 : UInt8)] else []).length ≤ 1 := by split <;> simp
    have h5 : (if 0 ≤ l.getD k (-1) then [(40 : UInt8)] else []).length ≤ 1 := by split <;> simp
    omega
/-- The points around p, of those below k. -/
def nestN (l : List Int) (p : Nat) : Nat → List Nat
  | 0 => []
  | k + 1 => nestN l p k ++ (if (p : Int) ≤ l.getD k (-1) then [k] else [])
theorem nestN_yes {l : List Int} {p k : Nat} {x : Int} (h : l[k]? = some x) (hx : (p : Int) ≤ x) : nestN l p (k + 1) = nestN l p k ++ [k] := by
  simp only [nestN, List.getD, h, Option.getD_some]
  rw [if_pos hx]
theorem nestN_no {l : List Int} {p k : Nat} {x : Int} (h : l[k]? = some x) (hx : ¬ (p : Int) ≤ x) : nestN l p (k + 1) = nestN l p k := by
  simp only [nestN, List.getD, h, Option.getD_some]
  rw [if_neg hx, List.append_nil]
theorem nestN_len (l : List Int) (p : Nat) : ∀ k, (nestN l p k).length ≤ k
  | 0 => by simp [nestN]
  | k + 1 => by
    have := nestN_len l p k
    simp only [nestN, List.length_append]
    split <;> simp <;> omega
/-- How many of these end at p. -/
def hits (l : List Int) (p : Nat) (pre : List Nat) : Nat := pre.countP (fun h => decide (l.getD h (-1) = (p : Int)))
theorem hits_yes {l : List Int} {p x : Nat} {y : Int} (pre : List Nat) (h : l[x]? = some y) (hy : y = (p : Int)) : hits l p (pre ++ [x]) = hits l p pre + 1 := by
  unfold hits
  rw [List.countP_append]
  simp [h, hy]
theorem hits_no {l : List Int} {p x : Nat} {y : Int} (pre : List Nat) (h : l[x]? = some y) (hy : ¬ y = (p : Int)) : hits l p (pre ++ [x]) = hits l p pre := by
  unfold hits
  rw [List.countP_append]
  simp [h, hy]
theorem hits_nest (l : List Int) (p : Nat) : ∀ k, hits l p (nestN l p k) = cntT l p k
  | 0 => rfl
  | k + 1 => by
    have ih := hits_nest l p k
    unfold hits at ih ⊢
    simp only [nestN, cntT, List.countP_append, ih]
    congr 1
    by_cases h1 : l.getD k (-1) = (p : Int)
    · rw [if_pos (by omega), if_pos h1, List.countP_cons_of_pos (by simpa using h1)]
      rfl
    · rw [if_neg h1]
      split
      · rw [List.countP_cons_of_neg (by simpa using h1)]
        rfl
      · rfl
/-- Each last is none, or not ahead of its head, and a point. -/
def Fwd (l : List Int) : Prop := ∀ (h : Nat) (x : Int), l[h]? = some x → x = -1 ∨ ((h : Int) ≤ x ∧ x < l.length)
theorem cnt_all {l : List Int} (hf : Fwd l) (p : Nat) : ∀ k, p < k → k ≤ l.length → cntT l p k = cntT l p (p + 1)
  | 0, h, _ => by omega
  | k + 1, h, hk => by
    rcases Nat.lt_or_ge p k with h1 | h1
    · have ih := cnt_all hf p k h1 (by omega)
      have hx : l[k]? = some l[k] := List.getElem?_eq_getElem (by omega)
      rcases hf k _ hx with h2 | h2
      · simp only [cntT, List.getD, hx, Option.getD_some] at ih ⊢
        rw [if_neg (by omega), Nat.add_zero, ih]
      · simp only [cntT, List.getD, hx, Option.getD_some] at ih ⊢
        rw [if_neg (by omega), Nat.add_zero, ih]
    · obtain rfl : p = k := by omega
      rfl
theorem fwd_step {l : List Int} {e : Ed} (hf : Fwd l) (h0 : 0 ≤ e.t) (h1 : e.t < l.length) (h2 : e.f < l.length) : Fwd (lstep l e) := by
  intro h x hx
  rw [lstep_len]
  by_cases hge : e.f ≥ e.t
  · have ho : l[e.t.toNat]? = some l[e.t.toNat] := List.getElem?_eq_getElem (by omega)
    rw [lstep_set hge (t := e.t.toNat) (by omega) ho, List.getElem?_set] at hx
    split at hx
    · rename_i e1
      split at hx
      · simp at hx
        have := hf _ _ ho
        omega
      · simp at hx
    · exact hf h x hx
  · rw [lstep_no hge] at hx
    exact hf h x hx
theorem fwd_fold (es : List Ed) : ∀ (l : List Int), Fwd l → (∀ e ∈ es, 0 ≤ e.t ∧ e.t < l.length ∧ e.f < l.length) → Fwd (es.foldl lstep l) := by
  induction es with
  | nil => exact fun l h _ => h
  | cons x r ih =>
    intro l h hall
    rw [List.foldl_cons]
    obtain ⟨h0, h1, h2⟩ := hall x (List.mem_cons_self ..)
    exact ih _ (fwd_step h h0 h1 h2) (fun e he => by rw [lstep_len]; exact hall e (List.mem_cons_of_mem _ he))
theorem fwd_lasts {n : Nat} {es : List Ed} (hg : gokB (n : Int) es = true) : Fwd (lastsL n es) := by
  obtain ⟨_, _, hall⟩ := all_of hg
  refine fwd_fold es _ (fun h x hx => ?_) (fun e he => ?_)
  · left
    have := List.getElem?_replicate (n := n) (a := (-1 : Int)) (i := h)
    rw [this] at hx
    split at hx
    · simpa using hx.symm
    · simp at hx
  · obtain ⟨i, hi⟩ := List.mem_iff_getElem?.1 he
    have := hall i e hi
    simp
    omega
theorem fwd_lastsR (p : Int) (es : List Ed) : Fwd (lastsR p es) := by
  unfold lastsR
  split
  · rename_i hg
    obtain ⟨hp, _, _⟩ := all_of hg
    obtain ⟨p1, p2⟩ := btw_iff.1 hp
    obtain ⟨n, rfl⟩ : ∃ n : Nat, p = n := ⟨p.toNat, by omega⟩
    rw [Int.toNat_natCast]
    exact fwd_lasts hg
  · intro h x hx
    simp at hx
theorem lastsR_le (p : Int) (es : List Ed) : (lastsR p es).length ≤ 3000 := by
  unfold lastsR
  split
  · rename_i hg
    obtain ⟨hp, _, _⟩ := all_of hg
    obtain ⟨p1, p2⟩ := btw_iff.1 hp
    rw [lastsL_len]
    omega
  · simp
/-- What is written for a point, behind what was written. -/
theorem orderT_succ {l : List Int} (hf : Fwd l) {k : Nat} {x : Int} (hx : l[k]? = some x) (hk : k < l.length) : orderT l (k + 1) = orderT l k ++ ((if 0 < k then [32] else []) ++ ((if 0 ≤ x then [40] else []) ++ ((dec k).data.toList ++ List.replicate (hits l k (nestN l k (k + 1))) 41))) := by
  rw [hits_nest, ← cnt_all hf k l.length hk (Nat.le_refl _)]
  simp only [orderT, List.getD, hx, Option.getD_some]
theorem orderT_succ' {l : List Int} {k : Nat} {x : Int} (hx : l[k]? = some x) : orderT l (k + 1) = orderT l k ++ ((if 0 < k then [32] else []) ++ ((if 0 ≤ x then [40] else []) ++ ((dec k).data.toList ++ List.replicate (cntT l k l.length) 41))) := by
  simp only [orderT, List.getD, hx, Option.getD_some]
end Go.Proofs.YtpikgigfeifliaaDoor
