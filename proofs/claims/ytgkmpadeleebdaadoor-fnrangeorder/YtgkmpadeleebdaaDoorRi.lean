/-
  CONTRACT of the specification's l06Int: a number read from its text.
-/
import Derived.Test.YtgkmpadeleebdaaDoorPn
import Derived.Test.YtgkmpadeleebdaaDoorRtt
import Derived.Deep.Cut
import Derived.Deep.CutRange
namespace Go.Proofs.YtgkmpadeleebdaaDoor
open Go.RowKit
open Go.Lib

def digI (r : Int) : Bool := decide (48 ≤ r) && decide (r ≤ 57)
theorem dig_iff (r : Int) : digI r = true ↔ 48 ≤ r ∧ r ≤ 57 := by unfold digI; simp
/-- What the text of a number (at most so great) is read as; what is no such text. -/
def IntR (l : List UInt8) (m : Int) : Option Int → Prop
  | some n => l = itoa n ∧ -m ≤ n ∧ n ≤ m
  | none => ∀ n, -m ≤ n → n ≤ m → l ≠ itoa n
/-- A text's sign and what is behind it. -/
def Body (l : List UInt8) (neg : Bool) (ul : List UInt8) : Prop := (neg = true → l = 45 :: ul) ∧ (neg = false → l = ul ∧ l.head? ≠ some 45)
theorem none_of {l ul : List UInt8} {neg : Bool} {m : Int} (hB : Body l neg ul) (h : ∀ k : Nat, ul = decDigits k → (k : Int) ≤ m → (neg = true → 1 ≤ k) → False) : IntR l m none := by
  intro n h0 h1 e
  unfold itoa at e
  by_cases hn : n < 0
  · rw [if_pos hn] at e
    cases neg with
    | false => exact (hB.2 rfl).2 (by rw [e]; rfl)
    | true =>
      have := hB.1 rfl
      rw [e] at this
      have e2 := (List.cons.inj this).2
      exact h n.natAbs e2.symm (by omega) (fun _ => by omega)
  · rw [if_neg hn] at e
    cases neg with
    | false =>
      have := (hB.2 rfl).1
      exact h n.toNat (this.symm.trans e) (by omega) (fun q => by cases q)
    | true =>
      have := hB.1 rfl
      rw [e] at this
      have hb := dec_all n.toNat 45 (by rw [this]; simp)
      revert hb; decide
theorem some_of {l ul : List UInt8} {neg : Bool} {m : Int} {n : Nat} (hB : Body l neg ul) (hne : ul ≠ []) (hd : decFrom 0 ul = some n) (h48 : 1 < ul.length → ul.head? ≠ some 48) (hz : neg = true → ul ≠ [48]) (hn : (n : Int) ≤ m) : IntR l m (some (if neg then -(n : Int) else n)) := by
  have e := dec_of ul n hne hd h48
  cases neg with
  | false =>
    refine ⟨?_, ?_, ?_⟩
    · rw [(hB.2 rfl).1, e]; simp [itoa_nonneg]
    · simp; omega
    · simpa using hn
  | true =>
    have h1 : 1 ≤ n := by
      by_cases q : n = 0
      · subst q
        exact absurd (e.trans (by rw [decDigits, dif_pos (by omega)]; rfl)) (hz rfl)
      · omega
    refine ⟨?_, ?_, ?_⟩
    · rw [hB.1 rfl, e]; simp [itoa_neg n h1]
    · simp; omega
    · simp; omega
theorem dec_take8 {l : List UInt8} {k v : Nat} (h : decFrom 0 (l.take k) = some v) (hk : k ≤ 8) : v < 100000000 := by
  have h1 := decFrom_lt _ _ _ h
  have h2 : (l.take k).length ≤ 8 := by simp; omega
  have h3 : 10 ^ (l.take k).length ≤ 10 ^ 8 := Nat.pow_le_pow_right (by omega) h2
  omega
theorem ba_get {u : ByteArray} {k : Nat} (h : k < u.size) : u.data.toList[k]? = some (u[k]'h) := by
  rw [Array.getElem?_toList]
  exact Array.getElem?_eq_getElem (by exact h)
theorem ba_head {u : ByteArray} (h : 0 < u.size) : u.data.toList.head? = some (u[0]'h) := by
  rw [List.head?_eq_getElem?]; exact ba_get h
theorem ba_len (u : ByteArray) : u.data.toList.length = u.size := by simp
theorem u8_eq {x : UInt8} {n : Nat} (h : (x.toNat : Int) = n) (hn : n < 256) : x = UInt8.ofNat n := by
  apply UInt8.toNat_inj.1
  rw [UInt8.toNat_ofNat']
  omega
theorem ext_tail {s : ByteArray} (h : 0 < s.size) (e : s[0]'h = 45) : s.data.toList = 45 :: (s.extract 1 s.size).data.toList := by
  have e1 : (s.extract 1 s.size).data.toList = s.data.toList.drop 1 := by
    rw [ByteArray.data_extract, Array.toList_extract, List.extract_eq_take_drop]
    rw [List.take_of_length_le (by simp)]
  rw [e1]
  have h2 := ba_head h
  rw [e] at h2
  cases hl : s.data.toList with
  | nil => rw [hl] at h2; cases h2
  | cons x y => rw [hl] at h2; simp at h2; subst h2; rfl
end Go.Proofs.YtgkmpadeleebdaaDoor
