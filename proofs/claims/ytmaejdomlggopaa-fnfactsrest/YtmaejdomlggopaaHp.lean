/-
  PURE: facts that are so of numbers are so when closed; what SymMost tells is never less than what is.
-/
import Derived.Test.YtmaejdomlggopaaSn
import Derived.Test.YtmaejdomlggopaaHs
import Derived.Test.YtmaejdomlggopaaGt
namespace Go.Proofs.Ytmaejdomlggopaa
open Go.RowKit

theorem sat_fw {n : Nat} {f : Tab} {v : Nat → Int} (h : ∀ a b, a < n → b < n → v a - v b ≤ f a b) : ∀ k, k ≤ n → ∀ a b, a < n → b < n → v a - v b ≤ fwN f k a b
  | 0, _, a, b, ha, hb => h a b ha hb
  | k + 1, hk, a, b, ha, hb => by
    have ih := sat_fw h k (by omega)
    have h1 := ih a b ha hb
    have h2 := ih a k ha (by omega)
    have h3 := ih k b (by omega) hb
    show _ ≤ min (fwN f k a b) (fwN f k a k + fwN f k k b)
    omega
theorem sat_clo {n : Nat} {f : Tab} {v : Nat → Int} (h : ∀ a b, a < n → b < n → v a - v b ≤ f a b) : cloB n f = true ∧ ∀ a b, a < n → b < n → v a - v b ≤ clo n f a b := by
  have h1 := sat_fw h n (Nat.le_refl n)
  refine ⟨clo_iff.2 fun i hi => ?_, h1⟩
  have := h1 i i hi hi
  omega
/-- What facts that are so of numbers say. -/
theorem has_of {z : Int} {l v : List Int} (h : hasF z l v = true) : ∃ n : Nat, z = n ∧ 1 ≤ n ∧ n ≤ 13 ∧ okF z l = true ∧ v.length = n ∧ v.getD 0 0 = 0 ∧ valsB v = true ∧ ∀ a b, a < n → b < n → v.getD a 0 - v.getD b 0 ≤ tab n l a b := by
  unfold hasF at h
  rw [Bool.and_eq_true, Bool.and_eq_true] at h
  obtain ⟨h1, h2, h3⟩ := h
  obtain ⟨n, rfl, q1, q2, q3, _, _⟩ := ok_of h1
  rw [Int.toNat_natCast] at h2 h3
  unfold vOkB at h2
  rw [Bool.and_eq_true] at h2
  have h4 := of_decide_eq_true h2.1
  refine ⟨n, rfl, q1, q2, h1, h4.1, h4.2, h2.2, fun a b ha hb => ?_⟩
  have h5 := List.all_eq_true.1 h3 (a * n + b) (List.mem_range.2 (by rw [q3]; exact idx_lt ha hb))
  have h6 := of_decide_eq_true h5
  rw [idx_div hb, idx_mod hb] at h6
  exact h6
theorem has_cF {z : Int} {l v : List Int} (h : hasF z l v = true) : ∃ f, cF z l = some f ∧ ∀ a b, a < z.toNat → b < z.toNat → v.getD a 0 - v.getD b 0 ≤ f a b := by
  obtain ⟨n, rfl, _, _, hok, _, _, _, h4⟩ := has_of h
  have hc := sat_clo (v := fun a => v.getD a 0) h4
  refine ⟨clo n (tab n l), ?_, ?_⟩
  · unfold cF
    rw [okO_yes hok, Int.toNat_natCast]
    simp only [Option.bind_some, cloO]
    rw [if_pos hc.1]
  · rw [Int.toNat_natCast]
    exact hc.2
/-- What SymMost tells is never less than what is. -/
theorem has_most {z : Int} {l v : List Int} {av ac bv bc m : Int} (h : hasF z l v = true) (hm : mostF z l av ac bv bc = (m, true)) : ∃ x y : Int, symVal av ac v = (x, true) ∧ symVal bv bc v = (y, true) ∧ x - y ≤ m ∧ -10000000 ≤ x - y ∧ x - y ≤ 10000000 := by
  obtain ⟨n, rfl, q1, q2, hok, hlen, h0, hv, _⟩ := has_of h
  obtain ⟨f, hf, hle⟩ := has_cF h
  unfold mostF at hm
  have hf' : (okO (n : Int) l).bind (cloO ((n : Int)).toNat) = some f := hf
  rw [hf', Int.toNat_natCast] at hm
  rw [Int.toNat_natCast] at hle
  cases h1 : wideB n av ac with
  | false => rw [mostO_no1 h1] at hm; cases hm
  | true =>
    cases h2 : wideB n bv bc with
    | false => rw [mostO_no2 h2] at hm; cases hm
    | true =>
      rw [mostO_yes h1 h2] at hm
      have e := congrArg Prod.fst hm
      simp only at e
      have hvo : valsOk v = true := by
        unfold valsOk vOkB
        rw [decide_eq_true ⟨by omega, by omega⟩, decide_eq_true ⟨rfl, h0⟩, hv]; rfl
      unfold wideB at h1 h2
      rw [Bool.and_eq_true] at h1 h2
      have a1 := of_decide_eq_true h1.1
      have b1 := of_decide_eq_true h2.1
      have a2 := of_decide_eq_true h1.2
      have b2 := of_decide_eq_true h2.2
      have ha : av.toNat < n := by omega
      have hb : bv.toNat < n := by omega
      have h3 := hle av.toNat bv.toNat ha hb
      have va := vals_get hv (i := av.toNat) (by omega)
      have vb := vals_get hv (i := bv.toNat) (by omega)
      refine ⟨v.getD av.toNat 0 + ac, v.getD bv.toNat 0 + bc, ?_, ?_, by omega, by omega, by omega⟩
      · unfold symVal; rw [hvo, hlen, h1.1, h1.2]; rfl
      · unfold symVal; rw [hvo, hlen, h2.1, h2.2]; rfl
end Go.Proofs.Ytmaejdomlggopaa
