/-
  NUMBERS AS TEXT, with a sign: CONTRACT of the specification's l01Digits at every number within the bounds.
-/
import Derived.Test.YtgkmpadeleebdaaDoorDigits
namespace Go.Proofs.YtgkmpadeleebdaaDoor
open Go.RowKit

def dI (n : Int) : ByteArray := ⟨(Lib.itoa n).toArray⟩
theorem dI_nat (n : Nat) : dI (n : Int) = dec n := by
  unfold dI dec Lib.itoa
  rw [if_neg (by omega)]
  simp
theorem dI_neg (m : Nat) (h : 1 ≤ m) : dI (-(m : Int)) = ⟨#[45]⟩ ++ dec m := by
  unfold dI dec Lib.itoa
  rw [if_pos (by omega)]
  apply ByteArray.ext
  simp
theorem dI_size (n : Int) (h0 : -1000000 ≤ n) (h1 : n ≤ 1000000) : (dI n).size ≤ 1000002 := by
  by_cases h : 0 ≤ n
  · obtain ⟨k, rfl⟩ : ∃ k : Nat, n = k := ⟨n.toNat, by omega⟩
    rw [dI_nat]
    have := dec_size k
    omega
  · obtain ⟨k, rfl⟩ : ∃ k : Nat, n = -(k : Int) := ⟨(-n).toNat, by omega⟩
    rw [dI_neg k (by omega), ByteArray.size_append]
    have := dec_size k
    have e : (ByteArray.mk #[45]).size = 1 := rfl
    omega

set_option maxRecDepth 100000 in
set_option maxHeartbeats 1600000 in
theorem digitsI_any (n : Int) (w : World) (h0 : -1000000 ≤ n) (h1 : n ≤ 1000000) : Calls Tryd.prog 38 #[.int .i64 n] w fun e w' => e = .returned (.string (dI n)) ∧ Below w.heap.size w w' := by
  by_cases h : 0 ≤ n
  · obtain ⟨k, rfl⟩ : ∃ k : Nat, n = k := ⟨n.toNat, by omega⟩
    rw [dI_nat]
    exact digits_any k w (by omega)
  · obtain ⟨m, rfl⟩ : ∃ k : Nat, n = -(k : Int) := ⟨(-n).toNat, by omega⟩
    have hm : 1 ≤ m := by omega
    by_cases h9 : m ≤ 9
    · have E := mkHid (dI_neg m hm)
      have hs := dec_size m
      have hs2 : (dec m).size ≤ 1000001 := by omega
      have HC := mkHid (fun W => digits_any m W (by omega))
      have k1 : ¬ (-(m : Int) < -9) := by omega
      have k2 : -(m : Int) < 0 := by omega
      have k3 : IntKind.i64.wrap (- -(m : Int)) = (m : Int) := by rw [IntKind.wrap_i64]; omega
      clear hs h h0 h1
      go_enter Tryd.func38, Tryd.ntmps38
      go_wp2_with (go_at_call 38; refine (HC.out _).mono ?_; rintro e w1 ⟨rfl, hb1⟩)
      go_ret
      exact ⟨by rw [E.out]; rfl, hb1⟩
    · obtain ⟨q, hq⟩ : ∃ q, q = m / 10 := ⟨_, rfl⟩
      obtain ⟨r, hr⟩ : ∃ r, r = m % 10 := ⟨_, rfl⟩
      have E := mkHid (show dI (-(m : Int)) = (⟨#[45]⟩ ++ dec q) ++ dec r by
        rw [dI_neg m hm, dec_more (by omega), ← hq, ← hr, dec_small (n := r) (by omega)]
        apply ByteArray.ext
        simp)
      have e1 : (-(m : Int)).tdiv 10 = -(q : Int) := by rw [Int.neg_tdiv, Int.tdiv_eq_ediv_of_nonneg (by omega)]; omega
      have e2 : (-(m : Int)).tmod 10 = -(r : Int) := by rw [Int.neg_tmod, Int.tmod_eq_emod_of_nonneg (by omega)]; omega
      have hq1 : q ≤ 100000 := by omega
      have hr1 : r ≤ 9 := by omega
      have hs := dec_size q
      have hs2 : (dec q).size ≤ 1000001 := by omega
      have hs3 := dec_size r
      have hs4 : (dec r).size ≤ 1000001 := by omega
      have k1 : (-(m : Int) < -9) := by omega
      have k3 : IntKind.i64.wrap (- -(q : Int)) = (q : Int) := by rw [IntKind.wrap_i64]; omega
      have k4 : IntKind.i64.wrap (- -(r : Int)) = (r : Int) := by rw [IntKind.wrap_i64]; omega
      have k5 : IntKind.i64.wrap (-(q : Int)) = -(q : Int) := by rw [IntKind.wrap_i64]; omega
      have k6 : IntKind.i64.wrap (-(r : Int)) = -(r : Int) := by rw [IntKind.wrap_i64]; omega
      clear hs hs3 h h0 h1 hq hr
      go_enter Tryd.func38, Tryd.ntmps38
      go_wp2_with (go_at_call 38; refine (digits_any _ _ (by omega)).mono ?_; rintro e w1 ⟨rfl, hb1⟩)
      go_ret
      exact ⟨by rw [E.out]; rfl, (by repeat (first | with_reducible exact Below.refl _ _ | with_reducible refine below_step ?_ (by assumption)))⟩
end Go.Proofs.YtgkmpadeleebdaaDoor
