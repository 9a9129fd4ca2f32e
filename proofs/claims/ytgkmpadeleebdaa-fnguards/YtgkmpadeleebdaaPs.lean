/-
  PURE: what comes of numbers of two ranges is in the range that is told.
-/
import Derived.Test.YtgkmpadeleebdaaSp
namespace Go.Proofs.Ytgkmpadeleebdaa

theorem mk_has {a b x : Int} (h1 : a ≤ x) (h2 : x ≤ b) (h3 : -1000000 ≤ x) (h4 : x ≤ 1000000) : hasB (mkM a b).1 (mkM a b).2 x = true := by
  unfold mkM spanM
  rw [if_neg (by omega)]
  exact decide_eq_true ⟨by show -1000000 ≤ max a (-1000000); omega, by show max a (-1000000) ≤ min b 1000000; omega, by show min b 1000000 ≤ 1000000; omega, by show max a (-1000000) ≤ x; omega, by show x ≤ min b 1000000; omega⟩
theorem add_has {a b c d x y : Int} (h : bothB a b c d = true) (x1 : a ≤ x) (x2 : x ≤ b) (y1 : c ≤ y) (y2 : y ≤ d) (h3 : -1000000 ≤ x + y) (h4 : x + y ≤ 1000000) : hasB (addM a b c d).1 (addM a b c d).2 (x + y) = true := by
  unfold addM
  rw [h]
  exact mk_has (by omega) (by omega) h3 h4
theorem sub_has {a b c d x y : Int} (h : bothB a b c d = true) (x1 : a ≤ x) (x2 : x ≤ b) (y1 : c ≤ y) (y2 : y ≤ d) (h3 : -1000000 ≤ x - y) (h4 : x - y ≤ 1000000) : hasB (subM a b c d).1 (subM a b c d).2 (x - y) = true := by
  unfold subM
  rw [h]
  exact mk_has (by omega) (by omega) h3 h4
theorem mul_btw {a b x y : Int} (h1 : a ≤ x) (h2 : x ≤ b) : min (a * y) (b * y) ≤ x * y ∧ x * y ≤ max (a * y) (b * y) := by
  rcases Int.le_total 0 y with hy | hy
  · have e1 := Int.mul_le_mul_of_nonneg_right h1 hy
    have e2 := Int.mul_le_mul_of_nonneg_right h2 hy
    omega
  · have e1 := Int.mul_le_mul_of_nonpos_right h1 hy
    have e2 := Int.mul_le_mul_of_nonpos_right h2 hy
    omega
theorem mul_has {a b c d x y : Int} (h : bothB a b c d = true) (x1 : a ≤ x) (x2 : x ≤ b) (y1 : c ≤ y) (y2 : y ≤ d) (h3 : -1000000 ≤ x * y) (h4 : x * y ≤ 1000000) : hasB (mulM a b c d).1 (mulM a b c d).2 (x * y) = true := by
  unfold mulM
  rw [h]
  have k1 := mul_btw (y := y) x1 x2
  have k2 := mul_btw (y := a) y1 y2
  have k3 := mul_btw (y := b) y1 y2
  rw [Int.mul_comm c a, Int.mul_comm d a, Int.mul_comm y a] at k2
  rw [Int.mul_comm c b, Int.mul_comm d b, Int.mul_comm y b] at k3
  exact mk_has (by omega) (by omega) h3 h4
theorem neg_has {a b x : Int} (h : someB a b = true) (x1 : a ≤ x) (x2 : x ≤ b) : hasB (negM a b).1 (negM a b).2 (-x) = true := by
  have k := some_iff.1 h
  unfold negM
  rw [h]
  exact decide_eq_true ⟨by show -1000000 ≤ -b; omega, by show -b ≤ -a; omega, by show -a ≤ 1000000; omega, by show -b ≤ -x; omega, by show -x ≤ -a; omega⟩
end Go.Proofs.Ytgkmpadeleebdaa
