/-
  CONTRACTS of the specification's RangeAdd, RangeSub, RangeMul, RangeMeet, RangeJoin.
-/
import Derived.Test.YtmaejdomlggopaaSp
namespace Go.Proofs.Ytmaejdomlggopaa
open Go.RowKit

theorem mul_bd {a c : Int} (a0 : -1000000 ≤ a) (a1 : a ≤ 1000000) (c0 : -1000000 ≤ c) (c1 : c ≤ 1000000) : -1000000000000 ≤ a * c ∧ a * c ≤ 1000000000000 := by
  have h : (a * c).natAbs ≤ 1000000 * 1000000 := by
    rw [Int.natAbs_mul]
    exact Nat.mul_le_mul (by omega) (by omega)
  omega

theorem mk_in {x y : Int} (h0 : -1000000 ≤ x) (h1 : x ≤ y) (h2 : y ≤ 1000000) : mkM x y = (x, y) := by
  unfold mkM spanM
  rw [if_neg (by omega), show max x (-1000000) = x by omega, show min y 1000000 = y by omega]
theorem join_mk {a b c d : Int} (h1 : okB a b = true) (h2 : okB c d = true) (h3 : isB a b = true) (h4 : isB c d = true) : joinM a b c d = mkM (min a c) (max b d) := by
  have e : joinM a b c d = (min a c, max b d) := by simp [joinM, h1, h2, h3, h4]
  have i1 := ok_iff.1 h1
  have i2 := ok_iff.1 h2
  have i3 := is_iff.1 h3
  have i4 := is_iff.1 h4
  rw [e, mk_in (by omega) (by omega) (by omega)]
end Go.Proofs.Ytmaejdomlggopaa
