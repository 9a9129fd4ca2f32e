/-
  CONTRACTS of the program's functions on ranges: RangeOk, RangeHas, spanOf, cutDown, RangeMeet, RangeNeg, RangeAdd.
-/
import Derived.Test.YtmaejdomlggopaaSp
import Derived.Test.YtmaejdomlggopaaEq
namespace Go.Proofs.Ytmaejdomlggopaa
open Go.RowKit

theorem span_if (a b : Int) : (if b < a then Value.agg #[.int .i64 1, .int .i64 0] else .agg #[.int .i64 a, .int .i64 b]) = .agg #[.int .i64 (spanM a b).1, .int .i64 (spanM a b).2] := by
  unfold spanM; by_cases h : b < a
  · rw [if_pos h, if_pos h]
  · rw [if_neg h, if_neg h]
end Go.Proofs.Ytmaejdomlggopaa
