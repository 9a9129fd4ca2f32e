/-
  CONTRACT of the specification's RangeRead.
-/
import Derived.Test.YtgkmpadeleebdaaDoorPr
namespace Go.Proofs.YtgkmpadeleebdaaDoor
open Go.RowKit
open Go.Lib (occAt IsBuilder)

def retR (r : Option (Int × Int)) : Value := .tuple #[.agg #[.int .i64 (r.getD (0, 0)).1, .int .i64 (r.getD (0, 0)).2], .bool r.isSome]
theorem non_of {s : ByteArray} (h : (s.toList == [110, 111, 110, 101]) = true) : s.data.toList = nonL := by rw [← ByteArray.toList_eq]; exact beq_iff_eq.1 h
theorem non_not {s : ByteArray} (h : (s.toList == [110, 111, 110, 101]) = false) : s.data.toList ≠ nonL := by
  intro e
  rw [← ByteArray.toList_eq] at e
  rw [e] at h
  revert h; decide
end Go.Proofs.YtgkmpadeleebdaaDoor
