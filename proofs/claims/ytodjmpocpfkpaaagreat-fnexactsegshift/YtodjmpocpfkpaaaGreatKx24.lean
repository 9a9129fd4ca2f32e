/-
  CONTRACT of the specification's l10Without.
-/
import Derived.Test.YtodjmpocpfkpaaaGreatKx20
import Derived.Test.YtodjmpocpfkpaaaGreatKx08
namespace Go.Proofs.YtodjmpocpfkpaaaGreat
open Go.RowKit

def keepD (lv : Int) (T : List Y) (p : Y) : Bool := decide (p = (0, 0)) || (decide (p = (lv, 0)) || decide (p ∉ T))
def outD (lv : Int) (T l : List Y) : List Y := l.filter (keepD lv T)
end Go.Proofs.YtodjmpocpfkpaaaGreat
