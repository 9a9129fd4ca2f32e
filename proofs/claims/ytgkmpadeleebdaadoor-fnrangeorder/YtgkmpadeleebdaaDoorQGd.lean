/-
  GUARDS: models (plain); CONTRACTS of l02IsCond, l06Without of the specification, guardLess, withoutOnly of the program.
-/
import Derived.Test.YtgkmpadeleebdaaDoorQIp
import Derived.Test.YtgkmpadeleebdaaDoorQSpb
import Derived.Test.YtgkmpadeleebdaaDoorQReg
namespace Go.Proofs.YtgkmpadeleebdaaDoor.Q
open Go.RowKit
attribute [local go_sem] nlt2 nlt3 nlt4 nle2 nle3 nle4 drew_size drew_cell drew_frozen

theorem bl_set2 {w a : World} {p : Addr} (hp : w.heap.size ≤ p.block) (h : Below w.heap.size w a) (u : Value) : Below w.heap.size w (a.setCell p u) := h.setCell hp u
theorem mk_span {x y : Int} (h0 : -1000000 ≤ x) (h1 : y ≤ 1000000) : mkM x y = spanM x y := by
  unfold mkM
  rw [show max x (-1000000) = x by omega, show min y 1000000 = y by omega]
def woM (a b x : Int) : Int × Int := if a = x then spanM (a + 1) b else if b = x then spanM a (b - 1) else (a, b)
def withM (a b c d : Int) : Int × Int := if c = d then woM a b c else (a, b)
def lessM (g a b c d : Int) : (Int × Int) × (Int × Int) := (spanM a (min b (d - g)), spanM (max c (a + g)) d)
def swapM (p : (Int × Int) × (Int × Int)) : (Int × Int) × (Int × Int) := (p.2, p.1)
def noneM : (Int × Int) × (Int × Int) := ((1, 0), (1, 0))
def guardM (k a b c d : Int) : (Int × Int) × (Int × Int) :=
  if bothB a b c d then
    if k = 11 then lessM 1 a b c d else if k = 12 then lessM 0 a b c d else if k = 13 then swapM (lessM 1 c d a b) else if k = 14 then swapM (lessM 0 c d a b)
    else if k = 15 then (meetM a b c d, meetM a b c d) else if k = 16 then (withM a b c d, withM c d a b) else noneM
  else noneM
theorem ret_two {G : (Int × Int) × (Int × Int)} {x1 x2 y1 y2 : Int} (h : G = ((x1, x2), (y1, y2))) : Ending.returned (.tuple #[.agg #[.int .i64 x1, .int .i64 x2], .agg #[.int .i64 y1, .int .i64 y2]]) = .returned (.tuple #[.agg #[.int .i64 G.1.1, .int .i64 G.1.2], .agg #[.int .i64 G.2.1, .int .i64 G.2.2]]) := by rw [h]
end Go.Proofs.YtgkmpadeleebdaaDoor.Q
