/-
  CONTRACTS of the specification's l02Shape, l01Between, l02IsExpr, l02IsCond, l02IsStmt, l02Kid.
-/
import Derived.Test.YtpebfdplapeejaaGreatDoorMRshort
namespace Go.Proofs.YtpebfdplapeejaaGreatDoor
open Go.RowKit
open Pl

def shapeI (kind : Int) : Int × Bool × Bool :=
  if kind = 1 then (0, false, true) else
  if kind = 28 then (0, false, true) else
  if kind = 29 then (0, false, true) else
  if kind = 2 then (0, true, true) else
  if kind = 4 then (0, true, true) else
  if kind = 23 then (0, true, true) else
  if kind = 31 then (0, true, true) else
  if kind = 32 then (0, true, true) else
  if kind = 3 then (1, true, true) else
  if kind = 21 then (1, true, true) else
  if kind = 5 then (1, false, true) else
  if kind = 27 then (1, false, true) else
  if kind = 6 then (2, false, true) else
  if kind = 7 then (2, false, true) else
  if kind = 8 then (2, false, true) else
  if kind = 11 then (2, false, true) else
  if kind = 12 then (2, false, true) else
  if kind = 13 then (2, false, true) else
  if kind = 14 then (2, false, true) else
  if kind = 15 then (2, false, true) else
  if kind = 16 then (2, false, true) else
  if kind = 25 then (2, false, true) else
  if kind = 22 then (2, true, true) else
  if kind = 24 then (3, false, true) else
  if kind = 26 then (3, true, true) else
  if kind = 30 then (-1, false, true) else
  if kind = 40 then (-1, false, true) else
  (0, false, false)

def betw (n lo hi : Int) : Bool := decide (lo ≤ n ∧ n ≤ hi)
/-- Whether a kind may stand as the kid at a place. -/
def kidI (k : Int) (n : Nat) (i : Nat) (x : Int) : Bool :=
  if k = 24 ∨ k = 25 ∨ k = 27 then (if i = 0 then betw x 11 16 else (x == 30)) else
  if k = 26 ∧ i = 2 then (x == 30) else
  if k = 30 then betw x 21 29 else
  if k = 40 then (if i + 1 = n then (x == 30) else (x == 31 || x == 32)) else
  betw x 1 8

end Go.Proofs.YtpebfdplapeejaaGreatDoor
