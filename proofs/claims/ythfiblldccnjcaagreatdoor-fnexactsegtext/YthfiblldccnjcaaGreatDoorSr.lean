/-
  ONE REGION of the specification's SegOk (a term asked of, in every order), taken out of its code.
-/
import Derived.Test.YthfiblldccnjcaaGreatDoorVh
namespace Go.Proofs.YthfiblldccnjcaaGreatDoor
open Go.RowKit

/-- A region of a code, by its number. -/
def findRegion (k : Nat) : Code → Option Code
  | .region id ops d => if id = k then some (.region id ops d) else none
  | .seq a b => match findRegion k a with
    | some c => some c
    | none => findRegion k b
  | .block _ c => findRegion k c
  | .scope c => findRegion k c
  | .loop c => findRegion k c
  | .cond _ a b => match findRegion k a with
    | some c => some c
    | none => findRegion k b
  | _ => none
noncomputable def reg15 : Code := ((Tryz.f15.body.bind (findRegion 15)).getD .skip)
end Go.Proofs.YthfiblldccnjcaaGreatDoor
