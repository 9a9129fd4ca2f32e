/-
  DERIVED. GIVEN WITH THE SEED: THE CARDS: each row of YtgkmpadeleebdaaDoorRows.lean that lists a variable, with what it lists TIED to the program's text (the seventh form; the later family's looks); each row that meets fmt, with fmt's text TOLD by the authors' own Lean function (tested against real Go, not proved from fmt's source: count such statements apart). THE CARD IS WHAT COUNTS. Prove the row's statement (the work); the ties are given (YtgkmpadeleebdaaDoorTie.lean); close each card by the builder's one call (the guide's Derived/Test/ToyasCard.lean, 'card_holds'). Laid BY PROGRAM, IN A SANDBOX (cutbox-door.mjs). By AI agents, Wed Nov 11 2026. No macro, syntax, notation, axiom, sorry.
-/
import Derived.Test.YtgkmpadeleebdaaDoorRows
import GoSem.ClaimSeven
namespace Go.Proofs.YtgkmpadeleebdaaDoor
namespace Rows

/-- THE TIED CARD OF 'laws.FnRangeOrder'. -/
def fnRangeOrderCard : Claim7 := { stood := { row := fnRangeOrderRow, standIns := [], harness := (true, "a3d7e4e3cf2387fefcda2d53cc89a5e0ff40f00544b74dc02041c122d0bb378a"), looks := true }, kinds := [], alts := [], laidByText := true, laidKinds := [.data, .data, .data, .sentinel, .sentinel], laidTests := true, laidLooks := .later }
def FnRangeOrderCardSaid : Prop := Claim7.holds Tryd.pinned (.plain (OpenSpec.ofChange fnRangeOrderSpec)) fnRangeOrderCard

/-- THE SECOND FORM's CARD OF 'laws.FnRangeOrder'. -/
def fnRangeOrderUptoCard : Claim7 := { stood := { row := fnRangeOrderUptoRow, standIns := [], harness := (true, "a3d7e4e3cf2387fefcda2d53cc89a5e0ff40f00544b74dc02041c122d0bb378a"), looks := true }, kinds := [], alts := [], laidByText := true, laidKinds := [.data, .data, .data, .sentinel, .sentinel], laidTests := true, laidLooks := .later }
def FnRangeOrderUptoCardSaid : Prop := Claim7.holds Tryd.pinned (.plain (OpenSpec.upto fnRangeOrderSpec)) fnRangeOrderUptoCard
end Rows
end Go.Proofs.YtgkmpadeleebdaaDoor
