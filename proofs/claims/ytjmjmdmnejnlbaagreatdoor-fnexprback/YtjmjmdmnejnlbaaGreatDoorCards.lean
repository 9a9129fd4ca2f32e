/-
  DERIVED. GIVEN WITH THE SEED: THE CARDS: each row of YtjmjmdmnejnlbaaGreatDoorRows.lean that lists a variable, with what it lists TIED to the program's text (the seventh form; the later family's looks); each row that meets fmt, with fmt's text TOLD by the authors' own Lean function (tested against real Go, not proved from fmt's source: count such statements apart). THE CARD IS WHAT COUNTS. Prove the row's statement (the work); the ties are given (YtjmjmdmnejnlbaaGreatDoorTie.lean); close each card by the builder's one call (the guide's Derived/Test/ToyasCard.lean, 'card_holds'). Laid BY PROGRAM, IN A SANDBOX (cutbox-door.mjs). By AI agents, Wed Nov 11 2026. No macro, syntax, notation, axiom, sorry.
-/
import Derived.Test.YtjmjmdmnejnlbaaGreatDoorRows
import GoSem.ClaimSeven
namespace Go.Proofs.YtjmjmdmnejnlbaaGreatDoor
namespace Rows

/-- THE TIED CARD OF 'laws.FnExprBack'. -/
def fnExprBackCard : Claim7 := { stood := { row := fnExprBackRow, standIns := [], harness := (true, "0c3886460ae5b82989ff7f1d6a03a7c407f5da0ff158c1f68d61453dd39ec9bc"), looks := true }, kinds := [], alts := [], laidByText := true, laidKinds := [.data, .data, .data, .sentinel, .sentinel], laidTests := true, laidLooks := .later }
def FnExprBackCardSaid : Prop := Claim7.holds Tryz.pinned (.plain (OpenSpec.ofChange fnExprBackSpec)) fnExprBackCard

/-- THE SECOND FORM's CARD OF 'laws.FnExprBack'. -/
def fnExprBackUptoCard : Claim7 := { stood := { row := fnExprBackUptoRow, standIns := [], harness := (true, "0c3886460ae5b82989ff7f1d6a03a7c407f5da0ff158c1f68d61453dd39ec9bc"), looks := true }, kinds := [], alts := [], laidByText := true, laidKinds := [.data, .data, .data, .sentinel, .sentinel], laidTests := true, laidLooks := .later }
def FnExprBackUptoCardSaid : Prop := Claim7.holds Tryz.pinned (.plain (OpenSpec.upto fnExprBackSpec)) fnExprBackUptoCard
end Rows
end Go.Proofs.YtjmjmdmnejnlbaaGreatDoor
