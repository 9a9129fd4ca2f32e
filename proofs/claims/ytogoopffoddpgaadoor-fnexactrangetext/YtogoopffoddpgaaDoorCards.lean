/-
  DERIVED. GIVEN WITH THE SEED: THE CARDS: each row of YtogoopffoddpgaaDoorRows.lean that lists a variable, with what it lists TIED to the program's text (the seventh form; the later family's looks); each row that meets fmt, with fmt's text TOLD by the authors' own Lean function (tested against real Go, not proved from fmt's source: count such statements apart). THE CARD IS WHAT COUNTS. Prove the row's statement (the work); the ties are given (YtogoopffoddpgaaDoorTie.lean); close each card by the builder's one call (the guide's Derived/Test/ToyasCard.lean, 'card_holds'). Laid BY PROGRAM, IN A SANDBOX (cutbox-door.mjs). By AI agents, Wed Nov 11 2026. No macro, syntax, notation, axiom, sorry.
-/
import Derived.Test.YtogoopffoddpgaaDoorRows
import GoSem.ClaimSeven
namespace Go.Proofs.YtogoopffoddpgaaDoor
namespace Rows

/-- THE TIED CARD OF 'laws.FnExactRangeText'. -/
def fnExactRangeTextCard : Claim7 := { stood := { row := fnExactRangeTextRow, standIns := [], harness := (true, "4d276b12231fc30295cbdc217683d3af3c83886916b29aebcc3b31747dea5fc9"), looks := true }, kinds := [], alts := [], laidByText := true, laidKinds := [.data, .data, .data], laidTests := true, laidLooks := .later }
def FnExactRangeTextCardSaid : Prop := Claim7.holds Tryd.pinned (.plain (OpenSpec.ofChange fnExactRangeTextSpec)) fnExactRangeTextCard

/-- THE TIED CARD OF 'laws.FnExactRangeRead'. -/
def fnExactRangeReadCard : Claim7 := { stood := { row := fnExactRangeReadRow, standIns := [], harness := (true, "4d276b12231fc30295cbdc217683d3af3c83886916b29aebcc3b31747dea5fc9"), looks := true }, kinds := [], alts := [], laidByText := true, laidKinds := [.data, .data, .data, .sentinel, .sentinel], laidTests := true, laidLooks := .later }
def FnExactRangeReadCardSaid : Prop := Claim7.holds Tryd.pinned (.plain (OpenSpec.ofChange fnExactRangeReadSpec)) fnExactRangeReadCard

/-- THE SECOND FORM's CARD OF 'laws.FnExactRangeText'. -/
def fnExactRangeTextUptoCard : Claim7 := { stood := { row := fnExactRangeTextUptoRow, standIns := [], harness := (true, "4d276b12231fc30295cbdc217683d3af3c83886916b29aebcc3b31747dea5fc9"), looks := true }, kinds := [], alts := [], laidByText := true, laidKinds := [.data, .data, .data], laidTests := true, laidLooks := .later }
def FnExactRangeTextUptoCardSaid : Prop := Claim7.holds Tryd.pinned (.plain (OpenSpec.upto fnExactRangeTextSpec)) fnExactRangeTextUptoCard

/-- THE SECOND FORM's CARD OF 'laws.FnExactRangeRead'. -/
def fnExactRangeReadUptoCard : Claim7 := { stood := { row := fnExactRangeReadUptoRow, standIns := [], harness := (true, "4d276b12231fc30295cbdc217683d3af3c83886916b29aebcc3b31747dea5fc9"), looks := true }, kinds := [], alts := [], laidByText := true, laidKinds := [.data, .data, .data, .sentinel, .sentinel], laidTests := true, laidLooks := .later }
def FnExactRangeReadUptoCardSaid : Prop := Claim7.holds Tryd.pinned (.plain (OpenSpec.upto fnExactRangeReadSpec)) fnExactRangeReadUptoCard
end Rows
end Go.Proofs.YtogoopffoddpgaaDoor
