/-
  DERIVED. GIVEN WITH THE SEED: THE CARDS: each row of YthfiblldccnjcaaDoorRows.lean that lists a variable, with what it lists TIED to the program's text (the seventh form; the later family's looks); each row that meets fmt, with fmt's text TOLD by the authors' own Lean function (tested against real Go, not proved from fmt's source: count such statements apart). THE CARD IS WHAT COUNTS. Prove the row's statement (the work); the ties are given (YthfiblldccnjcaaDoorTie.lean); close each card by the builder's one call (the guide's Derived/Test/ToyasCard.lean, 'card_holds'). Laid BY PROGRAM, IN A SANDBOX (cutbox-door.mjs). By AI agents, Wed Nov 11 2026. No macro, syntax, notation, axiom, sorry.
-/
import Derived.Test.YthfiblldccnjcaaDoorRows
import GoSem.ClaimSeven
namespace Go.Proofs.YthfiblldccnjcaaDoor
namespace Rows

/-- THE TIED CARD OF 'laws.FnExactFactsText'. -/
def fnExactFactsTextCard : Claim7 := { stood := { row := fnExactFactsTextRow, standIns := [], harness := (true, "88e2279e1a2be0f6a81117eb86c83b11233b22e50789d6237a94e654a05a959d"), looks := false }, kinds := [], alts := [], laidByText := true, laidKinds := [.data, .data, .data], laidTests := true, laidLooks := .later }
def FnExactFactsTextCardSaid : Prop := Claim7.holds Tryd.pinned (.plain (OpenSpec.ofChange fnExactFactsTextSpec)) fnExactFactsTextCard

/-- THE SECOND FORM's CARD OF 'laws.FnExactFactsText'. -/
def fnExactFactsTextUptoCard : Claim7 := { stood := { row := fnExactFactsTextUptoRow, standIns := [], harness := (true, "88e2279e1a2be0f6a81117eb86c83b11233b22e50789d6237a94e654a05a959d"), looks := false }, kinds := [], alts := [], laidByText := true, laidKinds := [.data, .data, .data], laidTests := true, laidLooks := .later }
def FnExactFactsTextUptoCardSaid : Prop := Claim7.holds Tryd.pinned (.plain (OpenSpec.upto fnExactFactsTextSpec)) fnExactFactsTextUptoCard
end Rows
end Go.Proofs.YthfiblldccnjcaaDoor
