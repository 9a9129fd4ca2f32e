/-
  DERIVED. GIVEN WITH THE SEED: THE CARDS: each row of YtiihjoliodemmaaDoorRows.lean that lists a variable, with what it lists TIED to the program's text (the seventh form; the later family's looks); each row that meets fmt, with fmt's text TOLD by the authors' own Lean function (tested against real Go, not proved from fmt's source: count such statements apart). THE CARD IS WHAT COUNTS. Prove the row's statement (the work); the ties are given (YtiihjoliodemmaaDoorTie.lean); close each card by the builder's one call (the guide's Derived/Test/ToyasCard.lean, 'card_holds'). Laid BY PROGRAM, IN A SANDBOX (cutbox-door.mjs). By AI agents, Wed Nov 11 2026. No macro, syntax, notation, axiom, sorry.
-/
import Derived.Test.YtiihjoliodemmaaDoorRows
import GoSem.ClaimSeven
namespace Go.Proofs.YtiihjoliodemmaaDoor
namespace Rows

/-- THE TIED CARD OF 'laws.FnExactRangeRead'. -/
def fnExactRangeReadCard : Claim7 := { stood := { row := fnExactRangeReadRow, standIns := [], harness := (true, "abdb69b17bbdc7f16e36bfb66d478fd911a090c26dad6dd4f1490d2e34bb6957"), looks := true }, kinds := [], alts := [], laidByText := true, laidKinds := [.data, .data, .data, .sentinel, .sentinel], laidTests := true, laidLooks := .later }
def FnExactRangeReadCardSaid : Prop := Claim7.holds Tryd.pinned (.plain (OpenSpec.ofChange fnExactRangeReadSpec)) fnExactRangeReadCard

/-- THE TIED CARD OF 'laws.FnExactValText'. -/
def fnExactValTextCard : Claim7 := { stood := { row := fnExactValTextRow, standIns := [], harness := (true, "abdb69b17bbdc7f16e36bfb66d478fd911a090c26dad6dd4f1490d2e34bb6957"), looks := true }, kinds := [], alts := [], laidByText := true, laidKinds := [.data, .data, .data], laidTests := true, laidLooks := .later }
def FnExactValTextCardSaid : Prop := Claim7.holds Tryd.pinned (.plain (OpenSpec.ofChange fnExactValTextSpec)) fnExactValTextCard

/-- THE TIED CARD OF 'laws.FnExactValRead'. -/
def fnExactValReadCard : Claim7 := { stood := { row := fnExactValReadRow, standIns := [], harness := (true, "abdb69b17bbdc7f16e36bfb66d478fd911a090c26dad6dd4f1490d2e34bb6957"), looks := true }, kinds := [], alts := [], laidByText := true, laidKinds := [.data, .data, .data, .sentinel, .sentinel], laidTests := true, laidLooks := .later }
def FnExactValReadCardSaid : Prop := Claim7.holds Tryd.pinned (.plain (OpenSpec.ofChange fnExactValReadSpec)) fnExactValReadCard

/-- THE TIED CARD OF 'laws.FnExactSymText'. -/
def fnExactSymTextCard : Claim7 := { stood := { row := fnExactSymTextRow, standIns := [], harness := (true, "abdb69b17bbdc7f16e36bfb66d478fd911a090c26dad6dd4f1490d2e34bb6957"), looks := true }, kinds := [], alts := [], laidByText := true, laidKinds := [.data, .data, .data], laidTests := true, laidLooks := .later }
def FnExactSymTextCardSaid : Prop := Claim7.holds Tryd.pinned (.plain (OpenSpec.ofChange fnExactSymTextSpec)) fnExactSymTextCard

/-- THE TIED CARD OF 'laws.FnExactSymRead'. -/
def fnExactSymReadCard : Claim7 := { stood := { row := fnExactSymReadRow, standIns := [], harness := (true, "abdb69b17bbdc7f16e36bfb66d478fd911a090c26dad6dd4f1490d2e34bb6957"), looks := true }, kinds := [], alts := [], laidByText := true, laidKinds := [.data, .data, .data, .data, .sentinel, .sentinel, .pinned], laidTests := true, laidLooks := .later }
def FnExactSymReadCardSaid : Prop := Claim7.holds Tryd.pinned (.plain (OpenSpec.ofChange fnExactSymReadSpec)) fnExactSymReadCard

/-- THE TIED CARD OF 'laws.FnExactFactsText'. -/
def fnExactFactsTextCard : Claim7 := { stood := { row := fnExactFactsTextRow, standIns := [], harness := (true, "abdb69b17bbdc7f16e36bfb66d478fd911a090c26dad6dd4f1490d2e34bb6957"), looks := true }, kinds := [], alts := [], laidByText := true, laidKinds := [.data, .data, .data], laidTests := true, laidLooks := .later }
def FnExactFactsTextCardSaid : Prop := Claim7.holds Tryd.pinned (.plain (OpenSpec.ofChange fnExactFactsTextSpec)) fnExactFactsTextCard

/-- THE TIED CARD OF 'laws.FnVals'. -/
def fnValsCard : Claim7 := { stood := { row := fnValsRow, standIns := [], harness := (true, "abdb69b17bbdc7f16e36bfb66d478fd911a090c26dad6dd4f1490d2e34bb6957"), looks := true }, kinds := [], alts := [], laidByText := true, laidKinds := [.data, .data, .data, .sentinel, .sentinel], laidTests := true, laidLooks := .later }
def FnValsCardSaid : Prop := Claim7.holds Tryd.pinned (.plain (OpenSpec.ofChange fnValsSpec)) fnValsCard

/-- THE SECOND FORM's CARD OF 'laws.FnExactRangeRead'. -/
def fnExactRangeReadUptoCard : Claim7 := { stood := { row := fnExactRangeReadUptoRow, standIns := [], harness := (true, "abdb69b17bbdc7f16e36bfb66d478fd911a090c26dad6dd4f1490d2e34bb6957"), looks := true }, kinds := [], alts := [], laidByText := true, laidKinds := [.data, .data, .data, .sentinel, .sentinel], laidTests := true, laidLooks := .later }
def FnExactRangeReadUptoCardSaid : Prop := Claim7.holds Tryd.pinned (.plain (OpenSpec.upto fnExactRangeReadSpec)) fnExactRangeReadUptoCard

/-- THE SECOND FORM's CARD OF 'laws.FnExactValText'. -/
def fnExactValTextUptoCard : Claim7 := { stood := { row := fnExactValTextUptoRow, standIns := [], harness := (true, "abdb69b17bbdc7f16e36bfb66d478fd911a090c26dad6dd4f1490d2e34bb6957"), looks := true }, kinds := [], alts := [], laidByText := true, laidKinds := [.data, .data, .data], laidTests := true, laidLooks := .later }
def FnExactValTextUptoCardSaid : Prop := Claim7.holds Tryd.pinned (.plain (OpenSpec.upto fnExactValTextSpec)) fnExactValTextUptoCard

/-- THE SECOND FORM's CARD OF 'laws.FnExactValRead'. -/
def fnExactValReadUptoCard : Claim7 := { stood := { row := fnExactValReadUptoRow, standIns := [], harness := (true, "abdb69b17bbdc7f16e36bfb66d478fd911a090c26dad6dd4f1490d2e34bb6957"), looks := true }, kinds := [], alts := [], laidByText := true, laidKinds := [.data, .data, .data, .sentinel, .sentinel], laidTests := true, laidLooks := .later }
def FnExactValReadUptoCardSaid : Prop := Claim7.holds Tryd.pinned (.plain (OpenSpec.upto fnExactValReadSpec)) fnExactValReadUptoCard

/-- THE SECOND FORM's CARD OF 'laws.FnExactSymText'. -/
def fnExactSymTextUptoCard : Claim7 := { stood := { row := fnExactSymTextUptoRow, standIns := [], harness := (true, "abdb69b17bbdc7f16e36bfb66d478fd911a090c26dad6dd4f1490d2e34bb6957"), looks := true }, kinds := [], alts := [], laidByText := true, laidKinds := [.data, .data, .data], laidTests := true, laidLooks := .later }
def FnExactSymTextUptoCardSaid : Prop := Claim7.holds Tryd.pinned (.plain (OpenSpec.upto fnExactSymTextSpec)) fnExactSymTextUptoCard

/-- THE SECOND FORM's CARD OF 'laws.FnExactSymRead'. -/
def fnExactSymReadUptoCard : Claim7 := { stood := { row := fnExactSymReadUptoRow, standIns := [], harness := (true, "abdb69b17bbdc7f16e36bfb66d478fd911a090c26dad6dd4f1490d2e34bb6957"), looks := true }, kinds := [], alts := [], laidByText := true, laidKinds := [.data, .data, .data, .data, .sentinel, .sentinel, .pinned], laidTests := true, laidLooks := .later }
def FnExactSymReadUptoCardSaid : Prop := Claim7.holds Tryd.pinned (.plain (OpenSpec.upto fnExactSymReadSpec)) fnExactSymReadUptoCard

/-- THE SECOND FORM's CARD OF 'laws.FnExactFactsText'. -/
def fnExactFactsTextUptoCard : Claim7 := { stood := { row := fnExactFactsTextUptoRow, standIns := [], harness := (true, "abdb69b17bbdc7f16e36bfb66d478fd911a090c26dad6dd4f1490d2e34bb6957"), looks := true }, kinds := [], alts := [], laidByText := true, laidKinds := [.data, .data, .data], laidTests := true, laidLooks := .later }
def FnExactFactsTextUptoCardSaid : Prop := Claim7.holds Tryd.pinned (.plain (OpenSpec.upto fnExactFactsTextSpec)) fnExactFactsTextUptoCard

/-- THE SECOND FORM's CARD OF 'laws.FnVals'. -/
def fnValsUptoCard : Claim7 := { stood := { row := fnValsUptoRow, standIns := [], harness := (true, "abdb69b17bbdc7f16e36bfb66d478fd911a090c26dad6dd4f1490d2e34bb6957"), looks := true }, kinds := [], alts := [], laidByText := true, laidKinds := [.data, .data, .data, .sentinel, .sentinel], laidTests := true, laidLooks := .later }
def FnValsUptoCardSaid : Prop := Claim7.holds Tryd.pinned (.plain (OpenSpec.upto fnValsSpec)) fnValsUptoCard
end Rows
end Go.Proofs.YtiihjoliodemmaaDoor
