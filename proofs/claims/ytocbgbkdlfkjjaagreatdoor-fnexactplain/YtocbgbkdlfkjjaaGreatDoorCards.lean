/-
  DERIVED. GIVEN WITH THE SEED: THE CARDS: each row of YtocbgbkdlfkjjaaGreatDoorRows.lean that lists a variable, with what it lists TIED to the program's text (the seventh form; the later family's looks); each row that meets fmt, with fmt's text TOLD by the authors' own Lean function (tested against real Go, not proved from fmt's source: count such statements apart). THE CARD IS WHAT COUNTS. Prove the row's statement (the work); the ties are given (YtocbgbkdlfkjjaaGreatDoorTie.lean); close each card by the builder's one call (the guide's Derived/Test/ToyasCard.lean, 'card_holds'). Laid BY PROGRAM, IN A SANDBOX (cutbox-door.mjs). By AI agents, Wed Nov 11 2026. No macro, syntax, notation, axiom, sorry.
-/
import Derived.Test.YtocbgbkdlfkjjaaGreatDoorRows
import GoSem.ClaimSeven
namespace Go.Proofs.YtocbgbkdlfkjjaaGreatDoor
namespace Rows

/-- THE TIED CARD OF 'laws.FnExactCheck'. -/
def fnExactCheckCard : Claim7 := { stood := { row := fnExactCheckRow, standIns := [], harness := (true, "a85153acc5abff651191a3c37cb51debfaf6d8a90b0c5991a0ca4506e66387ba"), looks := true }, kinds := [], alts := [], laidByText := true, laidKinds := [.data, .data, .data, .handle], laidTests := true, laidLooks := .later }
def FnExactCheckCardSaid : Prop := Claim7.holds Tryz.pinned (.plain (OpenSpec.ofChange fnExactCheckSpec)) fnExactCheckCard

/-- THE TIED CARD OF 'laws.FnExactPlain'. -/
def fnExactPlainCard : Claim7 := { stood := { row := fnExactPlainRow, standIns := [], harness := (true, "a85153acc5abff651191a3c37cb51debfaf6d8a90b0c5991a0ca4506e66387ba"), looks := true }, kinds := [], alts := [], laidByText := true, laidKinds := [.data, .data, .data], laidTests := true, laidLooks := .later }
def FnExactPlainCardSaid : Prop := Claim7.holds Tryz.pinned (.plain (OpenSpec.ofChange fnExactPlainSpec)) fnExactPlainCard

/-- THE TIED CARD OF 'laws.FnExactVarsOf'. -/
def fnExactVarsOfCard : Claim7 := { stood := { row := fnExactVarsOfRow, standIns := [], harness := (true, "a85153acc5abff651191a3c37cb51debfaf6d8a90b0c5991a0ca4506e66387ba"), looks := true }, kinds := [], alts := [], laidByText := true, laidKinds := [.data, .data, .data, .handle], laidTests := true, laidLooks := .later }
def FnExactVarsOfCardSaid : Prop := Claim7.holds Tryz.pinned (.plain (OpenSpec.ofChange fnExactVarsOfSpec)) fnExactVarsOfCard

/-- THE TIED CARD OF 'laws.FnExactArraysOf'. -/
def fnExactArraysOfCard : Claim7 := { stood := { row := fnExactArraysOfRow, standIns := [], harness := (true, "a85153acc5abff651191a3c37cb51debfaf6d8a90b0c5991a0ca4506e66387ba"), looks := true }, kinds := [], alts := [], laidByText := true, laidKinds := [.data, .data, .data, .handle], laidTests := true, laidLooks := .later }
def FnExactArraysOfCardSaid : Prop := Claim7.holds Tryz.pinned (.plain (OpenSpec.ofChange fnExactArraysOfSpec)) fnExactArraysOfCard

/-- THE TIED CARD OF 'laws.FnExactSizesOf'. -/
def fnExactSizesOfCard : Claim7 := { stood := { row := fnExactSizesOfRow, standIns := [], harness := (true, "a85153acc5abff651191a3c37cb51debfaf6d8a90b0c5991a0ca4506e66387ba"), looks := true }, kinds := [], alts := [], laidByText := true, laidKinds := [.data, .data, .data, .handle], laidTests := true, laidLooks := .later }
def FnExactSizesOfCardSaid : Prop := Claim7.holds Tryz.pinned (.plain (OpenSpec.ofChange fnExactSizesOfSpec)) fnExactSizesOfCard

/-- THE TIED CARD OF 'laws.FnExactLabelsOf'. -/
def fnExactLabelsOfCard : Claim7 := { stood := { row := fnExactLabelsOfRow, standIns := [], harness := (true, "a85153acc5abff651191a3c37cb51debfaf6d8a90b0c5991a0ca4506e66387ba"), looks := true }, kinds := [], alts := [], laidByText := true, laidKinds := [.data, .data, .data, .handle], laidTests := true, laidLooks := .later }
def FnExactLabelsOfCardSaid : Prop := Claim7.holds Tryz.pinned (.plain (OpenSpec.ofChange fnExactLabelsOfSpec)) fnExactLabelsOfCard

/-- THE TIED CARD OF 'laws.FnExactSymOf'. -/
def fnExactSymOfCard : Claim7 := { stood := { row := fnExactSymOfRow, standIns := [], harness := (true, "a85153acc5abff651191a3c37cb51debfaf6d8a90b0c5991a0ca4506e66387ba"), looks := true }, kinds := [], alts := [], laidByText := true, laidKinds := [.data, .data, .data, .handle], laidTests := true, laidLooks := .later }
def FnExactSymOfCardSaid : Prop := Claim7.holds Tryz.pinned (.plain (OpenSpec.ofChange fnExactSymOfSpec)) fnExactSymOfCard

/-- THE SECOND FORM's CARD OF 'laws.FnExactCheck'. -/
def fnExactCheckUptoCard : Claim7 := { stood := { row := fnExactCheckUptoRow, standIns := [], harness := (true, "a85153acc5abff651191a3c37cb51debfaf6d8a90b0c5991a0ca4506e66387ba"), looks := true }, kinds := [], alts := [], laidByText := true, laidKinds := [.data, .data, .data, .handle], laidTests := true, laidLooks := .later }
def FnExactCheckUptoCardSaid : Prop := Claim7.holds Tryz.pinned (.plain (OpenSpec.upto fnExactCheckSpec)) fnExactCheckUptoCard

/-- THE SECOND FORM's CARD OF 'laws.FnExactPlain'. -/
def fnExactPlainUptoCard : Claim7 := { stood := { row := fnExactPlainUptoRow, standIns := [], harness := (true, "a85153acc5abff651191a3c37cb51debfaf6d8a90b0c5991a0ca4506e66387ba"), looks := true }, kinds := [], alts := [], laidByText := true, laidKinds := [.data, .data, .data], laidTests := true, laidLooks := .later }
def FnExactPlainUptoCardSaid : Prop := Claim7.holds Tryz.pinned (.plain (OpenSpec.upto fnExactPlainSpec)) fnExactPlainUptoCard

/-- THE SECOND FORM's CARD OF 'laws.FnExactVarsOf'. -/
def fnExactVarsOfUptoCard : Claim7 := { stood := { row := fnExactVarsOfUptoRow, standIns := [], harness := (true, "a85153acc5abff651191a3c37cb51debfaf6d8a90b0c5991a0ca4506e66387ba"), looks := true }, kinds := [], alts := [], laidByText := true, laidKinds := [.data, .data, .data, .handle], laidTests := true, laidLooks := .later }
def FnExactVarsOfUptoCardSaid : Prop := Claim7.holds Tryz.pinned (.plain (OpenSpec.upto fnExactVarsOfSpec)) fnExactVarsOfUptoCard

/-- THE SECOND FORM's CARD OF 'laws.FnExactArraysOf'. -/
def fnExactArraysOfUptoCard : Claim7 := { stood := { row := fnExactArraysOfUptoRow, standIns := [], harness := (true, "a85153acc5abff651191a3c37cb51debfaf6d8a90b0c5991a0ca4506e66387ba"), looks := true }, kinds := [], alts := [], laidByText := true, laidKinds := [.data, .data, .data, .handle], laidTests := true, laidLooks := .later }
def FnExactArraysOfUptoCardSaid : Prop := Claim7.holds Tryz.pinned (.plain (OpenSpec.upto fnExactArraysOfSpec)) fnExactArraysOfUptoCard

/-- THE SECOND FORM's CARD OF 'laws.FnExactSizesOf'. -/
def fnExactSizesOfUptoCard : Claim7 := { stood := { row := fnExactSizesOfUptoRow, standIns := [], harness := (true, "a85153acc5abff651191a3c37cb51debfaf6d8a90b0c5991a0ca4506e66387ba"), looks := true }, kinds := [], alts := [], laidByText := true, laidKinds := [.data, .data, .data, .handle], laidTests := true, laidLooks := .later }
def FnExactSizesOfUptoCardSaid : Prop := Claim7.holds Tryz.pinned (.plain (OpenSpec.upto fnExactSizesOfSpec)) fnExactSizesOfUptoCard

/-- THE SECOND FORM's CARD OF 'laws.FnExactLabelsOf'. -/
def fnExactLabelsOfUptoCard : Claim7 := { stood := { row := fnExactLabelsOfUptoRow, standIns := [], harness := (true, "a85153acc5abff651191a3c37cb51debfaf6d8a90b0c5991a0ca4506e66387ba"), looks := true }, kinds := [], alts := [], laidByText := true, laidKinds := [.data, .data, .data, .handle], laidTests := true, laidLooks := .later }
def FnExactLabelsOfUptoCardSaid : Prop := Claim7.holds Tryz.pinned (.plain (OpenSpec.upto fnExactLabelsOfSpec)) fnExactLabelsOfUptoCard

/-- THE SECOND FORM's CARD OF 'laws.FnExactSymOf'. -/
def fnExactSymOfUptoCard : Claim7 := { stood := { row := fnExactSymOfUptoRow, standIns := [], harness := (true, "a85153acc5abff651191a3c37cb51debfaf6d8a90b0c5991a0ca4506e66387ba"), looks := true }, kinds := [], alts := [], laidByText := true, laidKinds := [.data, .data, .data, .handle], laidTests := true, laidLooks := .later }
def FnExactSymOfUptoCardSaid : Prop := Claim7.holds Tryz.pinned (.plain (OpenSpec.upto fnExactSymOfSpec)) fnExactSymOfUptoCard
end Rows
end Go.Proofs.YtocbgbkdlfkjjaaGreatDoor
