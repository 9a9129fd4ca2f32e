/-
  No cell of these rows narrows 'for every input' (looked for: loops, veiled, ifaces, maps, wideKeys, modest, calm, conditions, laid).
  DERIVED. THE GIVEN ROWS OF THIS SEAT. 3 by the template 'for every input the law returns true; each argument reads behind the call as it read before'; 0 by the template 'total and deterministic' (their statements: YtgclngofigffdaaTotals.lean).
  GIVEN WITH THE SEED: the statements are not yours to turn. If you find one false, say at which input.
  Laid BY PROGRAM, IN A SANDBOX (cutbox-rows.mjs): the forced cells as the released guide's own fill.sh prints them over the translation c350c70cd0615a52… (all of the seat's roots in one cut). By AI agents, Wed Nov 11 2026. No macro, syntax, notation, axiom, sorry.
-/
import Derived.Test.YtgclngofigffdaaChecked
import GoSem.Claim
import GoSem.ClaimJoined
import GoSem.ClaimMapViews
import Derived.JoinedTies
import Derived.KernelRfl
namespace Go.Proofs.Ytgclngofigffdaa
/- THE CELL 'sum', in the pinned program and in every row, IS THE sha256 OF THE DUMP (.gsa) THAT YtgclngofigffdaaProg.lean LOADS. Nothing in Lean hashes anything: it is a label: what it is worth is what the hold of that sum in a sandbox is worth. -/
noncomputable def Try.pinned : Pinned := { name := "ytgclngofigffdaa", sum := "c350c70cd0615a52ea5e85b7835d3da2ff9ee9cce34f7e8ca8687b69fea8747f", checked := Try.checked }
namespace Rows
def none {H : Type} : Left H := { results := [], args := [] }

/-- 'laws.FnFactsHold': WHATEVER THE INPUT: true; the input reads as it did. -/
def fnFactsHoldSpec : ChangeSpec := { name := "fnFactsHold", fn := fun _ => fun
  | [d1, d2] => { results := [.lit (.bool true)], args := [d1, d2] }
  | _ => none }
def fnFactsHoldRow : OpenClaim := { program := "ytgclngofigffdaa", sum := "c350c70cd0615a52ea5e85b7835d3da2ff9ee9cce34f7e8ca8687b69fea8747f", func := "loop.example/g00093/laws.FnFactsHold", spec := "fnFactsHold", apart := false }
def FnFactsHoldSaid : Prop := fnFactsHoldRow.holds Try.pinned (OpenSpec.ofChange fnFactsHoldSpec)

/-- ITS FALSE NEIGHBOUR: 'it returns false'. Refute it at one input. -/
def fnFactsHoldWrong : ChangeSpec := { name := "fnFactsHold", fn := fun _ => fun
  | [d1, d2] => { results := [.lit (.bool false)], args := [d1, d2] }
  | _ => none }
def FnFactsHoldWrongFalsely : Prop := fnFactsHoldRow.holds Try.pinned (OpenSpec.ofChange fnFactsHoldWrong)

/-- 'laws.FnFactsMove': WHATEVER THE INPUT: true; the input reads as it did. -/
def fnFactsMoveSpec : ChangeSpec := { name := "fnFactsMove", fn := fun _ => fun
  | [d1, d2] => { results := [.lit (.bool true)], args := [d1, d2] }
  | _ => none }
def fnFactsMoveRow : OpenClaim := { program := "ytgclngofigffdaa", sum := "c350c70cd0615a52ea5e85b7835d3da2ff9ee9cce34f7e8ca8687b69fea8747f", func := "loop.example/g00093/laws.FnFactsMove", spec := "fnFactsMove", apart := false }
def FnFactsMoveSaid : Prop := fnFactsMoveRow.holds Try.pinned (OpenSpec.ofChange fnFactsMoveSpec)

/-- ITS FALSE NEIGHBOUR: 'it returns false'. Refute it at one input. -/
def fnFactsMoveWrong : ChangeSpec := { name := "fnFactsMove", fn := fun _ => fun
  | [d1, d2] => { results := [.lit (.bool false)], args := [d1, d2] }
  | _ => none }
def FnFactsMoveWrongFalsely : Prop := fnFactsMoveRow.holds Try.pinned (OpenSpec.ofChange fnFactsMoveWrong)

/-- 'laws.FnFactsOrder': WHATEVER THE INPUT: true; the input reads as it did. -/
def fnFactsOrderSpec : ChangeSpec := { name := "fnFactsOrder", fn := fun _ => fun
  | [d1, d2] => { results := [.lit (.bool true)], args := [d1, d2] }
  | _ => none }
def fnFactsOrderRow : OpenClaim := { program := "ytgclngofigffdaa", sum := "c350c70cd0615a52ea5e85b7835d3da2ff9ee9cce34f7e8ca8687b69fea8747f", func := "loop.example/g00093/laws.FnFactsOrder", spec := "fnFactsOrder", apart := false }
def FnFactsOrderSaid : Prop := fnFactsOrderRow.holds Try.pinned (OpenSpec.ofChange fnFactsOrderSpec)

/-- ITS FALSE NEIGHBOUR: 'it returns false'. Refute it at one input. -/
def fnFactsOrderWrong : ChangeSpec := { name := "fnFactsOrder", fn := fun _ => fun
  | [d1, d2] => { results := [.lit (.bool false)], args := [d1, d2] }
  | _ => none }
def FnFactsOrderWrongFalsely : Prop := fnFactsOrderRow.holds Try.pinned (OpenSpec.ofChange fnFactsOrderWrong)

/- THE SECOND FORM. 'bulk': how many values and letters a reading holds, each counted each time it is reached (what is shared counts as often as it is met; a slice's spare places count too). A statement '..UptoSaid' is the law's where the arguments, and the package variables that the reading takes, are together of bulk at most 1048576: NARROWER than '..Said'. Prove '..Said' where nothing that the law and all that it calls make is longer than what came in: it says more and counts as full. Else prove '..UptoSaid'. A law counts once. -/
mutual
def uptoBulk {H : Type} : DataW H → Nat
  | .lit (.string bytes) => bytes.length + 1
  | .lit _ => 1
  | .nil => 1
  | .ptr d => uptoBulk d + 1
  | .slice elems spare => uptoBulkAll elems + uptoBulkAll spare + 1
  | .agg parts => uptoBulkAll parts + 1
  | .iface _ d => uptoBulk d + 1
  | .map entries => uptoBulkEntries entries + 1
  | .held _ => 1
def uptoBulkAll {H : Type} : List (DataW H) → Nat
  | [] => 0
  | d :: r => uptoBulk d + uptoBulkAll r
def uptoBulkEntries {H : Type} : List (Lit × DataW H) → Nat
  | [] => 0
  | x :: r => uptoBulkEntry x + uptoBulkEntries r
def uptoBulkEntry {H : Type} : Lit × DataW H → Nat
  | (.string bytes, d) => bytes.length + uptoBulk d + 1
  | (_, d) => uptoBulk d + 1
 end
def uptoSmall : (H : Type) → List (DataW H) → Bool := fun _ ds => decide (uptoBulkAll ds ≤ 1048576)
def OpenSpec.upto (s : _root_.Go.ChangeSpec) : _root_.Go.OpenSpec := { _root_.Go.OpenSpec.ofChange s with cond := some uptoSmall }

/-- 'laws.FnFactsHold', WHERE WHAT IT READS IS OF BULK AT MOST 1048576: true; the input reads as it did. -/
def fnFactsHoldUptoRow : OpenClaim := { program := "ytgclngofigffdaa", sum := "c350c70cd0615a52ea5e85b7835d3da2ff9ee9cce34f7e8ca8687b69fea8747f", func := "loop.example/g00093/laws.FnFactsHold", spec := "fnFactsHold", apart := false, narrowed := true }
def FnFactsHoldUptoSaid : Prop := fnFactsHoldUptoRow.holds Try.pinned (OpenSpec.upto fnFactsHoldSpec)

/-- 'laws.FnFactsMove', WHERE WHAT IT READS IS OF BULK AT MOST 1048576: true; the input reads as it did. -/
def fnFactsMoveUptoRow : OpenClaim := { program := "ytgclngofigffdaa", sum := "c350c70cd0615a52ea5e85b7835d3da2ff9ee9cce34f7e8ca8687b69fea8747f", func := "loop.example/g00093/laws.FnFactsMove", spec := "fnFactsMove", apart := false, narrowed := true }
def FnFactsMoveUptoSaid : Prop := fnFactsMoveUptoRow.holds Try.pinned (OpenSpec.upto fnFactsMoveSpec)

/-- 'laws.FnFactsOrder', WHERE WHAT IT READS IS OF BULK AT MOST 1048576: true; the input reads as it did. -/
def fnFactsOrderUptoRow : OpenClaim := { program := "ytgclngofigffdaa", sum := "c350c70cd0615a52ea5e85b7835d3da2ff9ee9cce34f7e8ca8687b69fea8747f", func := "loop.example/g00093/laws.FnFactsOrder", spec := "fnFactsOrder", apart := false, narrowed := true }
def FnFactsOrderUptoSaid : Prop := fnFactsOrderUptoRow.holds Try.pinned (OpenSpec.upto fnFactsOrderSpec)

end Rows
end Go.Proofs.Ytgclngofigffdaa
