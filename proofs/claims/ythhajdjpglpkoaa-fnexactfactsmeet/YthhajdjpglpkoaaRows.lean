/-
  No cell of these rows narrows 'for every input' (looked for: loops, veiled, ifaces, maps, wideKeys, modest, calm, conditions, laid).
  DERIVED. THE GIVEN ROWS OF THIS SEAT. 14 by the template 'for every input the law returns true; each argument reads behind the call as it read before'; 0 by the template 'total and deterministic' (their statements: YthhajdjpglpkoaaTotals.lean).
  GIVEN WITH THE SEED: the statements are not yours to turn. If you find one false, say at which input.
  Laid BY PROGRAM, IN A SANDBOX (cutbox-rows.mjs): the forced cells as the released guide's own fill.sh prints them over the translation 76f1805287286a3d… (all of the seat's roots in one cut). By AI agents, Wed Nov 11 2026. No macro, syntax, notation, axiom, sorry.
-/
import Derived.Test.YthhajdjpglpkoaaChecked
import GoSem.Claim
import GoSem.ClaimJoined
import GoSem.ClaimMapViews
import Derived.JoinedTies
import Derived.KernelRfl
namespace Go.Proofs.Ythhajdjpglpkoaa
/- THE CELL 'sum', in the pinned program and in every row, IS THE sha256 OF THE DUMP (.gsa) THAT YthhajdjpglpkoaaProg.lean LOADS. Nothing in Lean hashes anything: it is a label: what it is worth is what the hold of that sum in a sandbox is worth. -/
noncomputable def Try.pinned : Pinned := { name := "ythhajdjpglpkoaa", sum := "76f1805287286a3dc27f9b1268476f014182e75af04baf788946fca779bb2471", checked := Try.checked }
namespace Rows
def none {H : Type} : Left H := { results := [], args := [] }

/-- 'laws.FnExactFactsTop': WHATEVER THE INPUT: true; the input reads as it did. -/
def fnExactFactsTopSpec : ChangeSpec := { name := "fnExactFactsTop", fn := fun _ => fun
  | [d] => { results := [.lit (.bool true)], args := [d] }
  | _ => none }
def fnExactFactsTopRow : OpenClaim := { program := "ythhajdjpglpkoaa", sum := "76f1805287286a3dc27f9b1268476f014182e75af04baf788946fca779bb2471", func := "loop.example/g00093/laws.FnExactFactsTop", spec := "fnExactFactsTop", apart := false }
def FnExactFactsTopSaid : Prop := fnExactFactsTopRow.holds Try.pinned (OpenSpec.ofChange fnExactFactsTopSpec)

/-- ITS FALSE NEIGHBOUR: 'it returns false'. Refute it at one input. -/
def fnExactFactsTopWrong : ChangeSpec := { name := "fnExactFactsTop", fn := fun _ => fun
  | [d] => { results := [.lit (.bool false)], args := [d] }
  | _ => none }
def FnExactFactsTopWrongFalsely : Prop := fnExactFactsTopRow.holds Try.pinned (OpenSpec.ofChange fnExactFactsTopWrong)

/-- 'laws.FnExactFactsOk': WHATEVER THE INPUT: true; the input reads as it did. -/
def fnExactFactsOkSpec : ChangeSpec := { name := "fnExactFactsOk", fn := fun _ => fun
  | [d] => { results := [.lit (.bool true)], args := [d] }
  | _ => none }
def fnExactFactsOkRow : OpenClaim := { program := "ythhajdjpglpkoaa", sum := "76f1805287286a3dc27f9b1268476f014182e75af04baf788946fca779bb2471", func := "loop.example/g00093/laws.FnExactFactsOk", spec := "fnExactFactsOk", apart := false }
def FnExactFactsOkSaid : Prop := fnExactFactsOkRow.holds Try.pinned (OpenSpec.ofChange fnExactFactsOkSpec)

/-- ITS FALSE NEIGHBOUR: 'it returns false'. Refute it at one input. -/
def fnExactFactsOkWrong : ChangeSpec := { name := "fnExactFactsOk", fn := fun _ => fun
  | [d] => { results := [.lit (.bool false)], args := [d] }
  | _ => none }
def FnExactFactsOkWrongFalsely : Prop := fnExactFactsOkRow.holds Try.pinned (OpenSpec.ofChange fnExactFactsOkWrong)

/-- 'laws.FnExactFactsHas': WHATEVER THE INPUT: true; the input reads as it did. -/
def fnExactFactsHasSpec : ChangeSpec := { name := "fnExactFactsHas", fn := fun _ => fun
  | [d1, d2] => { results := [.lit (.bool true)], args := [d1, d2] }
  | _ => none }
def fnExactFactsHasRow : OpenClaim := { program := "ythhajdjpglpkoaa", sum := "76f1805287286a3dc27f9b1268476f014182e75af04baf788946fca779bb2471", func := "loop.example/g00093/laws.FnExactFactsHas", spec := "fnExactFactsHas", apart := false }
def FnExactFactsHasSaid : Prop := fnExactFactsHasRow.holds Try.pinned (OpenSpec.ofChange fnExactFactsHasSpec)

/-- ITS FALSE NEIGHBOUR: 'it returns false'. Refute it at one input. -/
def fnExactFactsHasWrong : ChangeSpec := { name := "fnExactFactsHas", fn := fun _ => fun
  | [d1, d2] => { results := [.lit (.bool false)], args := [d1, d2] }
  | _ => none }
def FnExactFactsHasWrongFalsely : Prop := fnExactFactsHasRow.holds Try.pinned (OpenSpec.ofChange fnExactFactsHasWrong)

/-- 'laws.FnExactFactsClose': WHATEVER THE INPUT: true; the input reads as it did. -/
def fnExactFactsCloseSpec : ChangeSpec := { name := "fnExactFactsClose", fn := fun _ => fun
  | [d] => { results := [.lit (.bool true)], args := [d] }
  | _ => none }
def fnExactFactsCloseRow : OpenClaim := { program := "ythhajdjpglpkoaa", sum := "76f1805287286a3dc27f9b1268476f014182e75af04baf788946fca779bb2471", func := "loop.example/g00093/laws.FnExactFactsClose", spec := "fnExactFactsClose", apart := false }
def FnExactFactsCloseSaid : Prop := fnExactFactsCloseRow.holds Try.pinned (OpenSpec.ofChange fnExactFactsCloseSpec)

/-- ITS FALSE NEIGHBOUR: 'it returns false'. Refute it at one input. -/
def fnExactFactsCloseWrong : ChangeSpec := { name := "fnExactFactsClose", fn := fun _ => fun
  | [d] => { results := [.lit (.bool false)], args := [d] }
  | _ => none }
def FnExactFactsCloseWrongFalsely : Prop := fnExactFactsCloseRow.holds Try.pinned (OpenSpec.ofChange fnExactFactsCloseWrong)

/-- 'laws.FnExactFactsLeq': WHATEVER THE INPUT: true; the input reads as it did. -/
def fnExactFactsLeqSpec : ChangeSpec := { name := "fnExactFactsLeq", fn := fun _ => fun
  | [d1, d2] => { results := [.lit (.bool true)], args := [d1, d2] }
  | _ => none }
def fnExactFactsLeqRow : OpenClaim := { program := "ythhajdjpglpkoaa", sum := "76f1805287286a3dc27f9b1268476f014182e75af04baf788946fca779bb2471", func := "loop.example/g00093/laws.FnExactFactsLeq", spec := "fnExactFactsLeq", apart := false }
def FnExactFactsLeqSaid : Prop := fnExactFactsLeqRow.holds Try.pinned (OpenSpec.ofChange fnExactFactsLeqSpec)

/-- ITS FALSE NEIGHBOUR: 'it returns false'. Refute it at one input. -/
def fnExactFactsLeqWrong : ChangeSpec := { name := "fnExactFactsLeq", fn := fun _ => fun
  | [d1, d2] => { results := [.lit (.bool false)], args := [d1, d2] }
  | _ => none }
def FnExactFactsLeqWrongFalsely : Prop := fnExactFactsLeqRow.holds Try.pinned (OpenSpec.ofChange fnExactFactsLeqWrong)

/-- 'laws.FnExactFactsJoin': WHATEVER THE INPUT: true; the input reads as it did. -/
def fnExactFactsJoinSpec : ChangeSpec := { name := "fnExactFactsJoin", fn := fun _ => fun
  | [d1, d2] => { results := [.lit (.bool true)], args := [d1, d2] }
  | _ => none }
def fnExactFactsJoinRow : OpenClaim := { program := "ythhajdjpglpkoaa", sum := "76f1805287286a3dc27f9b1268476f014182e75af04baf788946fca779bb2471", func := "loop.example/g00093/laws.FnExactFactsJoin", spec := "fnExactFactsJoin", apart := false }
def FnExactFactsJoinSaid : Prop := fnExactFactsJoinRow.holds Try.pinned (OpenSpec.ofChange fnExactFactsJoinSpec)

/-- ITS FALSE NEIGHBOUR: 'it returns false'. Refute it at one input. -/
def fnExactFactsJoinWrong : ChangeSpec := { name := "fnExactFactsJoin", fn := fun _ => fun
  | [d1, d2] => { results := [.lit (.bool false)], args := [d1, d2] }
  | _ => none }
def FnExactFactsJoinWrongFalsely : Prop := fnExactFactsJoinRow.holds Try.pinned (OpenSpec.ofChange fnExactFactsJoinWrong)

/-- 'laws.FnExactFactsMeet': WHATEVER THE INPUT: true; the input reads as it did. -/
def fnExactFactsMeetSpec : ChangeSpec := { name := "fnExactFactsMeet", fn := fun _ => fun
  | [d1, d2] => { results := [.lit (.bool true)], args := [d1, d2] }
  | _ => none }
def fnExactFactsMeetRow : OpenClaim := { program := "ythhajdjpglpkoaa", sum := "76f1805287286a3dc27f9b1268476f014182e75af04baf788946fca779bb2471", func := "loop.example/g00093/laws.FnExactFactsMeet", spec := "fnExactFactsMeet", apart := false }
def FnExactFactsMeetSaid : Prop := fnExactFactsMeetRow.holds Try.pinned (OpenSpec.ofChange fnExactFactsMeetSpec)

/-- ITS FALSE NEIGHBOUR: 'it returns false'. Refute it at one input. -/
def fnExactFactsMeetWrong : ChangeSpec := { name := "fnExactFactsMeet", fn := fun _ => fun
  | [d1, d2] => { results := [.lit (.bool false)], args := [d1, d2] }
  | _ => none }
def FnExactFactsMeetWrongFalsely : Prop := fnExactFactsMeetRow.holds Try.pinned (OpenSpec.ofChange fnExactFactsMeetWrong)

/-- 'laws.FnExactFactsWiden': WHATEVER THE INPUT: true; the input reads as it did. -/
def fnExactFactsWidenSpec : ChangeSpec := { name := "fnExactFactsWiden", fn := fun _ => fun
  | [d1, d2, d3] => { results := [.lit (.bool true)], args := [d1, d2, d3] }
  | _ => none }
def fnExactFactsWidenRow : OpenClaim := { program := "ythhajdjpglpkoaa", sum := "76f1805287286a3dc27f9b1268476f014182e75af04baf788946fca779bb2471", func := "loop.example/g00093/laws.FnExactFactsWiden", spec := "fnExactFactsWiden", apart := false }
def FnExactFactsWidenSaid : Prop := fnExactFactsWidenRow.holds Try.pinned (OpenSpec.ofChange fnExactFactsWidenSpec)

/-- ITS FALSE NEIGHBOUR: 'it returns false'. Refute it at one input. -/
def fnExactFactsWidenWrong : ChangeSpec := { name := "fnExactFactsWiden", fn := fun _ => fun
  | [d1, d2, d3] => { results := [.lit (.bool false)], args := [d1, d2, d3] }
  | _ => none }
def FnExactFactsWidenWrongFalsely : Prop := fnExactFactsWidenRow.holds Try.pinned (OpenSpec.ofChange fnExactFactsWidenWrong)

/-- 'laws.FnExactFactsAdd': WHATEVER THE INPUT: true; the input reads as it did. -/
def fnExactFactsAddSpec : ChangeSpec := { name := "fnExactFactsAdd", fn := fun _ => fun
  | [d1, d2, d3, d4] => { results := [.lit (.bool true)], args := [d1, d2, d3, d4] }
  | _ => none }
def fnExactFactsAddRow : OpenClaim := { program := "ythhajdjpglpkoaa", sum := "76f1805287286a3dc27f9b1268476f014182e75af04baf788946fca779bb2471", func := "loop.example/g00093/laws.FnExactFactsAdd", spec := "fnExactFactsAdd", apart := false }
def FnExactFactsAddSaid : Prop := fnExactFactsAddRow.holds Try.pinned (OpenSpec.ofChange fnExactFactsAddSpec)

/-- ITS FALSE NEIGHBOUR: 'it returns false'. Refute it at one input. -/
def fnExactFactsAddWrong : ChangeSpec := { name := "fnExactFactsAdd", fn := fun _ => fun
  | [d1, d2, d3, d4] => { results := [.lit (.bool false)], args := [d1, d2, d3, d4] }
  | _ => none }
def FnExactFactsAddWrongFalsely : Prop := fnExactFactsAddRow.holds Try.pinned (OpenSpec.ofChange fnExactFactsAddWrong)

/-- 'laws.FnExactFactsForget': WHATEVER THE INPUT: true; the input reads as it did. -/
def fnExactFactsForgetSpec : ChangeSpec := { name := "fnExactFactsForget", fn := fun _ => fun
  | [d1, d2] => { results := [.lit (.bool true)], args := [d1, d2] }
  | _ => none }
def fnExactFactsForgetRow : OpenClaim := { program := "ythhajdjpglpkoaa", sum := "76f1805287286a3dc27f9b1268476f014182e75af04baf788946fca779bb2471", func := "loop.example/g00093/laws.FnExactFactsForget", spec := "fnExactFactsForget", apart := false }
def FnExactFactsForgetSaid : Prop := fnExactFactsForgetRow.holds Try.pinned (OpenSpec.ofChange fnExactFactsForgetSpec)

/-- ITS FALSE NEIGHBOUR: 'it returns false'. Refute it at one input. -/
def fnExactFactsForgetWrong : ChangeSpec := { name := "fnExactFactsForget", fn := fun _ => fun
  | [d1, d2] => { results := [.lit (.bool false)], args := [d1, d2] }
  | _ => none }
def FnExactFactsForgetWrongFalsely : Prop := fnExactFactsForgetRow.holds Try.pinned (OpenSpec.ofChange fnExactFactsForgetWrong)

/-- 'laws.FnExactFactsShift': WHATEVER THE INPUT: true; the input reads as it did. -/
def fnExactFactsShiftSpec : ChangeSpec := { name := "fnExactFactsShift", fn := fun _ => fun
  | [d1, d2, d3] => { results := [.lit (.bool true)], args := [d1, d2, d3] }
  | _ => none }
def fnExactFactsShiftRow : OpenClaim := { program := "ythhajdjpglpkoaa", sum := "76f1805287286a3dc27f9b1268476f014182e75af04baf788946fca779bb2471", func := "loop.example/g00093/laws.FnExactFactsShift", spec := "fnExactFactsShift", apart := false }
def FnExactFactsShiftSaid : Prop := fnExactFactsShiftRow.holds Try.pinned (OpenSpec.ofChange fnExactFactsShiftSpec)

/-- ITS FALSE NEIGHBOUR: 'it returns false'. Refute it at one input. -/
def fnExactFactsShiftWrong : ChangeSpec := { name := "fnExactFactsShift", fn := fun _ => fun
  | [d1, d2, d3] => { results := [.lit (.bool false)], args := [d1, d2, d3] }
  | _ => none }
def FnExactFactsShiftWrongFalsely : Prop := fnExactFactsShiftRow.holds Try.pinned (OpenSpec.ofChange fnExactFactsShiftWrong)

/-- 'laws.FnExactFactsCopy': WHATEVER THE INPUT: true; the input reads as it did. -/
def fnExactFactsCopySpec : ChangeSpec := { name := "fnExactFactsCopy", fn := fun _ => fun
  | [d1, d2, d3, d4] => { results := [.lit (.bool true)], args := [d1, d2, d3, d4] }
  | _ => none }
def fnExactFactsCopyRow : OpenClaim := { program := "ythhajdjpglpkoaa", sum := "76f1805287286a3dc27f9b1268476f014182e75af04baf788946fca779bb2471", func := "loop.example/g00093/laws.FnExactFactsCopy", spec := "fnExactFactsCopy", apart := false }
def FnExactFactsCopySaid : Prop := fnExactFactsCopyRow.holds Try.pinned (OpenSpec.ofChange fnExactFactsCopySpec)

/-- ITS FALSE NEIGHBOUR: 'it returns false'. Refute it at one input. -/
def fnExactFactsCopyWrong : ChangeSpec := { name := "fnExactFactsCopy", fn := fun _ => fun
  | [d1, d2, d3, d4] => { results := [.lit (.bool false)], args := [d1, d2, d3, d4] }
  | _ => none }
def FnExactFactsCopyWrongFalsely : Prop := fnExactFactsCopyRow.holds Try.pinned (OpenSpec.ofChange fnExactFactsCopyWrong)

/-- 'laws.FnExactFactsRange': WHATEVER THE INPUT: true; the input reads as it did. -/
def fnExactFactsRangeSpec : ChangeSpec := { name := "fnExactFactsRange", fn := fun _ => fun
  | [d1, d2] => { results := [.lit (.bool true)], args := [d1, d2] }
  | _ => none }
def fnExactFactsRangeRow : OpenClaim := { program := "ythhajdjpglpkoaa", sum := "76f1805287286a3dc27f9b1268476f014182e75af04baf788946fca779bb2471", func := "loop.example/g00093/laws.FnExactFactsRange", spec := "fnExactFactsRange", apart := false }
def FnExactFactsRangeSaid : Prop := fnExactFactsRangeRow.holds Try.pinned (OpenSpec.ofChange fnExactFactsRangeSpec)

/-- ITS FALSE NEIGHBOUR: 'it returns false'. Refute it at one input. -/
def fnExactFactsRangeWrong : ChangeSpec := { name := "fnExactFactsRange", fn := fun _ => fun
  | [d1, d2] => { results := [.lit (.bool false)], args := [d1, d2] }
  | _ => none }
def FnExactFactsRangeWrongFalsely : Prop := fnExactFactsRangeRow.holds Try.pinned (OpenSpec.ofChange fnExactFactsRangeWrong)

/-- 'laws.FnExactFactsBound': WHATEVER THE INPUT: true; the input reads as it did. -/
def fnExactFactsBoundSpec : ChangeSpec := { name := "fnExactFactsBound", fn := fun _ => fun
  | [d1, d2, d3] => { results := [.lit (.bool true)], args := [d1, d2, d3] }
  | _ => none }
def fnExactFactsBoundRow : OpenClaim := { program := "ythhajdjpglpkoaa", sum := "76f1805287286a3dc27f9b1268476f014182e75af04baf788946fca779bb2471", func := "loop.example/g00093/laws.FnExactFactsBound", spec := "fnExactFactsBound", apart := false }
def FnExactFactsBoundSaid : Prop := fnExactFactsBoundRow.holds Try.pinned (OpenSpec.ofChange fnExactFactsBoundSpec)

/-- ITS FALSE NEIGHBOUR: 'it returns false'. Refute it at one input. -/
def fnExactFactsBoundWrong : ChangeSpec := { name := "fnExactFactsBound", fn := fun _ => fun
  | [d1, d2, d3] => { results := [.lit (.bool false)], args := [d1, d2, d3] }
  | _ => none }
def FnExactFactsBoundWrongFalsely : Prop := fnExactFactsBoundRow.holds Try.pinned (OpenSpec.ofChange fnExactFactsBoundWrong)

/- THE SECOND FORM. 'bulk': how many values and letters a reading holds, each counted each time it is reached (what is shared counts as often as it is met; a slice's spare places count too). A statement '..UptoSaid' is the law's where the arguments, and the package variables that the reading takes, are together of bulk at most 1048576: NARROWER than '..Said'. Prove '..Said' where nothing that the law and all that it calls make is longer than what came in: it says more and counts as full. Else prove '..UptoSaid'. A law counts once. -/
mutual
def uptoBulk {H : Type} : DataW H → Nat
  | .lit (.string bytes) => bytes.length + 1
  | .lit _ => 1
  | .nil => 1
  | .ptr d => uptoBulk d + 1
  | .slice elems spare => uptoBulkAll elems + uptoBulkAll spare + 1
  | .agg parts => uptoBulkAll parts + 1
  | .iface _ d => uptoBulk d + 1
  | .map entries => uptoBulkEntries entries + 1
  | .held _ => 1
def uptoBulkAll {H : Type} : List (DataW H) → Nat
  | [] => 0
  | d :: r => uptoBulk d + uptoBulkAll r
def uptoBulkEntries {H : Type} : List (Lit × DataW H) → Nat
  | [] => 0
  | x :: r => uptoBulkEntry x + uptoBulkEntries r
def uptoBulkEntry {H : Type} : Lit × DataW H → Nat
  | (.string bytes, d) => bytes.length + uptoBulk d + 1
  | (_, d) => uptoBulk d + 1
 end
def uptoSmall : (H : Type) → List (DataW H) → Bool := fun _ ds => decide (uptoBulkAll ds ≤ 1048576)
def OpenSpec.upto (s : _root_.Go.ChangeSpec) : _root_.Go.OpenSpec := { _root_.Go.OpenSpec.ofChange s with cond := some uptoSmall }

/-- 'laws.FnExactFactsTop', WHERE WHAT IT READS IS OF BULK AT MOST 1048576: true; the input reads as it did. -/
def fnExactFactsTopUptoRow : OpenClaim := { program := "ythhajdjpglpkoaa", sum := "76f1805287286a3dc27f9b1268476f014182e75af04baf788946fca779bb2471", func := "loop.example/g00093/laws.FnExactFactsTop", spec := "fnExactFactsTop", apart := false, narrowed := true }
def FnExactFactsTopUptoSaid : Prop := fnExactFactsTopUptoRow.holds Try.pinned (OpenSpec.upto fnExactFactsTopSpec)

/-- 'laws.FnExactFactsOk', WHERE WHAT IT READS IS OF BULK AT MOST 1048576: true; the input reads as it did. -/
def fnExactFactsOkUptoRow : OpenClaim := { program := "ythhajdjpglpkoaa", sum := "76f1805287286a3dc27f9b1268476f014182e75af04baf788946fca779bb2471", func := "loop.example/g00093/laws.FnExactFactsOk", spec := "fnExactFactsOk", apart := false, narrowed := true }
def FnExactFactsOkUptoSaid : Prop := fnExactFactsOkUptoRow.holds Try.pinned (OpenSpec.upto fnExactFactsOkSpec)

/-- 'laws.FnExactFactsHas', WHERE WHAT IT READS IS OF BULK AT MOST 1048576: true; the input reads as it did. -/
def fnExactFactsHasUptoRow : OpenClaim := { program := "ythhajdjpglpkoaa", sum := "76f1805287286a3dc27f9b1268476f014182e75af04baf788946fca779bb2471", func := "loop.example/g00093/laws.FnExactFactsHas", spec := "fnExactFactsHas", apart := false, narrowed := true }
def FnExactFactsHasUptoSaid : Prop := fnExactFactsHasUptoRow.holds Try.pinned (OpenSpec.upto fnExactFactsHasSpec)

/-- 'laws.FnExactFactsClose', WHERE WHAT IT READS IS OF BULK AT MOST 1048576: true; the input reads as it did. -/
def fnExactFactsCloseUptoRow : OpenClaim := { program := "ythhajdjpglpkoaa", sum := "76f1805287286a3dc27f9b1268476f014182e75af04baf788946fca779bb2471", func := "loop.example/g00093/laws.FnExactFactsClose", spec := "fnExactFactsClose", apart := false, narrowed := true }
def FnExactFactsCloseUptoSaid : Prop := fnExactFactsCloseUptoRow.holds Try.pinned (OpenSpec.upto fnExactFactsCloseSpec)

/-- 'laws.FnExactFactsLeq', WHERE WHAT IT READS IS OF BULK AT MOST 1048576: true; the input reads as it did. -/
def fnExactFactsLeqUptoRow : OpenClaim := { program := "ythhajdjpglpkoaa", sum := "76f1805287286a3dc27f9b1268476f014182e75af04baf788946fca779bb2471", func := "loop.example/g00093/laws.FnExactFactsLeq", spec := "fnExactFactsLeq", apart := false, narrowed := true }
def FnExactFactsLeqUptoSaid : Prop := fnExactFactsLeqUptoRow.holds Try.pinned (OpenSpec.upto fnExactFactsLeqSpec)

/-- 'laws.FnExactFactsJoin', WHERE WHAT IT READS IS OF BULK AT MOST 1048576: true; the input reads as it did. -/
def fnExactFactsJoinUptoRow : OpenClaim := { program := "ythhajdjpglpkoaa", sum := "76f1805287286a3dc27f9b1268476f014182e75af04baf788946fca779bb2471", func := "loop.example/g00093/laws.FnExactFactsJoin", spec := "fnExactFactsJoin", apart := false, narrowed := true }
def FnExactFactsJoinUptoSaid : Prop := fnExactFactsJoinUptoRow.holds Try.pinned (OpenSpec.upto fnExactFactsJoinSpec)

/-- 'laws.FnExactFactsMeet', WHERE WHAT IT READS IS OF BULK AT MOST 1048576: true; the input reads as it did. -/
def fnExactFactsMeetUptoRow : OpenClaim := { program := "ythhajdjpglpkoaa", sum := "76f1805287286a3dc27f9b1268476f014182e75af04baf788946fca779bb2471", func := "loop.example/g00093/laws.FnExactFactsMeet", spec := "fnExactFactsMeet", apart := false, narrowed := true }
def FnExactFactsMeetUptoSaid : Prop := fnExactFactsMeetUptoRow.holds Try.pinned (OpenSpec.upto fnExactFactsMeetSpec)

/-- 'laws.FnExactFactsWiden', WHERE WHAT IT READS IS OF BULK AT MOST 1048576: true; the input reads as it did. -/
def fnExactFactsWidenUptoRow : OpenClaim := { program := "ythhajdjpglpkoaa", sum := "76f1805287286a3dc27f9b1268476f014182e75af04baf788946fca779bb2471", func := "loop.example/g00093/laws.FnExactFactsWiden", spec := "fnExactFactsWiden", apart := false, narrowed := true }
def FnExactFactsWidenUptoSaid : Prop := fnExactFactsWidenUptoRow.holds Try.pinned (OpenSpec.upto fnExactFactsWidenSpec)

/-- 'laws.FnExactFactsAdd', WHERE WHAT IT READS IS OF BULK AT MOST 1048576: true; the input reads as it did. -/
def fnExactFactsAddUptoRow : OpenClaim := { program := "ythhajdjpglpkoaa", sum := "76f1805287286a3dc27f9b1268476f014182e75af04baf788946fca779bb2471", func := "loop.example/g00093/laws.FnExactFactsAdd", spec := "fnExactFactsAdd", apart := false, narrowed := true }
def FnExactFactsAddUptoSaid : Prop := fnExactFactsAddUptoRow.holds Try.pinned (OpenSpec.upto fnExactFactsAddSpec)

/-- 'laws.FnExactFactsForget', WHERE WHAT IT READS IS OF BULK AT MOST 1048576: true; the input reads as it did. -/
def fnExactFactsForgetUptoRow : OpenClaim := { program := "ythhajdjpglpkoaa", sum := "76f1805287286a3dc27f9b1268476f014182e75af04baf788946fca779bb2471", func := "loop.example/g00093/laws.FnExactFactsForget", spec := "fnExactFactsForget", apart := false, narrowed := true }
def FnExactFactsForgetUptoSaid : Prop := fnExactFactsForgetUptoRow.holds Try.pinned (OpenSpec.upto fnExactFactsForgetSpec)

/-- 'laws.FnExactFactsShift', WHERE WHAT IT READS IS OF BULK AT MOST 1048576: true; the input reads as it did. -/
def fnExactFactsShiftUptoRow : OpenClaim := { program := "ythhajdjpglpkoaa", sum := "76f1805287286a3dc27f9b1268476f014182e75af04baf788946fca779bb2471", func := "loop.example/g00093/laws.FnExactFactsShift", spec := "fnExactFactsShift", apart := false, narrowed := true }
def FnExactFactsShiftUptoSaid : Prop := fnExactFactsShiftUptoRow.holds Try.pinned (OpenSpec.upto fnExactFactsShiftSpec)

/-- 'laws.FnExactFactsCopy', WHERE WHAT IT READS IS OF BULK AT MOST 1048576: true; the input reads as it did. -/
def fnExactFactsCopyUptoRow : OpenClaim := { program := "ythhajdjpglpkoaa", sum := "76f1805287286a3dc27f9b1268476f014182e75af04baf788946fca779bb2471", func := "loop.example/g00093/laws.FnExactFactsCopy", spec := "fnExactFactsCopy", apart := false, narrowed := true }
def FnExactFactsCopyUptoSaid : Prop := fnExactFactsCopyUptoRow.holds Try.pinned (OpenSpec.upto fnExactFactsCopySpec)

/-- 'laws.FnExactFactsRange', WHERE WHAT IT READS IS OF BULK AT MOST 1048576: true; the input reads as it did. -/
def fnExactFactsRangeUptoRow : OpenClaim := { program := "ythhajdjpglpkoaa", sum := "76f1805287286a3dc27f9b1268476f014182e75af04baf788946fca779bb2471", func := "loop.example/g00093/laws.FnExactFactsRange", spec := "fnExactFactsRange", apart := false, narrowed := true }
def FnExactFactsRangeUptoSaid : Prop := fnExactFactsRangeUptoRow.holds Try.pinned (OpenSpec.upto fnExactFactsRangeSpec)

/-- 'laws.FnExactFactsBound', WHERE WHAT IT READS IS OF BULK AT MOST 1048576: true; the input reads as it did. -/
def fnExactFactsBoundUptoRow : OpenClaim := { program := "ythhajdjpglpkoaa", sum := "76f1805287286a3dc27f9b1268476f014182e75af04baf788946fca779bb2471", func := "loop.example/g00093/laws.FnExactFactsBound", spec := "fnExactFactsBound", apart := false, narrowed := true }
def FnExactFactsBoundUptoSaid : Prop := fnExactFactsBoundUptoRow.holds Try.pinned (OpenSpec.upto fnExactFactsBoundSpec)

end Rows
end Go.Proofs.Ythhajdjpglpkoaa
