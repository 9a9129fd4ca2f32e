/-
  No cell of these rows narrows 'for every input' (looked for: loops, veiled, ifaces, maps, wideKeys, modest, calm, conditions, laid).
  DERIVED. THE GIVEN ROWS OF THIS SEAT. 10 by the template 'for every input the law returns true; each argument reads behind the call as it read before'; 0 by the template 'total and deterministic' (their statements: YtmaejdomlggopaaTotals.lean).
  GIVEN WITH THE SEED: the statements are not yours to turn. If you find one false, say at which input.
  Laid BY PROGRAM, IN A SANDBOX (cutbox-rows.mjs): the forced cells as the released guide's own fill.sh prints them over the translation 1f848bb30db972a3… (all of the seat's roots in one cut). By AI agents, Wed Nov 11 2026. No macro, syntax, notation, axiom, sorry.
-/
import Derived.Test.YtmaejdomlggopaaChecked
import GoSem.Claim
import GoSem.ClaimJoined
import GoSem.ClaimMapViews
import Derived.JoinedTies
import Derived.KernelRfl
namespace Go.Proofs.Ytmaejdomlggopaa
/- THE CELL 'sum', in the pinned program and in every row, IS THE sha256 OF THE DUMP (.gsa) THAT YtmaejdomlggopaaProg.lean LOADS. Nothing in Lean hashes anything: it is a label: what it is worth is what the hold of that sum in a sandbox is worth. -/
noncomputable def Try.pinned : Pinned := { name := "ytmaejdomlggopaa", sum := "1f848bb30db972a36b5945876bf79c464717c2e4a2c2a74c078e113d38f01b51", checked := Try.checked }
namespace Rows
def none {H : Type} : Left H := { results := [], args := [] }

/-- 'laws.FnExactFactsLeq': WHATEVER THE INPUT: true; the input reads as it did. -/
def fnExactFactsLeqSpec : ChangeSpec := { name := "fnExactFactsLeq", fn := fun _ => fun
  | [d1, d2] => { results := [.lit (.bool true)], args := [d1, d2] }
  | _ => none }
def fnExactFactsLeqRow : OpenClaim := { program := "ytmaejdomlggopaa", sum := "1f848bb30db972a36b5945876bf79c464717c2e4a2c2a74c078e113d38f01b51", func := "loop.example/g00093/laws.FnExactFactsLeq", spec := "fnExactFactsLeq", apart := false }
def FnExactFactsLeqSaid : Prop := fnExactFactsLeqRow.holds Try.pinned (OpenSpec.ofChange fnExactFactsLeqSpec)

/-- ITS FALSE NEIGHBOUR: 'it returns false'. Refute it at one input. -/
def fnExactFactsLeqWrong : ChangeSpec := { name := "fnExactFactsLeq", fn := fun _ => fun
  | [d1, d2] => { results := [.lit (.bool false)], args := [d1, d2] }
  | _ => none }
def FnExactFactsLeqWrongFalsely : Prop := fnExactFactsLeqRow.holds Try.pinned (OpenSpec.ofChange fnExactFactsLeqWrong)

/-- 'laws.FnExactFactsJoin': WHATEVER THE INPUT: true; the input reads as it did. -/
def fnExactFactsJoinSpec : ChangeSpec := { name := "fnExactFactsJoin", fn := fun _ => fun
  | [d1, d2] => { results := [.lit (.bool true)], args := [d1, d2] }
  | _ => none }
def fnExactFactsJoinRow : OpenClaim := { program := "ytmaejdomlggopaa", sum := "1f848bb30db972a36b5945876bf79c464717c2e4a2c2a74c078e113d38f01b51", func := "loop.example/g00093/laws.FnExactFactsJoin", spec := "fnExactFactsJoin", apart := false }
def FnExactFactsJoinSaid : Prop := fnExactFactsJoinRow.holds Try.pinned (OpenSpec.ofChange fnExactFactsJoinSpec)

/-- ITS FALSE NEIGHBOUR: 'it returns false'. Refute it at one input. -/
def fnExactFactsJoinWrong : ChangeSpec := { name := "fnExactFactsJoin", fn := fun _ => fun
  | [d1, d2] => { results := [.lit (.bool false)], args := [d1, d2] }
  | _ => none }
def FnExactFactsJoinWrongFalsely : Prop := fnExactFactsJoinRow.holds Try.pinned (OpenSpec.ofChange fnExactFactsJoinWrong)

/-- 'laws.FnExactFactsWiden': WHATEVER THE INPUT: true; the input reads as it did. -/
def fnExactFactsWidenSpec : ChangeSpec := { name := "fnExactFactsWiden", fn := fun _ => fun
  | [d1, d2, d3] => { results := [.lit (.bool true)], args := [d1, d2, d3] }
  | _ => none }
def fnExactFactsWidenRow : OpenClaim := { program := "ytmaejdomlggopaa", sum := "1f848bb30db972a36b5945876bf79c464717c2e4a2c2a74c078e113d38f01b51", func := "loop.example/g00093/laws.FnExactFactsWiden", spec := "fnExactFactsWiden", apart := false }
def FnExactFactsWidenSaid : Prop := fnExactFactsWidenRow.holds Try.pinned (OpenSpec.ofChange fnExactFactsWidenSpec)

/-- ITS FALSE NEIGHBOUR: 'it returns false'. Refute it at one input. -/
def fnExactFactsWidenWrong : ChangeSpec := { name := "fnExactFactsWiden", fn := fun _ => fun
  | [d1, d2, d3] => { results := [.lit (.bool false)], args := [d1, d2, d3] }
  | _ => none }
def FnExactFactsWidenWrongFalsely : Prop := fnExactFactsWidenRow.holds Try.pinned (OpenSpec.ofChange fnExactFactsWidenWrong)

/-- 'laws.FnExactFactsBound': WHATEVER THE INPUT: true; the input reads as it did. -/
def fnExactFactsBoundSpec : ChangeSpec := { name := "fnExactFactsBound", fn := fun _ => fun
  | [d1, d2, d3] => { results := [.lit (.bool true)], args := [d1, d2, d3] }
  | _ => none }
def fnExactFactsBoundRow : OpenClaim := { program := "ytmaejdomlggopaa", sum := "1f848bb30db972a36b5945876bf79c464717c2e4a2c2a74c078e113d38f01b51", func := "loop.example/g00093/laws.FnExactFactsBound", spec := "fnExactFactsBound", apart := false }
def FnExactFactsBoundSaid : Prop := fnExactFactsBoundRow.holds Try.pinned (OpenSpec.ofChange fnExactFactsBoundSpec)

/-- ITS FALSE NEIGHBOUR: 'it returns false'. Refute it at one input. -/
def fnExactFactsBoundWrong : ChangeSpec := { name := "fnExactFactsBound", fn := fun _ => fun
  | [d1, d2, d3] => { results := [.lit (.bool false)], args := [d1, d2, d3] }
  | _ => none }
def FnExactFactsBoundWrongFalsely : Prop := fnExactFactsBoundRow.holds Try.pinned (OpenSpec.ofChange fnExactFactsBoundWrong)

/-- 'laws.FnExactSymOk': WHATEVER THE INPUT: true; the input reads as it did. -/
def fnExactSymOkSpec : ChangeSpec := { name := "fnExactSymOk", fn := fun _ => fun
  | [d1, d2] => { results := [.lit (.bool true)], args := [d1, d2] }
  | _ => none }
def fnExactSymOkRow : OpenClaim := { program := "ytmaejdomlggopaa", sum := "1f848bb30db972a36b5945876bf79c464717c2e4a2c2a74c078e113d38f01b51", func := "loop.example/g00093/laws.FnExactSymOk", spec := "fnExactSymOk", apart := false }
def FnExactSymOkSaid : Prop := fnExactSymOkRow.holds Try.pinned (OpenSpec.ofChange fnExactSymOkSpec)

/-- ITS FALSE NEIGHBOUR: 'it returns false'. Refute it at one input. -/
def fnExactSymOkWrong : ChangeSpec := { name := "fnExactSymOk", fn := fun _ => fun
  | [d1, d2] => { results := [.lit (.bool false)], args := [d1, d2] }
  | _ => none }
def FnExactSymOkWrongFalsely : Prop := fnExactSymOkRow.holds Try.pinned (OpenSpec.ofChange fnExactSymOkWrong)

/-- 'laws.FnExactSymLess': WHATEVER THE INPUT: true; the input reads as it did. -/
def fnExactSymLessSpec : ChangeSpec := { name := "fnExactSymLess", fn := fun _ => fun
  | [d1, d2] => { results := [.lit (.bool true)], args := [d1, d2] }
  | _ => none }
def fnExactSymLessRow : OpenClaim := { program := "ytmaejdomlggopaa", sum := "1f848bb30db972a36b5945876bf79c464717c2e4a2c2a74c078e113d38f01b51", func := "loop.example/g00093/laws.FnExactSymLess", spec := "fnExactSymLess", apart := false }
def FnExactSymLessSaid : Prop := fnExactSymLessRow.holds Try.pinned (OpenSpec.ofChange fnExactSymLessSpec)

/-- ITS FALSE NEIGHBOUR: 'it returns false'. Refute it at one input. -/
def fnExactSymLessWrong : ChangeSpec := { name := "fnExactSymLess", fn := fun _ => fun
  | [d1, d2] => { results := [.lit (.bool false)], args := [d1, d2] }
  | _ => none }
def FnExactSymLessWrongFalsely : Prop := fnExactSymLessRow.holds Try.pinned (OpenSpec.ofChange fnExactSymLessWrong)

/-- 'laws.FnExactSymVal': WHATEVER THE INPUT: true; the input reads as it did. -/
def fnExactSymValSpec : ChangeSpec := { name := "fnExactSymVal", fn := fun _ => fun
  | [d1, d2] => { results := [.lit (.bool true)], args := [d1, d2] }
  | _ => none }
def fnExactSymValRow : OpenClaim := { program := "ytmaejdomlggopaa", sum := "1f848bb30db972a36b5945876bf79c464717c2e4a2c2a74c078e113d38f01b51", func := "loop.example/g00093/laws.FnExactSymVal", spec := "fnExactSymVal", apart := false }
def FnExactSymValSaid : Prop := fnExactSymValRow.holds Try.pinned (OpenSpec.ofChange fnExactSymValSpec)

/-- ITS FALSE NEIGHBOUR: 'it returns false'. Refute it at one input. -/
def fnExactSymValWrong : ChangeSpec := { name := "fnExactSymVal", fn := fun _ => fun
  | [d1, d2] => { results := [.lit (.bool false)], args := [d1, d2] }
  | _ => none }
def FnExactSymValWrongFalsely : Prop := fnExactSymValRow.holds Try.pinned (OpenSpec.ofChange fnExactSymValWrong)

/-- 'laws.FnExactSymMost': WHATEVER THE INPUT: true; the input reads as it did. -/
def fnExactSymMostSpec : ChangeSpec := { name := "fnExactSymMost", fn := fun _ => fun
  | [d1, d2, d3] => { results := [.lit (.bool true)], args := [d1, d2, d3] }
  | _ => none }
def fnExactSymMostRow : OpenClaim := { program := "ytmaejdomlggopaa", sum := "1f848bb30db972a36b5945876bf79c464717c2e4a2c2a74c078e113d38f01b51", func := "loop.example/g00093/laws.FnExactSymMost", spec := "fnExactSymMost", apart := false }
def FnExactSymMostSaid : Prop := fnExactSymMostRow.holds Try.pinned (OpenSpec.ofChange fnExactSymMostSpec)

/-- ITS FALSE NEIGHBOUR: 'it returns false'. Refute it at one input. -/
def fnExactSymMostWrong : ChangeSpec := { name := "fnExactSymMost", fn := fun _ => fun
  | [d1, d2, d3] => { results := [.lit (.bool false)], args := [d1, d2, d3] }
  | _ => none }
def FnExactSymMostWrongFalsely : Prop := fnExactSymMostRow.holds Try.pinned (OpenSpec.ofChange fnExactSymMostWrong)

/-- 'laws.FnFactsRest': WHATEVER THE INPUT: true; the input reads as it did. -/
def fnFactsRestSpec : ChangeSpec := { name := "fnFactsRest", fn := fun _ => fun
  | [d1, d2] => { results := [.lit (.bool true)], args := [d1, d2] }
  | _ => none }
def fnFactsRestRow : OpenClaim := { program := "ytmaejdomlggopaa", sum := "1f848bb30db972a36b5945876bf79c464717c2e4a2c2a74c078e113d38f01b51", func := "loop.example/g00093/laws.FnFactsRest", spec := "fnFactsRest", apart := false }
def FnFactsRestSaid : Prop := fnFactsRestRow.holds Try.pinned (OpenSpec.ofChange fnFactsRestSpec)

/-- ITS FALSE NEIGHBOUR: 'it returns false'. Refute it at one input. -/
def fnFactsRestWrong : ChangeSpec := { name := "fnFactsRest", fn := fun _ => fun
  | [d1, d2] => { results := [.lit (.bool false)], args := [d1, d2] }
  | _ => none }
def FnFactsRestWrongFalsely : Prop := fnFactsRestRow.holds Try.pinned (OpenSpec.ofChange fnFactsRestWrong)

/-- 'laws.FnSymMost': WHATEVER THE INPUT: true; the input reads as it did. -/
def fnSymMostSpec : ChangeSpec := { name := "fnSymMost", fn := fun _ => fun
  | [d1, d2] => { results := [.lit (.bool true)], args := [d1, d2] }
  | _ => none }
def fnSymMostRow : OpenClaim := { program := "ytmaejdomlggopaa", sum := "1f848bb30db972a36b5945876bf79c464717c2e4a2c2a74c078e113d38f01b51", func := "loop.example/g00093/laws.FnSymMost", spec := "fnSymMost", apart := false }
def FnSymMostSaid : Prop := fnSymMostRow.holds Try.pinned (OpenSpec.ofChange fnSymMostSpec)

/-- ITS FALSE NEIGHBOUR: 'it returns false'. Refute it at one input. -/
def fnSymMostWrong : ChangeSpec := { name := "fnSymMost", fn := fun _ => fun
  | [d1, d2] => { results := [.lit (.bool false)], args := [d1, d2] }
  | _ => none }
def FnSymMostWrongFalsely : Prop := fnSymMostRow.holds Try.pinned (OpenSpec.ofChange fnSymMostWrong)

/- THE SECOND FORM. 'bulk': how many values and letters a reading holds, each counted each time it is reached (what is shared counts as often as it is met; a slice's spare places count too). A statement '..UptoSaid' is the law's where the arguments, and the package variables that the reading takes, are together of bulk at most 1048576: NARROWER than '..Said'. Prove '..Said' where nothing that the law and all that it calls make is longer than what came in: it says more and counts as full. Else prove '..UptoSaid'. A law counts once. -/
mutual
def uptoBulk {H : Type} : DataW H → Nat
  | .lit (.string bytes) => bytes.length + 1
  | .lit _ => 1
  | .nil => 1
  | .ptr d => uptoBulk d + 1
  | .slice elems spare => uptoBulkAll elems + uptoBulkAll spare + 1
  | .agg parts => uptoBulkAll parts + 1
  | .iface _ d => uptoBulk d + 1
  | .map entries => uptoBulkEntries entries + 1
  | .held _ => 1
def uptoBulkAll {H : Type} : List (DataW H) → Nat
  | [] => 0
  | d :: r => uptoBulk d + uptoBulkAll r
def uptoBulkEntries {H : Type} : List (Lit × DataW H) → Nat
  | [] => 0
  | x :: r => uptoBulkEntry x + uptoBulkEntries r
def uptoBulkEntry {H : Type} : Lit × DataW H → Nat
  | (.string bytes, d) => bytes.length + uptoBulk d + 1
  | (_, d) => uptoBulk d + 1
 end
def uptoSmall : (H : Type) → List (DataW H) → Bool := fun _ ds => decide (uptoBulkAll ds ≤ 1048576)
def OpenSpec.upto (s : _root_.Go.ChangeSpec) : _root_.Go.OpenSpec := { _root_.Go.OpenSpec.ofChange s with cond := some uptoSmall }

/-- 'laws.FnExactFactsLeq', WHERE WHAT IT READS IS OF BULK AT MOST 1048576: true; the input reads as it did. -/
def fnExactFactsLeqUptoRow : OpenClaim := { program := "ytmaejdomlggopaa", sum := "1f848bb30db972a36b5945876bf79c464717c2e4a2c2a74c078e113d38f01b51", func := "loop.example/g00093/laws.FnExactFactsLeq", spec := "fnExactFactsLeq", apart := false, narrowed := true }
def FnExactFactsLeqUptoSaid : Prop := fnExactFactsLeqUptoRow.holds Try.pinned (OpenSpec.upto fnExactFactsLeqSpec)

/-- 'laws.FnExactFactsJoin', WHERE WHAT IT READS IS OF BULK AT MOST 1048576: true; the input reads as it did. -/
def fnExactFactsJoinUptoRow : OpenClaim := { program := "ytmaejdomlggopaa", sum := "1f848bb30db972a36b5945876bf79c464717c2e4a2c2a74c078e113d38f01b51", func := "loop.example/g00093/laws.FnExactFactsJoin", spec := "fnExactFactsJoin", apart := false, narrowed := true }
def FnExactFactsJoinUptoSaid : Prop := fnExactFactsJoinUptoRow.holds Try.pinned (OpenSpec.upto fnExactFactsJoinSpec)

/-- 'laws.FnExactFactsWiden', WHERE WHAT IT READS IS OF BULK AT MOST 1048576: true; the input reads as it did. -/
def fnExactFactsWidenUptoRow : OpenClaim := { program := "ytmaejdomlggopaa", sum := "1f848bb30db972a36b5945876bf79c464717c2e4a2c2a74c078e113d38f01b51", func := "loop.example/g00093/laws.FnExactFactsWiden", spec := "fnExactFactsWiden", apart := false, narrowed := true }
def FnExactFactsWidenUptoSaid : Prop := fnExactFactsWidenUptoRow.holds Try.pinned (OpenSpec.upto fnExactFactsWidenSpec)

/-- 'laws.FnExactFactsBound', WHERE WHAT IT READS IS OF BULK AT MOST 1048576: true; the input reads as it did. -/
def fnExactFactsBoundUptoRow : OpenClaim := { program := "ytmaejdomlggopaa", sum := "1f848bb30db972a36b5945876bf79c464717c2e4a2c2a74c078e113d38f01b51", func := "loop.example/g00093/laws.FnExactFactsBound", spec := "fnExactFactsBound", apart := false, narrowed := true }
def FnExactFactsBoundUptoSaid : Prop := fnExactFactsBoundUptoRow.holds Try.pinned (OpenSpec.upto fnExactFactsBoundSpec)

/-- 'laws.FnExactSymOk', WHERE WHAT IT READS IS OF BULK AT MOST 1048576: true; the input reads as it did. -/
def fnExactSymOkUptoRow : OpenClaim := { program := "ytmaejdomlggopaa", sum := "1f848bb30db972a36b5945876bf79c464717c2e4a2c2a74c078e113d38f01b51", func := "loop.example/g00093/laws.FnExactSymOk", spec := "fnExactSymOk", apart := false, narrowed := true }
def FnExactSymOkUptoSaid : Prop := fnExactSymOkUptoRow.holds Try.pinned (OpenSpec.upto fnExactSymOkSpec)

/-- 'laws.FnExactSymLess', WHERE WHAT IT READS IS OF BULK AT MOST 1048576: true; the input reads as it did. -/
def fnExactSymLessUptoRow : OpenClaim := { program := "ytmaejdomlggopaa", sum := "1f848bb30db972a36b5945876bf79c464717c2e4a2c2a74c078e113d38f01b51", func := "loop.example/g00093/laws.FnExactSymLess", spec := "fnExactSymLess", apart := false, narrowed := true }
def FnExactSymLessUptoSaid : Prop := fnExactSymLessUptoRow.holds Try.pinned (OpenSpec.upto fnExactSymLessSpec)

/-- 'laws.FnExactSymVal', WHERE WHAT IT READS IS OF BULK AT MOST 1048576: true; the input reads as it did. -/
def fnExactSymValUptoRow : OpenClaim := { program := "ytmaejdomlggopaa", sum := "1f848bb30db972a36b5945876bf79c464717c2e4a2c2a74c078e113d38f01b51", func := "loop.example/g00093/laws.FnExactSymVal", spec := "fnExactSymVal", apart := false, narrowed := true }
def FnExactSymValUptoSaid : Prop := fnExactSymValUptoRow.holds Try.pinned (OpenSpec.upto fnExactSymValSpec)

/-- 'laws.FnExactSymMost', WHERE WHAT IT READS IS OF BULK AT MOST 1048576: true; the input reads as it did. -/
def fnExactSymMostUptoRow : OpenClaim := { program := "ytmaejdomlggopaa", sum := "1f848bb30db972a36b5945876bf79c464717c2e4a2c2a74c078e113d38f01b51", func := "loop.example/g00093/laws.FnExactSymMost", spec := "fnExactSymMost", apart := false, narrowed := true }
def FnExactSymMostUptoSaid : Prop := fnExactSymMostUptoRow.holds Try.pinned (OpenSpec.upto fnExactSymMostSpec)

/-- 'laws.FnFactsRest', WHERE WHAT IT READS IS OF BULK AT MOST 1048576: true; the input reads as it did. -/
def fnFactsRestUptoRow : OpenClaim := { program := "ytmaejdomlggopaa", sum := "1f848bb30db972a36b5945876bf79c464717c2e4a2c2a74c078e113d38f01b51", func := "loop.example/g00093/laws.FnFactsRest", spec := "fnFactsRest", apart := false, narrowed := true }
def FnFactsRestUptoSaid : Prop := fnFactsRestUptoRow.holds Try.pinned (OpenSpec.upto fnFactsRestSpec)

/-- 'laws.FnSymMost', WHERE WHAT IT READS IS OF BULK AT MOST 1048576: true; the input reads as it did. -/
def fnSymMostUptoRow : OpenClaim := { program := "ytmaejdomlggopaa", sum := "1f848bb30db972a36b5945876bf79c464717c2e4a2c2a74c078e113d38f01b51", func := "loop.example/g00093/laws.FnSymMost", spec := "fnSymMost", apart := false, narrowed := true }
def FnSymMostUptoSaid : Prop := fnSymMostUptoRow.holds Try.pinned (OpenSpec.upto fnSymMostSpec)

end Rows
end Go.Proofs.Ytmaejdomlggopaa
