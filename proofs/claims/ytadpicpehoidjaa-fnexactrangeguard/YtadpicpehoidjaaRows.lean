/-
  No cell of these rows narrows 'for every input' (looked for: loops, veiled, ifaces, maps, wideKeys, modest, calm, conditions, laid).
  DERIVED. THE GIVEN ROWS OF THIS SEAT. 11 by the template 'for every input the law returns true; each argument reads behind the call as it read before'; 0 by the template 'total and deterministic' (their statements: YtadpicpehoidjaaTotals.lean).
  GIVEN WITH THE SEED: the statements are not yours to turn. If you find one false, say at which input.
  Laid BY PROGRAM, IN A SANDBOX (cutbox-rows.mjs): the forced cells as the released guide's own fill.sh prints them over the translation f4643baac5387511… (all of the seat's roots in one cut). By AI agents, Wed Nov 11 2026. No macro, syntax, notation, axiom, sorry.
-/
import Derived.Test.YtadpicpehoidjaaChecked
import GoSem.Claim
import GoSem.ClaimJoined
import GoSem.ClaimMapViews
import Derived.JoinedTies
import Derived.KernelRfl
namespace Go.Proofs.Ytadpicpehoidjaa
/- THE CELL 'sum', in the pinned program and in every row, IS THE sha256 OF THE DUMP (.gsa) THAT YtadpicpehoidjaaProg.lean LOADS. Nothing in Lean hashes anything: it is a label: what it is worth is what the hold of that sum in a sandbox is worth. -/
noncomputable def Try.pinned : Pinned := { name := "ytadpicpehoidjaa", sum := "f4643baac53875119a4965c630ec7f7c1d0d25e8c64d307cfd88b103bb18147f", checked := Try.checked }
namespace Rows
def none {H : Type} : Left H := { results := [], args := [] }

/-- 'laws.FnExactRangeOk': WHATEVER THE INPUT: true; the input reads as it did. -/
def fnExactRangeOkSpec : ChangeSpec := { name := "fnExactRangeOk", fn := fun _ => fun
  | [d] => { results := [.lit (.bool true)], args := [d] }
  | _ => none }
def fnExactRangeOkRow : OpenClaim := { program := "ytadpicpehoidjaa", sum := "f4643baac53875119a4965c630ec7f7c1d0d25e8c64d307cfd88b103bb18147f", func := "loop.example/g00093/laws.FnExactRangeOk", spec := "fnExactRangeOk", apart := false }
def FnExactRangeOkSaid : Prop := fnExactRangeOkRow.holds Try.pinned (OpenSpec.ofChange fnExactRangeOkSpec)

/-- ITS FALSE NEIGHBOUR: 'it returns false'. Refute it at one input. -/
def fnExactRangeOkWrong : ChangeSpec := { name := "fnExactRangeOk", fn := fun _ => fun
  | [d] => { results := [.lit (.bool false)], args := [d] }
  | _ => none }
def FnExactRangeOkWrongFalsely : Prop := fnExactRangeOkRow.holds Try.pinned (OpenSpec.ofChange fnExactRangeOkWrong)

/-- 'laws.FnExactRangeHas': WHATEVER THE INPUT: true; the input reads as it did. -/
def fnExactRangeHasSpec : ChangeSpec := { name := "fnExactRangeHas", fn := fun _ => fun
  | [d1, d2] => { results := [.lit (.bool true)], args := [d1, d2] }
  | _ => none }
def fnExactRangeHasRow : OpenClaim := { program := "ytadpicpehoidjaa", sum := "f4643baac53875119a4965c630ec7f7c1d0d25e8c64d307cfd88b103bb18147f", func := "loop.example/g00093/laws.FnExactRangeHas", spec := "fnExactRangeHas", apart := false }
def FnExactRangeHasSaid : Prop := fnExactRangeHasRow.holds Try.pinned (OpenSpec.ofChange fnExactRangeHasSpec)

/-- ITS FALSE NEIGHBOUR: 'it returns false'. Refute it at one input. -/
def fnExactRangeHasWrong : ChangeSpec := { name := "fnExactRangeHas", fn := fun _ => fun
  | [d1, d2] => { results := [.lit (.bool false)], args := [d1, d2] }
  | _ => none }
def FnExactRangeHasWrongFalsely : Prop := fnExactRangeHasRow.holds Try.pinned (OpenSpec.ofChange fnExactRangeHasWrong)

/-- 'laws.FnExactRangeLeq': WHATEVER THE INPUT: true; the input reads as it did. -/
def fnExactRangeLeqSpec : ChangeSpec := { name := "fnExactRangeLeq", fn := fun _ => fun
  | [d1, d2] => { results := [.lit (.bool true)], args := [d1, d2] }
  | _ => none }
def fnExactRangeLeqRow : OpenClaim := { program := "ytadpicpehoidjaa", sum := "f4643baac53875119a4965c630ec7f7c1d0d25e8c64d307cfd88b103bb18147f", func := "loop.example/g00093/laws.FnExactRangeLeq", spec := "fnExactRangeLeq", apart := false }
def FnExactRangeLeqSaid : Prop := fnExactRangeLeqRow.holds Try.pinned (OpenSpec.ofChange fnExactRangeLeqSpec)

/-- ITS FALSE NEIGHBOUR: 'it returns false'. Refute it at one input. -/
def fnExactRangeLeqWrong : ChangeSpec := { name := "fnExactRangeLeq", fn := fun _ => fun
  | [d1, d2] => { results := [.lit (.bool false)], args := [d1, d2] }
  | _ => none }
def FnExactRangeLeqWrongFalsely : Prop := fnExactRangeLeqRow.holds Try.pinned (OpenSpec.ofChange fnExactRangeLeqWrong)

/-- 'laws.FnExactRangeJoin': WHATEVER THE INPUT: true; the input reads as it did. -/
def fnExactRangeJoinSpec : ChangeSpec := { name := "fnExactRangeJoin", fn := fun _ => fun
  | [d1, d2] => { results := [.lit (.bool true)], args := [d1, d2] }
  | _ => none }
def fnExactRangeJoinRow : OpenClaim := { program := "ytadpicpehoidjaa", sum := "f4643baac53875119a4965c630ec7f7c1d0d25e8c64d307cfd88b103bb18147f", func := "loop.example/g00093/laws.FnExactRangeJoin", spec := "fnExactRangeJoin", apart := false }
def FnExactRangeJoinSaid : Prop := fnExactRangeJoinRow.holds Try.pinned (OpenSpec.ofChange fnExactRangeJoinSpec)

/-- ITS FALSE NEIGHBOUR: 'it returns false'. Refute it at one input. -/
def fnExactRangeJoinWrong : ChangeSpec := { name := "fnExactRangeJoin", fn := fun _ => fun
  | [d1, d2] => { results := [.lit (.bool false)], args := [d1, d2] }
  | _ => none }
def FnExactRangeJoinWrongFalsely : Prop := fnExactRangeJoinRow.holds Try.pinned (OpenSpec.ofChange fnExactRangeJoinWrong)

/-- 'laws.FnExactRangeMeet': WHATEVER THE INPUT: true; the input reads as it did. -/
def fnExactRangeMeetSpec : ChangeSpec := { name := "fnExactRangeMeet", fn := fun _ => fun
  | [d1, d2] => { results := [.lit (.bool true)], args := [d1, d2] }
  | _ => none }
def fnExactRangeMeetRow : OpenClaim := { program := "ytadpicpehoidjaa", sum := "f4643baac53875119a4965c630ec7f7c1d0d25e8c64d307cfd88b103bb18147f", func := "loop.example/g00093/laws.FnExactRangeMeet", spec := "fnExactRangeMeet", apart := false }
def FnExactRangeMeetSaid : Prop := fnExactRangeMeetRow.holds Try.pinned (OpenSpec.ofChange fnExactRangeMeetSpec)

/-- ITS FALSE NEIGHBOUR: 'it returns false'. Refute it at one input. -/
def fnExactRangeMeetWrong : ChangeSpec := { name := "fnExactRangeMeet", fn := fun _ => fun
  | [d1, d2] => { results := [.lit (.bool false)], args := [d1, d2] }
  | _ => none }
def FnExactRangeMeetWrongFalsely : Prop := fnExactRangeMeetRow.holds Try.pinned (OpenSpec.ofChange fnExactRangeMeetWrong)

/-- 'laws.FnExactRangeNeg': WHATEVER THE INPUT: true; the input reads as it did. -/
def fnExactRangeNegSpec : ChangeSpec := { name := "fnExactRangeNeg", fn := fun _ => fun
  | [d] => { results := [.lit (.bool true)], args := [d] }
  | _ => none }
def fnExactRangeNegRow : OpenClaim := { program := "ytadpicpehoidjaa", sum := "f4643baac53875119a4965c630ec7f7c1d0d25e8c64d307cfd88b103bb18147f", func := "loop.example/g00093/laws.FnExactRangeNeg", spec := "fnExactRangeNeg", apart := false }
def FnExactRangeNegSaid : Prop := fnExactRangeNegRow.holds Try.pinned (OpenSpec.ofChange fnExactRangeNegSpec)

/-- ITS FALSE NEIGHBOUR: 'it returns false'. Refute it at one input. -/
def fnExactRangeNegWrong : ChangeSpec := { name := "fnExactRangeNeg", fn := fun _ => fun
  | [d] => { results := [.lit (.bool false)], args := [d] }
  | _ => none }
def FnExactRangeNegWrongFalsely : Prop := fnExactRangeNegRow.holds Try.pinned (OpenSpec.ofChange fnExactRangeNegWrong)

/-- 'laws.FnExactRangeAdd': WHATEVER THE INPUT: true; the input reads as it did. -/
def fnExactRangeAddSpec : ChangeSpec := { name := "fnExactRangeAdd", fn := fun _ => fun
  | [d1, d2] => { results := [.lit (.bool true)], args := [d1, d2] }
  | _ => none }
def fnExactRangeAddRow : OpenClaim := { program := "ytadpicpehoidjaa", sum := "f4643baac53875119a4965c630ec7f7c1d0d25e8c64d307cfd88b103bb18147f", func := "loop.example/g00093/laws.FnExactRangeAdd", spec := "fnExactRangeAdd", apart := false }
def FnExactRangeAddSaid : Prop := fnExactRangeAddRow.holds Try.pinned (OpenSpec.ofChange fnExactRangeAddSpec)

/-- ITS FALSE NEIGHBOUR: 'it returns false'. Refute it at one input. -/
def fnExactRangeAddWrong : ChangeSpec := { name := "fnExactRangeAdd", fn := fun _ => fun
  | [d1, d2] => { results := [.lit (.bool false)], args := [d1, d2] }
  | _ => none }
def FnExactRangeAddWrongFalsely : Prop := fnExactRangeAddRow.holds Try.pinned (OpenSpec.ofChange fnExactRangeAddWrong)

/-- 'laws.FnExactRangeSub': WHATEVER THE INPUT: true; the input reads as it did. -/
def fnExactRangeSubSpec : ChangeSpec := { name := "fnExactRangeSub", fn := fun _ => fun
  | [d1, d2] => { results := [.lit (.bool true)], args := [d1, d2] }
  | _ => none }
def fnExactRangeSubRow : OpenClaim := { program := "ytadpicpehoidjaa", sum := "f4643baac53875119a4965c630ec7f7c1d0d25e8c64d307cfd88b103bb18147f", func := "loop.example/g00093/laws.FnExactRangeSub", spec := "fnExactRangeSub", apart := false }
def FnExactRangeSubSaid : Prop := fnExactRangeSubRow.holds Try.pinned (OpenSpec.ofChange fnExactRangeSubSpec)

/-- ITS FALSE NEIGHBOUR: 'it returns false'. Refute it at one input. -/
def fnExactRangeSubWrong : ChangeSpec := { name := "fnExactRangeSub", fn := fun _ => fun
  | [d1, d2] => { results := [.lit (.bool false)], args := [d1, d2] }
  | _ => none }
def FnExactRangeSubWrongFalsely : Prop := fnExactRangeSubRow.holds Try.pinned (OpenSpec.ofChange fnExactRangeSubWrong)

/-- 'laws.FnExactRangeMul': WHATEVER THE INPUT: true; the input reads as it did. -/
def fnExactRangeMulSpec : ChangeSpec := { name := "fnExactRangeMul", fn := fun _ => fun
  | [d1, d2] => { results := [.lit (.bool true)], args := [d1, d2] }
  | _ => none }
def fnExactRangeMulRow : OpenClaim := { program := "ytadpicpehoidjaa", sum := "f4643baac53875119a4965c630ec7f7c1d0d25e8c64d307cfd88b103bb18147f", func := "loop.example/g00093/laws.FnExactRangeMul", spec := "fnExactRangeMul", apart := false }
def FnExactRangeMulSaid : Prop := fnExactRangeMulRow.holds Try.pinned (OpenSpec.ofChange fnExactRangeMulSpec)

/-- ITS FALSE NEIGHBOUR: 'it returns false'. Refute it at one input. -/
def fnExactRangeMulWrong : ChangeSpec := { name := "fnExactRangeMul", fn := fun _ => fun
  | [d1, d2] => { results := [.lit (.bool false)], args := [d1, d2] }
  | _ => none }
def FnExactRangeMulWrongFalsely : Prop := fnExactRangeMulRow.holds Try.pinned (OpenSpec.ofChange fnExactRangeMulWrong)

/-- 'laws.FnExactRangeGuard': WHATEVER THE INPUT: true; the input reads as it did. -/
def fnExactRangeGuardSpec : ChangeSpec := { name := "fnExactRangeGuard", fn := fun _ => fun
  | [d1, d2, d3] => { results := [.lit (.bool true)], args := [d1, d2, d3] }
  | _ => none }
def fnExactRangeGuardRow : OpenClaim := { program := "ytadpicpehoidjaa", sum := "f4643baac53875119a4965c630ec7f7c1d0d25e8c64d307cfd88b103bb18147f", func := "loop.example/g00093/laws.FnExactRangeGuard", spec := "fnExactRangeGuard", recurses := true, apart := false }
def FnExactRangeGuardSaid : Prop := fnExactRangeGuardRow.holds Try.pinned (OpenSpec.ofChange fnExactRangeGuardSpec)

/-- ITS FALSE NEIGHBOUR: 'it returns false'. Refute it at one input. -/
def fnExactRangeGuardWrong : ChangeSpec := { name := "fnExactRangeGuard", fn := fun _ => fun
  | [d1, d2, d3] => { results := [.lit (.bool false)], args := [d1, d2, d3] }
  | _ => none }
def FnExactRangeGuardWrongFalsely : Prop := fnExactRangeGuardRow.holds Try.pinned (OpenSpec.ofChange fnExactRangeGuardWrong)

/-- 'laws.FnExactRangeWiden': WHATEVER THE INPUT: true; the input reads as it did. -/
def fnExactRangeWidenSpec : ChangeSpec := { name := "fnExactRangeWiden", fn := fun _ => fun
  | [d1, d2, d3] => { results := [.lit (.bool true)], args := [d1, d2, d3] }
  | _ => none }
def fnExactRangeWidenRow : OpenClaim := { program := "ytadpicpehoidjaa", sum := "f4643baac53875119a4965c630ec7f7c1d0d25e8c64d307cfd88b103bb18147f", func := "loop.example/g00093/laws.FnExactRangeWiden", spec := "fnExactRangeWiden", apart := false }
def FnExactRangeWidenSaid : Prop := fnExactRangeWidenRow.holds Try.pinned (OpenSpec.ofChange fnExactRangeWidenSpec)

/-- ITS FALSE NEIGHBOUR: 'it returns false'. Refute it at one input. -/
def fnExactRangeWidenWrong : ChangeSpec := { name := "fnExactRangeWiden", fn := fun _ => fun
  | [d1, d2, d3] => { results := [.lit (.bool false)], args := [d1, d2, d3] }
  | _ => none }
def FnExactRangeWidenWrongFalsely : Prop := fnExactRangeWidenRow.holds Try.pinned (OpenSpec.ofChange fnExactRangeWidenWrong)

/- THE SECOND FORM. 'bulk': how many values and letters a reading holds, each counted each time it is reached (what is shared counts as often as it is met; a slice's spare places count too). A statement '..UptoSaid' is the law's where the arguments, and the package variables that the reading takes, are together of bulk at most 1048576: NARROWER than '..Said'. Prove '..Said' where nothing that the law and all that it calls make is longer than what came in: it says more and counts as full. Else prove '..UptoSaid'. A law counts once. -/
mutual
def uptoBulk {H : Type} : DataW H → Nat
  | .lit (.string bytes) => bytes.length + 1
  | .lit _ => 1
  | .nil => 1
  | .ptr d => uptoBulk d + 1
  | .slice elems spare => uptoBulkAll elems + uptoBulkAll spare + 1
  | .agg parts => uptoBulkAll parts + 1
  | .iface _ d => uptoBulk d + 1
  | .map entries => uptoBulkEntries entries + 1
  | .held _ => 1
def uptoBulkAll {H : Type} : List (DataW H) → Nat
  | [] => 0
  | d :: r => uptoBulk d + uptoBulkAll r
def uptoBulkEntries {H : Type} : List (Lit × DataW H) → Nat
  | [] => 0
  | x :: r => uptoBulkEntry x + uptoBulkEntries r
def uptoBulkEntry {H : Type} : Lit × DataW H → Nat
  | (.string bytes, d) => bytes.length + uptoBulk d + 1
  | (_, d) => uptoBulk d + 1
 end
def uptoSmall : (H : Type) → List (DataW H) → Bool := fun _ ds => decide (uptoBulkAll ds ≤ 1048576)
def OpenSpec.upto (s : _root_.Go.ChangeSpec) : _root_.Go.OpenSpec := { _root_.Go.OpenSpec.ofChange s with cond := some uptoSmall }

/-- 'laws.FnExactRangeOk', WHERE WHAT IT READS IS OF BULK AT MOST 1048576: true; the input reads as it did. -/
def fnExactRangeOkUptoRow : OpenClaim := { program := "ytadpicpehoidjaa", sum := "f4643baac53875119a4965c630ec7f7c1d0d25e8c64d307cfd88b103bb18147f", func := "loop.example/g00093/laws.FnExactRangeOk", spec := "fnExactRangeOk", apart := false, narrowed := true }
def FnExactRangeOkUptoSaid : Prop := fnExactRangeOkUptoRow.holds Try.pinned (OpenSpec.upto fnExactRangeOkSpec)

/-- 'laws.FnExactRangeHas', WHERE WHAT IT READS IS OF BULK AT MOST 1048576: true; the input reads as it did. -/
def fnExactRangeHasUptoRow : OpenClaim := { program := "ytadpicpehoidjaa", sum := "f4643baac53875119a4965c630ec7f7c1d0d25e8c64d307cfd88b103bb18147f", func := "loop.example/g00093/laws.FnExactRangeHas", spec := "fnExactRangeHas", apart := false, narrowed := true }
def FnExactRangeHasUptoSaid : Prop := fnExactRangeHasUptoRow.holds Try.pinned (OpenSpec.upto fnExactRangeHasSpec)

/-- 'laws.FnExactRangeLeq', WHERE WHAT IT READS IS OF BULK AT MOST 1048576: true; the input reads as it did. -/
def fnExactRangeLeqUptoRow : OpenClaim := { program := "ytadpicpehoidjaa", sum := "f4643baac53875119a4965c630ec7f7c1d0d25e8c64d307cfd88b103bb18147f", func := "loop.example/g00093/laws.FnExactRangeLeq", spec := "fnExactRangeLeq", apart := false, narrowed := true }
def FnExactRangeLeqUptoSaid : Prop := fnExactRangeLeqUptoRow.holds Try.pinned (OpenSpec.upto fnExactRangeLeqSpec)

/-- 'laws.FnExactRangeJoin', WHERE WHAT IT READS IS OF BULK AT MOST 1048576: true; the input reads as it did. -/
def fnExactRangeJoinUptoRow : OpenClaim := { program := "ytadpicpehoidjaa", sum := "f4643baac53875119a4965c630ec7f7c1d0d25e8c64d307cfd88b103bb18147f", func := "loop.example/g00093/laws.FnExactRangeJoin", spec := "fnExactRangeJoin", apart := false, narrowed := true }
def FnExactRangeJoinUptoSaid : Prop := fnExactRangeJoinUptoRow.holds Try.pinned (OpenSpec.upto fnExactRangeJoinSpec)

/-- 'laws.FnExactRangeMeet', WHERE WHAT IT READS IS OF BULK AT MOST 1048576: true; the input reads as it did. -/
def fnExactRangeMeetUptoRow : OpenClaim := { program := "ytadpicpehoidjaa", sum := "f4643baac53875119a4965c630ec7f7c1d0d25e8c64d307cfd88b103bb18147f", func := "loop.example/g00093/laws.FnExactRangeMeet", spec := "fnExactRangeMeet", apart := false, narrowed := true }
def FnExactRangeMeetUptoSaid : Prop := fnExactRangeMeetUptoRow.holds Try.pinned (OpenSpec.upto fnExactRangeMeetSpec)

/-- 'laws.FnExactRangeNeg', WHERE WHAT IT READS IS OF BULK AT MOST 1048576: true; the input reads as it did. -/
def fnExactRangeNegUptoRow : OpenClaim := { program := "ytadpicpehoidjaa", sum := "f4643baac53875119a4965c630ec7f7c1d0d25e8c64d307cfd88b103bb18147f", func := "loop.example/g00093/laws.FnExactRangeNeg", spec := "fnExactRangeNeg", apart := false, narrowed := true }
def FnExactRangeNegUptoSaid : Prop := fnExactRangeNegUptoRow.holds Try.pinned (OpenSpec.upto fnExactRangeNegSpec)

/-- 'laws.FnExactRangeAdd', WHERE WHAT IT READS IS OF BULK AT MOST 1048576: true; the input reads as it did. -/
def fnExactRangeAddUptoRow : OpenClaim := { program := "ytadpicpehoidjaa", sum := "f4643baac53875119a4965c630ec7f7c1d0d25e8c64d307cfd88b103bb18147f", func := "loop.example/g00093/laws.FnExactRangeAdd", spec := "fnExactRangeAdd", apart := false, narrowed := true }
def FnExactRangeAddUptoSaid : Prop := fnExactRangeAddUptoRow.holds Try.pinned (OpenSpec.upto fnExactRangeAddSpec)

/-- 'laws.FnExactRangeSub', WHERE WHAT IT READS IS OF BULK AT MOST 1048576: true; the input reads as it did. -/
def fnExactRangeSubUptoRow : OpenClaim := { program := "ytadpicpehoidjaa", sum := "f4643baac53875119a4965c630ec7f7c1d0d25e8c64d307cfd88b103bb18147f", func := "loop.example/g00093/laws.FnExactRangeSub", spec := "fnExactRangeSub", apart := false, narrowed := true }
def FnExactRangeSubUptoSaid : Prop := fnExactRangeSubUptoRow.holds Try.pinned (OpenSpec.upto fnExactRangeSubSpec)

/-- 'laws.FnExactRangeMul', WHERE WHAT IT READS IS OF BULK AT MOST 1048576: true; the input reads as it did. -/
def fnExactRangeMulUptoRow : OpenClaim := { program := "ytadpicpehoidjaa", sum := "f4643baac53875119a4965c630ec7f7c1d0d25e8c64d307cfd88b103bb18147f", func := "loop.example/g00093/laws.FnExactRangeMul", spec := "fnExactRangeMul", apart := false, narrowed := true }
def FnExactRangeMulUptoSaid : Prop := fnExactRangeMulUptoRow.holds Try.pinned (OpenSpec.upto fnExactRangeMulSpec)

/-- 'laws.FnExactRangeGuard', WHERE WHAT IT READS IS OF BULK AT MOST 1048576: true; the input reads as it did. -/
def fnExactRangeGuardUptoRow : OpenClaim := { program := "ytadpicpehoidjaa", sum := "f4643baac53875119a4965c630ec7f7c1d0d25e8c64d307cfd88b103bb18147f", func := "loop.example/g00093/laws.FnExactRangeGuard", spec := "fnExactRangeGuard", recurses := true, apart := false, narrowed := true }
def FnExactRangeGuardUptoSaid : Prop := fnExactRangeGuardUptoRow.holds Try.pinned (OpenSpec.upto fnExactRangeGuardSpec)

/-- 'laws.FnExactRangeWiden', WHERE WHAT IT READS IS OF BULK AT MOST 1048576: true; the input reads as it did. -/
def fnExactRangeWidenUptoRow : OpenClaim := { program := "ytadpicpehoidjaa", sum := "f4643baac53875119a4965c630ec7f7c1d0d25e8c64d307cfd88b103bb18147f", func := "loop.example/g00093/laws.FnExactRangeWiden", spec := "fnExactRangeWiden", apart := false, narrowed := true }
def FnExactRangeWidenUptoSaid : Prop := fnExactRangeWidenUptoRow.holds Try.pinned (OpenSpec.upto fnExactRangeWidenSpec)

end Rows
end Go.Proofs.Ytadpicpehoidjaa
