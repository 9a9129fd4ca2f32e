/-
  No cell of these rows narrows 'for every input' (looked for: loops, veiled, ifaces, maps, wideKeys, modest, calm, conditions, laid).
  DERIVED. THE GIVEN ROWS OF THIS SEAT. 5 by the template 'for every input the law returns true; each argument reads behind the call as it read before'; 0 by the template 'total and deterministic' (their statements: YtkapogekghicaaaTotals.lean).
  GIVEN WITH THE SEED: the statements are not yours to turn. If you find one false, say at which input.
  Laid BY PROGRAM, IN A SANDBOX (cutbox-rows.mjs): the forced cells as the released guide's own fill.sh prints them over the translation fc718953fa6d36fd… (all of the seat's roots in one cut). By AI agents, Wed Nov 11 2026. No macro, syntax, notation, axiom, sorry.
-/
import Derived.Test.YtkapogekghicaaaChecked
import GoSem.Claim
import GoSem.ClaimJoined
import GoSem.ClaimMapViews
import Derived.JoinedTies
import Derived.KernelRfl
namespace Go.Proofs.Ytkapogekghicaaa
/- THE CELL 'sum', in the pinned program and in every row, IS THE sha256 OF THE DUMP (.gsa) THAT YtkapogekghicaaaProg.lean LOADS. Nothing in Lean hashes anything: it is a label: what it is worth is what the hold of that sum in a sandbox is worth. -/
noncomputable def Try.pinned : Pinned := { name := "ytkapogekghicaaa", sum := "fc718953fa6d36fd27ea153b72f354164da29857063b7bcbe82ff6c16a6e709a", checked := Try.checked }
namespace Rows
def none {H : Type} : Left H := { results := [], args := [] }

/-- 'laws.FnExactValOk': WHATEVER THE INPUT: true; the input reads as it did. -/
def fnExactValOkSpec : ChangeSpec := { name := "fnExactValOk", fn := fun _ => fun
  | [d] => { results := [.lit (.bool true)], args := [d] }
  | _ => none }
def fnExactValOkRow : OpenClaim := { program := "ytkapogekghicaaa", sum := "fc718953fa6d36fd27ea153b72f354164da29857063b7bcbe82ff6c16a6e709a", func := "loop.example/g00093/laws.FnExactValOk", spec := "fnExactValOk", apart := false }
def FnExactValOkSaid : Prop := fnExactValOkRow.holds Try.pinned (OpenSpec.ofChange fnExactValOkSpec)

/-- ITS FALSE NEIGHBOUR: 'it returns false'. Refute it at one input. -/
def fnExactValOkWrong : ChangeSpec := { name := "fnExactValOk", fn := fun _ => fun
  | [d] => { results := [.lit (.bool false)], args := [d] }
  | _ => none }
def FnExactValOkWrongFalsely : Prop := fnExactValOkRow.holds Try.pinned (OpenSpec.ofChange fnExactValOkWrong)

/-- 'laws.FnExactValHas': WHATEVER THE INPUT: true; the input reads as it did. -/
def fnExactValHasSpec : ChangeSpec := { name := "fnExactValHas", fn := fun _ => fun
  | [d1, d2] => { results := [.lit (.bool true)], args := [d1, d2] }
  | _ => none }
def fnExactValHasRow : OpenClaim := { program := "ytkapogekghicaaa", sum := "fc718953fa6d36fd27ea153b72f354164da29857063b7bcbe82ff6c16a6e709a", func := "loop.example/g00093/laws.FnExactValHas", spec := "fnExactValHas", apart := false }
def FnExactValHasSaid : Prop := fnExactValHasRow.holds Try.pinned (OpenSpec.ofChange fnExactValHasSpec)

/-- ITS FALSE NEIGHBOUR: 'it returns false'. Refute it at one input. -/
def fnExactValHasWrong : ChangeSpec := { name := "fnExactValHas", fn := fun _ => fun
  | [d1, d2] => { results := [.lit (.bool false)], args := [d1, d2] }
  | _ => none }
def FnExactValHasWrongFalsely : Prop := fnExactValHasRow.holds Try.pinned (OpenSpec.ofChange fnExactValHasWrong)

/-- 'laws.FnExactValLeq': WHATEVER THE INPUT: true; the input reads as it did. -/
def fnExactValLeqSpec : ChangeSpec := { name := "fnExactValLeq", fn := fun _ => fun
  | [d1, d2] => { results := [.lit (.bool true)], args := [d1, d2] }
  | _ => none }
def fnExactValLeqRow : OpenClaim := { program := "ytkapogekghicaaa", sum := "fc718953fa6d36fd27ea153b72f354164da29857063b7bcbe82ff6c16a6e709a", func := "loop.example/g00093/laws.FnExactValLeq", spec := "fnExactValLeq", unfollowed := true, recurses := true, apart := false }
def FnExactValLeqSaid : Prop := fnExactValLeqRow.holds Try.pinned (OpenSpec.ofChange fnExactValLeqSpec)

/-- ITS FALSE NEIGHBOUR: 'it returns false'. Refute it at one input. -/
def fnExactValLeqWrong : ChangeSpec := { name := "fnExactValLeq", fn := fun _ => fun
  | [d1, d2] => { results := [.lit (.bool false)], args := [d1, d2] }
  | _ => none }
def FnExactValLeqWrongFalsely : Prop := fnExactValLeqRow.holds Try.pinned (OpenSpec.ofChange fnExactValLeqWrong)

/-- 'laws.FnExactValJoin': WHATEVER THE INPUT: true; the input reads as it did. -/
def fnExactValJoinSpec : ChangeSpec := { name := "fnExactValJoin", fn := fun _ => fun
  | [d1, d2] => { results := [.lit (.bool true)], args := [d1, d2] }
  | _ => none }
def fnExactValJoinRow : OpenClaim := { program := "ytkapogekghicaaa", sum := "fc718953fa6d36fd27ea153b72f354164da29857063b7bcbe82ff6c16a6e709a", func := "loop.example/g00093/laws.FnExactValJoin", spec := "fnExactValJoin", unfollowed := true, recurses := true, apart := false }
def FnExactValJoinSaid : Prop := fnExactValJoinRow.holds Try.pinned (OpenSpec.ofChange fnExactValJoinSpec)

/-- ITS FALSE NEIGHBOUR: 'it returns false'. Refute it at one input. -/
def fnExactValJoinWrong : ChangeSpec := { name := "fnExactValJoin", fn := fun _ => fun
  | [d1, d2] => { results := [.lit (.bool false)], args := [d1, d2] }
  | _ => none }
def FnExactValJoinWrongFalsely : Prop := fnExactValJoinRow.holds Try.pinned (OpenSpec.ofChange fnExactValJoinWrong)

/-- 'laws.FnExactValWiden': WHATEVER THE INPUT: true; the input reads as it did. -/
def fnExactValWidenSpec : ChangeSpec := { name := "fnExactValWiden", fn := fun _ => fun
  | [d1, d2, d3] => { results := [.lit (.bool true)], args := [d1, d2, d3] }
  | _ => none }
def fnExactValWidenRow : OpenClaim := { program := "ytkapogekghicaaa", sum := "fc718953fa6d36fd27ea153b72f354164da29857063b7bcbe82ff6c16a6e709a", func := "loop.example/g00093/laws.FnExactValWiden", spec := "fnExactValWiden", unfollowed := true, recurses := true, apart := false }
def FnExactValWidenSaid : Prop := fnExactValWidenRow.holds Try.pinned (OpenSpec.ofChange fnExactValWidenSpec)

/-- ITS FALSE NEIGHBOUR: 'it returns false'. Refute it at one input. -/
def fnExactValWidenWrong : ChangeSpec := { name := "fnExactValWiden", fn := fun _ => fun
  | [d1, d2, d3] => { results := [.lit (.bool false)], args := [d1, d2, d3] }
  | _ => none }
def FnExactValWidenWrongFalsely : Prop := fnExactValWidenRow.holds Try.pinned (OpenSpec.ofChange fnExactValWidenWrong)

/- THE SECOND FORM. 'bulk': how many values and letters a reading holds, each counted each time it is reached (what is shared counts as often as it is met; a slice's spare places count too). A statement '..UptoSaid' is the law's where the arguments, and the package variables that the reading takes, are together of bulk at most 1048576: NARROWER than '..Said'. Prove '..Said' where nothing that the law and all that it calls make is longer than what came in: it says more and counts as full. Else prove '..UptoSaid'. A law counts once. -/
mutual
def uptoBulk {H : Type} : DataW H → Nat
  | .lit (.string bytes) => bytes.length + 1
  | .lit _ => 1
  | .nil => 1
  | .ptr d => uptoBulk d + 1
  | .slice elems spare => uptoBulkAll elems + uptoBulkAll spare + 1
  | .agg parts => uptoBulkAll parts + 1
  | .iface _ d => uptoBulk d + 1
  | .map entries => uptoBulkEntries entries + 1
  | .held _ => 1
def uptoBulkAll {H : Type} : List (DataW H) → Nat
  | [] => 0
  | d :: r => uptoBulk d + uptoBulkAll r
def uptoBulkEntries {H : Type} : List (Lit × DataW H) → Nat
  | [] => 0
  | x :: r => uptoBulkEntry x + uptoBulkEntries r
def uptoBulkEntry {H : Type} : Lit × DataW H → Nat
  | (.string bytes, d) => bytes.length + uptoBulk d + 1
  | (_, d) => uptoBulk d + 1
 end
def uptoSmall : (H : Type) → List (DataW H) → Bool := fun _ ds => decide (uptoBulkAll ds ≤ 1048576)
def OpenSpec.upto (s : _root_.Go.ChangeSpec) : _root_.Go.OpenSpec := { _root_.Go.OpenSpec.ofChange s with cond := some uptoSmall }

/-- 'laws.FnExactValOk', WHERE WHAT IT READS IS OF BULK AT MOST 1048576: true; the input reads as it did. -/
def fnExactValOkUptoRow : OpenClaim := { program := "ytkapogekghicaaa", sum := "fc718953fa6d36fd27ea153b72f354164da29857063b7bcbe82ff6c16a6e709a", func := "loop.example/g00093/laws.FnExactValOk", spec := "fnExactValOk", apart := false, narrowed := true }
def FnExactValOkUptoSaid : Prop := fnExactValOkUptoRow.holds Try.pinned (OpenSpec.upto fnExactValOkSpec)

/-- 'laws.FnExactValHas', WHERE WHAT IT READS IS OF BULK AT MOST 1048576: true; the input reads as it did. -/
def fnExactValHasUptoRow : OpenClaim := { program := "ytkapogekghicaaa", sum := "fc718953fa6d36fd27ea153b72f354164da29857063b7bcbe82ff6c16a6e709a", func := "loop.example/g00093/laws.FnExactValHas", spec := "fnExactValHas", apart := false, narrowed := true }
def FnExactValHasUptoSaid : Prop := fnExactValHasUptoRow.holds Try.pinned (OpenSpec.upto fnExactValHasSpec)

/-- 'laws.FnExactValLeq', WHERE WHAT IT READS IS OF BULK AT MOST 1048576: true; the input reads as it did. -/
def fnExactValLeqUptoRow : OpenClaim := { program := "ytkapogekghicaaa", sum := "fc718953fa6d36fd27ea153b72f354164da29857063b7bcbe82ff6c16a6e709a", func := "loop.example/g00093/laws.FnExactValLeq", spec := "fnExactValLeq", unfollowed := true, recurses := true, apart := false, narrowed := true }
def FnExactValLeqUptoSaid : Prop := fnExactValLeqUptoRow.holds Try.pinned (OpenSpec.upto fnExactValLeqSpec)

/-- 'laws.FnExactValJoin', WHERE WHAT IT READS IS OF BULK AT MOST 1048576: true; the input reads as it did. -/
def fnExactValJoinUptoRow : OpenClaim := { program := "ytkapogekghicaaa", sum := "fc718953fa6d36fd27ea153b72f354164da29857063b7bcbe82ff6c16a6e709a", func := "loop.example/g00093/laws.FnExactValJoin", spec := "fnExactValJoin", unfollowed := true, recurses := true, apart := false, narrowed := true }
def FnExactValJoinUptoSaid : Prop := fnExactValJoinUptoRow.holds Try.pinned (OpenSpec.upto fnExactValJoinSpec)

/-- 'laws.FnExactValWiden', WHERE WHAT IT READS IS OF BULK AT MOST 1048576: true; the input reads as it did. -/
def fnExactValWidenUptoRow : OpenClaim := { program := "ytkapogekghicaaa", sum := "fc718953fa6d36fd27ea153b72f354164da29857063b7bcbe82ff6c16a6e709a", func := "loop.example/g00093/laws.FnExactValWiden", spec := "fnExactValWiden", unfollowed := true, recurses := true, apart := false, narrowed := true }
def FnExactValWidenUptoSaid : Prop := fnExactValWidenUptoRow.holds Try.pinned (OpenSpec.upto fnExactValWidenSpec)

end Rows
end Go.Proofs.Ytkapogekghicaaa
