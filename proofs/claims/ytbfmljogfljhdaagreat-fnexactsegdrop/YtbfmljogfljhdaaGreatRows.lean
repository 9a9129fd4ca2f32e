/-
  No cell of these rows narrows 'for every input' (looked for: loops, veiled, ifaces, maps, wideKeys, modest, calm, conditions, laid).
  DERIVED. THE GIVEN ROWS OF THIS SEAT. 3 by the template 'for every input the law returns true; each argument reads behind the call as it read before'; 0 by the template 'total and deterministic' (their statements: YtbfmljogfljhdaaGreatTotals.lean).
  GIVEN WITH THE SEED: the statements are not yours to turn. If you find one false, say at which input.
  Laid BY PROGRAM, IN A SANDBOX (cutbox-rows.mjs): the forced cells as the released guide's own fill.sh prints them over the translation 830e8332626ffe87… (all of the seat's roots in one cut). By AI agents, Wed Nov 11 2026. No macro, syntax, notation, axiom, sorry.
-/
import Derived.Test.YtbfmljogfljhdaaGreatChecked
import GoSem.Claim
import GoSem.ClaimJoined
import GoSem.ClaimMapViews
import Derived.JoinedTies
import Derived.KernelRfl
namespace Go.Proofs.YtbfmljogfljhdaaGreat
/- THE CELL 'sum', in the pinned program and in every row, IS THE sha256 OF THE DUMP (.gsa) THAT YtbfmljogfljhdaaGreatProg.lean LOADS. Nothing in Lean hashes anything: it is a label: what it is worth is what the hold of that sum in a sandbox is worth. -/
noncomputable def Tryz.pinned : Pinned := { name := "ytbfmljogfljhdaagreat", sum := "830e8332626ffe8712667fbad4e1db531f2b12f62114ffa644c5f091b4385005", checked := Tryz.checked }
namespace Rows
def none {H : Type} : Left H := { results := [], args := [] }

/-- 'laws.FnSegDropped': WHATEVER THE INPUT: true; the input reads as it did. -/
def fnSegDroppedSpec : ChangeSpec := { name := "fnSegDropped", fn := fun _ => fun
  | [d1, d2] => { results := [.lit (.bool true)], args := [d1, d2] }
  | _ => none }
def fnSegDroppedRow : OpenClaim := { program := "ytbfmljogfljhdaagreat", sum := "830e8332626ffe8712667fbad4e1db531f2b12f62114ffa644c5f091b4385005", func := "loop.example/g00093/laws.FnSegDropped", spec := "fnSegDropped", unfollowed := true, recurses := true, apart := false }
def FnSegDroppedSaid : Prop := fnSegDroppedRow.holds Tryz.pinned (OpenSpec.ofChange fnSegDroppedSpec)

/-- ITS FALSE NEIGHBOUR: 'it returns false'. Refute it at one input. -/
def fnSegDroppedWrong : ChangeSpec := { name := "fnSegDropped", fn := fun _ => fun
  | [d1, d2] => { results := [.lit (.bool false)], args := [d1, d2] }
  | _ => none }
def FnSegDroppedWrongFalsely : Prop := fnSegDroppedRow.holds Tryz.pinned (OpenSpec.ofChange fnSegDroppedWrong)

/-- 'laws.FnExactSegHas': WHATEVER THE INPUT: true; the input reads as it did. -/
def fnExactSegHasSpec : ChangeSpec := { name := "fnExactSegHas", fn := fun _ => fun
  | [d1, d2, d3, d4, d5] => { results := [.lit (.bool true)], args := [d1, d2, d3, d4, d5] }
  | _ => none }
def fnExactSegHasRow : OpenClaim := { program := "ytbfmljogfljhdaagreat", sum := "830e8332626ffe8712667fbad4e1db531f2b12f62114ffa644c5f091b4385005", func := "loop.example/g00093/laws.FnExactSegHas", spec := "fnExactSegHas", unfollowed := true, recurses := true, apart := false }
def FnExactSegHasSaid : Prop := fnExactSegHasRow.holds Tryz.pinned (OpenSpec.ofChange fnExactSegHasSpec)

/-- ITS FALSE NEIGHBOUR: 'it returns false'. Refute it at one input. -/
def fnExactSegHasWrong : ChangeSpec := { name := "fnExactSegHas", fn := fun _ => fun
  | [d1, d2, d3, d4, d5] => { results := [.lit (.bool false)], args := [d1, d2, d3, d4, d5] }
  | _ => none }
def FnExactSegHasWrongFalsely : Prop := fnExactSegHasRow.holds Tryz.pinned (OpenSpec.ofChange fnExactSegHasWrong)

/-- 'laws.FnExactSegDrop': WHATEVER THE INPUT: true; the input reads as it did. -/
def fnExactSegDropSpec : ChangeSpec := { name := "fnExactSegDrop", fn := fun _ => fun
  | [d1, d2, d3, d4] => { results := [.lit (.bool true)], args := [d1, d2, d3, d4] }
  | _ => none }
def fnExactSegDropRow : OpenClaim := { program := "ytbfmljogfljhdaagreat", sum := "830e8332626ffe8712667fbad4e1db531f2b12f62114ffa644c5f091b4385005", func := "loop.example/g00093/laws.FnExactSegDrop", spec := "fnExactSegDrop", unfollowed := true, recurses := true, apart := false }
def FnExactSegDropSaid : Prop := fnExactSegDropRow.holds Tryz.pinned (OpenSpec.ofChange fnExactSegDropSpec)

/-- ITS FALSE NEIGHBOUR: 'it returns false'. Refute it at one input. -/
def fnExactSegDropWrong : ChangeSpec := { name := "fnExactSegDrop", fn := fun _ => fun
  | [d1, d2, d3, d4] => { results := [.lit (.bool false)], args := [d1, d2, d3, d4] }
  | _ => none }
def FnExactSegDropWrongFalsely : Prop := fnExactSegDropRow.holds Tryz.pinned (OpenSpec.ofChange fnExactSegDropWrong)

/- THE SECOND FORM. 'bulk': how many values and letters a reading holds, each counted each time it is reached (what is shared counts as often as it is met; a slice's spare places count too). A statement '..UptoSaid' is the law's where the arguments, and the package variables that the reading takes, are together of bulk at most 1048576: NARROWER than '..Said'. Prove '..Said' where nothing that the law and all that it calls make is longer than what came in: it says more and counts as full. Else prove '..UptoSaid'. A law counts once. -/
mutual
def uptoBulk {H : Type} : DataW H → Nat
  | .lit (.string bytes) => bytes.length + 1
  | .lit _ => 1
  | .nil => 1
  | .ptr d => uptoBulk d + 1
  | .slice elems spare => uptoBulkAll elems + uptoBulkAll spare + 1
  | .agg parts => uptoBulkAll parts + 1
  | .iface _ d => uptoBulk d + 1
  | .map entries => uptoBulkEntries entries + 1
  | .held _ => 1
def uptoBulkAll {H : Type} : List (DataW H) → Nat
  | [] => 0
  | d :: r => uptoBulk d + uptoBulkAll r
def uptoBulkEntries {H : Type} : List (Lit × DataW H) → Nat
  | [] => 0
  | x :: r => uptoBulkEntry x + uptoBulkEntries r
def uptoBulkEntry {H : Type} : Lit × DataW H → Nat
  | (.string bytes, d) => bytes.length + uptoBulk d + 1
  | (_, d) => uptoBulk d + 1
 end
def uptoSmall : (H : Type) → List (DataW H) → Bool := fun _ ds => decide (uptoBulkAll ds ≤ 1048576)
def OpenSpec.upto (s : _root_.Go.ChangeSpec) : _root_.Go.OpenSpec := { _root_.Go.OpenSpec.ofChange s with cond := some uptoSmall }

/-- 'laws.FnSegDropped', WHERE WHAT IT READS IS OF BULK AT MOST 1048576: true; the input reads as it did. -/
def fnSegDroppedUptoRow : OpenClaim := { program := "ytbfmljogfljhdaagreat", sum := "830e8332626ffe8712667fbad4e1db531f2b12f62114ffa644c5f091b4385005", func := "loop.example/g00093/laws.FnSegDropped", spec := "fnSegDropped", unfollowed := true, recurses := true, apart := false, narrowed := true }
def FnSegDroppedUptoSaid : Prop := fnSegDroppedUptoRow.holds Tryz.pinned (OpenSpec.upto fnSegDroppedSpec)

/-- 'laws.FnExactSegHas', WHERE WHAT IT READS IS OF BULK AT MOST 1048576: true; the input reads as it did. -/
def fnExactSegHasUptoRow : OpenClaim := { program := "ytbfmljogfljhdaagreat", sum := "830e8332626ffe8712667fbad4e1db531f2b12f62114ffa644c5f091b4385005", func := "loop.example/g00093/laws.FnExactSegHas", spec := "fnExactSegHas", unfollowed := true, recurses := true, apart := false, narrowed := true }
def FnExactSegHasUptoSaid : Prop := fnExactSegHasUptoRow.holds Tryz.pinned (OpenSpec.upto fnExactSegHasSpec)

/-- 'laws.FnExactSegDrop', WHERE WHAT IT READS IS OF BULK AT MOST 1048576: true; the input reads as it did. -/
def fnExactSegDropUptoRow : OpenClaim := { program := "ytbfmljogfljhdaagreat", sum := "830e8332626ffe8712667fbad4e1db531f2b12f62114ffa644c5f091b4385005", func := "loop.example/g00093/laws.FnExactSegDrop", spec := "fnExactSegDrop", unfollowed := true, recurses := true, apart := false, narrowed := true }
def FnExactSegDropUptoSaid : Prop := fnExactSegDropUptoRow.holds Tryz.pinned (OpenSpec.upto fnExactSegDropSpec)

end Rows
end Go.Proofs.YtbfmljogfljhdaaGreat
