/-
  No cell of these rows narrows 'for every input' (looked for: loops, veiled, ifaces, maps, wideKeys, modest, calm, conditions, laid).
  DERIVED. THE GIVEN ROWS OF THIS SEAT. 5 by the template 'for every input the law returns true; each argument reads behind the call as it read before'; 0 by the template 'total and deterministic' (their statements: YtihpajiololfoaaGreatTotals.lean).
  GIVEN WITH THE SEED: the statements are not yours to turn. If you find one false, say at which input.
  Laid BY PROGRAM, IN A SANDBOX (cutbox-rows.mjs): the forced cells as the released guide's own fill.sh prints them over the translation da7c37e81b37b23f… (all of the seat's roots in one cut). By AI agents, Wed Nov 11 2026. No macro, syntax, notation, axiom, sorry.
-/
import Derived.Test.YtihpajiololfoaaGreatChecked
import GoSem.Claim
import GoSem.ClaimJoined
import GoSem.ClaimMapViews
import Derived.JoinedTies
import Derived.KernelRfl
namespace Go.Proofs.YtihpajiololfoaaGreat
/- THE CELL 'sum', in the pinned program and in every row, IS THE sha256 OF THE DUMP (.gsa) THAT YtihpajiololfoaaGreatProg.lean LOADS. Nothing in Lean hashes anything: it is a label: what it is worth is what the hold of that sum in a sandbox is worth. -/
noncomputable def Tryz.pinned : Pinned := { name := "ytihpajiololfoaagreat", sum := "da7c37e81b37b23f04b21733161034f2f11df9a431dfbfc689ad780bf895f757", checked := Tryz.checked }
namespace Rows
def none {H : Type} : Left H := { results := [], args := [] }

/-- 'laws.FnExactSegSharpen': WHATEVER THE INPUT: true; the input reads as it did. -/
def fnExactSegSharpenSpec : ChangeSpec := { name := "fnExactSegSharpen", fn := fun _ => fun
  | [d1, d2, d3, d4] => { results := [.lit (.bool true)], args := [d1, d2, d3, d4] }
  | _ => none }
def fnExactSegSharpenRow : OpenClaim := { program := "ytihpajiololfoaagreat", sum := "da7c37e81b37b23f04b21733161034f2f11df9a431dfbfc689ad780bf895f757", func := "loop.example/g00093/laws.FnExactSegSharpen", spec := "fnExactSegSharpen", unfollowed := true, recurses := true, apart := false }
def FnExactSegSharpenSaid : Prop := fnExactSegSharpenRow.holds Tryz.pinned (OpenSpec.ofChange fnExactSegSharpenSpec)

/-- ITS FALSE NEIGHBOUR: 'it returns false'. Refute it at one input. -/
def fnExactSegSharpenWrong : ChangeSpec := { name := "fnExactSegSharpen", fn := fun _ => fun
  | [d1, d2, d3, d4] => { results := [.lit (.bool false)], args := [d1, d2, d3, d4] }
  | _ => none }
def FnExactSegSharpenWrongFalsely : Prop := fnExactSegSharpenRow.holds Tryz.pinned (OpenSpec.ofChange fnExactSegSharpenWrong)

/-- 'laws.FnExactSegSpan': WHATEVER THE INPUT: true; the input reads as it did. -/
def fnExactSegSpanSpec : ChangeSpec := { name := "fnExactSegSpan", fn := fun _ => fun
  | [d1, d2, d3, d4, d5, d6] => { results := [.lit (.bool true)], args := [d1, d2, d3, d4, d5, d6] }
  | _ => none }
def fnExactSegSpanRow : OpenClaim := { program := "ytihpajiololfoaagreat", sum := "da7c37e81b37b23f04b21733161034f2f11df9a431dfbfc689ad780bf895f757", func := "loop.example/g00093/laws.FnExactSegSpan", spec := "fnExactSegSpan", unfollowed := true, recurses := true, apart := false }
def FnExactSegSpanSaid : Prop := fnExactSegSpanRow.holds Tryz.pinned (OpenSpec.ofChange fnExactSegSpanSpec)

/-- ITS FALSE NEIGHBOUR: 'it returns false'. Refute it at one input. -/
def fnExactSegSpanWrong : ChangeSpec := { name := "fnExactSegSpan", fn := fun _ => fun
  | [d1, d2, d3, d4, d5, d6] => { results := [.lit (.bool false)], args := [d1, d2, d3, d4, d5, d6] }
  | _ => none }
def FnExactSegSpanWrongFalsely : Prop := fnExactSegSpanRow.holds Tryz.pinned (OpenSpec.ofChange fnExactSegSpanWrong)

/-- 'laws.FnExactSegRead': WHATEVER THE INPUT: true; the input reads as it did. -/
def fnExactSegReadSpec : ChangeSpec := { name := "fnExactSegRead", fn := fun _ => fun
  | [d1, d2, d3, d4, d5, d6] => { results := [.lit (.bool true)], args := [d1, d2, d3, d4, d5, d6] }
  | _ => none }
def fnExactSegReadRow : OpenClaim := { program := "ytihpajiololfoaagreat", sum := "da7c37e81b37b23f04b21733161034f2f11df9a431dfbfc689ad780bf895f757", func := "loop.example/g00093/laws.FnExactSegRead", spec := "fnExactSegRead", unfollowed := true, recurses := true, apart := false }
def FnExactSegReadSaid : Prop := fnExactSegReadRow.holds Tryz.pinned (OpenSpec.ofChange fnExactSegReadSpec)

/-- ITS FALSE NEIGHBOUR: 'it returns false'. Refute it at one input. -/
def fnExactSegReadWrong : ChangeSpec := { name := "fnExactSegRead", fn := fun _ => fun
  | [d1, d2, d3, d4, d5, d6] => { results := [.lit (.bool false)], args := [d1, d2, d3, d4, d5, d6] }
  | _ => none }
def FnExactSegReadWrongFalsely : Prop := fnExactSegReadRow.holds Tryz.pinned (OpenSpec.ofChange fnExactSegReadWrong)

/-- 'laws.FnExactSegWrite': WHATEVER THE INPUT: true; the input reads as it did. -/
def fnExactSegWriteSpec : ChangeSpec := { name := "fnExactSegWrite", fn := fun _ => fun
  | [d1, d2, d3, d4, d5, d6] => { results := [.lit (.bool true)], args := [d1, d2, d3, d4, d5, d6] }
  | _ => none }
def fnExactSegWriteRow : OpenClaim := { program := "ytihpajiololfoaagreat", sum := "da7c37e81b37b23f04b21733161034f2f11df9a431dfbfc689ad780bf895f757", func := "loop.example/g00093/laws.FnExactSegWrite", spec := "fnExactSegWrite", unfollowed := true, recurses := true, apart := false }
def FnExactSegWriteSaid : Prop := fnExactSegWriteRow.holds Tryz.pinned (OpenSpec.ofChange fnExactSegWriteSpec)

/-- ITS FALSE NEIGHBOUR: 'it returns false'. Refute it at one input. -/
def fnExactSegWriteWrong : ChangeSpec := { name := "fnExactSegWrite", fn := fun _ => fun
  | [d1, d2, d3, d4, d5, d6] => { results := [.lit (.bool false)], args := [d1, d2, d3, d4, d5, d6] }
  | _ => none }
def FnExactSegWriteWrongFalsely : Prop := fnExactSegWriteRow.holds Tryz.pinned (OpenSpec.ofChange fnExactSegWriteWrong)

/-- 'laws.FnExactSegWeak': WHATEVER THE INPUT: true; the input reads as it did. -/
def fnExactSegWeakSpec : ChangeSpec := { name := "fnExactSegWeak", fn := fun _ => fun
  | [d1, d2, d3, d4, d5, d6, d7] => { results := [.lit (.bool true)], args := [d1, d2, d3, d4, d5, d6, d7] }
  | _ => none }
def fnExactSegWeakRow : OpenClaim := { program := "ytihpajiololfoaagreat", sum := "da7c37e81b37b23f04b21733161034f2f11df9a431dfbfc689ad780bf895f757", func := "loop.example/g00093/laws.FnExactSegWeak", spec := "fnExactSegWeak", unfollowed := true, recurses := true, apart := false }
def FnExactSegWeakSaid : Prop := fnExactSegWeakRow.holds Tryz.pinned (OpenSpec.ofChange fnExactSegWeakSpec)

/-- ITS FALSE NEIGHBOUR: 'it returns false'. Refute it at one input. -/
def fnExactSegWeakWrong : ChangeSpec := { name := "fnExactSegWeak", fn := fun _ => fun
  | [d1, d2, d3, d4, d5, d6, d7] => { results := [.lit (.bool false)], args := [d1, d2, d3, d4, d5, d6, d7] }
  | _ => none }
def FnExactSegWeakWrongFalsely : Prop := fnExactSegWeakRow.holds Tryz.pinned (OpenSpec.ofChange fnExactSegWeakWrong)

/- THE SECOND FORM. 'bulk': how many values and letters a reading holds, each counted each time it is reached (what is shared counts as often as it is met; a slice's spare places count too). A statement '..UptoSaid' is the law's where the arguments, and the package variables that the reading takes, are together of bulk at most 1048576: NARROWER than '..Said'. Prove '..Said' where nothing that the law and all that it calls make is longer than what came in: it says more and counts as full. Else prove '..UptoSaid'. A law counts once. -/
mutual
def uptoBulk {H : Type} : DataW H → Nat
  | .lit (.string bytes) => bytes.length + 1
  | .lit _ => 1
  | .nil => 1
  | .ptr d => uptoBulk d + 1
  | .slice elems spare => uptoBulkAll elems + uptoBulkAll spare + 1
  | .agg parts => uptoBulkAll parts + 1
  | .iface _ d => uptoBulk d + 1
  | .map entries => uptoBulkEntries entries + 1
  | .held _ => 1
def uptoBulkAll {H : Type} : List (DataW H) → Nat
  | [] => 0
  | d :: r => uptoBulk d + uptoBulkAll r
def uptoBulkEntries {H : Type} : List (Lit × DataW H) → Nat
  | [] => 0
  | x :: r => uptoBulkEntry x + uptoBulkEntries r
def uptoBulkEntry {H : Type} : Lit × DataW H → Nat
  | (.string bytes, d) => bytes.length + uptoBulk d + 1
  | (_, d) => uptoBulk d + 1
 end
def uptoSmall : (H : Type) → List (DataW H) → Bool := fun _ ds => decide (uptoBulkAll ds ≤ 1048576)
def OpenSpec.upto (s : _root_.Go.ChangeSpec) : _root_.Go.OpenSpec := { _root_.Go.OpenSpec.ofChange s with cond := some uptoSmall }

/-- 'laws.FnExactSegSharpen', WHERE WHAT IT READS IS OF BULK AT MOST 1048576: true; the input reads as it did. -/
def fnExactSegSharpenUptoRow : OpenClaim := { program := "ytihpajiololfoaagreat", sum := "da7c37e81b37b23f04b21733161034f2f11df9a431dfbfc689ad780bf895f757", func := "loop.example/g00093/laws.FnExactSegSharpen", spec := "fnExactSegSharpen", unfollowed := true, recurses := true, apart := false, narrowed := true }
def FnExactSegSharpenUptoSaid : Prop := fnExactSegSharpenUptoRow.holds Tryz.pinned (OpenSpec.upto fnExactSegSharpenSpec)

/-- 'laws.FnExactSegSpan', WHERE WHAT IT READS IS OF BULK AT MOST 1048576: true; the input reads as it did. -/
def fnExactSegSpanUptoRow : OpenClaim := { program := "ytihpajiololfoaagreat", sum := "da7c37e81b37b23f04b21733161034f2f11df9a431dfbfc689ad780bf895f757", func := "loop.example/g00093/laws.FnExactSegSpan", spec := "fnExactSegSpan", unfollowed := true, recurses := true, apart := false, narrowed := true }
def FnExactSegSpanUptoSaid : Prop := fnExactSegSpanUptoRow.holds Tryz.pinned (OpenSpec.upto fnExactSegSpanSpec)

/-- 'laws.FnExactSegRead', WHERE WHAT IT READS IS OF BULK AT MOST 1048576: true; the input reads as it did. -/
def fnExactSegReadUptoRow : OpenClaim := { program := "ytihpajiololfoaagreat", sum := "da7c37e81b37b23f04b21733161034f2f11df9a431dfbfc689ad780bf895f757", func := "loop.example/g00093/laws.FnExactSegRead", spec := "fnExactSegRead", unfollowed := true, recurses := true, apart := false, narrowed := true }
def FnExactSegReadUptoSaid : Prop := fnExactSegReadUptoRow.holds Tryz.pinned (OpenSpec.upto fnExactSegReadSpec)

/-- 'laws.FnExactSegWrite', WHERE WHAT IT READS IS OF BULK AT MOST 1048576: true; the input reads as it did. -/
def fnExactSegWriteUptoRow : OpenClaim := { program := "ytihpajiololfoaagreat", sum := "da7c37e81b37b23f04b21733161034f2f11df9a431dfbfc689ad780bf895f757", func := "loop.example/g00093/laws.FnExactSegWrite", spec := "fnExactSegWrite", unfollowed := true, recurses := true, apart := false, narrowed := true }
def FnExactSegWriteUptoSaid : Prop := fnExactSegWriteUptoRow.holds Tryz.pinned (OpenSpec.upto fnExactSegWriteSpec)

/-- 'laws.FnExactSegWeak', WHERE WHAT IT READS IS OF BULK AT MOST 1048576: true; the input reads as it did. -/
def fnExactSegWeakUptoRow : OpenClaim := { program := "ytihpajiololfoaagreat", sum := "da7c37e81b37b23f04b21733161034f2f11df9a431dfbfc689ad780bf895f757", func := "loop.example/g00093/laws.FnExactSegWeak", spec := "fnExactSegWeak", unfollowed := true, recurses := true, apart := false, narrowed := true }
def FnExactSegWeakUptoSaid : Prop := fnExactSegWeakUptoRow.holds Tryz.pinned (OpenSpec.upto fnExactSegWeakSpec)

end Rows
end Go.Proofs.YtihpajiololfoaaGreat
