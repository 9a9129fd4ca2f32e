/-
  CONTRACTS of the program's kindOf and WordOk.
-/
import Derived.Test.YthfiblldccnjcaaDoorWImpl
namespace Go.Proofs.YthfiblldccnjcaaDoor.Wd
open Go.RowKit
open Pl

theorem bcell {W w1 : World} (hb : Below W.heap.size W w1) : (∀ b o, b < W.heap.size → w1.cell? ⟨b, o, none⟩ = W.cell? ⟨b, o, none⟩) ∧ (∀ b o, b < W.heap.size → w1.frozen? ⟨b, o, none⟩ = W.frozen? ⟨b, o, none⟩) :=
  ⟨fun b o h => hb.cell (p := ⟨b, o, none⟩) h, fun b o h => hb.frozen (p := ⟨b, o, none⟩) h⟩
theorem below_step {w w1 w2 : World} (h1 : Below w.heap.size w w1) (h2 : Below w1.heap.size w1 w2) : Below w.heap.size w w2 := h1.trans (h2.mono h1.size)

/-- Whether a word can be one of some text. -/
def wordB (k : Int) (s : ByteArray) (a : Int) : Bool := decide (kindI s ≠ 0) && decide (kindI s = k) && atB a

end Go.Proofs.YthfiblldccnjcaaDoor.Wd
