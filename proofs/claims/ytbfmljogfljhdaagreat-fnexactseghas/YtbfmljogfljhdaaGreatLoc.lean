/-
  The arguments of the law of SegHas, laid open: []int, []Cell.
-/
import Derived.Test.YtbfmljogfljhdaaGreatLo
import Derived.Test.YtbfmljogfljhdaaGreatHa
namespace Go.Proofs.YtbfmljogfljhdaaGreat
open Go.ChangeShapes Go.WideShapes Go.ChangeAt Go.RowKit Go.Joins
theorem Tryz.cells110 : Tryz.prog.cellsOf 110 = 2 := by kernel_rfl
section
variable {H : Type} {enc : TypeId × Value → H} {W : World}
theorem open_int1 {n : Nat} {cs : List Value} {x : DataW H × List MemPlace} (h : DataW.trod enc Tryz.prog W 0 (fun _ => true) true n 3 cs = some x) (hl : cs.length = 1) : ∃ y : Int, cs = eI.enc y := by
  obtain ⟨s, e, _⟩ := DataW.trod_int Tryz.underlying3 h
  match cs, hl with
  | [c], _ => simp at e; subst e; exact ⟨s, rfl⟩
set_option maxRecDepth 100000 in
theorem open_cell2 {n : Nat} {cs : List Value} {x : DataW H × List MemPlace} (h : DataW.trod enc Tryz.prog W 0 (fun _ => true) true n 110 cs = some x) : ∃ y : CC, cs = eC.enc y := by
  obtain ⟨y0, y1, m, _, hlen, h0, h1⟩ := trod_struct2 Tryz.underlying110 h
  rw [Tryz.cells110] at hlen
  match cs, hlen with
  | [c0, c1], _ =>
    simp [Tryz.cells3, Tryz.cells4] at h0 h1
    obtain ⟨a, e0, _⟩ := DataW.trod_bool Tryz.underlying4 h0
    obtain ⟨b, e1, _, _⟩ := DataW.trod_int Tryz.underlying3 h1
    simp at e0 e1
    subst e0 e1
    exact ⟨(a, b), rfl⟩
theorem open_ints' {a : Option Addr} {len cap : Nat} {x : DataW H} {p : List MemPlace} (h : DataW.Trod enc Tryz.prog W 0 (fun _ => true) true 29 (.slice a len cap) x p) : ∃ l : List Int, len = l.length ∧ l.length ≤ maxLen ∧ At eI W a l := by
  obtain ⟨fuel, hf⟩ := h
  exact open_row eI Tryz.underlying29 Tryz.cells3 (fun h hl => open_int1 h hl) hf
instance : Inhabited CC := ⟨(false, 0)⟩
theorem open_cellS {a : Option Addr} {len cap : Nat} {x : DataW H} {p : List MemPlace} (h : DataW.Trod enc Tryz.prog W 0 (fun _ => true) true 48 (.slice a len cap) x p) : ∃ l : List CC, len = l.length ∧ l.length ≤ maxLen ∧ At eC W a l := by
  obtain ⟨fuel, hf⟩ := h
  exact open_row eC Tryz.underlying48 Tryz.cells110 (fun h _ => open_cell2 h) hf
end
end Go.Proofs.YtbfmljogfljhdaaGreat
