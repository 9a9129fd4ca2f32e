/-
  WHAT A CALL LEAVES AS IT WAS, as rules for the walk.
-/
import Derived.Test.YtgkmpadeleebdaaDoorQSp
namespace Go.Proofs.YtgkmpadeleebdaaDoor.Q
open Go.RowKit

theorem bcell4 {W w1 : World} (hb : Below W.heap.size W w1) : (∀ b o, b < W.heap.size → w1.cell? ⟨b, o, none⟩ = W.cell? ⟨b, o, none⟩) ∧ (∀ b o, b < W.heap.size → w1.frozen? ⟨b, o, none⟩ = W.frozen? ⟨b, o, none⟩) ∧ (∀ b, b < W.heap.size → b < w1.heap.size) ∧ (∀ b, b ≤ W.heap.size → b ≤ w1.heap.size) :=
  ⟨fun b o h => hb.cell (p := ⟨b, o, none⟩) h, fun b o h => hb.frozen (p := ⟨b, o, none⟩) h, fun _ h => Nat.lt_of_lt_of_le h hb.size, fun _ h => Nat.le_trans h hb.size⟩
theorem nlt2 (n : Nat) : n < n + 1 + 1 := by omega
theorem nlt3 (n : Nat) : n < n + 1 + 1 + 1 := by omega
theorem nlt4 (n : Nat) : n < n + 1 + 1 + 1 + 1 := by omega
theorem nle2 (n : Nat) : n ≤ n + 1 + 1 := by omega
theorem nle3 (n : Nat) : n ≤ n + 1 + 1 + 1 := by omega
theorem nle4 (n : Nat) : n ≤ n + 1 + 1 + 1 + 1 := by omega
theorem drew_size (w : World) : w.drew.heap.size = w.heap.size := rfl
theorem bdrew {W w1 : World} (h : Below W.drew.heap.size W.drew w1) : Below W.heap.size W w1 := ⟨h.os, h.tape, h.output, h.size, h.block⟩
theorem below_drew (W w1 : World) : Below W.drew.heap.size W.drew w1 = Below W.heap.size W w1 := propext ⟨bdrew, fun h => ⟨h.os, h.tape, h.output, h.size, h.block⟩⟩
theorem drew_cell (w : World) (a : Addr) : w.drew.cell? a = w.cell? a := rfl
theorem drew_frozen (w : World) (a : Addr) : w.drew.frozen? a = w.frozen? a := rfl
/-- Two numbers in a block that may be written. -/
def Box (v : World) (b : Nat) (x y : Int) : Prop := v.cell? ⟨b, 0, none⟩ = some (.int .i64 x) ∧ v.cell? ⟨b, 1, none⟩ = some (.int .i64 y) ∧ v.frozen? ⟨b, 0, none⟩ = false ∧ v.frozen? ⟨b, 1, none⟩ = false
theorem Box.below {v v' : World} {b : Nat} {x y : Int} (h : Box v b x y) (hb : Below v.heap.size v v') : Box v' b x y := by
  obtain ⟨h0, h1, h2, h3⟩ := h
  have hlt := World.block_lt_of_cell? v _ h0
  exact ⟨(hb.cell (p := ⟨b, 0, none⟩) hlt).trans h0, (hb.cell (p := ⟨b, 1, none⟩) hlt).trans h1, (hb.frozen (p := ⟨b, 0, none⟩) hlt).trans h2, (hb.frozen (p := ⟨b, 1, none⟩) hlt).trans h3⟩
theorem Box.lt {v : World} {b : Nat} {x y : Int} (h : Box v b x y) : b < v.heap.size := World.block_lt_of_cell? v _ h.1
end Go.Proofs.YtgkmpadeleebdaaDoor.Q
