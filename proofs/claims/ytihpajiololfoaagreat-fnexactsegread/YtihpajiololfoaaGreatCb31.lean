/-
  CONTRACTS of slices.BinarySearchFunc over terms and of orderedSet.has.
  CONTRACT of orderedSet.has over terms.
  CONTRACT of orderedSet.without over terms.
  CONTRACTS of slices.Clone over terms and of orderedSet.isEmpty.
  CONTRACT of the specification's l10Without.
  CONTRACTS of the program's areVals, areSymVals, isWideSym, SymVal at numbers that are as they should be.
  A ROW AS A LIST OF LINKS IN MEMORY; CONTRACTS of the program's number, isOneNumber.
  CONTRACT of the program's (*link).has.
  CONTRACT of the program's rowOf: a Seg as links.
  PURE: the program's dropping over a row of links against the specification's tidying.
-/
import Derived.Test.YtihpajiololfoaaGreatCb13
import Derived.Test.YtihpajiololfoaaGreatCb15
import Derived.Test.YtihpajiololfoaaGreatCb14
import Derived.Test.YtihpajiololfoaaGreatCb29
import Derived.Laws.EntriesVeiled
import Derived.Test.YtihpajiololfoaaGreatCb16
import Derived.Test.YtihpajiololfoaaGreatCb30
namespace Go.Proofs.YtihpajiololfoaaGreat
open Go.RowKit

end Go.Proofs.YtihpajiololfoaaGreat
namespace Go.Proofs.YtihpajiololfoaaGreat
open Go.RowKit

end Go.Proofs.YtihpajiololfoaaGreat
namespace Go.Proofs.YtihpajiololfoaaGreat
open Go.RowKit

theorem two_new (w : World) (a b : Value) (T : TypeId) (j : Nat) (u : Value) (h : [a, b][j]? = some u) : (w.alloc (.cells #[a, b] T)).cell? ((⟨w.heap.size, 0, none⟩ : Addr).add j) = some u := by
 rw [WideShapes.add_plain, Nat.zero_add, World.cell?_alloc_new]
 simpa using h
/-- The boxes of without: the others, the answer's, what is left. -/
structure WoAt (v : World) (X : Nat) (am : Option Addr) (k cm : Nat) (s : Value) : Prop where
 sz : X + 4 ≤ v.heap.size
 o0 : v.cell? ⟨X + 1, 0, none⟩ = some (.slice am k cm)
 o1 : v.cell? ⟨X + 1, 1, none⟩ = some (.func (.func 132) #[] #[])
 r0 : v.cell? ⟨X + 1 + 1, 0, none⟩ = some (.slice none 0 0)
 r1 : v.cell? ⟨X + 1 + 1, 1, none⟩ = some .nilFunc
 f0 : v.frozen? ⟨X + 1 + 1, 0, none⟩ = false
 f1 : v.frozen? ⟨X + 1 + 1, 1, none⟩ = false
 l0 : v.cell? ⟨X + 1 + 1 + 1, 0, none⟩ = some s
 l1 : v.cell? ⟨X + 1 + 1 + 1, 1, none⟩ = some (.func (.func 132) #[] #[])
 g0 : v.frozen? ⟨X + 1 + 1 + 1, 0, none⟩ = false
 g1 : v.frozen? ⟨X + 1 + 1 + 1, 1, none⟩ = false
theorem WoAt.keep {v v' : World} {X : Nat} {am : Option Addr} {k cm : Nat} {s : Value} (h : WoAt v X am k cm s) (hz : v.heap.size ≤ v'.heap.size) (hb : ∀ q, q < X + 4 → v'.heap[q]? = v.heap[q]?) : WoAt v' X am k cm s := by
 have e1 := hb (X + 1) (by omega)
 have e2 := hb (X + 1 + 1) (by omega)
 have e3 := hb (X + 1 + 1 + 1) (by omega)
 exact ⟨Nat.le_trans h.sz hz, (World.cell?_of_block (a := ⟨X + 1, 0, none⟩) e1).trans h.o0, (World.cell?_of_block (a := ⟨X + 1, 1, none⟩) e1).trans h.o1,
  (World.cell?_of_block (a := ⟨X + 1 + 1, 0, none⟩) e2).trans h.r0, (World.cell?_of_block (a := ⟨X + 1 + 1, 1, none⟩) e2).trans h.r1, (World.frozen?_of_block (a := ⟨X + 1 + 1, 0, none⟩) e2).trans h.f0, (World.frozen?_of_block (a := ⟨X + 1 + 1, 1, none⟩) e2).trans h.f1,
  (World.cell?_of_block (a := ⟨X + 1 + 1 + 1, 0, none⟩) e3).trans h.l0, (World.cell?_of_block (a := ⟨X + 1 + 1 + 1, 1, none⟩) e3).trans h.l1, (World.frozen?_of_block (a := ⟨X + 1 + 1 + 1, 0, none⟩) e3).trans h.g0, (World.frozen?_of_block (a := ⟨X + 1 + 1 + 1, 1, none⟩) e3).trans h.g1⟩
theorem WoAt.below {v v' : World} {X : Nat} {am : Option Addr} {k cm : Nat} {s : Value} (h : WoAt v X am k cm s) (hb : Below v.heap.size v v') : WoAt v' X am k cm s := h.keep hb.size fun q hq => hb.block q (by have := h.sz; omega)
theorem WoAt.put {v : World} {X : Nat} {am : Option Addr} {k cm : Nat} {s : Value} (h : WoAt v X am k cm s) (s' : Value) : WoAt (v.setCell ⟨X + 1 + 1 + 1, 0, none⟩ s') X am k cm s' := by
 obtain ⟨h0, h1, h2, h3, h4, h5, h6, h7, h8, h9, h10⟩ := h
 refine ⟨by simpa [go_sem] using h0, ?_, ?_, ?_, ?_, ?_, ?_, ?_, ?_, ?_, ?_⟩
 all_goals simp [go_sem, *]
end Go.Proofs.YtihpajiololfoaaGreat
namespace Go.Proofs.YtihpajiololfoaaGreat
open Go.RowKit

end Go.Proofs.YtihpajiololfoaaGreat
namespace Go.Proofs.YtihpajiololfoaaGreat
open Go.RowKit

end Go.Proofs.YtihpajiololfoaaGreat
namespace Go.Proofs.YtihpajiololfoaaGreat
open Go.RowKit

theorem isGap_any (c : Int) (w : World) : Calls Tryz.prog 130 #[.int .i64 c] w fun e w' => e = .returned (.bool (btw c (-2000000) 2000000)) ∧ w = w' := by
 go_enter Tryz.func130, Tryz.ntmps130
 go_wp2_with (go_at_call 129; refine (isBetween_any _ _ _ _).mono ?_; rintro e w' ⟨rfl, rfl⟩)
 go_ret
 exact ⟨rfl, rfl⟩
end Go.Proofs.YtihpajiololfoaaGreat
namespace Go.Proofs.YtihpajiololfoaaGreat
open Go.RowKit

structure Lk where
 b : List Y
 v : VV
 m : Bool
/-- A link lies in a block of its own; the next one is p. -/
structure LinkAt (w : World) (X : Nat) (k : Lk) (p : Option Addr) : Prop where
 mem : ∃ ao cap, w.cell? ⟨X, 0, none⟩ = some (.slice ao k.b.length cap) ∧ At eY w ao k.b
 f : w.cell? ⟨X, 1, none⟩ = some (.func (.func 132) #[] #[])
 v0 : w.cell? ⟨X, 2, none⟩ = some (.int .i64 k.v.1)
 v1 : w.cell? ⟨X, 3, none⟩ = some (.int .i64 k.v.2.1)
 v2 : w.cell? ⟨X, 4, none⟩ = some (.bool k.v.2.2)
 m : w.cell? ⟨X, 5, none⟩ = some (.bool k.m)
 nx : w.cell? ⟨X, 6, none⟩ = some (.pointer p)
theorem LinkAt.lt {w : World} {X : Nat} {k : Lk} {p : Option Addr} (h : LinkAt w X k p) : X < w.heap.size := World.block_lt_of_cell? w _ h.f
theorem LinkAt.below {w w' : World} {X : Nat} {k : Lk} {p : Option Addr} (h : LinkAt w X k p) (hb : Below w.heap.size w w') : LinkAt w' X k p := by
 obtain ⟨hc, _⟩ := bcell hb
 have hl := h.lt
 obtain ⟨ao, cap, h1, h2⟩ := h.mem
 exact ⟨⟨ao, cap, (hc _ _ hl).trans h1, h2.below hb⟩, (hc _ _ hl).trans h.f, (hc _ _ hl).trans h.v0, (hc _ _ hl).trans h.v1, (hc _ _ hl).trans h.v2, (hc _ _ hl).trans h.m, (hc _ _ hl).trans h.nx⟩
/-- A row: link behind link. -/
def Chain (w : World) : Nat → List Lk → Prop
 | _, [] => False
 | X, [k] => LinkAt w X k none
 | X, k :: k' :: r => ∃ X', LinkAt w X k (some ⟨X', 0, none⟩) ∧ Chain w X' (k' :: r)
theorem Chain.below {w w' : World} (hb : Below w.heap.size w w') : ∀ {ks : List Lk} {X : Nat}, Chain w X ks → Chain w' X ks
 | [], _, h => h
 | [_], _, h => LinkAt.below h hb
 | _ :: _ :: _, _, ⟨X', h1, h2⟩ => ⟨X', h1.below hb, Chain.below hb h2⟩
end Go.Proofs.YtihpajiololfoaaGreat
namespace Go.Proofs.YtihpajiololfoaaGreat
open Go.RowKit

theorem At.drop {α : Type} {E : El α} {w : World} {b o d : Nat} {cs : List α} (h : At E w (some ⟨b, o, none⟩) cs) : At E w (some ⟨b, o + d * E.k, none⟩) (cs.drop d) := by
 rcases h with rfl | ⟨b', o', e, h⟩
 ·exact .inl (by simp)
 ·cases e
  refine .inr ⟨b, o + d * E.k, rfl, fun i x hx j v hv => ?_⟩
  rw [List.getElem?_drop] at hx
  have := h (d + i) x hx j v hv
  rw [Nat.add_mul, ← Nat.add_assoc] at this
  exact this
end Go.Proofs.YtihpajiololfoaaGreat
namespace Go.Proofs.YtihpajiololfoaaGreat
open Go.RowKit

end Go.Proofs.YtihpajiololfoaaGreat
namespace Go.Proofs.YtihpajiololfoaaGreat
open Go.RowKit

def jv (x y : VV) : VV := joinV x.1 x.2.1 x.2.2 y.1 y.2.1 y.2.2
def noneV : VV := (1, 0, true)
end Go.Proofs.YtihpajiololfoaaGreat
