/-
  CONTRACT of the program's reader's one.
  CONTRACT of the program's reader's one: its other cases.
  CONTRACT of the program's reader's one: cells; all together.
  CONTRACT of the program's reader's term.
  CONTRACT of the program's reader's expr.
  A NODE WHOSE LIST GROWS, while the program reads.
  CONTRACT of the program's reader's cond.
  CONTRACT of the program's reader's shortStmt: all but assignments.
  CONTRACT of the program's reader's shortStmt: an assignment to a name.
  CONTRACT of the program's reader's shortStmt: an assignment to a cell; all together.
  CONTRACT of the program's reader's block.
  CONTRACT of the program's reader's stmt: while.
  CONTRACT of the program's reader's stmt: a short statement and its sign.
  CONTRACT of the program's reader's stmt: if.
  CONTRACT of the program's reader's stmt: for.
  CONTRACT of the program's reader's decl.
  CONTRACT of the program's reader's prog.
  CONTRACTS of the program's reader's place, and of the function that Parse defers.
  THE PROGRAM'S READER, all together.
  CONTRACT of the program's Parse.
-/
import Derived.Test.YtedfnadgmhjojaaGreatDoorMGroveb
import Derived.Test.YtedfnadgmhjojaaGreatDoorMFormb
import Derived.Deep.RegionLaw
import Derived.Deep.AppendLies
import Derived.Deep.QuietTactic
import Derived.BigQuiet
import Derived.Defers
import Derived.Recover
namespace Go.Proofs.YtedfnadgmhjojaaGreatDoor
open Go.RowKit
open Pl

/-- What is the same in all parts of a reading. -/
structure Env (ws : List W3) : Prop where
 ok : WsOk ws
 few : ws.length ≤ 1500
 short : ∀ x ∈ ws, x.s.size ≤ 4000
theorem Env.text {ws : List W3} (h : Env ws) (i : Nat) : (textW ws i).size ≤ maxLen := by
 unfold textW maxLen
 by_cases q : i < ws.length
 ·rw [List.getElem?_eq_getElem q]
  have := h.short _ (List.getElem_mem q)
  simp only
  omega
 ·rw [List.getElem?_eq_none (by omega)]
  exact Nat.zero_le _
end Go.Proofs.YtedfnadgmhjojaaGreatDoor
namespace Go.Proofs.YtedfnadgmhjojaaGreatDoor
open Go.RowKit
open Pl

end Go.Proofs.YtedfnadgmhjojaaGreatDoor
namespace Go.Proofs.YtedfnadgmhjojaaGreatDoor
open Go.RowKit
open Pl

end Go.Proofs.YtedfnadgmhjojaaGreatDoor
namespace Go.Proofs.YtedfnadgmhjojaaGreatDoor
open Go.RowKit
open Pl

/-- Where the reader stands, read off its memory. -/
def posOf (rb : Nat) (w : World) : Nat := match w.cell? ⟨rb, 1, none⟩ with
 | some (.int _ v) => v.toNat
 | _ => 0
end Go.Proofs.YtedfnadgmhjojaaGreatDoor
namespace Go.Proofs.YtedfnadgmhjojaaGreatDoor
open Go.RowKit
open Pl

end Go.Proofs.YtedfnadgmhjojaaGreatDoor
namespace Go.Proofs.YtedfnadgmhjojaaGreatDoor
open Go.RowKit
open Pl

end Go.Proofs.YtedfnadgmhjojaaGreatDoor
namespace Go.Proofs.YtedfnadgmhjojaaGreatDoor
open Go.RowKit
open Pl

end Go.Proofs.YtedfnadgmhjojaaGreatDoor
namespace Go.Proofs.YtedfnadgmhjojaaGreatDoor
open Go.RowKit
open Pl

end Go.Proofs.YtedfnadgmhjojaaGreatDoor
namespace Go.Proofs.YtedfnadgmhjojaaGreatDoor
open Go.RowKit
open Pl

end Go.Proofs.YtedfnadgmhjojaaGreatDoor
namespace Go.Proofs.YtedfnadgmhjojaaGreatDoor
open Go.RowKit
open Pl

end Go.Proofs.YtedfnadgmhjojaaGreatDoor
namespace Go.Proofs.YtedfnadgmhjojaaGreatDoor
open Go.RowKit
open Pl

end Go.Proofs.YtedfnadgmhjojaaGreatDoor
namespace Go.Proofs.YtedfnadgmhjojaaGreatDoor
open Go.RowKit
open Pl

end Go.Proofs.YtedfnadgmhjojaaGreatDoor
namespace Go.Proofs.YtedfnadgmhjojaaGreatDoor
open Go.RowKit
open Pl

end Go.Proofs.YtedfnadgmhjojaaGreatDoor
namespace Go.Proofs.YtedfnadgmhjojaaGreatDoor
open Go.RowKit
open Pl

@[reducible] def put8 (w : World) (p : Nat) (v0 v1 v2 v3 : Value) : World := (((w.setCell ⟨p, 8, none⟩ v0).setCell ⟨p, 9, none⟩ v1).setCell ⟨p, 10, none⟩ v2).setCell ⟨p, 11, none⟩ v3
end Go.Proofs.YtedfnadgmhjojaaGreatDoor
namespace Go.Proofs.YtedfnadgmhjojaaGreatDoor
open Go.RowKit
open Pl

theorem NewL.app {n n1 : Nat} {xs ys : List A} (h : NewL n xs) (hlt : ∀ b ∈ feet xs, b < n1) (hx : NewL n1 ys) (hn : n ≤ n1) : NewL n (xs ++ ys) := by
 unfold NewL
 rw [feet_append]
 refine ⟨List.nodup_append.2 ⟨h.1, hx.1, fun p hp q hq e => ?_⟩, fun b hb => ?_⟩
 ·have h1 := hlt p hp
  have h2 := hx.2 q hq
  omega
 ·rcases List.mem_append.1 hb with hb | hb
  ·exact h.2 b hb
  ·exact Nat.le_trans hn (hx.2 b hb)
end Go.Proofs.YtedfnadgmhjojaaGreatDoor
namespace Go.Proofs.YtedfnadgmhjojaaGreatDoor
open Go.RowKit
open Pl

end Go.Proofs.YtedfnadgmhjojaaGreatDoor
namespace Go.Proofs.YtedfnadgmhjojaaGreatDoor
open Go.RowKit
open Pl

theorem Step.grow {rb : Nat} {a b c : World} (h : Step rb a b) {row : Option Nat} (hg : b.grownBy c row) (hr : ∀ k, row = some k → a.heap.size ≤ k) : Step rb a c :=
 ⟨hg.os.trans h.os, hg.tape.trans h.tape, hg.output.trans h.output, Nat.le_trans h.size hg.size, fun k hk hn => (hg.block k (Nat.lt_of_lt_of_le hk h.size) (fun e => by have := hr k e.symm; omega)).trans (h.block k hk hn)⟩
end Go.Proofs.YtedfnadgmhjojaaGreatDoor
namespace Go.Proofs.YtedfnadgmhjojaaGreatDoor
open Go.RowKit
open Pl

/-- Where a word stands, the text's length behind the last. -/
def placeI (ws : List W3) (p : Nat) (sz : Int) : Int := match ws[p]? with
 | some x => x.a
 | none => sz
end Go.Proofs.YtedfnadgmhjojaaGreatDoor
namespace Go.Proofs.YtedfnadgmhjojaaGreatDoor
open Go.RowKit
open Pl

end Go.Proofs.YtedfnadgmhjojaaGreatDoor
namespace Go.Proofs.YtedfnadgmhjojaaGreatDoor
open Go.RowKit
open Pl

/-- How far the reading may go. -/
def fuelI (ws : List W3) : Nat := 5 * ws.length + 10
/-- What Parse answers: the tree, the fault's code, its place. -/
def parseI (s : ByteArray) : T × Int × Int :=
 if (wordsI s).2.1 ≠ 0 then (.node 0 nil_ 0 [], (wordsI s).2.1, (wordsI s).2.2) else
  match mProg (wordsI s).1 (fuelI (wordsI s).1) (fuelI (wordsI s).1) [] 0 with
  | .no p => (.node 0 nil_ 0 [], 4, placeI (wordsI s).1 p s.size)
  | .ok t _ => if dep t ≤ 24 ∧ cnt t ≤ 500 then (t, 0, 0) else (.node 0 nil_ 0 [], 5, 0)

/-- The words of a text are words. -/
theorem scan_env (s : ByteArray) (hs : s.size ≤ 4000) (at_ : Nat) (acc : List W3) (ha : ∀ x ∈ acc, (kindI x.s = x.k ∧ x.k ≠ 0) ∧ x.s.size ≤ 4000) : ∀ x ∈ (scanI s at_ acc).1, (kindI x.s = x.k ∧ x.k ≠ 0) ∧ x.s.size ≤ 4000 := by
 generalize hf : s.size - at_ = f
 induction f using Nat.strongRecOn generalizing at_ acc with
 | _ f ih =>
   by_cases h1 : at_ < s.size
   ·by_cases hk : kindI (s.extract at_ (endI s at_)) = 0
    ·rw [scan_bad h1 hk]; intro x hx; cases hx
    ·by_cases hm : acc.length = 1500
     ·rw [scan_many h1 hk hm]; intro x hx; cases hx
     ·rw [scan_go h1 hk hm]
      have h2 := endI_gt h1
      have h3 := skip_ge s (endI s at_)
      refine ih (s.size - skipI s (endI s at_)) (by omega) _ _ ?_ rfl
      intro x hx
      rcases List.mem_append.1 hx with hx | hx
      ·exact ha x hx
      ·rw [List.mem_singleton.1 hx]
       exact ⟨⟨rfl, hk⟩, Nat.le_trans (ext_le s _ _) hs⟩
   ·rw [scan_end h1]; exact ha
theorem words_env (s : ByteArray) : Env (wordsI s).1 := by
 have h : ∀ x ∈ (wordsI s).1, (kindI x.s = x.k ∧ x.k ≠ 0) ∧ x.s.size ≤ 4000 := by
  unfold wordsI
  split
  ·intro x hx; cases hx
  ·exact scan_env s (by omega) _ _ (fun x hx => by cases hx)
 exact ⟨fun x hx => (h x hx).1, words_len s, fun x hx => (h x hx).2⟩
/-- What a call of Parse leaves. -/
def Parsed (s : ByteArray) (w : World) (e : Ending) (w' : World) : Prop := ∃ x : A, e = .returned (.tuple #[x.val, .agg #[.int .i64 (parseI s).2.1, .int .i64 (parseI s).2.2]]) ∧ x.erase = (parseI s).1 ∧ Sits w' x ∧ New w.heap.size x ∧ Below w.heap.size w w'
theorem two_of {w : World} {p : Nat} {v0 v1 : Value} (h : w.heap[p]? = some (.cells #[v0, v1] 75 (0, 0))) : w.cell? ⟨p, 0, none⟩ = some v0 ∧ w.cell? ⟨p, 1, none⟩ = some v1 ∧ w.frozen? ⟨p, 0, none⟩ = false ∧ w.frozen? ⟨p, 1, none⟩ = false :=
 ⟨by rw [Lib.cell_of_heap h]; rfl, by rw [Lib.cell_of_heap h]; rfl, Lib.frozen_of_heap h 0, Lib.frozen_of_heap h 1⟩

@[reducible] def put2 (w : World) (q : Nat) (v0 v1 : Value) : World := (w.setCell ⟨q, 0, none⟩ v0).setCell ⟨q, 1, none⟩ v1
theorem put2_at {w : World} {q : Nat} {u0 u1 : Value} (h : w.heap[q]? = some (.cells #[u0, u1] 75 (0, 0))) (v0 v1 : Value) : (put2 w q v0 v1).heap[q]? = some (.cells #[v0, v1] 75 (0, 0)) := by
 rw [heap_setCell_same _ q 1 _ 75 _ (heap_setCell_same _ q 0 _ 75 _ h)]; rfl
theorem put2_other {w : World} {q k : Nat} (v0 v1 : Value) (h : k ≠ q) : (put2 w q v0 v1).heap[k]? = w.heap[k]? := by
 rw [Below.heap_setCell _ _ _ _ h, Below.heap_setCell _ _ _ _ h]
theorem put2_size (w : World) (q : Nat) (v0 v1 : Value) : (put2 w q v0 v1).heap.size = w.heap.size := by simp [World.setCell]
theorem put2_below {B : Nat} {a w : World} (h : Below B a w) {q : Nat} (hq : B ≤ q) (v0 v1 : Value) : Below B a (put2 w q v0 v1) := (h.setCell (p := ⟨q, 0, none⟩) hq _).setCell (p := ⟨q, 1, none⟩) hq _
theorem put4_below {B : Nat} {a w : World} (h : Below B a w) {q : Nat} (hq : B ≤ q) (v0 v1 v2 v3 : Value) : Below B a (put4 w q v0 v1 v2 v3) := (((h.setCell (p := ⟨q, 0, none⟩) hq _).setCell (p := ⟨q, 1, none⟩) hq _).setCell (p := ⟨q, 2, none⟩) hq _).setCell (p := ⟨q, 3, none⟩) hq _
/-- The two results' variables, written one behind the other. -/
theorem out_cells {w : World} {p q : Nat} {u0 u1 u2 u3 v0 v1 : Value} (hp : w.heap[p]? = some (.cells #[u0, u1, u2, u3] 38 (0, 0))) (hq : w.heap[q]? = some (.cells #[v0, v1] 75 (0, 0))) (hpq : p ≠ q) (a b c d x y : Value) :
    (put2 (put4 w p a b c d) q x y).cell? ⟨p, 0, none⟩ = some a ∧ (put2 (put4 w p a b c d) q x y).cell? ⟨p, 1, none⟩ = some b ∧ (put2 (put4 w p a b c d) q x y).cell? ⟨p, 2, none⟩ = some c ∧ (put2 (put4 w p a b c d) q x y).cell? ⟨p, 3, none⟩ = some d ∧
    (put2 (put4 w p a b c d) q x y).cell? ⟨q, 0, none⟩ = some x ∧ (put2 (put4 w p a b c d) q x y).cell? ⟨q, 1, none⟩ = some y := by
 have h1 := (put2_other x y hpq).trans (put4_at hp a b c d)
 have h2 := put2_at ((put4_other a b c d (fun e => hpq e.symm)).trans hq) x y
 obtain ⟨a0, a1, a2, a3, _⟩ := four_of h1
 obtain ⟨b0, b1, _⟩ := two_of h2
 exact ⟨a0, a1, a2, a3, b0, b1⟩
def A.v0 : A → Value
 | .node k _ _ _ _ _ => .int .i64 k
def A.v1 : A → Value
 | .node _ s _ _ _ _ => .string s
def A.v2 : A → Value
 | .node _ _ m _ _ _ => .int .i64 m
def A.v3 : A → Value
 | .node _ _ _ a c kk => .slice a kk.length c
theorem below_step' {B : Nat} {a b c : World} (h : Below B a b) (k : Below b.heap.size b c) (hB : B ≤ b.heap.size) : Below B a c := h.trans (k.mono hB)
end Go.Proofs.YtedfnadgmhjojaaGreatDoor
