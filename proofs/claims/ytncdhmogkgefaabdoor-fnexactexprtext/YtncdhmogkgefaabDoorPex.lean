/-
  CONTRACTS of the program's ties, of formOf at expressions and conditions, and of a printer's text of names and numbers.
-/
import Derived.Test.YtncdhmogkgefaabDoorSex
namespace Go.Proofs.YtncdhmogkgefaabDoor
open Go.RowKit
open Pl

set_option maxRecDepth 100000 in
set_option maxHeartbeats 800000 in
theorem ties_any (k : Int) (w : World) : Calls Tryd.prog 31 #[.int .i64 k] w fun e w' => e = .returned (.int .i64 (tightI k - 1)) ∧ w = w' := by
  by_cases h6 : k = 6
  · subst h6
    go_enter Tryd.func31, Tryd.ntmps31
    go_wp2
    go_ret
    exact ⟨rfl, rfl⟩
  by_cases h7 : k = 7
  · subst h7
    go_enter Tryd.func31, Tryd.ntmps31
    go_wp2
    go_ret
    exact ⟨rfl, rfl⟩
  by_cases h8 : k = 8
  · subst h8
    go_enter Tryd.func31, Tryd.ntmps31
    go_wp2
    go_ret
    exact ⟨rfl, rfl⟩
  rw [show tightI k - 1 = 2 by simp [tightI, h6, h7, h8]]
  go_enter Tryd.func31, Tryd.ntmps31
  go_wp2
  go_ret
  exact ⟨rfl, rfl⟩

/-- The form of an expression or condition, by its kind. -/
def formVal (k : Int) : Value :=
  if k = 6 then .agg #[.string ⟨#[43]⟩] else if k = 7 then .agg #[.string ⟨#[45]⟩] else if k = 8 then .agg #[.string ⟨#[42]⟩] else
  if 11 ≤ k ∧ k ≤ 16 then .agg #[.string (signI k)] else .agg #[]
set_option maxRecDepth 100000 in
set_option maxHeartbeats 1600000 in
theorem formOf_val (k : Int) (w : World) (h : 1 ≤ k ∧ k ≤ 8 ∨ 11 ≤ k ∧ k ≤ 16) : Calls Tryd.prog 27 #[.int .i64 k] w fun e w' => e = .returned (.iface (typI k) (formVal k)) ∧ w = w' := by
  rcases (by omega : k = 1 ∨ k = 2 ∨ k = 3 ∨ k = 4 ∨ k = 5 ∨ k = 6 ∨ k = 7 ∨ k = 8 ∨ k = 11 ∨ k = 12 ∨ k = 13 ∨ k = 14 ∨ k = 15 ∨ k = 16) with rfl | rfl | rfl | rfl | rfl | rfl | rfl | rfl | h'
  iterate 8 (focus (go_enter Tryd.func27, Tryd.ntmps27; go_wp2; go_ret; exact ⟨rfl, rfl⟩))
  rcases h' with rfl | rfl | rfl | rfl | rfl | rfl
  · go_enter Tryd.func27, Tryd.ntmps27
    go_wp2_with fail
    refine (condSign_any 11 _).mono ?_
    rintro e w1 ⟨rfl, rfl⟩
    rw [show signI 11 = ⟨#[60]⟩ from rfl]
    go_wp2
    go_ret
    exact ⟨rfl, rfl⟩
  · go_enter Tryd.func27, Tryd.ntmps27
    go_wp2_with fail
    refine (condSign_any 12 _).mono ?_
    rintro e w1 ⟨rfl, rfl⟩
    rw [show signI 12 = ⟨#[60, 61]⟩ from rfl]
    go_wp2
    go_ret
    exact ⟨rfl, rfl⟩
  · go_enter Tryd.func27, Tryd.ntmps27
    go_wp2_with fail
    refine (condSign_any 13 _).mono ?_
    rintro e w1 ⟨rfl, rfl⟩
    rw [show signI 13 = ⟨#[62]⟩ from rfl]
    go_wp2
    go_ret
    exact ⟨rfl, rfl⟩
  · go_enter Tryd.func27, Tryd.ntmps27
    go_wp2_with fail
    refine (condSign_any 14 _).mono ?_
    rintro e w1 ⟨rfl, rfl⟩
    rw [show signI 14 = ⟨#[62, 61]⟩ from rfl]
    go_wp2
    go_ret
    exact ⟨rfl, rfl⟩
  · go_enter Tryd.func27, Tryd.ntmps27
    go_wp2_with fail
    refine (condSign_any 15 _).mono ?_
    rintro e w1 ⟨rfl, rfl⟩
    rw [show signI 15 = ⟨#[61, 61]⟩ from rfl]
    go_wp2
    go_ret
    exact ⟨rfl, rfl⟩
  · go_enter Tryd.func27, Tryd.ntmps27
    go_wp2_with fail
    refine (condSign_any 16 _).mono ?_
    rintro e w1 ⟨rfl, rfl⟩
    rw [show signI 16 = ⟨#[33, 61]⟩ from rfl]
    go_wp2
    go_ret
    exact ⟨rfl, rfl⟩

/-- What stands around the printer: the tree's world, the table of powers of ten. -/
structure Around (W0 : World) (B b : Nat) (l : List UInt8) (w : World) : Prop where
  pr : IsPr B b (Lib.byteCells l) w
  old : Below W0.heap.size W0 w
  lo : W0.heap.size ≤ B
  hi : B ≤ w.heap.size
  tab : Lib.TabIs Tryd.prog W0 "internal/strconv.uint64pow10" .u64 Lib.pow10Tab

def Wrote (B b : Nat) (l : List UInt8) (w : World) (e : Ending) (w' : World) : Prop :=
  e = .returned (.tuple #[]) ∧ IsPr B b (Lib.byteCells l) w' ∧ Below B w w' ∧ Lib.OthersKept 5 (some b) w w'

theorem Around.step {W0 : World} {B b : Nat} {l l' : List UInt8} {w w' : World} (h : Around W0 B b l w) (hp : IsPr B b (Lib.byteCells l') w') (hb : Below B w w') : Around W0 B b l' w' :=
  ⟨hp, h.old.trans (hb.mono h.lo), h.lo, Nat.le_trans h.hi hb.size, h.tab⟩
theorem Around.alloc {W0 : World} {B b : Nat} {l : List UInt8} {w : World} (h : Around W0 B b l w) (o : Obj) : Around W0 B b l (w.alloc o) :=
  ⟨h.pr.alloc o, h.old.alloc (Nat.le_trans h.lo h.hi) o, h.lo, Nat.le_trans h.hi (by simp), h.tab⟩
end Go.Proofs.YtncdhmogkgefaabDoor
