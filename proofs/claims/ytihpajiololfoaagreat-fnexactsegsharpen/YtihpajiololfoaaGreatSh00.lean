/-
  CONTRACTS of the leaves of ranges: bounds, none, tests, of the program and of the specification.
  MODELS of the functions on ranges (plain), CONTRACTS of the specification's.
  TWO RANGES COMPARED, the greater and the less of two numbers: each as one step.
  CONTRACTS of the program's functions on ranges: RangeOk, RangeHas, spanOf, cutDown, RangeMeet, RangeNeg, RangeAdd.
  WHAT A CALL LEAVES AS IT WAS, as rules for the walk.
  CONTRACTS of the specification's RangeAdd, RangeSub, RangeMul, RangeMeet, RangeJoin.
  GUARDS: models (plain); CONTRACTS of l02IsCond, l06Without of the specification, guardLess, withoutOnly of the program.
  VALS: taken over, compared, ok, what they have; no cell.
  A REGION THAT DRAWS ITS ORDER, BY AN INVARIANT: one obligation for each operation, whatever has come up before it.
-/
import Derived.Test.YtihpajiololfoaaGreatRows
import Derived.WalkKit
import Derived.WalkSpells
import Derived.WalkLawsBesides
import Derived.Deep.RegionHeld3
import Derived.Deep.RegionWith
import Derived.Below
import Derived.ChangeOld
import Derived.Laws.StructEq
import Derived.Deep.QuietTactic
namespace Go.Proofs.YtihpajiololfoaaGreat
open Go.RowKit

theorem mkHid {p : Prop} (h : p) : Hid p := h
def valB (n : Int) : Bool := decide (-1000000 ≤ n ∧ n ≤ 1000000)
def btw (a lo hi : Int) : Bool := decide (lo ≤ a ∧ a ≤ hi)
def isB (a b : Int) : Bool := decide (a ≤ b)
def someB (a b : Int) : Bool := decide (-1000000 ≤ a ∧ a ≤ b ∧ b ≤ 1000000)
def okB (a b : Int) : Bool := decide (a = 1 ∧ b = 0 ∨ -1000000 ≤ a ∧ a ≤ b ∧ b ≤ 1000000)
theorem ret_bool {a b : Bool} (h : a = b) : Ending.returned (.bool a) = .returned (.bool b) := by rw [h]
theorem ret_int {k : IntKind} {a b : Int} (h : a = b) : Ending.returned (.int k a) = .returned (.int k b) := by rw [h]
theorem bcell {W w1 : World} (hb : Below W.heap.size W w1) : (∀ b o, b < W.heap.size → w1.cell? ⟨b, o, none⟩ = W.cell? ⟨b, o, none⟩) ∧ (∀ b o, b < W.heap.size → w1.frozen? ⟨b, o, none⟩ = W.frozen? ⟨b, o, none⟩) :=
 ⟨fun b o h => hb.cell (p := ⟨b, o, none⟩) h, fun b o h => hb.frozen (p := ⟨b, o, none⟩) h⟩

theorem between_any (a lo hi : Int) (w : World) : Calls Tryz.prog 95 #[.int .i64 a, .int .i64 lo, .int .i64 hi] w fun e w' => e = .returned (.bool (btw a lo hi)) ∧ w = w' := by
 unfold btw
 go_enter Tryz.func95, Tryz.ntmps95
 go_wp2
 all_goals (go_ret; exact ⟨ret_bool (by simp_all <;> omega), rfl⟩)
theorem isBetween_any (a lo hi : Int) (w : World) : Calls Tryz.prog 129 #[.int .i64 a, .int .i64 lo, .int .i64 hi] w fun e w' => e = .returned (.bool (btw a lo hi)) ∧ w = w' := by
 unfold btw
 go_enter Tryz.func129, Tryz.ntmps129
 go_wp2
 all_goals (go_ret; exact ⟨ret_bool (by simp_all <;> omega), rfl⟩)
theorem btw_val (n : Int) : btw n (-1000000) 1000000 = valB n := rfl
theorem sVal_any (n : Int) (w : World) : Calls Tryz.prog 140 #[.int .i64 n] w fun e w' => e = .returned (.bool (valB n)) ∧ w = w' := by
 go_enter Tryz.func140, Tryz.ntmps140
 go_wp2_with (go_at_call 95; refine (between_any _ _ _ _).mono ?_; rintro e w' ⟨rfl, rfl⟩)
 go_ret
 exact ⟨ret_bool (btw_val n), rfl⟩
theorem sIs_any (a b : Int) (w : World) : Calls Tryz.prog 106 #[.agg #[.int .i64 a, .int .i64 b]] w fun e w' => e = .returned (.bool (isB a b)) ∧ Below w.heap.size w w' := by
 unfold isB
 go_enter Tryz.func106, Tryz.ntmps106
 go_wp2
 go_ret
 exact ⟨rfl, (Below.refl _ _).alloc (Nat.le_refl _) _⟩
theorem iNone_any (w : World) : Calls Tryz.prog 103 #[] w fun e w' => e = .returned (.agg #[.int .i64 1, .int .i64 0]) ∧ Below w.heap.size w w' := by
 go_enter Tryz.func103, Tryz.ntmps103
 go_wp2
 exact bodyPost_ret (v := .agg #[.int .i64 1, .int .i64 0]) (by simp [results, Tryz.results103, go_sem]) rfl ⟨rfl, (Below.refl _ _).alloc (Nat.le_refl _) _⟩
set_option maxHeartbeats 400000 in
theorem isSome_any (a b : Int) (w : World) : Calls Tryz.prog 67 #[.agg #[.int .i64 a, .int .i64 b]] w fun e w' => e = .returned (.bool (someB a b)) ∧ Below w.heap.size w w' := by
 unfold someB
 go_enter Tryz.func67, Tryz.ntmps67
 go_wp2
 all_goals (go_ret; exact ⟨ret_bool (by simp_all <;> omega), (Below.refl _ _).alloc (Nat.le_refl _) _⟩)
set_option maxHeartbeats 400000 in
theorem toRange_any (a b : Int) (w : World) : Calls Tryz.prog 26 #[.agg #[.int .i64 a, .int .i64 b]] w fun e w' => e = .returned (.agg #[.int .i64 a, .int .i64 b]) ∧ Below w.heap.size w w' := by
 go_enter Tryz.func26, Tryz.ntmps26
 go_wp2
 exact bodyPost_ret (v := .agg #[.int .i64 a, .int .i64 b]) (by simp [results, Tryz.results26, go_sem]) rfl ⟨rfl, (((Below.refl _ _).alloc (Nat.le_refl _) _).alloc (by simp) _).alloc (by simp; omega) _⟩
set_option maxHeartbeats 400000 in
theorem eqRange_same (a b : Int) (w : World) : Calls Tryz.prog 64 #[.agg #[.int .i64 a, .int .i64 b], .agg #[.int .i64 a, .int .i64 b]] w fun e w' => e = .returned (.bool true) ∧ Below w.heap.size w w' := by
 go_enter Tryz.func64, Tryz.ntmps64
 go_wp2
 go_ret
 exact ⟨rfl, ((Below.refl _ _).alloc (Nat.le_refl _) _).alloc (by simp) _⟩
end Go.Proofs.YtihpajiololfoaaGreat
namespace Go.Proofs.YtihpajiololfoaaGreat
open Go.RowKit

theorem below_step {w a b : World} (h : Below w.heap.size w a) (hb : Below a.heap.size a b) : Below w.heap.size w b := h.trans (hb.mono h.size)
theorem bl_alloc {w a : World} (h : Below w.heap.size w a) (o : Obj) : Below w.heap.size w (a.alloc o) := h.alloc h.size o
theorem bl_set {w a : World} {p : Addr} (h : Below w.heap.size w a) (hp : w.heap.size ≤ p.block) (u : Value) : Below w.heap.size w (a.setCell p u) := h.setCell hp u
theorem bl_drew {w a : World} (h : Below w.heap.size w a) : Below w.heap.size w a.drew := h.drew
def joinM (a b c d : Int) : Int × Int := if okB a b && okB c d then (if isB a b then (if isB c d then (min a c, max b d) else (a, b)) else (c, d)) else (1, 0)
theorem some_iff {a b : Int} : someB a b = true ↔ -1000000 ≤ a ∧ a ≤ b ∧ b ≤ 1000000 := by unfold someB; simp
theorem ok_iff {a b : Int} : okB a b = true ↔ (a = 1 ∧ b = 0 ∨ -1000000 ≤ a ∧ a ≤ b ∧ b ≤ 1000000) := by unfold okB; simp
set_option maxHeartbeats 400000 in
theorem sOk_any (a b : Int) (w : World) : Calls Tryz.prog 105 #[.agg #[.int .i64 a, .int .i64 b]] w fun e w' => e = .returned (.bool (okB a b)) ∧ Below w.heap.size w w' := by
 by_cases hn : a = 1 ∧ b = 0
 ·obtain ⟨rfl, rfl⟩ := hn
  go_enter Tryz.func105, Tryz.ntmps105
  go_wp2
  go_ret
  exact ⟨ret_bool (by decide), (by repeat (first | exact Below.refl _ _ | refine bl_set ?_ (by simp) _ | refine bl_alloc ?_ _ | refine bl_drew ?_ | refine below_step ?_ (by assumption)))⟩
 ·have e0 : okB a b = (isB a b && (valB a && valB b)) := by
   rw [Bool.eq_iff_iff]; unfold okB isB valB; simp; omega
  by_cases h4 : a = 1
  ·subst h4
   have h5 : ¬ b = 0 := fun e => hn ⟨rfl, e⟩
   clear hn
   cases h1 : isB 1 b <;> cases h3 : valB b
   all_goals
    simp only [h1, h3] at e0
    have e1 := mkHid e0
    clear e0
    have h2 : valB 1 = true := by decide
    go_enter Tryz.func105, Tryz.ntmps105
    go_wp2_with (first | (go_at_call 106; refine (sIs_any _ _ _).mono ?_; rintro e w' ⟨rfl, hb⟩; obtain ⟨hc, hf⟩ := bcell hb; have hz0 : w.heap.size < w'.heap.size := by have := hb.size; (try simp at this); omega) | (go_at_call 140; refine (sVal_any _ _).mono ?_; rintro e w' ⟨rfl, rfl⟩))
    go_ret
    exact ⟨ret_bool (by rw [e1.out]; first | rfl | simp [*] | (simp; omega)), (by repeat (first | exact Below.refl _ _ | refine bl_set ?_ (by simp) _ | refine bl_alloc ?_ _ | refine bl_drew ?_ | refine below_step ?_ (by assumption)))⟩
  ·clear hn
   cases h1 : isB a b <;> cases h2 : valB a <;> cases h3 : valB b
   all_goals
    simp only [h1, h2, h3] at e0
    have e1 := mkHid e0
    clear e0
    go_enter Tryz.func105, Tryz.ntmps105
    go_wp2_with (first | (go_at_call 106; refine (sIs_any _ _ _).mono ?_; rintro e w' ⟨rfl, hb⟩; obtain ⟨hc, hf⟩ := bcell hb; have hz0 : w.heap.size < w'.heap.size := by have := hb.size; (try simp at this); omega) | (go_at_call 140; refine (sVal_any _ _).mono ?_; rintro e w' ⟨rfl, rfl⟩))
    go_ret
    exact ⟨ret_bool (by rw [e1.out]; first | rfl | simp [*] | (simp; omega)), (by repeat (first | exact Below.refl _ _ | refine bl_set ?_ (by simp) _ | refine bl_alloc ?_ _ | refine bl_drew ?_ | refine below_step ?_ (by assumption)))⟩
end Go.Proofs.YtihpajiololfoaaGreat
namespace Go.Proofs.YtihpajiololfoaaGreat
open Go.RowKit

def eqB (a b c d : Int) : Bool := decide (a = c ∧ b = d)
theorem eql_rng (w : World) (a b c d : Int) : (Go.binOp .eql 53 (.agg #[.int .i64 a, .int .i64 b]) (.agg #[.int .i64 c, .int .i64 d])).run Tryz.prog w = .ok (.bool (eqB a b c d)) w := by
 have u3 := Tryz.underlying3
 have a3 := Tryz.isAgg3
 have z3 := Tryz.sizeOf3
 have hS : Tryz.prog.underlying 53 = some (.struct (Tryz.prog.fieldsOf 53)) := by kernel_rfl
 have hp : Tryz.prog.stoodInHeld 53 = false := by kernel_rfl
 rw [run_eql_struct, show (10000 : Nat) = 9999 + 1 from rfl, run_equalIn_agg w 9999 53 _ _ hS hp]
 simp only [Program.fieldsOf, Tryz.underlying53]
 go_simp
 unfold eqB
 by_cases h1 : a = c <;> by_cases h2 : b = d <;> simp [h1, h2]
theorem run_max_M {P : Program} (w : World) (ts : Array TypeId) (t : TypeId) (x y : Int) : (Builtin.max_ ts t #[.int .i64 x, .int .i64 y]).run P w = .ok (.int .i64 (max x y)) w := by
 rw [run_max_int2]
 by_cases h : y > x
 ·rw [if_pos h, show max x y = y by omega]
 ·rw [if_neg h, show max x y = x by omega]
theorem run_min_M {P : Program} (w : World) (ts : Array TypeId) (t : TypeId) (x y : Int) : (Builtin.min_ ts t #[.int .i64 x, .int .i64 y]).run P w = .ok (.int .i64 (min x y)) w := by
 rw [run_min_int2]
 by_cases h : y < x
 ·rw [if_pos h, show min x y = y by omega]
 ·rw [if_neg h, show min x y = x by omega]
end Go.Proofs.YtihpajiololfoaaGreat
namespace Go.Proofs.YtihpajiololfoaaGreat
open Go.RowKit

set_option maxHeartbeats 400000 in
theorem iOk_any (a b : Int) (w : World) : Calls Tryz.prog 141 #[.agg #[.int .i64 a, .int .i64 b]] w fun e w' => e = .returned (.bool (okB a b)) ∧ Below w.heap.size w w' := by
 have g0 : w.heap.size < (w.alloc (.cells #[.int .i64 a, .int .i64 b] 53)).heap.size := by simp
 have p0 : (w.alloc (.cells #[.int .i64 a, .int .i64 b] 53)).cell? ⟨w.heap.size, 0, none⟩ = some (.int .i64 a) := by simp [go_sem]
 have p1 : (w.alloc (.cells #[.int .i64 a, .int .i64 b] 53)).cell? ⟨w.heap.size, 1, none⟩ = some (.int .i64 b) := by simp [go_sem]
 have e0 : okB a b = (eqB a b 1 0 || someB a b) := by
  rw [Bool.eq_iff_iff, Bool.or_eq_true, ok_iff, some_iff]; unfold eqB; simp
 have hund : undef = Value.tuple #[] := rfl
 cases h1 : eqB a b 1 0
 ·rw [h1] at e0
  have E := mkHid e0
  clear e0
  have hEq := eql_rng
  have hMx := @run_max_M Tryz.prog
  have hMn := @run_min_M Tryz.prog
  go_enter Tryz.func141, Tryz.ntmps141
  go_wp2
  go_region_held3 (fun v => v.cell? ⟨w.heap.size, 0, none⟩ = some (.int .i64 a) ∧ v.cell? ⟨w.heap.size, 1, none⟩ = some (.int .i64 b))
   (first | exact ⟨p0, p1⟩ | assumption | exact ⟨(hc _ _ g0).trans p0, (hc _ _ g0).trans p1⟩ | exact ⟨(hc _ _ hz0).trans p0, (hc _ _ hz0).trans p1⟩ | (simp [*, go_sem]; done))
   (first | (go_at_call 103; refine (iNone_any _).mono ?_; rintro e w' ⟨rfl, hb⟩; obtain ⟨hc, hf⟩ := bcell hb; have hz0 : w.heap.size < w'.heap.size := (by have := hb.size; (try simp at this); omega)) | (go_at_call 67; refine (isSome_any _ _ _).mono ?_; rintro e w' ⟨rfl, hb⟩; obtain ⟨hc, hf⟩ := bcell hb; have hz0 : w.heap.size < w'.heap.size := (by have := hb.size; (try simp at this); omega)))
  all_goals
   go_wp2
   go_ret
   exact ⟨ret_bool (E.out.trans (Bool.false_or _)).symm, (by repeat (first | exact Below.refl _ _ | refine bl_set ?_ (by simp <;> omega) _ | refine bl_alloc ?_ _ | refine bl_drew ?_ | refine below_step ?_ (by assumption)))⟩
 ·rw [h1] at e0
  have E := mkHid e0
  clear e0
  have hEq := eql_rng
  have hMx := @run_max_M Tryz.prog
  have hMn := @run_min_M Tryz.prog
  go_enter Tryz.func141, Tryz.ntmps141
  go_wp2
  first | (go_region_with (first | (go_at_call 103; refine (iNone_any _).mono ?_; rintro e w' ⟨rfl, hb⟩; obtain ⟨hc, hf⟩ := bcell hb; have hz0 : w.heap.size < w'.heap.size := (by have := hb.size; (try simp at this); omega)) | (go_at_call 67; refine (isSome_any _ _ _).mono ?_; rintro e w' ⟨rfl, hb⟩; obtain ⟨hc, hf⟩ := bcell hb; have hz0 : w.heap.size < w'.heap.size := (by have := hb.size; (try simp at this); omega)))) | fail
  all_goals
   go_wp2
   go_ret
   exact ⟨ret_bool (E.out.trans (Bool.true_or _)).symm, (by repeat (first | exact Below.refl _ _ | refine bl_set ?_ (by simp <;> omega) _ | refine bl_alloc ?_ _ | refine bl_drew ?_ | refine below_step ?_ (by assumption)))⟩
end Go.Proofs.YtihpajiololfoaaGreat
namespace Go.Proofs.YtihpajiololfoaaGreat
open Go.RowKit

theorem bcell4 {W w1 : World} (hb : Below W.heap.size W w1) : (∀ b o, b < W.heap.size → w1.cell? ⟨b, o, none⟩ = W.cell? ⟨b, o, none⟩) ∧ (∀ b o, b < W.heap.size → w1.frozen? ⟨b, o, none⟩ = W.frozen? ⟨b, o, none⟩) ∧ (∀ b, b < W.heap.size → b < w1.heap.size) ∧ (∀ b, b ≤ W.heap.size → b ≤ w1.heap.size) :=
 ⟨fun b o h => hb.cell (p := ⟨b, o, none⟩) h, fun b o h => hb.frozen (p := ⟨b, o, none⟩) h, fun _ h => Nat.lt_of_lt_of_le h hb.size, fun _ h => Nat.le_trans h hb.size⟩
theorem nlt2 (n : Nat) : n < n + 1 + 1 := by omega
theorem nlt3 (n : Nat) : n < n + 1 + 1 + 1 := by omega
theorem nlt4 (n : Nat) : n < n + 1 + 1 + 1 + 1 := by omega
theorem nle2 (n : Nat) : n ≤ n + 1 + 1 := by omega
theorem nle3 (n : Nat) : n ≤ n + 1 + 1 + 1 := by omega
theorem nle4 (n : Nat) : n ≤ n + 1 + 1 + 1 + 1 := by omega
theorem drew_size (w : World) : w.drew.heap.size = w.heap.size := rfl
theorem bdrew {W w1 : World} (h : Below W.drew.heap.size W.drew w1) : Below W.heap.size W w1 := ⟨h.os, h.tape, h.output, h.size, h.block⟩
theorem below_drew (W w1 : World) : Below W.drew.heap.size W.drew w1 = Below W.heap.size W w1 := propext ⟨bdrew, fun h => ⟨h.os, h.tape, h.output, h.size, h.block⟩⟩
theorem drew_cell (w : World) (a : Addr) : w.drew.cell? a = w.cell? a := rfl
theorem drew_frozen (w : World) (a : Addr) : w.drew.frozen? a = w.frozen? a := rfl
/-- Two numbers in a block that may be written. -/
def Box (v : World) (b : Nat) (x y : Int) : Prop := v.cell? ⟨b, 0, none⟩ = some (.int .i64 x) ∧ v.cell? ⟨b, 1, none⟩ = some (.int .i64 y) ∧ v.frozen? ⟨b, 0, none⟩ = false ∧ v.frozen? ⟨b, 1, none⟩ = false
theorem Box.below {v v' : World} {b : Nat} {x y : Int} (h : Box v b x y) (hb : Below v.heap.size v v') : Box v' b x y := by
 obtain ⟨h0, h1, h2, h3⟩ := h
 have hlt := World.block_lt_of_cell? v _ h0
 exact ⟨(hb.cell (p := ⟨b, 0, none⟩) hlt).trans h0, (hb.cell (p := ⟨b, 1, none⟩) hlt).trans h1, (hb.frozen (p := ⟨b, 0, none⟩) hlt).trans h2, (hb.frozen (p := ⟨b, 1, none⟩) hlt).trans h3⟩
theorem Box.lt {v : World} {b : Nat} {x y : Int} (h : Box v b x y) : b < v.heap.size := World.block_lt_of_cell? v _ h.1
end Go.Proofs.YtihpajiololfoaaGreat
namespace Go.Proofs.YtihpajiololfoaaGreat
open Go.RowKit

end Go.Proofs.YtihpajiololfoaaGreat
namespace Go.Proofs.YtihpajiololfoaaGreat
open Go.RowKit
attribute [local go_sem] nlt2 nlt3 nlt4 nle2 nle3 nle4 drew_size drew_cell drew_frozen

theorem bl_set2 {w a : World} {p : Addr} (hp : w.heap.size ≤ p.block) (h : Below w.heap.size w a) (u : Value) : Below w.heap.size w (a.setCell p u) := h.setCell hp u
end Go.Proofs.YtihpajiololfoaaGreat
namespace Go.Proofs.YtihpajiololfoaaGreat
open Go.RowKit

set_option maxHeartbeats 400000 in
theorem toVal_any (a b : Int) (s : Bool) (w : World) : Calls Tryz.prog 85 #[.agg #[.int .i64 a, .int .i64 b, .bool s]] w fun e w' => e = .returned (.agg #[.int .i64 a, .int .i64 b, .bool s]) ∧ Below w.heap.size w w' := by
 go_enter Tryz.func85, Tryz.ntmps85
 go_wp2_with (go_at_call 26; refine (toRange_any _ _ _).mono ?_; rintro e w' ⟨rfl, hb⟩; (try rw [below_drew] at hb); obtain ⟨hc, hf, hm, hs⟩ := bcell4 hb; have hz0 : w.heap.size < w'.heap.size := (by have := hb.size; (try simp at this); omega); have hl0 := Nat.le_of_lt hz0; have hz1 : w.heap.size + 1 < w'.heap.size := (by have := hb.size; (try simp at this); omega); have hl1 := Nat.le_of_lt hz1; have hz2 : w.heap.size + 1 + 1 < w'.heap.size := (by have := hb.size; (try simp at this); omega); have hl2 := Nat.le_of_lt hz2)
 exact bodyPost_ret (v := .agg #[.int .i64 a, .int .i64 b, .bool s]) (by simp [results, Tryz.results85, go_sem, hc]) rfl ⟨rfl, (by repeat (first | with_reducible exact Below.refl _ _ | (with_reducible refine bl_set2 ?_ ?_ _; (first | (simp; done) | (simp [*]; done) | (simp [*] <;> omega))) | with_reducible refine bl_drew ?_ | with_reducible refine bl_alloc ?_ _ | with_reducible refine below_step ?_ (by assumption) | with_reducible assumption))⟩
set_option maxHeartbeats 400000 in
theorem eqVal_same (a b : Int) (s : Bool) (w : World) : Calls Tryz.prog 24 #[.agg #[.int .i64 a, .int .i64 b, .bool s], .agg #[.int .i64 a, .int .i64 b, .bool s]] w fun e w' => e = .returned (.bool true) ∧ Below w.heap.size w w' := by
 have hs : (s != s) = false := by simp
 go_enter Tryz.func24, Tryz.ntmps24
 go_wp2_with (go_at_call 64; refine (eqRange_same _ _ _).mono ?_; rintro e w' ⟨rfl, hb⟩; (try rw [below_drew] at hb); obtain ⟨hc, hf, hm, hs⟩ := bcell4 hb; have hz0 : w.heap.size < w'.heap.size := (by have := hb.size; (try simp at this); omega); have hl0 := Nat.le_of_lt hz0; have hz1 : w.heap.size + 1 < w'.heap.size := (by have := hb.size; (try simp at this); omega); have hl1 := Nat.le_of_lt hz1)
 go_ret
 exact ⟨rfl, (by repeat (first | with_reducible exact Below.refl _ _ | (with_reducible refine bl_set2 ?_ ?_ _; (first | (simp; done) | (simp [*]; done) | (simp [*] <;> omega))) | with_reducible refine bl_drew ?_ | with_reducible refine bl_alloc ?_ _ | with_reducible refine below_step ?_ (by assumption) | with_reducible assumption))⟩
set_option maxHeartbeats 400000 in
theorem sVok_any (a b : Int) (s : Bool) (w : World) : Calls Tryz.prog 80 #[.agg #[.int .i64 a, .int .i64 b, .bool s]] w fun e w' => e = .returned (.bool (okB a b)) ∧ Below w.heap.size w w' := by
 go_enter Tryz.func80, Tryz.ntmps80
 go_wp2_with (go_at_call 105; refine (sOk_any _ _ _).mono ?_; rintro e w' ⟨rfl, hb⟩; (try rw [below_drew] at hb); obtain ⟨hc, hf, hm, hs⟩ := bcell4 hb; have hz0 : w.heap.size < w'.heap.size := (by have := hb.size; (try simp at this); omega); have hl0 := Nat.le_of_lt hz0)
 go_ret
 exact ⟨rfl, (by repeat (first | with_reducible exact Below.refl _ _ | (with_reducible refine bl_set2 ?_ ?_ _; (first | (simp; done) | (simp [*]; done) | (simp [*] <;> omega))) | with_reducible refine bl_drew ?_ | with_reducible refine bl_alloc ?_ _ | with_reducible refine below_step ?_ (by assumption) | with_reducible assumption))⟩
set_option maxHeartbeats 400000 in
theorem iVok_any (a b : Int) (s : Bool) (w : World) : Calls Tryz.prog 137 #[.agg #[.int .i64 a, .int .i64 b, .bool s]] w fun e w' => e = .returned (.bool (okB a b)) ∧ Below w.heap.size w w' := by
 go_enter Tryz.func137, Tryz.ntmps137
 go_wp2_with (go_at_call 141; refine (iOk_any _ _ _).mono ?_; rintro e w' ⟨rfl, hb⟩; (try rw [below_drew] at hb); obtain ⟨hc, hf, hm, hs⟩ := bcell4 hb; have hz0 : w.heap.size < w'.heap.size := (by have := hb.size; (try simp at this); omega); have hl0 := Nat.le_of_lt hz0)
 go_ret
 exact ⟨rfl, (by repeat (first | with_reducible exact Below.refl _ _ | (with_reducible refine bl_set2 ?_ ?_ _; (first | (simp; done) | (simp [*]; done) | (simp [*] <;> omega))) | with_reducible refine bl_drew ?_ | with_reducible refine bl_alloc ?_ _ | with_reducible refine below_step ?_ (by assumption) | with_reducible assumption))⟩
set_option maxHeartbeats 400000 in
theorem iVnone_any (w : World) : Calls Tryz.prog 62 #[] w fun e w' => e = .returned (.agg #[.int .i64 1, .int .i64 0, .bool true]) ∧ Below w.heap.size w w' := by
 go_enter Tryz.func62, Tryz.ntmps62
 go_wp2_with (go_at_call 103; refine (iNone_any _).mono ?_; rintro e w' ⟨rfl, hb⟩; (try rw [below_drew] at hb); obtain ⟨hc, hf, hm, hs⟩ := bcell4 hb; have hz0 : w.heap.size < w'.heap.size := (by have := hb.size; (try simp at this); omega); have hl0 := Nat.le_of_lt hz0)
 exact bodyPost_ret (v := .agg #[.int .i64 1, .int .i64 0, .bool true]) (by simp [results, Tryz.results62, go_sem, *]) rfl ⟨rfl, (by repeat (first | with_reducible exact Below.refl _ _ | (with_reducible refine bl_set2 ?_ ?_ _; (first | (simp; done) | (simp [*]; done) | (simp [*] <;> omega))) | with_reducible refine bl_drew ?_ | with_reducible refine bl_alloc ?_ _ | with_reducible refine below_step ?_ (by assumption) | with_reducible assumption))⟩
end Go.Proofs.YtihpajiololfoaaGreat
namespace Go.Proofs.YtihpajiololfoaaGreat
open Go.RowKit

theorem ft {p : Prop} (e : false = true) : p := by cases e
theorem tf {p : Prop} (e : true = false) : p := by cases e
/-- What an operation waits for has come up. -/
def metB (o : Oper) (L : Array Bool) : Bool := o.after.all fun e => !Region.binds .any e || L.getD e.on false
/-- Each of the operations from number k on may come up wherever the invariant holds, and leaves it. -/
def StepsI (P : Program) (ops : Array Oper) (Q : Exit → Act → World → Prop) (I : Array Bool → Act → World → Prop) (k : Nat) : Prop :=
 ∀ i, k ≤ i → i < ops.size → ∀ L a w, I L a w → i ∈ Region.ready .any ops L → wpOp P ops Q i (fun a' w' => I (L.setIfInBounds i true) a' w') a w
theorem StepsI.nil {P : Program} {ops : Array Oper} {Q : Exit → Act → World → Prop} {I : Array Bool → Act → World → Prop} {k : Nat} (h : ops.size = k) : StepsI P ops Q I k := fun i h1 h2 => by omega
theorem StepsI.cons {P : Program} {ops : Array Oper} {Q : Exit → Act → World → Prop} {I : Array Bool → Act → World → Prop} {k : Nat} {o : Oper} (ho : ops[k]? = some o)
  (h : ∀ L a w, I L a w → L.getD k true = false → metB o L = true → ∀ K' : Act → World → Prop, Shut (∀ a w, I (L.setIfInBounds k true) a w → K' a w) → if Region.wanted o (yielded ops a.tmps) = true then Oper.wp P o a w K' Q else K' (a.put o.dst undef) w)
  (hs : StepsI P ops Q I (k + 1)) : StepsI P ops Q I k := fun i h1 h2 L a w hI hr => by
 by_cases e : i = k
 ·subst e
  obtain ⟨hL, o', ho', hall⟩ := mem_ready.1 hr
  obtain rfl : o = o' := Option.some.inj (ho.symm.trans ho')
  refine wpOp_step ho fun K' hK => h L a w hI hL ?_ K' hK
  unfold metB
  rw [Array.all_eq_true']
  intro e he
  cases hb : Region.binds .any e
  ·rfl
  ·rw [hall e he hb]; rfl
 ·exact hs i (by omega) h2 L a w hI hr
/-- How many have not come up. -/
def left (n : Nat) (L : Array Bool) : Nat := ((List.range n).filter fun i => !L.getD i true).length
theorem left_next {n i : Nat} {L : Array Bool} (hi : i < n) (h : L.getD i true = false) : left n (L.setIfInBounds i true) < left n L := by
 unfold left
 have hsub : ∀ (l : List Nat), (l.filter fun j => !(L.setIfInBounds i true).getD j true).length ≤ (l.filter fun j => !L.getD j true).length ∧ (i ∈ l → (l.filter fun j => !(L.setIfInBounds i true).getD j true).length < (l.filter fun j => !L.getD j true).length) := by
  intro l
  induction l with
  | nil => exact ⟨by simp, fun h => by cases h⟩
  | cons j l ih =>
   have hj : (L.setIfInBounds i true).getD j true = if j = i then true else L.getD j true := by
    by_cases e : j = i
    ·subst e
     rw [if_pos rfl]
     simp only [Array.getD_eq_getD_getElem?, Array.getElem?_setIfInBounds]
     by_cases hs : j < L.size
     ·simp [hs]
     ·simp [hs]
    ·rw [if_neg e]
     simp only [Array.getD_eq_getD_getElem?, Array.getElem?_setIfInBounds]
     rw [if_neg (fun h => e h.symm)]
   have h1 := ih.1
   by_cases e : j = i
   ·subst e
    rw [if_pos rfl] at hj
    rw [List.filter_cons_of_neg (by rw [hj]; decide), List.filter_cons_of_pos (by rw [h]; rfl), List.length_cons]
    exact ⟨by omega, fun _ => by omega⟩
   ·rw [if_neg e] at hj
    have h2 := ih.2
    cases hL : L.getD j true
    ·rw [List.filter_cons_of_pos (by rw [hj, hL]; rfl), List.filter_cons_of_pos (by rw [hL]; rfl), List.length_cons, List.length_cons]
     exact ⟨by omega, fun hm => by have := h2 (by rcases List.mem_cons.1 hm with h | h; exact absurd h.symm e; exact h); omega⟩
    ·rw [List.filter_cons_of_neg (by rw [hj, hL]; decide), List.filter_cons_of_neg (by rw [hL]; decide)]
     exact ⟨h1, fun hm => h2 (by rcases List.mem_cons.1 hm with h | h; exact absurd h.symm e; exact h)⟩
 exact (hsub _).2 (List.mem_range.2 hi)
theorem wpAny_inv {P : Program} {ops : Array Oper} {Q : Exit → Act → World → Prop} {I : Array Bool → Act → World → Prop} (hs : StepsI P ops Q I 0)
  (he : ∀ L a w, I L a w → Region.ready .any ops L = [] → Q .normal a w) : ∀ (fuel : Nat) L a w, left ops.size L ≤ fuel → I L a w → wpAny P .any ops Q fuel L a w
 | 0, L, a, w, hf, hI => by
  have hr : Region.ready .any ops L = [] := List.eq_nil_iff_forall_not_mem.2 fun i hi => by
   obtain ⟨hL, o, ho, _⟩ := mem_ready.1 hi
   have := left_next (Array.getElem?_eq_some_iff.1 ho).1 hL
   omega
  exact ⟨hr, he L a w hI hr⟩
 | fuel + 1, L, a, w, hf, hI => by
  refine ⟨fun h => he L a w hI h, fun i hi => ?_⟩
  obtain ⟨hL, o, ho, _⟩ := mem_ready.1 hi
  have hi' := (Array.getElem?_eq_some_iff.1 ho).1
  have hlt := left_next hi' hL
  exact wpOp_mono (fun a' w' h => wpAny_inv hs he fuel _ a' w' (by omega) h) (hs i (Nat.zero_le _) hi' L a w hI hi)
/-- THE RULE. -/
theorem wp_region_inv {P : Program} {ops : Array Oper} {Q : Exit → Act → World → Prop} {id : Nat} {a : Act} {w : World} (I : Array Bool → Act → World → Prop) (hm : P.follows .mixedOrders = true)
  (h0 : I (Array.replicate ops.size false) a w.drew) (hs : StepsI P ops Q I 0) (he : ∀ L a w, I L a w → Region.ready .any ops L = [] → Q .normal a w) : (Code.region id ops true).wp P Q a w :=
 wp_region_any hm (wpAny_inv hs he _ _ _ _ (by
  unfold left
  refine Nat.le_trans (List.length_filter_le _ _) ?_
  simp) h0)

/-- No operation waits for a later one. -/
def forthB (ops : Array Oper) : Bool := (List.range ops.size).all fun i => match ops[i]? with | some o => o.after.all fun e => !Region.binds .any e || decide (e.on < i) | none => true
/-- Where none may come up all have. -/
theorem all_up {ops : Array Oper} {L : Array Bool} (hf : forthB ops = true) {N : Nat} (hN : ops.size = N) (hr : Region.ready .any ops L = []) : ∀ i, i < N → L.getD i false = true ∨ L.size ≤ i := by
 subst hN
 intro i
 induction i using Nat.strongRecOn with
 | ind i ih =>
  intro hi
  by_cases hs : L.size ≤ i
  ·exact .inr hs
  ·refine .inl ?_
   cases hL : L.getD i false with
   | true => rfl
   | false =>
    exfalso
    have hL' : L.getD i true = false := by
     simp only [Array.getD_eq_getD_getElem?] at hL ⊢
     rw [Array.getElem?_eq_getElem (by omega)] at hL ⊢
     exact hL
    have hf' := List.all_eq_true.1 hf i (List.mem_range.2 hi)
    rw [Array.getElem?_eq_getElem hi] at hf'
    have : i ∈ Region.ready .any ops L := mem_ready.2 ⟨hL', ops[i], Array.getElem?_eq_getElem hi, fun e he hbd => by
     have h0 := Array.all_eq_true'.1 hf' e he
     rw [hbd] at h0
     have h1 := of_decide_eq_true (by simpa using h0 : decide (e.on < i) = true)
     rcases ih e.on h1 (by omega) with h | h
     ·exact h
     ·omega⟩
    rw [hr] at this
    cases this
/-- Temporaries that have been put anew. -/
def puts (a : Act) : List (Nat × Value) → Act
 | [] => a
 | (t, v) :: l => puts (a.put (some t) v) l
/-- THE RULE, the state at the region's beginning handed to the invariant. -/
theorem wp_region_inv2 {P : Program} {ops : Array Oper} {Q : Exit → Act → World → Prop} {id : Nat} {a : Act} {w : World} (I : Act → Array Bool → Act → World → Prop) (hm : P.follows .mixedOrders = true)
  (h0 : I a (Array.replicate ops.size false) a w.drew) (hs : StepsI P ops Q (I a) 0) (he : ∀ L a' v, I a L a' v → Region.ready .any ops L = [] → Q .normal a' v) : (Code.region id ops true).wp P Q a w :=
 wp_region_inv (I a) hm h0 hs he

/-- A Val in a block that may be written. -/
structure V3 (v : World) (X : Nat) (a b : Int) (s : Bool) : Prop where
 c0 : v.cell? ⟨X, 0, none⟩ = some (.int .i64 a)
 c1 : v.cell? ⟨X, 1, none⟩ = some (.int .i64 b)
 c2 : v.cell? ⟨X, 2, none⟩ = some (.bool s)
 f0 : v.frozen? ⟨X, 0, none⟩ = false
 f1 : v.frozen? ⟨X, 1, none⟩ = false
 f2 : v.frozen? ⟨X, 2, none⟩ = false
theorem V3.lt {v : World} {X : Nat} {a b : Int} {s : Bool} (h : V3 v X a b s) : X < v.heap.size := World.block_lt_of_cell? v _ h.c0
theorem V3.below {v v' : World} {X : Nat} {a b : Int} {s : Bool} (h : V3 v X a b s) (hb : Below v.heap.size v v') : V3 v' X a b s := by
 obtain ⟨hc, hf⟩ := bcell hb
 have hl := h.lt
 exact ⟨(hc _ _ hl).trans h.c0, (hc _ _ hl).trans h.c1, (hc _ _ hl).trans h.c2, (hf _ _ hl).trans h.f0, (hf _ _ hl).trans h.f1, (hf _ _ hl).trans h.f2⟩
theorem V3.drew {v : World} {X : Nat} {a b : Int} {s : Bool} (h : V3 v X a b s) : V3 v.drew X a b s := ⟨h.c0, h.c1, h.c2, h.f0, h.f1, h.f2⟩
theorem V3.new (w : World) (a b : Int) (s : Bool) (T : TypeId) : V3 (w.alloc (.cells #[.int .i64 a, .int .i64 b, .bool s] T)) w.heap.size a b s := by
 constructor <;> simp [go_sem]
theorem V3.set {v : World} {X : Nat} {a b : Int} {s : Bool} (h : V3 v X a b s) (c d : Int) (t : Bool) : V3 (((v.setCell ⟨X, 0, none⟩ (.int .i64 c)).setCell ⟨X, 1, none⟩ (.int .i64 d)).setCell ⟨X, 2, none⟩ (.bool t)) X c d t := by
 obtain ⟨c0, c1, c2, f0, f1, f2⟩ := h
 constructor <;> simp [go_sem, *]
/-- Facts on temporaries: operation k, if it has come up, has left the k-th value in slot m + k. -/
def FF (m : Nat) (vs : List Value) (zB : Nat → Bool) (zS : Nat → Value) : Prop := ∀ k v, vs[k]? = some v → zB k = true → zS (m + k) = v
def ups (zB : Nat → Bool) : List Nat → Nat → Bool
 | [], j => zB j
 | k :: r, j => if j = k then true else ups zB r j
def upv (m : Nat) (vs : List Value) (zS : Nat → Value) : List Nat → Nat → Value
 | [], d => zS d
 | k :: r, d => if d = m + k then (match vs[k]? with | some v => v | none => zS d) else upv m vs zS r d
theorem ff0 {m : Nat} {vs : List Value} {zS : Nat → Value} : FF m vs (fun _ => false) zS := fun _ _ _ e => ft e
theorem ups_or {zB : Nat → Bool} : ∀ {ks : List Nat} {k : Nat}, ups zB ks k = true → k ∈ ks ∨ zB k = true
 | [], _, h => .inr h
 | k' :: r, k, h => by
  unfold ups at h
  split at h
  ·exact .inl (by simp [*])
  ·rcases ups_or h with h | h
   ·exact .inl (List.mem_cons_of_mem _ h)
   ·exact .inr h
theorem upv_in {m : Nat} {vs : List Value} {zS : Nat → Value} {k : Nat} {v : Value} (hv : vs[k]? = some v) : ∀ {ls : List Nat}, k ∈ ls ∨ zS (m + k) = v → upv m vs zS ls (m + k) = v
 | [], h => by simpa [upv] using h
 | k' :: r, h => by
  unfold upv
  split
  ·rename_i e
   have : k = k' := by omega
   subst this
   rw [hv]
  ·rename_i e
   refine upv_in hv ?_
   rcases h with h | h
   ·rcases List.mem_cons.1 h with h | h
    ·subst h; exact absurd rfl e
    ·exact .inl h
   ·exact .inr h
theorem rk {m : Nat} {vs : List Value} {zB : Nat → Bool} {zS : Nat → Value} {ks ls : List Nat} (h : FF m vs zB zS) (hk : (ks.all fun k => ls.contains k || Nat.ble vs.length k) = true) : FF m vs (ups zB ks) (upv m vs zS ls) := by
 intro k v hv hb
 refine upv_in hv ?_
 rcases ups_or hb with hm | hm
 ·have := List.all_eq_true.1 hk k hm
  rcases Bool.or_eq_true _ _ ▸ this with e | e
  ·exact .inl (by simpa using e)
  ·have := (List.getElem?_eq_some_iff.1 hv).1
   have := Nat.le_of_ble_eq_true e
   omega
 ·exact .inr (h k v hv hm)
/-- What an operation waits for has come up. -/
theorem mt {o : Oper} {L : Array Bool} (k : Nat) (h : metB o L = true) (hk : (o.after.any fun e => Region.binds .any e && e.on == k) = true) : L.getD k false = true := by
 unfold metB at h
 rw [Array.any_eq_true'] at hk
 obtain ⟨e, he, hb⟩ := hk
 have := Array.all_eq_true'.1 h e he
 simp only [Bool.and_eq_true, beq_iff_eq] at hb
 rw [hb.1, hb.2] at this
 simpa using this
theorem pE : (∀ a, puts a [] = a) ∧ (∀ a t v l, puts a ((t, v) :: l) = puts (a.put (some t) v) l) ∧ (∀ t ds d v, Act.put ⟨t, ds⟩ (some d) v = ⟨t.setIfInBounds d v, ds⟩) ∧ (∀ (l : List Value) i a, l.toArray.setIfInBounds i a = (l.set i a).toArray) ∧ (∀ (a : Value) l b, (a :: l).set 0 b = b :: l) ∧ (∀ (a : Value) l i b, (a :: l).set (i + 1) b = a :: l.set i b) :=
 ⟨fun _ => rfl, fun _ _ _ _ => rfl, fun _ _ _ _ => rfl, List.setIfInBounds_toArray, fun _ _ _ => rfl, fun _ _ _ _ => rfl⟩
end Go.Proofs.YtihpajiololfoaaGreat
