/-
  CONTRACTS of the leaves of ranges: bounds, none, tests, of the program and of the specification.
  MODELS of the functions on ranges (plain), CONTRACTS of the specification's.
  TWO RANGES COMPARED, the greater and the less of two numbers: each as one step.
  CONTRACTS of the program's functions on ranges: RangeOk, RangeHas, spanOf, cutDown, RangeMeet, RangeNeg, RangeAdd.
  WHAT A CALL LEAVES AS IT WAS, as rules for the walk.
  CONTRACTS of the specification's RangeAdd, RangeSub, RangeMul, RangeMeet, RangeJoin.
  GUARDS: models (plain); CONTRACTS of l02IsCond, l06Without of the specification, guardLess, withoutOnly of the program.
  VALS: taken over, compared, ok, what they have; no cell.
-/
import Derived.Test.YtihpajiololfoaaGreatRows
import Derived.WalkKit
import Derived.WalkSpells
import Derived.WalkLawsBesides
import Derived.Deep.RegionHeld3
import Derived.Deep.RegionWith
import Derived.Below
import Derived.ChangeOld
import Derived.Laws.StructEq
import Derived.Deep.QuietTactic
namespace Go.Proofs.YtihpajiololfoaaGreat
open Go.RowKit

theorem mkHid {p : Prop} (h : p) : Hid p := h
def valB (n : Int) : Bool := decide (-1000000 ≤ n ∧ n ≤ 1000000)
def btw (a lo hi : Int) : Bool := decide (lo ≤ a ∧ a ≤ hi)
def isB (a b : Int) : Bool := decide (a ≤ b)
def someB (a b : Int) : Bool := decide (-1000000 ≤ a ∧ a ≤ b ∧ b ≤ 1000000)
def okB (a b : Int) : Bool := decide (a = 1 ∧ b = 0 ∨ -1000000 ≤ a ∧ a ≤ b ∧ b ≤ 1000000)
theorem ret_bool {a b : Bool} (h : a = b) : Ending.returned (.bool a) = .returned (.bool b) := by rw [h]
theorem ret_int {k : IntKind} {a b : Int} (h : a = b) : Ending.returned (.int k a) = .returned (.int k b) := by rw [h]
theorem bcell {W w1 : World} (hb : Below W.heap.size W w1) : (∀ b o, b < W.heap.size → w1.cell? ⟨b, o, none⟩ = W.cell? ⟨b, o, none⟩) ∧ (∀ b o, b < W.heap.size → w1.frozen? ⟨b, o, none⟩ = W.frozen? ⟨b, o, none⟩) :=
 ⟨fun b o h => hb.cell (p := ⟨b, o, none⟩) h, fun b o h => hb.frozen (p := ⟨b, o, none⟩) h⟩

theorem between_any (a lo hi : Int) (w : World) : Calls Tryz.prog 95 #[.int .i64 a, .int .i64 lo, .int .i64 hi] w fun e w' => e = .returned (.bool (btw a lo hi)) ∧ w = w' := by
 unfold btw
 go_enter Tryz.func95, Tryz.ntmps95
 go_wp2
 all_goals (go_ret; exact ⟨ret_bool (by simp_all <;> omega), rfl⟩)
theorem isBetween_any (a lo hi : Int) (w : World) : Calls Tryz.prog 129 #[.int .i64 a, .int .i64 lo, .int .i64 hi] w fun e w' => e = .returned (.bool (btw a lo hi)) ∧ w = w' := by
 unfold btw
 go_enter Tryz.func129, Tryz.ntmps129
 go_wp2
 all_goals (go_ret; exact ⟨ret_bool (by simp_all <;> omega), rfl⟩)
theorem btw_val (n : Int) : btw n (-1000000) 1000000 = valB n := rfl
theorem sVal_any (n : Int) (w : World) : Calls Tryz.prog 140 #[.int .i64 n] w fun e w' => e = .returned (.bool (valB n)) ∧ w = w' := by
 go_enter Tryz.func140, Tryz.ntmps140
 go_wp2_with (go_at_call 95; refine (between_any _ _ _ _).mono ?_; rintro e w' ⟨rfl, rfl⟩)
 go_ret
 exact ⟨ret_bool (btw_val n), rfl⟩
theorem sIs_any (a b : Int) (w : World) : Calls Tryz.prog 106 #[.agg #[.int .i64 a, .int .i64 b]] w fun e w' => e = .returned (.bool (isB a b)) ∧ Below w.heap.size w w' := by
 unfold isB
 go_enter Tryz.func106, Tryz.ntmps106
 go_wp2
 go_ret
 exact ⟨rfl, (Below.refl _ _).alloc (Nat.le_refl _) _⟩
theorem iNone_any (w : World) : Calls Tryz.prog 103 #[] w fun e w' => e = .returned (.agg #[.int .i64 1, .int .i64 0]) ∧ Below w.heap.size w w' := by
 go_enter Tryz.func103, Tryz.ntmps103
 go_wp2
 exact bodyPost_ret (v := .agg #[.int .i64 1, .int .i64 0]) (by simp [results, Tryz.results103, go_sem]) rfl ⟨rfl, (Below.refl _ _).alloc (Nat.le_refl _) _⟩
set_option maxHeartbeats 400000 in
theorem isSome_any (a b : Int) (w : World) : Calls Tryz.prog 67 #[.agg #[.int .i64 a, .int .i64 b]] w fun e w' => e = .returned (.bool (someB a b)) ∧ Below w.heap.size w w' := by
 unfold someB
 go_enter Tryz.func67, Tryz.ntmps67
 go_wp2
 all_goals (go_ret; exact ⟨ret_bool (by simp_all <;> omega), (Below.refl _ _).alloc (Nat.le_refl _) _⟩)
set_option maxHeartbeats 400000 in
theorem toRange_any (a b : Int) (w : World) : Calls Tryz.prog 26 #[.agg #[.int .i64 a, .int .i64 b]] w fun e w' => e = .returned (.agg #[.int .i64 a, .int .i64 b]) ∧ Below w.heap.size w w' := by
 go_enter Tryz.func26, Tryz.ntmps26
 go_wp2
 exact bodyPost_ret (v := .agg #[.int .i64 a, .int .i64 b]) (by simp [results, Tryz.results26, go_sem]) rfl ⟨rfl, (((Below.refl _ _).alloc (Nat.le_refl _) _).alloc (by simp) _).alloc (by simp; omega) _⟩
set_option maxHeartbeats 400000 in
theorem eqRange_same (a b : Int) (w : World) : Calls Tryz.prog 64 #[.agg #[.int .i64 a, .int .i64 b], .agg #[.int .i64 a, .int .i64 b]] w fun e w' => e = .returned (.bool true) ∧ Below w.heap.size w w' := by
 go_enter Tryz.func64, Tryz.ntmps64
 go_wp2
 go_ret
 exact ⟨rfl, ((Below.refl _ _).alloc (Nat.le_refl _) _).alloc (by simp) _⟩
end Go.Proofs.YtihpajiololfoaaGreat
namespace Go.Proofs.YtihpajiololfoaaGreat
open Go.RowKit

theorem below_step {w a b : World} (h : Below w.heap.size w a) (hb : Below a.heap.size a b) : Below w.heap.size w b := h.trans (hb.mono h.size)
theorem bl_alloc {w a : World} (h : Below w.heap.size w a) (o : Obj) : Below w.heap.size w (a.alloc o) := h.alloc h.size o
theorem bl_set {w a : World} {p : Addr} (h : Below w.heap.size w a) (hp : w.heap.size ≤ p.block) (u : Value) : Below w.heap.size w (a.setCell p u) := h.setCell hp u
theorem bl_drew {w a : World} (h : Below w.heap.size w a) : Below w.heap.size w a.drew := h.drew
theorem some_iff {a b : Int} : someB a b = true ↔ -1000000 ≤ a ∧ a ≤ b ∧ b ≤ 1000000 := by unfold someB; simp
theorem ok_iff {a b : Int} : okB a b = true ↔ (a = 1 ∧ b = 0 ∨ -1000000 ≤ a ∧ a ≤ b ∧ b ≤ 1000000) := by unfold okB; simp
set_option maxHeartbeats 400000 in
theorem sOk_any (a b : Int) (w : World) : Calls Tryz.prog 105 #[.agg #[.int .i64 a, .int .i64 b]] w fun e w' => e = .returned (.bool (okB a b)) ∧ Below w.heap.size w w' := by
 by_cases hn : a = 1 ∧ b = 0
 ·obtain ⟨rfl, rfl⟩ := hn
  go_enter Tryz.func105, Tryz.ntmps105
  go_wp2
  go_ret
  exact ⟨ret_bool (by decide), (by repeat (first | exact Below.refl _ _ | refine bl_set ?_ (by simp) _ | refine bl_alloc ?_ _ | refine bl_drew ?_ | refine below_step ?_ (by assumption)))⟩
 ·have e0 : okB a b = (isB a b && (valB a && valB b)) := by
   rw [Bool.eq_iff_iff]; unfold okB isB valB; simp; omega
  by_cases h4 : a = 1
  ·subst h4
   have h5 : ¬ b = 0 := fun e => hn ⟨rfl, e⟩
   clear hn
   cases h1 : isB 1 b <;> cases h3 : valB b
   all_goals
    simp only [h1, h3] at e0
    have e1 := mkHid e0
    clear e0
    have h2 : valB 1 = true := by decide
    go_enter Tryz.func105, Tryz.ntmps105
    go_wp2_with (first | (go_at_call 106; refine (sIs_any _ _ _).mono ?_; rintro e w' ⟨rfl, hb⟩; obtain ⟨hc, hf⟩ := bcell hb; have hz0 : w.heap.size < w'.heap.size := by have := hb.size; (try simp at this); omega) | (go_at_call 140; refine (sVal_any _ _).mono ?_; rintro e w' ⟨rfl, rfl⟩))
    go_ret
    exact ⟨ret_bool (by rw [e1.out]; first | rfl | simp [*] | (simp; omega)), (by repeat (first | exact Below.refl _ _ | refine bl_set ?_ (by simp) _ | refine bl_alloc ?_ _ | refine bl_drew ?_ | refine below_step ?_ (by assumption)))⟩
  ·clear hn
   cases h1 : isB a b <;> cases h2 : valB a <;> cases h3 : valB b
   all_goals
    simp only [h1, h2, h3] at e0
    have e1 := mkHid e0
    clear e0
    go_enter Tryz.func105, Tryz.ntmps105
    go_wp2_with (first | (go_at_call 106; refine (sIs_any _ _ _).mono ?_; rintro e w' ⟨rfl, hb⟩; obtain ⟨hc, hf⟩ := bcell hb; have hz0 : w.heap.size < w'.heap.size := by have := hb.size; (try simp at this); omega) | (go_at_call 140; refine (sVal_any _ _).mono ?_; rintro e w' ⟨rfl, rfl⟩))
    go_ret
    exact ⟨ret_bool (by rw [e1.out]; first | rfl | simp [*] | (simp; omega)), (by repeat (first | exact Below.refl _ _ | refine bl_set ?_ (by simp) _ | refine bl_alloc ?_ _ | refine bl_drew ?_ | refine below_step ?_ (by assumption)))⟩
end Go.Proofs.YtihpajiololfoaaGreat
namespace Go.Proofs.YtihpajiololfoaaGreat
open Go.RowKit

def eqB (a b c d : Int) : Bool := decide (a = c ∧ b = d)
theorem eql_rng (w : World) (a b c d : Int) : (Go.binOp .eql 53 (.agg #[.int .i64 a, .int .i64 b]) (.agg #[.int .i64 c, .int .i64 d])).run Tryz.prog w = .ok (.bool (eqB a b c d)) w := by
 have u3 := Tryz.underlying3
 have a3 := Tryz.isAgg3
 have z3 := Tryz.sizeOf3
 have hS : Tryz.prog.underlying 53 = some (.struct (Tryz.prog.fieldsOf 53)) := by kernel_rfl
 have hp : Tryz.prog.stoodInHeld 53 = false := by kernel_rfl
 rw [run_eql_struct, show (10000 : Nat) = 9999 + 1 from rfl, run_equalIn_agg w 9999 53 _ _ hS hp]
 simp only [Program.fieldsOf, Tryz.underlying53]
 go_simp
 unfold eqB
 by_cases h1 : a = c <;> by_cases h2 : b = d <;> simp [h1, h2]
theorem run_max_M {P : Program} (w : World) (ts : Array TypeId) (t : TypeId) (x y : Int) : (Builtin.max_ ts t #[.int .i64 x, .int .i64 y]).run P w = .ok (.int .i64 (max x y)) w := by
 rw [run_max_int2]
 by_cases h : y > x
 ·rw [if_pos h, show max x y = y by omega]
 ·rw [if_neg h, show max x y = x by omega]
theorem run_min_M {P : Program} (w : World) (ts : Array TypeId) (t : TypeId) (x y : Int) : (Builtin.min_ ts t #[.int .i64 x, .int .i64 y]).run P w = .ok (.int .i64 (min x y)) w := by
 rw [run_min_int2]
 by_cases h : y < x
 ·rw [if_pos h, show min x y = y by omega]
 ·rw [if_neg h, show min x y = x by omega]
end Go.Proofs.YtihpajiololfoaaGreat
namespace Go.Proofs.YtihpajiololfoaaGreat
open Go.RowKit

set_option maxHeartbeats 400000 in
theorem iOk_any (a b : Int) (w : World) : Calls Tryz.prog 141 #[.agg #[.int .i64 a, .int .i64 b]] w fun e w' => e = .returned (.bool (okB a b)) ∧ Below w.heap.size w w' := by
 have g0 : w.heap.size < (w.alloc (.cells #[.int .i64 a, .int .i64 b] 53)).heap.size := by simp
 have p0 : (w.alloc (.cells #[.int .i64 a, .int .i64 b] 53)).cell? ⟨w.heap.size, 0, none⟩ = some (.int .i64 a) := by simp [go_sem]
 have p1 : (w.alloc (.cells #[.int .i64 a, .int .i64 b] 53)).cell? ⟨w.heap.size, 1, none⟩ = some (.int .i64 b) := by simp [go_sem]
 have e0 : okB a b = (eqB a b 1 0 || someB a b) := by
  rw [Bool.eq_iff_iff, Bool.or_eq_true, ok_iff, some_iff]; unfold eqB; simp
 have hund : undef = Value.tuple #[] := rfl
 cases h1 : eqB a b 1 0
 ·rw [h1] at e0
  have E := mkHid e0
  clear e0
  have hEq := eql_rng
  have hMx := @run_max_M Tryz.prog
  have hMn := @run_min_M Tryz.prog
  go_enter Tryz.func141, Tryz.ntmps141
  go_wp2
  go_region_held3 (fun v => v.cell? ⟨w.heap.size, 0, none⟩ = some (.int .i64 a) ∧ v.cell? ⟨w.heap.size, 1, none⟩ = some (.int .i64 b))
   (first | exact ⟨p0, p1⟩ | assumption | exact ⟨(hc _ _ g0).trans p0, (hc _ _ g0).trans p1⟩ | exact ⟨(hc _ _ hz0).trans p0, (hc _ _ hz0).trans p1⟩ | (simp [*, go_sem]; done))
   (first | (go_at_call 103; refine (iNone_any _).mono ?_; rintro e w' ⟨rfl, hb⟩; obtain ⟨hc, hf⟩ := bcell hb; have hz0 : w.heap.size < w'.heap.size := (by have := hb.size; (try simp at this); omega)) | (go_at_call 67; refine (isSome_any _ _ _).mono ?_; rintro e w' ⟨rfl, hb⟩; obtain ⟨hc, hf⟩ := bcell hb; have hz0 : w.heap.size < w'.heap.size := (by have := hb.size; (try simp at this); omega)))
  all_goals
   go_wp2
   go_ret
   exact ⟨ret_bool (E.out.trans (Bool.false_or _)).symm, (by repeat (first | exact Below.refl _ _ | refine bl_set ?_ (by simp <;> omega) _ | refine bl_alloc ?_ _ | refine bl_drew ?_ | refine below_step ?_ (by assumption)))⟩
 ·rw [h1] at e0
  have E := mkHid e0
  clear e0
  have hEq := eql_rng
  have hMx := @run_max_M Tryz.prog
  have hMn := @run_min_M Tryz.prog
  go_enter Tryz.func141, Tryz.ntmps141
  go_wp2
  first | (go_region_with (first | (go_at_call 103; refine (iNone_any _).mono ?_; rintro e w' ⟨rfl, hb⟩; obtain ⟨hc, hf⟩ := bcell hb; have hz0 : w.heap.size < w'.heap.size := (by have := hb.size; (try simp at this); omega)) | (go_at_call 67; refine (isSome_any _ _ _).mono ?_; rintro e w' ⟨rfl, hb⟩; obtain ⟨hc, hf⟩ := bcell hb; have hz0 : w.heap.size < w'.heap.size := (by have := hb.size; (try simp at this); omega)))) | fail
  all_goals
   go_wp2
   go_ret
   exact ⟨ret_bool (E.out.trans (Bool.true_or _)).symm, (by repeat (first | exact Below.refl _ _ | refine bl_set ?_ (by simp <;> omega) _ | refine bl_alloc ?_ _ | refine bl_drew ?_ | refine below_step ?_ (by assumption)))⟩
end Go.Proofs.YtihpajiololfoaaGreat
namespace Go.Proofs.YtihpajiololfoaaGreat
open Go.RowKit

theorem bcell4 {W w1 : World} (hb : Below W.heap.size W w1) : (∀ b o, b < W.heap.size → w1.cell? ⟨b, o, none⟩ = W.cell? ⟨b, o, none⟩) ∧ (∀ b o, b < W.heap.size → w1.frozen? ⟨b, o, none⟩ = W.frozen? ⟨b, o, none⟩) ∧ (∀ b, b < W.heap.size → b < w1.heap.size) ∧ (∀ b, b ≤ W.heap.size → b ≤ w1.heap.size) :=
 ⟨fun b o h => hb.cell (p := ⟨b, o, none⟩) h, fun b o h => hb.frozen (p := ⟨b, o, none⟩) h, fun _ h => Nat.lt_of_lt_of_le h hb.size, fun _ h => Nat.le_trans h hb.size⟩
theorem nlt2 (n : Nat) : n < n + 1 + 1 := by omega
theorem nlt3 (n : Nat) : n < n + 1 + 1 + 1 := by omega
theorem nlt4 (n : Nat) : n < n + 1 + 1 + 1 + 1 := by omega
theorem nle2 (n : Nat) : n ≤ n + 1 + 1 := by omega
theorem nle3 (n : Nat) : n ≤ n + 1 + 1 + 1 := by omega
theorem nle4 (n : Nat) : n ≤ n + 1 + 1 + 1 + 1 := by omega
theorem drew_size (w : World) : w.drew.heap.size = w.heap.size := rfl
theorem bdrew {W w1 : World} (h : Below W.drew.heap.size W.drew w1) : Below W.heap.size W w1 := ⟨h.os, h.tape, h.output, h.size, h.block⟩
theorem below_drew (W w1 : World) : Below W.drew.heap.size W.drew w1 = Below W.heap.size W w1 := propext ⟨bdrew, fun h => ⟨h.os, h.tape, h.output, h.size, h.block⟩⟩
theorem drew_cell (w : World) (a : Addr) : w.drew.cell? a = w.cell? a := rfl
theorem drew_frozen (w : World) (a : Addr) : w.drew.frozen? a = w.frozen? a := rfl
/-- Two numbers in a block that may be written. -/
def Box (v : World) (b : Nat) (x y : Int) : Prop := v.cell? ⟨b, 0, none⟩ = some (.int .i64 x) ∧ v.cell? ⟨b, 1, none⟩ = some (.int .i64 y) ∧ v.frozen? ⟨b, 0, none⟩ = false ∧ v.frozen? ⟨b, 1, none⟩ = false
theorem Box.below {v v' : World} {b : Nat} {x y : Int} (h : Box v b x y) (hb : Below v.heap.size v v') : Box v' b x y := by
 obtain ⟨h0, h1, h2, h3⟩ := h
 have hlt := World.block_lt_of_cell? v _ h0
 exact ⟨(hb.cell (p := ⟨b, 0, none⟩) hlt).trans h0, (hb.cell (p := ⟨b, 1, none⟩) hlt).trans h1, (hb.frozen (p := ⟨b, 0, none⟩) hlt).trans h2, (hb.frozen (p := ⟨b, 1, none⟩) hlt).trans h3⟩
theorem Box.lt {v : World} {b : Nat} {x y : Int} (h : Box v b x y) : b < v.heap.size := World.block_lt_of_cell? v _ h.1
end Go.Proofs.YtihpajiololfoaaGreat
namespace Go.Proofs.YtihpajiololfoaaGreat
open Go.RowKit

end Go.Proofs.YtihpajiololfoaaGreat
namespace Go.Proofs.YtihpajiololfoaaGreat
open Go.RowKit
attribute [local go_sem] nlt2 nlt3 nlt4 nle2 nle3 nle4 drew_size drew_cell drew_frozen

theorem bl_set2 {w a : World} {p : Addr} (hp : w.heap.size ≤ p.block) (h : Below w.heap.size w a) (u : Value) : Below w.heap.size w (a.setCell p u) := h.setCell hp u
end Go.Proofs.YtihpajiololfoaaGreat
namespace Go.Proofs.YtihpajiololfoaaGreat
open Go.RowKit

set_option maxHeartbeats 400000 in
theorem toVal_any (a b : Int) (s : Bool) (w : World) : Calls Tryz.prog 85 #[.agg #[.int .i64 a, .int .i64 b, .bool s]] w fun e w' => e = .returned (.agg #[.int .i64 a, .int .i64 b, .bool s]) ∧ Below w.heap.size w w' := by
 go_enter Tryz.func85, Tryz.ntmps85
 go_wp2_with (go_at_call 26; refine (toRange_any _ _ _).mono ?_; rintro e w' ⟨rfl, hb⟩; (try rw [below_drew] at hb); obtain ⟨hc, hf, hm, hs⟩ := bcell4 hb; have hz0 : w.heap.size < w'.heap.size := (by have := hb.size; (try simp at this); omega); have hl0 := Nat.le_of_lt hz0; have hz1 : w.heap.size + 1 < w'.heap.size := (by have := hb.size; (try simp at this); omega); have hl1 := Nat.le_of_lt hz1; have hz2 : w.heap.size + 1 + 1 < w'.heap.size := (by have := hb.size; (try simp at this); omega); have hl2 := Nat.le_of_lt hz2)
 exact bodyPost_ret (v := .agg #[.int .i64 a, .int .i64 b, .bool s]) (by simp [results, Tryz.results85, go_sem, hc]) rfl ⟨rfl, (by repeat (first | with_reducible exact Below.refl _ _ | (with_reducible refine bl_set2 ?_ ?_ _; (first | (simp; done) | (simp [*]; done) | (simp [*] <;> omega))) | with_reducible refine bl_drew ?_ | with_reducible refine bl_alloc ?_ _ | with_reducible refine below_step ?_ (by assumption) | with_reducible assumption))⟩
set_option maxHeartbeats 400000 in
theorem eqVal_same (a b : Int) (s : Bool) (w : World) : Calls Tryz.prog 24 #[.agg #[.int .i64 a, .int .i64 b, .bool s], .agg #[.int .i64 a, .int .i64 b, .bool s]] w fun e w' => e = .returned (.bool true) ∧ Below w.heap.size w w' := by
 have hs : (s != s) = false := by simp
 go_enter Tryz.func24, Tryz.ntmps24
 go_wp2_with (go_at_call 64; refine (eqRange_same _ _ _).mono ?_; rintro e w' ⟨rfl, hb⟩; (try rw [below_drew] at hb); obtain ⟨hc, hf, hm, hs⟩ := bcell4 hb; have hz0 : w.heap.size < w'.heap.size := (by have := hb.size; (try simp at this); omega); have hl0 := Nat.le_of_lt hz0; have hz1 : w.heap.size + 1 < w'.heap.size := (by have := hb.size; (try simp at this); omega); have hl1 := Nat.le_of_lt hz1)
 go_ret
 exact ⟨rfl, (by repeat (first | with_reducible exact Below.refl _ _ | (with_reducible refine bl_set2 ?_ ?_ _; (first | (simp; done) | (simp [*]; done) | (simp [*] <;> omega))) | with_reducible refine bl_drew ?_ | with_reducible refine bl_alloc ?_ _ | with_reducible refine below_step ?_ (by assumption) | with_reducible assumption))⟩
set_option maxHeartbeats 400000 in
theorem sVok_any (a b : Int) (s : Bool) (w : World) : Calls Tryz.prog 80 #[.agg #[.int .i64 a, .int .i64 b, .bool s]] w fun e w' => e = .returned (.bool (okB a b)) ∧ Below w.heap.size w w' := by
 go_enter Tryz.func80, Tryz.ntmps80
 go_wp2_with (go_at_call 105; refine (sOk_any _ _ _).mono ?_; rintro e w' ⟨rfl, hb⟩; (try rw [below_drew] at hb); obtain ⟨hc, hf, hm, hs⟩ := bcell4 hb; have hz0 : w.heap.size < w'.heap.size := (by have := hb.size; (try simp at this); omega); have hl0 := Nat.le_of_lt hz0)
 go_ret
 exact ⟨rfl, (by repeat (first | with_reducible exact Below.refl _ _ | (with_reducible refine bl_set2 ?_ ?_ _; (first | (simp; done) | (simp [*]; done) | (simp [*] <;> omega))) | with_reducible refine bl_drew ?_ | with_reducible refine bl_alloc ?_ _ | with_reducible refine below_step ?_ (by assumption) | with_reducible assumption))⟩
set_option maxHeartbeats 400000 in
theorem iVok_any (a b : Int) (s : Bool) (w : World) : Calls Tryz.prog 137 #[.agg #[.int .i64 a, .int .i64 b, .bool s]] w fun e w' => e = .returned (.bool (okB a b)) ∧ Below w.heap.size w w' := by
 go_enter Tryz.func137, Tryz.ntmps137
 go_wp2_with (go_at_call 141; refine (iOk_any _ _ _).mono ?_; rintro e w' ⟨rfl, hb⟩; (try rw [below_drew] at hb); obtain ⟨hc, hf, hm, hs⟩ := bcell4 hb; have hz0 : w.heap.size < w'.heap.size := (by have := hb.size; (try simp at this); omega); have hl0 := Nat.le_of_lt hz0)
 go_ret
 exact ⟨rfl, (by repeat (first | with_reducible exact Below.refl _ _ | (with_reducible refine bl_set2 ?_ ?_ _; (first | (simp; done) | (simp [*]; done) | (simp [*] <;> omega))) | with_reducible refine bl_drew ?_ | with_reducible refine bl_alloc ?_ _ | with_reducible refine below_step ?_ (by assumption) | with_reducible assumption))⟩
end Go.Proofs.YtihpajiololfoaaGreat
