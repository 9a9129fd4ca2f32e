/-
  CONTRACTS of the leaves of ranges: bounds, none, tests, of the program and of the specification.
  MODELS of the functions on ranges (plain), CONTRACTS of the specification's.
  WHAT A CALL LEAVES AS IT WAS, as rules for the walk.
  ROWS OF INTS OF ONE'S OWN; CONTRACTS of the law's eqIntS, markIntS, heldIntS, toIntS.
-/
import Derived.Test.YtihpajiololfoaaGreatRows
import Derived.WalkKit
import Derived.WalkSpells
import Derived.WalkLawsBesides
import Derived.Deep.RegionHeld3
import Derived.Deep.RegionWith
import Derived.Below
import Derived.ChangeOld
import Derived.Deep.AppendLies
import Derived.Deep.Onto
import Derived.Deep.QuietTactic
import Derived.BigQuiet
namespace Go.Proofs.YtihpajiololfoaaGreat.Q
open Go.RowKit

theorem mkHid {p : Prop} (h : p) : Hid p := h
def valB (n : Int) : Bool := decide (-1000000 ≤ n ∧ n ≤ 1000000)
def btw (a lo hi : Int) : Bool := decide (lo ≤ a ∧ a ≤ hi)
def isB (a b : Int) : Bool := decide (a ≤ b)
def someB (a b : Int) : Bool := decide (-1000000 ≤ a ∧ a ≤ b ∧ b ≤ 1000000)
def okB (a b : Int) : Bool := decide (a = 1 ∧ b = 0 ∨ -1000000 ≤ a ∧ a ≤ b ∧ b ≤ 1000000)
theorem ret_bool {a b : Bool} (h : a = b) : Ending.returned (.bool a) = .returned (.bool b) := by rw [h]
theorem ret_int {k : IntKind} {a b : Int} (h : a = b) : Ending.returned (.int k a) = .returned (.int k b) := by rw [h]
theorem bcell {W w1 : World} (hb : Below W.heap.size W w1) : (∀ b o, b < W.heap.size → w1.cell? ⟨b, o, none⟩ = W.cell? ⟨b, o, none⟩) ∧ (∀ b o, b < W.heap.size → w1.frozen? ⟨b, o, none⟩ = W.frozen? ⟨b, o, none⟩) :=
  ⟨fun b o h => hb.cell (p := ⟨b, o, none⟩) h, fun b o h => hb.frozen (p := ⟨b, o, none⟩) h⟩

set_option maxRecDepth 100000 in
theorem between_any (a lo hi : Int) (w : World) : Calls Tryz.prog 95 #[.int .i64 a, .int .i64 lo, .int .i64 hi] w fun e w' => e = .returned (.bool (btw a lo hi)) ∧ w = w' := by
  unfold btw
  go_enter Tryz.func95, Tryz.ntmps95
  go_wp2
  all_goals (go_ret; exact ⟨ret_bool (by simp_all <;> omega), rfl⟩)
set_option maxRecDepth 100000 in
theorem isBetween_any (a lo hi : Int) (w : World) : Calls Tryz.prog 129 #[.int .i64 a, .int .i64 lo, .int .i64 hi] w fun e w' => e = .returned (.bool (btw a lo hi)) ∧ w = w' := by
  unfold btw
  go_enter Tryz.func129, Tryz.ntmps129
  go_wp2
  all_goals (go_ret; exact ⟨ret_bool (by simp_all <;> omega), rfl⟩)
theorem btw_val (n : Int) : btw n (-1000000) 1000000 = valB n := rfl
set_option maxRecDepth 100000 in
theorem sVal_any (n : Int) (w : World) : Calls Tryz.prog 140 #[.int .i64 n] w fun e w' => e = .returned (.bool (valB n)) ∧ w = w' := by
  go_enter Tryz.func140, Tryz.ntmps140
  go_wp2_with (go_at_call 95; refine (between_any _ _ _ _).mono ?_; rintro e w' ⟨rfl, rfl⟩)
  go_ret
  exact ⟨ret_bool (btw_val n), rfl⟩
set_option maxRecDepth 100000 in
theorem sIs_any (a b : Int) (w : World) : Calls Tryz.prog 106 #[.agg #[.int .i64 a, .int .i64 b]] w fun e w' => e = .returned (.bool (isB a b)) ∧ Below w.heap.size w w' := by
  unfold isB
  go_enter Tryz.func106, Tryz.ntmps106
  go_wp2
  go_ret
  exact ⟨rfl, (Below.refl _ _).alloc (Nat.le_refl _) _⟩
set_option maxRecDepth 100000 in
theorem sNone_any (w : World) : Calls Tryz.prog 101 #[] w fun e w' => e = .returned (.agg #[.int .i64 1, .int .i64 0]) ∧ Below w.heap.size w w' := by
  go_enter Tryz.func101, Tryz.ntmps101
  go_wp2
  exact bodyPost_ret (v := .agg #[.int .i64 1, .int .i64 0]) (by simp [results, Tryz.results101, go_sem]) rfl ⟨rfl, (Below.refl _ _).alloc (Nat.le_refl _) _⟩
set_option maxRecDepth 100000 in
theorem sMin_any (a b : Int) (w : World) : Calls Tryz.prog 148 #[.int .i64 a, .int .i64 b] w fun e w' => e = .returned (.int .i64 (min a b)) ∧ w = w' := by
  go_enter Tryz.func148, Tryz.ntmps148
  go_wp2
  all_goals (go_ret; exact ⟨ret_int (by omega), rfl⟩)
set_option maxRecDepth 100000 in
theorem sMax_any (a b : Int) (w : World) : Calls Tryz.prog 149 #[.int .i64 a, .int .i64 b] w fun e w' => e = .returned (.int .i64 (max a b)) ∧ w = w' := by
  go_enter Tryz.func149, Tryz.ntmps149
  go_wp2
  all_goals (go_ret; exact ⟨ret_int (by omega), rfl⟩)
set_option maxRecDepth 100000 in
set_option maxHeartbeats 400000 in
theorem isSome_any (a b : Int) (w : World) : Calls Tryz.prog 67 #[.agg #[.int .i64 a, .int .i64 b]] w fun e w' => e = .returned (.bool (someB a b)) ∧ Below w.heap.size w w' := by
  unfold someB
  go_enter Tryz.func67, Tryz.ntmps67
  go_wp2
  all_goals (go_ret; exact ⟨ret_bool (by simp_all <;> omega), (Below.refl _ _).alloc (Nat.le_refl _) _⟩)
set_option maxRecDepth 100000 in
set_option maxHeartbeats 400000 in
theorem toRange_any (a b : Int) (w : World) : Calls Tryz.prog 26 #[.agg #[.int .i64 a, .int .i64 b]] w fun e w' => e = .returned (.agg #[.int .i64 a, .int .i64 b]) ∧ Below w.heap.size w w' := by
  go_enter Tryz.func26, Tryz.ntmps26
  go_wp2
  exact bodyPost_ret (v := .agg #[.int .i64 a, .int .i64 b]) (by simp [results, Tryz.results26, go_sem]) rfl ⟨rfl, (((Below.refl _ _).alloc (Nat.le_refl _) _).alloc (by simp) _).alloc (by simp; omega) _⟩
end Go.Proofs.YtihpajiololfoaaGreat.Q
namespace Go.Proofs.YtihpajiololfoaaGreat.Q
open Go.RowKit

theorem below_step {w a b : World} (h : Below w.heap.size w a) (hb : Below a.heap.size a b) : Below w.heap.size w b := h.trans (hb.mono h.size)
theorem bl_alloc {w a : World} (h : Below w.heap.size w a) (o : Obj) : Below w.heap.size w (a.alloc o) := h.alloc h.size o
theorem bl_set {w a : World} {p : Addr} (h : Below w.heap.size w a) (hp : w.heap.size ≤ p.block) (u : Value) : Below w.heap.size w (a.setCell p u) := h.setCell hp u
theorem bl_drew {w a : World} (h : Below w.heap.size w a) : Below w.heap.size w a.drew := h.drew
theorem ret_rng {p : Int × Int} {x y : Int} (h : p = (x, y)) : Ending.returned (.agg #[.int .i64 x, .int .i64 y]) = .returned (.agg #[.int .i64 p.1, .int .i64 p.2]) := by rw [h]

/-- A range between two ends, none where there is no number between. -/
def spanM (a b : Int) : Int × Int := if b < a then (1, 0) else (a, b)
/-- .. cut down to the bounds. -/
def mkM (a b : Int) : Int × Int := spanM (max a (-1000000)) (min b 1000000)
def bothB (a b c d : Int) : Bool := someB a b && someB c d
def joinM (a b c d : Int) : Int × Int := if okB a b && okB c d then (if isB a b then (if isB c d then (min a c, max b d) else (a, b)) else (c, d)) else (1, 0)
theorem some_iff {a b : Int} : someB a b = true ↔ -1000000 ≤ a ∧ a ≤ b ∧ b ≤ 1000000 := by unfold someB; simp
theorem ok_iff {a b : Int} : okB a b = true ↔ (a = 1 ∧ b = 0 ∨ -1000000 ≤ a ∧ a ≤ b ∧ b ≤ 1000000) := by unfold okB; simp
theorem is_iff {a b : Int} : isB a b = true ↔ a ≤ b := by unfold isB; simp
theorem some_ok {a b : Int} : someB a b = (okB a b && isB a b) := by
  rw [Bool.eq_iff_iff, Bool.and_eq_true, some_iff, ok_iff, is_iff]; omega
set_option maxRecDepth 100000 in
set_option maxHeartbeats 400000 in
theorem sOk_any (a b : Int) (w : World) : Calls Tryz.prog 105 #[.agg #[.int .i64 a, .int .i64 b]] w fun e w' => e = .returned (.bool (okB a b)) ∧ Below w.heap.size w w' := by
  by_cases hn : a = 1 ∧ b = 0
  · obtain ⟨rfl, rfl⟩ := hn
    go_enter Tryz.func105, Tryz.ntmps105
    go_wp2
    go_ret
    exact ⟨ret_bool (by decide), (by repeat (first | exact Below.refl _ _ | refine bl_set ?_ (by simp) _ | refine bl_alloc ?_ _ | refine bl_drew ?_ | refine below_step ?_ (by assumption)))⟩
  · have e0 : okB a b = (isB a b && (valB a && valB b)) := by
      rw [Bool.eq_iff_iff]; unfold okB isB valB; simp; omega
    by_cases h4 : a = 1
    · subst h4
      have h5 : ¬ b = 0 := fun e => hn ⟨rfl, e⟩
      clear hn
      cases h1 : isB 1 b <;> cases h3 : valB b
      all_goals
        simp only [h1, h3] at e0
        have e1 := mkHid e0
        clear e0
        have h2 : valB 1 = true := by decide
        go_enter Tryz.func105, Tryz.ntmps105
        go_wp2_with (first | (go_at_call 106; refine (sIs_any _ _ _).mono ?_; rintro e w' ⟨rfl, hb⟩; obtain ⟨hc, hf⟩ := bcell hb; have hz0 : w.heap.size < w'.heap.size := by have := hb.size; (try simp at this); omega) | (go_at_call 140; refine (sVal_any _ _).mono ?_; rintro e w' ⟨rfl, rfl⟩))
        go_ret
        exact ⟨ret_bool (by rw [e1.out]; first | rfl | simp [*] | (simp; omega)), (by repeat (first | exact Below.refl _ _ | refine bl_set ?_ (by simp) _ | refine bl_alloc ?_ _ | refine bl_drew ?_ | refine below_step ?_ (by assumption)))⟩
    · clear hn
      cases h1 : isB a b <;> cases h2 : valB a <;> cases h3 : valB b
      all_goals
        simp only [h1, h2, h3] at e0
        have e1 := mkHid e0
        clear e0
        go_enter Tryz.func105, Tryz.ntmps105
        go_wp2_with (first | (go_at_call 106; refine (sIs_any _ _ _).mono ?_; rintro e w' ⟨rfl, hb⟩; obtain ⟨hc, hf⟩ := bcell hb; have hz0 : w.heap.size < w'.heap.size := by have := hb.size; (try simp at this); omega) | (go_at_call 140; refine (sVal_any _ _).mono ?_; rintro e w' ⟨rfl, rfl⟩))
        go_ret
        exact ⟨ret_bool (by rw [e1.out]; first | rfl | simp [*] | (simp; omega)), (by repeat (first | exact Below.refl _ _ | refine bl_set ?_ (by simp) _ | refine bl_alloc ?_ _ | refine bl_drew ?_ | refine below_step ?_ (by assumption)))⟩
set_option maxRecDepth 100000 in
set_option maxHeartbeats 400000 in
theorem sMake_any (a b : Int) (w : World) : Calls Tryz.prog 147 #[.int .i64 a, .int .i64 b] w fun e w' => e = .returned (.agg #[.int .i64 (mkM a b).1, .int .i64 (mkM a b).2]) ∧ Below w.heap.size w w' := by
  by_cases h : min b 1000000 < max a (-1000000)
  · have E := mkHid (show mkM a b = (1, 0) from if_pos h)
    go_enter Tryz.func147, Tryz.ntmps147
    go_wp2_with (first | (go_at_call 148; refine (sMin_any _ _ _).mono ?_; rintro e w' ⟨rfl, rfl⟩) | (go_at_call 149; refine (sMax_any _ _ _).mono ?_; rintro e w' ⟨rfl, rfl⟩) | (go_at_call 101; refine (sNone_any _).mono ?_; rintro e w' ⟨rfl, hb⟩; obtain ⟨hc, hf⟩ := bcell hb; have hz0 : w.heap.size < w'.heap.size := by have := hb.size; (try simp at this); omega))
    exact bodyPost_ret (v := .agg #[.int .i64 1, .int .i64 0]) (by simp [results, Tryz.results147, go_sem, hc]) rfl ⟨ret_rng E.out, (by repeat (first | exact Below.refl _ _ | refine bl_set ?_ (by simp) _ | refine bl_alloc ?_ _ | refine bl_drew ?_ | refine below_step ?_ (by assumption)))⟩
  · have E := mkHid (show mkM a b = (max a (-1000000), min b 1000000) from if_neg h)
    go_enter Tryz.func147, Tryz.ntmps147
    go_wp2_with (first | (go_at_call 148; refine (sMin_any _ _ _).mono ?_; rintro e w' ⟨rfl, rfl⟩) | (go_at_call 149; refine (sMax_any _ _ _).mono ?_; rintro e w' ⟨rfl, rfl⟩) | (go_at_call 101; refine (sNone_any _).mono ?_; rintro e w' ⟨rfl, hb⟩; obtain ⟨hc, hf⟩ := bcell hb; have hz0 : w.heap.size < w'.heap.size := by have := hb.size; (try simp at this); omega))
    exact bodyPost_ret (v := .agg #[.int .i64 (max a (-1000000)), .int .i64 (min b 1000000)]) (by simp [results, Tryz.results147, go_sem]) rfl ⟨ret_rng E.out, (by repeat (first | exact Below.refl _ _ | refine bl_set ?_ (by simp) _ | refine bl_alloc ?_ _ | refine bl_drew ?_ | refine below_step ?_ (by assumption)))⟩
set_option maxRecDepth 100000 in
set_option maxHeartbeats 800000 in
theorem sBoth_any (a b c d : Int) (w : World) : Calls Tryz.prog 65 #[.agg #[.int .i64 a, .int .i64 b], .agg #[.int .i64 c, .int .i64 d]] w fun e w' => e = .returned (.bool (bothB a b c d)) ∧ Below w.heap.size w w' := by
  have e0 : bothB a b c d = ((okB a b && isB a b) && (okB c d && isB c d)) := by unfold bothB; rw [some_ok, some_ok]
  cases h1 : okB a b <;> cases h2 : okB c d <;> cases h3 : isB a b <;> cases h4 : isB c d
  all_goals
    simp only [h1, h2, h3, h4] at e0
    have e1 := mkHid e0
    clear e0
    go_enter Tryz.func65, Tryz.ntmps65
    go_wp2_with (first | (go_at_call 105; refine (sOk_any _ _ _).mono ?_; rintro e w' ⟨rfl, hb⟩; obtain ⟨hc, hf⟩ := bcell hb; obtain ⟨hz0, hz1⟩ : w.heap.size < w'.heap.size ∧ w.heap.size + 1 < w'.heap.size := by have := hb.size; (try simp at this); omega) | (go_at_call 106; refine (sIs_any _ _ _).mono ?_; rintro e w' ⟨rfl, hb⟩; obtain ⟨hc, hf⟩ := bcell hb; obtain ⟨hz0, hz1⟩ : w.heap.size < w'.heap.size ∧ w.heap.size + 1 < w'.heap.size := by have := hb.size; (try simp at this); omega))
    go_ret
    exact ⟨ret_bool (by rw [e1.out]; first | rfl | simp [*] | (simp; omega)), (by repeat (first | exact Below.refl _ _ | refine bl_set ?_ (by simp) _ | refine bl_alloc ?_ _ | refine bl_drew ?_ | refine below_step ?_ (by assumption)))⟩
end Go.Proofs.YtihpajiololfoaaGreat.Q
namespace Go.Proofs.YtihpajiololfoaaGreat.Q
open Go.RowKit

theorem bcell4 {W w1 : World} (hb : Below W.heap.size W w1) : (∀ b o, b < W.heap.size → w1.cell? ⟨b, o, none⟩ = W.cell? ⟨b, o, none⟩) ∧ (∀ b o, b < W.heap.size → w1.frozen? ⟨b, o, none⟩ = W.frozen? ⟨b, o, none⟩) ∧ (∀ b, b < W.heap.size → b < w1.heap.size) ∧ (∀ b, b ≤ W.heap.size → b ≤ w1.heap.size) :=
  ⟨fun b o h => hb.cell (p := ⟨b, o, none⟩) h, fun b o h => hb.frozen (p := ⟨b, o, none⟩) h, fun _ h => Nat.lt_of_lt_of_le h hb.size, fun _ h => Nat.le_trans h hb.size⟩
theorem nlt2 (n : Nat) : n < n + 1 + 1 := by omega
theorem nlt3 (n : Nat) : n < n + 1 + 1 + 1 := by omega
theorem nlt4 (n : Nat) : n < n + 1 + 1 + 1 + 1 := by omega
theorem nle2 (n : Nat) : n ≤ n + 1 + 1 := by omega
theorem nle3 (n : Nat) : n ≤ n + 1 + 1 + 1 := by omega
theorem nle4 (n : Nat) : n ≤ n + 1 + 1 + 1 + 1 := by omega
theorem drew_size (w : World) : w.drew.heap.size = w.heap.size := rfl
theorem bdrew {W w1 : World} (h : Below W.drew.heap.size W.drew w1) : Below W.heap.size W w1 := ⟨h.os, h.tape, h.output, h.size, h.block⟩
theorem below_drew (W w1 : World) : Below W.drew.heap.size W.drew w1 = Below W.heap.size W w1 := propext ⟨bdrew, fun h => ⟨h.os, h.tape, h.output, h.size, h.block⟩⟩
theorem drew_cell (w : World) (a : Addr) : w.drew.cell? a = w.cell? a := rfl
theorem drew_frozen (w : World) (a : Addr) : w.drew.frozen? a = w.frozen? a := rfl
/-- Two numbers in a block that may be written. -/
def Box (v : World) (b : Nat) (x y : Int) : Prop := v.cell? ⟨b, 0, none⟩ = some (.int .i64 x) ∧ v.cell? ⟨b, 1, none⟩ = some (.int .i64 y) ∧ v.frozen? ⟨b, 0, none⟩ = false ∧ v.frozen? ⟨b, 1, none⟩ = false
theorem Box.below {v v' : World} {b : Nat} {x y : Int} (h : Box v b x y) (hb : Below v.heap.size v v') : Box v' b x y := by
  obtain ⟨h0, h1, h2, h3⟩ := h
  have hlt := World.block_lt_of_cell? v _ h0
  exact ⟨(hb.cell (p := ⟨b, 0, none⟩) hlt).trans h0, (hb.cell (p := ⟨b, 1, none⟩) hlt).trans h1, (hb.frozen (p := ⟨b, 0, none⟩) hlt).trans h2, (hb.frozen (p := ⟨b, 1, none⟩) hlt).trans h3⟩
theorem Box.lt {v : World} {b : Nat} {x y : Int} (h : Box v b x y) : b < v.heap.size := World.block_lt_of_cell? v _ h.1
end Go.Proofs.YtihpajiololfoaaGreat.Q
namespace Go.Proofs.YtihpajiololfoaaGreat.Q
open Go.RowKit

theorem owns_below {w w' : World} {base e size n : Nat} {v : Value} {xs : List Value} (h : w.ownsRow base e size v n xs) (hb : Below w.heap.size w w') : w'.ownsRow base e size v n xs :=
  h.kept (row := none) ⟨hb.os, hb.tape, hb.output, hb.size, fun k hk _ => hb.block k hk⟩ (by cases v.ownBlock <;> simp)

def ints (l : List Int) : List Value := l.map (Value.int .i64)
theorem ints_len (l : List Int) : (ints l).length = l.length := by simp [ints]
theorem ints_get {l : List Int} {i : Nat} : (ints l)[i]? = (l[i]?).map (Value.int .i64) := by simp [ints]
theorem ints_set (l : List Int) (i : Nat) (x : Int) : (ints l).set i (.int .i64 x) = ints (l.set i x) := by simp [ints]
/-- A slice of our own that holds these ints. -/
def OwnI (w : World) (base : Nat) (v : Value) (l : List Int) : Prop := w.ownsRow base 3 1 v l.length (ints l)
theorem OwnI.below {w w' : World} {base : Nat} {v : Value} {l : List Int} (h : OwnI w base v l) (hb : Below w.heap.size w w') : OwnI w' base v l := owns_below h hb
theorem OwnI.form {w : World} {base : Nat} {v : Value} {l : List Int} (h : OwnI w base v l) : ∃ ao cap, v = .slice ao l.length cap := by
  rcases h.2 with ⟨rfl, h0⟩ | ⟨g, cap, cur, rfl, _⟩
  · exact ⟨none, 0, by rw [h0]⟩
  · exact ⟨_, _, rfl⟩
theorem OwnI.mono {w : World} {base base' : Nat} {v : Value} {l : List Int} (h : OwnI w base v l) (hb : base' ≤ base) : OwnI w base' v l := World.ownsRow.mono h hb
theorem OwnI.nil (w : World) (base : Nat) : OwnI w base (.slice none 0 0) [] := ⟨rfl, .inl ⟨rfl, rfl⟩⟩
theorem OwnI.fresh {w' : World} {g base : Nat} (hb : base ≤ g) (hg : w'.heap[g]? = some (.cells #[] 3 (0, 0))) : OwnI w' base (.slice (some ⟨g, 0, none⟩) 0 0) [] :=
  ⟨rfl, .inr ⟨g, 0, #[], rfl, hb, hg, Nat.le_refl _, by unfold maxLen; omega, rfl, rfl⟩⟩
/-- Ints that lie somewhere, to be read. -/
def IntsAt (w : World) (a : Option Addr) (l : List Int) : Prop := l = [] ∨ ∃ b o, a = some ⟨b, o, none⟩ ∧ ∀ (i : Nat) (x : Int), l[i]? = some x → w.cell? ⟨b, o + i, none⟩ = some (.int .i64 x)
theorem IntsAt.below {w w' : World} {a : Option Addr} {l : List Int} (h : IntsAt w a l) (hb : Below w.heap.size w w') : IntsAt w' a l := by
  rcases h with h | ⟨b, o, e, h⟩
  · exact .inl h
  · refine .inr ⟨b, o, e, fun i x hx => ?_⟩
    have h1 := h i x hx
    exact (hb.cell (p := ⟨b, o + i, none⟩) (World.block_lt_of_cell? w _ h1)).trans h1
theorem OwnI.at {w : World} {base : Nat} {ao : Option Addr} {n cap : Nat} {l : List Int} (h : OwnI w base (.slice ao n cap) l) : IntsAt w ao l := by
  rcases h.2 with ⟨e, h0⟩ | ⟨g, cap', cur, e, _⟩
  · exact .inl (List.length_eq_zero_iff.1 h0)
  · simp at e
    obtain ⟨rfl, rfl, rfl⟩ := e
    refine .inr ⟨g, 0, rfl, fun i x hx => ?_⟩
    have hi := (List.getElem?_eq_some_iff.1 hx).1
    have := World.ownsRow.cellAt h i (by omega)
    rw [Nat.zero_add, this, ints_get, hx]; rfl

set_option maxHeartbeats 800000 in
theorem eqIntS_of (l : List Int) (b off c b' off' c' : Nat) (w : World) (hn : l.length ≤ maxLen) (hl : ∀ (i : Nat) (x : Int), l[i]? = some x → w.cell? ⟨b, off + i, none⟩ = some (.int .i64 x)) (hl' : ∀ (i : Nat) (x : Int), l[i]? = some x → w.cell? ⟨b', off' + i, none⟩ = some (.int .i64 x)) :
    Calls Tryz.prog 49 #[.slice (some ⟨b, off, none⟩) l.length c, .slice (some ⟨b', off', none⟩) l.length c'] w fun e w' => e = .returned (.bool true) ∧ Below w.heap.size w w' := by
  unfold maxLen at hn
  have HL := mkHid hl
  have HL' := mkHid hl'
  clear hl hl'
  go_enter Tryz.func49, Tryz.ntmps49
  go_wp2
  go_loopw [5] (fun i w' => ∃ (k : Nat), k ≤ l.length ∧ i = .int .i64 k ∧ Below w.heap.size w w') (fun i _ => l.length - (intOf i).toNat)
  case atStart => exact ⟨0, Nat.zero_le _, rfl, Below.refl _ _⟩
  case round =>
    obtain ⟨k, hk, rfl, hbel⟩ := hrel
    have HB := mkHid hbel
    by_cases hlt : k < l.length
    · obtain ⟨x, hx⟩ : ∃ x, l[k]? = some x := ⟨_, List.getElem?_eq_getElem hlt⟩
      have h1 := HL.out k x hx
      have h2 := HL'.out k x hx
      have hc1 : wr.cell? ⟨b, off + k, none⟩ = some (.int .i64 x) := (hbel.cell (p := ⟨b, off + k, none⟩) (World.block_lt_of_cell? w _ h1)).trans h1
      have hc2 : wr.cell? ⟨b', off' + k, none⟩ = some (.int .i64 x) := (hbel.cell (p := ⟨b', off' + k, none⟩) (World.block_lt_of_cell? w _ h2)).trans h2
      clear hx h1 h2 hbel
      have i0 : (0 : Int) ≤ (k : Int) := by omega
      have i1 : (k : Int) < (l.length : Int) := by omega
      go_wp2
      go_quiet (fail)
      go_wp2
      go_roundw
      case rel => exact ⟨k + 1, by omega, by go_num, Below.trans HB.out ⟨rfl, rfl, rfl, Nat.le_refl _, fun _ _ => rfl⟩⟩
      case measure => simp [intOf]; omega
    · go_wp2
      go_ret
      exact ⟨rfl, HB.out⟩

set_option maxRecDepth 100000 in
set_option maxHeartbeats 400000 in
theorem eqIntS_nil (a a' : Option Addr) (c c' : Nat) (w : World) : Calls Tryz.prog 49 #[.slice a 0 c, .slice a' 0 c'] w fun e w' => e = .returned (.bool true) ∧ Below w.heap.size w w' := by
  go_enter Tryz.func49, Tryz.ntmps49
  go_wp2
  go_loopw [5] (fun i w' => i = .int .i64 0 ∧ w' = w) (fun i _ => 0)
  case atStart => exact ⟨rfl, rfl⟩
  case round =>
    obtain ⟨rfl, rfl⟩ := hrel
    go_wp2
    go_ret
    exact ⟨rfl, Below.refl _ _⟩
theorem eqIntS_ok (l : List Int) (a a' : Option Addr) (c c' : Nat) (w : World) (hn : l.length ≤ maxLen) (hl : IntsAt w a l) (hl' : IntsAt w a' l) :
    Calls Tryz.prog 49 #[.slice a l.length c, .slice a' l.length c'] w fun e w' => e = .returned (.bool true) ∧ Below w.heap.size w w' := by
  rcases hl with rfl | ⟨b, o, rfl, hl⟩
  · exact eqIntS_nil a a' c c' w
  · rcases hl' with rfl | ⟨b', o', rfl, hl'⟩
    · exact eqIntS_nil _ a' c c' w
    · exact eqIntS_of l b o c b' o' c' w hn hl hl'
/-- What the law writes into a row. -/
def marksI (k : Int) (n : Nat) : List Int := (List.range n).map fun i => k + (i : Nat)
theorem marksI_len (k : Int) (n : Nat) : (marksI k n).length = n := by simp [marksI]
theorem marksI_get {k : Int} {n i : Nat} (h : i < n) : (marksI k n)[i]? = some (k + i) := by simp [marksI, h]
theorem ret_int' {k : IntKind} {a b : Int} (h : a = b) : Ending.returned (.int k a) = .returned (.int k b) := by rw [h]

set_option maxHeartbeats 800000 in
theorem markIntS_of (l : List Int) (g cap base : Nat) (k0 : Int) (w : World) (hn : l.length ≤ 10000000) (h0 : 0 ≤ k0) (h1 : k0 ≤ 10000000) (hown : OwnI w base (.slice (some ⟨g, 0, none⟩) l.length cap) l) :
    Calls Tryz.prog 53 #[.slice (some ⟨g, 0, none⟩) l.length cap, .int .i64 k0] w fun e w' => e = .returned (.int .i64 (k0 + l.length)) ∧ OwnI w' base (.slice (some ⟨g, 0, none⟩) l.length cap) (marksI k0 l.length) ∧ w.grownBy w' (some g) := by
  have HO := mkHid hown
  clear hown
  go_enter Tryz.func53, Tryz.ntmps53
  go_wp2
  go_loopw [1, 5] (fun kv i w' => ∃ (j : Nat) (m : List Int), j ≤ l.length ∧ m.length = l.length ∧ i = .int .i64 j ∧ kv = .int .i64 (k0 + j) ∧ w'.ownsRow base 3 1 (.slice (some ⟨g, 0, none⟩) l.length cap) l.length (ints m) ∧ (∀ q, q < j → m[q]? = some (k0 + (q : Nat))) ∧ w.grownBy w' (some g)) (fun _ i _ => l.length - (intOf i).toNat)
  case atStart => exact ⟨0, l, Nat.zero_le _, rfl, rfl, by simp, HO.out, fun q hq => by omega, World.grownBy.refl _ _⟩
  case round =>
    obtain ⟨j, m, hj, hm, rfl, rfl, hown, hmk, hg⟩ := hrel
    have HW := mkHid hown
    have HM := mkHid hm
    have HK := mkHid hmk
    have HG := mkHid hg
    clear hown hmk hg HO hm
    by_cases hlt : j < l.length
    · obtain ⟨v0, c0⟩ : ∃ v, wr.cell? ⟨g, j, none⟩ = some v := ⟨_, (HW.out.cellAt j (by omega)).trans (List.getElem?_eq_getElem (by rw [ints_len, HM.out]; exact hlt))⟩
      have f0 := HW.out.frozenAt j
      go_wp2
      go_roundw
      case rel =>
        have hs := HW.out.stored j (.int .i64 (k0 + j))
        rw [ints_set] at hs
        refine ⟨j + 1, m.set j (k0 + j), by omega, by simpa using HM.out, by go_num, ?_, hs.1, fun q hq => ?_, World.grownBy.trans HG.out hs.2⟩
        · congr 1; omega
        · rw [List.getElem?_set]
          have hml := HM.out
          rcases (by omega : q < j ∨ q = j) with h | rfl
          · rw [if_neg (by omega)]; exact HK.out q h
          · rw [if_pos rfl, if_pos (by omega)]
      case measure => simp [intOf]; omega
    · have e : j = l.length := by omega
      subst e
      have em : m = marksI k0 l.length := by
        apply List.ext_getElem?
        intro q
        by_cases hq : q < l.length
        · rw [HK.out q hq, marksI_get hq]
        · rw [List.getElem?_eq_none (by have := HM.out; omega), List.getElem?_eq_none (by rw [marksI_len]; omega)]
      have hw := HW.out
      rw [em] at hw
      have HW := mkHid hw
      clear hw em
      go_wp2
      go_ret
      refine ⟨rfl, ?_, HG.out⟩
      unfold OwnI
      rw [marksI_len]
      exact HW.out
set_option maxHeartbeats 400000 in
theorem markIntS_nil (a : Option Addr) (c : Nat) (k0 : Int) (w : World) :
    Calls Tryz.prog 53 #[.slice a 0 c, .int .i64 k0] w fun e w' => e = .returned (.int .i64 k0) ∧ w' = w := by
  go_enter Tryz.func53, Tryz.ntmps53
  go_wp2
  go_loopw [1, 5] (fun kv i w' => i = .int .i64 0 ∧ kv = .int .i64 k0 ∧ w' = w) (fun _ i _ => 0)
  case atStart => exact ⟨rfl, rfl, rfl⟩
  case round =>
    obtain ⟨rfl, rfl, rfl⟩ := hrel
    go_wp2
    go_ret
    exact ⟨rfl, rfl⟩
theorem markIntS_ok (l : List Int) (ao : Option Addr) (cap base : Nat) (k0 : Int) (w : World) (hn : l.length ≤ 10000000) (h0 : 0 ≤ k0) (h1 : k0 ≤ 10000000) (hown : OwnI w base (.slice ao l.length cap) l) :
    Calls Tryz.prog 53 #[.slice ao l.length cap, .int .i64 k0] w fun e w' => e = .returned (.int .i64 (k0 + l.length)) ∧ OwnI w' base (.slice ao l.length cap) (marksI k0 l.length) ∧ w.grownBy w' (Value.ownBlock (.slice ao l.length cap)) := by
  rcases hown.2 with ⟨e, h⟩ | ⟨g, cap', cur, e, _⟩
  · have hl := List.length_eq_zero_iff.1 h
    subst hl
    refine (markIntS_nil ao cap k0 w).mono ?_
    rintro e w' ⟨rfl, rfl⟩
    exact ⟨ret_int' (by simp), hown, World.grownBy.refl _ _⟩
  · simp at e
    obtain ⟨rfl, rfl⟩ := e
    exact markIntS_of l g cap base k0 w hn h0 h1 hown

theorem Tryz.info3 : (Tryz.prog.info? 3).map (fun i => (i.zero, i.size, i.bytes)) = some (some (.int .i64 0), 1, 8) := by kernel_rfl
theorem values_l {xs : List Value} {l : List Int} (hl : xs.length = l.length) (h : ∀ j, j < l.length → xs[j]? = (l[j]?).map (Value.int .i64)) : xs = ints l := by
  apply List.ext_getElem?
  intro q
  by_cases hq : q < l.length
  · rw [h q hq, ints_get]
  · rw [List.getElem?_eq_none (by omega), List.getElem?_eq_none (by rw [ints_len]; omega)]

set_option maxHeartbeats 1600000 in
theorem toIntS_ok (l : List Int) (a : Option Addr) (c : Nat) (w : World) (hn : l.length ≤ 1048576) (hl : IntsAt w a l) :
    Calls Tryz.prog 40 #[.slice a l.length c] w fun e w' => e = .returned (.slice (some ⟨w.heap.size, 0, none⟩) l.length l.length) ∧ OwnI w' w.heap.size (.slice (some ⟨w.heap.size, 0, none⟩) l.length l.length) l ∧ Below w.heap.size w w' := by
  obtain ⟨i0, hi, hz⟩ := Option.map_eq_some_iff.1 Tryz.info3
  simp only [Prod.mk.injEq] at hz
  obtain ⟨hz0, hz1, hz2⟩ := hz
  obtain ⟨w1, hmk, hown0, hg0⟩ := run_make_full (P := Tryz.prog) w w.heap.size 27 3 i0 _ 1 Tryz.underlying27 hi hz0 hz1 .i64 .i64 l.length (by rw [hz2]; omega) (by unfold maxLen; omega) (Nat.le_refl _)
  have HL := mkHid hl
  have HO := mkHid hown0
  have HG := mkHid (Below.grown (Below.refl w.heap.size w) hg0 (Nat.le_refl _) (fun k hk => by cases hk))
  clear hl hown0 hg0 hi hz0 hz1 hz2
  go_enter Tryz.func40, Tryz.ntmps40
  go_wp2
  go_loopw [4] (fun i w' => ∃ (k : Nat) (xs : List Value), k ≤ l.length ∧ i = .int .i64 k ∧ w'.ownsRow w.heap.size 3 1 (.slice (some ⟨w.heap.size, 0, none⟩) l.length l.length) l.length xs ∧ (∀ j, j < k → xs[j]? = (l[j]?).map (Value.int .i64)) ∧ Below w.heap.size w w') (fun i _ => l.length - (intOf i).toNat)
  case atStart => exact ⟨0, _, Nat.zero_le _, rfl, by simpa using HO.out, fun j hj => by omega, HG.out⟩
  case round =>
    obtain ⟨k, xs, hk, rfl, hown, hdone, hbel⟩ := hrel
    have HW := mkHid hown
    have HD := mkHid hdone
    have HB := mkHid hbel
    clear hown hdone hbel HO HG hmk
    by_cases hlt : k < l.length
    · obtain ⟨x, hx⟩ : ∃ x, l[k]? = some x := ⟨_, List.getElem?_eq_getElem hlt⟩
      obtain ⟨b, o, rfl, hl⟩ : ∃ b o, a = some ⟨b, o, none⟩ ∧ ∀ (i : Nat) (x : Int), l[i]? = some x → w.cell? ⟨b, o + i, none⟩ = some (.int .i64 x) := by
        rcases HL.out with h | h
        · subst h; simp at hlt
        · exact h
      have c1 := (HB.out.cell (p := ⟨b, o + k, none⟩) (World.block_lt_of_cell? w _ (hl k x hx))).trans (hl k x hx)
      have hxl := HW.out.1
      obtain ⟨v0, c0⟩ : ∃ v, wr.cell? ⟨w.heap.size, k, none⟩ = some v := ⟨_, (HW.out.cellAt k (by omega)).trans (List.getElem?_eq_getElem (by omega))⟩
      have f0 := HW.out.frozenAt k
      have HX := mkHid hx
      clear hxl hx hl
      have k2 : (0 : Int) ≤ (k : Int) := by omega
      have k3 : (k : Int) < (l.length : Int) := by omega
      go_wp2
      go_roundw
      case rel =>
        have hs := HW.out.stored k (.int .i64 x)
        refine ⟨k + 1, _, by omega, by go_num, hs.1, fun q hq => ?_, HB.out.setCell (p := ⟨w.heap.size, k, none⟩) (Nat.le_refl _) _⟩
        have hml := HW.out.1
        rw [List.getElem?_set]
        rcases (by omega : q < k ∨ q = k) with h | rfl
        · rw [if_neg (by omega)]; exact HD.out q h
        · rw [if_pos rfl, if_pos (by omega), HX.out]; rfl
      case measure => simp [intOf]; omega
    · have e : k = l.length := by omega
      subst e
      have hown := HW.out
      rw [values_l (by have := HW.out.1; omega) HD.out] at hown
      have HW := mkHid hown
      clear hown HD
      go_wp2
      go_ret
      exact ⟨rfl, HW.out, HB.out⟩
theorem toIntS_any (l : List Int) (a : Option Addr) (c : Nat) (w : World) (hn : l.length ≤ 1048576) (hl : IntsAt w a l) :
    Calls Tryz.prog 40 #[.slice a l.length c] w fun e w' => ∃ g, e = .returned (.slice (some ⟨g, 0, none⟩) l.length l.length) ∧ OwnI w' w.heap.size (.slice (some ⟨g, 0, none⟩) l.length l.length) l ∧ Below w.heap.size w w' :=
  (toIntS_ok l a c w hn hl).mono fun _ _ h => ⟨_, h⟩
theorem OwnI.grown {w w' : World} {base : Nat} {v : Value} {l : List Int} {row : Option Nat} (h : OwnI w base v l) (ho : w.grownBy w' row) (hq : ∀ q, v.ownBlock = some q → row ≠ some q) : OwnI w' base v l := by
  refine ⟨h.1, ?_⟩
  rcases h.2 with h0 | ⟨g, cap, cur, rfl, e2, e3, e4⟩
  · exact .inl h0
  · have hlt : g < w.heap.size := (Array.getElem?_eq_some_iff.1 e3).1
    exact .inr ⟨g, cap, cur, rfl, e2, (ho.block g hlt (fun e => hq g rfl e.symm)).trans e3, e4⟩
theorem OwnI.lt {w : World} {base : Nat} {v : Value} {l : List Int} (h : OwnI w base v l) {q : Nat} (hq : v.ownBlock = some q) : base ≤ q ∧ q < w.heap.size := World.ownsRow.lt h q hq
end Go.Proofs.YtihpajiololfoaaGreat.Q
