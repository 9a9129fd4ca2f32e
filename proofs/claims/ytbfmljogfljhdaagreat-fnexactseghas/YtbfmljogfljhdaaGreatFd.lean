/-
  CONTRACTS of finding a term: l10Find, l10In, slices.Index, Contains, Equal.
-/
import Derived.Test.YtbfmljogfljhdaaGreatSb
namespace Go.Proofs.YtbfmljogfljhdaaGreat
open Go.RowKit

theorem eql_sym (w : World) (a b c d : Int) : (Go.binOp .eql 39 (.agg #[.int .i64 a, .int .i64 b]) (.agg #[.int .i64 c, .int .i64 d])).run Tryz.prog w = .ok (.bool (eqB a b c d)) w := by
  have u3 := Tryz.underlying3
  have a3 := Tryz.isAgg3
  have z3 := Tryz.sizeOf3
  have hS : Tryz.prog.underlying 39 = some (.struct (Tryz.prog.fieldsOf 39)) := by kernel_rfl
  have hp : Tryz.prog.stoodInHeld 39 = false := by kernel_rfl
  rw [run_eql_struct, show (10000 : Nat) = 9999 + 1 from rfl, run_equalIn_agg w 9999 39 _ _ hS hp]
  simp only [Program.fieldsOf, Tryz.underlying39]
  go_simp
  unfold eqB
  by_cases h1 : a = c <;> by_cases h2 : b = d <;> simp [h1, h2]
theorem eqB_y (x y : Y) : eqB x.1 x.2 y.1 y.2 = decide (x = y) := by
  unfold eqB
  obtain ⟨a, b⟩ := x
  obtain ⟨c, d⟩ := y
  rw [decide_eq_decide]
  simp
theorem mem_take_succ {l : List Y} {k : Nat} {x t : Y} (hx : l[k]? = some x) (h : t ∉ l.take k) (hn : x ≠ t) : t ∉ l.take (k + 1) := by
  rw [List.take_add_one, hx]
  simp [h]
  exact fun e => hn e.symm
set_option maxRecDepth 100000 in
set_option maxHeartbeats 1600000 in
theorem l10Find_any (l : List Y) (a : Option Addr) (c : Nat) (t : Y) (w : World) (hn : l.length ≤ maxLen) (hl : At eY w a l) :
    Calls Tryz.prog 79 #[.slice a l.length c, .agg #[.int .i64 t.1, .int .i64 t.2]] w fun e w' => Below w.heap.size w w' ∧ ∃ r : Int, e = .returned (.int .i64 r) ∧ (0 ≤ r ↔ t ∈ l) := by
  unfold maxLen at hn
  have hEq := eql_sym
  obtain ⟨w0, hw0⟩ : ∃ x : World, w.alloc (.cells #[.int .i64 t.1, .int .i64 t.2] 39) = x := ⟨_, rfl⟩
  obtain ⟨X, hX⟩ : ∃ x, w.heap.size = x := ⟨_, rfl⟩
  have HX := mkHid hX
  have HB : Hid (Below w.heap.size w w0) := mkHid (by rw [← hw0]; exact bl_alloc (Below.refl _ _) _)
  have P0 : Hid (Box w0 X t.1 t.2) := mkHid (by rw [← hw0, ← hX]; exact Box.new' _ _ _ _)
  have HL := mkHid (hl.below HB.out)
  clear hl
  go_enter Tryz.func79, Tryz.ntmps79
  go_wp2
  clear hw0 hX
  go_loopg [5] l.length (fun g s5 wr => ∃ (k : Nat), k ≤ l.length ∧ s5 = .int .i64 k ∧ l.length - k ≤ g ∧ t ∉ l.take k ∧ Below w0.heap.size w0 wr)
  case atStart => exact ⟨0, Nat.zero_le _, rfl, by omega, by simp, Below.refl _ _⟩
  case round =>
    obtain ⟨k, hk, rfl, hgk, hnot, hbel⟩ := hrel
    have HN := mkHid hnot
    have HB1 := mkHid hbel
    clear hnot
    by_cases hlt : k < l.length
    · obtain ⟨x, hx⟩ : ∃ x, l[k]? = some x := ⟨_, List.getElem?_eq_getElem hlt⟩
      obtain ⟨b, off, rfl, _, hq⟩ := (HL.out.below hbel).cons (by omega)
      obtain ⟨c0, c1⟩ := get_y hq hx
      obtain ⟨q0, q1, _, _⟩ := P0.out.below hbel
      have HX := mkHid hx
      clear hq hbel hx
      have i0 : (0 : Int) ≤ (k : Int) := by omega
      have i1 : (k : Int) < (l.length : Int) := by omega
      by_cases he : x = t
      · have he2 : eqB x.1 x.2 t.1 t.2 = true := by rw [eqB_y]; exact decide_eq_true he
        have HE := mkHid he
        clear he
        go_wp2
        go_quiet (fail)
        go_wp2
        go_ret
        refine ⟨below_step HB.out ⟨HB1.out.os, HB1.out.tape, HB1.out.output, HB1.out.size, HB1.out.block⟩, k, rfl, ⟨fun _ => ?_, fun _ => by omega⟩⟩
        rw [← HE.out]
        exact List.mem_of_getElem? HX.out
      · have he2 : eqB x.1 x.2 t.1 t.2 = false := by rw [eqB_y]; exact decide_eq_false he
        have HE := mkHid (mem_take_succ HX.out HN.out he)
        clear he
        go_wp2
        go_quiet (fail)
        go_wp2
        go_roundg (l.length - (k + 1))
        case measure => omega
        case rel => exact ⟨k + 1, by omega, by go_num, Nat.le_refl _, HE.out, ⟨HB1.out.os, HB1.out.tape, HB1.out.output, HB1.out.size, HB1.out.block⟩⟩
    · have e : k = l.length := by omega
      subst e
      have hnot := HN.out
      rw [List.take_length] at hnot
      have HN := mkHid hnot
      clear hnot hbel
      go_wp2
      go_ret
      exact ⟨below_step HB.out HB1.out, -1, rfl, ⟨fun h => absurd h (by omega), fun h => absurd h HN.out⟩⟩
set_option maxRecDepth 100000 in
set_option maxHeartbeats 1600000 in
theorem index_any (l : List Y) (a : Option Addr) (c : Nat) (t : Y) (w : World) (hn : l.length ≤ maxLen) (hl : At eY w a l) :
    Calls Tryz.prog 108 #[.slice a l.length c, .agg #[.int .i64 t.1, .int .i64 t.2]] w fun e w' => Below w.heap.size w w' ∧ ∃ r : Int, e = .returned (.int .i64 r) ∧ (0 ≤ r ↔ t ∈ l) := by
  unfold maxLen at hn
  have hEq := eql_sym
  obtain ⟨w0, hw0⟩ : ∃ x : World, w.alloc (.cells #[.int .i64 t.1, .int .i64 t.2] 39) = x := ⟨_, rfl⟩
  obtain ⟨X, hX⟩ : ∃ x, w.heap.size = x := ⟨_, rfl⟩
  have HX := mkHid hX
  have HB : Hid (Below w.heap.size w w0) := mkHid (by rw [← hw0]; exact bl_alloc (Below.refl _ _) _)
  have P0 : Hid (Box w0 X t.1 t.2) := mkHid (by rw [← hw0, ← hX]; exact Box.new' _ _ _ _)
  have HL := mkHid (hl.below HB.out)
  clear hl
  go_enter Tryz.func108, Tryz.ntmps108
  go_wp2
  clear hw0 hX
  go_loopg [8, 5] l.length (fun g s8 s5 wr => ∃ (k : Nat), k ≤ l.length ∧ s8 = .int .i64 k ∧ l.length - k ≤ g ∧ t ∉ l.take k ∧ Below w0.heap.size w0 wr)
  case atStart => exact ⟨0, Nat.zero_le _, rfl, by omega, by simp, Below.refl _ _⟩
  case round =>
    obtain ⟨k, hk, rfl, hgk, hnot, hbel⟩ := hrel
    have HN := mkHid hnot
    have HB1 := mkHid hbel
    clear hnot
    by_cases hlt : k < l.length
    · obtain ⟨x, hx⟩ : ∃ x, l[k]? = some x := ⟨_, List.getElem?_eq_getElem hlt⟩
      obtain ⟨b, off, rfl, _, hq⟩ := (HL.out.below hbel).cons (by omega)
      obtain ⟨c0, c1⟩ := get_y hq hx
      obtain ⟨q0, q1, _, _⟩ := P0.out.below hbel
      have HX := mkHid hx
      clear hq hbel hx
      have i0 : (0 : Int) ≤ (k : Int) := by omega
      have i1 : (k : Int) < (l.length : Int) := by omega
      by_cases he : x = t
      · have he2 : eqB t.1 t.2 x.1 x.2 = true := by rw [eqB_y]; exact decide_eq_true he.symm
        have HE := mkHid he
        clear he
        go_wp2
        go_quiet (fail)
        go_wp2
        go_ret
        refine ⟨below_step HB.out ⟨HB1.out.os, HB1.out.tape, HB1.out.output, HB1.out.size, HB1.out.block⟩, k, rfl, ⟨fun _ => ?_, fun _ => by omega⟩⟩
        rw [← HE.out]
        exact List.mem_of_getElem? HX.out
      · have he2 : eqB t.1 t.2 x.1 x.2 = false := by rw [eqB_y]; exact decide_eq_false (fun e => he e.symm)
        have HE := mkHid (mem_take_succ HX.out HN.out he)
        clear he
        go_wp2
        go_quiet (fail)
        go_wp2
        go_roundg (l.length - (k + 1))
        case measure => omega
        case rel => exact ⟨k + 1, by omega, by go_num, Nat.le_refl _, HE.out, ⟨HB1.out.os, HB1.out.tape, HB1.out.output, HB1.out.size, HB1.out.block⟩⟩
    · have e : k = l.length := by omega
      subst e
      have hnot := HN.out
      rw [List.take_length] at hnot
      have HN := mkHid hnot
      clear hnot hbel
      go_wp2
      go_ret
      exact ⟨below_step HB.out HB1.out, -1, rfl, ⟨fun h => absurd h (by omega), fun h => absurd h HN.out⟩⟩
set_option maxRecDepth 100000 in
set_option maxHeartbeats 1600000 in
theorem contains_any (l : List Y) (a : Option Addr) (c : Nat) (t : Y) (w : World) (hn : l.length ≤ maxLen) (hl : At eY w a l) :
    Calls Tryz.prog 57 #[.slice a l.length c, .agg #[.int .i64 t.1, .int .i64 t.2]] w fun e w' => e = .returned (.bool (decide (t ∈ l))) ∧ Below w.heap.size w w' := by
  obtain ⟨d, hd⟩ : ∃ d, decide (t ∈ l) = d := ⟨_, rfl⟩
  have HD := mkHid hd
  rw [hd]
  clear hd
  obtain ⟨w0, hw0⟩ : ∃ x : World, w.alloc (.cells #[.int .i64 t.1, .int .i64 t.2] 39) = x := ⟨_, rfl⟩
  obtain ⟨X, hX⟩ : ∃ x, w.heap.size = x := ⟨_, rfl⟩
  have HB : Hid (Below w.heap.size w w0) := mkHid (by rw [← hw0]; exact bl_alloc (Below.refl _ _) _)
  have P0 : Hid (Box w0 X t.1 t.2) := mkHid (by rw [← hw0, ← hX]; exact Box.new' _ _ _ _)
  obtain ⟨q0, q1, _, _⟩ := P0.out
  go_enter Tryz.func57, Tryz.ntmps57
  go_wp2_with fail
  clear hw0 hX q0 q1
  refine (index_any l a c t _ hn (hl.below HB.out)).mono ?_
  rintro e w1 ⟨hb, r, rfl, hr⟩
  have HB1 := mkHid (below_step HB.out hb)
  have HR : Hid (decide (0 ≤ r) = d) := mkHid (by rw [← HD.out]; exact decide_eq_decide.2 hr)
  clear hb hr
  go_wp2
  go_ret
  exact ⟨ret_bool HR.out, HB1.out⟩
theorem neq_sym (w : World) (a b c d : Int) : (Go.binOp .neq 39 (.agg #[.int .i64 a, .int .i64 b]) (.agg #[.int .i64 c, .int .i64 d])).run Tryz.prog w = .ok (.bool (!eqB a b c d)) w := by
  have u3 := Tryz.underlying3
  have a3 := Tryz.isAgg3
  have z3 := Tryz.sizeOf3
  have hS : Tryz.prog.underlying 39 = some (.struct (Tryz.prog.fieldsOf 39)) := by kernel_rfl
  have hp : Tryz.prog.stoodInHeld 39 = false := by kernel_rfl
  rw [run_neq_struct, show (10000 : Nat) = 9999 + 1 from rfl, run_equalIn_agg w 9999 39 _ _ hS hp]
  simp only [Program.fieldsOf, Tryz.underlying39]
  go_simp
  unfold eqB
  by_cases h1 : a = c <;> by_cases h2 : b = d <;> simp [h1, h2]
end Go.Proofs.YtbfmljogfljhdaaGreat
