/-
  CONTRACTS of slices.Index, slices.Contains at alarms, and of isAlarmTrap.
-/
import Derived.Test.YtaekcmbjcfpigaaBa
import Derived.Laws.StructEq
namespace Go.Proofs.Ytaekcmbjcfpigaa
open Go.RowKit

def eqA3 (a b c x y z : Int) : Bool := decide (a = x ∧ b = y ∧ c = z)
theorem eql_alarm (w : World) (a b c x y z : Int) : (Go.binOp .eql 43 (.agg #[.int .i64 a, .int .i64 b, .int .i64 c]) (.agg #[.int .i64 x, .int .i64 y, .int .i64 z])).run Try.prog w = .ok (.bool (eqA3 a b c x y z)) w := by
  have u3 := Try.underlying3
  have a3 := Try.isAgg3
  have z3 := Try.sizeOf3
  have hS : Try.prog.underlying 43 = some (.struct (Try.prog.fieldsOf 43)) := by kernel_rfl
  have hp : Try.prog.stoodInHeld 43 = false := by kernel_rfl
  rw [run_eql_struct, show (10000 : Nat) = 9999 + 1 from rfl, run_equalIn_agg w 9999 43 _ _ hS hp]
  simp only [Program.fieldsOf, Try.underlying43]
  go_simp
  unfold eqA3
  by_cases h1 : a = x <;> by_cases h2 : b = y <;> by_cases h3 : c = z <;> simp [h1, h2, h3]
theorem eqA3_iff {v x : AA} : eqA3 v.1 v.2.1 v.2.2 x.1 x.2.1 x.2.2 = true ↔ v = x := by
  obtain ⟨a, b, c⟩ := v
  obtain ⟨d, e, f⟩ := x
  simp [eqA3]
structure Box3 (w : World) (X : Nat) (v0 v1 v2 : Value) : Prop where
  c0 : w.cell? ⟨X, 0, none⟩ = some v0
  c1 : w.cell? ⟨X, 1, none⟩ = some v1
  c2 : w.cell? ⟨X, 2, none⟩ = some v2
theorem Box3.below {w w' : World} {X : Nat} {v0 v1 v2 : Value} (h : Box3 w X v0 v1 v2) (hb : Below w.heap.size w w') : Box3 w' X v0 v1 v2 :=
  have hl := World.block_lt_of_cell? w _ h.c0
  ⟨(hb.cell (p := ⟨X, 0, none⟩) hl).trans h.c0, (hb.cell (p := ⟨X, 1, none⟩) hl).trans h.c1, (hb.cell (p := ⟨X, 2, none⟩) hl).trans h.c2⟩
set_option maxRecDepth 100000 in
set_option maxHeartbeats 1600000 in
theorem index_any (l : List AA) (v : AA) (a : Option Addr) (c : Nat) (w : World) (hn : l.length ≤ maxLen) (hl : At eA w a l) :
    Calls Try.prog 26 #[.slice a l.length c, .agg #[.int .i64 v.1, .int .i64 v.2.1, .int .i64 v.2.2]] w fun e w' => Below w.heap.size w w' ∧ ∃ r : Int, e = .returned (.int .i64 r) ∧ (0 ≤ r ↔ v ∈ l) := by
  unfold maxLen at hn
  have hEq := eql_alarm
  obtain ⟨w0, hw0⟩ : ∃ z : World, w.alloc (.cells #[.int .i64 v.1, .int .i64 v.2.1, .int .i64 v.2.2] 43) = z := ⟨_, rfl⟩
  obtain ⟨X, hX⟩ : ∃ z, w.heap.size = z := ⟨_, rfl⟩
  have HX := mkHid hX
  have HBe : Hid (Below X w w0) := mkHid (by rw [← hw0, ← hX]; exact bl_alloc (Below.refl _ _) _)
  have P0 : Hid (Box3 w0 X (.int .i64 v.1) (.int .i64 v.2.1) (.int .i64 v.2.2)) := mkHid (by rw [← hw0, ← hX]; constructor <;> simp [go_sem])
  have HL := mkHid (hl.below (w' := w0) (by rw [hX]; exact HBe.out))
  clear hl
  go_enter Try.func26, Try.ntmps26
  go_wp2
  try rw [hw0]
  clear hw0 hX
  go_loopg [8, 5] l.length (fun g s8 s5 wr => ∃ (k : Nat), k ≤ l.length ∧ s8 = .int .i64 k ∧ l.length - k ≤ g ∧ v ∉ l.take k ∧ Below w0.heap.size w0 wr)
  case atStart => exact ⟨0, Nat.zero_le _, rfl, by omega, by simp, Below.refl _ _⟩
  case round =>
    obtain ⟨k, hk, rfl, hgk, htk, hbel⟩ := hrel
    have HT := mkHid htk
    have HB1 := mkHid hbel
    have HB2 : Hid (Below X w wr) := mkHid (HBe.out.trans (hbel.mono (by have h := HBe.out.size; have := HX.out; omega)))
    have R0 := P0.out.below hbel
    obtain ⟨q0, q1, q2⟩ := R0
    clear htk
    by_cases hlt : k < l.length
    · obtain ⟨x, hx⟩ : ∃ x, l[k]? = some x := ⟨_, List.getElem?_eq_getElem hlt⟩
      obtain ⟨b, off, rfl, _, hq⟩ := (HL.out.below hbel).cons (by omega)
      obtain ⟨c0, c1, c2⟩ := get_a hq hx
      have HXX := mkHid hx
      clear hq hbel hx
      have i0 : (0 : Int) ≤ (k : Int) := by omega
      have i1 : (k : Int) < (l.length : Int) := by omega
      by_cases he : v = x
      · have he2 : eqA3 v.1 v.2.1 v.2.2 x.1 x.2.1 x.2.2 = true := eqA3_iff.2 he
        have HK := mkHid he
        clear he
        go_wp2
        go_quiet (fail)
        go_wp2
        go_ret
        refine ⟨by rw [HX.out]; exact ⟨HB2.out.os, HB2.out.tape, HB2.out.output, HB2.out.size, HB2.out.block⟩, k, rfl, ⟨fun _ => by rw [HK.out]; exact List.mem_of_getElem? HXX.out, fun _ => by omega⟩⟩
      · have he2 : eqA3 v.1 v.2.1 v.2.2 x.1 x.2.1 x.2.2 = false := by rw [← Bool.not_eq_true]; exact fun h => he (eqA3_iff.1 h)
        have HK : Hid (v ∉ l.take (k + 1)) := mkHid (by
          rw [List.take_add_one, HXX.out]
          simp only [List.mem_append, Option.toList_some, List.mem_singleton, not_or]
          exact ⟨HT.out, he⟩)
        clear he
        go_wp2
        go_quiet (fail)
        go_wp2
        go_roundg (l.length - (k + 1))
        case measure => omega
        case rel => exact ⟨k + 1, by omega, by go_num, Nat.le_refl _, HK.out, ⟨HB1.out.os, HB1.out.tape, HB1.out.output, HB1.out.size, HB1.out.block⟩⟩
    · have e : k = l.length := by omega
      subst e
      have HT2 : Hid (v ∉ l) := mkHid (by have h := HT.out; rw [List.take_length] at h; exact h)
      clear hbel
      go_wp2
      go_ret
      exact ⟨by rw [HX.out]; exact HB2.out, -1, rfl, ⟨fun h => absurd h (by omega), fun h => absurd h HT2.out⟩⟩
set_option maxRecDepth 100000 in
set_option maxHeartbeats 800000 in
theorem contains_any (l : List AA) (v : AA) (a : Option Addr) (c : Nat) (w : World) (hn : l.length ≤ maxLen) (hl : At eA w a l) :
    Calls Try.prog 19 #[.slice a l.length c, .agg #[.int .i64 v.1, .int .i64 v.2.1, .int .i64 v.2.2]] w fun e w' => Below w.heap.size w w' ∧ e = .returned (.bool (decide (v ∈ l))) := by
  obtain ⟨w0, hw0⟩ : ∃ z : World, w.alloc (.cells #[.int .i64 v.1, .int .i64 v.2.1, .int .i64 v.2.2] 43) = z := ⟨_, rfl⟩
  have HB : Hid (Below w.heap.size w w0) := mkHid (by rw [← hw0]; exact bl_alloc (Below.refl _ _) _)
  obtain ⟨X, hX⟩ : ∃ z, w.heap.size = z := ⟨_, rfl⟩
  obtain ⟨q0, q1, q2⟩ : Box3 w0 X (.int .i64 v.1) (.int .i64 v.2.1) (.int .i64 v.2.2) := by rw [← hw0, ← hX]; constructor <;> simp [go_sem]
  have HL := mkHid (hl.below HB.out)
  have HN := mkHid hn
  obtain ⟨q, hq⟩ : ∃ q : Bool, decide (v ∈ l) = q := ⟨_, rfl⟩
  have HQ := mkHid hq
  rw [hq]
  clear hl hn hq
  go_enter Try.func19, Try.ntmps19
  go_wp2_with fail
  try rw [hw0]
  clear hw0 hX q0 q1 q2
  refine (index_any l v a c _ HN.out HL.out).mono ?_
  rintro e w1 ⟨hb, r, rfl, hr⟩
  have HB1 := mkHid (below_step HB.out hb)
  have HR : Hid (decide (r ≥ 0) = q) := mkHid (by rw [← HQ.out, decide_eq_decide]; exact hr)
  clear hb hr HB
  cases q
  · have h1 : decide (0 ≤ r) = false := HR.out
    go_wp2
    go_ret
    exact ⟨HB1.out, rfl⟩
  · have h1 : decide (0 ≤ r) = true := HR.out
    go_wp2
    go_ret
    exact ⟨HB1.out, rfl⟩
theorem trap_any (n : Int) (w : World) : Calls Try.prog 18 #[.int .i64 n] w fun e w' => e = .returned (.bool (btw n 1 4)) ∧ w = w' := by
  go_enter Try.func18, Try.ntmps18
  go_wp2_with (go_at_call 25; refine (isBetween_any _ _ _ _).mono ?_; rintro e w' ⟨rfl, rfl⟩)
  go_ret
  exact ⟨rfl, rfl⟩
end Go.Proofs.Ytaekcmbjcfpigaa
