/-
  STEPS of a widening: plain models; CONTRACTS of areVals, areSteps, stepBelow, stepAbove of the program.
-/
import Derived.Test.YtgkmpadeleebdaaDoorQReg
import Derived.Deep.AppendLies
import Derived.Deep.Onto
import Derived.Deep.QuietTactic
import Derived.BigQuiet
namespace Go.Proofs.YtgkmpadeleebdaaDoor.Q
open Go.RowKit

/-- Ints that lie in a row, to be read. -/
def IntsIn (w : World) (l : List Int) (b off : Nat) : Prop := ∀ (i : Nat) (x : Int), l[i]? = some x → w.cell? ⟨b, off + i, none⟩ = some (.int .i64 x)
theorem IntsIn.below {w w' : World} {l : List Int} {b off : Nat} (h : IntsIn w l b off) (hb : Below w.heap.size w w') : IntsIn w' l b off := fun i x hi => by
  have h0 := h i x hi
  exact (hb.cell (p := ⟨b, off + i, none⟩) (World.block_lt_of_cell? w _ h0)).trans h0
def upB : List Int → Bool
  | x :: y :: l => decide (x < y) && upB (y :: l)
  | _ => true
def valsB (l : List Int) : Bool := l.all valB
/-- What may be steps. -/
def stepsB (l : List Int) : Bool := decide (l.length ≤ 20) && (valsB l && upB l)
/-- The greatest step that is not above a number; the least that is not below it. -/
def belowM (x : Int) (l : List Int) : Int := l.foldl (fun f s => if s ≤ x then s else f) (-1000000)
def aboveM (x : Int) : List Int → Int
  | [] => 1000000
  | s :: l => if x ≤ s then s else aboveM x l

theorem vals_take {l : List Int} {k : Nat} {x : Int} (h : l[k]? = some x) (ht : (l.take k).all valB = true) (hx : valB x = true) : (l.take (k + 1)).all valB = true := by
  rw [List.take_add_one, h, List.all_append, ht]; simp [hx]
theorem vals_no {l : List Int} {k : Nat} {x : Int} (h : l[k]? = some x) (hx : valB x = false) : valsB l = false := by
  unfold valsB
  cases hh : l.all valB
  · rfl
  · rw [List.all_eq_true] at hh
    rw [hh x (List.mem_of_getElem? h)] at hx
    cases hx
theorem below_take {x s : Int} {l : List Int} {k : Nat} (h : l[k]? = some s) : belowM x (l.take (k + 1)) = if s ≤ x then s else belowM x (l.take k) := by
  unfold belowM; rw [List.take_add_one, h, List.foldl_append]; rfl
theorem above_drop {x s : Int} {l : List Int} {k : Nat} (h : l[k]? = some s) : aboveM x (l.drop k) = if x ≤ s then s else aboveM x (l.drop (k + 1)) := by
  have hk := (List.getElem?_eq_some_iff.1 h)
  rw [List.drop_eq_getElem_cons hk.1, hk.2]; rfl

set_option maxRecDepth 100000 in
set_option maxHeartbeats 800000 in
theorem areVals_of (l : List Int) (b off c : Nat) (w : World) (hn : l.length ≤ maxLen) (hl : IntsIn w l b off) : Calls Tryd.prog 44 #[.slice (some ⟨b, off, none⟩) l.length c] w fun e w' => e = .returned (.bool (valsB l)) ∧ w = w' := by
  unfold maxLen at hn
  have HL := mkHid hl
  clear hl
  go_enter Tryd.func44, Tryd.ntmps44
  go_wp2
  go_loopw [7] (fun i w' => ∃ (k : Nat), k ≤ l.length ∧ i = .int .i64 k ∧ (l.take k).all valB = true ∧ w' = w) (fun i _ => l.length - (intOf i).toNat)
  case atStart => exact ⟨0, Nat.zero_le _, rfl, by simp, rfl⟩
  case round =>
    obtain ⟨k, hk, rfl, hall, rfl⟩ := hrel
    have HA := mkHid hall
    clear hall
    by_cases hlt : k < l.length
    · obtain ⟨x, hx⟩ : ∃ x, l[k]? = some x := ⟨_, List.getElem?_eq_getElem hlt⟩
      have c0 := HL.out k x hx
      have i0 : (0 : Int) ≤ (k : Int) := by omega
      have i1 : (k : Int) < (l.length : Int) := by omega
      cases h1 : valB x
      · have e := mkHid (vals_no hx h1)
        clear hx
        go_wp2_with (go_at_call 50; refine (iVal_any _ _).mono ?_; rintro e w' ⟨rfl, rfl⟩)
        go_ret
        exact ⟨ret_bool e.out.symm, rfl⟩
      · have e := mkHid (vals_take hx HA.out h1)
        clear hx
        go_wp2_with (go_at_call 50; refine (iVal_any _ _).mono ?_; rintro e w' ⟨rfl, rfl⟩)
        go_roundw
        case rel => exact ⟨k + 1, by omega, by go_num, e.out, by trivial⟩
        case measure => simp [intOf]; omega
    · have e : Hid (valsB l = true) := mkHid (by have := HA.out; rw [List.take_of_length_le (by omega)] at this; exact this)
      go_wp2
      go_ret
      exact ⟨ret_bool e.out.symm, rfl⟩
set_option maxRecDepth 100000 in
set_option maxHeartbeats 800000 in
theorem stepBelow_of (x : Int) (l : List Int) (b off c : Nat) (w : World) (hn : l.length ≤ maxLen) (hl : IntsIn w l b off) : Calls Tryd.prog 28 #[.int .i64 x, .slice (some ⟨b, off, none⟩) l.length c] w fun e w' => e = .returned (.int .i64 (belowM x l)) ∧ w = w' := by
  unfold maxLen at hn
  have HL := mkHid hl
  clear hl
  go_enter Tryd.func28, Tryd.ntmps28
  go_wp2
  go_loopw [5, 10] (fun f i w' => ∃ (k : Nat), k ≤ l.length ∧ i = .int .i64 k ∧ f = .int .i64 (belowM x (l.take k)) ∧ w' = w) (fun _ i _ => l.length - (intOf i).toNat)
  case atStart => exact ⟨0, Nat.zero_le _, rfl, rfl, rfl⟩
  case round =>
    obtain ⟨k, hk, rfl, rfl, rfl⟩ := hrel
    by_cases hlt : k < l.length
    · obtain ⟨s, hx⟩ : ∃ x, l[k]? = some x := ⟨_, List.getElem?_eq_getElem hlt⟩
      have c0 := HL.out k s hx
      have i0 : (0 : Int) ≤ (k : Int) := by omega
      have i1 : (k : Int) < (l.length : Int) := by omega
      by_cases h1 : s ≤ x
      · have e := mkHid ((below_take hx).trans (if_pos h1))
        clear hx
        go_wp2
        go_roundw
        case rel => exact ⟨k + 1, by omega, by go_num, by rw [e.out], by trivial⟩
        case measure => simp [intOf]; omega
      · have e := mkHid ((below_take hx).trans (if_neg h1))
        clear hx
        go_wp2
        go_roundw
        case rel => exact ⟨k + 1, by omega, by go_num, by rw [e.out], by trivial⟩
        case measure => simp [intOf]; omega
    · have e : Hid (belowM x (l.take k) = belowM x l) := mkHid (by rw [List.take_of_length_le (by omega)])
      go_wp2
      go_ret
      exact ⟨ret_int e.out, rfl⟩
set_option maxRecDepth 100000 in
set_option maxHeartbeats 800000 in
theorem stepAbove_of (x : Int) (l : List Int) (b off c : Nat) (w : World) (hn : l.length ≤ maxLen) (hl : IntsIn w l b off) : Calls Tryd.prog 29 #[.int .i64 x, .slice (some ⟨b, off, none⟩) l.length c] w fun e w' => e = .returned (.int .i64 (aboveM x l)) ∧ w = w' := by
  unfold maxLen at hn
  have HL := mkHid hl
  clear hl
  go_enter Tryd.func29, Tryd.ntmps29
  go_wp2
  go_loopw [9] (fun i w' => ∃ (k : Nat), k ≤ l.length ∧ i = .int .i64 k ∧ aboveM x l = aboveM x (l.drop k) ∧ w' = w) (fun i _ => l.length - (intOf i).toNat)
  case atStart => exact ⟨0, Nat.zero_le _, rfl, rfl, rfl⟩
  case round =>
    obtain ⟨k, hk, rfl, hd, rfl⟩ := hrel
    have HD := mkHid hd
    clear hd
    by_cases hlt : k < l.length
    · obtain ⟨s, hx⟩ : ∃ x, l[k]? = some x := ⟨_, List.getElem?_eq_getElem hlt⟩
      have c0 := HL.out k s hx
      have i0 : (0 : Int) ≤ (k : Int) := by omega
      have i1 : (k : Int) < (l.length : Int) := by omega
      by_cases h1 : x ≤ s
      · have e := mkHid (HD.out.trans ((above_drop hx).trans (if_pos h1)))
        clear hx
        go_wp2
        go_ret
        exact ⟨ret_int e.out.symm, rfl⟩
      · have e := mkHid (HD.out.trans ((above_drop hx).trans (if_neg h1)))
        clear hx
        go_wp2
        go_roundw
        case rel => exact ⟨k + 1, by omega, by go_num, e.out, by trivial⟩
        case measure => simp [intOf]; omega
    · have e : Hid (aboveM x l = 1000000) := mkHid (by rw [HD.out, List.drop_eq_nil_of_le (by omega)]; rfl)
      go_wp2
      go_ret
      exact ⟨ret_int e.out.symm, rfl⟩
end Go.Proofs.YtgkmpadeleebdaaDoor.Q
