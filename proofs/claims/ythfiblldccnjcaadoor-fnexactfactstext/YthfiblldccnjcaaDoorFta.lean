/-
  CONTRACTS: what a text of facts leans on: the table of powers, strconv.Itoa, whether facts are none.
-/
import Derived.Test.YthfiblldccnjcaaDoorFt
import Derived.Lib.SmallJoins
import Derived.Lib.AppendIntMem
namespace Go.Proofs.YthfiblldccnjcaaDoor
open Go.RowKit

theorem ret_str {a b : ByteArray} (h : a = b) : Ending.returned (.string a) = .returned (.string b) := by rw [h]
/-- The table of powers stays where nothing of what was there turns. -/
def TabS (w : World) : Prop := ∀ W, Below w.heap.size w W → Lib.TabIs Tryd.prog W "internal/strconv.uint64pow10" .u64 Lib.pow10Tab
theorem TabS.below {w w' : World} (h : TabS w) (hb : Below w.heap.size w w') : TabS w' := fun W hW => h W (below_step hb hW)
theorem itoa_any (n : Int) (w : World) (h0 : -4000000 ≤ n) (h1 : n ≤ 4000000) (ht : Lib.TabIs Tryd.prog w "internal/strconv.uint64pow10" .u64 Lib.pow10Tab) : Calls Tryd.prog 30 #[.int .i64 n] w fun e w' => e = .returned (.string (dI n)) ∧ Below w.heap.size w w' := by
  refine (Tryd.strconv_Itoa n (by omega) (by omega) w ht).mono ?_
  rintro e w' ⟨rfl, kd, os, hw'⟩
  refine ⟨rfl, ?_⟩
  have := Lib.below_grow _ w (Nat.le_refl _) kd os
  rw [← hw'] at this
  exact this

def noN (z : Int) (n : Nat) : Bool := decide (z = 0 ∧ n = 0)
theorem noN_eq (z : Int) (l : List Int) : noN z l.length = noF z l := by
  unfold noN noF
  congr 1
  simp
set_option maxHeartbeats 800000 in
theorem iNoF_any (z : Int) (a : Option Addr) (n c : Nat) (w : World) : Calls Tryd.prog 19 #[.agg #[.int .i64 z, .slice a n c]] w fun e w' => e = .returned (.bool (noN z n)) ∧ Below w.heap.size w w' := by
  by_cases h1 : z = 0
  · have hb1 : (z == 0) = true := by rw [beq_iff_eq]; exact h1
    by_cases h2 : n = 0
    · have hb2 : ((n : Int) == 0) = true := by rw [beq_iff_eq]; omega
      have e := mkHid (show noN z n = true from decide_eq_true ⟨h1, h2⟩)
      clear h1 h2
      go_enter Tryd.func19, Tryd.ntmps19
      go_wp2
      go_ret
      exact ⟨ret_bool e.out.symm, (Below.refl _ _).alloc (Nat.le_refl _) _⟩
    · have hb2 : ((n : Int) == 0) = false := by rw [beq_eq_false_iff_ne]; omega
      have e := mkHid (show noN z n = false from decide_eq_false fun h => h2 h.2)
      clear h1 h2
      go_enter Tryd.func19, Tryd.ntmps19
      go_wp2
      go_ret
      exact ⟨ret_bool e.out.symm, (Below.refl _ _).alloc (Nat.le_refl _) _⟩
  · have hb1 : (z == 0) = false := by rw [beq_eq_false_iff_ne]; exact h1
    have e := mkHid (show noN z n = false from decide_eq_false fun h => h1 h.1)
    clear h1
    go_enter Tryd.func19, Tryd.ntmps19
    go_wp2
    go_ret
    exact ⟨ret_bool e.out.symm, (Below.refl _ _).alloc (Nat.le_refl _) _⟩
set_option maxHeartbeats 800000 in
theorem sNoF_any (z : Int) (a : Option Addr) (n c : Nat) (w : World) : Calls Tryd.prog 13 #[.agg #[.int .i64 z, .slice a n c]] w fun e w' => e = .returned (.bool (noN z n)) ∧ Below w.heap.size w w' := by
  by_cases h1 : z = 0
  · have hb1 : (z == 0) = true := by rw [beq_iff_eq]; exact h1
    by_cases h2 : n = 0
    · have hb2 : ((n : Int) == 0) = true := by rw [beq_iff_eq]; omega
      have e := mkHid (show noN z n = true from decide_eq_true ⟨h1, h2⟩)
      clear h1 h2
      go_enter Tryd.func13, Tryd.ntmps13
      go_wp2
      go_ret
      exact ⟨ret_bool e.out.symm, (Below.refl _ _).alloc (Nat.le_refl _) _⟩
    · have hb2 : ((n : Int) == 0) = false := by rw [beq_eq_false_iff_ne]; omega
      have e := mkHid (show noN z n = false from decide_eq_false fun h => h2 h.2)
      clear h1 h2
      go_enter Tryd.func13, Tryd.ntmps13
      go_wp2
      go_ret
      exact ⟨ret_bool e.out.symm, (Below.refl _ _).alloc (Nat.le_refl _) _⟩
  · have hb1 : (z == 0) = false := by rw [beq_eq_false_iff_ne]; exact h1
    have e := mkHid (show noN z n = false from decide_eq_false fun h => h1 h.1)
    clear h1
    go_enter Tryd.func13, Tryd.ntmps13
    go_wp2
    go_ret
    exact ⟨ret_bool e.out.symm, (Below.refl _ _).alloc (Nat.le_refl _) _⟩
end Go.Proofs.YthfiblldccnjcaaDoor
