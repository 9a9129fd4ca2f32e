/-
  CONTRACTS of the leaves: isKey, isSign, isLetter, isDigit of the program; l01Letter, l01Digit, l01Between of the specification.
-/
import Derived.Test.YthfiblldccnjcaaDoorRows
import Derived.Test.YthfiblldccnjcaaDoorWPlain
import Derived.WalkKit
import Derived.WalkSpells
import Derived.WalkLawsBesides
namespace Go.Proofs.YthfiblldccnjcaaDoor.Wd
open Go.RowKit
open Pl

theorem ret_bool {a b : Bool} (h : a = b) : Ending.returned (.bool a) = .returned (.bool b) := by rw [h]
theorem ret_int {k : IntKind} {a b : Int} (h : a = b) : Ending.returned (.int k a) = .returned (.int k b) := by rw [h]

theorem isLetter_any (r : Int) (w : World) : Calls Tryd.prog 47 #[.int .i32 r] w fun e w' => e = .returned (.bool (lowI r)) ∧ w = w' := by
  unfold lowI
  go_enter Tryd.func47, Tryd.ntmps47
  go_wp2
  all_goals (go_ret; exact ⟨ret_bool (by simp_all <;> omega), rfl⟩)
theorem isDigit_any (r : Int) (w : World) : Calls Tryd.prog 48 #[.int .i32 r] w fun e w' => e = .returned (.bool (digI r)) ∧ w = w' := by
  unfold digI
  go_enter Tryd.func48, Tryd.ntmps48
  go_wp2
  all_goals (go_ret; exact ⟨ret_bool (by simp_all <;> omega), rfl⟩)
theorem sLetter_any (r : Int) (w : World) : Calls Tryd.prog 34 #[.int .u8 r] w fun e w' => e = .returned (.bool (lowI r)) ∧ w = w' := by
  unfold lowI
  go_enter Tryd.func34, Tryd.ntmps34
  go_wp2
  all_goals (go_ret; exact ⟨ret_bool (by simp_all <;> omega), rfl⟩)
theorem sDigit_any (r : Int) (w : World) : Calls Tryd.prog 36 #[.int .u8 r] w fun e w' => e = .returned (.bool (digI r)) ∧ w = w' := by
  unfold digI
  go_enter Tryd.func36, Tryd.ntmps36
  go_wp2
  all_goals (go_ret; exact ⟨ret_bool (by simp_all <;> omega), rfl⟩)
theorem sBetween_any (n : Int) (w : World) : Calls Tryd.prog 26 #[.int .i64 n, .int .i64 0, .int .i64 4000] w fun e w' => e = .returned (.bool (atB n)) ∧ w = w' := by
  unfold atB
  go_enter Tryd.func26, Tryd.ntmps26
  go_wp2
  all_goals (go_ret; exact ⟨ret_bool (by simp_all <;> omega), rfl⟩)

set_option maxHeartbeats 400000 in
theorem isKey_any (s : ByteArray) (w : World) : Calls Tryd.prog 46 #[.string s] w fun e w' => e = .returned (.bool (keyB s)) ∧ w = w' := by
  unfold keyB keys
  go_enter Tryd.func46, Tryd.ntmps46
  go_wp2
  all_goals (go_ret; exact ⟨ret_bool (by simp_all <;> omega), rfl⟩)

end Go.Proofs.YthfiblldccnjcaaDoor.Wd
