/-
  CONTRACTS of the leaves: isKey, isSign, isLetter, isDigit of the program; l01Letter, l01Digit, l01Between of the specification.
-/
import Derived.Test.YthaehhndfahocaaRows
import Derived.Test.YthaehhndfahocaaPlain
import Derived.WalkKit
import Derived.WalkSpells
import Derived.WalkLawsBesides
namespace Go.Proofs.Ythaehhndfahocaa
open Go.RowKit
open Pl

theorem ret_bool {a b : Bool} (h : a = b) : Ending.returned (.bool a) = .returned (.bool b) := by rw [h]
theorem ret_int {k : IntKind} {a b : Int} (h : a = b) : Ending.returned (.int k a) = .returned (.int k b) := by rw [h]

theorem isLetter_any (r : Int) (w : World) : Calls Try.prog 47 #[.int .i32 r] w fun e w' => e = .returned (.bool (lowI r)) ∧ w = w' := by
  unfold lowI
  go_enter Try.func47, Try.ntmps47
  go_wp2
  all_goals (go_ret; exact ⟨ret_bool (by simp_all <;> omega), rfl⟩)
theorem isDigit_any (r : Int) (w : World) : Calls Try.prog 48 #[.int .i32 r] w fun e w' => e = .returned (.bool (digI r)) ∧ w = w' := by
  unfold digI
  go_enter Try.func48, Try.ntmps48
  go_wp2
  all_goals (go_ret; exact ⟨ret_bool (by simp_all <;> omega), rfl⟩)
theorem sLetter_any (r : Int) (w : World) : Calls Try.prog 55 #[.int .u8 r] w fun e w' => e = .returned (.bool (lowI r)) ∧ w = w' := by
  unfold lowI
  go_enter Try.func55, Try.ntmps55
  go_wp2
  all_goals (go_ret; exact ⟨ret_bool (by simp_all <;> omega), rfl⟩)
theorem sDigit_any (r : Int) (w : World) : Calls Try.prog 56 #[.int .u8 r] w fun e w' => e = .returned (.bool (digI r)) ∧ w = w' := by
  unfold digI
  go_enter Try.func56, Try.ntmps56
  go_wp2
  all_goals (go_ret; exact ⟨ret_bool (by simp_all <;> omega), rfl⟩)
theorem sBetween_any (n : Int) (w : World) : Calls Try.prog 44 #[.int .i64 n, .int .i64 0, .int .i64 4000] w fun e w' => e = .returned (.bool (atB n)) ∧ w = w' := by
  unfold atB
  go_enter Try.func44, Try.ntmps44
  go_wp2
  all_goals (go_ret; exact ⟨ret_bool (by simp_all <;> omega), rfl⟩)

set_option maxHeartbeats 400000 in
theorem isKey_any (s : ByteArray) (w : World) : Calls Try.prog 53 #[.string s] w fun e w' => e = .returned (.bool (keyB s)) ∧ w = w' := by
  unfold keyB keys
  go_enter Try.func53, Try.ntmps53
  go_wp2
  all_goals (go_ret; exact ⟨ret_bool (by simp_all <;> omega), rfl⟩)

set_option maxHeartbeats 800000 in
theorem isSign_any (s : ByteArray) (w : World) : Calls Try.prog 52 #[.string s] w fun e w' => e = .returned (.bool (signB s)) ∧ w = w' := by
  unfold signB signs
  go_enter Try.func52, Try.ntmps52
  go_wp2
  all_goals (go_ret; exact ⟨ret_bool (by simp_all <;> omega), rfl⟩)

end Go.Proofs.Ythaehhndfahocaa
