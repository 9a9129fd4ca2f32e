/-
  CONTRACTS of the leaves: isKey, isSign, isLetter, isDigit of the program; l01Letter, l01Digit, l01Between of the specification.
-/
import Derived.Test.YtiihjoliodemmaaDoorRows
import Derived.Test.YtiihjoliodemmaaDoorWPlain
import Derived.WalkKit
import Derived.WalkSpells
import Derived.WalkLawsBesides
namespace Go.Proofs.YtiihjoliodemmaaDoor.Wd
open Go.RowKit
open Pl

theorem ret_bool {a b : Bool} (h : a = b) : Ending.returned (.bool a) = .returned (.bool b) := by rw [h]
theorem ret_int {k : IntKind} {a b : Int} (h : a = b) : Ending.returned (.int k a) = .returned (.int k b) := by rw [h]

theorem isLetter_any (r : Int) (w : World) : Calls Tryd.prog 154 #[.int .i32 r] w fun e w' => e = .returned (.bool (lowI r)) ∧ w = w' := by
  unfold lowI
  go_enter Tryd.func154, Tryd.ntmps154
  go_wp2
  all_goals (go_ret; exact ⟨ret_bool (by simp_all <;> omega), rfl⟩)
theorem isDigit_any (r : Int) (w : World) : Calls Tryd.prog 155 #[.int .i32 r] w fun e w' => e = .returned (.bool (digI r)) ∧ w = w' := by
  unfold digI
  go_enter Tryd.func155, Tryd.ntmps155
  go_wp2
  all_goals (go_ret; exact ⟨ret_bool (by simp_all <;> omega), rfl⟩)
theorem sLetter_any (r : Int) (w : World) : Calls Tryd.prog 141 #[.int .u8 r] w fun e w' => e = .returned (.bool (lowI r)) ∧ w = w' := by
  unfold lowI
  go_enter Tryd.func141, Tryd.ntmps141
  go_wp2
  all_goals (go_ret; exact ⟨ret_bool (by simp_all <;> omega), rfl⟩)
theorem sDigit_any (r : Int) (w : World) : Calls Tryd.prog 98 #[.int .u8 r] w fun e w' => e = .returned (.bool (digI r)) ∧ w = w' := by
  unfold digI
  go_enter Tryd.func98, Tryd.ntmps98
  go_wp2
  all_goals (go_ret; exact ⟨ret_bool (by simp_all <;> omega), rfl⟩)
theorem sBetween_any (n : Int) (w : World) : Calls Tryd.prog 105 #[.int .i64 n, .int .i64 0, .int .i64 4000] w fun e w' => e = .returned (.bool (atB n)) ∧ w = w' := by
  unfold atB
  go_enter Tryd.func105, Tryd.ntmps105
  go_wp2
  all_goals (go_ret; exact ⟨ret_bool (by simp_all <;> omega), rfl⟩)

set_option maxHeartbeats 400000 in
theorem isKey_any (s : ByteArray) (w : World) : Calls Tryd.prog 153 #[.string s] w fun e w' => e = .returned (.bool (keyB s)) ∧ w = w' := by
  unfold keyB keys
  go_enter Tryd.func153, Tryd.ntmps153
  go_wp2
  all_goals (go_ret; exact ⟨ret_bool (by simp_all <;> omega), rfl⟩)

end Go.Proofs.YtiihjoliodemmaaDoor.Wd
