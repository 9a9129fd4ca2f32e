/-
  CONTRACT of the program's AlarmOf.
-/
import Derived.Test.YtaekcmbjcfpigaaFi
import Derived.Test.YtaekcmbjcfpigaaCf
namespace Go.Proofs.Ytaekcmbjcfpigaa
open Go.RowKit

/-- Whether the trap is one of 1 to 4 and stands among the alarms. -/
def inB (L : List AA) (e x t : Int) : Bool := btw t 1 4 && decide ((e, x, t) ∈ L)
set_option maxRecDepth 100000 in
set_option maxHeartbeats 1600000 in
theorem iAlarmOf_any (L : List AA) (la : Option Addr) (lc : Nat) (p u s t e x : Int) (a b : Option Addr) (n c m d : Nat) (w : World) (hn : L.length ≤ maxLen) (hl : At eA w la L) :
    Calls Try.prog 9 #[.slice la L.length lc, .agg #[.int .i64 p, .slice a n c, .slice b m d, .int .i64 u, .int .i64 s, .int .i64 t, .int .i64 e, .int .i64 x]] w fun f w' => f = .returned (.bool (inB L e x t)) ∧ Below w.heap.size w w' := by
  unfold inB
  obtain ⟨w0, hw0⟩ : ∃ z : World, w.alloc (.cells #[.int .i64 p, .slice a n c, .slice b m d, .int .i64 u, .int .i64 s, .int .i64 t, .int .i64 e, .int .i64 x] 34) = z := ⟨_, rfl⟩
  have HB : Hid (Below w.heap.size w w0) := mkHid (by rw [← hw0]; exact bl_alloc (Below.refl _ _) _)
  obtain ⟨X, hX⟩ : ∃ z, w.heap.size = z := ⟨_, rfl⟩
  obtain ⟨q0, q1, q2, q3, q4, q5, q6, q7, _, _, _, _, _, _, _, _⟩ : B8 w0 X (.int .i64 p) (.slice a n c) (.slice b m d) (.int .i64 u) (.int .i64 s) (.int .i64 t) (.int .i64 e) (.int .i64 x) := by rw [← hw0, ← hX]; constructor <;> simp [go_sem]
  have HL := mkHid (hl.below HB.out)
  have HN := mkHid hn
  clear hl hn
  cases hT : btw t 1 4
  · go_enter Try.func9, Try.ntmps9
    go_wp2_with (first | (go_at_call 18; refine (trap_any _ _).mono ?_; rintro f w1 ⟨rfl, rfl⟩))
    go_ret
    exact ⟨rfl, HB.out⟩
  · obtain ⟨q, hq⟩ : ∃ q : Bool, decide ((e, x, t) ∈ L) = q := ⟨_, rfl⟩
    have HQ := mkHid hq
    rw [hq]
    clear hq
    go_enter Try.func9, Try.ntmps9
    go_wp2_with (first | (go_at_call 18; refine (trap_any _ _).mono ?_; rintro f w1 ⟨rfl, rfl⟩))
    refine (contains_any L (e, x, t) la lc w0 HN.out HL.out).mono ?_
    rintro f w2 ⟨hb, rfl⟩
    have HB1 := mkHid (below_step HB.out hb)
    go_wp2
    go_ret
    exact ⟨by rw [← HQ.out]; rfl, HB1.out⟩
end Go.Proofs.Ytaekcmbjcfpigaa
