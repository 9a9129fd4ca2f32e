/-
  BOTH RangeGuards, at every kind and every two ranges.
-/
import Derived.Test.YtgkmpadeleebdaaG13
import Derived.Test.YtgkmpadeleebdaaG14
import Derived.Test.YtgkmpadeleebdaaG15
import Derived.Test.YtgkmpadeleebdaaG16
import Derived.Test.YtgkmpadeleebdaaH10
import Derived.Test.YtgkmpadeleebdaaH15
import Derived.Test.YtgkmpadeleebdaaH16
namespace Go.Proofs.Ytgkmpadeleebdaa
open Go.RowKit
attribute [local go_sem] nlt2 nlt3 nlt4 nle2 nle3 nle4 drew_size drew_cell drew_frozen

theorem guard_kind {a b c d : Int} (h : bothB a b c d = true) (k : Int) : guardM k a b c d = if k = 11 then lessM 1 a b c d else if k = 12 then lessM 0 a b c d else if k = 13 then swapM (lessM 1 c d a b) else if k = 14 then swapM (lessM 0 c d a b)
    else if k = 15 then (meetM a b c d, meetM a b c d) else if k = 16 then (withM a b c d, withM c d a b) else noneM := if_pos h
theorem guard_out {k a b c d : Int} (hk : ¬ (11 ≤ k ∧ k ≤ 16)) : guardM k a b c d = noneM := by
  unfold guardM
  cases h : bothB a b c d
  · rfl
  · rw [if_pos rfl, if_neg (by omega), if_neg (by omega), if_neg (by omega), if_neg (by omega), if_neg (by omega), if_neg (by omega)]
theorem sGuard_16 (a b c d : Int) (w : World) (h2 : bothB a b c d = true) : Calls Try.prog 21 #[.int .i64 16, .agg #[.int .i64 a, .int .i64 b], .agg #[.int .i64 c, .int .i64 d]] w fun e w' => e = .returned (.tuple #[.agg #[.int .i64 ((withM a b c d, withM c d a b)).1.1, .int .i64 ((withM a b c d, withM c d a b)).1.2], .agg #[.int .i64 ((withM a b c d, withM c d a b)).2.1, .int .i64 ((withM a b c d, withM c d a b)).2.2]]) ∧ Below w.heap.size w w' := by
  by_cases h5 : a = b
  · by_cases h6 : c = d
    · subst h5 h6; exact sGuard_16a a c w h2
    · subst h5; exact sGuard_16c a c d w h2 h6
  · by_cases h6 : c = d
    · subst h6; exact sGuard_16b a b c w h2 h5
    · exact sGuard_16d a b c d w h2 h5 h6

theorem sGuard_any (k a b c d : Int) (w : World) : Calls Try.prog 21 #[.int .i64 k, .agg #[.int .i64 a, .int .i64 b], .agg #[.int .i64 c, .int .i64 d]] w fun e w' => e = .returned (.tuple #[.agg #[.int .i64 (guardM k a b c d).1.1, .int .i64 (guardM k a b c d).1.2], .agg #[.int .i64 (guardM k a b c d).2.1, .int .i64 (guardM k a b c d).2.2]]) ∧ Below w.heap.size w w' := by
  cases h : bothB a b c d
  · rw [show guardM k a b c d = noneM by unfold guardM; rw [h]; rfl]
    exact sGuard_none k a b c d w (.inr h)
  · by_cases k11 : k = 11
    · subst k11
      rw [show guardM 11 a b c d = lessM 1 a b c d from guard_kind h 11]
      exact sGuard_11 a b c d w h
    by_cases k12 : k = 12
    · subst k12
      rw [show guardM 12 a b c d = lessM 0 a b c d from guard_kind h 12]
      exact sGuard_12 a b c d w h
    by_cases k13 : k = 13
    · subst k13
      rw [show guardM 13 a b c d = swapM (lessM 1 c d a b) from guard_kind h 13]
      exact sGuard_13 a b c d w h
    by_cases k14 : k = 14
    · subst k14
      rw [show guardM 14 a b c d = swapM (lessM 0 c d a b) from guard_kind h 14]
      exact sGuard_14 a b c d w h
    by_cases k15 : k = 15
    · subst k15
      rw [show guardM 15 a b c d = (meetM a b c d, meetM a b c d) from guard_kind h 15]
      exact sGuard_15 a b c d w h
    by_cases k16 : k = 16
    · subst k16
      rw [show guardM 16 a b c d = (withM a b c d, withM c d a b) from guard_kind h 16]
      exact sGuard_16 a b c d w h
    rw [guard_out (k := k) (by omega)]
    exact sGuard_none k a b c d w (.inl (by unfold btw; simp; omega))
theorem iGuard_any (k a b c d : Int) (w : World) : Calls Try.prog 20 #[.int .i64 k, .agg #[.int .i64 a, .int .i64 b], .agg #[.int .i64 c, .int .i64 d]] w fun e w' => e = .returned (.tuple #[.agg #[.int .i64 (guardM k a b c d).1.1, .int .i64 (guardM k a b c d).1.2], .agg #[.int .i64 (guardM k a b c d).2.1, .int .i64 (guardM k a b c d).2.2]]) ∧ Below w.heap.size w w' := by
  cases h : bothB a b c d
  · rw [show guardM k a b c d = noneM by unfold guardM; rw [h]; rfl]
    exact iGuard_no k a b c d w h
  · obtain ⟨g1, g2⟩ : someB a b = true ∧ someB c d = true := by unfold bothB at h; exact Bool.and_eq_true_iff.1 h
    by_cases k11 : k = 11
    · subst k11
      rw [show guardM 11 a b c d = lessM 1 a b c d from guard_kind h 11]
      exact iGuard_11 a b c d w g1 g2
    by_cases k12 : k = 12
    · subst k12
      rw [show guardM 12 a b c d = lessM 0 a b c d from guard_kind h 12]
      exact iGuard_12 a b c d w g1 g2
    by_cases k13 : k = 13
    · subst k13
      rw [show guardM 13 a b c d = swapM (lessM 1 c d a b) from guard_kind h 13]
      exact iGuard_13 a b c d w g1 g2
    by_cases k14 : k = 14
    · subst k14
      rw [show guardM 14 a b c d = swapM (lessM 0 c d a b) from guard_kind h 14]
      exact iGuard_14 a b c d w g1 g2
    by_cases k15 : k = 15
    · subst k15
      rw [show guardM 15 a b c d = (meetM a b c d, meetM a b c d) from guard_kind h 15]
      exact iGuard_15 a b c d w g1 g2
    by_cases k16 : k = 16
    · subst k16
      rw [show guardM 16 a b c d = (withM a b c d, withM c d a b) from guard_kind h 16]
      exact iGuard_16 a b c d w g1 g2
    rw [guard_out (k := k) (by omega)]
    exact iGuard_kind k a b c d w g1 g2 (by omega)
end Go.Proofs.Ytgkmpadeleebdaa
