/-
  PURE: what a guard leaves: it only shrinks, and keeps the numbers for which the condition holds.
-/
import Derived.Test.YtgkmpadeleebdaaGd
import Derived.Test.YtgkmpadeleebdaaPs
namespace Go.Proofs.Ytgkmpadeleebdaa
open Go.RowKit

def holdsB (k u v : Int) : Bool := if k = 11 then decide (u < v) else if k = 12 then decide (u ≤ v) else if k = 13 then decide (v < u) else if k = 14 then decide (v ≤ u) else if k = 15 then decide (u = v) else decide (u ≠ v)
theorem some_of {a b : Int} (h : someB a b = true) : -1000000 ≤ a ∧ a ≤ b ∧ b ≤ 1000000 := by unfold someB at h; exact of_decide_eq_true h
theorem both_of {a b c d : Int} (h : bothB a b c d = true) : (-1000000 ≤ a ∧ a ≤ b ∧ b ≤ 1000000) ∧ (-1000000 ≤ c ∧ c ≤ d ∧ d ≤ 1000000) := by
  unfold bothB at h
  rw [Bool.and_eq_true] at h
  exact ⟨some_of h.1, some_of h.2⟩
theorem span_leq {a b p q : Int} (h : -1000000 ≤ a ∧ a ≤ b ∧ b ≤ 1000000) (h1 : a ≤ p) (h2 : q ≤ b) : leqB (spanM p q).1 (spanM p q).2 a b = true := by
  have ho : okB a b = true := by unfold okB; exact decide_eq_true (.inr h)
  unfold spanM leqB
  rw [ho]
  split
  · simp [okB, isB]
  · have h3 : okB p q = true := by unfold okB; exact decide_eq_true (.inr (by omega))
    simp [h3, isB]
    omega
theorem span_has {p q u : Int} (h : -1000000 ≤ p ∧ q ≤ 1000000) (h1 : p ≤ u) (h2 : u ≤ q) : hasB (spanM p q).1 (spanM p q).2 u = true := by
  unfold spanM
  rw [if_neg (by omega)]
  unfold hasB
  exact decide_eq_true (by simp only; omega)
theorem self_leq {a b : Int} (h : -1000000 ≤ a ∧ a ≤ b ∧ b ≤ 1000000) : leqB a b a b = true := by
  have := span_leq h (Int.le_refl a) (Int.le_refl b)
  unfold spanM at this
  rw [if_neg (by omega)] at this
  exact this
theorem self_has {a b u : Int} (h : -1000000 ≤ a ∧ b ≤ 1000000) (h1 : a ≤ u) (h2 : u ≤ b) : hasB a b u = true := by
  unfold hasB
  exact decide_eq_true (by omega)
theorem with_leq {a b c d : Int} (h : -1000000 ≤ a ∧ a ≤ b ∧ b ≤ 1000000) : leqB (withM a b c d).1 (withM a b c d).2 a b = true := by
  unfold withM woM
  split
  · split
    · exact span_leq h (by omega) (Int.le_refl _)
    · split
      · exact span_leq h (Int.le_refl _) (by omega)
      · exact self_leq h
  · exact self_leq h
theorem with_has {a b c d u v : Int} (h : -1000000 ≤ a ∧ a ≤ b ∧ b ≤ 1000000) (h1 : a ≤ u) (h2 : u ≤ b) (h3 : c ≤ v) (h4 : v ≤ d) (hn : u ≠ v) : hasB (withM a b c d).1 (withM a b c d).2 u = true := by
  unfold withM woM
  split
  · split
    · exact span_has (by omega) (by omega) h2
    · split
      · exact span_has (by omega) h1 (by omega)
      · exact self_has (by omega) h1 h2
  · exact self_has (by omega) h1 h2
theorem guard_leq {k a b c d : Int} (hk : 11 ≤ k ∧ k ≤ 16) (hb : bothB a b c d = true) : leqB (guardM k a b c d).1.1 (guardM k a b c d).1.2 a b = true ∧ leqB (guardM k a b c d).2.1 (guardM k a b c d).2.2 c d = true := by
  obtain ⟨h1, h2⟩ := both_of hb
  unfold guardM
  rw [if_pos hb]
  split
  · exact ⟨span_leq h1 (Int.le_refl _) (by omega), span_leq h2 (by omega) (Int.le_refl _)⟩
  split
  · exact ⟨span_leq h1 (Int.le_refl _) (by omega), span_leq h2 (by omega) (Int.le_refl _)⟩
  split
  · exact ⟨span_leq h1 (by omega) (Int.le_refl _), span_leq h2 (Int.le_refl _) (by omega)⟩
  split
  · exact ⟨span_leq h1 (by omega) (Int.le_refl _), span_leq h2 (Int.le_refl _) (by omega)⟩
  split
  · unfold meetM
    rw [if_pos hb]
    exact ⟨span_leq h1 (by omega) (by omega), span_leq h2 (by omega) (by omega)⟩
  split
  · exact ⟨with_leq h1, with_leq h2⟩
  · omega
theorem guard_has {k a b c d u v : Int} (hk : 11 ≤ k ∧ k ≤ 16) (hb : bothB a b c d = true) (u1 : a ≤ u) (u2 : u ≤ b) (v1 : c ≤ v) (v2 : v ≤ d) (hh : holdsB k u v = true) : hasB (guardM k a b c d).1.1 (guardM k a b c d).1.2 u = true ∧ hasB (guardM k a b c d).2.1 (guardM k a b c d).2.2 v = true := by
  obtain ⟨h1, h2⟩ := both_of hb
  unfold holdsB at hh
  unfold guardM
  rw [if_pos hb]
  split
  · rename_i e; rw [if_pos e] at hh; have := of_decide_eq_true hh
    exact ⟨span_has (by omega) u1 (by omega), span_has (by omega) (by omega) v2⟩
  rename_i e1; rw [if_neg e1] at hh
  split
  · rename_i e; rw [if_pos e] at hh; have := of_decide_eq_true hh
    exact ⟨span_has (by omega) u1 (by omega), span_has (by omega) (by omega) v2⟩
  rename_i e2; rw [if_neg e2] at hh
  split
  · rename_i e; rw [if_pos e] at hh; have := of_decide_eq_true hh
    exact ⟨span_has (by omega) (by omega) u2, span_has (by omega) v1 (by omega)⟩
  rename_i e3; rw [if_neg e3] at hh
  split
  · rename_i e; rw [if_pos e] at hh; have := of_decide_eq_true hh
    exact ⟨span_has (by omega) (by omega) u2, span_has (by omega) v1 (by omega)⟩
  rename_i e4; rw [if_neg e4] at hh
  split
  · rename_i e; rw [if_pos e] at hh; have := of_decide_eq_true hh
    unfold meetM
    rw [if_pos hb]
    exact ⟨span_has (by omega) (by omega) (by omega), span_has (by omega) (by omega) (by omega)⟩
  rename_i e5; rw [if_neg e5] at hh
  split
  · have hn := of_decide_eq_true hh
    exact ⟨with_has h1 u1 u2 v1 v2 hn, with_has h2 v1 v2 u1 u2 (fun e => hn e.symm)⟩
  · omega
/-- Where there is nothing to guard. -/
theorem guard_none {k a b c d : Int} (h : ¬ (11 ≤ k ∧ k ≤ 16) ∨ bothB a b c d = false) : guardM k a b c d = noneM := by
  unfold guardM
  split
  · rename_i hb
    rcases h with h | h
    · rw [if_neg (by omega), if_neg (by omega), if_neg (by omega), if_neg (by omega), if_neg (by omega), if_neg (by omega)]
    · rw [h] at hb; cases hb
  · rfl
set_option maxHeartbeats 800000 in
theorem holds_any (k u v : Int) (w : World) : Calls Try.prog 23 #[.int .i64 k, .int .i64 u, .int .i64 v] w fun e w' => e = .returned (.bool (holdsB k u v)) ∧ w = w' := by
  unfold holdsB
  by_cases k11 : k = 11
  · subst k11
    go_enter Try.func23, Try.ntmps23
    go_wp2
    go_ret
    exact ⟨by first | (simp; done) | (by_cases h : u = v <;> simp [h]), rfl⟩
  have b11 : (k == 11) = false := beq_eq_false_iff_ne.2 k11
  rw [if_neg k11]
  clear k11
  by_cases k12 : k = 12
  · subst k12
    go_enter Try.func23, Try.ntmps23
    go_wp2
    go_ret
    exact ⟨by first | (simp; done) | (by_cases h : u = v <;> simp [h]), rfl⟩
  have b12 : (k == 12) = false := beq_eq_false_iff_ne.2 k12
  rw [if_neg k12]
  clear k12
  by_cases k13 : k = 13
  · subst k13
    go_enter Try.func23, Try.ntmps23
    go_wp2
    go_ret
    exact ⟨by first | (simp; done) | (by_cases h : u = v <;> simp [h]), rfl⟩
  have b13 : (k == 13) = false := beq_eq_false_iff_ne.2 k13
  rw [if_neg k13]
  clear k13
  by_cases k14 : k = 14
  · subst k14
    go_enter Try.func23, Try.ntmps23
    go_wp2
    go_ret
    exact ⟨by first | (simp; done) | (by_cases h : u = v <;> simp [h]), rfl⟩
  have b14 : (k == 14) = false := beq_eq_false_iff_ne.2 k14
  rw [if_neg k14]
  clear k14
  by_cases k15 : k = 15
  · subst k15
    go_enter Try.func23, Try.ntmps23
    go_wp2
    go_ret
    exact ⟨by first | (simp; done) | (by_cases h : u = v <;> simp [h]), rfl⟩
  have b15 : (k == 15) = false := beq_eq_false_iff_ne.2 k15
  rw [if_neg k15]
  clear k15
  go_enter Try.func23, Try.ntmps23
  go_wp2
  go_ret
  exact ⟨by by_cases h : u = v <;> simp [h], rfl⟩
end Go.Proofs.Ytgkmpadeleebdaa
