/-
  PURE: ranges ordered by what they have.
-/
import Derived.Test.YtgkmpadeleebdaaDoorQWe
import Derived.Test.YtgkmpadeleebdaaDoorQWs
import Derived.Test.YtgkmpadeleebdaaDoorQMt
import Derived.Test.YtgkmpadeleebdaaDoorQDj
import Derived.Test.YtgkmpadeleebdaaDoorQDrz
import Derived.Test.YtgkmpadeleebdaaDoorQIv
import Derived.Test.YtgkmpadeleebdaaDoorRp
namespace Go.Proofs.YtgkmpadeleebdaaDoor.Q
open Go.RowKit

theorem joinM_cases {a b c d : Int} (h1 : okB a b = true) (h2 : okB c d = true) : (a ≤ b ∧ c ≤ d ∧ joinM a b c d = (min a c, max b d)) ∨ (a ≤ b ∧ c = 1 ∧ d = 0 ∧ joinM a b c d = (a, b)) ∨ (a = 1 ∧ b = 0 ∧ joinM a b c d = (c, d)) := by
  have k1 := ok_iff.1 h1
  have k2 := ok_iff.1 h2
  unfold joinM
  rw [h1, h2]
  simp only [Bool.and_self, if_true]
  by_cases q1 : a ≤ b
  · rw [if_pos (is_iff.2 q1)]
    by_cases q2 : c ≤ d
    · rw [if_pos (is_iff.2 q2)]; exact .inl ⟨q1, q2, rfl⟩
    · rw [if_neg (fun h => q2 (is_iff.1 h))]; exact .inr (.inl ⟨q1, by omega, by omega, rfl⟩)
  · rw [if_neg (fun h => q1 (is_iff.1 h))]; exact .inr (.inr ⟨by omega, by omega, rfl⟩)
theorem joinM_okB {a b c d : Int} (h1 : okB a b = true) (h2 : okB c d = true) : okB (joinM a b c d).1 (joinM a b c d).2 = true := by
  have k1 := ok_iff.1 h1
  have k2 := ok_iff.1 h2
  rcases joinM_cases h1 h2 with ⟨q1, q2, e⟩ | ⟨q1, q2, q3, e⟩ | ⟨q1, q2, e⟩ <;> rw [e] <;> refine ok_iff.2 ?_ <;> omega
theorem leq_iff {a b c d : Int} (h1 : okB a b = true) (h2 : okB c d = true) : leqB a b c d = true ↔ (a ≤ b → c ≤ a ∧ b ≤ d) := by
  unfold leqB
  rw [h1, h2]
  simp only [Bool.true_and, Bool.or_eq_true, Bool.not_eq_true', decide_eq_true_eq]
  constructor
  · rintro (h | h) hab
    · rw [is_iff.2 hab] at h; cases h
    · exact h
  · intro h
    by_cases hab : a ≤ b
    · exact .inr (h hab)
    · refine .inl ?_
      cases q : isB a b
      · rfl
      · exact absurd (is_iff.1 q) hab
section
variable {a b c d : Int}
theorem rj1 (h1 : okB a b = true) (h2 : okB c d = true) : leqB a b (joinM a b c d).1 (joinM a b c d).2 = true := by
  rw [leq_iff h1 (joinM_okB h1 h2)]
  intro h
  rcases joinM_cases h1 h2 with ⟨_, _, e⟩ | ⟨_, _, _, e⟩ | ⟨_, _, e⟩ <;> rw [e] <;> simp only <;> omega
theorem rj2 (h1 : okB a b = true) (h2 : okB c d = true) : leqB c d (joinM a b c d).1 (joinM a b c d).2 = true := by
  rw [leq_iff h2 (joinM_okB h1 h2)]
  intro h
  rcases joinM_cases h1 h2 with ⟨_, _, e⟩ | ⟨_, _, _, e⟩ | ⟨_, _, e⟩ <;> rw [e] <;> simp only <;> omega
theorem meet_cases (a b c d : Int) : meetM a b c d = (1, 0) ∨ (meetM a b c d = (max a c, min b d) ∧ max a c ≤ min b d ∧ -1000000 ≤ a ∧ b ≤ 1000000 ∧ -1000000 ≤ c ∧ d ≤ 1000000) := by
  unfold meetM
  split
  · rename_i h
    unfold bothB someB at h
    simp only [Bool.and_eq_true, decide_eq_true_eq] at h
    unfold spanM
    split
    · exact .inl rfl
    · exact .inr ⟨rfl, by omega, by omega, by omega, by omega, by omega⟩
  · exact .inl rfl
theorem meet_okB (a b c d : Int) : okB (meetM a b c d).1 (meetM a b c d).2 = true := by
  rcases meet_cases a b c d with e | ⟨e, q⟩
  · rw [e]; decide
  · rw [e]; unfold okB; apply decide_eq_true; simp only; omega
theorem rm1 (h1 : okB a b = true) : leqB (meetM a b c d).1 (meetM a b c d).2 a b = true := by
  rw [leq_iff (meet_okB a b c d) h1]
  rcases meet_cases a b c d with e | ⟨e, q⟩ <;> rw [e] <;> simp only <;> omega
theorem rm2 (h2 : okB c d = true) : leqB (meetM a b c d).1 (meetM a b c d).2 c d = true := by
  rw [leq_iff (meet_okB a b c d) h2]
  rcases meet_cases a b c d with e | ⟨e, q⟩ <;> rw [e] <;> simp only <;> omega
theorem req (h1 : okB a b = true) (h2 : okB c d = true) : eqB (joinM a b c d).1 (joinM a b c d).2 c d = leqB a b c d := by
  rw [Bool.eq_iff_iff, leq_iff h1 h2]
  unfold eqB
  rw [decide_eq_true_eq]
  have k1 := of_decide_eq_true h1
  have k2 := of_decide_eq_true h2
  rcases joinM_cases h1 h2 with ⟨_, _, e⟩ | ⟨_, _, _, e⟩ | ⟨_, _, e⟩ <;> rw [e]
  · show (min a c = c ∧ max b d = d) ↔ _
    exact ⟨fun h _ => by omega, fun h => by omega⟩
  · show (a = c ∧ b = d) ↔ _
    exact ⟨fun h _ => by omega, fun h => by omega⟩
  · exact ⟨fun _ _ => by omega, fun _ => ⟨rfl, rfl⟩⟩
theorem rleast {x y : Int} (h1 : okB a b = true) (h2 : okB c d = true) (h3 : okB x y = true) (g1 : leqB a b x y = true) (g2 : leqB c d x y = true) : leqB (joinM a b c d).1 (joinM a b c d).2 x y = true := by
  rw [leq_iff h1 h3] at g1
  rw [leq_iff h2 h3] at g2
  rw [leq_iff (joinM_okB h1 h2) h3]
  rcases joinM_cases h1 h2 with ⟨_, _, e⟩ | ⟨_, _, _, e⟩ | ⟨_, _, e⟩ <;> rw [e] <;> simp only <;> omega
theorem below_le (x : Int) : ∀ (l : List Int) (f : Int), f ≤ x → l.foldl (fun f s => if s ≤ x then s else f) f ≤ x
  | [], f, h => h
  | s :: l, f, h => by
    rw [List.foldl_cons]
    apply below_le x l
    split <;> omega
theorem above_le (x : Int) : ∀ l : List Int, x ≤ 1000000 → x ≤ aboveM x l
  | [], h => h
  | s :: l, h => by
    unfold aboveM
    split
    · assumption
    · exact above_le x l h
theorem rwid {l : List Int} (h1 : okB a b = true) (h2 : okB c d = true) (h3 : okB (widenM a b c d l).1 (widenM a b c d l).2 = true) (h4 : (widenM a b c d l).1 ≤ (widenM a b c d l).2) : leqB a b (widenM a b c d l).1 (widenM a b c d l).2 = true ∧ leqB c d (widenM a b c d l).1 (widenM a b c d l).2 = true := by
  rw [leq_iff h1 h3, leq_iff h2 h3]
  have k1 := of_decide_eq_true h1
  have k2 := of_decide_eq_true h2
  clear h3
  revert h4
  unfold widenM isB
  rw [h1, h2]
  cases stepsB l
  · intro h4
    simp at h4
  · simp only [Bool.true_and, if_true, decide_eq_true_eq]
    have q1 : -1000000 ≤ c → belowM c l ≤ c := fun h => below_le c l _ h
    have q2 := above_le d l
    split
    · split
      · intro _
        simp only
        constructor
        · intro _; constructor <;> split <;> omega
        · intro _; constructor <;> split <;> omega
      · intro _; simp only; omega
    · intro _; simp only; omega
end
theorem okd_same (a b : Int) : okB a b = Go.Proofs.YtgkmpadeleebdaaDoor.okB a b := rfl
theorem text_empty {a b : Int} (h : okB a b = false) : (textM a b).size = 0 := by
  unfold textM
  rw [← okd_same, h]
  rfl
end Go.Proofs.YtgkmpadeleebdaaDoor.Q
