/-
  PURE: what is joined has both, is the least such, and is equal to one of the two where the other is in it. And: two Vals compared.
-/
import Derived.Test.YtiihjoliodemmaaDoorQVj
import Derived.Test.YtiihjoliodemmaaDoorQVq
import Derived.Laws.StructEq
namespace Go.Proofs.YtiihjoliodemmaaDoor.Q
open Go.RowKit

theorem joinV_ok {a b c d : Int} {s t : Bool} (h1 : okB a b = true) (h2 : okB c d = true) : joinV a b s c d t = ((joinM a b c d).1, (joinM a b c d).2, s && t) := by
  unfold joinV; rw [h1, h2]; rfl
theorem joinM_cases {a b c d : Int} (h1 : okB a b = true) (h2 : okB c d = true) : (a ≤ b ∧ c ≤ d ∧ joinM a b c d = (min a c, max b d)) ∨ (a ≤ b ∧ c = 1 ∧ d = 0 ∧ joinM a b c d = (a, b)) ∨ (a = 1 ∧ b = 0 ∧ joinM a b c d = (c, d)) := by
  have k1 := ok_iff.1 h1
  have k2 := ok_iff.1 h2
  unfold joinM
  rw [h1, h2]
  simp only [Bool.and_self, if_true]
  by_cases q1 : a ≤ b
  · rw [if_pos (is_iff.2 q1)]
    by_cases q2 : c ≤ d
    · rw [if_pos (is_iff.2 q2)]; exact .inl ⟨q1, q2, rfl⟩
    · rw [if_neg (fun h => q2 (is_iff.1 h))]; exact .inr (.inl ⟨q1, by omega, by omega, rfl⟩)
  · rw [if_neg (fun h => q1 (is_iff.1 h))]; exact .inr (.inr ⟨by omega, by omega, rfl⟩)
theorem joinM_okB {a b c d : Int} (h1 : okB a b = true) (h2 : okB c d = true) : okB (joinM a b c d).1 (joinM a b c d).2 = true := by
  have k1 := ok_iff.1 h1
  have k2 := ok_iff.1 h2
  rcases joinM_cases h1 h2 with ⟨q1, q2, e⟩ | ⟨q1, q2, q3, e⟩ | ⟨q1, q2, e⟩ <;> rw [e] <;> refine ok_iff.2 ?_ <;> omega
theorem has_iff {a b x : Int} : hasB a b x = true ↔ (-1000000 ≤ a ∧ a ≤ b ∧ b ≤ 1000000 ∧ a ≤ x ∧ x ≤ b) := by unfold hasB; simp
theorem leq_iff {a b c d : Int} (h1 : okB a b = true) (h2 : okB c d = true) : leqB a b c d = true ↔ (a ≤ b → c ≤ a ∧ b ≤ d) := by
  unfold leqB
  rw [h1, h2]
  simp only [Bool.true_and, Bool.or_eq_true, Bool.not_eq_true', decide_eq_true_eq]
  constructor
  · rintro (h | h) hab
    · rw [is_iff.2 hab] at h; cases h
    · exact h
  · intro h
    by_cases hab : a ≤ b
    · exact .inr (h hab)
    · refine .inl ?_
      cases q : isB a b
      · rfl
      · exact absurd (is_iff.1 q) hab
theorem has_join1 {a b c d : Int} {s t : Bool} {r : Bool} {n : Int} (h1 : okB a b = true) (h2 : okB c d = true) (h : hasV a b s r n = true) : hasV (joinM a b c d).1 (joinM a b c d).2 (s && t) r n = true := by
  have k1 := ok_iff.1 h1
  have k2 := ok_iff.1 h2
  unfold hasV at h ⊢
  cases r with
  | true =>
    simp only [if_true] at h ⊢
    have k := has_iff.1 h
    refine has_iff.2 ?_
    rcases joinM_cases h1 h2 with ⟨q1, q2, e⟩ | ⟨q1, q2, q3, e⟩ | ⟨q1, q2, e⟩ <;> rw [e] <;> omega
  | false =>
    rw [joinM_okB h1 h2]
    rw [h1] at h
    cases s with
    | true => simp at h
    | false => simpa using h
theorem has_join2 {a b c d : Int} {s t : Bool} {r : Bool} {n : Int} (h1 : okB a b = true) (h2 : okB c d = true) (h : hasV c d t r n = true) : hasV (joinM a b c d).1 (joinM a b c d).2 (s && t) r n = true := by
  have k1 := ok_iff.1 h1
  have k2 := ok_iff.1 h2
  unfold hasV at h ⊢
  cases r with
  | true =>
    simp only [if_true] at h ⊢
    have k := has_iff.1 h
    refine has_iff.2 ?_
    rcases joinM_cases h1 h2 with ⟨q1, q2, e⟩ | ⟨q1, q2, q3, e⟩ | ⟨q1, q2, e⟩ <;> rw [e] <;> omega
  | false =>
    rw [joinM_okB h1 h2]
    rw [h2] at h
    cases t with
    | true => simp at h
    | false => simpa using h
theorem leq_join1 {a b c d : Int} {s t : Bool} (h1 : okB a b = true) (h2 : okB c d = true) : leqV a b s (joinM a b c d).1 (joinM a b c d).2 (s && t) = true := by
  have k1 := ok_iff.1 h1
  have k2 := ok_iff.1 h2
  unfold leqV
  have : leqB a b (joinM a b c d).1 (joinM a b c d).2 = true := (leq_iff h1 (joinM_okB h1 h2)).2 (fun hab => by rcases joinM_cases h1 h2 with ⟨q1, q2, e⟩ | ⟨q1, q2, q3, e⟩ | ⟨q1, q2, e⟩ <;> rw [e] <;> omega)
  rw [this]
  cases s <;> cases t <;> rfl
theorem leq_join2 {a b c d : Int} {s t : Bool} (h1 : okB a b = true) (h2 : okB c d = true) : leqV c d t (joinM a b c d).1 (joinM a b c d).2 (s && t) = true := by
  have k1 := ok_iff.1 h1
  have k2 := ok_iff.1 h2
  unfold leqV
  have : leqB c d (joinM a b c d).1 (joinM a b c d).2 = true := (leq_iff h2 (joinM_okB h1 h2)).2 (fun hab => by rcases joinM_cases h1 h2 with ⟨q1, q2, e⟩ | ⟨q1, q2, q3, e⟩ | ⟨q1, q2, e⟩ <;> rw [e] <;> omega)
  rw [this]
  cases s <;> cases t <;> rfl
def eqV (a b : Int) (s : Bool) (c d : Int) (t : Bool) : Bool := decide (a = c) && (decide (b = d) && (s == t))
theorem leq_eq {a b c d : Int} {s t : Bool} (h1 : okB a b = true) (h2 : okB c d = true) : leqV a b s c d t = eqV (joinM a b c d).1 (joinM a b c d).2 (s && t) c d t := by
  have k1 := ok_iff.1 h1
  have k2 := ok_iff.1 h2
  have e1 : leqB a b c d = (decide ((joinM a b c d).1 = c) && decide ((joinM a b c d).2 = d)) := by
    rw [Bool.eq_iff_iff, leq_iff h1 h2, Bool.and_eq_true, decide_eq_true_eq, decide_eq_true_eq]
    rcases joinM_cases h1 h2 with ⟨q1, q2, e⟩ | ⟨q1, q2, q3, e⟩ | ⟨q1, q2, e⟩
    · rw [e]
      constructor
      · intro h; have := h q1; constructor <;> (simp only; omega)
      · rintro ⟨x, y⟩ _; simp only at x y; omega
    · rw [e]
      constructor
      · intro h; have := h q1; omega
      · rintro ⟨x, y⟩ _; simp only at x y; omega
    · rw [e]
      constructor
      · intro _; exact ⟨rfl, rfl⟩
      · intro _ hab; omega
  unfold leqV eqV
  rw [e1]
  cases decide ((joinM a b c d).1 = c) <;> cases decide ((joinM a b c d).2 = d) <;> cases s <;> cases t <;> rfl
set_option maxRecDepth 100000 in
theorem eql_val (w : World) (a b : Int) (s : Bool) (c d : Int) (t : Bool) : (Go.binOp .eql 33 (.agg #[.int .i64 a, .int .i64 b, .bool s]) (.agg #[.int .i64 c, .int .i64 d, .bool t])).run Tryd.prog w = .ok (.bool (eqV a b s c d t)) w := by
  have u3 := Tryd.underlying3
  have a3 := Tryd.isAgg3
  have z3 := Tryd.sizeOf3
  have u4 := Tryd.underlying4
  have a4 := Tryd.isAgg4
  have z4 := Tryd.sizeOf4
  have u23 := Tryd.underlying23
  have a23 := Tryd.isAgg23
  have z23 := Tryd.sizeOf23
  have hS : Tryd.prog.underlying 33 = some (.struct (Tryd.prog.fieldsOf 33)) := by kernel_rfl
  have hp : Tryd.prog.stoodInHeld 33 = false := by kernel_rfl
  rw [run_eql_struct, show (10000 : Nat) = 9999 + 1 from rfl, run_equalIn_agg w 9999 33 _ _ hS hp]
  simp only [Program.fieldsOf, Tryd.underlying33]
  go_simp
  unfold eqV
  by_cases h1 : a = c <;> by_cases h2 : b = d <;> cases s <;> cases t <;> simp [h1, h2]
set_option maxRecDepth 100000 in
theorem neq_val (w : World) (a b : Int) (s : Bool) (c d : Int) (t : Bool) : (Go.binOp .neq 33 (.agg #[.int .i64 a, .int .i64 b, .bool s]) (.agg #[.int .i64 c, .int .i64 d, .bool t])).run Tryd.prog w = .ok (.bool (!eqV a b s c d t)) w := by
  have h := eql_val w a b s c d t
  rw [run_eql_struct] at h
  rw [run_neq_struct]
  cases hh : (Op.equalIn 10000 33 (.agg #[.int .i64 a, .int .i64 b, .bool s]) (.agg #[.int .i64 c, .int .i64 d, .bool t])).run Tryd.prog w with
  | ok b' w' =>
    rw [hh] at h
    simp only [Result.andThen] at h ⊢
    injection h with h1 h2
    injection h1 with h3
    rw [h3, h2]
  | _ => rw [hh] at h; simp [Result.andThen] at h
theorem eqV_same (a b : Int) (s : Bool) : eqV a b s a b s = true := by unfold eqV; simp
end Go.Proofs.YtiihjoliodemmaaDoor.Q
