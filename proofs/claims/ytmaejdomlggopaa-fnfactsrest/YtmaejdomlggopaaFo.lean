/-
  CONTRACTS of the caps, of both FactsOks, of what is none.
-/
import Derived.Test.YtmaejdomlggopaaOw
import Derived.Test.YtmaejdomlggopaaFk
import Derived.Deep.LoopGhost
namespace Go.Proofs.Ytmaejdomlggopaa
open Go.RowKit

theorem cap_same {i j : Nat} (h : i = j) : capT i j = 0 := if_pos h
theorem cap_zero {i j : Nat} (h : ¬ i = j) (h0 : i = 0 ∨ j = 0) : capT i j = 1000000 := by unfold capT; rw [if_neg h, if_pos h0]
theorem cap_two {i j : Nat} (h : ¬ i = j) (h0 : ¬ i = 0) (h1 : ¬ j = 0) : capT i j = 2000000 := by unfold capT; rw [if_neg h, if_neg (fun e => e.elim h0 h1)]
theorem beq_cast (i j : Nat) : ((i : Int) == (j : Int)) = decide (i = j) := by
  by_cases h : i = j
  · subst h; simp
  · rw [beq_eq_false_iff_ne.2 (by omega), decide_eq_false h]
theorem beq_zero (i : Nat) : ((i : Int) == 0) = decide (i = 0) := beq_cast i 0
set_option maxHeartbeats 400000 in
theorem iCap_any (i j : Nat) (w : World) : Calls Try.prog 67 #[.int .i64 i, .int .i64 j] w fun e w' => e = .returned (.int .i64 (capT i j)) ∧ w = w' := by
  by_cases h : i = j
  · have e := mkHid (cap_same h)
    have hb : ((i : Int) == (j : Int)) = true := by rw [beq_cast]; exact decide_eq_true h
    clear h
    go_enter Try.func67, Try.ntmps67
    go_wp2
    go_ret
    exact ⟨ret_int e.out.symm, rfl⟩
  · have hb : ((i : Int) == (j : Int)) = false := by rw [beq_cast]; exact decide_eq_false h
    by_cases h0 : i = 0
    · have e := mkHid (cap_zero h (.inl h0))
      have hb0 : ((i : Int) == 0) = true := by rw [beq_zero]; exact decide_eq_true h0
      clear h h0
      go_enter Try.func67, Try.ntmps67
      go_wp2
      go_ret
      exact ⟨ret_int e.out.symm, rfl⟩
    · have hb0 : ((i : Int) == 0) = false := by rw [beq_zero]; exact decide_eq_false h0
      by_cases h1 : j = 0
      · have e := mkHid (cap_zero h (.inr h1))
        have hb1 : ((j : Int) == 0) = true := by rw [beq_zero]; exact decide_eq_true h1
        clear h h0 h1
        go_enter Try.func67, Try.ntmps67
        go_wp2
        go_ret
        exact ⟨ret_int e.out.symm, rfl⟩
      · have e := mkHid (cap_two h h0 h1)
        have hb1 : ((j : Int) == 0) = false := by rw [beq_zero]; exact decide_eq_false h1
        clear h h0 h1
        go_enter Try.func67, Try.ntmps67
        go_wp2
        go_ret
        exact ⟨ret_int e.out.symm, rfl⟩
set_option maxHeartbeats 400000 in
theorem sCap_any (i j : Nat) (w : World) : Calls Try.prog 64 #[.int .i64 i, .int .i64 j] w fun e w' => e = .returned (.int .i64 (capT i j)) ∧ w = w' := by
  by_cases h : i = j
  · have e := mkHid (cap_same h)
    have hb : ((i : Int) == (j : Int)) = true := by rw [beq_cast]; exact decide_eq_true h
    clear h
    go_enter Try.func64, Try.ntmps64
    go_wp2
    go_ret
    exact ⟨ret_int e.out.symm, rfl⟩
  · have hb : ((i : Int) == (j : Int)) = false := by rw [beq_cast]; exact decide_eq_false h
    by_cases h0 : i = 0
    · have e := mkHid (cap_zero h (.inl h0))
      have hb0 : ((i : Int) == 0) = true := by rw [beq_zero]; exact decide_eq_true h0
      clear h h0
      go_enter Try.func64, Try.ntmps64
      go_wp2
      go_ret
      exact ⟨ret_int e.out.symm, rfl⟩
    · have hb0 : ((i : Int) == 0) = false := by rw [beq_zero]; exact decide_eq_false h0
      by_cases h1 : j = 0
      · have e := mkHid (cap_zero h (.inr h1))
        have hb1 : ((j : Int) == 0) = true := by rw [beq_zero]; exact decide_eq_true h1
        clear h h0 h1
        go_enter Try.func64, Try.ntmps64
        go_wp2
        go_ret
        exact ⟨ret_int e.out.symm, rfl⟩
      · have e := mkHid (cap_two h h0 h1)
        have hb1 : ((j : Int) == 0) = false := by rw [beq_zero]; exact decide_eq_false h1
        clear h h0 h1
        go_enter Try.func64, Try.ntmps64
        go_wp2
        go_ret
        exact ⟨ret_int e.out.symm, rfl⟩
/-- The first k numbers are within their bounds. -/
def Sure (n : Nat) (l : List Int) (k : Nat) : Prop := ∀ p, p < k → entB (p / n) (p % n) (l.getD p 0) = true
theorem ok_sure {n : Nat} {l : List Int} (h1 : 1 ≤ n) (h2 : n ≤ 13) (hl : l.length = n * n) (h : Sure n l (n * n)) : okF n l = true := by
  unfold okF
  rw [Bool.and_eq_true, decide_eq_true_eq, List.all_eq_true]
  refine ⟨⟨by omega, by omega, by rw [hl]; simp⟩, fun p hp => ?_⟩
  have := h p (by rw [← hl]; exact List.mem_range.1 hp)
  simpa using this
theorem ok_unsure {n : Nat} {l : List Int} {p : Nat} (hp : p < l.length) (h : entB (p / n) (p % n) (l.getD p 0) = false) : okF n l = false := by
  cases hh : okF n l
  · rfl
  · unfold okF at hh
    rw [Bool.and_eq_true, List.all_eq_true] at hh
    have := hh.2 p (List.mem_range.2 hp)
    rw [show ((n : Int)).toNat = n by simp, h] at this
    cases this
theorem ok_size {z : Int} {l : List Int} (h : ¬ (1 ≤ z ∧ z ≤ 13)) : okF z l = false := by
  cases hh : okF z l
  · rfl
  · obtain ⟨n, rfl, h1, h2, _⟩ := ok_of hh
    exact absurd ⟨by omega, by omega⟩ h
theorem ok_len {n : Nat} {l : List Int} (h : ¬ l.length = n * n) : okF n l = false := by
  cases hh : okF n l
  · rfl
  · obtain ⟨m, e, _, _, h3, _⟩ := ok_of hh
    have : n = m := by omega
    subst this
    exact absurd h3 h
theorem Sure.next {n : Nat} {l : List Int} {k : Nat} (h : Sure n l k) (hk : entB (k / n) (k % n) (l.getD k 0) = true) : Sure n l (k + 1) := fun p hp => by
  by_cases e : p = k
  · subst e; exact hk
  · exact h p (by omega)
theorem two_new (w : World) (z : Int) (a : Option Addr) (n c : Nat) (T : TypeId) : (w.alloc (.cells #[.int .i64 z, .slice a n c] T)).cell? ⟨w.heap.size, 0, none⟩ = some (.int .i64 z) ∧ (w.alloc (.cells #[.int .i64 z, .slice a n c] T)).cell? ⟨w.heap.size, 1, none⟩ = some (.slice a n c) := by
  constructor <;> simp [go_sem]
end Go.Proofs.Ytmaejdomlggopaa
