/-
  FACTS as plain data: which are ok, their tables, what may be asked of the tables.
-/
import Derived.Test.YtmaejdomlggopaaFw
namespace Go.Proofs.Ytmaejdomlggopaa
open Go.RowKit

def capT : Tab := fun i j => if i = j then 0 else if i = 0 ∨ j = 0 then 1000000 else 2000000
def entB (i j : Nat) (x : Int) : Bool := decide (-2000000 ≤ x ∧ x ≤ capT i j ∧ (i ≠ j ∨ x = 0))
def okF (z : Int) (l : List Int) : Bool := decide (1 ≤ z ∧ z ≤ 13 ∧ l.length = z.toNat * z.toNat) && (List.range l.length).all fun p => entB (p / z.toNat) (p % z.toNat) (l.getD p 0)
def tab (n : Nat) (l : List Int) : Tab := fun i j => l.getD (i * n + j) 0
/-- Each number is within its bounds. -/
def Fine (n : Nat) (f : Tab) : Prop := ∀ i j, i < n → j < n → -2000000 ≤ f i j ∧ f i j ≤ capT i j ∧ (i = j → f i j = 0)
theorem cap_le (i j : Nat) : 0 ≤ capT i j ∧ capT i j ≤ 2000000 := by unfold capT; split; omega; split <;> omega
theorem cap_sym (i j : Nat) : capT i j = capT j i := by
  unfold capT
  by_cases h : i = j
  · subst h; rfl
  · have h' : ¬ j = i := fun e => h e.symm
    rw [if_neg h, if_neg h']
    by_cases h1 : i = 0
    · rw [if_pos (.inl h1), if_pos (.inr h1)]
    · by_cases h2 : j = 0
      · rw [if_pos (.inr h2), if_pos (.inl h2)]
      · rw [if_neg (fun e => e.elim h1 h2), if_neg (fun e => e.elim h2 h1)]
theorem Fine.bd {n : Nat} {f : Tab} (h : Fine n f) : Bd n f 10000000 := fun i j hi hj => by
  have := h i j hi hj
  have := cap_le i j
  omega
theorem Fine.diag {n : Nat} {f : Tab} (h : Fine n f) : ∀ i, i < n → f i i ≤ 0 := fun i hi => by have := (h i i hi hi).2.2 rfl; omega
theorem tab_V (n : Nat) (l : List Int) : V n n l (tab n l) := fun _ _ _ _ => rfl
theorem tab_mk {n : Nat} {l : List Int} (h : l.length = n * n) : l = mk n (tab n l) := mk_of h (tab_V n l)
theorem ok_of {z : Int} {l : List Int} (h : okF z l = true) : ∃ n : Nat, z = n ∧ 1 ≤ n ∧ n ≤ 13 ∧ l.length = n * n ∧ l = mk n (tab n l) ∧ Fine n (tab n l) := by
  unfold okF at h
  rw [Bool.and_eq_true, decide_eq_true_eq, List.all_eq_true] at h
  obtain ⟨⟨h1, h2, h3⟩, h4⟩ := h
  refine ⟨z.toNat, by omega, by omega, by omega, h3, tab_mk h3, fun i j hi hj => ?_⟩
  have h5 := h4 (i * z.toNat + j) (List.mem_range.2 (by rw [h3]; exact idx_lt hi hj))
  rw [idx_div hj, idx_mod hj] at h5
  unfold entB at h5
  have h6 := of_decide_eq_true h5
  exact ⟨h6.1, h6.2.1, fun e => h6.2.2.resolve_left (fun hh => hh e)⟩
theorem ok_mk {n : Nat} {f : Tab} (h1 : 1 ≤ n) (h2 : n ≤ 13) (h : Fine n f) : okF n (mk n f) = true := by
  unfold okF
  rw [Bool.and_eq_true, decide_eq_true_eq, List.all_eq_true]
  refine ⟨⟨by omega, by omega, by rw [mk_len]; simp⟩, fun p hp => ?_⟩
  have hp := List.mem_range.1 hp
  rw [mk_len] at hp
  have e : ((n : Int)).toNat = n := by simp
  rw [e]
  have q1 : p / n < n := Nat.div_lt_of_lt_mul hp
  have q2 : p % n < n := Nat.mod_lt _ (by omega)
  have q3 : p / n * n + p % n = p := by rw [Nat.mul_comm]; exact Nat.div_add_mod p n
  have h5 := mk_V n f _ _ q1 q2
  rw [q3] at h5
  rw [h5]
  have h6 := h _ _ q1 q2
  unfold entB
  refine decide_eq_true ⟨h6.1, h6.2.1, ?_⟩
  by_cases e2 : p / n = p % n
  · exact .inr (h6.2.2 e2)
  · exact .inl e2
theorem ok_nil (z : Int) : okF z [] = false := by
  cases h : okF z []
  · rfl
  · obtain ⟨n, _, h1, _, h3, _⟩ := ok_of h
    have : 1 * 1 ≤ n * n := Nat.mul_le_mul h1 h1
    simp at h3; omega
def noF (z : Int) (l : List Int) : Bool := decide (z = 0 ∧ l = [])
theorem no_of {z : Int} {l : List Int} : noF z l = true ↔ z = 0 ∧ l = [] := by unfold noF; simp
theorem ok_no {z : Int} {l : List Int} (h : okF z l = true) : noF z l = false := by
  cases h2 : noF z l
  · rfl
  · obtain ⟨rfl, rfl⟩ := no_of.1 h2
    rw [ok_nil] at h; cases h
theorem clo_fine {n : Nat} {f : Tab} (h : Fine n f) (hc : cloB n f = true) : Fine n (clo n f) := fun i j hi hj => by
  have hcl := clo_closed h.diag hc
  have h1 := clo_le n f i j
  have h2 := clo_le n f j i
  have h3 := closed_low hcl hi hj
  have h4 := h i j hi hj
  have h5 := h j i hj hi
  have h6 := cap_le j i
  exact ⟨by omega, by omega, fun e => by subst e; exact hcl.1 i hi⟩
theorem sq_le {n : Nat} (h : n ≤ 13) : n * n ≤ 169 := Nat.mul_le_mul h h
theorem sq_pos {n : Nat} (h : 1 ≤ n) : 1 ≤ n * n := Nat.mul_le_mul h h
/-- Facts that a table gives, or none. -/
def outZ (o : Option Tab) (n : Nat) : Int := if o.isSome then n else 0
def outL (o : Option Tab) (n : Nat) : List Int := match o with | some f => mk n f | none => []
def cloO (n : Nat) (f : Tab) : Option Tab := if cloB n f = true then some (clo n f) else none
end Go.Proofs.Ytmaejdomlggopaa
