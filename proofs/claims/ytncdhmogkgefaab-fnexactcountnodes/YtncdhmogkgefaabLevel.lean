/-
  LEVELS OF A TREE: plain laws; a level as cells; append of nothing.
-/
import Derived.Test.YtncdhmogkgefaabSpec
import Derived.Deep.AppendLies
import Derived.Deep.Upon
namespace Go.Proofs.Ytncdhmogkgefaab
open Go.RowKit

def step (l : List T) : List T := l.flatMap kidsOf
theorem cnts_append (a b : List T) : cnts (a ++ b) = cnts a + cnts b := by
  induction a with
  | nil => simp [cnts]
  | cons x r ih => simp [cnts, ih]; omega
theorem deps_append (a b : List T) : deps (a ++ b) = max (deps a) (deps b) := by
  induction a with
  | nil => simp [deps]
  | cons x r ih => simp [deps, ih, Nat.max_assoc]
theorem step_cons (x : T) (r : List T) : step (x :: r) = kidsOf x ++ step r := by simp [step]
theorem step_append (a b : List T) : step (a ++ b) = step a ++ step b := by simp [step]
theorem cnts_step (l : List T) : cnts l = l.length + cnts (step l) := by
  induction l with
  | nil => simp [cnts, step]
  | cons x r ih =>
    obtain ⟨k, s, m, kk⟩ := x
    rw [step_cons, cnts_append]
    simp only [cnts, cnt, kidsOf, List.length_cons]
    omega
theorem deps_step {l : List T} (h : l ≠ []) : deps l = 1 + deps (step l) := by
  induction l with
  | nil => exact absurd rfl h
  | cons x r ih =>
    obtain ⟨k, s, m, kk⟩ := x
    rw [step_cons, deps_append]
    simp only [deps, dep, kidsOf]
    by_cases hr : r = []
    · subst hr
      simp [deps, step]
      omega
    · have := ih hr
      omega
theorem length_le_cnts (l : List T) : l.length ≤ cnts l := by rw [cnts_step]; omega
theorem step_take {l : List T} {i : Nat} {x : T} (h : l[i]? = some x) : step (l.take (i + 1)) = step (l.take i) ++ kidsOf x := by
  rw [List.take_add_one, h, step_append]
  simp [step]
theorem step_take_le (l : List T) (i : Nat) : (step (l.take i)).length ≤ cnts l := by
  have h1 := cnts_take_le l i
  have h2 := cnts_step (l.take i)
  have h3 := length_le_cnts (step (l.take i))
  omega

/-- The cells of a list of trees, whose own lists lie in world w. -/
def Flat (w : World) (acc : List T) (xs : List Value) : Prop := xs.length = acc.length * 4 ∧ ∀ j k s m kk, acc[j]? = some (.node k s m kk) → ∃ (a : Option Addr) (c : Nat),
  xs[j * 4]? = some (.int .i64 k) ∧ xs[j * 4 + 1]? = some (.string s) ∧ xs[j * 4 + 2]? = some (.int .i64 m) ∧ xs[j * 4 + 3]? = some (.slice a kk.length c) ∧ s.size ≤ maxLen ∧ kk.length ≤ maxLen ∧ Kids w 0 a kk
theorem Flat.nil (w : World) : Flat w [] [] := ⟨rfl, fun j k s m kk h => by simp at h⟩
theorem Flat.append {w : World} {acc kk : List T} {xs news : List Value} (h : Flat w acc xs) (h' : Flat w kk news) : Flat w (acc ++ kk) (xs ++ news) := by
  refine ⟨by rw [List.length_append, List.length_append, h.1, h'.1]; omega, fun j k s m q hj => ?_⟩
  by_cases hlt : j < acc.length
  · rw [List.getElem?_append_left hlt] at hj
    have hl := h.1
    rw [List.getElem?_append_left (by omega), List.getElem?_append_left (by omega), List.getElem?_append_left (by omega), List.getElem?_append_left (by omega)]
    exact h.2 j k s m q hj
  · rw [List.getElem?_append_right (by omega)] at hj
    have hl := h.1
    rw [List.getElem?_append_right (by omega), List.getElem?_append_right (by omega), List.getElem?_append_right (by omega), List.getElem?_append_right (by omega)]
    obtain ⟨a, c, e⟩ := h'.2 _ k s m q hj
    refine ⟨a, c, ?_⟩
    rw [hl, show j * 4 - acc.length * 4 = (j - acc.length) * 4 by omega, show j * 4 + 1 - acc.length * 4 = (j - acc.length) * 4 + 1 by omega, show j * 4 + 2 - acc.length * 4 = (j - acc.length) * 4 + 2 by omega, show j * 4 + 3 - acc.length * 4 = (j - acc.length) * 4 + 3 by omega]
    exact e
theorem LiesL.flat {w : World} {b : Nat} : ∀ {kk : List T} {o : Nat}, LiesL w 0 kk b o → ∃ news, (∀ j u, news[j]? = some u → w.cell? ⟨b, o + j, none⟩ = some u) ∧ (∀ u ∈ news, u.oneCell' = true) ∧ Flat w kk news
  | [], o, _ => ⟨[], fun j u h => by simp at h, fun u h => by simp at h, Flat.nil w⟩
  | .node k s m kk :: r, o, h => by
    unfold LiesL at h
    obtain ⟨h1, h2⟩ := h
    unfold Lies at h1
    obtain ⟨c0, c1, c2, hs, hn, a, c, c3, hk⟩ := h1
    obtain ⟨news, g1, g2, g3⟩ := LiesL.flat h2
    refine ⟨[.int .i64 k, .string s, .int .i64 m, .slice a kk.length c] ++ news, fun j u hu => ?_, fun u hu => ?_, ?_⟩
    · match j with
      | 0 => simp at hu; subst hu; exact c0
      | 1 => simp at hu; subst hu; exact c1
      | 2 => simp at hu; subst hu; exact c2
      | 3 => simp at hu; subst hu; exact c3
      | j + 4 =>
        simp at hu
        have := g1 j u hu
        rwa [show o + 4 + j = o + (j + 4) by omega] at this
    · rcases List.mem_append.1 hu with h | h
      · simp at h
        rcases h with rfl | rfl | rfl | rfl <;> rfl
      · exact g2 u h
    · refine Flat.append (acc := [.node k s m kk]) ⟨rfl, fun j k' s' m' q hj => ?_⟩ g3
      match j with
      | 0 =>
        simp at hj
        obtain ⟨rfl, rfl, rfl, rfl⟩ := hj
        exact ⟨a, c, rfl, rfl, rfl, rfl, hs, hn, hk⟩
      | j + 1 => simp at hj

/-- A list of trees in a row whose own lists lie in world w. -/
def Level (w w' : World) (a : Option Addr) (cur : List T) : Prop := cur = [] ∨ ∃ b o, a = some ⟨b, o, none⟩ ∧ ∀ j k s m kk, cur[j]? = some (.node k s m kk) → ∃ (a : Option Addr) (c : Nat),
  w'.cell? ⟨b, o + j * 4, none⟩ = some (.int .i64 k) ∧ w'.cell? ⟨b, o + j * 4 + 1, none⟩ = some (.string s) ∧ w'.cell? ⟨b, o + j * 4 + 2, none⟩ = some (.int .i64 m) ∧ w'.cell? ⟨b, o + j * 4 + 3, none⟩ = some (.slice a kk.length c) ∧ s.size ≤ maxLen ∧ kk.length ≤ maxLen ∧ Kids w 0 a kk
theorem Level.below {w w' w2 : World} {a : Option Addr} {cur : List T} (h : Level w w' a cur) (hb : Below w'.heap.size w' w2) : Level w w2 a cur := by
  rcases h with h | ⟨b, o, e, h⟩
  · exact .inl h
  · refine .inr ⟨b, o, e, fun j k s m kk hj => ?_⟩
    obtain ⟨a, c, h0, h1, h2, h3, h4⟩ := h j k s m kk hj
    have hlt := World.block_lt_of_cell? w' _ h0
    have hc : ∀ q, w2.cell? ⟨b, q, none⟩ = w'.cell? ⟨b, q, none⟩ := fun q => hb.cell (p := ⟨b, q, none⟩) hlt
    exact ⟨a, c, (hc _).trans h0, (hc _).trans h1, (hc _).trans h2, (hc _).trans h3, h4⟩
theorem Level.of_row {w w' : World} {base e n : Nat} {v : Value} {acc : List T} {xs : List Value} (h : w'.ownsRow base e 4 v n xs) (hf : Flat w acc xs) : ∃ a c, v = .slice a acc.length c ∧ n = acc.length ∧ Level w w' a acc := by
  have hl := h.1
  have hl2 := hf.1
  have hn : n = acc.length := by omega
  subst hn
  have hh := h
  rcases h.2 with ⟨rfl, h0⟩ | ⟨g, cap, cur, rfl, _⟩
  · have : acc = [] := List.length_eq_zero_iff.1 h0
    subst this
    exact ⟨none, 0, rfl, rfl, .inl rfl⟩
  · refine ⟨_, cap, rfl, rfl, .inr ⟨g, 0, rfl, fun j k s m kk hj => ?_⟩⟩
    obtain ⟨hjl, _⟩ := List.getElem?_eq_some_iff.1 hj
    obtain ⟨a, c, h0, h1, h2, h3, h4⟩ := hf.2 j k s m kk hj
    rw [Nat.zero_add]
    exact ⟨a, c, (hh.cellAt _ (by omega)).trans h0, (hh.cellAt _ (by omega)).trans h1, (hh.cellAt _ (by omega)).trans h2, (hh.cellAt _ (by omega)).trans h3, h4⟩

theorem wpList_append_zero {P : Program} (w : World) {ops : Array Oper} {rest : List Oper} {o : Oper} {a : Act} {Q : Exit → Act → World → Prop} (hgd : o.guard = none) (s x : Operand) (t : TypeId)
    (ho : o.op = .call { callee := .builtin .append, args := #[s, x], argTypes := #[t, t] }) (e : TypeId) (i : TypeInfo) (ht : P.underlying t = some (.slice e)) (hi : P.info? e = some i)
    (base : Option Addr) (n cap : Nat) (hle : n ≤ cap) (hs : a.eval s = .slice base n cap) (ax : Option Addr) (c : Nat) (hx : a.eval x = .slice ax 0 c)
    (h : wpList P ops Q rest (a.put o.dst (.slice base n cap)) w) : wpList P ops Q (o :: rest) a w :=
  wpList_plain hgd fun K hK => by
    have hr : (Builtin.append_ #[t, t] o.type #[.slice base n cap, .slice ax 0 c]).run P w = .ok (.slice base n cap) w := by
      cases ax with
      | none => exact run_append_nothing w t t o.type e i ht hi base n cap hle _ (Src.ofNil w ht c)
      | some ad => exact run_append_nothing w t t o.type e i ht hi base n cap hle _ (Src.ofSlice w ht ad 0 c [] (by simp) (fun j u hu => by simp at hu) (fun u hu => by simp at hu))
    unfold Oper.wp execOp
    simp only [ho, resolve, invoke, builtin, Sem.run_bind, Sem.run_pure, Result.andThen_ok, List.map_toArray, List.map_cons, List.map_nil, hs, hx, hr]
    exact hK _ _ h
end Go.Proofs.Ytncdhmogkgefaab
