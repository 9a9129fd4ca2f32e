/-
  CONTRACT of slices.CompactFunc at a sorted row of terms of our own: the set of them.
-/
import Derived.Test.YtbfmljogfljhdaaGreatSo
import Derived.Test.YtbfmljogfljhdaaGreatRr
import Derived.Lib.SliceRun
namespace Go.Proofs.YtbfmljogfljhdaaGreat
open Go.RowKit

set_option maxRecDepth 100000 in
set_option maxHeartbeats 800000 in
theorem alike_any (x y : Y) (bx : Nat) (w : World) (hbx : w.cell? ⟨bx, 0, none⟩ = some (.func (.func 101) #[] #[])) :
    Calls Tryz.prog 125 #[.agg #[.int .i64 x.1, .int .i64 x.2], .agg #[.int .i64 y.1, .int .i64 y.2], .pointer (some ⟨bx, 0, none⟩)] w fun e w' => e = .returned (.bool (decide (x = y))) ∧ Below w.heap.size w w' := by
  obtain ⟨d, hd⟩ : ∃ d, decide (x = y) = d := ⟨_, rfl⟩
  have HD := mkHid hd
  rw [hd]
  clear hd
  obtain ⟨w0, hw0⟩ : ∃ z : World, (w.alloc (.cells #[.int .i64 x.1, .int .i64 x.2] 39)).alloc (.cells #[.int .i64 y.1, .int .i64 y.2] 39) = z := ⟨_, rfl⟩
  obtain ⟨X, hX⟩ : ∃ z, w.heap.size = z := ⟨_, rfl⟩
  have HB : Hid (Below w.heap.size w w0) := mkHid (by rw [← hw0]; exact bl_alloc (bl_alloc (Below.refl _ _) _) _)
  have hb0 : w0.cell? ⟨bx, 0, none⟩ = some (.func (.func 101) #[] #[]) := (HB.out.cell (p := ⟨bx, 0, none⟩) (World.block_lt_of_cell? w _ hbx)).trans hbx
  obtain ⟨q0, q1, _, _⟩ : Box w0 X x.1 x.2 := by rw [← hw0, ← hX]; exact ⟨by simp [go_sem], by simp [go_sem], by simp [go_sem], by simp [go_sem]⟩
  obtain ⟨p0, p1, _, _⟩ : Box w0 (X + 1) y.1 y.2 := by rw [← hw0, ← hX]; exact ⟨by simp [go_sem], by simp [go_sem], by simp [go_sem], by simp [go_sem]⟩
  go_enter Tryz.func125, Tryz.ntmps125
  go_wp2_with fail
  clear hw0 hX q0 q1 p0 p1 hb0
  refine (compareSyms_any x.1 x.2 y.1 y.2 _).mono ?_
  rintro e w1 ⟨rfl, hb, _⟩
  obtain ⟨c, hc⟩ : ∃ c, orI (cmpI x.1 y.1) (cmpI x.2 y.2) = c := ⟨_, rfl⟩
  have HC : Hid ((c == 0) = d) := mkHid (by
    rw [← hc, cmp_or, ← HD.out]
    by_cases h : x = y
    · rw [decide_eq_true h]; exact beq_iff_eq.2 ((cmpY_zero x y).2 h)
    · rw [decide_eq_false h]; exact beq_eq_false_iff_ne.2 fun e => h ((cmpY_zero x y).1 e))
  have HB1 := mkHid (below_step HB.out hb)
  rw [hc]
  clear hb hc
  go_wp2
  go_ret
  exact ⟨ret_bool HC.out, HB1.out⟩
theorem run_clear_two (w : World) (ty : TypeId) (b o n c : Nat) (hn : 0 < n) (hc : ∀ j, j < n * 2 → (w.cell? ⟨b, o + j, none⟩).isSome = true) (hf : ∀ j, j < n * 2 → w.frozen? ⟨b, o + j, none⟩ = false) :
    (Builtin.clear_ #[34] ty #[.slice (some ⟨b, o, none⟩) n c]).run Tryz.prog w = .ok (.tuple #[]) (w.setCells b o (List.replicate (n * 2) (.int .i64 0))) := by
  have hzc : (Builtin.zeroCells (Value.agg #[.int .i64 0, .int .i64 0]).cells n).toList = List.replicate (n * 2) (.int .i64 0) := by
    apply List.ext_getElem
    · simp [size_zeroCells]; rfl
    · intro i h1 h2
      have h3 : i % 2 = 0 ∨ i % 2 = 1 := by omega
      simp [Builtin.zeroCells, Value.cells]
      rcases h3 with h | h <;> simp [h]
  have hst := run_storeCells_cells (P := Tryz.prog) b o (List.replicate (n * 2) (.int .i64 0)) 0 w (by simpa using hc) (by simpa using hf) (by intro v hv'; rw [List.eq_of_mem_replicate hv']; rfl)
  simp only [Nat.add_zero] at hst
  obtain ⟨m, rfl⟩ : ∃ m, n = m + 1 := ⟨n - 1, by omega⟩
  simp [Builtin.clear_, run_underlying Tryz.underlying34, Tryz.zeroValue39, hzc, hst]
theorem own_cleared {base g n cap : Nat} : ∀ (vs : List Value) (o : Nat) {w : World} {xs : List Value}, w.ownsRow base 39 2 (.slice (some ⟨g, 0, none⟩) n cap) n xs → ∃ xs', (w.setCells g o vs).ownsRow base 39 2 (.slice (some ⟨g, 0, none⟩) n cap) n xs' ∧ xs'.take o = xs.take o ∧ w.grownBy (w.setCells g o vs) (some g)
  | [], o, w, xs, h => ⟨xs, h, rfl, World.grownBy.refl _ _⟩
  | v :: vs, o, w, xs, h => by
    obtain ⟨h1, h2⟩ := World.ownsRow.stored h o v
    obtain ⟨xs', h3, h4, h5⟩ := own_cleared vs (o + 1) h1
    refine ⟨xs', h3, ?_, grown_trans h2 h5⟩
    have e := congrArg (List.take o) h4
    rw [List.take_take, List.take_take, Nat.min_eq_left (by omega), List.take_set_of_le (Nat.le_refl _)] at e
    exact e
theorem own_cut {w : World} {base g n p cap : Nat} {xs : List Value} (h : w.ownsRow base 39 2 (.slice (some ⟨g, 0, none⟩) n cap) n xs) (hp : p ≤ n) : w.ownsRow base 39 2 (.slice (some ⟨g, 0, none⟩) p cap) p (xs.take (p * 2)) := by
  refine ⟨by have := h.1; rw [List.length_take]; omega, ?_⟩
  rcases h.2 with ⟨e, _⟩ | ⟨g2, cap2, cur, e, h1, h2, h3, h4, h5, h6⟩
  · simp at e
  · simp at e
    obtain ⟨rfl, rfl⟩ := e
    refine .inr ⟨g, cap, cur, rfl, h1, h2, by omega, h4, h5, ?_⟩
    rw [← h6, List.take_take, Nat.min_eq_left (by omega)]
/-- What is in the row while it is made shorter: p terms are kept of the first j. -/
structure Kept (l ms : List Y) (p j : Nat) : Prop where
  len : ms.length = l.length
  p1 : 1 ≤ p
  pj : p < j
  jl : j ≤ l.length
  set : IsSet (ms.take p) (l.take j)
  rest : ∀ i, j - 1 ≤ i → ms[i]? = l[i]?
theorem sorted_le {l : List Y} (h : l.Pairwise fun a b => ¬ LtY b a) {i j : Nat} {x y : Y} (hx : l[i]? = some x) (hy : l[j]? = some y) (hij : i < j) : x = y ∨ LtY x y := by
  obtain ⟨hi, rfl⟩ := List.getElem?_eq_some_iff.1 hx
  obtain ⟨hj, rfl⟩ := List.getElem?_eq_some_iff.1 hy
  rw [List.pairwise_iff_getElem] at h
  have := h i j hi hj hij
  rcases LtY.tri l[i] l[j] with e | e | e
  · exact .inl e
  · exact .inr e
  · exact absurd e this
theorem Kept.start {l : List Y} {k : Nat} {x : Y} (h1 : 1 ≤ k) (hx : l[k]? = some x) (hy : l[k - 1]? = some x) (ha : (l.take k).Pairwise LtY) : Kept l l k (k + 1) := by
  have hk := (List.getElem?_eq_some_iff.1 hx).1
  refine ⟨rfl, h1, by omega, by omega, ?_, fun _ _ => rfl⟩
  rw [List.take_add_one, hx]
  refine IsSet.again (IsSet.self ha) (List.mem_iff_getElem?.2 ⟨k - 1, ?_⟩)
  rw [List.getElem?_take, if_pos (by omega), hy]
theorem Kept.skip {l ms : List Y} {p j : Nat} {x : Y} (h : Kept l ms p j) (hx : l[j]? = some x) (hy : l[j - 1]? = some x) : Kept l ms p (j + 1) := by
  have hk := (List.getElem?_eq_some_iff.1 hx).1
  have hpj := h.pj
  have hp1 := h.p1
  refine ⟨h.len, h.p1, by omega, by omega, ?_, fun i hi => h.rest i (by omega)⟩
  rw [List.take_add_one, hx]
  refine h.set.again (List.mem_iff_getElem?.2 ⟨j - 1, ?_⟩)
  rw [List.getElem?_take, if_pos (by omega), hy]
theorem Kept.keep {l ms : List Y} {p j : Nat} {x y : Y} (h : Kept l ms p j) (hs : l.Pairwise fun a b => ¬ LtY b a) (hx : l[j]? = some x) (hy : l[j - 1]? = some y) (hn : x ≠ y) : Kept l (ms.set p x) (p + 1) (j + 1) := by
  have hk := (List.getElem?_eq_some_iff.1 hx).1
  have hpj := h.pj
  have hp1 := h.p1
  have hl := h.len
  refine ⟨by rw [List.length_set]; exact h.len, by omega, by omega, by omega, ?_, fun i hi => ?_⟩
  · have e1 : (ms.set p x).take (p + 1) = ms.take p ++ [x] := by
      rw [List.take_succ_eq_append_getElem (by simp; omega)]
      simp [List.take_set_of_le]
    rw [e1, List.take_add_one, hx]
    refine h.set.more fun q hq => ?_
    obtain ⟨i, hi⟩ := List.mem_iff_getElem?.1 hq
    rw [List.getElem?_take] at hi
    split at hi
    · rename_i hij
      rcases (by omega : i < j - 1 ∨ i = j - 1) with h' | h'
      · have hyx : LtY y x := (sorted_le hs hy hx (by omega)).resolve_left fun e => hn e.symm
        rcases sorted_le hs hi hy h' with e | e
        · rw [e]; exact hyx
        · exact e.trans hyx
      · subst h'
        rw [hy] at hi
        cases hi
        exact (sorted_le hs hy hx (by omega)).resolve_left fun e => hn e.symm
    · cases hi
  · rw [List.getElem?_set_ne (by omega)]
    exact h.rest i (by omega)
theorem asc_take_succ {l : List Y} {k : Nat} {x y : Y} (h1 : 1 ≤ k) (hs : l.Pairwise fun a b => ¬ LtY b a) (ha : (l.take k).Pairwise LtY) (hx : l[k]? = some x) (hy : l[k - 1]? = some y) (hn : x ≠ y) : (l.take (k + 1)).Pairwise LtY := by
  rw [List.take_add_one, hx]
  refine ((IsSet.self ha).more fun q hq => ?_).asc
  obtain ⟨i, hi⟩ := List.mem_iff_getElem?.1 hq
  rw [List.getElem?_take] at hi
  split at hi
  · rename_i hij
    have hyx : LtY y x := (sorted_le hs hy hx (by omega)).resolve_left fun e => hn e.symm
    rcases (by omega : i < k - 1 ∨ i = k - 1) with h' | h'
    · rcases sorted_le hs hi hy h' with e | e
      · rw [e]; exact hyx
      · exact e.trans hyx
    · subst h'
      rw [hy] at hi
      cases hi
      exact hyx
  · cases hi
theorem flat_set {l : List Y} {p : Nat} (hp : p < l.length) (x : Y) : ((eY.flat l).set (p * 2) (.int .i64 x.1)).set (p * 2 + 1) (.int .i64 x.2) = eY.flat (l.set p x) := by
  obtain ⟨e, hl⟩ := split_at (List.getElem?_eq_getElem hp)
  have e2 : l.set p x = l.take p ++ x :: l.drop (p + 1) := by
    conv => lhs; rw [e]
    rw [List.set_append_right _ _ (by omega), hl, Nat.sub_self]; rfl
  rw [e2]
  conv => lhs; rw [e]
  rw [El.flat_app, El.flat_app, El.flat_cons, El.flat_cons]
  have h2 : (eY.flat (l.take p)).length = p * 2 := by rw [El.flat_len, hl]; rfl
  rw [List.set_append_right _ _ (by omega), List.set_append_right _ _ (by omega), h2]
  simp [eY]
end Go.Proofs.YtbfmljogfljhdaaGreat
