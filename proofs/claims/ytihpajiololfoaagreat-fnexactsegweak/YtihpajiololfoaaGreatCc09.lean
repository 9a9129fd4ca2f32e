/-
  CONTRACT of slices.SortFunc at terms, by compareSyms: the row of our own holds the same terms, none behind a greater one.
  CONTRACT of slices.CompactFunc at a sorted row of terms of our own: the set of them.
  CONTRACT of slices.CompactFunc at a sorted row of terms of our own: the walk.
  LAYING at this program of the library's contract of slices.Grow.
-/
import Derived.Test.YtihpajiololfoaaGreatCc08
import Derived.Test.YtihpajiololfoaaGreatCc03
import Derived.Lib.SliceRun
import Derived.Shelf.Spec.SlicesGrow
import Derived.Shelf.SlSortCmp.NoneTotal
import Derived.Test.YtihpajiololfoaaGreatCc00
namespace Go.Proofs.YtihpajiololfoaaGreat
open Go.RowKit

theorem cmp_or (a b c d : Int) : orI (cmpI a c) (cmpI b d) = cmpY (a, b) (c, d) := by
 unfold orI cmpY
 by_cases h : cmpI a c = 0
 ·simp [h]
 ·simp [h]
theorem grow_of {W w' : World} (h : Below W.heap.size W w') (hd : W.drawn ≤ w'.drawn) : ∃ q os, w' = Go.Sort.grow (W.drewN q) os := by
 refine ⟨w'.drawn - W.drawn, w'.heap.extract W.heap.size w'.heap.size, ?_⟩
 have hh : w'.heap = W.heap ++ w'.heap.extract W.heap.size w'.heap.size := by
  have hs := h.size
  apply Array.ext_getElem?
  intro k
  by_cases hk : k < W.heap.size
  ·rw [h.block k hk, Array.getElem?_append_left hk]
  ·rw [Array.getElem?_append_right (by omega), Array.getElem?_extract]
   by_cases hk2 : k < w'.heap.size
   ·rw [if_pos (by omega)]
    congr 1; omega
   ·rw [if_neg (by omega), Array.getElem?_eq_none (by omega)]
 have h1 := h.os
 have h2 := h.tape
 have h3 := h.output
 have h4 : w'.drawn = W.drawn + (w'.drawn - W.drawn) := by omega
 cases w'
 cases W
 simp only [Go.Sort.grow, World.drewN] at *
 subst h1 h2 h3
 rw [← hh, ← h4]
theorem cmpLays (blk off size : Nat) (w : World) : CmpLays Tryz.prog 132 #[] eY.enc 2 cmpY blk off size w := fun m os dk _ x y => by
 refine (compareSyms_any x.1 x.2 y.1 y.2 _).mono ?_
 rintro e w' ⟨rfl, hb, hd⟩
 exact ⟨by rw [cmp_or], grow_of hb hd⟩
theorem swoY : Go.Sort.SWO (ltOf cmpY) where
 irrefl x := by unfold ltOf; exact decide_eq_false (fun h => LtY.irrefl x ((cmpY_lt x x).1 h))
 trans x y z h1 h2 := by
  unfold ltOf at *
  exact decide_eq_true ((cmpY_lt x z).2 (((cmpY_lt x y).1 (of_decide_eq_true h1)).trans ((cmpY_lt y z).1 (of_decide_eq_true h2))))
 ntrans x y z h1 h2 := by
  unfold ltOf at *
  refine decide_eq_false fun h => ?_
  have h3 := (cmpY_lt x z).1 h
  have n1 : ¬ LtY x y := fun g => of_decide_eq_false h1 ((cmpY_lt x y).2 g)
  have n2 : ¬ LtY y z := fun g => of_decide_eq_false h2 ((cmpY_lt y z).2 g)
  unfold LtY at *
  omega
theorem flatK_get {l : List Y} {j : Nat} (hj : j < l.length * 2) : (eY.flat l)[j]? = some ((Go.Sort.flatK eY.enc 2 l.toArray)[j]!) := by
 rw [Go.Sort.get_flatK _ _ _ _ (by simpa using hj)]
 obtain ⟨x, hx⟩ : ∃ x, l[j / 2]? = some x := ⟨_, List.getElem?_eq_getElem (by omega)⟩
 have h := eY.flat_get hx (j := j % 2) (by show j % 2 < 2; omega)
 have e : j / 2 * eY.k + j % 2 = j := by show j / 2 * 2 + j % 2 = j; omega
 rw [e] at h
 have e2 : l.toArray[j / 2]! = x := by simp [hx]
 rw [h, e2]
 have : j % 2 = 0 ∨ j % 2 = 1 := by omega
 rcases this with h | h <;> rw [h] <;> rfl
theorem flatK_list (d : Array Y) : (Go.Sort.flatK eY.enc 2 d).toList = eY.flat d.toList := by
 apply List.ext_getElem?
 intro j
 by_cases hj : j < d.size * 2
 ·rw [flatK_get (l := d.toList) (by simpa using hj)]
  rw [Array.getElem?_toList, Array.getElem?_eq_getElem (by simpa using hj)]
  congr 1
  rw [getElem!_pos]
 ·rw [List.getElem?_eq_none (by simpa using hj), List.getElem?_eq_none (by rw [El.flat_len]; simpa [eY] using hj)]
theorem put_take (F cur : Array Value) (h : F.size ≤ cur.size) : (Go.Sort.putCells (id : Value → Value) 0 F cur).toList.take F.size = F.toList := by
 apply List.ext_getElem?
 intro j
 by_cases hj : j < F.size
 ·rw [List.getElem?_take, if_pos hj, Array.getElem?_toList, Array.getElem?_toList]
  simp only [Go.Sort.putCells, Array.getElem?_mapIdx]
  rw [Array.getElem?_eq_getElem (by omega), Array.getElem?_eq_getElem hj]
  simp [hj]
 ·rw [List.getElem?_take, if_neg hj, List.getElem?_eq_none (by simpa using hj)]
theorem put_size (F cur : Array Value) : (Go.Sort.putCells (id : Value → Value) 0 F cur).size = cur.size := by simp [Go.Sort.putCells]
/-- slices.SortFunc on a row of our own. -/
theorem sort_own (l : List Y) (g cap base : Nat) (w : World) (hn : l.length ≤ 1048576) (ho : Own eY 49 w base (.slice (some ⟨g, 0, none⟩) l.length cap) l) :
  Calls Tryz.prog 153 #[.slice (some ⟨g, 0, none⟩) l.length cap, .func (.func 132) #[] #[]] w fun e w' => e = .returned (.tuple #[]) ∧ ∃ l' : List Y, l'.Perm l ∧ l'.Pairwise (fun a b => ¬ LtY b a) ∧ Own eY 49 w' base (.slice (some ⟨g, 0, none⟩) l.length cap) l' ∧ w.grownBy w' (some g) := by
 have hlt := (ho.lt (q := g) rfl).2
 have hH : Go.Sort.HoldsK eY.enc 2 w g 0 l.toArray := by
  intro j hj
  have hj2 : j < l.length * 2 := by simpa using hj
  refine ⟨?_, by rw [Nat.zero_add]; exact World.ownsRow.frozenAt ho j⟩
  rw [Nat.zero_add, World.ownsRow.cellAt ho j hj2, flatK_get hj2]
  rfl
 have h := AnyQ.slices_SortFunc Tryz.sortY 2 (fun w => by kernel_rfl) (fun w => by kernel_rfl) eY.enc (fun _ => rfl) (fun x v hv => by simp [eY] at hv; rcases hv with rfl | rfl <;> rfl) cmpY swoY 132 #[] g 0 cap l.toArray w (enters_of Tryz.func132 (by kernel_rfl) rfl) (cmpLays g 0 _ w) hH hlt (by simp; omega)
 have h' : Calls Tryz.prog 153 #[.slice (some ⟨g, 0, none⟩) l.length cap, .func (.func 132) #[] #[]] w fun e w' => e = .returned (.tuple #[]) ∧ ∃ d' n os, Go.Sort.PermIn 0 l.toArray.size l.toArray d' ∧ Go.Sort.SortedIn (ltOf cmpY) 0 l.toArray.size d' ∧ w' = Go.Proofs.sortWorldK eY.enc 2 w g 0 n d' os := h
 refine h'.mono ?_
 rintro e w' ⟨rfl, d', n, os, hp, hs, rfl⟩
 obtain ⟨hsz, _, hperm⟩ := hp
 have hsz' : d'.size = l.length := by simpa using hsz
 refine ⟨rfl, d'.toList, ?_, ?_, ?_, ?_⟩
 ·have e1 : (d'.extract 0 l.toArray.size).toList = d'.toList := by simp [← hsz']
  have e2 : (l.toArray.extract 0 l.toArray.size).toList = l := by simp
  rw [e1, e2] at hperm
  exact hperm
 ·rw [List.pairwise_iff_getElem]
  intro i j hi hj hij
  have h1 := hs i j (Nat.zero_le _) hij (by simp at hj ⊢; omega)
  have hi' : i < d'.size := by simpa using hi
  have hj' : j < d'.size := by simpa using hj
  rw [getElem!_pos d' i hi', getElem!_pos d' j hj'] at h1
  intro g
  exact of_decide_eq_false h1 ((cmpY_lt _ _).2 g)
 ·rcases ho.2 with ⟨e, _⟩ | ⟨g2, cap', cur, e, hb, hg, hc1, hc2, hc3, hc4⟩
  ·simp at e
  ·simp at e
   obtain ⟨rfl, rfl⟩ := e
   have hcs : (Go.Sort.flatK eY.enc 2 d').size ≤ cur.size := by
    rw [Go.Sort.size_flatK, hc3, hsz']
    show l.length * 2 ≤ cap * 2
    omega
   unfold Own
   refine ⟨El.flat_len _ _, .inr ⟨g, cap, Go.Sort.putCells id 0 (Go.Sort.flatK eY.enc 2 d') cur, by simp [hsz'], hb, ?_, by simpa [hsz'] using hc1, hc2, by rw [put_size]; exact hc3, ?_⟩⟩
   ·show (((w.heap.modify g (Go.Sort.onCells (Go.Sort.putCells id 0 (Go.Sort.flatK eY.enc 2 d')))) ++ os)[g]? = _)
    rw [Array.getElem?_append_left (by simpa using hlt), Array.getElem?_modify, if_pos rfl, hg]
    rfl
   ·have := put_take (Go.Sort.flatK eY.enc 2 d') cur hcs
    rw [flatK_list] at this
    rw [← this, Go.Sort.size_flatK]
    rfl
 ·refine ⟨rfl, rfl, rfl, ?_, fun k hk hne => ?_⟩
  ·show w.heap.size ≤ ((w.heap.modify g _) ++ os).size
   simp
  ·show ((w.heap.modify g _) ++ os)[k]? = _
   rw [Array.getElem?_append_left (by simpa using hk), Array.getElem?_modify, if_neg (fun e => hne (by rw [e]))]
end Go.Proofs.YtihpajiololfoaaGreat
namespace Go.Proofs.YtihpajiololfoaaGreat
open Go.RowKit

set_option maxRecDepth 100000 in
set_option maxHeartbeats 800000 in
theorem alike_any (x y : Y) (bx : Nat) (w : World) (hbx : w.cell? ⟨bx, 0, none⟩ = some (.func (.func 132) #[] #[])) :
  Calls Tryz.prog 154 #[.agg #[.int .i64 x.1, .int .i64 x.2], .agg #[.int .i64 y.1, .int .i64 y.2], .pointer (some ⟨bx, 0, none⟩)] w fun e w' => e = .returned (.bool (decide (x = y))) ∧ Below w.heap.size w w' := by
 obtain ⟨d, hd⟩ : ∃ d, decide (x = y) = d := ⟨_, rfl⟩
 have HD := mkHid hd
 rw [hd]
 clear hd
 obtain ⟨w0, hw0⟩ : ∃ z : World, (w.alloc (.cells #[.int .i64 x.1, .int .i64 x.2] 49)).alloc (.cells #[.int .i64 y.1, .int .i64 y.2] 49) = z := ⟨_, rfl⟩
 obtain ⟨X, hX⟩ : ∃ z, w.heap.size = z := ⟨_, rfl⟩
 have HB : Hid (Below w.heap.size w w0) := mkHid (by rw [← hw0]; exact bl_alloc (bl_alloc (Below.refl _ _) _) _)
 have hb0 : w0.cell? ⟨bx, 0, none⟩ = some (.func (.func 132) #[] #[]) := (HB.out.cell (p := ⟨bx, 0, none⟩) (World.block_lt_of_cell? w _ hbx)).trans hbx
 obtain ⟨q0, q1, _, _⟩ : Box w0 X x.1 x.2 := by rw [← hw0, ← hX]; exact ⟨by simp [go_sem], by simp [go_sem], by simp [go_sem], by simp [go_sem]⟩
 obtain ⟨p0, p1, _, _⟩ : Box w0 (X + 1) y.1 y.2 := by rw [← hw0, ← hX]; exact ⟨by simp [go_sem], by simp [go_sem], by simp [go_sem], by simp [go_sem]⟩
 go_enter Tryz.func154, Tryz.ntmps154
 go_wp2_with fail
 clear hw0 hX q0 q1 p0 p1 hb0
 refine (compareSyms_any x.1 x.2 y.1 y.2 _).mono ?_
 rintro e w1 ⟨rfl, hb, _⟩
 obtain ⟨c, hc⟩ : ∃ c, orI (cmpI x.1 y.1) (cmpI x.2 y.2) = c := ⟨_, rfl⟩
 have HC : Hid ((c == 0) = d) := mkHid (by
  rw [← hc, cmp_or, ← HD.out]
  by_cases h : x = y
  ·rw [decide_eq_true h]; exact beq_iff_eq.2 ((cmpY_zero x y).2 h)
  ·rw [decide_eq_false h]; exact beq_eq_false_iff_ne.2 fun e => h ((cmpY_zero x y).1 e))
 have HB1 := mkHid (below_step HB.out hb)
 rw [hc]
 clear hb hc
 go_wp2
 go_ret
 exact ⟨ret_bool HC.out, HB1.out⟩
theorem run_clear_two (w : World) (ty : TypeId) (b o n c : Nat) (hn : 0 < n) (hc : ∀ j, j < n * 2 → (w.cell? ⟨b, o + j, none⟩).isSome = true) (hf : ∀ j, j < n * 2 → w.frozen? ⟨b, o + j, none⟩ = false) :
  (Builtin.clear_ #[113] ty #[.slice (some ⟨b, o, none⟩) n c]).run Tryz.prog w = .ok (.tuple #[]) (w.setCells b o (List.replicate (n * 2) (.int .i64 0))) := by
 have hzc : (Builtin.zeroCells (Value.agg #[.int .i64 0, .int .i64 0]).cells n).toList = List.replicate (n * 2) (.int .i64 0) := by
  apply List.ext_getElem
  ·simp [size_zeroCells]; rfl
  ·intro i h1 h2
   have h3 : i % 2 = 0 ∨ i % 2 = 1 := by omega
   simp [Builtin.zeroCells, Value.cells]
   rcases h3 with h | h <;> simp [h]
 have hst := run_storeCells_cells (P := Tryz.prog) b o (List.replicate (n * 2) (.int .i64 0)) 0 w (by simpa using hc) (by simpa using hf) (by intro v hv'; rw [List.eq_of_mem_replicate hv']; rfl)
 simp only [Nat.add_zero] at hst
 obtain ⟨m, rfl⟩ : ∃ m, n = m + 1 := ⟨n - 1, by omega⟩
 simp [Builtin.clear_, run_underlying Tryz.underlying113, Tryz.zeroValue49, hzc, hst]
theorem own_cleared {base g n cap : Nat} : ∀ (vs : List Value) (o : Nat) {w : World} {xs : List Value}, w.ownsRow base 49 2 (.slice (some ⟨g, 0, none⟩) n cap) n xs → ∃ xs', (w.setCells g o vs).ownsRow base 49 2 (.slice (some ⟨g, 0, none⟩) n cap) n xs' ∧ xs'.take o = xs.take o ∧ w.grownBy (w.setCells g o vs) (some g)
 | [], o, w, xs, h => ⟨xs, h, rfl, World.grownBy.refl _ _⟩
 | v :: vs, o, w, xs, h => by
  obtain ⟨h1, h2⟩ := World.ownsRow.stored h o v
  obtain ⟨xs', h3, h4, h5⟩ := own_cleared vs (o + 1) h1
  refine ⟨xs', h3, ?_, grown_trans h2 h5⟩
  have e := congrArg (List.take o) h4
  rw [List.take_take, List.take_take, Nat.min_eq_left (by omega), List.take_set_of_le (Nat.le_refl _)] at e
  exact e
theorem own_cut {w : World} {base g n p cap : Nat} {xs : List Value} (h : w.ownsRow base 49 2 (.slice (some ⟨g, 0, none⟩) n cap) n xs) (hp : p ≤ n) : w.ownsRow base 49 2 (.slice (some ⟨g, 0, none⟩) p cap) p (xs.take (p * 2)) := by
 refine ⟨by have := h.1; rw [List.length_take]; omega, ?_⟩
 rcases h.2 with ⟨e, _⟩ | ⟨g2, cap2, cur, e, h1, h2, h3, h4, h5, h6⟩
 ·simp at e
 ·simp at e
  obtain ⟨rfl, rfl⟩ := e
  refine .inr ⟨g, cap, cur, rfl, h1, h2, by omega, h4, h5, ?_⟩
  rw [← h6, List.take_take, Nat.min_eq_left (by omega)]
/-- What is in the row while it is made shorter: p terms are kept of the first j. -/
structure Kept (l ms : List Y) (p j : Nat) : Prop where
 len : ms.length = l.length
 p1 : 1 ≤ p
 pj : p < j
 jl : j ≤ l.length
 set : IsSet (ms.take p) (l.take j)
 rest : ∀ i, j - 1 ≤ i → ms[i]? = l[i]?
theorem sorted_le {l : List Y} (h : l.Pairwise fun a b => ¬ LtY b a) {i j : Nat} {x y : Y} (hx : l[i]? = some x) (hy : l[j]? = some y) (hij : i < j) : x = y ∨ LtY x y := by
 obtain ⟨hi, rfl⟩ := List.getElem?_eq_some_iff.1 hx
 obtain ⟨hj, rfl⟩ := List.getElem?_eq_some_iff.1 hy
 rw [List.pairwise_iff_getElem] at h
 have := h i j hi hj hij
 rcases LtY.tri l[i] l[j] with e | e | e
 ·exact .inl e
 ·exact .inr e
 ·exact absurd e this
theorem Kept.start {l : List Y} {k : Nat} {x : Y} (h1 : 1 ≤ k) (hx : l[k]? = some x) (hy : l[k - 1]? = some x) (ha : (l.take k).Pairwise LtY) : Kept l l k (k + 1) := by
 have hk := (List.getElem?_eq_some_iff.1 hx).1
 refine ⟨rfl, h1, by omega, by omega, ?_, fun _ _ => rfl⟩
 rw [List.take_add_one, hx]
 refine IsSet.again (IsSet.self ha) (List.mem_iff_getElem?.2 ⟨k - 1, ?_⟩)
 rw [List.getElem?_take, if_pos (by omega), hy]
theorem Kept.skip {l ms : List Y} {p j : Nat} {x : Y} (h : Kept l ms p j) (hx : l[j]? = some x) (hy : l[j - 1]? = some x) : Kept l ms p (j + 1) := by
 have hk := (List.getElem?_eq_some_iff.1 hx).1
 have hpj := h.pj
 have hp1 := h.p1
 refine ⟨h.len, h.p1, by omega, by omega, ?_, fun i hi => h.rest i (by omega)⟩
 rw [List.take_add_one, hx]
 refine h.set.again (List.mem_iff_getElem?.2 ⟨j - 1, ?_⟩)
 rw [List.getElem?_take, if_pos (by omega), hy]
theorem Kept.keep {l ms : List Y} {p j : Nat} {x y : Y} (h : Kept l ms p j) (hs : l.Pairwise fun a b => ¬ LtY b a) (hx : l[j]? = some x) (hy : l[j - 1]? = some y) (hn : x ≠ y) : Kept l (ms.set p x) (p + 1) (j + 1) := by
 have hk := (List.getElem?_eq_some_iff.1 hx).1
 have hpj := h.pj
 have hp1 := h.p1
 have hl := h.len
 refine ⟨by rw [List.length_set]; exact h.len, by omega, by omega, by omega, ?_, fun i hi => ?_⟩
 ·have e1 : (ms.set p x).take (p + 1) = ms.take p ++ [x] := by
   rw [List.take_succ_eq_append_getElem (by simp; omega)]
   simp [List.take_set_of_le]
  rw [e1, List.take_add_one, hx]
  refine h.set.more fun q hq => ?_
  obtain ⟨i, hi⟩ := List.mem_iff_getElem?.1 hq
  rw [List.getElem?_take] at hi
  split at hi
  ·rename_i hij
   rcases (by omega : i < j - 1 ∨ i = j - 1) with h' | h'
   ·have hyx : LtY y x := (sorted_le hs hy hx (by omega)).resolve_left fun e => hn e.symm
    rcases sorted_le hs hi hy h' with e | e
    ·rw [e]; exact hyx
    ·exact e.trans hyx
   ·subst h'
    rw [hy] at hi
    cases hi
    exact (sorted_le hs hy hx (by omega)).resolve_left fun e => hn e.symm
  ·cases hi
 ·rw [List.getElem?_set_ne (by omega)]
  exact h.rest i (by omega)
theorem asc_take_succ {l : List Y} {k : Nat} {x y : Y} (h1 : 1 ≤ k) (hs : l.Pairwise fun a b => ¬ LtY b a) (ha : (l.take k).Pairwise LtY) (hx : l[k]? = some x) (hy : l[k - 1]? = some y) (hn : x ≠ y) : (l.take (k + 1)).Pairwise LtY := by
 rw [List.take_add_one, hx]
 refine ((IsSet.self ha).more fun q hq => ?_).asc
 obtain ⟨i, hi⟩ := List.mem_iff_getElem?.1 hq
 rw [List.getElem?_take] at hi
 split at hi
 ·rename_i hij
  have hyx : LtY y x := (sorted_le hs hy hx (by omega)).resolve_left fun e => hn e.symm
  rcases (by omega : i < k - 1 ∨ i = k - 1) with h' | h'
  ·rcases sorted_le hs hi hy h' with e | e
   ·rw [e]; exact hyx
   ·exact e.trans hyx
  ·subst h'
   rw [hy] at hi
   cases hi
   exact hyx
 ·cases hi
theorem flat_set {l : List Y} {p : Nat} (hp : p < l.length) (x : Y) : ((eY.flat l).set (p * 2) (.int .i64 x.1)).set (p * 2 + 1) (.int .i64 x.2) = eY.flat (l.set p x) := by
 obtain ⟨e, hl⟩ := split_at (List.getElem?_eq_getElem hp)
 have e2 : l.set p x = l.take p ++ x :: l.drop (p + 1) := by
  conv => lhs; rw [e]
  rw [List.set_append_right _ _ (by omega), hl, Nat.sub_self]; rfl
 rw [e2]
 conv => lhs; rw [e]
 rw [El.flat_app, El.flat_app, El.flat_cons, El.flat_cons]
 have h2 : (eY.flat (l.take p)).length = p * 2 := by rw [El.flat_len, hl]; rfl
 rw [List.set_append_right _ _ (by omega), List.set_append_right _ _ (by omega), h2]
 simp [eY]
end Go.Proofs.YtihpajiololfoaaGreat
namespace Go.Proofs.YtihpajiololfoaaGreat
open Go.RowKit

set_option maxRecDepth 100000 in
set_option maxHeartbeats 6400000 in
theorem compact_own (l : List Y) (g cap base bx : Nat) (w : World) (hn : l.length ≤ 1048576) (hs : l.Pairwise fun a b => ¬ LtY b a) (ho : Own eY 49 w base (.slice (some ⟨g, 0, none⟩) l.length cap) l) (hcap : l.length ≤ cap) (hcm : cap ≤ maxLen)
  (hbx : w.cell? ⟨bx, 0, none⟩ = some (.func (.func 132) #[] #[])) (hbg : bx ≠ g) :
  Calls Tryz.prog 155 #[.slice (some ⟨g, 0, none⟩) l.length cap, .func (.func 154) #[] #[.pointer (some ⟨bx, 0, none⟩)]] w fun e w' => w.grownBy w' (some g) ∧ ∃ m : List Y, e = .returned (.slice (some ⟨g, 0, none⟩) m.length cap) ∧ IsSet m l ∧ Own eY 49 w' base (.slice (some ⟨g, 0, none⟩) m.length cap) m := by
 unfold maxLen at hcm
 have HO := mkHid ho
 have HSO := mkHid hs
 have HBX := mkHid hbx
 clear ho hs hbx
 by_cases hsm : l.length < 2
 ·have hsi : (l.length : Int) < 2 := by omega
  have HA : Hid (l.Pairwise LtY) := mkHid (by
   match l, hsm with
   | [], _ => exact List.Pairwise.nil
   | [a], _ => simp)
  go_enter Tryz.func155, Tryz.ntmps155
  go_wp2
  go_ret
  exact ⟨World.grownBy.refl _ _, l, rfl, IsSet.self HA.out, HO.out⟩
 have hsi : ¬ (l.length : Int) < 2 := by omega
 go_enter Tryz.func155, Tryz.ntmps155
 go_wp2
 go_loopg [5] l.length (fun gk s5 wr => ∃ k : Nat, 1 ≤ k ∧ k ≤ l.length ∧ l.length - k ≤ gk ∧ s5 = .int .i64 k ∧ (l.take k).Pairwise LtY ∧ Below w.heap.size w wr)
 case atStart => exact ⟨1, Nat.le_refl _, by omega, by omega, rfl, by
  have : l.take 1 = [l[0]] := by rw [List.take_succ_eq_append_getElem (by omega)]; simp
  rw [this]; simp, Below.refl _ _⟩
 case round =>
  obtain ⟨k, hk1, hk, hgk, rfl, hasc, hbel⟩ := hrel
  have HA := mkHid hasc
  have HB := mkHid hbel
  have HOr := mkHid (HO.out.below hbel)
  have HBr : Hid (wr.cell? ⟨bx, 0, none⟩ = some (.func (.func 132) #[] #[])) := mkHid ((hbel.cell (p := ⟨bx, 0, none⟩) (World.block_lt_of_cell? w _ HBX.out)).trans HBX.out)
  clear hasc hbel
  by_cases hlt : k < l.length
  ·obtain ⟨x, hx⟩ : ∃ x, l[k]? = some x := ⟨_, List.getElem?_eq_getElem hlt⟩
   obtain ⟨y, hy⟩ : ∃ x, l[k - 1]? = some x := ⟨_, List.getElem?_eq_getElem (by omega)⟩
   obtain ⟨km, hkm⟩ : ∃ km, k - 1 = km := ⟨_, rfl⟩
   rw [hkm] at hy
   obtain ⟨b, o, e, hlb, hq⟩ := HOr.out.at.cons (by omega)
   cases e
   obtain ⟨c0, c1⟩ := get_y hq hx
   obtain ⟨d0, d1⟩ := get_y hq hy
   rw [Nat.zero_add] at c0 c1 d0 d1
   have HX := mkHid hx
   have HY := mkHid hy
   have HKM := mkHid hkm
   have hwk : IntKind.i64.wrap ((k : Int) - 1) = (km : Int) := by rw [IntWalk.i64_in _ (by omega)]; omega
   have hwk2 : wrap64 ((k : Int) - 1) = (km : Int) := by unfold wrap64; omega
   have i0 : (0 : Int) ≤ (k : Int) := by omega
   have i1 : (k : Int) < (l.length : Int) := by omega
   have i2 : (0 : Int) ≤ (km : Int) := by omega
   have i3 : (km : Int) < (l.length : Int) := by omega
   have e0 := HBr.out
   have hle := World.block_lt_of_cell? wr _ e0
   clear hq hx hy hkm
   by_cases hxy : x = y
   ·have hd : decide (x = y) = true := decide_eq_true hxy
    have HXY := mkHid hxy
    clear hxy
    go_wp2_with fail
    go_region_held3 (fun w' => w'.cell? ⟨g, k * 2, none⟩ = some (.int .i64 x.1) ∧ w'.cell? ⟨g, k * 2 + 1, none⟩ = some (.int .i64 x.2) ∧ w'.cell? ⟨g, km * 2, none⟩ = some (.int .i64 y.1) ∧ w'.cell? ⟨g, km * 2 + 1, none⟩ = some (.int .i64 y.2)) (first | exact ⟨c0, c1, d0, d1⟩ | exact ⟨(hc _ _ hlb).trans c0, (hc _ _ hlb).trans c1, (hc _ _ hlb).trans d0, (hc _ _ hlb).trans d1⟩)
     (first | (go_at_call 154; refine (alike_any x y bx wr.drew e0).mono ?_; rintro e w1 ⟨rfl, hb1⟩; rw [hd]; obtain ⟨hc, hf⟩ := bcell hb1))
    have HB1 : Hid (Below w.heap.size w w1) := HB.out.drew.trans (hb1.mono HB.out.drew.size)
    clear hb1 hc hf c0 c1 d0 d1 e0
    have s0 : ¬ ((k : Int) = (cap : Int)) := by omega
    have s1 : (k : Int) ≤ (cap : Int) := by omega
    obtain ⟨n2, hn2⟩ : ∃ n2, l.length - k = n2 := ⟨_, rfl⟩
    have hn2a : l.length ≤ k + n2 := by omega
    have hn2b : k + n2 ≤ l.length := by omega
    have HKS := mkHid (Kept.start hk1 HX.out (by have h := HY.out; rw [← HKM.out, ← HXY.out] at h; exact h) HA.out)
    have HO1 := mkHid (HO.out.below HB1.out)
    have HG1 : Hid (w.grownBy w1 (some g)) := mkHid (grown_below HB1.out)
    have HBX1 : Hid (w1.cell? ⟨bx, 0, none⟩ = some (.func (.func 132) #[] #[])) := mkHid ((HB1.out.cell (p := ⟨bx, 0, none⟩) (World.block_lt_of_cell? w _ HBX.out)).trans HBX.out)
    go_wp2
    obtain ⟨wo, hwo⟩ : ∃ x, x = wr := ⟨_, rfl⟩
    subst hwo
    clear hn2
    go_loopg [5, 7] l.length (fun gk s5 s7 wr => ∃ (p q : Nat) (ms : List Y), s5 = .int .i64 p ∧ s7 = .int .i64 q ∧ 1 ≤ q ∧ q ≤ n2 ∧ n2 - q ≤ gk ∧ Kept l ms p (k + q) ∧ Own eY 49 wr base (.slice (some ⟨g, 0, none⟩) l.length cap) ms ∧ w.grownBy wr (some g))
    case atStart => exact ⟨k, 1, l, rfl, rfl, Nat.le_refl _, by omega, by omega, HKS.out, HO1.out, HG1.out⟩
    case round =>
     obtain ⟨p, q, ms, rfl, rfl, hq1, hqn, hgq, hkept, hown, hgr⟩ := hrel
     have HKE := mkHid hkept
     have HOW := mkHid hown
     have HGR := mkHid hgr
     have hp1 := hkept.p1
     have hpj := hkept.pj
     have hml := hkept.len
     have hbr : wr.cell? ⟨bx, 0, none⟩ = some (.func (.func 132) #[] #[]) := hgr.cell HBX.out (fun e => hbg (Option.some.inj e))
     have hle2 := World.block_lt_of_cell? wr _ hbr
     clear HKS HO1 HG1 HB1 HBX1 HOr HBr HX HY HKM HXY HA HB
     by_cases hlt2 : q < n2
     ·obtain ⟨u, hu⟩ : ∃ x, l[k + q]? = some x := ⟨_, List.getElem?_eq_getElem (by omega)⟩
      obtain ⟨v, hv⟩ : ∃ x, l[k + q - 1]? = some x := ⟨_, List.getElem?_eq_getElem (by omega)⟩
      obtain ⟨qm, hqm⟩ : ∃ qm, q - 1 = qm := ⟨_, rfl⟩
      obtain ⟨b, o, e, hlb, hq⟩ := hown.at.cons (by omega)
      cases e
      obtain ⟨c0, c1⟩ := get_y hq ((hkept.rest (k + q) (by omega)).trans hu)
      obtain ⟨d0, d1⟩ := get_y hq ((hkept.rest (k + q - 1) (by omega)).trans hv)
      rw [show 0 + (k + q) * 2 = k * 2 + q * 2 by omega] at c0 c1
      rw [show 0 + (k + q - 1) * 2 = k * 2 + qm * 2 by omega] at d0 d1
      have HU := mkHid hu
      have HV := mkHid hv
      have HQM := mkHid hqm
      have hwq : IntKind.i64.wrap ((q : Int) - 1) = (qm : Int) := by rw [IntWalk.i64_in _ (by omega)]; omega
      have hwq2 : wrap64 ((q : Int) - 1) = (qm : Int) := by unfold wrap64; omega
      have j0 : (0 : Int) ≤ (q : Int) := by omega
      have j1 : (q : Int) < (n2 : Int) := by omega
      have j2 : (0 : Int) ≤ (qm : Int) := by omega
      have j3 : (qm : Int) < (n2 : Int) := by omega
      have k0 : (0 : Int) ≤ (p : Int) := by omega
      have k1 : (p : Int) < (l.length : Int) := by omega
      have hxl : (eY.flat ms).length = l.length * 2 := by rw [El.flat_len, hml]; rfl
      have HOQ : Hid (wr.ownsRow base 49 2 (.slice (some ⟨g, 0, none⟩) l.length cap) l.length (eY.flat ms)) := mkHid (by have h := hown; unfold Own at h; rw [hml] at h; exact h)
      clear hq hu hv hqm hkept hown hgr
      by_cases huv : u = v
      ·have hd2 : decide (u = v) = true := decide_eq_true huv
       have HUV := mkHid huv
       clear huv
       go_wp2_with fail
       go_region_held3 (fun w' => w'.cell? ⟨g, k * 2 + q * 2, none⟩ = some (.int .i64 u.1) ∧ w'.cell? ⟨g, k * 2 + q * 2 + 1, none⟩ = some (.int .i64 u.2) ∧ w'.cell? ⟨g, k * 2 + qm * 2, none⟩ = some (.int .i64 v.1) ∧ w'.cell? ⟨g, k * 2 + qm * 2 + 1, none⟩ = some (.int .i64 v.2)) (first | exact ⟨c0, c1, d0, d1⟩ | exact ⟨(hc _ _ hlb).trans c0, (hc _ _ hlb).trans c1, (hc _ _ hlb).trans d0, (hc _ _ hlb).trans d1⟩)
        (first | (go_at_call 154; refine (alike_any u v bx wr.drew hbr).mono ?_; rintro e w2 ⟨rfl, hb1⟩; rw [hd2]; obtain ⟨hc, hf⟩ := bcell hb1))
       have HB2 : Hid (Below wr.heap.size wr w2) := mkHid (bdrew hb1)
       clear hb1 hc hf c0 c1 d0 d1 hbr
       have HK2 := mkHid (HKE.out.skip HU.out (by rw [HV.out, HUV.out]))
       have HO2 := mkHid (HOW.out.below HB2.out)
       have HG2 := mkHid (grown_trans HGR.out (grown_below HB2.out))
       go_wp2
       go_roundg (n2 - (q + 1))
       case measure => omega
       case rel => exact ⟨p, q + 1, ms, rfl, by go_num, by omega, by omega, Nat.le_refl _, HK2.out, HO2.out, HG2.out⟩
      ·have hd2 : decide (u = v) = false := decide_eq_false huv
       have HUV := mkHid huv
       clear huv
       go_wp2_with fail
       go_region_held3 (fun w' => w'.cell? ⟨g, k * 2 + q * 2, none⟩ = some (.int .i64 u.1) ∧ w'.cell? ⟨g, k * 2 + q * 2 + 1, none⟩ = some (.int .i64 u.2) ∧ w'.cell? ⟨g, k * 2 + qm * 2, none⟩ = some (.int .i64 v.1) ∧ w'.cell? ⟨g, k * 2 + qm * 2 + 1, none⟩ = some (.int .i64 v.2)) (first | exact ⟨c0, c1, d0, d1⟩ | exact ⟨(hc _ _ hlb).trans c0, (hc _ _ hlb).trans c1, (hc _ _ hlb).trans d0, (hc _ _ hlb).trans d1⟩)
        (first | (go_at_call 154; refine (alike_any u v bx wr.drew hbr).mono ?_; rintro e w2 ⟨rfl, hb1⟩; rw [hd2]; obtain ⟨hc, hf⟩ := bcell hb1))
       have c0' := (hc _ _ hlb).trans c0
       have c1' := (hc _ _ hlb).trans c1
       have c0 : w2.cell? ⟨g, k * 2 + q * 2, none⟩ = some (.int .i64 u.1) := c0'
       have c1 : w2.cell? ⟨g, k * 2 + q * 2 + 1, none⟩ = some (.int .i64 u.2) := c1'
       have HB2 : Hid (Below wr.heap.size wr w2) := mkHid (bdrew hb1)
       clear hb1 hc hf d0 d1 hbr c0' c1'
       have HOQ2 := mkHid (owns_below HOQ.out HB2.out)
       obtain ⟨u0, y0⟩ : ∃ v, w2.cell? ⟨g, p * 2, none⟩ = some v := ⟨_, (HOQ2.out.cellAt (p * 2) (by omega)).trans (List.getElem?_eq_getElem (by omega))⟩
       obtain ⟨u1, y1⟩ : ∃ v, w2.cell? ⟨g, p * 2 + 1, none⟩ = some v := ⟨_, (HOQ2.out.cellAt (p * 2 + 1) (by omega)).trans (List.getElem?_eq_getElem (by omega))⟩
       have z0 := HOQ2.out.frozenAt (p * 2)
       have z1 := HOQ2.out.frozenAt (p * 2 + 1)
       have HA0 := mkHid (HOQ2.out.stored (p * 2) (.int .i64 u.1))
       have HA1 := mkHid (HA0.out.1.stored (p * 2 + 1) (.int .i64 u.2))
       have HK2 := mkHid (HKE.out.keep HSO.out HU.out HV.out HUV.out)
       have HG2 := mkHid (grown_trans (grown_trans (grown_trans HGR.out (grown_below HB2.out)) HA0.out.2) HA1.out.2)
       have HML := mkHid hml
       clear hml hxl
       go_wp2
       go_roundg (n2 - (q + 1))
       case measure => omega
       case rel =>
        refine ⟨p + 1, q + 1, ms.set p u, by go_num, by go_num, by omega, by omega, Nat.le_refl _, HK2.out, ?_, HG2.out⟩
        have h := HA1.out.1
        rw [flat_set (by have := HML.out; omega)] at h
        unfold Own
        rw [List.length_set, HML.out]
        exact h
     ·have hqe : q = n2 := by omega
      have HSET : Hid (IsSet (ms.take p) l) := mkHid (by have h := hkept.set; rw [hqe, show k + n2 = l.length by omega, List.take_length] at h; exact h)
      have HOQ : Hid (wr.ownsRow base 49 2 (.slice (some ⟨g, 0, none⟩) l.length cap) l.length (eY.flat ms)) := mkHid (by have h := hown; unfold Own at h; rw [hml] at h; exact h)
      obtain ⟨np, hnp⟩ : ∃ np, l.length - p = np := ⟨_, rfl⟩
      have hnpa : l.length ≤ p + np := by omega
      have hnpb : p + np ≤ l.length := by omega
      have hnp0 : 0 < np := by omega
      have hfl : (eY.flat ms).length = l.length * 2 := by rw [El.flat_len, hml]; rfl
      have hcl : ∀ ty, (Builtin.clear_ #[113] ty #[.slice (some ⟨g, p * 2, none⟩) np (cap - p)]).run Tryz.prog wr = .ok (.tuple #[]) (wr.setCells g (p * 2) (List.replicate (np * 2) (.int .i64 0))) :=
       fun ty => run_clear_two wr ty g (p * 2) np _ hnp0 (fun j hj => by rw [HOQ.out.cellAt (p * 2 + j) (by omega), List.getElem?_eq_getElem (by omega)]; rfl) (fun j _ => HOQ.out.frozenAt _)
      obtain ⟨wc, hwc⟩ : ∃ x, wr.setCells g (p * 2) (List.replicate (np * 2) (.int .i64 0)) = x := ⟨_, rfl⟩
      obtain ⟨xs', ho', ht', hg'⟩ := own_cleared (List.replicate (np * 2) (.int .i64 0)) (p * 2) HOQ.out
      rw [hwc] at ho' hg' hcl
      have hlp : (ms.take p).length = p := by rw [List.length_take]; omega
      have HOF : Hid (Own eY 49 wc base (.slice (some ⟨g, 0, none⟩) p cap) (ms.take p)) := mkHid (by
       have h := own_cut ho' (p := p) (by omega)
       rw [ht'] at h
       have e := eY.flat_take ms p
       unfold Own
       rw [hlp, ← e]
       exact h)
      have HGF := mkHid (grown_trans HGR.out hg')
      have HLP := mkHid hlp
      have k0 : (0 : Int) ≤ (p : Int) := by omega
      have k1 : (p : Int) < (l.length : Int) := by omega
      have k2 : (p : Int) < (cap : Int) := by omega
      have j1 : ¬ (q : Int) < (n2 : Int) := by omega
      clear ho' ht' hg' hwc hkept hown hgr hml hlp hbr hfl hqe
      go_wp2
      go_ret
      exact ⟨HGF.out, ms.take p, by rw [HLP.out]; rfl, HSET.out, by rw [HLP.out]; exact HOF.out⟩
   ·have hd : decide (x = y) = false := decide_eq_false hxy
    have HNX := mkHid (asc_take_succ hk1 HSO.out HA.out HX.out (by rw [HKM.out]; exact HY.out) hxy)
    clear hxy
    go_wp2_with fail
    go_region_held3 (fun w' => w'.cell? ⟨g, k * 2, none⟩ = some (.int .i64 x.1) ∧ w'.cell? ⟨g, k * 2 + 1, none⟩ = some (.int .i64 x.2) ∧ w'.cell? ⟨g, km * 2, none⟩ = some (.int .i64 y.1) ∧ w'.cell? ⟨g, km * 2 + 1, none⟩ = some (.int .i64 y.2)) (first | exact ⟨c0, c1, d0, d1⟩ | exact ⟨(hc _ _ hlb).trans c0, (hc _ _ hlb).trans c1, (hc _ _ hlb).trans d0, (hc _ _ hlb).trans d1⟩)
     (first | (go_at_call 154; refine (alike_any x y bx wr.drew e0).mono ?_; rintro e w1 ⟨rfl, hb1⟩; rw [hd]; obtain ⟨hc, hf⟩ := bcell hb1))
    have HB1 : Hid (Below w.heap.size w w1) := HB.out.drew.trans (hb1.mono HB.out.drew.size)
    clear hb1 hc hf c0 c1 d0 d1 e0
    go_wp2
    go_roundg (l.length - (k + 1))
    case measure => omega
    case rel => exact ⟨k + 1, by omega, by omega, Nat.le_refl _, by go_num, HNX.out, HB1.out⟩
  ·have e : k = l.length := by omega
   have HAL : Hid (l.Pairwise LtY) := mkHid (by have h := HA.out; rw [e, List.take_length] at h; exact h)
   have i1 : ¬ (k : Int) < (l.length : Int) := by omega
   go_wp2
   go_ret
   exact ⟨grown_below HB.out, l, rfl, IsSet.self HAL.out, HOr.out⟩
end Go.Proofs.YtihpajiololfoaaGreat
namespace Go.Proofs.YtihpajiololfoaaGreat
open Go.Shelf
def Tryz.growY_ren : Go.Shelf.Ren := ⟨fun | 4 => 162 | n => n, fun | 22 => 113 | 25 => 49 | 3 => 3 | 4 => 4 | 9 => 9 | 20 => 20 | 0 => 0 | 2 => 3 | n => n, fun | n => n⟩
theorem Tryz.growY : Go.Proofs.Lays8.n4 Tryz.prog Tryz.growY_ren := {
  mixed := by kernel_rfl
  f4 := ⟨Tryz.f162.name, by decide, Tryz.func162.trans (congrArg some (by kernel_rfl))⟩
  t0 := Tryz.underlying0
  a0 := Tryz.isAgg0
  z0 := Tryz.sizeOf0
  v0 := Tryz.zeroValue0
  t3 := Tryz.underlying3
  a3 := Tryz.isAgg3
  z3 := Tryz.sizeOf3
  v3 := Tryz.zeroValue3
  t4 := Tryz.underlying4
  a4 := Tryz.isAgg4
  z4 := Tryz.sizeOf4
  v4 := Tryz.zeroValue4
  t9 := Tryz.underlying9
  a9 := Tryz.isAgg9
  z9 := Tryz.sizeOf9
  v9 := Tryz.zeroValue9
  t20 := Tryz.underlying20
  a20 := Tryz.isAgg20
  z20 := Tryz.sizeOf20
  v20 := Tryz.zeroValue20
  t22 := Tryz.underlying113
  a22 := Tryz.isAgg113
  z22 := Tryz.sizeOf113
  v22 := Tryz.zeroValue113 }
end Go.Proofs.YtihpajiololfoaaGreat
