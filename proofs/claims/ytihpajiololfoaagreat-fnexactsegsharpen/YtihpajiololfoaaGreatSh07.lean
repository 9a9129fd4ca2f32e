/-
  LAYING at this program of the library's contract of slices.SortFunc.
  CONTRACT of slices.SortFunc at terms, by compareSyms: the row of our own holds the same terms, none behind a greater one.
  CONTRACT of slices.CompactFunc at a sorted row of terms of our own: the set of them.
-/
import Derived.Shelf.SlSortCmp.WholeK
import Derived.Test.YtihpajiololfoaaGreatSh00
import Derived.Test.YtihpajiololfoaaGreatSh02
import Derived.Lib.SliceRun
namespace Go.Proofs.YtihpajiololfoaaGreat
open Go.Shelf
def Tryz.sortY_ren : Go.Shelf.Ren := ⟨fun | 6 => 153 | 15 => 164 | 14 => 163 | 28 => 174 | 29 => 175 | 20 => 166 | 21 => 167 | 22 => 168 | 23 => 169 | 24 => 170 | 25 => 171 | 26 => 172 | 27 => 173 | 46 => 176 | 47 => 177 | 48 => 178 | 49 => 179 | 50 => 180 | 57 => 181 | n => n, fun | 22 => 113 | 24 => 49 | 25 => 125 | 3 => 3 | 39 => 187 | 0 => 0 | 53 => 196 | 55 => 198 | 4 => 4 | 46 => 190 | 45 => 189 | 50 => 182 | 5 => 5 | 9 => 9 | 66 => 199 | 70 => 203 | 76 => 205 | 77 => 47 | n => n, fun | n => n⟩
theorem Tryz.sortY : Go.Proofs.SlLaysF0.n6 Tryz.prog Tryz.sortY_ren := {
  mixed := by kernel_rfl
  f6 := ⟨Tryz.f153.name, by decide, Tryz.func153.trans (congrArg some (by kernel_rfl))⟩
  f14 := ⟨Tryz.f163.name, by decide, Tryz.func163.trans (congrArg some (by kernel_rfl))⟩
  f15 := Tryz.func164.trans (congrArg some (by kernel_rfl))
  f20 := ⟨Tryz.f166.name, by decide, Tryz.func166.trans (congrArg some (by kernel_rfl))⟩
  f21 := ⟨Tryz.f167.name, by decide, Tryz.func167.trans (congrArg some (by kernel_rfl))⟩
  f22 := ⟨Tryz.f168.name, by decide, Tryz.func168.trans (congrArg some (by kernel_rfl))⟩
  f23 := ⟨Tryz.f169.name, by decide, Tryz.func169.trans (congrArg some (by kernel_rfl))⟩
  f24 := ⟨Tryz.f170.name, by decide, Tryz.func170.trans (congrArg some (by kernel_rfl))⟩
  f25 := ⟨Tryz.f171.name, by decide, Tryz.func171.trans (congrArg some (by kernel_rfl))⟩
  f26 := ⟨Tryz.f172.name, by decide, Tryz.func172.trans (congrArg some (by kernel_rfl))⟩
  f27 := ⟨Tryz.f173.name, by decide, Tryz.func173.trans (congrArg some (by kernel_rfl))⟩
  f28 := Tryz.func174.trans (congrArg some (by kernel_rfl))
  f29 := Tryz.func175.trans (congrArg some (by kernel_rfl))
  f46 := ⟨Tryz.f176.name, by decide, Tryz.func176.trans (congrArg some (by kernel_rfl))⟩
  f47 := Tryz.func177.trans (congrArg some (by kernel_rfl))
  f48 := Tryz.func178.trans (congrArg some (by kernel_rfl))
  f49 := ⟨Tryz.f179.name, by decide, Tryz.func179.trans (congrArg some (by kernel_rfl))⟩
  f50 := ⟨Tryz.f180.name, by decide, Tryz.func180.trans (congrArg some (by kernel_rfl))⟩
  f57 := ⟨Tryz.f181.name, by decide, Tryz.func181.trans (congrArg some (by kernel_rfl))⟩
  t0 := Tryz.underlying0
  a0 := Tryz.isAgg0
  z0 := Tryz.sizeOf0
  v0 := Tryz.zeroValue0
  t3 := Tryz.underlying3
  a3 := Tryz.isAgg3
  z3 := Tryz.sizeOf3
  v3 := Tryz.zeroValue3
  t4 := Tryz.underlying4
  a4 := Tryz.isAgg4
  z4 := Tryz.sizeOf4
  v4 := Tryz.zeroValue4
  t5 := Tryz.underlying5
  a5 := Tryz.isAgg5
  z5 := Tryz.sizeOf5
  v5 := Tryz.zeroValue5
  t9 := Tryz.underlying9
  a9 := Tryz.isAgg9
  z9 := Tryz.sizeOf9
  v9 := Tryz.zeroValue9
  t22 := Tryz.underlying113
  a22 := Tryz.isAgg113
  z22 := Tryz.sizeOf113
  v22 := Tryz.zeroValue113
  t25 := Tryz.underlying125
  a25 := Tryz.isAgg125
  z25 := Tryz.sizeOf125
  v25 := Tryz.zeroValue125
  t39 := Tryz.underlying187
  a39 := Tryz.isAgg187
  z39 := Tryz.sizeOf187
  v39 := Tryz.zeroValue187
  t45 := Tryz.underlying189
  a45 := Tryz.isAgg189
  z45 := Tryz.sizeOf189
  v45 := Tryz.zeroValue189
  t46 := Tryz.underlying190
  a46 := Tryz.isAgg190
  z46 := Tryz.sizeOf190
  v46 := Tryz.zeroValue190
  t50 := Tryz.underlying182
  a50 := Tryz.isAgg182
  z50 := Tryz.sizeOf182
  v50 := Tryz.zeroValue182
  t53 := Tryz.underlying196
  a53 := Tryz.isAgg196
  z53 := Tryz.sizeOf196
  v53 := Tryz.zeroValue196
  t55 := Tryz.underlying198
  a55 := Tryz.isAgg198
  z55 := Tryz.sizeOf198
  v55 := Tryz.zeroValue198
  t66 := Tryz.underlying199
  a66 := Tryz.isAgg199
  z66 := Tryz.sizeOf199
  v66 := Tryz.zeroValue199
  t70 := Tryz.underlying203
  a70 := Tryz.isAgg203
  z70 := Tryz.sizeOf203
  v70 := Tryz.zeroValue203
  t76 := Tryz.underlying205
  a76 := Tryz.isAgg205
  z76 := Tryz.sizeOf205
  v76 := Tryz.zeroValue205
  t77 := Tryz.underlying47
  a77 := Tryz.isAgg47
  z77 := Tryz.sizeOf47
  v77 := Tryz.zeroValue47 }
end Go.Proofs.YtihpajiololfoaaGreat
namespace Go.Proofs.YtihpajiololfoaaGreat
open Go.RowKit

theorem cmp_or (a b c d : Int) : orI (cmpI a c) (cmpI b d) = cmpY (a, b) (c, d) := by
 unfold orI cmpY
 by_cases h : cmpI a c = 0
 ·simp [h]
 ·simp [h]
theorem grow_of {W w' : World} (h : Below W.heap.size W w') (hd : W.drawn ≤ w'.drawn) : ∃ q os, w' = Go.Sort.grow (W.drewN q) os := by
 refine ⟨w'.drawn - W.drawn, w'.heap.extract W.heap.size w'.heap.size, ?_⟩
 have hh : w'.heap = W.heap ++ w'.heap.extract W.heap.size w'.heap.size := by
  have hs := h.size
  apply Array.ext_getElem?
  intro k
  by_cases hk : k < W.heap.size
  ·rw [h.block k hk, Array.getElem?_append_left hk]
  ·rw [Array.getElem?_append_right (by omega), Array.getElem?_extract]
   by_cases hk2 : k < w'.heap.size
   ·rw [if_pos (by omega)]
    congr 1; omega
   ·rw [if_neg (by omega), Array.getElem?_eq_none (by omega)]
 have h1 := h.os
 have h2 := h.tape
 have h3 := h.output
 have h4 : w'.drawn = W.drawn + (w'.drawn - W.drawn) := by omega
 cases w'
 cases W
 simp only [Go.Sort.grow, World.drewN] at *
 subst h1 h2 h3
 rw [← hh, ← h4]
theorem cmpLays (blk off size : Nat) (w : World) : CmpLays Tryz.prog 132 #[] eY.enc 2 cmpY blk off size w := fun m os dk _ x y => by
 refine (compareSyms_any x.1 x.2 y.1 y.2 _).mono ?_
 rintro e w' ⟨rfl, hb, hd⟩
 exact ⟨by rw [cmp_or], grow_of hb hd⟩
theorem swoY : Go.Sort.SWO (ltOf cmpY) where
 irrefl x := by unfold ltOf; exact decide_eq_false (fun h => LtY.irrefl x ((cmpY_lt x x).1 h))
 trans x y z h1 h2 := by
  unfold ltOf at *
  exact decide_eq_true ((cmpY_lt x z).2 (((cmpY_lt x y).1 (of_decide_eq_true h1)).trans ((cmpY_lt y z).1 (of_decide_eq_true h2))))
 ntrans x y z h1 h2 := by
  unfold ltOf at *
  refine decide_eq_false fun h => ?_
  have h3 := (cmpY_lt x z).1 h
  have n1 : ¬ LtY x y := fun g => of_decide_eq_false h1 ((cmpY_lt x y).2 g)
  have n2 : ¬ LtY y z := fun g => of_decide_eq_false h2 ((cmpY_lt y z).2 g)
  unfold LtY at *
  omega
theorem flatK_get {l : List Y} {j : Nat} (hj : j < l.length * 2) : (eY.flat l)[j]? = some ((Go.Sort.flatK eY.enc 2 l.toArray)[j]!) := by
 rw [Go.Sort.get_flatK _ _ _ _ (by simpa using hj)]
 obtain ⟨x, hx⟩ : ∃ x, l[j / 2]? = some x := ⟨_, List.getElem?_eq_getElem (by omega)⟩
 have h := eY.flat_get hx (j := j % 2) (by show j % 2 < 2; omega)
 have e : j / 2 * eY.k + j % 2 = j := by show j / 2 * 2 + j % 2 = j; omega
 rw [e] at h
 have e2 : l.toArray[j / 2]! = x := by simp [hx]
 rw [h, e2]
 have : j % 2 = 0 ∨ j % 2 = 1 := by omega
 rcases this with h | h <;> rw [h] <;> rfl
theorem flatK_list (d : Array Y) : (Go.Sort.flatK eY.enc 2 d).toList = eY.flat d.toList := by
 apply List.ext_getElem?
 intro j
 by_cases hj : j < d.size * 2
 ·rw [flatK_get (l := d.toList) (by simpa using hj)]
  rw [Array.getElem?_toList, Array.getElem?_eq_getElem (by simpa using hj)]
  congr 1
  rw [getElem!_pos]
 ·rw [List.getElem?_eq_none (by simpa using hj), List.getElem?_eq_none (by rw [El.flat_len]; simpa [eY] using hj)]
theorem put_take (F cur : Array Value) (h : F.size ≤ cur.size) : (Go.Sort.putCells (id : Value → Value) 0 F cur).toList.take F.size = F.toList := by
 apply List.ext_getElem?
 intro j
 by_cases hj : j < F.size
 ·rw [List.getElem?_take, if_pos hj, Array.getElem?_toList, Array.getElem?_toList]
  simp only [Go.Sort.putCells, Array.getElem?_mapIdx]
  rw [Array.getElem?_eq_getElem (by omega), Array.getElem?_eq_getElem hj]
  simp [hj]
 ·rw [List.getElem?_take, if_neg hj, List.getElem?_eq_none (by simpa using hj)]
theorem put_size (F cur : Array Value) : (Go.Sort.putCells (id : Value → Value) 0 F cur).size = cur.size := by simp [Go.Sort.putCells]
/-- slices.SortFunc on a row of our own. -/
theorem sort_own (l : List Y) (g cap base : Nat) (w : World) (hn : l.length ≤ 1048576) (ho : Own eY 49 w base (.slice (some ⟨g, 0, none⟩) l.length cap) l) :
  Calls Tryz.prog 153 #[.slice (some ⟨g, 0, none⟩) l.length cap, .func (.func 132) #[] #[]] w fun e w' => e = .returned (.tuple #[]) ∧ ∃ l' : List Y, l'.Perm l ∧ l'.Pairwise (fun a b => ¬ LtY b a) ∧ Own eY 49 w' base (.slice (some ⟨g, 0, none⟩) l.length cap) l' ∧ w.grownBy w' (some g) := by
 have hlt := (ho.lt (q := g) rfl).2
 have hH : Go.Sort.HoldsK eY.enc 2 w g 0 l.toArray := by
  intro j hj
  have hj2 : j < l.length * 2 := by simpa using hj
  refine ⟨?_, by rw [Nat.zero_add]; exact World.ownsRow.frozenAt ho j⟩
  rw [Nat.zero_add, World.ownsRow.cellAt ho j hj2, flatK_get hj2]
  rfl
 have h := AnyQ.slices_SortFunc Tryz.sortY 2 (fun w => by kernel_rfl) (fun w => by kernel_rfl) eY.enc (fun _ => rfl) (fun x v hv => by simp [eY] at hv; rcases hv with rfl | rfl <;> rfl) cmpY swoY 132 #[] g 0 cap l.toArray w (enters_of Tryz.func132 (by kernel_rfl) rfl) (cmpLays g 0 _ w) hH hlt (by simp; omega)
 have h' : Calls Tryz.prog 153 #[.slice (some ⟨g, 0, none⟩) l.length cap, .func (.func 132) #[] #[]] w fun e w' => e = .returned (.tuple #[]) ∧ ∃ d' n os, Go.Sort.PermIn 0 l.toArray.size l.toArray d' ∧ Go.Sort.SortedIn (ltOf cmpY) 0 l.toArray.size d' ∧ w' = Go.Proofs.sortWorldK eY.enc 2 w g 0 n d' os := h
 refine h'.mono ?_
 rintro e w' ⟨rfl, d', n, os, hp, hs, rfl⟩
 obtain ⟨hsz, _, hperm⟩ := hp
 have hsz' : d'.size = l.length := by simpa using hsz
 refine ⟨rfl, d'.toList, ?_, ?_, ?_, ?_⟩
 ·have e1 : (d'.extract 0 l.toArray.size).toList = d'.toList := by simp [← hsz']
  have e2 : (l.toArray.extract 0 l.toArray.size).toList = l := by simp
  rw [e1, e2] at hperm
  exact hperm
 ·rw [List.pairwise_iff_getElem]
  intro i j hi hj hij
  have h1 := hs i j (Nat.zero_le _) hij (by simp at hj ⊢; omega)
  have hi' : i < d'.size := by simpa using hi
  have hj' : j < d'.size := by simpa using hj
  rw [getElem!_pos d' i hi', getElem!_pos d' j hj'] at h1
  intro g
  exact of_decide_eq_false h1 ((cmpY_lt _ _).2 g)
 ·rcases ho.2 with ⟨e, _⟩ | ⟨g2, cap', cur, e, hb, hg, hc1, hc2, hc3, hc4⟩
  ·simp at e
  ·simp at e
   obtain ⟨rfl, rfl⟩ := e
   have hcs : (Go.Sort.flatK eY.enc 2 d').size ≤ cur.size := by
    rw [Go.Sort.size_flatK, hc3, hsz']
    show l.length * 2 ≤ cap * 2
    omega
   unfold Own
   refine ⟨El.flat_len _ _, .inr ⟨g, cap, Go.Sort.putCells id 0 (Go.Sort.flatK eY.enc 2 d') cur, by simp [hsz'], hb, ?_, by simpa [hsz'] using hc1, hc2, by rw [put_size]; exact hc3, ?_⟩⟩
   ·show (((w.heap.modify g (Go.Sort.onCells (Go.Sort.putCells id 0 (Go.Sort.flatK eY.enc 2 d')))) ++ os)[g]? = _)
    rw [Array.getElem?_append_left (by simpa using hlt), Array.getElem?_modify, if_pos rfl, hg]
    rfl
   ·have := put_take (Go.Sort.flatK eY.enc 2 d') cur hcs
    rw [flatK_list] at this
    rw [← this, Go.Sort.size_flatK]
    rfl
 ·refine ⟨rfl, rfl, rfl, ?_, fun k hk hne => ?_⟩
  ·show w.heap.size ≤ ((w.heap.modify g _) ++ os).size
   simp
  ·show ((w.heap.modify g _) ++ os)[k]? = _
   rw [Array.getElem?_append_left (by simpa using hk), Array.getElem?_modify, if_neg (fun e => hne (by rw [e]))]
end Go.Proofs.YtihpajiololfoaaGreat
namespace Go.Proofs.YtihpajiololfoaaGreat
open Go.RowKit

set_option maxRecDepth 100000 in
set_option maxHeartbeats 800000 in
theorem alike_any (x y : Y) (bx : Nat) (w : World) (hbx : w.cell? ⟨bx, 0, none⟩ = some (.func (.func 132) #[] #[])) :
  Calls Tryz.prog 154 #[.agg #[.int .i64 x.1, .int .i64 x.2], .agg #[.int .i64 y.1, .int .i64 y.2], .pointer (some ⟨bx, 0, none⟩)] w fun e w' => e = .returned (.bool (decide (x = y))) ∧ Below w.heap.size w w' := by
 obtain ⟨d, hd⟩ : ∃ d, decide (x = y) = d := ⟨_, rfl⟩
 have HD := mkHid hd
 rw [hd]
 clear hd
 obtain ⟨w0, hw0⟩ : ∃ z : World, (w.alloc (.cells #[.int .i64 x.1, .int .i64 x.2] 49)).alloc (.cells #[.int .i64 y.1, .int .i64 y.2] 49) = z := ⟨_, rfl⟩
 obtain ⟨X, hX⟩ : ∃ z, w.heap.size = z := ⟨_, rfl⟩
 have HB : Hid (Below w.heap.size w w0) := mkHid (by rw [← hw0]; exact bl_alloc (bl_alloc (Below.refl _ _) _) _)
 have hb0 : w0.cell? ⟨bx, 0, none⟩ = some (.func (.func 132) #[] #[]) := (HB.out.cell (p := ⟨bx, 0, none⟩) (World.block_lt_of_cell? w _ hbx)).trans hbx
 obtain ⟨q0, q1, _, _⟩ : Box w0 X x.1 x.2 := by rw [← hw0, ← hX]; exact ⟨by simp [go_sem], by simp [go_sem], by simp [go_sem], by simp [go_sem]⟩
 obtain ⟨p0, p1, _, _⟩ : Box w0 (X + 1) y.1 y.2 := by rw [← hw0, ← hX]; exact ⟨by simp [go_sem], by simp [go_sem], by simp [go_sem], by simp [go_sem]⟩
 go_enter Tryz.func154, Tryz.ntmps154
 go_wp2_with fail
 clear hw0 hX q0 q1 p0 p1 hb0
 refine (compareSyms_any x.1 x.2 y.1 y.2 _).mono ?_
 rintro e w1 ⟨rfl, hb, _⟩
 obtain ⟨c, hc⟩ : ∃ c, orI (cmpI x.1 y.1) (cmpI x.2 y.2) = c := ⟨_, rfl⟩
 have HC : Hid ((c == 0) = d) := mkHid (by
  rw [← hc, cmp_or, ← HD.out]
  by_cases h : x = y
  ·rw [decide_eq_true h]; exact beq_iff_eq.2 ((cmpY_zero x y).2 h)
  ·rw [decide_eq_false h]; exact beq_eq_false_iff_ne.2 fun e => h ((cmpY_zero x y).1 e))
 have HB1 := mkHid (below_step HB.out hb)
 rw [hc]
 clear hb hc
 go_wp2
 go_ret
 exact ⟨ret_bool HC.out, HB1.out⟩
theorem run_clear_two (w : World) (ty : TypeId) (b o n c : Nat) (hn : 0 < n) (hc : ∀ j, j < n * 2 → (w.cell? ⟨b, o + j, none⟩).isSome = true) (hf : ∀ j, j < n * 2 → w.frozen? ⟨b, o + j, none⟩ = false) :
  (Builtin.clear_ #[113] ty #[.slice (some ⟨b, o, none⟩) n c]).run Tryz.prog w = .ok (.tuple #[]) (w.setCells b o (List.replicate (n * 2) (.int .i64 0))) := by
 have hzc : (Builtin.zeroCells (Value.agg #[.int .i64 0, .int .i64 0]).cells n).toList = List.replicate (n * 2) (.int .i64 0) := by
  apply List.ext_getElem
  ·simp [size_zeroCells]; rfl
  ·intro i h1 h2
   have h3 : i % 2 = 0 ∨ i % 2 = 1 := by omega
   simp [Builtin.zeroCells, Value.cells]
   rcases h3 with h | h <;> simp [h]
 have hst := run_storeCells_cells (P := Tryz.prog) b o (List.replicate (n * 2) (.int .i64 0)) 0 w (by simpa using hc) (by simpa using hf) (by intro v hv'; rw [List.eq_of_mem_replicate hv']; rfl)
 simp only [Nat.add_zero] at hst
 obtain ⟨m, rfl⟩ : ∃ m, n = m + 1 := ⟨n - 1, by omega⟩
 simp [Builtin.clear_, run_underlying Tryz.underlying113, Tryz.zeroValue49, hzc, hst]
theorem own_cleared {base g n cap : Nat} : ∀ (vs : List Value) (o : Nat) {w : World} {xs : List Value}, w.ownsRow base 49 2 (.slice (some ⟨g, 0, none⟩) n cap) n xs → ∃ xs', (w.setCells g o vs).ownsRow base 49 2 (.slice (some ⟨g, 0, none⟩) n cap) n xs' ∧ xs'.take o = xs.take o ∧ w.grownBy (w.setCells g o vs) (some g)
 | [], o, w, xs, h => ⟨xs, h, rfl, World.grownBy.refl _ _⟩
 | v :: vs, o, w, xs, h => by
  obtain ⟨h1, h2⟩ := World.ownsRow.stored h o v
  obtain ⟨xs', h3, h4, h5⟩ := own_cleared vs (o + 1) h1
  refine ⟨xs', h3, ?_, grown_trans h2 h5⟩
  have e := congrArg (List.take o) h4
  rw [List.take_take, List.take_take, Nat.min_eq_left (by omega), List.take_set_of_le (Nat.le_refl _)] at e
  exact e
theorem own_cut {w : World} {base g n p cap : Nat} {xs : List Value} (h : w.ownsRow base 49 2 (.slice (some ⟨g, 0, none⟩) n cap) n xs) (hp : p ≤ n) : w.ownsRow base 49 2 (.slice (some ⟨g, 0, none⟩) p cap) p (xs.take (p * 2)) := by
 refine ⟨by have := h.1; rw [List.length_take]; omega, ?_⟩
 rcases h.2 with ⟨e, _⟩ | ⟨g2, cap2, cur, e, h1, h2, h3, h4, h5, h6⟩
 ·simp at e
 ·simp at e
  obtain ⟨rfl, rfl⟩ := e
  refine .inr ⟨g, cap, cur, rfl, h1, h2, by omega, h4, h5, ?_⟩
  rw [← h6, List.take_take, Nat.min_eq_left (by omega)]
/-- What is in the row while it is made shorter: p terms are kept of the first j. -/
structure Kept (l ms : List Y) (p j : Nat) : Prop where
 len : ms.length = l.length
 p1 : 1 ≤ p
 pj : p < j
 jl : j ≤ l.length
 set : IsSet (ms.take p) (l.take j)
 rest : ∀ i, j - 1 ≤ i → ms[i]? = l[i]?
theorem sorted_le {l : List Y} (h : l.Pairwise fun a b => ¬ LtY b a) {i j : Nat} {x y : Y} (hx : l[i]? = some x) (hy : l[j]? = some y) (hij : i < j) : x = y ∨ LtY x y := by
 obtain ⟨hi, rfl⟩ := List.getElem?_eq_some_iff.1 hx
 obtain ⟨hj, rfl⟩ := List.getElem?_eq_some_iff.1 hy
 rw [List.pairwise_iff_getElem] at h
 have := h i j hi hj hij
 rcases LtY.tri l[i] l[j] with e | e | e
 ·exact .inl e
 ·exact .inr e
 ·exact absurd e this
theorem Kept.start {l : List Y} {k : Nat} {x : Y} (h1 : 1 ≤ k) (hx : l[k]? = some x) (hy : l[k - 1]? = some x) (ha : (l.take k).Pairwise LtY) : Kept l l k (k + 1) := by
 have hk := (List.getElem?_eq_some_iff.1 hx).1
 refine ⟨rfl, h1, by omega, by omega, ?_, fun _ _ => rfl⟩
 rw [List.take_add_one, hx]
 refine IsSet.again (IsSet.self ha) (List.mem_iff_getElem?.2 ⟨k - 1, ?_⟩)
 rw [List.getElem?_take, if_pos (by omega), hy]
theorem Kept.skip {l ms : List Y} {p j : Nat} {x : Y} (h : Kept l ms p j) (hx : l[j]? = some x) (hy : l[j - 1]? = some x) : Kept l ms p (j + 1) := by
 have hk := (List.getElem?_eq_some_iff.1 hx).1
 have hpj := h.pj
 have hp1 := h.p1
 refine ⟨h.len, h.p1, by omega, by omega, ?_, fun i hi => h.rest i (by omega)⟩
 rw [List.take_add_one, hx]
 refine h.set.again (List.mem_iff_getElem?.2 ⟨j - 1, ?_⟩)
 rw [List.getElem?_take, if_pos (by omega), hy]
theorem Kept.keep {l ms : List Y} {p j : Nat} {x y : Y} (h : Kept l ms p j) (hs : l.Pairwise fun a b => ¬ LtY b a) (hx : l[j]? = some x) (hy : l[j - 1]? = some y) (hn : x ≠ y) : Kept l (ms.set p x) (p + 1) (j + 1) := by
 have hk := (List.getElem?_eq_some_iff.1 hx).1
 have hpj := h.pj
 have hp1 := h.p1
 have hl := h.len
 refine ⟨by rw [List.length_set]; exact h.len, by omega, by omega, by omega, ?_, fun i hi => ?_⟩
 ·have e1 : (ms.set p x).take (p + 1) = ms.take p ++ [x] := by
   rw [List.take_succ_eq_append_getElem (by simp; omega)]
   simp [List.take_set_of_le]
  rw [e1, List.take_add_one, hx]
  refine h.set.more fun q hq => ?_
  obtain ⟨i, hi⟩ := List.mem_iff_getElem?.1 hq
  rw [List.getElem?_take] at hi
  split at hi
  ·rename_i hij
   rcases (by omega : i < j - 1 ∨ i = j - 1) with h' | h'
   ·have hyx : LtY y x := (sorted_le hs hy hx (by omega)).resolve_left fun e => hn e.symm
    rcases sorted_le hs hi hy h' with e | e
    ·rw [e]; exact hyx
    ·exact e.trans hyx
   ·subst h'
    rw [hy] at hi
    cases hi
    exact (sorted_le hs hy hx (by omega)).resolve_left fun e => hn e.symm
  ·cases hi
 ·rw [List.getElem?_set_ne (by omega)]
  exact h.rest i (by omega)
theorem asc_take_succ {l : List Y} {k : Nat} {x y : Y} (h1 : 1 ≤ k) (hs : l.Pairwise fun a b => ¬ LtY b a) (ha : (l.take k).Pairwise LtY) (hx : l[k]? = some x) (hy : l[k - 1]? = some y) (hn : x ≠ y) : (l.take (k + 1)).Pairwise LtY := by
 rw [List.take_add_one, hx]
 refine ((IsSet.self ha).more fun q hq => ?_).asc
 obtain ⟨i, hi⟩ := List.mem_iff_getElem?.1 hq
 rw [List.getElem?_take] at hi
 split at hi
 ·rename_i hij
  have hyx : LtY y x := (sorted_le hs hy hx (by omega)).resolve_left fun e => hn e.symm
  rcases (by omega : i < k - 1 ∨ i = k - 1) with h' | h'
  ·rcases sorted_le hs hi hy h' with e | e
   ·rw [e]; exact hyx
   ·exact e.trans hyx
  ·subst h'
   rw [hy] at hi
   cases hi
   exact hyx
 ·cases hi
theorem flat_set {l : List Y} {p : Nat} (hp : p < l.length) (x : Y) : ((eY.flat l).set (p * 2) (.int .i64 x.1)).set (p * 2 + 1) (.int .i64 x.2) = eY.flat (l.set p x) := by
 obtain ⟨e, hl⟩ := split_at (List.getElem?_eq_getElem hp)
 have e2 : l.set p x = l.take p ++ x :: l.drop (p + 1) := by
  conv => lhs; rw [e]
  rw [List.set_append_right _ _ (by omega), hl, Nat.sub_self]; rfl
 rw [e2]
 conv => lhs; rw [e]
 rw [El.flat_app, El.flat_app, El.flat_cons, El.flat_cons]
 have h2 : (eY.flat (l.take p)).length = p * 2 := by rw [El.flat_len, hl]; rfl
 rw [List.set_append_right _ _ (by omega), List.set_append_right _ _ (by omega), h2]
 simp [eY]
end Go.Proofs.YtihpajiololfoaaGreat
