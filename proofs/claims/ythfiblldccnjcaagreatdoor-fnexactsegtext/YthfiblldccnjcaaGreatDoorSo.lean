/-
  CONTRACT of slices.SortFunc at terms, by compareSyms: the row of our own holds the same terms, none behind a greater one.
-/
import Derived.Test.YthfiblldccnjcaaGreatDoorShelf
import Derived.Test.YthfiblldccnjcaaGreatDoorMm
namespace Go.Proofs.YthfiblldccnjcaaGreatDoor
open Go.RowKit

theorem cmp_or (a b c d : Int) : orI (cmpI a c) (cmpI b d) = cmpY (a, b) (c, d) := by
  unfold orI cmpY
  by_cases h : cmpI a c = 0
  · simp [h]
  · simp [h]
theorem grow_of {W w' : World} (h : Below W.heap.size W w') (hd : W.drawn ≤ w'.drawn) : ∃ q os, w' = Go.Sort.grow (W.drewN q) os := by
  refine ⟨w'.drawn - W.drawn, w'.heap.extract W.heap.size w'.heap.size, ?_⟩
  have hh : w'.heap = W.heap ++ w'.heap.extract W.heap.size w'.heap.size := by
    have hs := h.size
    apply Array.ext_getElem?
    intro k
    by_cases hk : k < W.heap.size
    · rw [h.block k hk, Array.getElem?_append_left hk]
    · rw [Array.getElem?_append_right (by omega), Array.getElem?_extract]
      by_cases hk2 : k < w'.heap.size
      · rw [if_pos (by omega)]
        congr 1; omega
      · rw [if_neg (by omega), Array.getElem?_eq_none (by omega)]
  have h1 := h.os
  have h2 := h.tape
  have h3 := h.output
  have h4 : w'.drawn = W.drawn + (w'.drawn - W.drawn) := by omega
  cases w'
  cases W
  simp only [Go.Sort.grow, World.drewN] at *
  subst h1 h2 h3
  rw [← hh, ← h4]
theorem cmpLays (blk off size : Nat) (w : World) : CmpLays Tryz.prog 72 #[] eY.enc 2 cmpY blk off size w := fun m os dk _ x y => by
  refine (compareSyms_any x.1 x.2 y.1 y.2 _).mono ?_
  rintro e w' ⟨rfl, hb, hd⟩
  exact ⟨by rw [cmp_or], grow_of hb hd⟩
theorem swoY : Go.Sort.SWO (ltOf cmpY) where
  irrefl x := by unfold ltOf; exact decide_eq_false (fun h => LtY.irrefl x ((cmpY_lt x x).1 h))
  trans x y z h1 h2 := by
    unfold ltOf at *
    exact decide_eq_true ((cmpY_lt x z).2 (((cmpY_lt x y).1 (of_decide_eq_true h1)).trans ((cmpY_lt y z).1 (of_decide_eq_true h2))))
  ntrans x y z h1 h2 := by
    unfold ltOf at *
    refine decide_eq_false fun h => ?_
    have h3 := (cmpY_lt x z).1 h
    have n1 : ¬ LtY x y := fun g => of_decide_eq_false h1 ((cmpY_lt x y).2 g)
    have n2 : ¬ LtY y z := fun g => of_decide_eq_false h2 ((cmpY_lt y z).2 g)
    unfold LtY at *
    omega
theorem flatK_get {l : List Y} {j : Nat} (hj : j < l.length * 2) : (eY.flat l)[j]? = some ((Go.Sort.flatK eY.enc 2 l.toArray)[j]!) := by
  rw [Go.Sort.get_flatK _ _ _ _ (by simpa using hj)]
  obtain ⟨x, hx⟩ : ∃ x, l[j / 2]? = some x := ⟨_, List.getElem?_eq_getElem (by omega)⟩
  have h := eY.flat_get hx (j := j % 2) (by show j % 2 < 2; omega)
  have e : j / 2 * eY.k + j % 2 = j := by show j / 2 * 2 + j % 2 = j; omega
  rw [e] at h
  have e2 : l.toArray[j / 2]! = x := by simp [hx]
  rw [h, e2]
  have : j % 2 = 0 ∨ j % 2 = 1 := by omega
  rcases this with h | h <;> rw [h] <;> rfl
theorem flatK_list (d : Array Y) : (Go.Sort.flatK eY.enc 2 d).toList = eY.flat d.toList := by
  apply List.ext_getElem?
  intro j
  by_cases hj : j < d.size * 2
  · rw [flatK_get (l := d.toList) (by simpa using hj)]
    rw [Array.getElem?_toList, Array.getElem?_eq_getElem (by simpa using hj)]
    congr 1
    rw [getElem!_pos]
  · rw [List.getElem?_eq_none (by simpa using hj), List.getElem?_eq_none (by rw [El.flat_len]; simpa [eY] using hj)]
theorem put_take (F cur : Array Value) (h : F.size ≤ cur.size) : (Go.Sort.putCells (id : Value → Value) 0 F cur).toList.take F.size = F.toList := by
  apply List.ext_getElem?
  intro j
  by_cases hj : j < F.size
  · rw [List.getElem?_take, if_pos hj, Array.getElem?_toList, Array.getElem?_toList]
    simp only [Go.Sort.putCells, Array.getElem?_mapIdx]
    rw [Array.getElem?_eq_getElem (by omega), Array.getElem?_eq_getElem hj]
    simp [hj]
  · rw [List.getElem?_take, if_neg hj, List.getElem?_eq_none (by simpa using hj)]
theorem put_size (F cur : Array Value) : (Go.Sort.putCells (id : Value → Value) 0 F cur).size = cur.size := by simp [Go.Sort.putCells]
/-- slices.SortFunc on a row of our own. -/
theorem sort_own (l : List Y) (g cap base : Nat) (w : World) (hn : l.length ≤ 1048576) (ho : Own eY 61 w base (.slice (some ⟨g, 0, none⟩) l.length cap) l) :
    Calls Tryz.prog 93 #[.slice (some ⟨g, 0, none⟩) l.length cap, .func (.func 72) #[] #[]] w fun e w' => e = .returned (.tuple #[]) ∧ ∃ l' : List Y, l'.Perm l ∧ l'.Pairwise (fun a b => ¬ LtY b a) ∧ Own eY 61 w' base (.slice (some ⟨g, 0, none⟩) l.length cap) l' ∧ w.grownBy w' (some g) := by
  have hlt := (ho.lt (q := g) rfl).2
  have hH : Go.Sort.HoldsK eY.enc 2 w g 0 l.toArray := by
    intro j hj
    have hj2 : j < l.length * 2 := by simpa using hj
    refine ⟨?_, by rw [Nat.zero_add]; exact World.ownsRow.frozenAt ho j⟩
    rw [Nat.zero_add, World.ownsRow.cellAt ho j hj2, flatK_get hj2]
    rfl
  have h := AnyQ.slices_SortFunc Tryz.sortY 2 (fun w => by kernel_rfl) (fun w => by kernel_rfl) eY.enc (fun _ => rfl) (fun x v hv => by simp [eY] at hv; rcases hv with rfl | rfl <;> rfl) cmpY swoY 72 #[] g 0 cap l.toArray w (enters_of Tryz.func72 (by kernel_rfl) rfl) (cmpLays g 0 _ w) hH hlt (by simp; omega)
  have h' : Calls Tryz.prog 93 #[.slice (some ⟨g, 0, none⟩) l.length cap, .func (.func 72) #[] #[]] w fun e w' => e = .returned (.tuple #[]) ∧ ∃ d' n os, Go.Sort.PermIn 0 l.toArray.size l.toArray d' ∧ Go.Sort.SortedIn (ltOf cmpY) 0 l.toArray.size d' ∧ w' = Go.Proofs.sortWorldK eY.enc 2 w g 0 n d' os := h
  refine h'.mono ?_
  rintro e w' ⟨rfl, d', n, os, hp, hs, rfl⟩
  obtain ⟨hsz, _, hperm⟩ := hp
  have hsz' : d'.size = l.length := by simpa using hsz
  refine ⟨rfl, d'.toList, ?_, ?_, ?_, ?_⟩
  · have e1 : (d'.extract 0 l.toArray.size).toList = d'.toList := by simp [← hsz']
    have e2 : (l.toArray.extract 0 l.toArray.size).toList = l := by simp
    rw [e1, e2] at hperm
    exact hperm
  · rw [List.pairwise_iff_getElem]
    intro i j hi hj hij
    have h1 := hs i j (Nat.zero_le _) hij (by simp at hj ⊢; omega)
    have hi' : i < d'.size := by simpa using hi
    have hj' : j < d'.size := by simpa using hj
    rw [getElem!_pos d' i hi', getElem!_pos d' j hj'] at h1
    intro g
    exact of_decide_eq_false h1 ((cmpY_lt _ _).2 g)
  · rcases ho.2 with ⟨e, _⟩ | ⟨g2, cap', cur, e, hb, hg, hc1, hc2, hc3, hc4⟩
    · simp at e
    · simp at e
      obtain ⟨rfl, rfl⟩ := e
      have hcs : (Go.Sort.flatK eY.enc 2 d').size ≤ cur.size := by
        rw [Go.Sort.size_flatK, hc3, hsz']
        show l.length * 2 ≤ cap * 2
        omega
      unfold Own
      refine ⟨El.flat_len _ _, .inr ⟨g, cap, Go.Sort.putCells id 0 (Go.Sort.flatK eY.enc 2 d') cur, by simp [hsz'], hb, ?_, by simpa [hsz'] using hc1, hc2, by rw [put_size]; exact hc3, ?_⟩⟩
      · show (((w.heap.modify g (Go.Sort.onCells (Go.Sort.putCells id 0 (Go.Sort.flatK eY.enc 2 d')))) ++ os)[g]? = _)
        rw [Array.getElem?_append_left (by simpa using hlt), Array.getElem?_modify, if_pos rfl, hg]
        rfl
      · have := put_take (Go.Sort.flatK eY.enc 2 d') cur hcs
        rw [flatK_list] at this
        rw [← this, Go.Sort.size_flatK]
        rfl
  · refine ⟨rfl, rfl, rfl, ?_, fun k hk hne => ?_⟩
    · show w.heap.size ≤ ((w.heap.modify g _) ++ os).size
      simp
    · show ((w.heap.modify g _) ++ os)[k]? = _
      rw [Array.getElem?_append_left (by simpa using hk), Array.getElem?_modify, if_neg (fun e => hne (by rw [e]))]
end Go.Proofs.YthfiblldccnjcaaGreatDoor
