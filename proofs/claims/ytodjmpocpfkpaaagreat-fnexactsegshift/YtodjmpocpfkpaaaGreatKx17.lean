/-
  CONTRACTS of the program's assignment.isOk and of the specification's l12Good.
  LAYING at this program of the library's contract of slices.SortFunc.
  CONTRACT of slices.SortFunc at terms, by compareSyms: the row of our own holds the same terms, none behind a greater one.
  CONTRACT of slices.CompactFunc at a sorted row of terms of our own: the set of them.
-/
import Derived.Test.YtodjmpocpfkpaaaGreatKx09
import Derived.Test.YtodjmpocpfkpaaaGreatKx16
import Derived.Test.YtodjmpocpfkpaaaGreatKx08
import Derived.Shelf.SlSortCmp.WholeK
import Derived.Test.YtodjmpocpfkpaaaGreatKx00
import Derived.Test.YtodjmpocpfkpaaaGreatKx03
import Derived.Lib.SliceRun
namespace Go.Proofs.YtodjmpocpfkpaaaGreat
open Go.RowKit

theorem btw_iff {a lo hi : Int} : btw a lo hi = true ↔ lo ≤ a ∧ a ≤ hi := by unfold btw; exact decide_eq_true_iff
theorem btw_no {a lo hi : Int} (h : btw a lo hi = false) : ¬ (lo ≤ a ∧ a ≤ hi) := fun e => by rw [btw_iff.2 e] at h; cases h
set_option maxRecDepth 100000 in
set_option maxHeartbeats 3200000 in
theorem isOk_any (n l v u c : Int) (w : World) (hn : 2 ≤ n ∧ n ≤ 13) :
    Calls Tryz.prog 45 #[.agg #[.int .i64 n, .int .i64 v, .int .i64 u, .int .i64 c], .int .i64 l] w fun e w' => Tells w w' e (MvP n l v u c) := by
  have hw1 : IntKind.i64.wrap (n - 1) = n - 1 := IntWalk.i64_in _ (by omega)
  have hw2 : wrap64 (n - 1) = n - 1 := by unfold wrap64; omega
  have HB : Hid (Below w.heap.size w (w.alloc (.cells #[.int .i64 n, .int .i64 v, .int .i64 u, .int .i64 c] 51))) := mkHid (bl_alloc (Below.refl _ _) _)
  cases h1 : btw v 1 (n - 1)
  · have HNO : Hid (¬ MvP n l v u c) := mkHid (fun h => btw_no h1 h.pv)
    clear hn
    go_enter Tryz.func45, Tryz.ntmps45
    go_wp2_with (first | (go_at_call 70; refine (isBetween_any _ _ _ _).mono ?_; rintro e w1 ⟨rfl, rfl⟩) | (go_at_call 71; refine (isGap_any _ _).mono ?_; rintro e w1 ⟨rfl, rfl⟩))
    go_ret
    exact Tells.no HB.out HNO.out
  cases h2 : v != l
  · have HNO : Hid (¬ MvP n l v u c) := mkHid (fun h => h.pl (by simpa using h2))
    clear hn
    go_enter Tryz.func45, Tryz.ntmps45
    go_wp2_with (first | (go_at_call 70; refine (isBetween_any _ _ _ _).mono ?_; rintro e w1 ⟨rfl, rfl⟩) | (go_at_call 71; refine (isGap_any _ _).mono ?_; rintro e w1 ⟨rfl, rfl⟩))
    go_ret
    exact Tells.no HB.out HNO.out
  cases h3 : btw u 0 (n - 1)
  · have HNO : Hid (¬ MvP n l v u c) := mkHid (fun h => btw_no h3 h.pu)
    clear hn
    go_enter Tryz.func45, Tryz.ntmps45
    go_wp2_with (first | (go_at_call 70; refine (isBetween_any _ _ _ _).mono ?_; rintro e w1 ⟨rfl, rfl⟩) | (go_at_call 71; refine (isGap_any _ _).mono ?_; rintro e w1 ⟨rfl, rfl⟩))
    go_ret
    exact Tells.no HB.out HNO.out
  cases h4 : u != v
  · have HNO : Hid (¬ MvP n l v u c) := mkHid (fun h => h.pn (by simpa using h4))
    clear hn
    go_enter Tryz.func45, Tryz.ntmps45
    go_wp2_with (first | (go_at_call 70; refine (isBetween_any _ _ _ _).mono ?_; rintro e w1 ⟨rfl, rfl⟩) | (go_at_call 71; refine (isGap_any _ _).mono ?_; rintro e w1 ⟨rfl, rfl⟩))
    go_ret
    exact Tells.no HB.out HNO.out
  cases h5 : btw c (-2000000) 2000000
  · have HNO : Hid (¬ MvP n l v u c) := mkHid (fun h => btw_no h5 h.pc)
    clear hn
    go_enter Tryz.func45, Tryz.ntmps45
    go_wp2_with (first | (go_at_call 70; refine (isBetween_any _ _ _ _).mono ?_; rintro e w1 ⟨rfl, rfl⟩) | (go_at_call 71; refine (isGap_any _ _).mono ?_; rintro e w1 ⟨rfl, rfl⟩))
    go_ret
    exact Tells.no HB.out HNO.out
  have HY : Hid (MvP n l v u c) := mkHid ⟨btw_iff.1 h1, by simpa using h2, btw_iff.1 h3, by simpa using h4, btw_iff.1 h5⟩
  clear hn
  go_enter Tryz.func45, Tryz.ntmps45
  go_wp2_with (first | (go_at_call 70; refine (isBetween_any _ _ _ _).mono ?_; rintro e w1 ⟨rfl, rfl⟩) | (go_at_call 71; refine (isGap_any _ _).mono ?_; rintro e w1 ⟨rfl, rfl⟩))
  go_ret
  exact Tells.yes HB.out HY.out
def GoodP (n l : Int) (S : SG) (v c : Int) : Prop := OkS n l S.B S.V S.M ∧ (1 ≤ v ∧ v ≤ n - 1) ∧ v ≠ l ∧ (-2000000 ≤ c ∧ c ≤ 2000000)
theorem off_any (c : Int) (w : World) : Calls Tryz.prog 40 #[.int .i64 c] w fun e w' => e = .returned (.bool (btw c (-2000000) 2000000)) ∧ w = w' := by
  go_enter Tryz.func40, Tryz.ntmps40
  go_wp2_with (go_at_call 36; refine (between_any _ _ _ _).mono ?_; rintro e w' ⟨rfl, rfl⟩)
  go_ret
  exact ⟨rfl, rfl⟩
set_option maxRecDepth 100000 in
set_option maxHeartbeats 3200000 in
theorem good_any (n l : Int) (S : SG) (A : SAd) (v c : Int) (w : World) (hs : Small S) (hl : SegAt w A S) :
    Calls Tryz.prog 20 #[.int .i64 n, .int .i64 l, .agg #[.slice A.a0 S.B.length A.c0, .slice A.a1 S.V.length A.c1, .slice A.a2 S.M.length A.c2], .int .i64 v, .int .i64 c] w fun e w' => Tells w w' e (GoodP n l S v c) := by
  have HSM := mkHid hs
  obtain ⟨w0, hw0⟩ : ∃ x : World, w.alloc (.cells #[.slice A.a0 S.B.length A.c0, .slice A.a1 S.V.length A.c1, .slice A.a2 S.M.length A.c2] 31) = x := ⟨_, rfl⟩
  obtain ⟨X, hX⟩ : ∃ x, w.heap.size = x := ⟨_, rfl⟩
  have HB : Hid (Below w.heap.size w w0) := mkHid (by rw [← hw0]; exact bl_alloc (Below.refl _ _) _)
  have P0 : Hid (G3 w0 X (.slice A.a0 S.B.length A.c0) (.slice A.a1 S.V.length A.c1) (.slice A.a2 S.M.length A.c2)) := mkHid (by rw [← hw0, ← hX]; exact G3.new _ _ _ _ _)
  have HL := mkHid (hl.below HB.out)
  clear hl hs
  obtain ⟨q0, q1, q2, _, _, _⟩ := P0.out
  go_enter Tryz.func20, Tryz.ntmps20
  go_wp2_with fail
  clear hw0 hX q0 q1 q2 P0
  refine (sSegOk_any n l S A _ HSM.out HL.out).mono ?_
  rintro e w1 ⟨hb, r, rfl, hr⟩
  have HR := mkHid hr
  have HB1 := mkHid (below_step HB.out hb)
  clear hb hr HB HL
  cases hrb : r
  · have HNO : Hid (¬ GoodP n l S v c) := mkHid (fun h => by have := HR.out.2 h.1; rw [hrb] at this; cases this)
    subst hrb
    go_wp2
    go_ret
    exact Tells.no HB1.out HNO.out
  have HOK := mkHid (HR.out.1 hrb)
  subst hrb
  clear HR
  have hw1 : IntKind.i64.wrap (n - 1) = n - 1 := IntWalk.i64_in _ (by have := HOK.out.len.1; omega)
  have hw2 : wrap64 (n - 1) = n - 1 := by have := HOK.out.len.1; unfold wrap64; omega
  cases h1 : btw v 1 (n - 1)
  · have HNO : Hid (¬ GoodP n l S v c) := mkHid (fun h => btw_no h1 h.2.1)
    go_wp2_with (first | (go_at_call 36; refine (between_any _ _ _ _).mono ?_; rintro e w2 ⟨rfl, rfl⟩) | (go_at_call 40; refine (off_any _ _).mono ?_; rintro e w2 ⟨rfl, rfl⟩))
    go_ret
    exact Tells.no HB1.out HNO.out
  cases h2 : v != l
  · have HNO : Hid (¬ GoodP n l S v c) := mkHid (fun h => h.2.2.1 (by simpa using h2))
    go_wp2_with (first | (go_at_call 36; refine (between_any _ _ _ _).mono ?_; rintro e w2 ⟨rfl, rfl⟩) | (go_at_call 40; refine (off_any _ _).mono ?_; rintro e w2 ⟨rfl, rfl⟩))
    go_ret
    exact Tells.no HB1.out HNO.out
  cases h5 : btw c (-2000000) 2000000
  · have HNO : Hid (¬ GoodP n l S v c) := mkHid (fun h => btw_no h5 h.2.2.2)
    go_wp2_with (first | (go_at_call 36; refine (between_any _ _ _ _).mono ?_; rintro e w2 ⟨rfl, rfl⟩) | (go_at_call 40; refine (off_any _ _).mono ?_; rintro e w2 ⟨rfl, rfl⟩))
    go_ret
    exact Tells.no HB1.out HNO.out
  have HY : Hid (GoodP n l S v c) := mkHid ⟨HOK.out, btw_iff.1 h1, by simpa using h2, btw_iff.1 h5⟩
  go_wp2_with (first | (go_at_call 36; refine (between_any _ _ _ _).mono ?_; rintro e w2 ⟨rfl, rfl⟩) | (go_at_call 40; refine (off_any _ _).mono ?_; rintro e w2 ⟨rfl, rfl⟩))
  go_ret
  exact Tells.yes HB1.out HY.out
end Go.Proofs.YtodjmpocpfkpaaaGreat
namespace Go.Proofs.YtodjmpocpfkpaaaGreat
open Go.Shelf
def Tryz.sortY_ren : Go.Shelf.Ren := ⟨fun | 6 => 105 | 15 => 119 | 14 => 118 | 28 => 129 | 29 => 130 | 20 => 121 | 21 => 122 | 22 => 123 | 23 => 124 | 24 => 125 | 25 => 126 | 26 => 127 | 27 => 128 | 46 => 131 | 47 => 132 | 48 => 133 | 49 => 134 | 50 => 135 | 57 => 136 | n => n, fun | 22 => 63 | 24 => 65 | 25 => 101 | 3 => 3 | 39 => 138 | 0 => 0 | 53 => 149 | 55 => 151 | 4 => 4 | 46 => 143 | 45 => 142 | 50 => 132 | 5 => 5 | 9 => 9 | 66 => 152 | 70 => 156 | 76 => 158 | 77 => 159 | n => n, fun | n => n⟩
theorem Tryz.sortY : Go.Proofs.SlLaysF0.n6 Tryz.prog Tryz.sortY_ren := {
  mixed := by kernel_rfl
  f6 := ⟨Tryz.f105.name, by decide, Tryz.func105.trans (congrArg some (by kernel_rfl))⟩
  f14 := ⟨Tryz.f118.name, by decide, Tryz.func118.trans (congrArg some (by kernel_rfl))⟩
  f15 := Tryz.func119.trans (congrArg some (by kernel_rfl))
  f20 := ⟨Tryz.f121.name, by decide, Tryz.func121.trans (congrArg some (by kernel_rfl))⟩
  f21 := ⟨Tryz.f122.name, by decide, Tryz.func122.trans (congrArg some (by kernel_rfl))⟩
  f22 := ⟨Tryz.f123.name, by decide, Tryz.func123.trans (congrArg some (by kernel_rfl))⟩
  f23 := ⟨Tryz.f124.name, by decide, Tryz.func124.trans (congrArg some (by kernel_rfl))⟩
  f24 := ⟨Tryz.f125.name, by decide, Tryz.func125.trans (congrArg some (by kernel_rfl))⟩
  f25 := ⟨Tryz.f126.name, by decide, Tryz.func126.trans (congrArg some (by kernel_rfl))⟩
  f26 := ⟨Tryz.f127.name, by decide, Tryz.func127.trans (congrArg some (by kernel_rfl))⟩
  f27 := ⟨Tryz.f128.name, by decide, Tryz.func128.trans (congrArg some (by kernel_rfl))⟩
  f28 := Tryz.func129.trans (congrArg some (by kernel_rfl))
  f29 := Tryz.func130.trans (congrArg some (by kernel_rfl))
  f46 := ⟨Tryz.f131.name, by decide, Tryz.func131.trans (congrArg some (by kernel_rfl))⟩
  f47 := Tryz.func132.trans (congrArg some (by kernel_rfl))
  f48 := Tryz.func133.trans (congrArg some (by kernel_rfl))
  f49 := ⟨Tryz.f134.name, by decide, Tryz.func134.trans (congrArg some (by kernel_rfl))⟩
  f50 := ⟨Tryz.f135.name, by decide, Tryz.func135.trans (congrArg some (by kernel_rfl))⟩
  f57 := ⟨Tryz.f136.name, by decide, Tryz.func136.trans (congrArg some (by kernel_rfl))⟩
  t0 := Tryz.underlying0
  a0 := Tryz.isAgg0
  z0 := Tryz.sizeOf0
  v0 := Tryz.zeroValue0
  t3 := Tryz.underlying3
  a3 := Tryz.isAgg3
  z3 := Tryz.sizeOf3
  v3 := Tryz.zeroValue3
  t4 := Tryz.underlying4
  a4 := Tryz.isAgg4
  z4 := Tryz.sizeOf4
  v4 := Tryz.zeroValue4
  t5 := Tryz.underlying5
  a5 := Tryz.isAgg5
  z5 := Tryz.sizeOf5
  v5 := Tryz.zeroValue5
  t9 := Tryz.underlying9
  a9 := Tryz.isAgg9
  z9 := Tryz.sizeOf9
  v9 := Tryz.zeroValue9
  t22 := Tryz.underlying63
  a22 := Tryz.isAgg63
  z22 := Tryz.sizeOf63
  v22 := Tryz.zeroValue63
  t25 := Tryz.underlying101
  a25 := Tryz.isAgg101
  z25 := Tryz.sizeOf101
  v25 := Tryz.zeroValue101
  t39 := Tryz.underlying138
  a39 := Tryz.isAgg138
  z39 := Tryz.sizeOf138
  v39 := Tryz.zeroValue138
  t45 := Tryz.underlying142
  a45 := Tryz.isAgg142
  z45 := Tryz.sizeOf142
  v45 := Tryz.zeroValue142
  t46 := Tryz.underlying143
  a46 := Tryz.isAgg143
  z46 := Tryz.sizeOf143
  v46 := Tryz.zeroValue143
  t50 := Tryz.underlying132
  a50 := Tryz.isAgg132
  z50 := Tryz.sizeOf132
  v50 := Tryz.zeroValue132
  t53 := Tryz.underlying149
  a53 := Tryz.isAgg149
  z53 := Tryz.sizeOf149
  v53 := Tryz.zeroValue149
  t55 := Tryz.underlying151
  a55 := Tryz.isAgg151
  z55 := Tryz.sizeOf151
  v55 := Tryz.zeroValue151
  t66 := Tryz.underlying152
  a66 := Tryz.isAgg152
  z66 := Tryz.sizeOf152
  v66 := Tryz.zeroValue152
  t70 := Tryz.underlying156
  a70 := Tryz.isAgg156
  z70 := Tryz.sizeOf156
  v70 := Tryz.zeroValue156
  t76 := Tryz.underlying158
  a76 := Tryz.isAgg158
  z76 := Tryz.sizeOf158
  v76 := Tryz.zeroValue158
  t77 := Tryz.underlying159
  a77 := Tryz.isAgg159
  z77 := Tryz.sizeOf159
  v77 := Tryz.zeroValue159 }
end Go.Proofs.YtodjmpocpfkpaaaGreat
namespace Go.Proofs.YtodjmpocpfkpaaaGreat
open Go.RowKit

theorem cmp_or (a b c d : Int) : orI (cmpI a c) (cmpI b d) = cmpY (a, b) (c, d) := by
 unfold orI cmpY
 by_cases h : cmpI a c = 0
 ·simp [h]
 ·simp [h]
theorem grow_of {W w' : World} (h : Below W.heap.size W w') (hd : W.drawn ≤ w'.drawn) : ∃ q os, w' = Go.Sort.grow (W.drewN q) os := by
 refine ⟨w'.drawn - W.drawn, w'.heap.extract W.heap.size w'.heap.size, ?_⟩
 have hh : w'.heap = W.heap ++ w'.heap.extract W.heap.size w'.heap.size := by
  have hs := h.size
  apply Array.ext_getElem?
  intro k
  by_cases hk : k < W.heap.size
  ·rw [h.block k hk, Array.getElem?_append_left hk]
  ·rw [Array.getElem?_append_right (by omega), Array.getElem?_extract]
   by_cases hk2 : k < w'.heap.size
   ·rw [if_pos (by omega)]
    congr 1; omega
   ·rw [if_neg (by omega), Array.getElem?_eq_none (by omega)]
 have h1 := h.os
 have h2 := h.tape
 have h3 := h.output
 have h4 : w'.drawn = W.drawn + (w'.drawn - W.drawn) := by omega
 cases w'
 cases W
 simp only [Go.Sort.grow, World.drewN] at *
 subst h1 h2 h3
 rw [← hh, ← h4]
theorem cmpLays (blk off size : Nat) (w : World) : CmpLays Tryz.prog 91 #[] eY.enc 2 cmpY blk off size w := fun m os dk _ x y => by
 refine (compareSyms_any x.1 x.2 y.1 y.2 _).mono ?_
 rintro e w' ⟨rfl, hb, hd⟩
 exact ⟨by rw [cmp_or], grow_of hb hd⟩
theorem swoY : Go.Sort.SWO (ltOf cmpY) where
 irrefl x := by unfold ltOf; exact decide_eq_false (fun h => LtY.irrefl x ((cmpY_lt x x).1 h))
 trans x y z h1 h2 := by
  unfold ltOf at *
  exact decide_eq_true ((cmpY_lt x z).2 (((cmpY_lt x y).1 (of_decide_eq_true h1)).trans ((cmpY_lt y z).1 (of_decide_eq_true h2))))
 ntrans x y z h1 h2 := by
  unfold ltOf at *
  refine decide_eq_false fun h => ?_
  have h3 := (cmpY_lt x z).1 h
  have n1 : ¬ LtY x y := fun g => of_decide_eq_false h1 ((cmpY_lt x y).2 g)
  have n2 : ¬ LtY y z := fun g => of_decide_eq_false h2 ((cmpY_lt y z).2 g)
  unfold LtY at *
  omega
theorem flatK_get {l : List Y} {j : Nat} (hj : j < l.length * 2) : (eY.flat l)[j]? = some ((Go.Sort.flatK eY.enc 2 l.toArray)[j]!) := by
 rw [Go.Sort.get_flatK _ _ _ _ (by simpa using hj)]
 obtain ⟨x, hx⟩ : ∃ x, l[j / 2]? = some x := ⟨_, List.getElem?_eq_getElem (by omega)⟩
 have h := eY.flat_get hx (j := j % 2) (by show j % 2 < 2; omega)
 have e : j / 2 * eY.k + j % 2 = j := by show j / 2 * 2 + j % 2 = j; omega
 rw [e] at h
 have e2 : l.toArray[j / 2]! = x := by simp [hx]
 rw [h, e2]
 have : j % 2 = 0 ∨ j % 2 = 1 := by omega
 rcases this with h | h <;> rw [h] <;> rfl
theorem flatK_list (d : Array Y) : (Go.Sort.flatK eY.enc 2 d).toList = eY.flat d.toList := by
 apply List.ext_getElem?
 intro j
 by_cases hj : j < d.size * 2
 ·rw [flatK_get (l := d.toList) (by simpa using hj)]
  rw [Array.getElem?_toList, Array.getElem?_eq_getElem (by simpa using hj)]
  congr 1
  rw [getElem!_pos]
 ·rw [List.getElem?_eq_none (by simpa using hj), List.getElem?_eq_none (by rw [El.flat_len]; simpa [eY] using hj)]
theorem put_take (F cur : Array Value) (h : F.size ≤ cur.size) : (Go.Sort.putCells (id : Value → Value) 0 F cur).toList.take F.size = F.toList := by
 apply List.ext_getElem?
 intro j
 by_cases hj : j < F.size
 ·rw [List.getElem?_take, if_pos hj, Array.getElem?_toList, Array.getElem?_toList]
  simp only [Go.Sort.putCells, Array.getElem?_mapIdx]
  rw [Array.getElem?_eq_getElem (by omega), Array.getElem?_eq_getElem hj]
  simp [hj]
 ·rw [List.getElem?_take, if_neg hj, List.getElem?_eq_none (by simpa using hj)]
theorem put_size (F cur : Array Value) : (Go.Sort.putCells (id : Value → Value) 0 F cur).size = cur.size := by simp [Go.Sort.putCells]
/-- slices.SortFunc on a row of our own. -/
theorem sort_own (l : List Y) (g cap base : Nat) (w : World) (hn : l.length ≤ 1048576) (ho : Own eY 65 w base (.slice (some ⟨g, 0, none⟩) l.length cap) l) :
  Calls Tryz.prog 105 #[.slice (some ⟨g, 0, none⟩) l.length cap, .func (.func 91) #[] #[]] w fun e w' => e = .returned (.tuple #[]) ∧ ∃ l' : List Y, l'.Perm l ∧ l'.Pairwise (fun a b => ¬ LtY b a) ∧ Own eY 65 w' base (.slice (some ⟨g, 0, none⟩) l.length cap) l' ∧ w.grownBy w' (some g) := by
 have hlt := (ho.lt (q := g) rfl).2
 have hH : Go.Sort.HoldsK eY.enc 2 w g 0 l.toArray := by
  intro j hj
  have hj2 : j < l.length * 2 := by simpa using hj
  refine ⟨?_, by rw [Nat.zero_add]; exact World.ownsRow.frozenAt ho j⟩
  rw [Nat.zero_add, World.ownsRow.cellAt ho j hj2, flatK_get hj2]
  rfl
 have h := AnyQ.slices_SortFunc Tryz.sortY 2 (fun w => by kernel_rfl) (fun w => by kernel_rfl) eY.enc (fun _ => rfl) (fun x v hv => by simp [eY] at hv; rcases hv with rfl | rfl <;> rfl) cmpY swoY 91 #[] g 0 cap l.toArray w (enters_of Tryz.func91 (by kernel_rfl) rfl) (cmpLays g 0 _ w) hH hlt (by simp; omega)
 have h' : Calls Tryz.prog 105 #[.slice (some ⟨g, 0, none⟩) l.length cap, .func (.func 91) #[] #[]] w fun e w' => e = .returned (.tuple #[]) ∧ ∃ d' n os, Go.Sort.PermIn 0 l.toArray.size l.toArray d' ∧ Go.Sort.SortedIn (ltOf cmpY) 0 l.toArray.size d' ∧ w' = Go.Proofs.sortWorldK eY.enc 2 w g 0 n d' os := h
 refine h'.mono ?_
 rintro e w' ⟨rfl, d', n, os, hp, hs, rfl⟩
 obtain ⟨hsz, _, hperm⟩ := hp
 have hsz' : d'.size = l.length := by simpa using hsz
 refine ⟨rfl, d'.toList, ?_, ?_, ?_, ?_⟩
 ·have e1 : (d'.extract 0 l.toArray.size).toList = d'.toList := by simp [← hsz']
  have e2 : (l.toArray.extract 0 l.toArray.size).toList = l := by simp
  rw [e1, e2] at hperm
  exact hperm
 ·rw [List.pairwise_iff_getElem]
  intro i j hi hj hij
  have h1 := hs i j (Nat.zero_le _) hij (by simp at hj ⊢; omega)
  have hi' : i < d'.size := by simpa using hi
  have hj' : j < d'.size := by simpa using hj
  rw [getElem!_pos d' i hi', getElem!_pos d' j hj'] at h1
  intro g
  exact of_decide_eq_false h1 ((cmpY_lt _ _).2 g)
 ·rcases ho.2 with ⟨e, _⟩ | ⟨g2, cap', cur, e, hb, hg, hc1, hc2, hc3, hc4⟩
  ·simp at e
  ·simp at e
   obtain ⟨rfl, rfl⟩ := e
   have hcs : (Go.Sort.flatK eY.enc 2 d').size ≤ cur.size := by
    rw [Go.Sort.size_flatK, hc3, hsz']
    show l.length * 2 ≤ cap * 2
    omega
   unfold Own
   refine ⟨El.flat_len _ _, .inr ⟨g, cap, Go.Sort.putCells id 0 (Go.Sort.flatK eY.enc 2 d') cur, by simp [hsz'], hb, ?_, by simpa [hsz'] using hc1, hc2, by rw [put_size]; exact hc3, ?_⟩⟩
   ·show (((w.heap.modify g (Go.Sort.onCells (Go.Sort.putCells id 0 (Go.Sort.flatK eY.enc 2 d')))) ++ os)[g]? = _)
    rw [Array.getElem?_append_left (by simpa using hlt), Array.getElem?_modify, if_pos rfl, hg]
    rfl
   ·have := put_take (Go.Sort.flatK eY.enc 2 d') cur hcs
    rw [flatK_list] at this
    rw [← this, Go.Sort.size_flatK]
    rfl
 ·refine ⟨rfl, rfl, rfl, ?_, fun k hk hne => ?_⟩
  ·show w.heap.size ≤ ((w.heap.modify g _) ++ os).size
   simp
  ·show ((w.heap.modify g _) ++ os)[k]? = _
   rw [Array.getElem?_append_left (by simpa using hk), Array.getElem?_modify, if_neg (fun e => hne (by rw [e]))]
end Go.Proofs.YtodjmpocpfkpaaaGreat
namespace Go.Proofs.YtodjmpocpfkpaaaGreat
open Go.RowKit

set_option maxRecDepth 100000 in
set_option maxHeartbeats 800000 in
theorem alike_any (x y : Y) (bx : Nat) (w : World) (hbx : w.cell? ⟨bx, 0, none⟩ = some (.func (.func 91) #[] #[])) :
  Calls Tryz.prog 106 #[.agg #[.int .i64 x.1, .int .i64 x.2], .agg #[.int .i64 y.1, .int .i64 y.2], .pointer (some ⟨bx, 0, none⟩)] w fun e w' => e = .returned (.bool (decide (x = y))) ∧ Below w.heap.size w w' := by
 obtain ⟨d, hd⟩ : ∃ d, decide (x = y) = d := ⟨_, rfl⟩
 have HD := mkHid hd
 rw [hd]
 clear hd
 obtain ⟨w0, hw0⟩ : ∃ z : World, (w.alloc (.cells #[.int .i64 x.1, .int .i64 x.2] 65)).alloc (.cells #[.int .i64 y.1, .int .i64 y.2] 65) = z := ⟨_, rfl⟩
 obtain ⟨X, hX⟩ : ∃ z, w.heap.size = z := ⟨_, rfl⟩
 have HB : Hid (Below w.heap.size w w0) := mkHid (by rw [← hw0]; exact bl_alloc (bl_alloc (Below.refl _ _) _) _)
 have hb0 : w0.cell? ⟨bx, 0, none⟩ = some (.func (.func 91) #[] #[]) := (HB.out.cell (p := ⟨bx, 0, none⟩) (World.block_lt_of_cell? w _ hbx)).trans hbx
 obtain ⟨q0, q1, _, _⟩ : Box w0 X x.1 x.2 := by rw [← hw0, ← hX]; exact ⟨by simp [go_sem], by simp [go_sem], by simp [go_sem], by simp [go_sem]⟩
 obtain ⟨p0, p1, _, _⟩ : Box w0 (X + 1) y.1 y.2 := by rw [← hw0, ← hX]; exact ⟨by simp [go_sem], by simp [go_sem], by simp [go_sem], by simp [go_sem]⟩
 go_enter Tryz.func106, Tryz.ntmps106
 go_wp2_with fail
 clear hw0 hX q0 q1 p0 p1 hb0
 refine (compareSyms_any x.1 x.2 y.1 y.2 _).mono ?_
 rintro e w1 ⟨rfl, hb, _⟩
 obtain ⟨c, hc⟩ : ∃ c, orI (cmpI x.1 y.1) (cmpI x.2 y.2) = c := ⟨_, rfl⟩
 have HC : Hid ((c == 0) = d) := mkHid (by
  rw [← hc, cmp_or, ← HD.out]
  by_cases h : x = y
  ·rw [decide_eq_true h]; exact beq_iff_eq.2 ((cmpY_zero x y).2 h)
  ·rw [decide_eq_false h]; exact beq_eq_false_iff_ne.2 fun e => h ((cmpY_zero x y).1 e))
 have HB1 := mkHid (below_step HB.out hb)
 rw [hc]
 clear hb hc
 go_wp2
 go_ret
 exact ⟨ret_bool HC.out, HB1.out⟩
theorem run_clear_two (w : World) (ty : TypeId) (b o n c : Nat) (hn : 0 < n) (hc : ∀ j, j < n * 2 → (w.cell? ⟨b, o + j, none⟩).isSome = true) (hf : ∀ j, j < n * 2 → w.frozen? ⟨b, o + j, none⟩ = false) :
  (Builtin.clear_ #[63] ty #[.slice (some ⟨b, o, none⟩) n c]).run Tryz.prog w = .ok (.tuple #[]) (w.setCells b o (List.replicate (n * 2) (.int .i64 0))) := by
 have hzc : (Builtin.zeroCells (Value.agg #[.int .i64 0, .int .i64 0]).cells n).toList = List.replicate (n * 2) (.int .i64 0) := by
  apply List.ext_getElem
  ·simp [size_zeroCells]; rfl
  ·intro i h1 h2
   have h3 : i % 2 = 0 ∨ i % 2 = 1 := by omega
   simp [Builtin.zeroCells, Value.cells]
   rcases h3 with h | h <;> simp [h]
 have hst := run_storeCells_cells (P := Tryz.prog) b o (List.replicate (n * 2) (.int .i64 0)) 0 w (by simpa using hc) (by simpa using hf) (by intro v hv'; rw [List.eq_of_mem_replicate hv']; rfl)
 simp only [Nat.add_zero] at hst
 obtain ⟨m, rfl⟩ : ∃ m, n = m + 1 := ⟨n - 1, by omega⟩
 simp [Builtin.clear_, run_underlying Tryz.underlying63, Tryz.zeroValue65, hzc, hst]
theorem own_cleared {base g n cap : Nat} : ∀ (vs : List Value) (o : Nat) {w : World} {xs : List Value}, w.ownsRow base 65 2 (.slice (some ⟨g, 0, none⟩) n cap) n xs → ∃ xs', (w.setCells g o vs).ownsRow base 65 2 (.slice (some ⟨g, 0, none⟩) n cap) n xs' ∧ xs'.take o = xs.take o ∧ w.grownBy (w.setCells g o vs) (some g)
 | [], o, w, xs, h => ⟨xs, h, rfl, World.grownBy.refl _ _⟩
 | v :: vs, o, w, xs, h => by
  obtain ⟨h1, h2⟩ := World.ownsRow.stored h o v
  obtain ⟨xs', h3, h4, h5⟩ := own_cleared vs (o + 1) h1
  refine ⟨xs', h3, ?_, grown_trans h2 h5⟩
  have e := congrArg (List.take o) h4
  rw [List.take_take, List.take_take, Nat.min_eq_left (by omega), List.take_set_of_le (Nat.le_refl _)] at e
  exact e
theorem own_cut {w : World} {base g n p cap : Nat} {xs : List Value} (h : w.ownsRow base 65 2 (.slice (some ⟨g, 0, none⟩) n cap) n xs) (hp : p ≤ n) : w.ownsRow base 65 2 (.slice (some ⟨g, 0, none⟩) p cap) p (xs.take (p * 2)) := by
 refine ⟨by have := h.1; rw [List.length_take]; omega, ?_⟩
 rcases h.2 with ⟨e, _⟩ | ⟨g2, cap2, cur, e, h1, h2, h3, h4, h5, h6⟩
 ·simp at e
 ·simp at e
  obtain ⟨rfl, rfl⟩ := e
  refine .inr ⟨g, cap, cur, rfl, h1, h2, by omega, h4, h5, ?_⟩
  rw [← h6, List.take_take, Nat.min_eq_left (by omega)]
/-- What is in the row while it is made shorter: p terms are kept of the first j. -/
structure Kept (l ms : List Y) (p j : Nat) : Prop where
 len : ms.length = l.length
 p1 : 1 ≤ p
 pj : p < j
 jl : j ≤ l.length
 set : IsSet (ms.take p) (l.take j)
 rest : ∀ i, j - 1 ≤ i → ms[i]? = l[i]?
theorem sorted_le {l : List Y} (h : l.Pairwise fun a b => ¬ LtY b a) {i j : Nat} {x y : Y} (hx : l[i]? = some x) (hy : l[j]? = some y) (hij : i < j) : x = y ∨ LtY x y := by
 obtain ⟨hi, rfl⟩ := List.getElem?_eq_some_iff.1 hx
 obtain ⟨hj, rfl⟩ := List.getElem?_eq_some_iff.1 hy
 rw [List.pairwise_iff_getElem] at h
 have := h i j hi hj hij
 rcases LtY.tri l[i] l[j] with e | e | e
 ·exact .inl e
 ·exact .inr e
 ·exact absurd e this
theorem Kept.start {l : List Y} {k : Nat} {x : Y} (h1 : 1 ≤ k) (hx : l[k]? = some x) (hy : l[k - 1]? = some x) (ha : (l.take k).Pairwise LtY) : Kept l l k (k + 1) := by
 have hk := (List.getElem?_eq_some_iff.1 hx).1
 refine ⟨rfl, h1, by omega, by omega, ?_, fun _ _ => rfl⟩
 rw [List.take_add_one, hx]
 refine IsSet.again (IsSet.self ha) (List.mem_iff_getElem?.2 ⟨k - 1, ?_⟩)
 rw [List.getElem?_take, if_pos (by omega), hy]
theorem Kept.skip {l ms : List Y} {p j : Nat} {x : Y} (h : Kept l ms p j) (hx : l[j]? = some x) (hy : l[j - 1]? = some x) : Kept l ms p (j + 1) := by
 have hk := (List.getElem?_eq_some_iff.1 hx).1
 have hpj := h.pj
 have hp1 := h.p1
 refine ⟨h.len, h.p1, by omega, by omega, ?_, fun i hi => h.rest i (by omega)⟩
 rw [List.take_add_one, hx]
 refine h.set.again (List.mem_iff_getElem?.2 ⟨j - 1, ?_⟩)
 rw [List.getElem?_take, if_pos (by omega), hy]
theorem Kept.keep {l ms : List Y} {p j : Nat} {x y : Y} (h : Kept l ms p j) (hs : l.Pairwise fun a b => ¬ LtY b a) (hx : l[j]? = some x) (hy : l[j - 1]? = some y) (hn : x ≠ y) : Kept l (ms.set p x) (p + 1) (j + 1) := by
 have hk := (List.getElem?_eq_some_iff.1 hx).1
 have hpj := h.pj
 have hp1 := h.p1
 have hl := h.len
 refine ⟨by rw [List.length_set]; exact h.len, by omega, by omega, by omega, ?_, fun i hi => ?_⟩
 ·have e1 : (ms.set p x).take (p + 1) = ms.take p ++ [x] := by
   rw [List.take_succ_eq_append_getElem (by simp; omega)]
   simp [List.take_set_of_le]
  rw [e1, List.take_add_one, hx]
  refine h.set.more fun q hq => ?_
  obtain ⟨i, hi⟩ := List.mem_iff_getElem?.1 hq
  rw [List.getElem?_take] at hi
  split at hi
  ·rename_i hij
   rcases (by omega : i < j - 1 ∨ i = j - 1) with h' | h'
   ·have hyx : LtY y x := (sorted_le hs hy hx (by omega)).resolve_left fun e => hn e.symm
    rcases sorted_le hs hi hy h' with e | e
    ·rw [e]; exact hyx
    ·exact e.trans hyx
   ·subst h'
    rw [hy] at hi
    cases hi
    exact (sorted_le hs hy hx (by omega)).resolve_left fun e => hn e.symm
  ·cases hi
 ·rw [List.getElem?_set_ne (by omega)]
  exact h.rest i (by omega)
theorem asc_take_succ {l : List Y} {k : Nat} {x y : Y} (h1 : 1 ≤ k) (hs : l.Pairwise fun a b => ¬ LtY b a) (ha : (l.take k).Pairwise LtY) (hx : l[k]? = some x) (hy : l[k - 1]? = some y) (hn : x ≠ y) : (l.take (k + 1)).Pairwise LtY := by
 rw [List.take_add_one, hx]
 refine ((IsSet.self ha).more fun q hq => ?_).asc
 obtain ⟨i, hi⟩ := List.mem_iff_getElem?.1 hq
 rw [List.getElem?_take] at hi
 split at hi
 ·rename_i hij
  have hyx : LtY y x := (sorted_le hs hy hx (by omega)).resolve_left fun e => hn e.symm
  rcases (by omega : i < k - 1 ∨ i = k - 1) with h' | h'
  ·rcases sorted_le hs hi hy h' with e | e
   ·rw [e]; exact hyx
   ·exact e.trans hyx
  ·subst h'
   rw [hy] at hi
   cases hi
   exact hyx
 ·cases hi
theorem flat_set {l : List Y} {p : Nat} (hp : p < l.length) (x : Y) : ((eY.flat l).set (p * 2) (.int .i64 x.1)).set (p * 2 + 1) (.int .i64 x.2) = eY.flat (l.set p x) := by
 obtain ⟨e, hl⟩ := split_at (List.getElem?_eq_getElem hp)
 have e2 : l.set p x = l.take p ++ x :: l.drop (p + 1) := by
  conv => lhs; rw [e]
  rw [List.set_append_right _ _ (by omega), hl, Nat.sub_self]; rfl
 rw [e2]
 conv => lhs; rw [e]
 rw [El.flat_app, El.flat_app, El.flat_cons, El.flat_cons]
 have h2 : (eY.flat (l.take p)).length = p * 2 := by rw [El.flat_len, hl]; rfl
 rw [List.set_append_right _ _ (by omega), List.set_append_right _ _ (by omega), h2]
 simp [eY]
end Go.Proofs.YtodjmpocpfkpaaaGreat
