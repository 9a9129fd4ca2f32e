/-
  CONTRACT of the program's FactsWiden.
-/
import Derived.Test.YtgclngofigffdaaFo11
import Derived.Test.YtgclngofigffdaaFo12
namespace Go.Proofs.Ytgclngofigffdaa
open Go.RowKit

def widT (f g : Tab) (st : List Int) : Tab := fun a b => if f a b < g a b then stepM (g a b) (capT a b) st else f a b
/-- The first u numbers (row by row) are widened. -/
def widP (n : Nat) (f g : Tab) (st : List Int) (u : Nat) : Tab := fun a b => if a * n + b < u then widT f g st a b else f a b
/-- What FactsWiden answers: a number and a row. -/
def widR (z : Int) (l : List Int) (z' : Int) (l' : List Int) (st : List Int) : Int × List Int :=
  if goB z l z' l' && stepsB st then (if noF z l then (outZ (cF z' l') z'.toNat, outL (cF z' l') z'.toNat) else match cF z' l' with
    | none => (z, l)
    | some g => (z, mk z.toNat (widT (tab z.toNat l) g st))) else (0, [])
theorem widR_no {z z' : Int} {l l' st : List Int} (h : (goB z l z' l' && stepsB st) = false) : widR z l z' l' st = (0, []) := by unfold widR; rw [h]; rfl
theorem widR_one {z z' : Int} {l l' st : List Int} (h : goB z l z' l' = true) (hs : stepsB st = true) (h1 : noF z l = true) : widR z l z' l' st = (outZ (cF z' l') z'.toNat, outL (cF z' l') z'.toNat) := by unfold widR; rw [h, hs, h1]; rfl
theorem widR_other {z z' : Int} {l l' st : List Int} (h : goB z l z' l' = true) (hs : stepsB st = true) (h1 : noF z l = false) (h2 : cF z' l' = none) : widR z l z' l' st = (z, l) := by unfold widR; rw [h, hs, h1, h2]; rfl
theorem widR_both {z z' : Int} {l l' st : List Int} {g : Tab} (h : goB z l z' l' = true) (hs : stepsB st = true) (h1 : noF z l = false) (h2 : cF z' l' = some g) : widR z l z' l' st = (z, mk z.toNat (widT (tab z.toNat l) g st)) := by unfold widR; rw [h, hs, h1, h2]; rfl
/-- The first one is ok where it is not none. -/
theorem go_ok1 {z z' : Int} {l l' : List Int} (h : goB z l z' l' = true) (h1 : noF z l = false) : okF z l = true := by
  unfold goB at h
  rw [h1] at h
  cases hn : noF z' l'
  · rw [hn] at h; simp at h; exact h.1
  · rw [hn] at h; simpa using h
theorem go_same1 {z z' : Int} {l l' : List Int} {g : Tab} (h : goB z l z' l' = true) (h1 : noF z l = false) (h2 : cF z' l' = some g) : z = z' := by
  have k2 := cF_ok h2
  unfold goB at h
  rw [h1, ok_no k2] at h
  simp at h
  exact h.2.2
theorem no_ok1 {z : Int} {l : List Int} (h : noF z l = true) : okF z l = false := by
  cases hk : okF z l
  · rfl
  · rw [ok_no hk] at h; cases h
theorem widR_len (z : Int) (l : List Int) (z' : Int) (l' : List Int) (st : List Int) : (widR z l z' l' st).2.length ≤ 169 := by
  unfold widR
  split
  · rename_i h
    rw [Bool.and_eq_true] at h
    split
    · exact outL_len (cF_fine z' l').good
    · rename_i hn
      obtain ⟨n, rfl, h1, h2, h3, _⟩ := ok_of (go_ok1 h.1 (by simpa using hn))
      cases cF z' l' with
      | none => show l.length ≤ 169; rw [h3]; exact sq_le h2
      | some g => simp only [mk_len, Int.toNat_natCast]; exact sq_le h2
  · simp
theorem widP_zero (n : Nat) (f g : Tab) (st : List Int) : widP n f g st 0 = f := by funext a b; unfold widP; rw [if_neg (by omega)]
theorem widP_all {n : Nat} {f g : Tab} {st : List Int} {a b : Nat} (ha : a < n) (hb : b < n) : widP n f g st (n * n) a b = widT f g st a b := by unfold widP; rw [if_pos (idx_lt ha hb)]
theorem widP_at {n : Nat} {f g : Tab} {st : List Int} {i j : Nat} : widP n f g st (i * n + j) i j = f i j := by unfold widP; rw [if_neg (by omega)]
theorem widP_next {n : Nat} {f g : Tab} {st : List Int} {i j : Nat} (hj : j < n) {a b : Nat} (hb : b < n) : (if a = i ∧ b = j then widT f g st i j else widP n f g st (i * n + j) a b) = widP n f g st (i * n + j + 1) a b := by
  unfold widP
  by_cases h : a = i ∧ b = j
  · obtain ⟨rfl, rfl⟩ := h
    rw [if_pos ⟨rfl, rfl⟩, if_pos (by omega)]
  · rw [if_neg h]
    by_cases h2 : a * n + b < i * n + j
    · rw [if_pos h2, if_pos (by omega)]
    · rw [if_neg h2, if_neg]
      intro h3
      have : a * n + b = i * n + j := by omega
      exact h (idx_inj hb hj this)
theorem wid_grid {n : Nat} (hn : n ≤ 13) {f g : Tab} {st : List Int} {i j : Nat} (hi : i < n) (hj : j < n) : (grid n (widP n f g st (i * n + j))).set (i * 13 + j) (widT f g st i j) = grid n (widP n f g st (i * n + j + 1)) := by
  rw [grid_set hn _ hi hj]
  exact grid_congr hn (fun a b _ hb => widP_next hj hb)
theorem wid_same {n : Nat} (hn : n ≤ 13) {f g : Tab} {st : List Int} {i j : Nat} (hj : j < n) (h : ¬ f i j < g i j) : grid n (widP n f g st (i * n + j)) = grid n (widP n f g st (i * n + j + 1)) := by
  refine grid_congr hn (fun a b _ hb => ?_)
  rw [← widP_next hj hb]
  split
  · rename_i e
    obtain ⟨rfl, rfl⟩ := e
    rw [widP_at]
    unfold widT
    rw [if_neg h]
  · rfl
theorem IntsIn.at {w : World} {l : List Int} {b o : Nat} (h : IntsIn w l b o) : IntsAt w (some ⟨b, o, none⟩) l := .inr ⟨b, o, rfl, h⟩
theorem IntsIn.grown {w w' : World} {l : List Int} {b o : Nat} {row : Option Nat} (h : IntsIn w l b o) (hg : w.grownBy w' row) (hr : l = [] ∨ some b ≠ row) : IntsIn w' l b o := fun i x hi => by
  rcases hr with h1 | hr
  · rw [h1] at hi; simp at hi
  have h0 := h i x hi
  exact (hg.cell_far ⟨b, o + i, none⟩ (World.block_lt_of_cell? w _ h0) hr).trans h0
set_option maxRecDepth 100000 in
set_option maxHeartbeats 6400000 in
theorem iWiden_any (z : Int) (l : List Int) (a : Option Addr) (c : Nat) (z' : Int) (l' : List Int) (a' : Option Addr) (c' : Nat) (st : List Int) (gs cs : Nat) (w : World) (hgs : st = [] ∨ gs < w.heap.size) (hstm : st.length ≤ maxLen) (hcc : l.length ≤ c) (hcc' : l'.length ≤ c') (hl : IntsAt w a l) (hl' : IntsAt w a' l') (hst : IntsIn w st gs 0) : Calls Try.prog 11 #[.agg #[.int .i64 z, .slice a l.length c], .agg #[.int .i64 z', .slice a' l'.length c'], .slice (some ⟨gs, 0, none⟩) st.length cs] w fun e w' => Gives w w' e (widR z l z' l' st).1 (widR z l z' l' st).2 := by
  have HST := mkHid hst
  have HSM := mkHid hstm
  have HL := mkHid hl
  have HL' := mkHid hl'
  have B0 := mkHid ((((Below.refl w.heap.size w).alloc (Nat.le_refl _) (.cells #[.int .i64 z, .slice a l.length c] 26)).alloc (by simp) (.cells #[.int .i64 z', .slice a' l'.length c'] 26)).alloc (by simp; omega) (.cells #[.int .i64 0, .slice none 0 0] 26))
  have T0 : Hid (Fc (((w.alloc (.cells #[.int .i64 z, .slice a l.length c] 26)).alloc (.cells #[.int .i64 z', .slice a' l'.length c'] 26)).alloc (.cells #[.int .i64 0, .slice none 0 0] 26)) w.heap.size z a l.length c) := mkHid (((Fc.new w z a l.length c 26).alloc _).alloc _)
  have U0 : Hid (Fc (((w.alloc (.cells #[.int .i64 z, .slice a l.length c] 26)).alloc (.cells #[.int .i64 z', .slice a' l'.length c'] 26)).alloc (.cells #[.int .i64 0, .slice none 0 0] 26)) (w.heap.size + 1) z' a' l'.length c') := mkHid (by have := (Fc.new (w.alloc (.cells #[.int .i64 z, .slice a l.length c] 26)) z' a' l'.length c' 26).alloc (.cells #[.int .i64 0, .slice none 0 0] 26); simpa using this)
  have Z0 : Hid (Fz (((w.alloc (.cells #[.int .i64 z, .slice a l.length c] 26)).alloc (.cells #[.int .i64 z', .slice a' l'.length c'] 26)).alloc (.cells #[.int .i64 0, .slice none 0 0] 26)) (w.heap.size + 2)) := mkHid (by have := Fz.new ((w.alloc (.cells #[.int .i64 z, .slice a l.length c] 26)).alloc (.cells #[.int .i64 z', .slice a' l'.length c'] 26)); simpa using this)
  have HDA : Hid (∀ v, IntsAt v a l → Calls Try.prog 39 #[.agg #[.int .i64 z, .slice a l.length c]] v fun e w' => e = .returned (.agg (D z.toNat (okO z l))) ∧ Below v.heap.size v w') := mkHid fun v hv => diffsD z l a c v hcc hv
  have HDB : Hid (∀ v, IntsAt v a' l' → Calls Try.prog 39 #[.agg #[.int .i64 z', .slice a' l'.length c']] v fun e w' => e = .returned (.agg (D z'.toNat (okO z' l'))) ∧ Below v.heap.size v w') := mkHid fun v hv => diffsD z' l' a' c' v hcc' hv
  have HCB : Hid (∀ v, Calls Try.prog 40 #[.agg (D z'.toNat (okO z' l'))] v fun e w' => e = .returned (.agg (D z'.toNat (cF z' l'))) ∧ Below v.heap.size v w') := mkHid fun v => closedD z'.toNat (okO z' l') (okO_fine z' l').good v
  obtain ⟨G1, hG1, hGl1⟩ := D_out z.toNat (okO z l)
  obtain ⟨G2, hG2, hGl2⟩ := D_out z'.toNat (cF z' l')
  obtain ⟨m1, hm1⟩ : ∃ m, outZ (okO z l) z.toNat = m := ⟨_, rfl⟩
  obtain ⟨m2, hm2⟩ : ∃ m, outZ (cF z' l') z'.toNat = m := ⟨_, rfl⟩
  rw [hm1] at hG1
  rw [hm2] at hG2
  rw [hG1] at HDA
  rw [hG2] at HCB
  have HDG1 := mkHid hG1
  have HDG2 := mkHid hG2
  have HM1 := mkHid hm1
  have HM2 := mkHid hm2
  have HG1 := mkHid hGl1
  have HG2 := mkHid hGl2
  have HFB := mkHid (cF_fine z' l')
  obtain ⟨DB1, hDB1⟩ : ∃ D1, D z'.toNat (okO z' l') = D1 := ⟨_, rfl⟩
  rw [hDB1] at HDB HCB
  have hzc := zc64
  clear hl hl' hcc hcc' hG1 hG2 hGl1 hGl2 hm1 hm2 hDB1 hst hstm
  go_enter Try.func11, Try.ntmps11
  go_wp2_with fail
  refine (iGo_any z l a c z' l' a' c' _ (HL.out.below B0.out) (HL'.out.below B0.out)).mono ?_
  rintro e w3 ⟨rfl, hb⟩
  have B3 := mkHid (below_step B0.out hb)
  have T3 := mkHid (T0.out.below hb)
  have U3 := mkHid (U0.out.below hb)
  have Z3 := mkHid (Z0.out.below hb)
  clear hb B0 T0 U0 Z0
  cases hgo : goB z l z' l'
  · have e1 : Hid (widR z l z' l' st = (0, [])) := mkHid (widR_no (by rw [hgo]; rfl))
    obtain ⟨⟨z0, z1⟩, z2, z3⟩ := Z3.out
    go_wp2
    refine bodyPost_ret (v := .agg #[.int .i64 0, .slice none 0 0]) (by simp [results, Try.results11, go_sem, z0, z1]) rfl ?_
    rw [e1.out]
    exact ⟨none, 0, rfl, OwnI.nil _ _, none_shut B3.out (by omega) _ _⟩
  · have HGO := mkHid hgo
    clear hgo
    go_wp2_with fail
    refine (areSteps_of st gs 0 cs _ HSM.out (HST.out.below B3.out)).mono ?_
    rintro e w4 ⟨rfl, hb⟩
    have B4 := mkHid (below_step B3.out hb)
    have T4 := mkHid (T3.out.below hb)
    have U4 := mkHid (U3.out.below hb)
    have Z4 := mkHid (Z3.out.below hb)
    clear hb B3 T3 U3 Z3
    cases hso : stepsB st
    · have e1 : Hid (widR z l z' l' st = (0, [])) := mkHid (widR_no (by rw [hso]; simp))
      obtain ⟨⟨z0, z1⟩, z2, z3⟩ := Z4.out
      go_wp2
      refine bodyPost_ret (v := .agg #[.int .i64 0, .slice none 0 0]) (by simp [results, Try.results11, go_sem, z0, z1]) rfl ?_
      rw [e1.out]
      exact ⟨none, 0, rfl, OwnI.nil _ _, none_shut B4.out (by omega) _ _⟩
    · have HSO := mkHid hso
      have HGSL := mkHid hgs
      clear hso hgs
      go_wp2_with fail
      refine wp_region_inv2 (fun zA0 L zA v => ∃ (zB : Nat → Bool) (zS : Nat → Value) (X : Nat) (Y : Nat), L = #[zB 0, zB 1, zB 2, zB 3, zB 4, zB 5, zB 6, zB 7, zB 8] ∧ zA = puts zA0 [(21, zS 21), (22, zS 22), (23, zS 23), (24, zS 24), (25, zS 25), (7, zS 7), (8, zS 8)] ∧ ((zB 0 = true → zS 21 = .agg #[.int .i64 z, .slice a l.length c]) ∧ (zB 1 = true → zS 22 = .agg (dA m1 G1)) ∧ (zB 2 = true → zS 23 = .agg #[.int .i64 z', .slice a' l'.length c']) ∧ (zB 3 = true → zS 24 = .agg DB1) ∧ (zB 4 = true → zS 25 = .agg (dA m2 G2)) ∧ (zB 5 = true → zS 7 = .pointer (some ⟨X, 0, none⟩)) ∧ (zB 6 = true → zS 8 = .pointer (some ⟨Y, 0, none⟩))) ∧ Two w4 (zB 5) (zB 6) (zB 7) (zB 8) X Y m1 G1 m2 G2 v) (by kernel_rfl) ?_ ?_ ?_
      · exact ⟨fun _ => false, fun _ => undef, 0, 0, rfl, by kernel_rfl, ⟨fun e => ft e, fun e => ft e, fun e => ft e, fun e => ft e, fun e => ft e, fun e => ft e, fun e => ft e⟩, Two.start (Below.refl _ _).drew⟩
      · refine StepsI.cons rfl ?_ ?_
        · rintro L zA v ⟨zB, zS, X, Y, rfl, rfl, hF, hW⟩ hL hm K hK
          have hb0 : zB 0 = false := by simpa using hL
          clear hL hm
          simp only [puts, Act.put, List.setIfInBounds_toArray, List.set_cons_zero, List.set_cons_succ]
          obtain ⟨q0, q1⟩ := T4.out.below hW.bel
          go_simp
          exact hK.out _ _ ⟨fun zj => if zj = 0 then true else zB zj, fun zd => if zd = 21 then .agg #[.int .i64 z, .slice a l.length c] else zS zd, X, Y, rfl, by kernel_rfl, ⟨fun _ => rfl, hF.2.1, hF.2.2.1, hF.2.2.2.1, hF.2.2.2.2.1, hF.2.2.2.2.2.1, hF.2.2.2.2.2.2⟩, hW⟩
        refine StepsI.cons rfl ?_ ?_
        · rintro L zA v ⟨zB, zS, X, Y, rfl, rfl, hF, hW⟩ hL hm K hK
          have hb1 : zB 1 = false := by simpa using hL
          have hb0 : zB 0 = true := by cases e : zB 0 with | false => (exfalso; revert hm; simp [metB, Region.binds, e]) | true => rfl
          have e0 : zS 21 = .agg #[.int .i64 z, .slice a l.length c] := hF.1 hb0
          clear hL hm
          simp only [puts, Act.put, List.setIfInBounds_toArray, List.set_cons_zero, List.set_cons_succ]
          simp only [e0]
          go_simp
          refine (HDA.out _ (HL.out.below (below_step B4.out hW.bel))).mono ?_
          rintro e v2 ⟨rfl, hb⟩
          go_wp2_with fail
          exact hK.out _ _ ⟨fun zj => if zj = 0 then true else if zj = 1 then true else zB zj, fun zd => if zd = 22 then .agg (dA m1 G1) else if zd = 21 then .agg #[.int .i64 z, .slice a l.length c] else zS zd, X, Y, by simp [hb0], by kernel_rfl, ⟨fun _ => rfl, fun _ => rfl, hF.2.2.1, hF.2.2.2.1, hF.2.2.2.2.1, hF.2.2.2.2.2.1, hF.2.2.2.2.2.2⟩, hW.below hb⟩
        refine StepsI.cons rfl ?_ ?_
        · rintro L zA v ⟨zB, zS, X, Y, rfl, rfl, hF, hW⟩ hL hm K hK
          have hb2 : zB 2 = false := by simpa using hL
          clear hL hm
          simp only [puts, Act.put, List.setIfInBounds_toArray, List.set_cons_zero, List.set_cons_succ]
          obtain ⟨q0, q1⟩ := U4.out.below hW.bel
          go_simp
          exact hK.out _ _ ⟨fun zj => if zj = 2 then true else zB zj, fun zd => if zd = 23 then .agg #[.int .i64 z', .slice a' l'.length c'] else zS zd, X, Y, rfl, by kernel_rfl, ⟨hF.1, hF.2.1, fun _ => rfl, hF.2.2.2.1, hF.2.2.2.2.1, hF.2.2.2.2.2.1, hF.2.2.2.2.2.2⟩, hW⟩
        refine StepsI.cons rfl ?_ ?_
        · rintro L zA v ⟨zB, zS, X, Y, rfl, rfl, hF, hW⟩ hL hm K hK
          have hb3 : zB 3 = false := by simpa using hL
          have hb2 : zB 2 = true := by cases e : zB 2 with | false => (exfalso; revert hm; simp [metB, Region.binds, e]) | true => rfl
          have e2 : zS 23 = .agg #[.int .i64 z', .slice a' l'.length c'] := hF.2.2.1 hb2
          clear hL hm
          simp only [puts, Act.put, List.setIfInBounds_toArray, List.set_cons_zero, List.set_cons_succ]
          simp only [e2]
          go_simp
          refine (HDB.out _ (HL'.out.below (below_step B4.out hW.bel))).mono ?_
          rintro e v2 ⟨rfl, hb⟩
          go_wp2_with fail
          exact hK.out _ _ ⟨fun zj => if zj = 2 then true else if zj = 3 then true else zB zj, fun zd => if zd = 24 then .agg DB1 else if zd = 23 then .agg #[.int .i64 z', .slice a' l'.length c'] else zS zd, X, Y, by simp [hb2], by kernel_rfl, ⟨hF.1, hF.2.1, fun _ => rfl, fun _ => rfl, hF.2.2.2.2.1, hF.2.2.2.2.2.1, hF.2.2.2.2.2.2⟩, hW.below hb⟩
        refine StepsI.cons rfl ?_ ?_
        · rintro L zA v ⟨zB, zS, X, Y, rfl, rfl, hF, hW⟩ hL hm K hK
          have hb4 : zB 4 = false := by simpa using hL
          have hb3 : zB 3 = true := by cases e : zB 3 with | false => (exfalso; revert hm; simp [metB, Region.binds, e]) | true => rfl
          have e3 : zS 24 = .agg DB1 := hF.2.2.2.1 hb3
          clear hL hm
          simp only [puts, Act.put, List.setIfInBounds_toArray, List.set_cons_zero, List.set_cons_succ]
          simp only [e3]
          go_simp
          refine (HCB.out _).mono ?_
          rintro e v2 ⟨rfl, hb⟩
          go_wp2_with fail
          exact hK.out _ _ ⟨fun zj => if zj = 3 then true else if zj = 4 then true else zB zj, fun zd => if zd = 25 then .agg (dA m2 G2) else if zd = 24 then .agg DB1 else zS zd, X, Y, by simp [hb3], by kernel_rfl, ⟨hF.1, hF.2.1, hF.2.2.1, fun _ => rfl, fun _ => rfl, hF.2.2.2.2.2.1, hF.2.2.2.2.2.2⟩, hW.below hb⟩
        refine StepsI.cons rfl ?_ ?_
        · rintro L zA v ⟨zB, zS, X, Y, rfl, rfl, hF, hW⟩ hL hm K hK
          have hb5 : zB 5 = false := by simpa using hL
          clear hL hm
          rw [hb5] at hW
          simp only [puts, Act.put, List.setIfInBounds_toArray, List.set_cons_zero, List.set_cons_succ]
          go_simp
          exact hK.out _ _ ⟨fun zj => if zj = 5 then true else zB zj, fun zd => if zd = 7 then .pointer (some ⟨v.heap.size, 0, none⟩) else zS zd, v.heap.size, Y, rfl, by kernel_rfl, ⟨hF.1, hF.2.1, hF.2.2.1, hF.2.2.2.1, hF.2.2.2.2.1, fun _ => rfl, hF.2.2.2.2.2.2⟩, hW.allocA⟩
        refine StepsI.cons rfl ?_ ?_
        · rintro L zA v ⟨zB, zS, X, Y, rfl, rfl, hF, hW⟩ hL hm K hK
          have hb6 : zB 6 = false := by simpa using hL
          clear hL hm
          rw [hb6] at hW
          simp only [puts, Act.put, List.setIfInBounds_toArray, List.set_cons_zero, List.set_cons_succ]
          go_simp
          exact hK.out _ _ ⟨fun zj => if zj = 6 then true else zB zj, fun zd => if zd = 8 then .pointer (some ⟨v.heap.size, 0, none⟩) else zS zd, X, v.heap.size, rfl, by kernel_rfl, ⟨hF.1, hF.2.1, hF.2.2.1, hF.2.2.2.1, hF.2.2.2.2.1, hF.2.2.2.2.2.1, fun _ => rfl⟩, hW.allocB⟩
        refine StepsI.cons rfl ?_ ?_
        · rintro L zA v ⟨zB, zS, X, Y, rfl, rfl, hF, hW⟩ hL hm K hK
          have hb7 : zB 7 = false := by simpa using hL
          have hb1 : zB 1 = true := by cases e : zB 1 with | false => (exfalso; revert hm; simp [metB, Region.binds, e]) | true => rfl
          have hb5 : zB 5 = true := by cases e : zB 5 with | false => (exfalso; revert hm; simp [metB, Region.binds, e]) | true => rfl
          have e1 : zS 22 = .agg (dA m1 G1) := hF.2.1 hb1
          have e5 : zS 7 = .pointer (some ⟨X, 0, none⟩) := hF.2.2.2.2.2.1 hb5
          clear hL hm
          rw [hb7] at hW
          rw [hb5] at hW
          simp only [puts, Act.put, List.setIfInBounds_toArray, List.set_cons_zero, List.set_cons_succ]
          simp only [e1, e5]
          rw [if_pos (by rfl)]
          refine wp_store_mid 59 _ _ rfl X 0 (dA m1 G1) rfl rfl (by rw [dA_size HG1.out]; exact (hW.a rfl).2.there) (by rw [dA_size HG1.out]; exact size64) (all_oneCell_toArray dL_one) ?_
          rw [show (dA m1 G1).toList = dL m1 G1 from rfl]
          simp only [Act.put]
          exact hK.out _ _ ⟨fun zj => if zj = 5 then true else if zj = 1 then true else if zj = 7 then true else zB zj, fun zd => if zd = 7 then .pointer (some ⟨X, 0, none⟩) else if zd = 22 then .agg (dA m1 G1) else zS zd, X, Y, by simp [hb1, hb5], by kernel_rfl, ⟨hF.1, fun _ => rfl, hF.2.2.1, hF.2.2.2.1, hF.2.2.2.2.1, fun _ => rfl, hF.2.2.2.2.2.2⟩, hW.storeA HG1.out⟩
        refine StepsI.cons rfl ?_ ?_
        · rintro L zA v ⟨zB, zS, X, Y, rfl, rfl, hF, hW⟩ hL hm K hK
          have hb8 : zB 8 = false := by simpa using hL
          have hb4 : zB 4 = true := by cases e : zB 4 with | false => (exfalso; revert hm; simp [metB, Region.binds, e]) | true => rfl
          have hb6 : zB 6 = true := by cases e : zB 6 with | false => (exfalso; revert hm; simp [metB, Region.binds, e]) | true => rfl
          have e4 : zS 25 = .agg (dA m2 G2) := hF.2.2.2.2.1 hb4
          have e6 : zS 8 = .pointer (some ⟨Y, 0, none⟩) := hF.2.2.2.2.2.2 hb6
          clear hL hm
          rw [hb8] at hW
          rw [hb6] at hW
          simp only [puts, Act.put, List.setIfInBounds_toArray, List.set_cons_zero, List.set_cons_succ]
          simp only [e4, e6]
          rw [if_pos (by rfl)]
          refine wp_store_mid 59 _ _ rfl Y 0 (dA m2 G2) rfl rfl (by rw [dA_size HG2.out]; exact (hW.b rfl).2.there) (by rw [dA_size HG2.out]; exact size64) (all_oneCell_toArray dL_one) ?_
          rw [show (dA m2 G2).toList = dL m2 G2 from rfl]
          simp only [Act.put]
          exact hK.out _ _ ⟨fun zj => if zj = 6 then true else if zj = 4 then true else if zj = 8 then true else zB zj, fun zd => if zd = 8 then .pointer (some ⟨Y, 0, none⟩) else if zd = 25 then .agg (dA m2 G2) else zS zd, X, Y, by simp [hb4, hb6], by kernel_rfl, ⟨hF.1, hF.2.1, hF.2.2.1, hF.2.2.2.1, fun _ => rfl, hF.2.2.2.2.2.1, fun _ => rfl⟩, hW.storeB HG2.out⟩
        exact StepsI.nil (by kernel_rfl)
      · rintro L zA v ⟨zB, zS, X, Y, rfl, rfl, hF, hW⟩ hr
        have hu := all_up (by kernel_rfl) (N := 9) (by kernel_rfl) hr
        have hb0 : zB 0 = true := by simpa using hu 0 (by decide)
        have hb1 : zB 1 = true := by simpa using hu 1 (by decide)
        have hb2 : zB 2 = true := by simpa using hu 2 (by decide)
        have hb3 : zB 3 = true := by simpa using hu 3 (by decide)
        have hb4 : zB 4 = true := by simpa using hu 4 (by decide)
        have hb5 : zB 5 = true := by simpa using hu 5 (by decide)
        have hb6 : zB 6 = true := by simpa using hu 6 (by decide)
        have hb7 : zB 7 = true := by simpa using hu 7 (by decide)
        have hb8 : zB 8 = true := by simpa using hu 8 (by decide)
        have e0 : zS 21 = .agg #[.int .i64 z, .slice a l.length c] := hF.1 hb0
        have e1 : zS 22 = .agg (dA m1 G1) := hF.2.1 hb1
        have e2 : zS 23 = .agg #[.int .i64 z', .slice a' l'.length c'] := hF.2.2.1 hb2
        have e3 : zS 24 = .agg DB1 := hF.2.2.2.1 hb3
        have e4 : zS 25 = .agg (dA m2 G2) := hF.2.2.2.2.1 hb4
        have e5 : zS 7 = .pointer (some ⟨X, 0, none⟩) := hF.2.2.2.2.2.1 hb5
        have e6 : zS 8 = .pointer (some ⟨Y, 0, none⟩) := hF.2.2.2.2.2.2 hb6
        rw [hb5] at hW
        rw [hb6] at hW
        rw [hb7] at hW
        rw [hb8] at hW
        clear hu hr hF
        simp only [puts, Act.put, List.setIfInBounds_toArray, List.set_cons_zero, List.set_cons_succ]
        simp only [e0, e1, e2, e3, e4, e5, e6]
        clear e0 e1 e2 e3 e4 e5 e6
        clear hb0 hb1 hb2 hb3 hb4 hb5 hb6 hb7 hb8
        clear zB zS
        have hT := hW.all
        obtain ⟨hb5, hX0, hY0, hXY, hDX, hDY⟩ := hT
        have B5 := mkHid (below_step B4.out hb5)
        have Z5 := mkHid (Z4.out.below hb5)
        have DX := mkHid hDX
        have DY := mkHid hDY
        have s4 := Z4.out.lt
        have hwX : w.heap.size + 2 < X := by omega
        have hwY : w.heap.size + 2 < Y := by omega
        clear hb5 hX0 hY0 hDX hDY hW s4 B4 Z4 T4 U4
        go_wp2_with (first | (refine wp_load64 DX.out rfl rfl rfl ?_))
        refine (isNone_any m1 G1 _).mono ?_
        rintro e w6 ⟨rfl, hb6⟩
        have B6 := mkHid (below_step B5.out hb6)
        have Z6 := mkHid (Z5.out.below hb6)
        have DX6 := mkHid (DX.out.below hb6)
        have DY6 := mkHid (DY.out.below hb6)
        clear hb6 B5 Z5 DX DY
        cases hn1 : noF z l with
        | true =>
          have hm : m1 = 0 := by rw [← HM1.out, okO_no (no_ok1 hn1)]; rfl
          have hd : decide (m1 = 0) = true := decide_eq_true hm
          have e1 : Hid (widR z l z' l' st = (outZ (cF z' l') z'.toNat, outL (cF z' l') z'.toNat)) := mkHid (widR_one HGO.out HSO.out hn1)
          clear hm hn1
          rw [hd]
          go_wp2_with (first | (refine wp_load64 DY6.out rfl rfl rfl ?_))
          refine (show Calls Try.prog 42 #[.agg (dA m2 G2)] _ _ by rw [show dA m2 G2 = D z'.toNat (cF z' l') from HDG2.out.symm]; exact factsD z'.toNat _ HFB.out.good _).mono ?_
          rintro e w9 ⟨ao, cap, rfl, ho, hb9⟩
          obtain ⟨⟨z0, z1⟩, z2, z3⟩ := Z6.out.below hb9
          have HE := mkHid (fun v0 v1 => Gives.shut (b := w.heap.size + 2) B6.out (by omega) Z6.out.lt ho hb9 v0 v1)
          clear hb9 ho
          go_wp2
          refine bodyPost_ret (v := .agg #[.int .i64 (outZ (cF z' l') z'.toNat), .slice ao (outL (cF z' l') z'.toNat).length cap]) (by simp [results, Try.results11, go_sem, z0, z1]) rfl ?_
          rw [e1.out]
          exact ⟨ao, cap, rfl, (HE.out _ _).1, (HE.out _ _).2⟩
        | false =>
          obtain ⟨n, hzn, h1, h2, h3, hmk, hfine⟩ := ok_of (go_ok1 HGO.out hn1)
          have hto : z.toNat = n := by rw [hzn, Int.toNat_natCast]
          have hoo : okO z l = some (tab n l) := by rw [okO_yes (go_ok1 HGO.out hn1), hto]
          have hm : m1 = (n : Int) := by rw [← HM1.out, hoo, hto]; rfl
          have hd : decide (m1 = 0) = false := decide_eq_false (by omega)
          have hGf : G1 = grid n (tab n l) := by have := HDG1.out; rw [hoo, hto, D_some] at this; exact (dA_inj this).2.symm
          rw [hd]
          have HN1 := mkHid hn1
          have HFACT := mkHid (show z = (n : Int) ∧ 1 ≤ n ∧ n ≤ 13 ∧ l = mk n (tab n l) ∧ Fine n (tab n l) ∧ m1 = (n : Int) ∧ G1 = grid n (tab n l) from ⟨hzn, h1, h2, hmk, hfine, hm, hGf⟩)
          clear hn1 hzn h1 h2 h3 hmk hfine hoo hm hd hGf
          go_wp2_with (first | (refine wp_load64 DY6.out rfl rfl rfl ?_))
          refine (isNone_any m2 G2 _).mono ?_
          rintro e w7 ⟨rfl, hb7⟩
          have B7 := mkHid (below_step B6.out hb7)
          have Z7 := mkHid (Z6.out.below hb7)
          have DX7 := mkHid (DX6.out.below hb7)
          have DY7 := mkHid (DY6.out.below hb7)
          clear hb7 B6 Z6 DX6 DY6
          cases hc2 : cF z' l' with
          | none =>
            have hm2 : m2 = 0 := by rw [← HM2.out, hc2]; rfl
            have hd2 : decide (m2 = 0) = true := decide_eq_true hm2
            have e1 : Hid (widR z l z' l' st = (z, l)) := mkHid (widR_other HGO.out HSO.out HN1.out hc2)
            have HFX : Hid (∀ v, Calls Try.prog 42 #[.agg (dA m1 G1)] v fun e w' => Gives v w' e z l) := mkHid fun v => by
              obtain ⟨q0, q1, q2, q3, _, q5, q6⟩ := HFACT.out
              have := facts_yes n q1 q2 (tab n l) v
              rw [← q3, ← q6, ← q0] at this
              rw [q5, ← q0]
              exact this
            clear hm2 hc2
            rw [hd2]
            go_wp2_with (first | (refine wp_load64 DX7.out rfl rfl rfl ?_))
            refine (HFX.out _).mono ?_
            rintro e w9 ⟨ao, cap, rfl, ho, hb9⟩
            obtain ⟨⟨z0, z1⟩, z2, z3⟩ := Z7.out.below hb9
            have HE := mkHid (fun v0 v1 => Gives.shut (b := w.heap.size + 2) B7.out (by omega) Z7.out.lt ho hb9 v0 v1)
            clear hb9 ho
            go_wp2
            refine bodyPost_ret (v := .agg #[.int .i64 z, .slice ao l.length cap]) (by simp [results, Try.results11, go_sem, z0, z1]) rfl ?_
            rw [e1.out]
            exact ⟨ao, cap, rfl, (HE.out _ _).1, (HE.out _ _).2⟩
          | some g =>
            obtain ⟨k1, k2, k3⟩ := HFB.out g hc2
            have hm2 : m2 = (z'.toNat : Nat) := by rw [← HM2.out, hc2]; rfl
            have hd2 : decide (m2 = 0) = false := decide_eq_false (by omega)
            have hzz := go_same1 HGO.out HN1.out hc2
            obtain ⟨hzn, h1, h2, hmk, hfine, hm, hGf⟩ := HFACT.out
            have hto : z.toNat = n := by rw [hzn, Int.toNat_natCast]
            have hGg : G2 = grid n g := by have := HDG2.out; rw [hc2, D_some, ← hzz, hto] at this; exact (dA_inj this).2.symm
            have hm2n : m2 = (n : Int) := by rw [hm2, ← hzz, hto]
            have e1 : Hid (widR z l z' l' st = (z, mk n (widT (tab n l) g st))) := mkHid (by rw [widR_both HGO.out HSO.out HN1.out hc2, hto])
            rw [← hzz, hto] at k3
            have gfine := k3
            obtain ⟨F, hF⟩ : ∃ F, tab n l = F := ⟨_, rfl⟩
            rw [hF] at e1 hGf hfine
            have HFX : Hid (∀ v, Calls Try.prog 42 #[.agg (dA n (grid n (widP n F g st (n * n))))] v fun e w' => Gives v w' e z (mk n (widT F g st))) := mkHid fun v => by
              have h := facts_yes n h1 h2 (widP n F g st (n * n)) v
              rw [show mk n (widP n F g st (n * n)) = mk n (widT F g st) from mk_congr (fun a b ha hb => widP_all ha hb), ← hzn] at h
              rw [← hzn]
              exact h
            have HSTV : Hid (valsB st = true ∧ st.length ≤ 20) := mkHid (by
              have := HSO.out
              unfold stepsB at this
              rw [Bool.and_eq_true, Bool.and_eq_true] at this
              exact ⟨this.2.1, of_decide_eq_true this.1⟩)
            have D0X : Hid (Dif w7 X n (grid n (widP n F g st 0))) := mkHid (by rw [widP_zero, ← hGf, ← hm]; exact DX7.out)
            have D0Y : Hid (Dif w7 Y n (grid n g)) := mkHid (by rw [← hGg, ← hm2n]; exact DY7.out)
            have HGB := mkHid gfine.bd
            have HFB2 := mkHid hfine.bd
            have HH2 := mkHid h2
            have HIN := mkHid (HST.out.below B7.out); have HGS : Hid (st = [] ∨ some gs ≠ some X) := mkHid (HGSL.out.imp id (fun h => some_ne (by omega)))
            clear hm2 hc2 hzz hto hGg hm2n k1 k2 k3 gfine hfine hmk hm hGf HFACT HN1 hF DX7 DY7 HDG1 HDG2 HM1 HM2 hzn
            rw [hd2]
            have d0 := D0X.out.size
            go_wp2_with fail
            go_loopg [38] n (fun gh s wr => ∃ i : Nat, i + gh = n ∧ s = .int .i64 i ∧ Dif wr X n (grid n (widP n F g st (i * n))) ∧ Dif wr Y n (grid n g) ∧ Fz wr (w.heap.size + 2) ∧ Below w.heap.size w wr ∧ IntsIn wr st gs 0)
            case atStart => exact ⟨0, by omega, rfl, by rw [Nat.zero_mul]; exact D0X.out, D0Y.out, Z7.out, B7.out, HIN.out⟩
            case round =>
              obtain ⟨i, hig, rfl, hX, hY, hZ, hB, hI⟩ := hrel
              have PX := mkHid hX
              have PY := mkHid hY
              have PZ := mkHid hZ
              have PB := mkHid hB
              have PI := mkHid hI
              clear hX hY hZ hB hI D0X D0Y Z7 B7 HIN d0
              cases gk with
              | zero =>
                have hlt : ¬ ((i : Int) < (n : Int)) := by omega
                have e : i = n := by omega
                subst e
                go_wp2_with fail
                refine wpo_load64 PX.out rfl rfl ?_
                go_wp2_with fail
                refine (HFX.out _).mono ?_
                rintro e w9 ⟨ao, cap, rfl, ho, hb9⟩
                obtain ⟨⟨z0, z1⟩, z2, z3⟩ := PZ.out.below hb9
                have HE := mkHid (fun v0 v1 => Gives.shut (b := w.heap.size + 2) PB.out (by omega) PZ.out.lt ho hb9 v0 v1)
                clear hb9 ho
                go_wp2
                refine bodyPost_ret (v := .agg #[.int .i64 z, .slice ao (mk i (widT F g st)).length cap]) (by simp [results, Try.results11, go_sem, z0, z1]) rfl ?_
                rw [e1.out]
                exact ⟨ao, cap, rfl, (HE.out _ _).1, (HE.out _ _).2⟩
              | succ gh =>
                have hlt : (i : Int) < (n : Int) := by omega
                have d1 := PX.out.size
                go_wp2_with fail
                go_loopg [43] n (fun g2 s wr => ∃ j : Nat, j + g2 = n ∧ s = .int .i64 j ∧ Dif wr X n (grid n (widP n F g st (i * n + j))) ∧ Dif wr Y n (grid n g) ∧ Fz wr (w.heap.size + 2) ∧ Below w.heap.size w wr ∧ IntsIn wr st gs 0)
                case atStart => exact ⟨0, by omega, rfl, PX.out, PY.out, PZ.out, PB.out, PI.out⟩
                case round =>
                  obtain ⟨j, hjg, rfl, hX, hY, hZ, hB, hI⟩ := hrel
                  have QX := mkHid hX
                  have QY := mkHid hY
                  have QZ := mkHid hZ
                  have QB := mkHid hB
                  have QI := mkHid hI
                  clear hX hY hZ hB hI PX PY PZ PB PI d1
                  cases gk with
                  | zero =>
                    have hlt2 : ¬ ((j : Int) < (n : Int)) := by omega
                    have e : j = n := by omega
                    subst e
                    go_wp2
                    go_roundg gh
                    case measure => omega
                    case rel => exact ⟨i + 1, by omega, by go_num, by rw [Nat.succ_mul]; exact QX.out, QY.out, QZ.out, QB.out, QI.out⟩
                  | succ g2 =>
                    have hlt2 : (j : Int) < (n : Int) := by omega
                    have hi : i < n := by omega
                    have hj : j < n := by omega
                    have h2' := HH2.out
                    have a1 : (i : Int) < 13 := by omega
                    have a2 : (j : Int) < 13 := by omega
                    have vx := grid_V h2' (widP n F g st (i * n + j)) i j hi hj
                    rw [widP_at] at vx
                    have vy := grid_V h2' g i j hi hj
                    have cx := QX.out.at (i := i) (j := j) (by omega) (by omega) vx
                    have cy := QY.out.at (i := i) (j := j) (by omega) (by omega) vy
                    have bg := HGB.out i j hi hj
                    by_cases hgt : g i j > F i j
                    · have HNX : Hid ((grid n (widP n F g st (i * n + j))).set (i * 13 + j) (stepM (g i j) (capT i j) st) = grid n (widP n F g st (i * n + j + 1))) := mkHid (by
                        have := wid_grid h2' (f := F) (g := g) (st := st) hi hj
                        rw [show widT F g st i j = stepM (g i j) (capT i j) st from if_pos hgt] at this
                        exact this)
                      obtain ⟨x, hx⟩ : ∃ x, F i j = x := ⟨_, rfl⟩
                      obtain ⟨y, hy⟩ : ∃ y, g i j = y := ⟨_, rfl⟩
                      rw [hx] at cx hgt
                      rw [hy] at cy hgt HNX
                      have E1 := mkHid QX.out.drew
                      have E2 := mkHid QY.out.drew
                      have E3 := mkHid (QZ.out.below (Below.refl _ _).drew)
                      have E4 := mkHid QB.out.drew
                      have E5 := mkHid (QI.out.below (Below.refl _ _).drew)
                      clear hx hy vx vy bg
                      go_wp2_with fail
                      go_region_held3 (fun v => v.cell? ⟨X, 1 + i * 13 + j, none⟩ = some (.int .i64 x) ∧ v.cell? ⟨Y, 1 + i * 13 + j, none⟩ = some (.int .i64 y))
                        (first | exact ⟨cx, cy⟩)
                        (fail)
                      clear QX QY QZ QB QI
                      obtain ⟨wd, hwd⟩ : ∃ wd, wr.drew = wd := ⟨_, rfl⟩
                      rw [hwd] at E1 E2 E3 E4 E5
                      rw [show wr.cell? ⟨Y, 1 + i * 13 + j, none⟩ = wd.cell? ⟨Y, 1 + i * 13 + j, none⟩ by rw [← hwd]; rfl] at cy
                      rw [show wr.cell? ⟨X, 1 + i * 13 + j, none⟩ = wd.cell? ⟨X, 1 + i * 13 + j, none⟩ by rw [← hwd]; rfl] at cx
                      have HWD := mkHid hwd
                      have fx := E1.out.free (o := 1 + i * 13 + j) (by omega)
                      have fxd : wd.drew.frozen? ⟨X, 1 + i * 13 + j, none⟩ = false := fx
                      clear hwd
                      go_wp2_with fail
                      try rw [HWD.out]
                      have HSY : Hid (∀ u, (wd.drew.setCell ⟨X, 1 + i * 13 + j, none⟩ u).cell? ⟨Y, 1 + i * 13 + j, none⟩ = some (.int .i64 y)) := mkHid fun u => by
                        rw [World.cell?_setCell_far _ _ _ _ hXY]; exact cy
                      go_region_held3 (fun v => v.cell? ⟨Y, 1 + i * 13 + j, none⟩ = some (.int .i64 y))
                        (first | exact cy | exact HSY.out _)
                        (first | (go_at_call 48; refine (iCap_any i j _).mono ?_; rintro e w' ⟨rfl, rfl⟩) | (go_at_call 47; refine (iStep_any y (capT i j) st _ _ _ HSTV.out.1 HSTV.out.2 (E5.out.below (Below.refl _ _).drew).at).mono ?_; rintro e w' ⟨rfl, rfl⟩))
                      have gr := grown_setCell wd ⟨X, 1 + i * 13 + j, none⟩ (.int .i64 (stepM y (capT i j) st))
                      have K0 := E1.out.put (i := i) (j := j) (by omega) (by omega) (stepM y (capT i j) st)
                      rw [HNX.out] at K0
                      have K1 := mkHid K0.drew
                      have K2 := mkHid (E2.out.grown gr (some_ne (fun e => hXY e.symm))).drew
                      have K3 := mkHid ((E3.out.grown gr (some_ne (by show w.heap.size + 2 ≠ X; omega))).below (Below.refl _ _).drew)
                      have K4 := mkHid (E4.out.grown gr E4.out.size (fun q hq => by cases hq; show w.heap.size ≤ X; omega)).drew
                      have K5 := mkHid ((IntsIn.grown E5.out gr HGS.out).below (Below.refl _ _).drew)
                      clear gr K0 E1 E2 E3 E4 E5 cx cy fx fxd HNX HSY
                      go_wp2
                      go_roundg g2
                      case measure => omega
                      case rel => exact ⟨j + 1, by omega, by go_num, K1.out, K2.out, K3.out, K4.out, K5.out⟩
                    · have HNX : Hid (grid n (widP n F g st (i * n + j)) = grid n (widP n F g st (i * n + j + 1))) := mkHid (wid_same h2' hj (by omega))
                      obtain ⟨x, hx⟩ : ∃ x, F i j = x := ⟨_, rfl⟩
                      obtain ⟨y, hy⟩ : ∃ y, g i j = y := ⟨_, rfl⟩
                      rw [hx] at cx hgt
                      rw [hy] at cy hgt
                      have E1 := mkHid QX.out.drew
                      rw [HNX.out] at E1
                      have E2 := mkHid QY.out.drew
                      have E3 := mkHid (QZ.out.below (Below.refl _ _).drew)
                      have E4 := mkHid QB.out.drew
                      have E5 := mkHid (QI.out.below (Below.refl _ _).drew)
                      clear hx hy vx vy bg
                      go_wp2_with fail
                      go_region_held3 (fun v => v.cell? ⟨X, 1 + i * 13 + j, none⟩ = some (.int .i64 x) ∧ v.cell? ⟨Y, 1 + i * 13 + j, none⟩ = some (.int .i64 y))
                        (first | exact ⟨cx, cy⟩)
                        (fail)
                      clear QX QY QZ QB QI cx cy
                      go_wp2
                      go_roundg g2
                      case measure => omega
                      case rel => exact ⟨j + 1, by omega, by go_num, E1.out, E2.out, E3.out, E4.out, E5.out⟩
end Go.Proofs.Ytgclngofigffdaa
