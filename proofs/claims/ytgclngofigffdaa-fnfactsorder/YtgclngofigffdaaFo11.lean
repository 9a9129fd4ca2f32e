/-
  CONTRACT of the program's FactsJoin.
-/
import Derived.Test.YtgclngofigffdaaFo08
import Derived.Test.YtgclngofigffdaaFo10
import Derived.Test.YtgclngofigffdaaFo06
namespace Go.Proofs.Ytgclngofigffdaa
open Go.RowKit

/-- What FactsJoin answers: a number and a row. -/
def joinR (z : Int) (l : List Int) (z' : Int) (l' : List Int) : Int × List Int :=
  if goB z l z' l' then (match cF z l with
    | none => (outZ (cF z' l') z'.toNat, outL (cF z' l') z'.toNat)
    | some f => match cF z' l' with
      | none => ((z.toNat : Int), mk z.toNat f)
      | some g => ((z.toNat : Int), mk z.toNat (fun a b => max (f a b) (g a b)))) else (0, [])
theorem joinR_len (z : Int) (l : List Int) (z' : Int) (l' : List Int) : (joinR z l z' l').2.length ≤ 169 := by
  unfold joinR
  split
  · cases h1 : cF z l with
    | none => exact outL_len (cF_fine z' l').good
    | some f =>
      have := (cF_fine z l f h1).2.1
      cases cF z' l' with
      | none => simp only [mk_len]; exact sq_le this
      | some g => simp only [mk_len]; exact sq_le this
  · simp
theorem joinR_no {z z' : Int} {l l' : List Int} (h : goB z l z' l' = false) : joinR z l z' l' = (0, []) := by unfold joinR; rw [h]; rfl
theorem joinR_one {z z' : Int} {l l' : List Int} (h : goB z l z' l' = true) (h1 : cF z l = none) : joinR z l z' l' = (outZ (cF z' l') z'.toNat, outL (cF z' l') z'.toNat) := by unfold joinR; rw [h, h1]; rfl
theorem joinR_other {z z' : Int} {l l' : List Int} {f : Tab} (h : goB z l z' l' = true) (h1 : cF z l = some f) (h2 : cF z' l' = none) : joinR z l z' l' = ((z.toNat : Int), mk z.toNat f) := by unfold joinR; rw [h, h1, h2]; rfl
theorem joinR_both {z z' : Int} {l l' : List Int} {f g : Tab} (h : goB z l z' l' = true) (h1 : cF z l = some f) (h2 : cF z' l' = some g) : joinR z l z' l' = ((z.toNat : Int), mk z.toNat (fun a b => max (f a b) (g a b))) := by unfold joinR; rw [h, h1, h2]; rfl
theorem Dif.thereG {w : World} {b : Nat} {n : Int} {G : List Int} (h : Dif w b n G) : w.there b 1 169 := fun j hj => by
  have := h.there (1 + j) (by omega)
  rwa [show 0 + (1 + j) = 1 + j by omega] at this
theorem D_some (n : Nat) (f : Tab) : D n (some f) = dA n (grid n f) := rfl
theorem dA_inj {m m' : Int} {G G' : List Int} (h : dA m G = dA m' G') : m = m' ∧ G = G' := by
  have h2 : dL m G = dL m' G' := by have := congrArg Array.toList h; simpa [dA] using this
  have h0 := List.cons.inj h2
  refine ⟨by have := h0.1; cases this; rfl, ?_⟩
  have h3 : ints G = ints G' := h0.2
  apply List.ext_getElem?
  intro p
  have h4 : (ints G)[p]? = (ints G')[p]? := by rw [h3]
  rw [ints_get, ints_get] at h4
  cases h5 : G[p]? <;> cases h6 : G'[p]? <;> simp [h5, h6] at h4 ⊢
  exact h4
set_option maxRecDepth 100000 in
set_option maxHeartbeats 3200000 in
theorem iJoin_any (z : Int) (l : List Int) (a : Option Addr) (c : Nat) (z' : Int) (l' : List Int) (a' : Option Addr) (c' : Nat) (w : World) (hcc : l.length ≤ c) (hcc' : l'.length ≤ c') (hl : IntsAt w a l) (hl' : IntsAt w a' l') : Calls Try.prog 9 #[.agg #[.int .i64 z, .slice a l.length c], .agg #[.int .i64 z', .slice a' l'.length c']] w fun e w' => Gives w w' e (joinR z l z' l').1 (joinR z l z' l').2 := by
  have HL := mkHid hl
  have HL' := mkHid hl'
  have B0 := mkHid ((((Below.refl w.heap.size w).alloc (Nat.le_refl _) (.cells #[.int .i64 z, .slice a l.length c] 26)).alloc (by simp) (.cells #[.int .i64 z', .slice a' l'.length c'] 26)).alloc (by simp; omega) (.cells #[.int .i64 0, .slice none 0 0] 26))
  have T0 : Hid (Fc (((w.alloc (.cells #[.int .i64 z, .slice a l.length c] 26)).alloc (.cells #[.int .i64 z', .slice a' l'.length c'] 26)).alloc (.cells #[.int .i64 0, .slice none 0 0] 26)) w.heap.size z a l.length c) := mkHid (((Fc.new w z a l.length c 26).alloc _).alloc _)
  have U0 : Hid (Fc (((w.alloc (.cells #[.int .i64 z, .slice a l.length c] 26)).alloc (.cells #[.int .i64 z', .slice a' l'.length c'] 26)).alloc (.cells #[.int .i64 0, .slice none 0 0] 26)) (w.heap.size + 1) z' a' l'.length c') := mkHid (by have := (Fc.new (w.alloc (.cells #[.int .i64 z, .slice a l.length c] 26)) z' a' l'.length c' 26).alloc (.cells #[.int .i64 0, .slice none 0 0] 26); simpa using this)
  have Z0 : Hid (Fz (((w.alloc (.cells #[.int .i64 z, .slice a l.length c] 26)).alloc (.cells #[.int .i64 z', .slice a' l'.length c'] 26)).alloc (.cells #[.int .i64 0, .slice none 0 0] 26)) (w.heap.size + 2)) := mkHid (by have := Fz.new ((w.alloc (.cells #[.int .i64 z, .slice a l.length c] 26)).alloc (.cells #[.int .i64 z', .slice a' l'.length c'] 26)); simpa using this)
  have HDA : Hid (∀ v, IntsAt v a l → Calls Try.prog 39 #[.agg #[.int .i64 z, .slice a l.length c]] v fun e w' => e = .returned (.agg (D z.toNat (okO z l))) ∧ Below v.heap.size v w') := mkHid fun v hv => diffsD z l a c v hcc hv
  have HDB : Hid (∀ v, IntsAt v a' l' → Calls Try.prog 39 #[.agg #[.int .i64 z', .slice a' l'.length c']] v fun e w' => e = .returned (.agg (D z'.toNat (okO z' l'))) ∧ Below v.heap.size v w') := mkHid fun v hv => diffsD z' l' a' c' v hcc' hv
  have HCA : Hid (∀ v, Calls Try.prog 40 #[.agg (D z.toNat (okO z l))] v fun e w' => e = .returned (.agg (D z.toNat (cF z l))) ∧ Below v.heap.size v w') := mkHid fun v => closedD z.toNat (okO z l) (okO_fine z l).good v
  have HCB : Hid (∀ v, Calls Try.prog 40 #[.agg (D z'.toNat (okO z' l'))] v fun e w' => e = .returned (.agg (D z'.toNat (cF z' l'))) ∧ Below v.heap.size v w') := mkHid fun v => closedD z'.toNat (okO z' l') (okO_fine z' l').good v
  obtain ⟨G1, hG1, hGl1⟩ := D_out z.toNat (cF z l)
  obtain ⟨G2, hG2, hGl2⟩ := D_out z'.toNat (cF z' l')
  obtain ⟨m1, hm1⟩ : ∃ m, outZ (cF z l) z.toNat = m := ⟨_, rfl⟩
  obtain ⟨m2, hm2⟩ : ∃ m, outZ (cF z' l') z'.toNat = m := ⟨_, rfl⟩
  rw [hm1] at hG1
  rw [hm2] at hG2
  rw [hG1] at HCA
  rw [hG2] at HCB
  have HDG1 := mkHid hG1
  have HDG2 := mkHid hG2
  have HM1 := mkHid hm1
  have HM2 := mkHid hm2
  have HG1 := mkHid hGl1
  have HG2 := mkHid hGl2
  have HFA := mkHid (cF_fine z l)
  have HFB := mkHid (cF_fine z' l')
  obtain ⟨DA1, hDA1⟩ : ∃ D1, D z.toNat (okO z l) = D1 := ⟨_, rfl⟩
  rw [hDA1] at HDA HCA
  obtain ⟨DB1, hDB1⟩ : ∃ D1, D z'.toNat (okO z' l') = D1 := ⟨_, rfl⟩
  rw [hDB1] at HDB HCB
  have hzc := zc64
  clear hl hl' hcc hcc' hG1 hG2 hGl1 hGl2 hm1 hm2 hDA1 hDB1
  go_enter Try.func9, Try.ntmps9
  go_wp2_with fail
  refine (iGo_any z l a c z' l' a' c' _ (HL.out.below B0.out) (HL'.out.below B0.out)).mono ?_
  rintro e w4 ⟨rfl, hb⟩
  have B4 := mkHid (below_step B0.out hb)
  have T4 := mkHid (T0.out.below hb)
  have U4 := mkHid (U0.out.below hb)
  have Z4 := mkHid (Z0.out.below hb)
  clear hb B0 T0 U0 Z0
  cases hgo : goB z l z' l'
  · have e1 : Hid (joinR z l z' l' = (0, [])) := mkHid (joinR_no hgo)
    obtain ⟨⟨z0, z1⟩, z2, z3⟩ := Z4.out
    go_wp2
    refine bodyPost_ret (v := .agg #[.int .i64 0, .slice none 0 0]) (by simp [results, Try.results9, go_sem, z0, z1]) rfl ?_
    rw [e1.out]
    exact ⟨none, 0, rfl, OwnI.nil _ _, none_shut B4.out (by omega) _ _⟩
  · have HGO := mkHid hgo
    clear hgo
    go_wp2_with fail
    refine wp_region_inv2 (fun zA0 L zA v => ∃ (zB : Nat → Bool) (zS : Nat → Value) (X : Nat) (Y : Nat), L = #[zB 0, zB 1, zB 2, zB 3, zB 4, zB 5, zB 6, zB 7, zB 8, zB 9] ∧ zA = puts zA0 [(12, zS 12), (13, zS 13), (14, zS 14), (15, zS 15), (16, zS 16), (17, zS 17), (5, zS 5), (6, zS 6)] ∧ ((zB 0 = true → zS 12 = .agg #[.int .i64 z, .slice a l.length c]) ∧ (zB 1 = true → zS 13 = .agg DA1) ∧ (zB 2 = true → zS 14 = .agg (dA m1 G1)) ∧ (zB 3 = true → zS 15 = .agg #[.int .i64 z', .slice a' l'.length c']) ∧ (zB 4 = true → zS 16 = .agg DB1) ∧ (zB 5 = true → zS 17 = .agg (dA m2 G2)) ∧ (zB 6 = true → zS 5 = .pointer (some ⟨X, 0, none⟩)) ∧ (zB 7 = true → zS 6 = .pointer (some ⟨Y, 0, none⟩))) ∧ Two w4 (zB 6) (zB 7) (zB 8) (zB 9) X Y m1 G1 m2 G2 v) (by kernel_rfl) ?_ ?_ ?_
    · exact ⟨fun _ => false, fun _ => undef, 0, 0, rfl, by kernel_rfl, ⟨fun e => ft e, fun e => ft e, fun e => ft e, fun e => ft e, fun e => ft e, fun e => ft e, fun e => ft e, fun e => ft e⟩, Two.start (Below.refl _ _).drew⟩
    · refine StepsI.cons rfl ?_ ?_
      · rintro L zA v ⟨zB, zS, X, Y, rfl, rfl, hF, hW⟩ hL hm K hK
        have hb0 : zB 0 = false := by simpa using hL
        clear hL hm
        simp only [puts, Act.put, List.setIfInBounds_toArray, List.set_cons_zero, List.set_cons_succ]
        obtain ⟨q0, q1⟩ := T4.out.below hW.bel
        go_simp
        exact hK.out _ _ ⟨fun zj => if zj = 0 then true else zB zj, fun zd => if zd = 12 then .agg #[.int .i64 z, .slice a l.length c] else zS zd, X, Y, rfl, by kernel_rfl, ⟨fun _ => rfl, hF.2.1, hF.2.2.1, hF.2.2.2.1, hF.2.2.2.2.1, hF.2.2.2.2.2.1, hF.2.2.2.2.2.2.1, hF.2.2.2.2.2.2.2⟩, hW⟩
      refine StepsI.cons rfl ?_ ?_
      · rintro L zA v ⟨zB, zS, X, Y, rfl, rfl, hF, hW⟩ hL hm K hK
        have hb1 : zB 1 = false := by simpa using hL
        have hb0 : zB 0 = true := by cases e : zB 0 with | false => (exfalso; revert hm; simp [metB, Region.binds, e]) | true => rfl
        have e0 : zS 12 = .agg #[.int .i64 z, .slice a l.length c] := hF.1 hb0
        clear hL hm
        simp only [puts, Act.put, List.setIfInBounds_toArray, List.set_cons_zero, List.set_cons_succ]
        simp only [e0]
        go_simp
        refine (HDA.out _ (HL.out.below (below_step B4.out hW.bel))).mono ?_
        rintro e v2 ⟨rfl, hb⟩
        go_wp2_with fail
        exact hK.out _ _ ⟨fun zj => if zj = 0 then true else if zj = 1 then true else zB zj, fun zd => if zd = 13 then .agg DA1 else if zd = 12 then .agg #[.int .i64 z, .slice a l.length c] else zS zd, X, Y, by simp [hb0], by kernel_rfl, ⟨fun _ => rfl, fun _ => rfl, hF.2.2.1, hF.2.2.2.1, hF.2.2.2.2.1, hF.2.2.2.2.2.1, hF.2.2.2.2.2.2.1, hF.2.2.2.2.2.2.2⟩, hW.below hb⟩
      refine StepsI.cons rfl ?_ ?_
      · rintro L zA v ⟨zB, zS, X, Y, rfl, rfl, hF, hW⟩ hL hm K hK
        have hb2 : zB 2 = false := by simpa using hL
        have hb1 : zB 1 = true := by cases e : zB 1 with | false => (exfalso; revert hm; simp [metB, Region.binds, e]) | true => rfl
        have e1 : zS 13 = .agg DA1 := hF.2.1 hb1
        clear hL hm
        simp only [puts, Act.put, List.setIfInBounds_toArray, List.set_cons_zero, List.set_cons_succ]
        simp only [e1]
        go_simp
        refine (HCA.out _).mono ?_
        rintro e v2 ⟨rfl, hb⟩
        go_wp2_with fail
        exact hK.out _ _ ⟨fun zj => if zj = 1 then true else if zj = 2 then true else zB zj, fun zd => if zd = 14 then .agg (dA m1 G1) else if zd = 13 then .agg DA1 else zS zd, X, Y, by simp [hb1], by kernel_rfl, ⟨hF.1, fun _ => rfl, fun _ => rfl, hF.2.2.2.1, hF.2.2.2.2.1, hF.2.2.2.2.2.1, hF.2.2.2.2.2.2.1, hF.2.2.2.2.2.2.2⟩, hW.below hb⟩
      refine StepsI.cons rfl ?_ ?_
      · rintro L zA v ⟨zB, zS, X, Y, rfl, rfl, hF, hW⟩ hL hm K hK
        have hb3 : zB 3 = false := by simpa using hL
        clear hL hm
        simp only [puts, Act.put, List.setIfInBounds_toArray, List.set_cons_zero, List.set_cons_succ]
        obtain ⟨q0, q1⟩ := U4.out.below hW.bel
        go_simp
        exact hK.out _ _ ⟨fun zj => if zj = 3 then true else zB zj, fun zd => if zd = 15 then .agg #[.int .i64 z', .slice a' l'.length c'] else zS zd, X, Y, rfl, by kernel_rfl, ⟨hF.1, hF.2.1, hF.2.2.1, fun _ => rfl, hF.2.2.2.2.1, hF.2.2.2.2.2.1, hF.2.2.2.2.2.2.1, hF.2.2.2.2.2.2.2⟩, hW⟩
      refine StepsI.cons rfl ?_ ?_
      · rintro L zA v ⟨zB, zS, X, Y, rfl, rfl, hF, hW⟩ hL hm K hK
        have hb4 : zB 4 = false := by simpa using hL
        have hb3 : zB 3 = true := by cases e : zB 3 with | false => (exfalso; revert hm; simp [metB, Region.binds, e]) | true => rfl
        have e3 : zS 15 = .agg #[.int .i64 z', .slice a' l'.length c'] := hF.2.2.2.1 hb3
        clear hL hm
        simp only [puts, Act.put, List.setIfInBounds_toArray, List.set_cons_zero, List.set_cons_succ]
        simp only [e3]
        go_simp
        refine (HDB.out _ (HL'.out.below (below_step B4.out hW.bel))).mono ?_
        rintro e v2 ⟨rfl, hb⟩
        go_wp2_with fail
        exact hK.out _ _ ⟨fun zj => if zj = 3 then true else if zj = 4 then true else zB zj, fun zd => if zd = 16 then .agg DB1 else if zd = 15 then .agg #[.int .i64 z', .slice a' l'.length c'] else zS zd, X, Y, by simp [hb3], by kernel_rfl, ⟨hF.1, hF.2.1, hF.2.2.1, fun _ => rfl, fun _ => rfl, hF.2.2.2.2.2.1, hF.2.2.2.2.2.2.1, hF.2.2.2.2.2.2.2⟩, hW.below hb⟩
      refine StepsI.cons rfl ?_ ?_
      · rintro L zA v ⟨zB, zS, X, Y, rfl, rfl, hF, hW⟩ hL hm K hK
        have hb5 : zB 5 = false := by simpa using hL
        have hb4 : zB 4 = true := by cases e : zB 4 with | false => (exfalso; revert hm; simp [metB, Region.binds, e]) | true => rfl
        have e4 : zS 16 = .agg DB1 := hF.2.2.2.2.1 hb4
        clear hL hm
        simp only [puts, Act.put, List.setIfInBounds_toArray, List.set_cons_zero, List.set_cons_succ]
        simp only [e4]
        go_simp
        refine (HCB.out _).mono ?_
        rintro e v2 ⟨rfl, hb⟩
        go_wp2_with fail
        exact hK.out _ _ ⟨fun zj => if zj = 4 then true else if zj = 5 then true else zB zj, fun zd => if zd = 17 then .agg (dA m2 G2) else if zd = 16 then .agg DB1 else zS zd, X, Y, by simp [hb4], by kernel_rfl, ⟨hF.1, hF.2.1, hF.2.2.1, hF.2.2.2.1, fun _ => rfl, fun _ => rfl, hF.2.2.2.2.2.2.1, hF.2.2.2.2.2.2.2⟩, hW.below hb⟩
      refine StepsI.cons rfl ?_ ?_
      · rintro L zA v ⟨zB, zS, X, Y, rfl, rfl, hF, hW⟩ hL hm K hK
        have hb6 : zB 6 = false := by simpa using hL
        clear hL hm
        rw [hb6] at hW
        simp only [puts, Act.put, List.setIfInBounds_toArray, List.set_cons_zero, List.set_cons_succ]
        go_simp
        exact hK.out _ _ ⟨fun zj => if zj = 6 then true else zB zj, fun zd => if zd = 5 then .pointer (some ⟨v.heap.size, 0, none⟩) else zS zd, v.heap.size, Y, rfl, by kernel_rfl, ⟨hF.1, hF.2.1, hF.2.2.1, hF.2.2.2.1, hF.2.2.2.2.1, hF.2.2.2.2.2.1, fun _ => rfl, hF.2.2.2.2.2.2.2⟩, hW.allocA⟩
      refine StepsI.cons rfl ?_ ?_
      · rintro L zA v ⟨zB, zS, X, Y, rfl, rfl, hF, hW⟩ hL hm K hK
        have hb7 : zB 7 = false := by simpa using hL
        clear hL hm
        rw [hb7] at hW
        simp only [puts, Act.put, List.setIfInBounds_toArray, List.set_cons_zero, List.set_cons_succ]
        go_simp
        exact hK.out _ _ ⟨fun zj => if zj = 7 then true else zB zj, fun zd => if zd = 6 then .pointer (some ⟨v.heap.size, 0, none⟩) else zS zd, X, v.heap.size, rfl, by kernel_rfl, ⟨hF.1, hF.2.1, hF.2.2.1, hF.2.2.2.1, hF.2.2.2.2.1, hF.2.2.2.2.2.1, hF.2.2.2.2.2.2.1, fun _ => rfl⟩, hW.allocB⟩
      refine StepsI.cons rfl ?_ ?_
      · rintro L zA v ⟨zB, zS, X, Y, rfl, rfl, hF, hW⟩ hL hm K hK
        have hb8 : zB 8 = false := by simpa using hL
        have hb2 : zB 2 = true := by cases e : zB 2 with | false => (exfalso; revert hm; simp [metB, Region.binds, e]) | true => rfl
        have hb6 : zB 6 = true := by cases e : zB 6 with | false => (exfalso; revert hm; simp [metB, Region.binds, e]) | true => rfl
        have e2 : zS 14 = .agg (dA m1 G1) := hF.2.2.1 hb2
        have e6 : zS 5 = .pointer (some ⟨X, 0, none⟩) := hF.2.2.2.2.2.2.1 hb6
        clear hL hm
        rw [hb8] at hW
        rw [hb6] at hW
        simp only [puts, Act.put, List.setIfInBounds_toArray, List.set_cons_zero, List.set_cons_succ]
        simp only [e2, e6]
        rw [if_pos (by rfl)]
        refine wp_store_mid 59 _ _ rfl X 0 (dA m1 G1) rfl rfl (by rw [dA_size HG1.out]; exact (hW.a rfl).2.there) (by rw [dA_size HG1.out]; exact size64) (all_oneCell_toArray dL_one) ?_
        rw [show (dA m1 G1).toList = dL m1 G1 from rfl]
        simp only [Act.put]
        exact hK.out _ _ ⟨fun zj => if zj = 6 then true else if zj = 2 then true else if zj = 8 then true else zB zj, fun zd => if zd = 5 then .pointer (some ⟨X, 0, none⟩) else if zd = 14 then .agg (dA m1 G1) else zS zd, X, Y, by simp [hb2, hb6], by kernel_rfl, ⟨hF.1, hF.2.1, fun _ => rfl, hF.2.2.2.1, hF.2.2.2.2.1, hF.2.2.2.2.2.1, fun _ => rfl, hF.2.2.2.2.2.2.2⟩, hW.storeA HG1.out⟩
      refine StepsI.cons rfl ?_ ?_
      · rintro L zA v ⟨zB, zS, X, Y, rfl, rfl, hF, hW⟩ hL hm K hK
        have hb9 : zB 9 = false := by simpa using hL
        have hb5 : zB 5 = true := by cases e : zB 5 with | false => (exfalso; revert hm; simp [metB, Region.binds, e]) | true => rfl
        have hb7 : zB 7 = true := by cases e : zB 7 with | false => (exfalso; revert hm; simp [metB, Region.binds, e]) | true => rfl
        have e5 : zS 17 = .agg (dA m2 G2) := hF.2.2.2.2.2.1 hb5
        have e7 : zS 6 = .pointer (some ⟨Y, 0, none⟩) := hF.2.2.2.2.2.2.2 hb7
        clear hL hm
        rw [hb9] at hW
        rw [hb7] at hW
        simp only [puts, Act.put, List.setIfInBounds_toArray, List.set_cons_zero, List.set_cons_succ]
        simp only [e5, e7]
        rw [if_pos (by rfl)]
        refine wp_store_mid 59 _ _ rfl Y 0 (dA m2 G2) rfl rfl (by rw [dA_size HG2.out]; exact (hW.b rfl).2.there) (by rw [dA_size HG2.out]; exact size64) (all_oneCell_toArray dL_one) ?_
        rw [show (dA m2 G2).toList = dL m2 G2 from rfl]
        simp only [Act.put]
        exact hK.out _ _ ⟨fun zj => if zj = 7 then true else if zj = 5 then true else if zj = 9 then true else zB zj, fun zd => if zd = 6 then .pointer (some ⟨Y, 0, none⟩) else if zd = 17 then .agg (dA m2 G2) else zS zd, X, Y, by simp [hb5, hb7], by kernel_rfl, ⟨hF.1, hF.2.1, hF.2.2.1, hF.2.2.2.1, hF.2.2.2.2.1, fun _ => rfl, hF.2.2.2.2.2.2.1, fun _ => rfl⟩, hW.storeB HG2.out⟩
      exact StepsI.nil (by kernel_rfl)
    · rintro L zA v ⟨zB, zS, X, Y, rfl, rfl, hF, hW⟩ hr
      have hu := all_up (by kernel_rfl) (N := 10) (by kernel_rfl) hr
      have hb0 : zB 0 = true := by simpa using hu 0 (by decide)
      have hb1 : zB 1 = true := by simpa using hu 1 (by decide)
      have hb2 : zB 2 = true := by simpa using hu 2 (by decide)
      have hb3 : zB 3 = true := by simpa using hu 3 (by decide)
      have hb4 : zB 4 = true := by simpa using hu 4 (by decide)
      have hb5 : zB 5 = true := by simpa using hu 5 (by decide)
      have hb6 : zB 6 = true := by simpa using hu 6 (by decide)
      have hb7 : zB 7 = true := by simpa using hu 7 (by decide)
      have hb8 : zB 8 = true := by simpa using hu 8 (by decide)
      have hb9 : zB 9 = true := by simpa using hu 9 (by decide)
      have e0 : zS 12 = .agg #[.int .i64 z, .slice a l.length c] := hF.1 hb0
      have e1 : zS 13 = .agg DA1 := hF.2.1 hb1
      have e2 : zS 14 = .agg (dA m1 G1) := hF.2.2.1 hb2
      have e3 : zS 15 = .agg #[.int .i64 z', .slice a' l'.length c'] := hF.2.2.2.1 hb3
      have e4 : zS 16 = .agg DB1 := hF.2.2.2.2.1 hb4
      have e5 : zS 17 = .agg (dA m2 G2) := hF.2.2.2.2.2.1 hb5
      have e6 : zS 5 = .pointer (some ⟨X, 0, none⟩) := hF.2.2.2.2.2.2.1 hb6
      have e7 : zS 6 = .pointer (some ⟨Y, 0, none⟩) := hF.2.2.2.2.2.2.2 hb7
      rw [hb6] at hW
      rw [hb7] at hW
      rw [hb8] at hW
      rw [hb9] at hW
      clear hu hr hF
      simp only [puts, Act.put, List.setIfInBounds_toArray, List.set_cons_zero, List.set_cons_succ]
      simp only [e0, e1, e2, e3, e4, e5, e6, e7]
      clear e0 e1 e2 e3 e4 e5 e6 e7
      clear hb0 hb1 hb2 hb3 hb4 hb5 hb6 hb7 hb8 hb9
      clear zB zS
      have hT := hW.all
      obtain ⟨hb5, hX0, hY0, hXY, hDX, hDY⟩ := hT
      have B5 := mkHid (below_step B4.out hb5)
      have Z5 := mkHid (Z4.out.below hb5)
      have DX := mkHid hDX
      have DY := mkHid hDY
      have s4 := Z4.out.lt
      have hwX : w.heap.size + 2 < X := by omega
      have hwY : w.heap.size + 2 < Y := by omega
      clear hb5 hX0 hY0 hDX hDY hW s4 B4 Z4 T4 U4
      go_wp2_with (first | (refine wp_load64 DX.out rfl rfl rfl ?_))
      refine (isNone_any m1 G1 _).mono ?_
      rintro e w6 ⟨rfl, hb6⟩
      have B6 := mkHid (below_step B5.out hb6)
      have Z6 := mkHid (Z5.out.below hb6)
      have DX6 := mkHid (DX.out.below hb6)
      have DY6 := mkHid (DY.out.below hb6)
      clear hb6 B5 Z5 DX DY
      cases hc1 : cF z l with
      | none =>
        have hm : m1 = 0 := by rw [← HM1.out, hc1]; rfl
        have hd : decide (m1 = 0) = true := decide_eq_true hm
        have e1 : Hid (joinR z l z' l' = (outZ (cF z' l') z'.toNat, outL (cF z' l') z'.toNat)) := mkHid (joinR_one HGO.out hc1)
        clear hm hc1
        rw [hd]
        go_wp2_with (first | (refine wp_load64 DY6.out rfl rfl rfl ?_))
        refine (show Calls Try.prog 42 #[.agg (dA m2 G2)] _ _ by rw [show dA m2 G2 = D z'.toNat (cF z' l') from HDG2.out.symm]; exact factsD z'.toNat _ HFB.out.good _).mono ?_
        rintro e w9 ⟨ao, cap, rfl, ho, hb9⟩
        obtain ⟨⟨z0, z1⟩, z2, z3⟩ := Z6.out.below hb9
        have HE := mkHid (fun v0 v1 => Gives.shut (b := w.heap.size + 2) B6.out (by omega) Z6.out.lt ho hb9 v0 v1)
        clear hb9 ho
        go_wp2
        refine bodyPost_ret (v := .agg #[.int .i64 (outZ (cF z' l') z'.toNat), .slice ao (outL (cF z' l') z'.toNat).length cap]) (by simp [results, Try.results9, go_sem, z0, z1]) rfl ?_
        rw [e1.out]
        exact ⟨ao, cap, rfl, (HE.out _ _).1, (HE.out _ _).2⟩
      | some f =>
        obtain ⟨h1, h2, h3⟩ := HFA.out f hc1
        have hm : m1 = (z.toNat : Nat) := by rw [← HM1.out, hc1]; rfl
        have hd : decide (m1 = 0) = false := decide_eq_false (by omega)
        rw [hd]
        have HC1 := mkHid hc1
        have hGf : G1 = grid z.toNat f := by have := HDG1.out; rw [hc1, D_some] at this; exact (dA_inj this).2.symm
        go_wp2_with (first | (refine wp_load64 DY6.out rfl rfl rfl ?_))
        refine (isNone_any m2 G2 _).mono ?_
        rintro e w7 ⟨rfl, hb7⟩
        have B7 := mkHid (below_step B6.out hb7)
        have Z7 := mkHid (Z6.out.below hb7)
        have DX7 := mkHid (DX6.out.below hb7)
        have DY7 := mkHid (DY6.out.below hb7)
        clear hb7 B6 Z6 DX6 DY6
        cases hc2 : cF z' l' with
        | none =>
          have hm2 : m2 = 0 := by rw [← HM2.out, hc2]; rfl
          have hd2 : decide (m2 = 0) = true := decide_eq_true hm2
          have e1 : Hid (joinR z l z' l' = ((z.toNat : Int), mk z.toNat f)) := mkHid (joinR_other HGO.out hc1 hc2)
          have HFX : Hid (∀ v, Calls Try.prog 42 #[.agg (dA m1 G1)] v fun e w' => Gives v w' e (z.toNat : Nat) (mk z.toNat f)) := mkHid fun v => by rw [hm, hGf]; exact facts_yes z.toNat h1 h2 f v
          clear hm2 hc2 hc1 hm hGf h1 h2 h3
          rw [hd2]
          go_wp2_with (first | (refine wp_load64 DX7.out rfl rfl rfl ?_))
          refine (HFX.out _).mono ?_
          rintro e w9 ⟨ao, cap, rfl, ho, hb9⟩
          obtain ⟨⟨z0, z1⟩, z2, z3⟩ := Z7.out.below hb9
          have HE := mkHid (fun v0 v1 => Gives.shut (b := w.heap.size + 2) B7.out (by omega) Z7.out.lt ho hb9 v0 v1)
          clear hb9 ho
          go_wp2
          refine bodyPost_ret (v := .agg #[.int .i64 (z.toNat : Nat), .slice ao (mk z.toNat f).length cap]) (by simp [results, Try.results9, go_sem, z0, z1]) rfl ?_
          rw [e1.out]
          exact ⟨ao, cap, rfl, (HE.out _ _).1, (HE.out _ _).2⟩
        | some g =>
          obtain ⟨k1, k2, k3⟩ := HFB.out g hc2
          have hm2 : m2 = (z'.toNat : Nat) := by rw [← HM2.out, hc2]; rfl
          have hd2 : decide (m2 = 0) = false := decide_eq_false (by omega)
          obtain ⟨hzz, _⟩ := go_same HGO.out hc1 hc2
          have hGg : G2 = grid z.toNat g := by have := HDG2.out; rw [hc2, D_some, ← hzz] at this; exact (dA_inj this).2.symm
          have e1 : Hid (joinR z l z' l' = ((z.toNat : Int), mk z.toNat (fun a b => max (f a b) (g a b)))) := mkHid (joinR_both HGO.out hc1 hc2)
          have HOP : opL max G1 G2 = grid z.toNat (fun a b => max (f a b) (g a b)) := by rw [hGf, hGg]; exact grid_op h2 f g max rfl
          have HGR : Hid (∀ v, Calls Try.prog 43 #[.agg (gA G1), .agg (gA G2)] v fun e w' => e = .returned (.agg (gA (opL max G1 G2))) ∧ Below v.heap.size v w') := mkHid fun v => greater_any G1 G2 HG1.out HG2.out v
          have HFX : Hid (∀ v, Calls Try.prog 42 #[.agg (dA m1 (opL max G1 G2))] v fun e w' => Gives v w' e (z.toNat : Nat) (mk z.toNat (fun a b => max (f a b) (g a b)))) := mkHid fun v => by rw [hm, HOP]; exact facts_yes z.toNat h1 h2 _ v
          have HG3 := mkHid (opL_len max G1 G2)
          obtain ⟨G3, hG3⟩ : ∃ G3, opL max G1 G2 = G3 := ⟨_, rfl⟩
          rw [hG3] at HGR HFX HG3
          clear hm2 hc2 hc1 hm hGf hGg h1 h2 h3 k1 k2 k3 hzz HOP hG3
          rw [hd2]
          go_wp2_with (first | (refine wpList_load_mid rfl 57 _ rfl X 1 rfl (ints G1) _ DX7.out.arr Try.underlying57 rfl (by rw [ints_len, HG1.out]; exact size62) ?_) | (refine wpList_load_mid rfl 57 _ rfl Y 1 rfl (ints G2) _ DY7.out.arr Try.underlying57 rfl (by rw [ints_len, HG2.out]; exact size62) ?_))
          refine (HGR.out _).mono ?_
          rintro e w8 ⟨rfl, hb8⟩
          have B8 := mkHid (below_step B7.out hb8)
          have Z8 := mkHid (Z7.out.below hb8)
          have DX8 := mkHid (DX7.out.below hb8)
          clear hb8 B7 Z7 DX7 DY7
          go_wp2_with (first | (refine wpList_store_mid rfl 57 _ _ rfl X 1 (gA G3) rfl rfl (by rw [gA_size, HG3.out]; exact DX8.out.thereG) (by rw [gA_size, HG3.out]; exact size62) (all_oneCell_toArray (ints_one G3)) ?_))
          rw [show (gA G3).toList = ints G3 from rfl]
          simp only [Act.put]
          have gr := grown_setCells X (ints G3) 1 w8
          have DXA := mkHid (DX8.out.part HG3.out)
          have ZA := mkHid (Z8.out.grown gr (some_ne (by omega)))
          have BA := mkHid (B8.out.grown gr B8.out.size (fun q hq => by cases hq; omega))
          obtain ⟨wA, hwA⟩ : ∃ wA, w8.setCells X 1 (ints G3) = wA := ⟨_, rfl⟩
          rw [hwA] at DXA ZA BA
          rw [hwA]
          clear hwA gr DX8 Z8 B8
          go_wp2_with fail
          refine wpo_load64 DXA.out rfl rfl ?_
          go_wp2_with fail
          refine (HFX.out _).mono ?_
          rintro e w9 ⟨ao, cap, rfl, ho, hb9⟩
          obtain ⟨⟨z0, z1⟩, z2, z3⟩ := ZA.out.below hb9
          have HE := mkHid (fun v0 v1 => Gives.shut (b := w.heap.size + 2) BA.out (by omega) ZA.out.lt ho hb9 v0 v1)
          clear hb9 ho
          go_wp2
          refine bodyPost_ret (v := .agg #[.int .i64 (z.toNat : Nat), .slice ao (mk z.toNat (fun a b => max (f a b) (g a b))).length cap]) (by simp [results, Try.results9, go_sem, z0, z1]) rfl ?_
          rw [e1.out]
          exact ⟨ao, cap, rfl, (HE.out _ _).1, (HE.out _ _).2⟩
end Go.Proofs.Ytgclngofigffdaa
