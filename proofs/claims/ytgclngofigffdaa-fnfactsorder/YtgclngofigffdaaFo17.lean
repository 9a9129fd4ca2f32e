/-
  CONTRACT of the program's FactsLeq.
-/
import Derived.Test.YtgclngofigffdaaFo16
import Derived.Test.YtgclngofigffdaaFo11
namespace Go.Proofs.Ytgclngofigffdaa
open Go.RowKit

theorem leqF_no {z z' : Int} {l l' : List Int} (h : goB z l z' l' = false) : leqF z l z' l' = false := by unfold leqF; rw [h]; rfl
theorem leqF_one {z z' : Int} {l l' : List Int} (h : goB z l z' l' = true) (h1 : cF z l = none) : leqF z l z' l' = true := by unfold leqF; rw [h, h1]; rfl
theorem leqF_none {z z' : Int} {l l' : List Int} {f : Tab} (h : goB z l z' l' = true) (h1 : cF z l = some f) (h2 : noF z' l' = true) : leqF z l z' l' = false := by unfold leqF; rw [h, h1, h2]; rfl
theorem leqF_both {z z' : Int} {l l' : List Int} {f : Tab} (h : goB z l z' l' = true) (h1 : cF z l = some f) (h2 : noF z' l' = false) : leqF z l z' l' = leL z.toNat f l' := by unfold leqF; rw [h, h1, h2]; simp
/-- The second one is ok where it is not none. -/
theorem go_ok {z z' : Int} {l l' : List Int} {f : Tab} (h : goB z l z' l' = true) (h1 : cF z l = some f) (h2 : noF z' l' = false) : z = z' ∧ okF z' l' = true ∧ ∃ n : Nat, z = n ∧ 1 ≤ n ∧ n ≤ 13 ∧ l'.length = n * n := by
  have k1 := cF_ok h1
  unfold goB at h
  rw [ok_no k1, h2, k1] at h
  have e : okF z' l' = true ∧ z = z' := by simpa using h
  obtain ⟨n, q0, q1, q2, q3, _⟩ := ok_of e.1
  exact ⟨e.2, e.1, n, e.2.trans q0, q1, q2, q3⟩
theorem no_ok {z : Int} {l : List Int} (h : noF z l = true) : okF z l = false := by
  cases hk : okF z l
  · rfl
  · rw [ok_no hk] at h; cases h
set_option maxRecDepth 100000 in
set_option maxHeartbeats 6400000 in
theorem iLeq_any (z : Int) (l : List Int) (a : Option Addr) (c : Nat) (z' : Int) (l' : List Int) (a' : Option Addr) (c' : Nat) (w : World) (hcc : l.length ≤ c) (hcc' : l'.length ≤ c') (hl : IntsAt w a l) (hl' : IntsAt w a' l') : Calls Try.prog 33 #[.agg #[.int .i64 z, .slice a l.length c], .agg #[.int .i64 z', .slice a' l'.length c']] w fun e w' => e = .returned (.bool (leqF z l z' l')) ∧ Below w.heap.size w w' := by
  have HL := mkHid hl
  have HL' := mkHid hl'
  have B0 := mkHid (((Below.refl w.heap.size w).alloc (Nat.le_refl _) (.cells #[.int .i64 z, .slice a l.length c] 26)).alloc (by simp) (.cells #[.int .i64 z', .slice a' l'.length c'] 26))
  have T0 : Hid (Fc ((w.alloc (.cells #[.int .i64 z, .slice a l.length c] 26)).alloc (.cells #[.int .i64 z', .slice a' l'.length c'] 26)) w.heap.size z a l.length c) := mkHid ((Fc.new w z a l.length c 26).alloc _)
  have U0 : Hid (Fc ((w.alloc (.cells #[.int .i64 z, .slice a l.length c] 26)).alloc (.cells #[.int .i64 z', .slice a' l'.length c'] 26)) (w.heap.size + 1) z' a' l'.length c') := mkHid (by have := Fc.new (w.alloc (.cells #[.int .i64 z, .slice a l.length c] 26)) z' a' l'.length c' 26; simpa using this)
  have HDA : Hid (∀ v, IntsAt v a l → Calls Try.prog 39 #[.agg #[.int .i64 z, .slice a l.length c]] v fun e w' => e = .returned (.agg (D z.toNat (okO z l))) ∧ Below v.heap.size v w') := mkHid fun v hv => diffsD z l a c v hcc hv
  have HDB : Hid (∀ v, IntsAt v a' l' → Calls Try.prog 39 #[.agg #[.int .i64 z', .slice a' l'.length c']] v fun e w' => e = .returned (.agg (D z'.toNat (okO z' l'))) ∧ Below v.heap.size v w') := mkHid fun v hv => diffsD z' l' a' c' v hcc' hv
  have HCA : Hid (∀ v, Calls Try.prog 40 #[.agg (D z.toNat (okO z l))] v fun e w' => e = .returned (.agg (D z.toNat (cF z l))) ∧ Below v.heap.size v w') := mkHid fun v => closedD z.toNat (okO z l) (okO_fine z l).good v
  obtain ⟨G1, hG1, hGl1⟩ := D_out z.toNat (cF z l)
  obtain ⟨G2, hG2, hGl2⟩ := D_out z'.toNat (okO z' l')
  obtain ⟨m1, hm1⟩ : ∃ m, outZ (cF z l) z.toNat = m := ⟨_, rfl⟩
  obtain ⟨m2, hm2⟩ : ∃ m, outZ (okO z' l') z'.toNat = m := ⟨_, rfl⟩
  rw [hm1] at hG1
  rw [hm2] at hG2
  rw [hG1] at HCA
  rw [hG2] at HDB
  have HDG1 := mkHid hG1
  have HDG2 := mkHid hG2
  have HM1 := mkHid hm1
  have HM2 := mkHid hm2
  have HG1 := mkHid hGl1
  have HG2 := mkHid hGl2
  have HFA := mkHid (cF_fine z l)
  obtain ⟨DA1, hDA1⟩ : ∃ D1, D z.toNat (okO z l) = D1 := ⟨_, rfl⟩
  rw [hDA1] at HDA HCA
  have hzc := zc64
  clear hl hl' hcc hcc' hG1 hG2 hGl1 hGl2 hm1 hm2 hDA1
  go_enter Try.func33, Try.ntmps33
  go_wp2_with fail
  refine (iGo_any z l a c z' l' a' c' _ (HL.out.below B0.out) (HL'.out.below B0.out)).mono ?_
  rintro e w4 ⟨rfl, hb⟩
  have B4 := mkHid (below_step B0.out hb)
  have T4 := mkHid (T0.out.below hb)
  have U4 := mkHid (U0.out.below hb)
  clear hb B0 T0 U0
  cases hgo : goB z l z' l'
  · have e1 : Hid (leqF z l z' l' = false) := mkHid (leqF_no hgo)
    go_wp2
    go_ret
    exact ⟨ret_bool e1.out.symm, B4.out⟩
  · have HGO := mkHid hgo
    clear hgo
    go_wp2_with fail
    refine wp_region_inv2 (fun zA0 L zA v => ∃ (zB : Nat → Bool) (zS : Nat → Value) (X : Nat) (Y : Nat), L = #[zB 0, zB 1, zB 2, zB 3, zB 4, zB 5, zB 6, zB 7, zB 8] ∧ zA = puts zA0 [(11, zS 11), (12, zS 12), (13, zS 13), (14, zS 14), (15, zS 15), (5, zS 5), (6, zS 6)] ∧ ((zB 0 = true → zS 11 = .agg #[.int .i64 z, .slice a l.length c]) ∧ (zB 1 = true → zS 12 = .agg DA1) ∧ (zB 2 = true → zS 13 = .agg (dA m1 G1)) ∧ (zB 3 = true → zS 14 = .agg #[.int .i64 z', .slice a' l'.length c']) ∧ (zB 4 = true → zS 15 = .agg (dA m2 G2)) ∧ (zB 5 = true → zS 5 = .pointer (some ⟨X, 0, none⟩)) ∧ (zB 6 = true → zS 6 = .pointer (some ⟨Y, 0, none⟩))) ∧ Two w4 (zB 5) (zB 6) (zB 7) (zB 8) X Y m1 G1 m2 G2 v) (by kernel_rfl) ?_ ?_ ?_
    · exact ⟨fun _ => false, fun _ => undef, 0, 0, rfl, by kernel_rfl, ⟨fun e => ft e, fun e => ft e, fun e => ft e, fun e => ft e, fun e => ft e, fun e => ft e, fun e => ft e⟩, Two.start (Below.refl _ _).drew⟩
    · refine StepsI.cons rfl ?_ ?_
      · rintro L zA v ⟨zB, zS, X, Y, rfl, rfl, hF, hW⟩ hL hm K hK
        have hb0 : zB 0 = false := by simpa using hL
        clear hL hm
        simp only [puts, Act.put, List.setIfInBounds_toArray, List.set_cons_zero, List.set_cons_succ]
        obtain ⟨q0, q1⟩ := T4.out.below hW.bel
        go_simp
        exact hK.out _ _ ⟨fun zj => if zj = 0 then true else zB zj, fun zd => if zd = 11 then .agg #[.int .i64 z, .slice a l.length c] else zS zd, X, Y, rfl, by kernel_rfl, ⟨fun _ => rfl, hF.2.1, hF.2.2.1, hF.2.2.2.1, hF.2.2.2.2.1, hF.2.2.2.2.2.1, hF.2.2.2.2.2.2⟩, hW⟩
      refine StepsI.cons rfl ?_ ?_
      · rintro L zA v ⟨zB, zS, X, Y, rfl, rfl, hF, hW⟩ hL hm K hK
        have hb1 : zB 1 = false := by simpa using hL
        have hb0 : zB 0 = true := by cases e : zB 0 with | false => (exfalso; revert hm; simp [metB, Region.binds, e]) | true => rfl
        have e0 : zS 11 = .agg #[.int .i64 z, .slice a l.length c] := hF.1 hb0
        clear hL hm
        simp only [puts, Act.put, List.setIfInBounds_toArray, List.set_cons_zero, List.set_cons_succ]
        simp only [e0]
        go_simp
        refine (HDA.out _ (HL.out.below (below_step B4.out hW.bel))).mono ?_
        rintro e v2 ⟨rfl, hb⟩
        go_wp2_with fail
        exact hK.out _ _ ⟨fun zj => if zj = 0 then true else if zj = 1 then true else zB zj, fun zd => if zd = 12 then .agg DA1 else if zd = 11 then .agg #[.int .i64 z, .slice a l.length c] else zS zd, X, Y, by simp [hb0], by kernel_rfl, ⟨fun _ => rfl, fun _ => rfl, hF.2.2.1, hF.2.2.2.1, hF.2.2.2.2.1, hF.2.2.2.2.2.1, hF.2.2.2.2.2.2⟩, hW.below hb⟩
      refine StepsI.cons rfl ?_ ?_
      · rintro L zA v ⟨zB, zS, X, Y, rfl, rfl, hF, hW⟩ hL hm K hK
        have hb2 : zB 2 = false := by simpa using hL
        have hb1 : zB 1 = true := by cases e : zB 1 with | false => (exfalso; revert hm; simp [metB, Region.binds, e]) | true => rfl
        have e1 : zS 12 = .agg DA1 := hF.2.1 hb1
        clear hL hm
        simp only [puts, Act.put, List.setIfInBounds_toArray, List.set_cons_zero, List.set_cons_succ]
        simp only [e1]
        go_simp
        refine (HCA.out _).mono ?_
        rintro e v2 ⟨rfl, hb⟩
        go_wp2_with fail
        exact hK.out _ _ ⟨fun zj => if zj = 1 then true else if zj = 2 then true else zB zj, fun zd => if zd = 13 then .agg (dA m1 G1) else if zd = 12 then .agg DA1 else zS zd, X, Y, by simp [hb1], by kernel_rfl, ⟨hF.1, fun _ => rfl, fun _ => rfl, hF.2.2.2.1, hF.2.2.2.2.1, hF.2.2.2.2.2.1, hF.2.2.2.2.2.2⟩, hW.below hb⟩
      refine StepsI.cons rfl ?_ ?_
      · rintro L zA v ⟨zB, zS, X, Y, rfl, rfl, hF, hW⟩ hL hm K hK
        have hb3 : zB 3 = false := by simpa using hL
        clear hL hm
        simp only [puts, Act.put, List.setIfInBounds_toArray, List.set_cons_zero, List.set_cons_succ]
        obtain ⟨q0, q1⟩ := U4.out.below hW.bel
        go_simp
        exact hK.out _ _ ⟨fun zj => if zj = 3 then true else zB zj, fun zd => if zd = 14 then .agg #[.int .i64 z', .slice a' l'.length c'] else zS zd, X, Y, rfl, by kernel_rfl, ⟨hF.1, hF.2.1, hF.2.2.1, fun _ => rfl, hF.2.2.2.2.1, hF.2.2.2.2.2.1, hF.2.2.2.2.2.2⟩, hW⟩
      refine StepsI.cons rfl ?_ ?_
      · rintro L zA v ⟨zB, zS, X, Y, rfl, rfl, hF, hW⟩ hL hm K hK
        have hb4 : zB 4 = false := by simpa using hL
        have hb3 : zB 3 = true := by cases e : zB 3 with | false => (exfalso; revert hm; simp [metB, Region.binds, e]) | true => rfl
        have e3 : zS 14 = .agg #[.int .i64 z', .slice a' l'.length c'] := hF.2.2.2.1 hb3
        clear hL hm
        simp only [puts, Act.put, List.setIfInBounds_toArray, List.set_cons_zero, List.set_cons_succ]
        simp only [e3]
        go_simp
        refine (HDB.out _ (HL'.out.below (below_step B4.out hW.bel))).mono ?_
        rintro e v2 ⟨rfl, hb⟩
        go_wp2_with fail
        exact hK.out _ _ ⟨fun zj => if zj = 3 then true else if zj = 4 then true else zB zj, fun zd => if zd = 15 then .agg (dA m2 G2) else if zd = 14 then .agg #[.int .i64 z', .slice a' l'.length c'] else zS zd, X, Y, by simp [hb3], by kernel_rfl, ⟨hF.1, hF.2.1, hF.2.2.1, fun _ => rfl, fun _ => rfl, hF.2.2.2.2.2.1, hF.2.2.2.2.2.2⟩, hW.below hb⟩
      refine StepsI.cons rfl ?_ ?_
      · rintro L zA v ⟨zB, zS, X, Y, rfl, rfl, hF, hW⟩ hL hm K hK
        have hb5 : zB 5 = false := by simpa using hL
        clear hL hm
        rw [hb5] at hW
        simp only [puts, Act.put, List.setIfInBounds_toArray, List.set_cons_zero, List.set_cons_succ]
        go_simp
        exact hK.out _ _ ⟨fun zj => if zj = 5 then true else zB zj, fun zd => if zd = 5 then .pointer (some ⟨v.heap.size, 0, none⟩) else zS zd, v.heap.size, Y, rfl, by kernel_rfl, ⟨hF.1, hF.2.1, hF.2.2.1, hF.2.2.2.1, hF.2.2.2.2.1, fun _ => rfl, hF.2.2.2.2.2.2⟩, hW.allocA⟩
      refine StepsI.cons rfl ?_ ?_
      · rintro L zA v ⟨zB, zS, X, Y, rfl, rfl, hF, hW⟩ hL hm K hK
        have hb6 : zB 6 = false := by simpa using hL
        clear hL hm
        rw [hb6] at hW
        simp only [puts, Act.put, List.setIfInBounds_toArray, List.set_cons_zero, List.set_cons_succ]
        go_simp
        exact hK.out _ _ ⟨fun zj => if zj = 6 then true else zB zj, fun zd => if zd = 6 then .pointer (some ⟨v.heap.size, 0, none⟩) else zS zd, X, v.heap.size, rfl, by kernel_rfl, ⟨hF.1, hF.2.1, hF.2.2.1, hF.2.2.2.1, hF.2.2.2.2.1, hF.2.2.2.2.2.1, fun _ => rfl⟩, hW.allocB⟩
      refine StepsI.cons rfl ?_ ?_
      · rintro L zA v ⟨zB, zS, X, Y, rfl, rfl, hF, hW⟩ hL hm K hK
        have hb7 : zB 7 = false := by simpa using hL
        have hb2 : zB 2 = true := by cases e : zB 2 with | false => (exfalso; revert hm; simp [metB, Region.binds, e]) | true => rfl
        have hb5 : zB 5 = true := by cases e : zB 5 with | false => (exfalso; revert hm; simp [metB, Region.binds, e]) | true => rfl
        have e2 : zS 13 = .agg (dA m1 G1) := hF.2.2.1 hb2
        have e5 : zS 5 = .pointer (some ⟨X, 0, none⟩) := hF.2.2.2.2.2.1 hb5
        clear hL hm
        rw [hb7] at hW
        rw [hb5] at hW
        simp only [puts, Act.put, List.setIfInBounds_toArray, List.set_cons_zero, List.set_cons_succ]
        simp only [e2, e5]
        rw [if_pos (by rfl)]
        refine wp_store_mid 59 _ _ rfl X 0 (dA m1 G1) rfl rfl (by rw [dA_size HG1.out]; exact (hW.a rfl).2.there) (by rw [dA_size HG1.out]; exact size64) (all_oneCell_toArray dL_one) ?_
        rw [show (dA m1 G1).toList = dL m1 G1 from rfl]
        simp only [Act.put]
        exact hK.out _ _ ⟨fun zj => if zj = 5 then true else if zj = 2 then true else if zj = 7 then true else zB zj, fun zd => if zd = 5 then .pointer (some ⟨X, 0, none⟩) else if zd = 13 then .agg (dA m1 G1) else zS zd, X, Y, by simp [hb2, hb5], by kernel_rfl, ⟨hF.1, hF.2.1, fun _ => rfl, hF.2.2.2.1, hF.2.2.2.2.1, fun _ => rfl, hF.2.2.2.2.2.2⟩, hW.storeA HG1.out⟩
      refine StepsI.cons rfl ?_ ?_
      · rintro L zA v ⟨zB, zS, X, Y, rfl, rfl, hF, hW⟩ hL hm K hK
        have hb8 : zB 8 = false := by simpa using hL
        have hb4 : zB 4 = true := by cases e : zB 4 with | false => (exfalso; revert hm; simp [metB, Region.binds, e]) | true => rfl
        have hb6 : zB 6 = true := by cases e : zB 6 with | false => (exfalso; revert hm; simp [metB, Region.binds, e]) | true => rfl
        have e4 : zS 15 = .agg (dA m2 G2) := hF.2.2.2.2.1 hb4
        have e6 : zS 6 = .pointer (some ⟨Y, 0, none⟩) := hF.2.2.2.2.2.2 hb6
        clear hL hm
        rw [hb8] at hW
        rw [hb6] at hW
        simp only [puts, Act.put, List.setIfInBounds_toArray, List.set_cons_zero, List.set_cons_succ]
        simp only [e4, e6]
        rw [if_pos (by rfl)]
        refine wp_store_mid 59 _ _ rfl Y 0 (dA m2 G2) rfl rfl (by rw [dA_size HG2.out]; exact (hW.b rfl).2.there) (by rw [dA_size HG2.out]; exact size64) (all_oneCell_toArray dL_one) ?_
        rw [show (dA m2 G2).toList = dL m2 G2 from rfl]
        simp only [Act.put]
        exact hK.out _ _ ⟨fun zj => if zj = 6 then true else if zj = 4 then true else if zj = 8 then true else zB zj, fun zd => if zd = 6 then .pointer (some ⟨Y, 0, none⟩) else if zd = 15 then .agg (dA m2 G2) else zS zd, X, Y, by simp [hb4, hb6], by kernel_rfl, ⟨hF.1, hF.2.1, hF.2.2.1, hF.2.2.2.1, fun _ => rfl, hF.2.2.2.2.2.1, fun _ => rfl⟩, hW.storeB HG2.out⟩
      exact StepsI.nil (by kernel_rfl)
    · rintro L zA v ⟨zB, zS, X, Y, rfl, rfl, hF, hW⟩ hr
      have hu := all_up (by kernel_rfl) (N := 9) (by kernel_rfl) hr
      have hb0 : zB 0 = true := by simpa using hu 0 (by decide)
      have hb1 : zB 1 = true := by simpa using hu 1 (by decide)
      have hb2 : zB 2 = true := by simpa using hu 2 (by decide)
      have hb3 : zB 3 = true := by simpa using hu 3 (by decide)
      have hb4 : zB 4 = true := by simpa using hu 4 (by decide)
      have hb5 : zB 5 = true := by simpa using hu 5 (by decide)
      have hb6 : zB 6 = true := by simpa using hu 6 (by decide)
      have hb7 : zB 7 = true := by simpa using hu 7 (by decide)
      have hb8 : zB 8 = true := by simpa using hu 8 (by decide)
      have e0 : zS 11 = .agg #[.int .i64 z, .slice a l.length c] := hF.1 hb0
      have e1 : zS 12 = .agg DA1 := hF.2.1 hb1
      have e2 : zS 13 = .agg (dA m1 G1) := hF.2.2.1 hb2
      have e3 : zS 14 = .agg #[.int .i64 z', .slice a' l'.length c'] := hF.2.2.2.1 hb3
      have e4 : zS 15 = .agg (dA m2 G2) := hF.2.2.2.2.1 hb4
      have e5 : zS 5 = .pointer (some ⟨X, 0, none⟩) := hF.2.2.2.2.2.1 hb5
      have e6 : zS 6 = .pointer (some ⟨Y, 0, none⟩) := hF.2.2.2.2.2.2 hb6
      rw [hb5] at hW
      rw [hb6] at hW
      rw [hb7] at hW
      rw [hb8] at hW
      clear hu hr hF
      simp only [puts, Act.put, List.setIfInBounds_toArray, List.set_cons_zero, List.set_cons_succ]
      simp only [e0, e1, e2, e3, e4, e5, e6]
      clear e0 e1 e2 e3 e4 e5 e6
      clear hb0 hb1 hb2 hb3 hb4 hb5 hb6 hb7 hb8
      clear zB zS
      have hT := hW.all
      obtain ⟨hb5, hX0, hY0, hXY, hDX, hDY⟩ := hT
      have B5 := mkHid (below_step B4.out hb5)
      have DX5 := mkHid hDX
      have DY5 := mkHid hDY
      clear hb5 hX0 hY0 hDX hDY hW B4 T4 U4
      obtain ⟨w5, hw5⟩ : ∃ w5, v = w5 := ⟨_, rfl⟩
      rw [hw5] at B5 DX5 DY5
      rw [hw5]
      clear hw5
      go_wp2_with fail
      cases hc1 : cF z l with
      | none =>
        have hm : m1 = 0 := by rw [← HM1.out, hc1]; rfl
        have HD1 : Hid (decide (m1 = 0) = true) := mkHid (decide_eq_true hm)
        have e1 : Hid (leqF z l z' l' = true) := mkHid (leqF_one HGO.out hc1)
        clear hm hc1
        refine wp_region_inv2 (fun zA0 L zA v => ∃ (zB : Nat → Bool) (zS : Nat → Value), L = #[zB 0, zB 1, zB 2, zB 3, zB 4, zB 5, zB 6, zB 7, zB 8, zB 9, zB 10, zB 11, zB 12, zB 13, zB 14, zB 15, zB 16, zB 17, zB 18, zB 19] ∧ zA = puts zA0 [(16, zS 16), (17, zS 17), (18, zS 18), (19, zS 19), (20, zS 20), (21, zS 21), (22, zS 22), (23, zS 23), (24, zS 24), (25, zS 25), (26, zS 26), (27, zS 27), (28, zS 28), (29, zS 29), (30, zS 30), (31, zS 31), (32, zS 32), (33, zS 33), (34, zS 34), (4, zS 4)] ∧ ((zB 0 = true → zS 16 = .agg (dA m1 G1)) ∧ (zB 1 = true → zS 17 = .bool true) ∧ (zB 2 = true → zS 18 = .bool true) ∧ (zB 3 = true → zS 19 = undef) ∧ (zB 4 = true → zS 20 = undef) ∧ (zB 5 = true → zS 21 = undef) ∧ (zB 6 = true → zS 22 = undef) ∧ (zB 7 = true → zS 23 = undef) ∧ (zB 8 = true → zS 24 = undef) ∧ (zB 9 = true → zS 25 = undef) ∧ (zB 10 = true → zS 26 = undef) ∧ (zB 11 = true → zS 27 = undef) ∧ (zB 12 = true → zS 28 = undef) ∧ (zB 13 = true → zS 29 = undef) ∧ (zB 14 = true → zS 30 = undef) ∧ (zB 15 = true → zS 31 = undef) ∧ (zB 16 = true → zS 32 = undef) ∧ (zB 17 = true → zS 33 = undef) ∧ (zB 18 = true → zS 34 = .bool true) ∧ (zB 19 = true → zS 4 = .bool true)) ∧ Below w5.heap.size w5 v) (by kernel_rfl) ?_ ?_ ?_
        · exact ⟨fun _ => false, fun zd => if zd = 4 then .bool false else undef, rfl, by kernel_rfl, ⟨fun e => ft e, fun e => ft e, fun e => ft e, fun e => ft e, fun e => ft e, fun e => ft e, fun e => ft e, fun e => ft e, fun e => ft e, fun e => ft e, fun e => ft e, fun e => ft e, fun e => ft e, fun e => ft e, fun e => ft e, fun e => ft e, fun e => ft e, fun e => ft e, fun e => ft e, fun e => ft e⟩, (Below.refl _ _).drew⟩
        · refine StepsI.cons rfl ?_ ?_
          · rintro L zA v ⟨zB, zS, rfl, rfl, hF, hW⟩ hL hm K hK
            have hb0 : zB 0 = false := by simpa using hL
            clear hL hm
            simp only [puts, Act.put, List.setIfInBounds_toArray, List.set_cons_zero, List.set_cons_succ]
            rw [if_pos (by rfl)]
            refine wp_load_mid 59 _ rfl X 0 rfl (dL m1 G1) _ (DX5.out.below hW).range Try.underlying59 rfl (by rw [dL_len HG1.out]; exact size64) ?_
            simp only [Act.put]
            exact hK.out _ _ ⟨fun zj => if zj = 0 then true else zB zj, fun zd => if zd = 16 then .agg (dA m1 G1) else zS zd, rfl, by kernel_rfl, ⟨fun _ => rfl, hF.2.1, hF.2.2.1, hF.2.2.2.1, hF.2.2.2.2.1, hF.2.2.2.2.2.1, hF.2.2.2.2.2.2.1, hF.2.2.2.2.2.2.2.1, hF.2.2.2.2.2.2.2.2.1, hF.2.2.2.2.2.2.2.2.2.1, hF.2.2.2.2.2.2.2.2.2.2.1, hF.2.2.2.2.2.2.2.2.2.2.2.1, hF.2.2.2.2.2.2.2.2.2.2.2.2.1, hF.2.2.2.2.2.2.2.2.2.2.2.2.2.1, hF.2.2.2.2.2.2.2.2.2.2.2.2.2.2.1, hF.2.2.2.2.2.2.2.2.2.2.2.2.2.2.2.1, hF.2.2.2.2.2.2.2.2.2.2.2.2.2.2.2.2.1, hF.2.2.2.2.2.2.2.2.2.2.2.2.2.2.2.2.2.1, hF.2.2.2.2.2.2.2.2.2.2.2.2.2.2.2.2.2.2.1, hF.2.2.2.2.2.2.2.2.2.2.2.2.2.2.2.2.2.2.2⟩, hW⟩
          refine StepsI.cons rfl ?_ ?_
          · rintro L zA v ⟨zB, zS, rfl, rfl, hF, hW⟩ hL hm K hK
            have hb1 : zB 1 = false := by simpa using hL
            have hb0 : zB 0 = true := by cases e : zB 0 with | false => (exfalso; revert hm; simp [metB, Region.binds, e]) | true => rfl
            have e0 : zS 16 = .agg (dA m1 G1) := hF.1 hb0
            clear hL hm
            simp only [puts, Act.put, List.setIfInBounds_toArray, List.set_cons_zero, List.set_cons_succ]
            simp only [e0]
            go_simp
            refine (isNone_any m1 G1 _).mono ?_
            rintro e v2 ⟨rfl, hb⟩
            rw [HD1.out]
            go_wp2_with fail
            exact hK.out _ _ ⟨fun zj => if zj = 0 then true else if zj = 1 then true else zB zj, fun zd => if zd = 17 then .bool true else if zd = 16 then .agg (dA m1 G1) else zS zd, by simp [hb0], by kernel_rfl, ⟨fun _ => rfl, fun _ => rfl, hF.2.2.1, hF.2.2.2.1, hF.2.2.2.2.1, hF.2.2.2.2.2.1, hF.2.2.2.2.2.2.1, hF.2.2.2.2.2.2.2.1, hF.2.2.2.2.2.2.2.2.1, hF.2.2.2.2.2.2.2.2.2.1, hF.2.2.2.2.2.2.2.2.2.2.1, hF.2.2.2.2.2.2.2.2.2.2.2.1, hF.2.2.2.2.2.2.2.2.2.2.2.2.1, hF.2.2.2.2.2.2.2.2.2.2.2.2.2.1, hF.2.2.2.2.2.2.2.2.2.2.2.2.2.2.1, hF.2.2.2.2.2.2.2.2.2.2.2.2.2.2.2.1, hF.2.2.2.2.2.2.2.2.2.2.2.2.2.2.2.2.1, hF.2.2.2.2.2.2.2.2.2.2.2.2.2.2.2.2.2.1, hF.2.2.2.2.2.2.2.2.2.2.2.2.2.2.2.2.2.2.1, hF.2.2.2.2.2.2.2.2.2.2.2.2.2.2.2.2.2.2.2⟩, below_step hW hb⟩
          refine StepsI.cons rfl ?_ ?_
          · rintro L zA v ⟨zB, zS, rfl, rfl, hF, hW⟩ hL hm K hK
            have hb2 : zB 2 = false := by simpa using hL
            have hb1 : zB 1 = true := by cases e : zB 1 with | false => (exfalso; revert hm; simp [metB, Region.binds, e]) | true => rfl
            have e1 : zS 17 = .bool true := hF.2.1 hb1
            clear hL hm
            simp only [puts, Act.put, List.setIfInBounds_toArray, List.set_cons_zero, List.set_cons_succ]
            simp only [e1]
            go_simp
            exact hK.out _ _ ⟨fun zj => if zj = 1 then true else if zj = 2 then true else zB zj, fun zd => if zd = 18 then .bool true else if zd = 17 then .bool true else zS zd, by simp [hb1], by kernel_rfl, ⟨hF.1, fun _ => rfl, fun _ => rfl, hF.2.2.2.1, hF.2.2.2.2.1, hF.2.2.2.2.2.1, hF.2.2.2.2.2.2.1, hF.2.2.2.2.2.2.2.1, hF.2.2.2.2.2.2.2.2.1, hF.2.2.2.2.2.2.2.2.2.1, hF.2.2.2.2.2.2.2.2.2.2.1, hF.2.2.2.2.2.2.2.2.2.2.2.1, hF.2.2.2.2.2.2.2.2.2.2.2.2.1, hF.2.2.2.2.2.2.2.2.2.2.2.2.2.1, hF.2.2.2.2.2.2.2.2.2.2.2.2.2.2.1, hF.2.2.2.2.2.2.2.2.2.2.2.2.2.2.2.1, hF.2.2.2.2.2.2.2.2.2.2.2.2.2.2.2.2.1, hF.2.2.2.2.2.2.2.2.2.2.2.2.2.2.2.2.2.1, hF.2.2.2.2.2.2.2.2.2.2.2.2.2.2.2.2.2.2.1, hF.2.2.2.2.2.2.2.2.2.2.2.2.2.2.2.2.2.2.2⟩, hW⟩
          refine StepsI.cons rfl ?_ ?_
          · rintro L zA v ⟨zB, zS, rfl, rfl, hF, hW⟩ hL hm K hK
            have hb3 : zB 3 = false := by simpa using hL
            have hb2 : zB 2 = true := by cases e : zB 2 with | false => (exfalso; revert hm; simp [metB, Region.binds, e]) | true => rfl
            have e2 : zS 18 = .bool true := hF.2.2.1 hb2
            clear hL hm
            simp only [puts, Act.put, List.setIfInBounds_toArray, List.set_cons_zero, List.set_cons_succ]
            simp only [e2]
            rw [if_neg (by exact Bool.false_ne_true)]
            exact hK.out _ _ ⟨fun zj => if zj = 2 then true else if zj = 3 then true else zB zj, fun zd => if zd = 19 then undef else if zd = 18 then .bool true else zS zd, by simp [hb2], by kernel_rfl, ⟨hF.1, hF.2.1, fun _ => rfl, fun _ => rfl, hF.2.2.2.2.1, hF.2.2.2.2.2.1, hF.2.2.2.2.2.2.1, hF.2.2.2.2.2.2.2.1, hF.2.2.2.2.2.2.2.2.1, hF.2.2.2.2.2.2.2.2.2.1, hF.2.2.2.2.2.2.2.2.2.2.1, hF.2.2.2.2.2.2.2.2.2.2.2.1, hF.2.2.2.2.2.2.2.2.2.2.2.2.1, hF.2.2.2.2.2.2.2.2.2.2.2.2.2.1, hF.2.2.2.2.2.2.2.2.2.2.2.2.2.2.1, hF.2.2.2.2.2.2.2.2.2.2.2.2.2.2.2.1, hF.2.2.2.2.2.2.2.2.2.2.2.2.2.2.2.2.1, hF.2.2.2.2.2.2.2.2.2.2.2.2.2.2.2.2.2.1, hF.2.2.2.2.2.2.2.2.2.2.2.2.2.2.2.2.2.2.1, hF.2.2.2.2.2.2.2.2.2.2.2.2.2.2.2.2.2.2.2⟩, hW⟩
          refine StepsI.cons rfl ?_ ?_
          · rintro L zA v ⟨zB, zS, rfl, rfl, hF, hW⟩ hL hm K hK
            have hb4 : zB 4 = false := by simpa using hL
            have hb2 : zB 2 = true := by cases e : zB 2 with | false => (exfalso; revert hm; simp [metB, Region.binds, e]) | true => rfl
            have e2 : zS 18 = .bool true := hF.2.2.1 hb2
            clear hL hm
            simp only [puts, Act.put, List.setIfInBounds_toArray, List.set_cons_zero, List.set_cons_succ]
            simp only [e2]
            rw [if_neg (by exact Bool.false_ne_true)]
            exact hK.out _ _ ⟨fun zj => if zj = 2 then true else if zj = 4 then true else zB zj, fun zd => if zd = 20 then undef else if zd = 18 then .bool true else zS zd, by simp [hb2], by kernel_rfl, ⟨hF.1, hF.2.1, fun _ => rfl, hF.2.2.2.1, fun _ => rfl, hF.2.2.2.2.2.1, hF.2.2.2.2.2.2.1, hF.2.2.2.2.2.2.2.1, hF.2.2.2.2.2.2.2.2.1, hF.2.2.2.2.2.2.2.2.2.1, hF.2.2.2.2.2.2.2.2.2.2.1, hF.2.2.2.2.2.2.2.2.2.2.2.1, hF.2.2.2.2.2.2.2.2.2.2.2.2.1, hF.2.2.2.2.2.2.2.2.2.2.2.2.2.1, hF.2.2.2.2.2.2.2.2.2.2.2.2.2.2.1, hF.2.2.2.2.2.2.2.2.2.2.2.2.2.2.2.1, hF.2.2.2.2.2.2.2.2.2.2.2.2.2.2.2.2.1, hF.2.2.2.2.2.2.2.2.2.2.2.2.2.2.2.2.2.1, hF.2.2.2.2.2.2.2.2.2.2.2.2.2.2.2.2.2.2.1, hF.2.2.2.2.2.2.2.2.2.2.2.2.2.2.2.2.2.2.2⟩, hW⟩
          refine StepsI.cons rfl ?_ ?_
          · rintro L zA v ⟨zB, zS, rfl, rfl, hF, hW⟩ hL hm K hK
            have hb5 : zB 5 = false := by simpa using hL
            have hb2 : zB 2 = true := by cases e : zB 2 with | false => (exfalso; revert hm; simp [metB, Region.binds, e]) | true => rfl
            have e2 : zS 18 = .bool true := hF.2.2.1 hb2
            clear hL hm
            simp only [puts, Act.put, List.setIfInBounds_toArray, List.set_cons_zero, List.set_cons_succ]
            simp only [e2]
            rw [if_neg (by exact Bool.false_ne_true)]
            exact hK.out _ _ ⟨fun zj => if zj = 2 then true else if zj = 5 then true else zB zj, fun zd => if zd = 21 then undef else if zd = 18 then .bool true else zS zd, by simp [hb2], by kernel_rfl, ⟨hF.1, hF.2.1, fun _ => rfl, hF.2.2.2.1, hF.2.2.2.2.1, fun _ => rfl, hF.2.2.2.2.2.2.1, hF.2.2.2.2.2.2.2.1, hF.2.2.2.2.2.2.2.2.1, hF.2.2.2.2.2.2.2.2.2.1, hF.2.2.2.2.2.2.2.2.2.2.1, hF.2.2.2.2.2.2.2.2.2.2.2.1, hF.2.2.2.2.2.2.2.2.2.2.2.2.1, hF.2.2.2.2.2.2.2.2.2.2.2.2.2.1, hF.2.2.2.2.2.2.2.2.2.2.2.2.2.2.1, hF.2.2.2.2.2.2.2.2.2.2.2.2.2.2.2.1, hF.2.2.2.2.2.2.2.2.2.2.2.2.2.2.2.2.1, hF.2.2.2.2.2.2.2.2.2.2.2.2.2.2.2.2.2.1, hF.2.2.2.2.2.2.2.2.2.2.2.2.2.2.2.2.2.2.1, hF.2.2.2.2.2.2.2.2.2.2.2.2.2.2.2.2.2.2.2⟩, hW⟩
          refine StepsI.cons rfl ?_ ?_
          · rintro L zA v ⟨zB, zS, rfl, rfl, hF, hW⟩ hL hm K hK
            have hb6 : zB 6 = false := by simpa using hL
            have hb2 : zB 2 = true := by cases e : zB 2 with | false => (exfalso; revert hm; simp [metB, Region.binds, e]) | true => rfl
            have e2 : zS 18 = .bool true := hF.2.2.1 hb2
            clear hL hm
            simp only [puts, Act.put, List.setIfInBounds_toArray, List.set_cons_zero, List.set_cons_succ]
            simp only [e2]
            rw [if_neg (by exact Bool.false_ne_true)]
            exact hK.out _ _ ⟨fun zj => if zj = 2 then true else if zj = 6 then true else zB zj, fun zd => if zd = 22 then undef else if zd = 18 then .bool true else zS zd, by simp [hb2], by kernel_rfl, ⟨hF.1, hF.2.1, fun _ => rfl, hF.2.2.2.1, hF.2.2.2.2.1, hF.2.2.2.2.2.1, fun _ => rfl, hF.2.2.2.2.2.2.2.1, hF.2.2.2.2.2.2.2.2.1, hF.2.2.2.2.2.2.2.2.2.1, hF.2.2.2.2.2.2.2.2.2.2.1, hF.2.2.2.2.2.2.2.2.2.2.2.1, hF.2.2.2.2.2.2.2.2.2.2.2.2.1, hF.2.2.2.2.2.2.2.2.2.2.2.2.2.1, hF.2.2.2.2.2.2.2.2.2.2.2.2.2.2.1, hF.2.2.2.2.2.2.2.2.2.2.2.2.2.2.2.1, hF.2.2.2.2.2.2.2.2.2.2.2.2.2.2.2.2.1, hF.2.2.2.2.2.2.2.2.2.2.2.2.2.2.2.2.2.1, hF.2.2.2.2.2.2.2.2.2.2.2.2.2.2.2.2.2.2.1, hF.2.2.2.2.2.2.2.2.2.2.2.2.2.2.2.2.2.2.2⟩, hW⟩
          refine StepsI.cons rfl ?_ ?_
          · rintro L zA v ⟨zB, zS, rfl, rfl, hF, hW⟩ hL hm K hK
            have hb7 : zB 7 = false := by simpa using hL
            have hb2 : zB 2 = true := by cases e : zB 2 with | false => (exfalso; revert hm; simp [metB, Region.binds, e]) | true => rfl
            have e2 : zS 18 = .bool true := hF.2.2.1 hb2
            clear hL hm
            simp only [puts, Act.put, List.setIfInBounds_toArray, List.set_cons_zero, List.set_cons_succ]
            simp only [e2]
            rw [if_neg (by exact Bool.false_ne_true)]
            exact hK.out _ _ ⟨fun zj => if zj = 2 then true else if zj = 7 then true else zB zj, fun zd => if zd = 23 then undef else if zd = 18 then .bool true else zS zd, by simp [hb2], by kernel_rfl, ⟨hF.1, hF.2.1, fun _ => rfl, hF.2.2.2.1, hF.2.2.2.2.1, hF.2.2.2.2.2.1, hF.2.2.2.2.2.2.1, fun _ => rfl, hF.2.2.2.2.2.2.2.2.1, hF.2.2.2.2.2.2.2.2.2.1, hF.2.2.2.2.2.2.2.2.2.2.1, hF.2.2.2.2.2.2.2.2.2.2.2.1, hF.2.2.2.2.2.2.2.2.2.2.2.2.1, hF.2.2.2.2.2.2.2.2.2.2.2.2.2.1, hF.2.2.2.2.2.2.2.2.2.2.2.2.2.2.1, hF.2.2.2.2.2.2.2.2.2.2.2.2.2.2.2.1, hF.2.2.2.2.2.2.2.2.2.2.2.2.2.2.2.2.1, hF.2.2.2.2.2.2.2.2.2.2.2.2.2.2.2.2.2.1, hF.2.2.2.2.2.2.2.2.2.2.2.2.2.2.2.2.2.2.1, hF.2.2.2.2.2.2.2.2.2.2.2.2.2.2.2.2.2.2.2⟩, hW⟩
          refine StepsI.cons rfl ?_ ?_
          · rintro L zA v ⟨zB, zS, rfl, rfl, hF, hW⟩ hL hm K hK
            have hb8 : zB 8 = false := by simpa using hL
            have hb2 : zB 2 = true := by cases e : zB 2 with | false => (exfalso; revert hm; simp [metB, Region.binds, e]) | true => rfl
            have e2 : zS 18 = .bool true := hF.2.2.1 hb2
            clear hL hm
            simp only [puts, Act.put, List.setIfInBounds_toArray, List.set_cons_zero, List.set_cons_succ]
            simp only [e2]
            rw [if_neg (by exact Bool.false_ne_true)]
            exact hK.out _ _ ⟨fun zj => if zj = 2 then true else if zj = 8 then true else zB zj, fun zd => if zd = 24 then undef else if zd = 18 then .bool true else zS zd, by simp [hb2], by kernel_rfl, ⟨hF.1, hF.2.1, fun _ => rfl, hF.2.2.2.1, hF.2.2.2.2.1, hF.2.2.2.2.2.1, hF.2.2.2.2.2.2.1, hF.2.2.2.2.2.2.2.1, fun _ => rfl, hF.2.2.2.2.2.2.2.2.2.1, hF.2.2.2.2.2.2.2.2.2.2.1, hF.2.2.2.2.2.2.2.2.2.2.2.1, hF.2.2.2.2.2.2.2.2.2.2.2.2.1, hF.2.2.2.2.2.2.2.2.2.2.2.2.2.1, hF.2.2.2.2.2.2.2.2.2.2.2.2.2.2.1, hF.2.2.2.2.2.2.2.2.2.2.2.2.2.2.2.1, hF.2.2.2.2.2.2.2.2.2.2.2.2.2.2.2.2.1, hF.2.2.2.2.2.2.2.2.2.2.2.2.2.2.2.2.2.1, hF.2.2.2.2.2.2.2.2.2.2.2.2.2.2.2.2.2.2.1, hF.2.2.2.2.2.2.2.2.2.2.2.2.2.2.2.2.2.2.2⟩, hW⟩
          refine StepsI.cons rfl ?_ ?_
          · rintro L zA v ⟨zB, zS, rfl, rfl, hF, hW⟩ hL hm K hK
            have hb9 : zB 9 = false := by simpa using hL
            have hb8 : zB 8 = true := by cases e : zB 8 with | false => (exfalso; revert hm; simp [metB, Region.binds, e]) | true => rfl
            have e8 : zS 24 = undef := hF.2.2.2.2.2.2.2.2.1 hb8
            clear hL hm
            simp only [puts, Act.put, List.setIfInBounds_toArray, List.set_cons_zero, List.set_cons_succ]
            simp only [e8]
            rw [if_neg (by exact Bool.false_ne_true)]
            exact hK.out _ _ ⟨fun zj => if zj = 8 then true else if zj = 9 then true else zB zj, fun zd => if zd = 25 then undef else if zd = 24 then undef else zS zd, by simp [hb8], by kernel_rfl, ⟨hF.1, hF.2.1, hF.2.2.1, hF.2.2.2.1, hF.2.2.2.2.1, hF.2.2.2.2.2.1, hF.2.2.2.2.2.2.1, hF.2.2.2.2.2.2.2.1, fun _ => rfl, fun _ => rfl, hF.2.2.2.2.2.2.2.2.2.2.1, hF.2.2.2.2.2.2.2.2.2.2.2.1, hF.2.2.2.2.2.2.2.2.2.2.2.2.1, hF.2.2.2.2.2.2.2.2.2.2.2.2.2.1, hF.2.2.2.2.2.2.2.2.2.2.2.2.2.2.1, hF.2.2.2.2.2.2.2.2.2.2.2.2.2.2.2.1, hF.2.2.2.2.2.2.2.2.2.2.2.2.2.2.2.2.1, hF.2.2.2.2.2.2.2.2.2.2.2.2.2.2.2.2.2.1, hF.2.2.2.2.2.2.2.2.2.2.2.2.2.2.2.2.2.2.1, hF.2.2.2.2.2.2.2.2.2.2.2.2.2.2.2.2.2.2.2⟩, hW⟩
          refine StepsI.cons rfl ?_ ?_
          · rintro L zA v ⟨zB, zS, rfl, rfl, hF, hW⟩ hL hm K hK
            have hb10 : zB 10 = false := by simpa using hL
            have hb8 : zB 8 = true := by cases e : zB 8 with | false => (exfalso; revert hm; simp [metB, Region.binds, e]) | true => rfl
            have e8 : zS 24 = undef := hF.2.2.2.2.2.2.2.2.1 hb8
            clear hL hm
            simp only [puts, Act.put, List.setIfInBounds_toArray, List.set_cons_zero, List.set_cons_succ]
            simp only [e8]
            rw [if_neg (by exact Bool.false_ne_true)]
            exact hK.out _ _ ⟨fun zj => if zj = 8 then true else if zj = 10 then true else zB zj, fun zd => if zd = 26 then undef else if zd = 24 then undef else zS zd, by simp [hb8], by kernel_rfl, ⟨hF.1, hF.2.1, hF.2.2.1, hF.2.2.2.1, hF.2.2.2.2.1, hF.2.2.2.2.2.1, hF.2.2.2.2.2.2.1, hF.2.2.2.2.2.2.2.1, fun _ => rfl, hF.2.2.2.2.2.2.2.2.2.1, fun _ => rfl, hF.2.2.2.2.2.2.2.2.2.2.2.1, hF.2.2.2.2.2.2.2.2.2.2.2.2.1, hF.2.2.2.2.2.2.2.2.2.2.2.2.2.1, hF.2.2.2.2.2.2.2.2.2.2.2.2.2.2.1, hF.2.2.2.2.2.2.2.2.2.2.2.2.2.2.2.1, hF.2.2.2.2.2.2.2.2.2.2.2.2.2.2.2.2.1, hF.2.2.2.2.2.2.2.2.2.2.2.2.2.2.2.2.2.1, hF.2.2.2.2.2.2.2.2.2.2.2.2.2.2.2.2.2.2.1, hF.2.2.2.2.2.2.2.2.2.2.2.2.2.2.2.2.2.2.2⟩, hW⟩
          refine StepsI.cons rfl ?_ ?_
          · rintro L zA v ⟨zB, zS, rfl, rfl, hF, hW⟩ hL hm K hK
            have hb11 : zB 11 = false := by simpa using hL
            have hb8 : zB 8 = true := by cases e : zB 8 with | false => (exfalso; revert hm; simp [metB, Region.binds, e]) | true => rfl
            have e8 : zS 24 = undef := hF.2.2.2.2.2.2.2.2.1 hb8
            clear hL hm
            simp only [puts, Act.put, List.setIfInBounds_toArray, List.set_cons_zero, List.set_cons_succ]
            simp only [e8]
            rw [if_neg (by exact Bool.false_ne_true)]
            exact hK.out _ _ ⟨fun zj => if zj = 8 then true else if zj = 11 then true else zB zj, fun zd => if zd = 27 then undef else if zd = 24 then undef else zS zd, by simp [hb8], by kernel_rfl, ⟨hF.1, hF.2.1, hF.2.2.1, hF.2.2.2.1, hF.2.2.2.2.1, hF.2.2.2.2.2.1, hF.2.2.2.2.2.2.1, hF.2.2.2.2.2.2.2.1, fun _ => rfl, hF.2.2.2.2.2.2.2.2.2.1, hF.2.2.2.2.2.2.2.2.2.2.1, fun _ => rfl, hF.2.2.2.2.2.2.2.2.2.2.2.2.1, hF.2.2.2.2.2.2.2.2.2.2.2.2.2.1, hF.2.2.2.2.2.2.2.2.2.2.2.2.2.2.1, hF.2.2.2.2.2.2.2.2.2.2.2.2.2.2.2.1, hF.2.2.2.2.2.2.2.2.2.2.2.2.2.2.2.2.1, hF.2.2.2.2.2.2.2.2.2.2.2.2.2.2.2.2.2.1, hF.2.2.2.2.2.2.2.2.2.2.2.2.2.2.2.2.2.2.1, hF.2.2.2.2.2.2.2.2.2.2.2.2.2.2.2.2.2.2.2⟩, hW⟩
          refine StepsI.cons rfl ?_ ?_
          · rintro L zA v ⟨zB, zS, rfl, rfl, hF, hW⟩ hL hm K hK
            have hb12 : zB 12 = false := by simpa using hL
            have hb8 : zB 8 = true := by cases e : zB 8 with | false => (exfalso; revert hm; simp [metB, Region.binds, e]) | true => rfl
            have e8 : zS 24 = undef := hF.2.2.2.2.2.2.2.2.1 hb8
            clear hL hm
            simp only [puts, Act.put, List.setIfInBounds_toArray, List.set_cons_zero, List.set_cons_succ]
            simp only [e8]
            rw [if_neg (by exact Bool.false_ne_true)]
            exact hK.out _ _ ⟨fun zj => if zj = 8 then true else if zj = 12 then true else zB zj, fun zd => if zd = 28 then undef else if zd = 24 then undef else zS zd, by simp [hb8], by kernel_rfl, ⟨hF.1, hF.2.1, hF.2.2.1, hF.2.2.2.1, hF.2.2.2.2.1, hF.2.2.2.2.2.1, hF.2.2.2.2.2.2.1, hF.2.2.2.2.2.2.2.1, fun _ => rfl, hF.2.2.2.2.2.2.2.2.2.1, hF.2.2.2.2.2.2.2.2.2.2.1, hF.2.2.2.2.2.2.2.2.2.2.2.1, fun _ => rfl, hF.2.2.2.2.2.2.2.2.2.2.2.2.2.1, hF.2.2.2.2.2.2.2.2.2.2.2.2.2.2.1, hF.2.2.2.2.2.2.2.2.2.2.2.2.2.2.2.1, hF.2.2.2.2.2.2.2.2.2.2.2.2.2.2.2.2.1, hF.2.2.2.2.2.2.2.2.2.2.2.2.2.2.2.2.2.1, hF.2.2.2.2.2.2.2.2.2.2.2.2.2.2.2.2.2.2.1, hF.2.2.2.2.2.2.2.2.2.2.2.2.2.2.2.2.2.2.2⟩, hW⟩
          refine StepsI.cons rfl ?_ ?_
          · rintro L zA v ⟨zB, zS, rfl, rfl, hF, hW⟩ hL hm K hK
            have hb13 : zB 13 = false := by simpa using hL
            have hb8 : zB 8 = true := by cases e : zB 8 with | false => (exfalso; revert hm; simp [metB, Region.binds, e]) | true => rfl
            have e8 : zS 24 = undef := hF.2.2.2.2.2.2.2.2.1 hb8
            clear hL hm
            simp only [puts, Act.put, List.setIfInBounds_toArray, List.set_cons_zero, List.set_cons_succ]
            simp only [e8]
            rw [if_neg (by exact Bool.false_ne_true)]
            exact hK.out _ _ ⟨fun zj => if zj = 8 then true else if zj = 13 then true else zB zj, fun zd => if zd = 29 then undef else if zd = 24 then undef else zS zd, by simp [hb8], by kernel_rfl, ⟨hF.1, hF.2.1, hF.2.2.1, hF.2.2.2.1, hF.2.2.2.2.1, hF.2.2.2.2.2.1, hF.2.2.2.2.2.2.1, hF.2.2.2.2.2.2.2.1, fun _ => rfl, hF.2.2.2.2.2.2.2.2.2.1, hF.2.2.2.2.2.2.2.2.2.2.1, hF.2.2.2.2.2.2.2.2.2.2.2.1, hF.2.2.2.2.2.2.2.2.2.2.2.2.1, fun _ => rfl, hF.2.2.2.2.2.2.2.2.2.2.2.2.2.2.1, hF.2.2.2.2.2.2.2.2.2.2.2.2.2.2.2.1, hF.2.2.2.2.2.2.2.2.2.2.2.2.2.2.2.2.1, hF.2.2.2.2.2.2.2.2.2.2.2.2.2.2.2.2.2.1, hF.2.2.2.2.2.2.2.2.2.2.2.2.2.2.2.2.2.2.1, hF.2.2.2.2.2.2.2.2.2.2.2.2.2.2.2.2.2.2.2⟩, hW⟩
          refine StepsI.cons rfl ?_ ?_
          · rintro L zA v ⟨zB, zS, rfl, rfl, hF, hW⟩ hL hm K hK
            have hb14 : zB 14 = false := by simpa using hL
            have hb8 : zB 8 = true := by cases e : zB 8 with | false => (exfalso; revert hm; simp [metB, Region.binds, e]) | true => rfl
            have e8 : zS 24 = undef := hF.2.2.2.2.2.2.2.2.1 hb8
            clear hL hm
            simp only [puts, Act.put, List.setIfInBounds_toArray, List.set_cons_zero, List.set_cons_succ]
            simp only [e8]
            rw [if_neg (by exact Bool.false_ne_true)]
            exact hK.out _ _ ⟨fun zj => if zj = 8 then true else if zj = 14 then true else zB zj, fun zd => if zd = 30 then undef else if zd = 24 then undef else zS zd, by simp [hb8], by kernel_rfl, ⟨hF.1, hF.2.1, hF.2.2.1, hF.2.2.2.1, hF.2.2.2.2.1, hF.2.2.2.2.2.1, hF.2.2.2.2.2.2.1, hF.2.2.2.2.2.2.2.1, fun _ => rfl, hF.2.2.2.2.2.2.2.2.2.1, hF.2.2.2.2.2.2.2.2.2.2.1, hF.2.2.2.2.2.2.2.2.2.2.2.1, hF.2.2.2.2.2.2.2.2.2.2.2.2.1, hF.2.2.2.2.2.2.2.2.2.2.2.2.2.1, fun _ => rfl, hF.2.2.2.2.2.2.2.2.2.2.2.2.2.2.2.1, hF.2.2.2.2.2.2.2.2.2.2.2.2.2.2.2.2.1, hF.2.2.2.2.2.2.2.2.2.2.2.2.2.2.2.2.2.1, hF.2.2.2.2.2.2.2.2.2.2.2.2.2.2.2.2.2.2.1, hF.2.2.2.2.2.2.2.2.2.2.2.2.2.2.2.2.2.2.2⟩, hW⟩
          refine StepsI.cons rfl ?_ ?_
          · rintro L zA v ⟨zB, zS, rfl, rfl, hF, hW⟩ hL hm K hK
            have hb15 : zB 15 = false := by simpa using hL
            have hb8 : zB 8 = true := by cases e : zB 8 with | false => (exfalso; revert hm; simp [metB, Region.binds, e]) | true => rfl
            have e8 : zS 24 = undef := hF.2.2.2.2.2.2.2.2.1 hb8
            clear hL hm
            simp only [puts, Act.put, List.setIfInBounds_toArray, List.set_cons_zero, List.set_cons_succ]
            simp only [e8]
            rw [if_neg (by exact Bool.false_ne_true)]
            exact hK.out _ _ ⟨fun zj => if zj = 8 then true else if zj = 15 then true else zB zj, fun zd => if zd = 31 then undef else if zd = 24 then undef else zS zd, by simp [hb8], by kernel_rfl, ⟨hF.1, hF.2.1, hF.2.2.1, hF.2.2.2.1, hF.2.2.2.2.1, hF.2.2.2.2.2.1, hF.2.2.2.2.2.2.1, hF.2.2.2.2.2.2.2.1, fun _ => rfl, hF.2.2.2.2.2.2.2.2.2.1, hF.2.2.2.2.2.2.2.2.2.2.1, hF.2.2.2.2.2.2.2.2.2.2.2.1, hF.2.2.2.2.2.2.2.2.2.2.2.2.1, hF.2.2.2.2.2.2.2.2.2.2.2.2.2.1, hF.2.2.2.2.2.2.2.2.2.2.2.2.2.2.1, fun _ => rfl, hF.2.2.2.2.2.2.2.2.2.2.2.2.2.2.2.2.1, hF.2.2.2.2.2.2.2.2.2.2.2.2.2.2.2.2.2.1, hF.2.2.2.2.2.2.2.2.2.2.2.2.2.2.2.2.2.2.1, hF.2.2.2.2.2.2.2.2.2.2.2.2.2.2.2.2.2.2.2⟩, hW⟩
          refine StepsI.cons rfl ?_ ?_
          · rintro L zA v ⟨zB, zS, rfl, rfl, hF, hW⟩ hL hm K hK
            have hb16 : zB 16 = false := by simpa using hL
            have hb8 : zB 8 = true := by cases e : zB 8 with | false => (exfalso; revert hm; simp [metB, Region.binds, e]) | true => rfl
            have e8 : zS 24 = undef := hF.2.2.2.2.2.2.2.2.1 hb8
            clear hL hm
            simp only [puts, Act.put, List.setIfInBounds_toArray, List.set_cons_zero, List.set_cons_succ]
            simp only [e8]
            rw [if_neg (by exact Bool.false_ne_true)]
            exact hK.out _ _ ⟨fun zj => if zj = 8 then true else if zj = 16 then true else zB zj, fun zd => if zd = 32 then undef else if zd = 24 then undef else zS zd, by simp [hb8], by kernel_rfl, ⟨hF.1, hF.2.1, hF.2.2.1, hF.2.2.2.1, hF.2.2.2.2.1, hF.2.2.2.2.2.1, hF.2.2.2.2.2.2.1, hF.2.2.2.2.2.2.2.1, fun _ => rfl, hF.2.2.2.2.2.2.2.2.2.1, hF.2.2.2.2.2.2.2.2.2.2.1, hF.2.2.2.2.2.2.2.2.2.2.2.1, hF.2.2.2.2.2.2.2.2.2.2.2.2.1, hF.2.2.2.2.2.2.2.2.2.2.2.2.2.1, hF.2.2.2.2.2.2.2.2.2.2.2.2.2.2.1, hF.2.2.2.2.2.2.2.2.2.2.2.2.2.2.2.1, fun _ => rfl, hF.2.2.2.2.2.2.2.2.2.2.2.2.2.2.2.2.2.1, hF.2.2.2.2.2.2.2.2.2.2.2.2.2.2.2.2.2.2.1, hF.2.2.2.2.2.2.2.2.2.2.2.2.2.2.2.2.2.2.2⟩, hW⟩
          refine StepsI.cons rfl ?_ ?_
          · rintro L zA v ⟨zB, zS, rfl, rfl, hF, hW⟩ hL hm K hK
            have hb17 : zB 17 = false := by simpa using hL
            have hb2 : zB 2 = true := by cases e : zB 2 with | false => (exfalso; revert hm; simp [metB, Region.binds, e]) | true => rfl
            have e2 : zS 18 = .bool true := hF.2.2.1 hb2
            clear hL hm
            simp only [puts, Act.put, List.setIfInBounds_toArray, List.set_cons_zero, List.set_cons_succ]
            simp only [e2]
            rw [if_neg (by exact Bool.false_ne_true)]
            exact hK.out _ _ ⟨fun zj => if zj = 2 then true else if zj = 17 then true else zB zj, fun zd => if zd = 33 then undef else if zd = 18 then .bool true else zS zd, by simp [hb2], by kernel_rfl, ⟨hF.1, hF.2.1, fun _ => rfl, hF.2.2.2.1, hF.2.2.2.2.1, hF.2.2.2.2.2.1, hF.2.2.2.2.2.2.1, hF.2.2.2.2.2.2.2.1, hF.2.2.2.2.2.2.2.2.1, hF.2.2.2.2.2.2.2.2.2.1, hF.2.2.2.2.2.2.2.2.2.2.1, hF.2.2.2.2.2.2.2.2.2.2.2.1, hF.2.2.2.2.2.2.2.2.2.2.2.2.1, hF.2.2.2.2.2.2.2.2.2.2.2.2.2.1, hF.2.2.2.2.2.2.2.2.2.2.2.2.2.2.1, hF.2.2.2.2.2.2.2.2.2.2.2.2.2.2.2.1, hF.2.2.2.2.2.2.2.2.2.2.2.2.2.2.2.2.1, fun _ => rfl, hF.2.2.2.2.2.2.2.2.2.2.2.2.2.2.2.2.2.2.1, hF.2.2.2.2.2.2.2.2.2.2.2.2.2.2.2.2.2.2.2⟩, hW⟩
          refine StepsI.cons rfl ?_ ?_
          · rintro L zA v ⟨zB, zS, rfl, rfl, hF, hW⟩ hL hm K hK
            have hb18 : zB 18 = false := by simpa using hL
            have hb2 : zB 2 = true := by cases e : zB 2 with | false => (exfalso; revert hm; simp [metB, Region.binds, e]) | true => rfl
            have hb17 : zB 17 = true := by cases e : zB 17 with | false => (exfalso; revert hm; simp [metB, Region.binds, e]) | true => rfl
            have e2 : zS 18 = .bool true := hF.2.2.1 hb2
            have e17 : zS 33 = undef := hF.2.2.2.2.2.2.2.2.2.2.2.2.2.2.2.2.2.1 hb17
            clear hL hm
            simp only [puts, Act.put, List.setIfInBounds_toArray, List.set_cons_zero, List.set_cons_succ]
            simp only [e2, e17]
            go_simp
            exact hK.out _ _ ⟨fun zj => if zj = 17 then true else if zj = 2 then true else if zj = 18 then true else zB zj, fun zd => if zd = 34 then .bool true else if zd = 33 then undef else if zd = 18 then .bool true else zS zd, by simp [hb2, hb17], by kernel_rfl, ⟨hF.1, hF.2.1, fun _ => rfl, hF.2.2.2.1, hF.2.2.2.2.1, hF.2.2.2.2.2.1, hF.2.2.2.2.2.2.1, hF.2.2.2.2.2.2.2.1, hF.2.2.2.2.2.2.2.2.1, hF.2.2.2.2.2.2.2.2.2.1, hF.2.2.2.2.2.2.2.2.2.2.1, hF.2.2.2.2.2.2.2.2.2.2.2.1, hF.2.2.2.2.2.2.2.2.2.2.2.2.1, hF.2.2.2.2.2.2.2.2.2.2.2.2.2.1, hF.2.2.2.2.2.2.2.2.2.2.2.2.2.2.1, hF.2.2.2.2.2.2.2.2.2.2.2.2.2.2.2.1, hF.2.2.2.2.2.2.2.2.2.2.2.2.2.2.2.2.1, fun _ => rfl, fun _ => rfl, hF.2.2.2.2.2.2.2.2.2.2.2.2.2.2.2.2.2.2.2⟩, hW⟩
          refine StepsI.cons rfl ?_ ?_
          · rintro L zA v ⟨zB, zS, rfl, rfl, hF, hW⟩ hL hm K hK
            have hb19 : zB 19 = false := by simpa using hL
            have hb18 : zB 18 = true := by cases e : zB 18 with | false => (exfalso; revert hm; simp [metB, Region.binds, e]) | true => rfl
            have e18 : zS 34 = .bool true := hF.2.2.2.2.2.2.2.2.2.2.2.2.2.2.2.2.2.2.1 hb18
            clear hL hm
            simp only [puts, Act.put, List.setIfInBounds_toArray, List.set_cons_zero, List.set_cons_succ]
            simp only [e18]
            go_simp
            exact hK.out _ _ ⟨fun zj => if zj = 18 then true else if zj = 19 then true else zB zj, fun zd => if zd = 4 then .bool true else if zd = 34 then .bool true else zS zd, by simp [hb18], by kernel_rfl, ⟨hF.1, hF.2.1, hF.2.2.1, hF.2.2.2.1, hF.2.2.2.2.1, hF.2.2.2.2.2.1, hF.2.2.2.2.2.2.1, hF.2.2.2.2.2.2.2.1, hF.2.2.2.2.2.2.2.2.1, hF.2.2.2.2.2.2.2.2.2.1, hF.2.2.2.2.2.2.2.2.2.2.1, hF.2.2.2.2.2.2.2.2.2.2.2.1, hF.2.2.2.2.2.2.2.2.2.2.2.2.1, hF.2.2.2.2.2.2.2.2.2.2.2.2.2.1, hF.2.2.2.2.2.2.2.2.2.2.2.2.2.2.1, hF.2.2.2.2.2.2.2.2.2.2.2.2.2.2.2.1, hF.2.2.2.2.2.2.2.2.2.2.2.2.2.2.2.2.1, hF.2.2.2.2.2.2.2.2.2.2.2.2.2.2.2.2.2.1, fun _ => rfl, fun _ => rfl⟩, hW⟩
          exact StepsI.nil (by kernel_rfl)
        · rintro L zA v ⟨zB, zS, rfl, rfl, hF, hW⟩ hr
          have hu := all_up (by kernel_rfl) (N := 20) (by kernel_rfl) hr
          have hb0 : zB 0 = true := by simpa using hu 0 (by decide)
          have hb1 : zB 1 = true := by simpa using hu 1 (by decide)
          have hb2 : zB 2 = true := by simpa using hu 2 (by decide)
          have hb3 : zB 3 = true := by simpa using hu 3 (by decide)
          have hb4 : zB 4 = true := by simpa using hu 4 (by decide)
          have hb5 : zB 5 = true := by simpa using hu 5 (by decide)
          have hb6 : zB 6 = true := by simpa using hu 6 (by decide)
          have hb7 : zB 7 = true := by simpa using hu 7 (by decide)
          have hb8 : zB 8 = true := by simpa using hu 8 (by decide)
          have hb9 : zB 9 = true := by simpa using hu 9 (by decide)
          have hb10 : zB 10 = true := by simpa using hu 10 (by decide)
          have hb11 : zB 11 = true := by simpa using hu 11 (by decide)
          have hb12 : zB 12 = true := by simpa using hu 12 (by decide)
          have hb13 : zB 13 = true := by simpa using hu 13 (by decide)
          have hb14 : zB 14 = true := by simpa using hu 14 (by decide)
          have hb15 : zB 15 = true := by simpa using hu 15 (by decide)
          have hb16 : zB 16 = true := by simpa using hu 16 (by decide)
          have hb17 : zB 17 = true := by simpa using hu 17 (by decide)
          have hb18 : zB 18 = true := by simpa using hu 18 (by decide)
          have hb19 : zB 19 = true := by simpa using hu 19 (by decide)
          have e0 : zS 16 = .agg (dA m1 G1) := hF.1 hb0
          have e1 : zS 17 = .bool true := hF.2.1 hb1
          have e2 : zS 18 = .bool true := hF.2.2.1 hb2
          have e3 : zS 19 = undef := hF.2.2.2.1 hb3
          have e4 : zS 20 = undef := hF.2.2.2.2.1 hb4
          have e5 : zS 21 = undef := hF.2.2.2.2.2.1 hb5
          have e6 : zS 22 = undef := hF.2.2.2.2.2.2.1 hb6
          have e7 : zS 23 = undef := hF.2.2.2.2.2.2.2.1 hb7
          have e8 : zS 24 = undef := hF.2.2.2.2.2.2.2.2.1 hb8
          have e9 : zS 25 = undef := hF.2.2.2.2.2.2.2.2.2.1 hb9
          have e10 : zS 26 = undef := hF.2.2.2.2.2.2.2.2.2.2.1 hb10
          have e11 : zS 27 = undef := hF.2.2.2.2.2.2.2.2.2.2.2.1 hb11
          have e12 : zS 28 = undef := hF.2.2.2.2.2.2.2.2.2.2.2.2.1 hb12
          have e13 : zS 29 = undef := hF.2.2.2.2.2.2.2.2.2.2.2.2.2.1 hb13
          have e14 : zS 30 = undef := hF.2.2.2.2.2.2.2.2.2.2.2.2.2.2.1 hb14
          have e15 : zS 31 = undef := hF.2.2.2.2.2.2.2.2.2.2.2.2.2.2.2.1 hb15
          have e16 : zS 32 = undef := hF.2.2.2.2.2.2.2.2.2.2.2.2.2.2.2.2.1 hb16
          have e17 : zS 33 = undef := hF.2.2.2.2.2.2.2.2.2.2.2.2.2.2.2.2.2.1 hb17
          have e18 : zS 34 = .bool true := hF.2.2.2.2.2.2.2.2.2.2.2.2.2.2.2.2.2.2.1 hb18
          have e19 : zS 4 = .bool true := hF.2.2.2.2.2.2.2.2.2.2.2.2.2.2.2.2.2.2.2 hb19
          clear hu hr hF
          simp only [puts, Act.put, List.setIfInBounds_toArray, List.set_cons_zero, List.set_cons_succ]
          simp only [e0, e1, e2, e3, e4, e5, e6, e7, e8, e9, e10, e11, e12, e13, e14, e15, e16, e17, e18, e19]
          clear e0 e1 e2 e3 e4 e5 e6 e7 e8 e9 e10 e11 e12 e13 e14 e15 e16 e17 e18 e19
          clear hb0 hb1 hb2 hb3 hb4 hb5 hb6 hb7 hb8 hb9 hb10 hb11 hb12 hb13 hb14 hb15 hb16 hb17 hb18 hb19
          clear zB zS
          have HB := mkHid (below_step B5.out hW)
          clear hW
          go_wp2
          go_ret
          exact ⟨ret_bool e1.out.symm, HB.out⟩
      | some f =>
        obtain ⟨h1, h2, h3⟩ := HFA.out f hc1
        have hm : m1 = (z.toNat : Nat) := by rw [← HM1.out, hc1]; rfl
        have HD1 : Hid (decide (m1 = 0) = false) := mkHid (decide_eq_false (by omega))
        have hGf : G1 = grid z.toNat f := by have := HDG1.out; rw [hc1, D_some] at this; exact (dA_inj this).2.symm
        cases hn2 : noF z' l' with
        | true =>
          have hm2 : m2 = 0 := by rw [← HM2.out, okO_no (no_ok hn2)]; rfl
          have HEQM : Hid ((m1 == m2) = false) := mkHid (by have h : ¬ m1 = m2 := by omega
                                                            simpa using h)
          have e1 : Hid (leqF z l z' l' = false) := mkHid (leqF_none HGO.out hc1 hn2)
          clear hm hm2 hc1 hGf hn2 h1 h2 h3
          refine wp_region_inv2 (fun zA0 L zA v => ∃ (zB : Nat → Bool) (zS : Nat → Value), L = #[zB 0, zB 1, zB 2, zB 3, zB 4, zB 5, zB 6, zB 7, zB 8, zB 9, zB 10, zB 11, zB 12, zB 13, zB 14, zB 15, zB 16, zB 17, zB 18, zB 19] ∧ zA = puts zA0 [(16, zS 16), (17, zS 17), (18, zS 18), (19, zS 19), (20, zS 20), (21, zS 21), (22, zS 22), (23, zS 23), (24, zS 24), (25, zS 25), (26, zS 26), (27, zS 27), (28, zS 28), (29, zS 29), (30, zS 30), (31, zS 31), (32, zS 32), (33, zS 33), (34, zS 34), (4, zS 4)] ∧ ((zB 0 = true → zS 16 = .agg (dA m1 G1)) ∧ (zB 1 = true → zS 17 = .bool false) ∧ (zB 2 = true → zS 18 = .bool false) ∧ (zB 3 = true → zS 19 = .pointer (some ⟨X, 0, none⟩)) ∧ (zB 4 = true → zS 20 = .int .i64 m1) ∧ (zB 5 = true → zS 21 = .pointer (some ⟨Y, 0, none⟩)) ∧ (zB 6 = true → zS 22 = .int .i64 m2) ∧ (zB 7 = true → zS 23 = .bool false) ∧ (zB 8 = true → zS 24 = .bool false) ∧ (zB 9 = true → zS 25 = undef) ∧ (zB 10 = true → zS 26 = undef) ∧ (zB 11 = true → zS 27 = undef) ∧ (zB 12 = true → zS 28 = undef) ∧ (zB 13 = true → zS 29 = undef) ∧ (zB 14 = true → zS 30 = undef) ∧ (zB 15 = true → zS 31 = undef) ∧ (zB 16 = true → zS 32 = undef) ∧ (zB 17 = true → zS 33 = .bool false) ∧ (zB 18 = true → zS 34 = .bool false) ∧ (zB 19 = true → zS 4 = .bool false)) ∧ Below w5.heap.size w5 v) (by kernel_rfl) ?_ ?_ ?_
          · exact ⟨fun _ => false, fun zd => if zd = 4 then .bool false else undef, rfl, by kernel_rfl, ⟨fun e => ft e, fun e => ft e, fun e => ft e, fun e => ft e, fun e => ft e, fun e => ft e, fun e => ft e, fun e => ft e, fun e => ft e, fun e => ft e, fun e => ft e, fun e => ft e, fun e => ft e, fun e => ft e, fun e => ft e, fun e => ft e, fun e => ft e, fun e => ft e, fun e => ft e, fun e => ft e⟩, (Below.refl _ _).drew⟩
          · refine StepsI.cons rfl ?_ ?_
            · rintro L zA v ⟨zB, zS, rfl, rfl, hF, hW⟩ hL hm K hK
              have hb0 : zB 0 = false := by simpa using hL
              clear hL hm
              simp only [puts, Act.put, List.setIfInBounds_toArray, List.set_cons_zero, List.set_cons_succ]
              rw [if_pos (by rfl)]
              refine wp_load_mid 59 _ rfl X 0 rfl (dL m1 G1) _ (DX5.out.below hW).range Try.underlying59 rfl (by rw [dL_len HG1.out]; exact size64) ?_
              simp only [Act.put]
              exact hK.out _ _ ⟨fun zj => if zj = 0 then true else zB zj, fun zd => if zd = 16 then .agg (dA m1 G1) else zS zd, rfl, by kernel_rfl, ⟨fun _ => rfl, hF.2.1, hF.2.2.1, hF.2.2.2.1, hF.2.2.2.2.1, hF.2.2.2.2.2.1, hF.2.2.2.2.2.2.1, hF.2.2.2.2.2.2.2.1, hF.2.2.2.2.2.2.2.2.1, hF.2.2.2.2.2.2.2.2.2.1, hF.2.2.2.2.2.2.2.2.2.2.1, hF.2.2.2.2.2.2.2.2.2.2.2.1, hF.2.2.2.2.2.2.2.2.2.2.2.2.1, hF.2.2.2.2.2.2.2.2.2.2.2.2.2.1, hF.2.2.2.2.2.2.2.2.2.2.2.2.2.2.1, hF.2.2.2.2.2.2.2.2.2.2.2.2.2.2.2.1, hF.2.2.2.2.2.2.2.2.2.2.2.2.2.2.2.2.1, hF.2.2.2.2.2.2.2.2.2.2.2.2.2.2.2.2.2.1, hF.2.2.2.2.2.2.2.2.2.2.2.2.2.2.2.2.2.2.1, hF.2.2.2.2.2.2.2.2.2.2.2.2.2.2.2.2.2.2.2⟩, hW⟩
            refine StepsI.cons rfl ?_ ?_
            · rintro L zA v ⟨zB, zS, rfl, rfl, hF, hW⟩ hL hm K hK
              have hb1 : zB 1 = false := by simpa using hL
              have hb0 : zB 0 = true := by cases e : zB 0 with | false => (exfalso; revert hm; simp [metB, Region.binds, e]) | true => rfl
              have e0 : zS 16 = .agg (dA m1 G1) := hF.1 hb0
              clear hL hm
              simp only [puts, Act.put, List.setIfInBounds_toArray, List.set_cons_zero, List.set_cons_succ]
              simp only [e0]
              go_simp
              refine (isNone_any m1 G1 _).mono ?_
              rintro e v2 ⟨rfl, hb⟩
              rw [HD1.out]
              go_wp2_with fail
              exact hK.out _ _ ⟨fun zj => if zj = 0 then true else if zj = 1 then true else zB zj, fun zd => if zd = 17 then .bool false else if zd = 16 then .agg (dA m1 G1) else zS zd, by simp [hb0], by kernel_rfl, ⟨fun _ => rfl, fun _ => rfl, hF.2.2.1, hF.2.2.2.1, hF.2.2.2.2.1, hF.2.2.2.2.2.1, hF.2.2.2.2.2.2.1, hF.2.2.2.2.2.2.2.1, hF.2.2.2.2.2.2.2.2.1, hF.2.2.2.2.2.2.2.2.2.1, hF.2.2.2.2.2.2.2.2.2.2.1, hF.2.2.2.2.2.2.2.2.2.2.2.1, hF.2.2.2.2.2.2.2.2.2.2.2.2.1, hF.2.2.2.2.2.2.2.2.2.2.2.2.2.1, hF.2.2.2.2.2.2.2.2.2.2.2.2.2.2.1, hF.2.2.2.2.2.2.2.2.2.2.2.2.2.2.2.1, hF.2.2.2.2.2.2.2.2.2.2.2.2.2.2.2.2.1, hF.2.2.2.2.2.2.2.2.2.2.2.2.2.2.2.2.2.1, hF.2.2.2.2.2.2.2.2.2.2.2.2.2.2.2.2.2.2.1, hF.2.2.2.2.2.2.2.2.2.2.2.2.2.2.2.2.2.2.2⟩, below_step hW hb⟩
            refine StepsI.cons rfl ?_ ?_
            · rintro L zA v ⟨zB, zS, rfl, rfl, hF, hW⟩ hL hm K hK
              have hb2 : zB 2 = false := by simpa using hL
              have hb1 : zB 1 = true := by cases e : zB 1 with | false => (exfalso; revert hm; simp [metB, Region.binds, e]) | true => rfl
              have e1 : zS 17 = .bool false := hF.2.1 hb1
              clear hL hm
              simp only [puts, Act.put, List.setIfInBounds_toArray, List.set_cons_zero, List.set_cons_succ]
              simp only [e1]
              go_simp
              exact hK.out _ _ ⟨fun zj => if zj = 1 then true else if zj = 2 then true else zB zj, fun zd => if zd = 18 then .bool false else if zd = 17 then .bool false else zS zd, by simp [hb1], by kernel_rfl, ⟨hF.1, fun _ => rfl, fun _ => rfl, hF.2.2.2.1, hF.2.2.2.2.1, hF.2.2.2.2.2.1, hF.2.2.2.2.2.2.1, hF.2.2.2.2.2.2.2.1, hF.2.2.2.2.2.2.2.2.1, hF.2.2.2.2.2.2.2.2.2.1, hF.2.2.2.2.2.2.2.2.2.2.1, hF.2.2.2.2.2.2.2.2.2.2.2.1, hF.2.2.2.2.2.2.2.2.2.2.2.2.1, hF.2.2.2.2.2.2.2.2.2.2.2.2.2.1, hF.2.2.2.2.2.2.2.2.2.2.2.2.2.2.1, hF.2.2.2.2.2.2.2.2.2.2.2.2.2.2.2.1, hF.2.2.2.2.2.2.2.2.2.2.2.2.2.2.2.2.1, hF.2.2.2.2.2.2.2.2.2.2.2.2.2.2.2.2.2.1, hF.2.2.2.2.2.2.2.2.2.2.2.2.2.2.2.2.2.2.1, hF.2.2.2.2.2.2.2.2.2.2.2.2.2.2.2.2.2.2.2⟩, hW⟩
            refine StepsI.cons rfl ?_ ?_
            · rintro L zA v ⟨zB, zS, rfl, rfl, hF, hW⟩ hL hm K hK
              have hb3 : zB 3 = false := by simpa using hL
              have hb2 : zB 2 = true := by cases e : zB 2 with | false => (exfalso; revert hm; simp [metB, Region.binds, e]) | true => rfl
              have e2 : zS 18 = .bool false := hF.2.2.1 hb2
              clear hL hm
              simp only [puts, Act.put, List.setIfInBounds_toArray, List.set_cons_zero, List.set_cons_succ]
              simp only [e2]
              go_simp
              exact hK.out _ _ ⟨fun zj => if zj = 2 then true else if zj = 3 then true else zB zj, fun zd => if zd = 19 then .pointer (some ⟨X, 0, none⟩) else if zd = 18 then .bool false else zS zd, by simp [hb2], by kernel_rfl, ⟨hF.1, hF.2.1, fun _ => rfl, fun _ => rfl, hF.2.2.2.2.1, hF.2.2.2.2.2.1, hF.2.2.2.2.2.2.1, hF.2.2.2.2.2.2.2.1, hF.2.2.2.2.2.2.2.2.1, hF.2.2.2.2.2.2.2.2.2.1, hF.2.2.2.2.2.2.2.2.2.2.1, hF.2.2.2.2.2.2.2.2.2.2.2.1, hF.2.2.2.2.2.2.2.2.2.2.2.2.1, hF.2.2.2.2.2.2.2.2.2.2.2.2.2.1, hF.2.2.2.2.2.2.2.2.2.2.2.2.2.2.1, hF.2.2.2.2.2.2.2.2.2.2.2.2.2.2.2.1, hF.2.2.2.2.2.2.2.2.2.2.2.2.2.2.2.2.1, hF.2.2.2.2.2.2.2.2.2.2.2.2.2.2.2.2.2.1, hF.2.2.2.2.2.2.2.2.2.2.2.2.2.2.2.2.2.2.1, hF.2.2.2.2.2.2.2.2.2.2.2.2.2.2.2.2.2.2.2⟩, hW⟩
            refine StepsI.cons rfl ?_ ?_
            · rintro L zA v ⟨zB, zS, rfl, rfl, hF, hW⟩ hL hm K hK
              have hb4 : zB 4 = false := by simpa using hL
              have hb2 : zB 2 = true := by cases e : zB 2 with | false => (exfalso; revert hm; simp [metB, Region.binds, e]) | true => rfl
              have hb3 : zB 3 = true := by cases e : zB 3 with | false => (exfalso; revert hm; simp [metB, Region.binds, e]) | true => rfl
              have e2 : zS 18 = .bool false := hF.2.2.1 hb2
              have e3 : zS 19 = .pointer (some ⟨X, 0, none⟩) := hF.2.2.2.1 hb3
              clear hL hm
              simp only [puts, Act.put, List.setIfInBounds_toArray, List.set_cons_zero, List.set_cons_succ]
              simp only [e2, e3]
              have qx := (DX5.out.below hW).size
              go_simp
              exact hK.out _ _ ⟨fun zj => if zj = 3 then true else if zj = 2 then true else if zj = 4 then true else zB zj, fun zd => if zd = 20 then .int .i64 m1 else if zd = 19 then .pointer (some ⟨X, 0, none⟩) else if zd = 18 then .bool false else zS zd, by simp [hb2, hb3], by kernel_rfl, ⟨hF.1, hF.2.1, fun _ => rfl, fun _ => rfl, fun _ => rfl, hF.2.2.2.2.2.1, hF.2.2.2.2.2.2.1, hF.2.2.2.2.2.2.2.1, hF.2.2.2.2.2.2.2.2.1, hF.2.2.2.2.2.2.2.2.2.1, hF.2.2.2.2.2.2.2.2.2.2.1, hF.2.2.2.2.2.2.2.2.2.2.2.1, hF.2.2.2.2.2.2.2.2.2.2.2.2.1, hF.2.2.2.2.2.2.2.2.2.2.2.2.2.1, hF.2.2.2.2.2.2.2.2.2.2.2.2.2.2.1, hF.2.2.2.2.2.2.2.2.2.2.2.2.2.2.2.1, hF.2.2.2.2.2.2.2.2.2.2.2.2.2.2.2.2.1, hF.2.2.2.2.2.2.2.2.2.2.2.2.2.2.2.2.2.1, hF.2.2.2.2.2.2.2.2.2.2.2.2.2.2.2.2.2.2.1, hF.2.2.2.2.2.2.2.2.2.2.2.2.2.2.2.2.2.2.2⟩, hW⟩
            refine StepsI.cons rfl ?_ ?_
            · rintro L zA v ⟨zB, zS, rfl, rfl, hF, hW⟩ hL hm K hK
              have hb5 : zB 5 = false := by simpa using hL
              have hb2 : zB 2 = true := by cases e : zB 2 with | false => (exfalso; revert hm; simp [metB, Region.binds, e]) | true => rfl
              have e2 : zS 18 = .bool false := hF.2.2.1 hb2
              clear hL hm
              simp only [puts, Act.put, List.setIfInBounds_toArray, List.set_cons_zero, List.set_cons_succ]
              simp only [e2]
              go_simp
              exact hK.out _ _ ⟨fun zj => if zj = 2 then true else if zj = 5 then true else zB zj, fun zd => if zd = 21 then .pointer (some ⟨Y, 0, none⟩) else if zd = 18 then .bool false else zS zd, by simp [hb2], by kernel_rfl, ⟨hF.1, hF.2.1, fun _ => rfl, hF.2.2.2.1, hF.2.2.2.2.1, fun _ => rfl, hF.2.2.2.2.2.2.1, hF.2.2.2.2.2.2.2.1, hF.2.2.2.2.2.2.2.2.1, hF.2.2.2.2.2.2.2.2.2.1, hF.2.2.2.2.2.2.2.2.2.2.1, hF.2.2.2.2.2.2.2.2.2.2.2.1, hF.2.2.2.2.2.2.2.2.2.2.2.2.1, hF.2.2.2.2.2.2.2.2.2.2.2.2.2.1, hF.2.2.2.2.2.2.2.2.2.2.2.2.2.2.1, hF.2.2.2.2.2.2.2.2.2.2.2.2.2.2.2.1, hF.2.2.2.2.2.2.2.2.2.2.2.2.2.2.2.2.1, hF.2.2.2.2.2.2.2.2.2.2.2.2.2.2.2.2.2.1, hF.2.2.2.2.2.2.2.2.2.2.2.2.2.2.2.2.2.2.1, hF.2.2.2.2.2.2.2.2.2.2.2.2.2.2.2.2.2.2.2⟩, hW⟩
            refine StepsI.cons rfl ?_ ?_
            · rintro L zA v ⟨zB, zS, rfl, rfl, hF, hW⟩ hL hm K hK
              have hb6 : zB 6 = false := by simpa using hL
              have hb2 : zB 2 = true := by cases e : zB 2 with | false => (exfalso; revert hm; simp [metB, Region.binds, e]) | true => rfl
              have hb5 : zB 5 = true := by cases e : zB 5 with | false => (exfalso; revert hm; simp [metB, Region.binds, e]) | true => rfl
              have e2 : zS 18 = .bool false := hF.2.2.1 hb2
              have e5 : zS 21 = .pointer (some ⟨Y, 0, none⟩) := hF.2.2.2.2.2.1 hb5
              clear hL hm
              simp only [puts, Act.put, List.setIfInBounds_toArray, List.set_cons_zero, List.set_cons_succ]
              simp only [e2, e5]
              have qy := (DY5.out.below hW).size
              go_simp
              exact hK.out _ _ ⟨fun zj => if zj = 5 then true else if zj = 2 then true else if zj = 6 then true else zB zj, fun zd => if zd = 22 then .int .i64 m2 else if zd = 21 then .pointer (some ⟨Y, 0, none⟩) else if zd = 18 then .bool false else zS zd, by simp [hb2, hb5], by kernel_rfl, ⟨hF.1, hF.2.1, fun _ => rfl, hF.2.2.2.1, hF.2.2.2.2.1, fun _ => rfl, fun _ => rfl, hF.2.2.2.2.2.2.2.1, hF.2.2.2.2.2.2.2.2.1, hF.2.2.2.2.2.2.2.2.2.1, hF.2.2.2.2.2.2.2.2.2.2.1, hF.2.2.2.2.2.2.2.2.2.2.2.1, hF.2.2.2.2.2.2.2.2.2.2.2.2.1, hF.2.2.2.2.2.2.2.2.2.2.2.2.2.1, hF.2.2.2.2.2.2.2.2.2.2.2.2.2.2.1, hF.2.2.2.2.2.2.2.2.2.2.2.2.2.2.2.1, hF.2.2.2.2.2.2.2.2.2.2.2.2.2.2.2.2.1, hF.2.2.2.2.2.2.2.2.2.2.2.2.2.2.2.2.2.1, hF.2.2.2.2.2.2.2.2.2.2.2.2.2.2.2.2.2.2.1, hF.2.2.2.2.2.2.2.2.2.2.2.2.2.2.2.2.2.2.2⟩, hW⟩
            refine StepsI.cons rfl ?_ ?_
            · rintro L zA v ⟨zB, zS, rfl, rfl, hF, hW⟩ hL hm K hK
              have hb7 : zB 7 = false := by simpa using hL
              have hb2 : zB 2 = true := by cases e : zB 2 with | false => (exfalso; revert hm; simp [metB, Region.binds, e]) | true => rfl
              have hb4 : zB 4 = true := by cases e : zB 4 with | false => (exfalso; revert hm; simp [metB, Region.binds, e]) | true => rfl
              have hb6 : zB 6 = true := by cases e : zB 6 with | false => (exfalso; revert hm; simp [metB, Region.binds, e]) | true => rfl
              have e2 : zS 18 = .bool false := hF.2.2.1 hb2
              have e4 : zS 20 = .int .i64 m1 := hF.2.2.2.2.1 hb4
              have e6 : zS 22 = .int .i64 m2 := hF.2.2.2.2.2.2.1 hb6
              clear hL hm
              simp only [puts, Act.put, List.setIfInBounds_toArray, List.set_cons_zero, List.set_cons_succ]
              simp only [e2, e4, e6]
              have hq := HEQM.out
              go_simp
              exact hK.out _ _ ⟨fun zj => if zj = 6 then true else if zj = 4 then true else if zj = 2 then true else if zj = 7 then true else zB zj, fun zd => if zd = 23 then .bool false else if zd = 22 then .int .i64 m2 else if zd = 20 then .int .i64 m1 else if zd = 18 then .bool false else zS zd, by simp [hb2, hb4, hb6], by kernel_rfl, ⟨hF.1, hF.2.1, fun _ => rfl, hF.2.2.2.1, fun _ => rfl, hF.2.2.2.2.2.1, fun _ => rfl, fun _ => rfl, hF.2.2.2.2.2.2.2.2.1, hF.2.2.2.2.2.2.2.2.2.1, hF.2.2.2.2.2.2.2.2.2.2.1, hF.2.2.2.2.2.2.2.2.2.2.2.1, hF.2.2.2.2.2.2.2.2.2.2.2.2.1, hF.2.2.2.2.2.2.2.2.2.2.2.2.2.1, hF.2.2.2.2.2.2.2.2.2.2.2.2.2.2.1, hF.2.2.2.2.2.2.2.2.2.2.2.2.2.2.2.1, hF.2.2.2.2.2.2.2.2.2.2.2.2.2.2.2.2.1, hF.2.2.2.2.2.2.2.2.2.2.2.2.2.2.2.2.2.1, hF.2.2.2.2.2.2.2.2.2.2.2.2.2.2.2.2.2.2.1, hF.2.2.2.2.2.2.2.2.2.2.2.2.2.2.2.2.2.2.2⟩, hW⟩
            refine StepsI.cons rfl ?_ ?_
            · rintro L zA v ⟨zB, zS, rfl, rfl, hF, hW⟩ hL hm K hK
              have hb8 : zB 8 = false := by simpa using hL
              have hb2 : zB 2 = true := by cases e : zB 2 with | false => (exfalso; revert hm; simp [metB, Region.binds, e]) | true => rfl
              have hb7 : zB 7 = true := by cases e : zB 7 with | false => (exfalso; revert hm; simp [metB, Region.binds, e]) | true => rfl
              have e2 : zS 18 = .bool false := hF.2.2.1 hb2
              have e7 : zS 23 = .bool false := hF.2.2.2.2.2.2.2.1 hb7
              clear hL hm
              simp only [puts, Act.put, List.setIfInBounds_toArray, List.set_cons_zero, List.set_cons_succ]
              simp only [e2, e7]
              go_simp
              exact hK.out _ _ ⟨fun zj => if zj = 7 then true else if zj = 2 then true else if zj = 8 then true else zB zj, fun zd => if zd = 24 then .bool false else if zd = 23 then .bool false else if zd = 18 then .bool false else zS zd, by simp [hb2, hb7], by kernel_rfl, ⟨hF.1, hF.2.1, fun _ => rfl, hF.2.2.2.1, hF.2.2.2.2.1, hF.2.2.2.2.2.1, hF.2.2.2.2.2.2.1, fun _ => rfl, fun _ => rfl, hF.2.2.2.2.2.2.2.2.2.1, hF.2.2.2.2.2.2.2.2.2.2.1, hF.2.2.2.2.2.2.2.2.2.2.2.1, hF.2.2.2.2.2.2.2.2.2.2.2.2.1, hF.2.2.2.2.2.2.2.2.2.2.2.2.2.1, hF.2.2.2.2.2.2.2.2.2.2.2.2.2.2.1, hF.2.2.2.2.2.2.2.2.2.2.2.2.2.2.2.1, hF.2.2.2.2.2.2.2.2.2.2.2.2.2.2.2.2.1, hF.2.2.2.2.2.2.2.2.2.2.2.2.2.2.2.2.2.1, hF.2.2.2.2.2.2.2.2.2.2.2.2.2.2.2.2.2.2.1, hF.2.2.2.2.2.2.2.2.2.2.2.2.2.2.2.2.2.2.2⟩, hW⟩
            refine StepsI.cons rfl ?_ ?_
            · rintro L zA v ⟨zB, zS, rfl, rfl, hF, hW⟩ hL hm K hK
              have hb9 : zB 9 = false := by simpa using hL
              have hb8 : zB 8 = true := by cases e : zB 8 with | false => (exfalso; revert hm; simp [metB, Region.binds, e]) | true => rfl
              have e8 : zS 24 = .bool false := hF.2.2.2.2.2.2.2.2.1 hb8
              clear hL hm
              simp only [puts, Act.put, List.setIfInBounds_toArray, List.set_cons_zero, List.set_cons_succ]
              simp only [e8]
              rw [if_neg (by exact Bool.false_ne_true)]
              exact hK.out _ _ ⟨fun zj => if zj = 8 then true else if zj = 9 then true else zB zj, fun zd => if zd = 25 then undef else if zd = 24 then .bool false else zS zd, by simp [hb8], by kernel_rfl, ⟨hF.1, hF.2.1, hF.2.2.1, hF.2.2.2.1, hF.2.2.2.2.1, hF.2.2.2.2.2.1, hF.2.2.2.2.2.2.1, hF.2.2.2.2.2.2.2.1, fun _ => rfl, fun _ => rfl, hF.2.2.2.2.2.2.2.2.2.2.1, hF.2.2.2.2.2.2.2.2.2.2.2.1, hF.2.2.2.2.2.2.2.2.2.2.2.2.1, hF.2.2.2.2.2.2.2.2.2.2.2.2.2.1, hF.2.2.2.2.2.2.2.2.2.2.2.2.2.2.1, hF.2.2.2.2.2.2.2.2.2.2.2.2.2.2.2.1, hF.2.2.2.2.2.2.2.2.2.2.2.2.2.2.2.2.1, hF.2.2.2.2.2.2.2.2.2.2.2.2.2.2.2.2.2.1, hF.2.2.2.2.2.2.2.2.2.2.2.2.2.2.2.2.2.2.1, hF.2.2.2.2.2.2.2.2.2.2.2.2.2.2.2.2.2.2.2⟩, hW⟩
            refine StepsI.cons rfl ?_ ?_
            · rintro L zA v ⟨zB, zS, rfl, rfl, hF, hW⟩ hL hm K hK
              have hb10 : zB 10 = false := by simpa using hL
              have hb8 : zB 8 = true := by cases e : zB 8 with | false => (exfalso; revert hm; simp [metB, Region.binds, e]) | true => rfl
              have e8 : zS 24 = .bool false := hF.2.2.2.2.2.2.2.2.1 hb8
              clear hL hm
              simp only [puts, Act.put, List.setIfInBounds_toArray, List.set_cons_zero, List.set_cons_succ]
              simp only [e8]
              rw [if_neg (by exact Bool.false_ne_true)]
              exact hK.out _ _ ⟨fun zj => if zj = 8 then true else if zj = 10 then true else zB zj, fun zd => if zd = 26 then undef else if zd = 24 then .bool false else zS zd, by simp [hb8], by kernel_rfl, ⟨hF.1, hF.2.1, hF.2.2.1, hF.2.2.2.1, hF.2.2.2.2.1, hF.2.2.2.2.2.1, hF.2.2.2.2.2.2.1, hF.2.2.2.2.2.2.2.1, fun _ => rfl, hF.2.2.2.2.2.2.2.2.2.1, fun _ => rfl, hF.2.2.2.2.2.2.2.2.2.2.2.1, hF.2.2.2.2.2.2.2.2.2.2.2.2.1, hF.2.2.2.2.2.2.2.2.2.2.2.2.2.1, hF.2.2.2.2.2.2.2.2.2.2.2.2.2.2.1, hF.2.2.2.2.2.2.2.2.2.2.2.2.2.2.2.1, hF.2.2.2.2.2.2.2.2.2.2.2.2.2.2.2.2.1, hF.2.2.2.2.2.2.2.2.2.2.2.2.2.2.2.2.2.1, hF.2.2.2.2.2.2.2.2.2.2.2.2.2.2.2.2.2.2.1, hF.2.2.2.2.2.2.2.2.2.2.2.2.2.2.2.2.2.2.2⟩, hW⟩
            refine StepsI.cons rfl ?_ ?_
            · rintro L zA v ⟨zB, zS, rfl, rfl, hF, hW⟩ hL hm K hK
              have hb11 : zB 11 = false := by simpa using hL
              have hb8 : zB 8 = true := by cases e : zB 8 with | false => (exfalso; revert hm; simp [metB, Region.binds, e]) | true => rfl
              have e8 : zS 24 = .bool false := hF.2.2.2.2.2.2.2.2.1 hb8
              clear hL hm
              simp only [puts, Act.put, List.setIfInBounds_toArray, List.set_cons_zero, List.set_cons_succ]
              simp only [e8]
              rw [if_neg (by exact Bool.false_ne_true)]
              exact hK.out _ _ ⟨fun zj => if zj = 8 then true else if zj = 11 then true else zB zj, fun zd => if zd = 27 then undef else if zd = 24 then .bool false else zS zd, by simp [hb8], by kernel_rfl, ⟨hF.1, hF.2.1, hF.2.2.1, hF.2.2.2.1, hF.2.2.2.2.1, hF.2.2.2.2.2.1, hF.2.2.2.2.2.2.1, hF.2.2.2.2.2.2.2.1, fun _ => rfl, hF.2.2.2.2.2.2.2.2.2.1, hF.2.2.2.2.2.2.2.2.2.2.1, fun _ => rfl, hF.2.2.2.2.2.2.2.2.2.2.2.2.1, hF.2.2.2.2.2.2.2.2.2.2.2.2.2.1, hF.2.2.2.2.2.2.2.2.2.2.2.2.2.2.1, hF.2.2.2.2.2.2.2.2.2.2.2.2.2.2.2.1, hF.2.2.2.2.2.2.2.2.2.2.2.2.2.2.2.2.1, hF.2.2.2.2.2.2.2.2.2.2.2.2.2.2.2.2.2.1, hF.2.2.2.2.2.2.2.2.2.2.2.2.2.2.2.2.2.2.1, hF.2.2.2.2.2.2.2.2.2.2.2.2.2.2.2.2.2.2.2⟩, hW⟩
            refine StepsI.cons rfl ?_ ?_
            · rintro L zA v ⟨zB, zS, rfl, rfl, hF, hW⟩ hL hm K hK
              have hb12 : zB 12 = false := by simpa using hL
              have hb8 : zB 8 = true := by cases e : zB 8 with | false => (exfalso; revert hm; simp [metB, Region.binds, e]) | true => rfl
              have e8 : zS 24 = .bool false := hF.2.2.2.2.2.2.2.2.1 hb8
              clear hL hm
              simp only [puts, Act.put, List.setIfInBounds_toArray, List.set_cons_zero, List.set_cons_succ]
              simp only [e8]
              rw [if_neg (by exact Bool.false_ne_true)]
              exact hK.out _ _ ⟨fun zj => if zj = 8 then true else if zj = 12 then true else zB zj, fun zd => if zd = 28 then undef else if zd = 24 then .bool false else zS zd, by simp [hb8], by kernel_rfl, ⟨hF.1, hF.2.1, hF.2.2.1, hF.2.2.2.1, hF.2.2.2.2.1, hF.2.2.2.2.2.1, hF.2.2.2.2.2.2.1, hF.2.2.2.2.2.2.2.1, fun _ => rfl, hF.2.2.2.2.2.2.2.2.2.1, hF.2.2.2.2.2.2.2.2.2.2.1, hF.2.2.2.2.2.2.2.2.2.2.2.1, fun _ => rfl, hF.2.2.2.2.2.2.2.2.2.2.2.2.2.1, hF.2.2.2.2.2.2.2.2.2.2.2.2.2.2.1, hF.2.2.2.2.2.2.2.2.2.2.2.2.2.2.2.1, hF.2.2.2.2.2.2.2.2.2.2.2.2.2.2.2.2.1, hF.2.2.2.2.2.2.2.2.2.2.2.2.2.2.2.2.2.1, hF.2.2.2.2.2.2.2.2.2.2.2.2.2.2.2.2.2.2.1, hF.2.2.2.2.2.2.2.2.2.2.2.2.2.2.2.2.2.2.2⟩, hW⟩
            refine StepsI.cons rfl ?_ ?_
            · rintro L zA v ⟨zB, zS, rfl, rfl, hF, hW⟩ hL hm K hK
              have hb13 : zB 13 = false := by simpa using hL
              have hb8 : zB 8 = true := by cases e : zB 8 with | false => (exfalso; revert hm; simp [metB, Region.binds, e]) | true => rfl
              have e8 : zS 24 = .bool false := hF.2.2.2.2.2.2.2.2.1 hb8
              clear hL hm
              simp only [puts, Act.put, List.setIfInBounds_toArray, List.set_cons_zero, List.set_cons_succ]
              simp only [e8]
              rw [if_neg (by exact Bool.false_ne_true)]
              exact hK.out _ _ ⟨fun zj => if zj = 8 then true else if zj = 13 then true else zB zj, fun zd => if zd = 29 then undef else if zd = 24 then .bool false else zS zd, by simp [hb8], by kernel_rfl, ⟨hF.1, hF.2.1, hF.2.2.1, hF.2.2.2.1, hF.2.2.2.2.1, hF.2.2.2.2.2.1, hF.2.2.2.2.2.2.1, hF.2.2.2.2.2.2.2.1, fun _ => rfl, hF.2.2.2.2.2.2.2.2.2.1, hF.2.2.2.2.2.2.2.2.2.2.1, hF.2.2.2.2.2.2.2.2.2.2.2.1, hF.2.2.2.2.2.2.2.2.2.2.2.2.1, fun _ => rfl, hF.2.2.2.2.2.2.2.2.2.2.2.2.2.2.1, hF.2.2.2.2.2.2.2.2.2.2.2.2.2.2.2.1, hF.2.2.2.2.2.2.2.2.2.2.2.2.2.2.2.2.1, hF.2.2.2.2.2.2.2.2.2.2.2.2.2.2.2.2.2.1, hF.2.2.2.2.2.2.2.2.2.2.2.2.2.2.2.2.2.2.1, hF.2.2.2.2.2.2.2.2.2.2.2.2.2.2.2.2.2.2.2⟩, hW⟩
            refine StepsI.cons rfl ?_ ?_
            · rintro L zA v ⟨zB, zS, rfl, rfl, hF, hW⟩ hL hm K hK
              have hb14 : zB 14 = false := by simpa using hL
              have hb8 : zB 8 = true := by cases e : zB 8 with | false => (exfalso; revert hm; simp [metB, Region.binds, e]) | true => rfl
              have e8 : zS 24 = .bool false := hF.2.2.2.2.2.2.2.2.1 hb8
              clear hL hm
              simp only [puts, Act.put, List.setIfInBounds_toArray, List.set_cons_zero, List.set_cons_succ]
              simp only [e8]
              rw [if_neg (by exact Bool.false_ne_true)]
              exact hK.out _ _ ⟨fun zj => if zj = 8 then true else if zj = 14 then true else zB zj, fun zd => if zd = 30 then undef else if zd = 24 then .bool false else zS zd, by simp [hb8], by kernel_rfl, ⟨hF.1, hF.2.1, hF.2.2.1, hF.2.2.2.1, hF.2.2.2.2.1, hF.2.2.2.2.2.1, hF.2.2.2.2.2.2.1, hF.2.2.2.2.2.2.2.1, fun _ => rfl, hF.2.2.2.2.2.2.2.2.2.1, hF.2.2.2.2.2.2.2.2.2.2.1, hF.2.2.2.2.2.2.2.2.2.2.2.1, hF.2.2.2.2.2.2.2.2.2.2.2.2.1, hF.2.2.2.2.2.2.2.2.2.2.2.2.2.1, fun _ => rfl, hF.2.2.2.2.2.2.2.2.2.2.2.2.2.2.2.1, hF.2.2.2.2.2.2.2.2.2.2.2.2.2.2.2.2.1, hF.2.2.2.2.2.2.2.2.2.2.2.2.2.2.2.2.2.1, hF.2.2.2.2.2.2.2.2.2.2.2.2.2.2.2.2.2.2.1, hF.2.2.2.2.2.2.2.2.2.2.2.2.2.2.2.2.2.2.2⟩, hW⟩
            refine StepsI.cons rfl ?_ ?_
            · rintro L zA v ⟨zB, zS, rfl, rfl, hF, hW⟩ hL hm K hK
              have hb15 : zB 15 = false := by simpa using hL
              have hb8 : zB 8 = true := by cases e : zB 8 with | false => (exfalso; revert hm; simp [metB, Region.binds, e]) | true => rfl
              have e8 : zS 24 = .bool false := hF.2.2.2.2.2.2.2.2.1 hb8
              clear hL hm
              simp only [puts, Act.put, List.setIfInBounds_toArray, List.set_cons_zero, List.set_cons_succ]
              simp only [e8]
              rw [if_neg (by exact Bool.false_ne_true)]
              exact hK.out _ _ ⟨fun zj => if zj = 8 then true else if zj = 15 then true else zB zj, fun zd => if zd = 31 then undef else if zd = 24 then .bool false else zS zd, by simp [hb8], by kernel_rfl, ⟨hF.1, hF.2.1, hF.2.2.1, hF.2.2.2.1, hF.2.2.2.2.1, hF.2.2.2.2.2.1, hF.2.2.2.2.2.2.1, hF.2.2.2.2.2.2.2.1, fun _ => rfl, hF.2.2.2.2.2.2.2.2.2.1, hF.2.2.2.2.2.2.2.2.2.2.1, hF.2.2.2.2.2.2.2.2.2.2.2.1, hF.2.2.2.2.2.2.2.2.2.2.2.2.1, hF.2.2.2.2.2.2.2.2.2.2.2.2.2.1, hF.2.2.2.2.2.2.2.2.2.2.2.2.2.2.1, fun _ => rfl, hF.2.2.2.2.2.2.2.2.2.2.2.2.2.2.2.2.1, hF.2.2.2.2.2.2.2.2.2.2.2.2.2.2.2.2.2.1, hF.2.2.2.2.2.2.2.2.2.2.2.2.2.2.2.2.2.2.1, hF.2.2.2.2.2.2.2.2.2.2.2.2.2.2.2.2.2.2.2⟩, hW⟩
            refine StepsI.cons rfl ?_ ?_
            · rintro L zA v ⟨zB, zS, rfl, rfl, hF, hW⟩ hL hm K hK
              have hb16 : zB 16 = false := by simpa using hL
              have hb8 : zB 8 = true := by cases e : zB 8 with | false => (exfalso; revert hm; simp [metB, Region.binds, e]) | true => rfl
              have e8 : zS 24 = .bool false := hF.2.2.2.2.2.2.2.2.1 hb8
              clear hL hm
              simp only [puts, Act.put, List.setIfInBounds_toArray, List.set_cons_zero, List.set_cons_succ]
              simp only [e8]
              rw [if_neg (by exact Bool.false_ne_true)]
              exact hK.out _ _ ⟨fun zj => if zj = 8 then true else if zj = 16 then true else zB zj, fun zd => if zd = 32 then undef else if zd = 24 then .bool false else zS zd, by simp [hb8], by kernel_rfl, ⟨hF.1, hF.2.1, hF.2.2.1, hF.2.2.2.1, hF.2.2.2.2.1, hF.2.2.2.2.2.1, hF.2.2.2.2.2.2.1, hF.2.2.2.2.2.2.2.1, fun _ => rfl, hF.2.2.2.2.2.2.2.2.2.1, hF.2.2.2.2.2.2.2.2.2.2.1, hF.2.2.2.2.2.2.2.2.2.2.2.1, hF.2.2.2.2.2.2.2.2.2.2.2.2.1, hF.2.2.2.2.2.2.2.2.2.2.2.2.2.1, hF.2.2.2.2.2.2.2.2.2.2.2.2.2.2.1, hF.2.2.2.2.2.2.2.2.2.2.2.2.2.2.2.1, fun _ => rfl, hF.2.2.2.2.2.2.2.2.2.2.2.2.2.2.2.2.2.1, hF.2.2.2.2.2.2.2.2.2.2.2.2.2.2.2.2.2.2.1, hF.2.2.2.2.2.2.2.2.2.2.2.2.2.2.2.2.2.2.2⟩, hW⟩
            refine StepsI.cons rfl ?_ ?_
            · rintro L zA v ⟨zB, zS, rfl, rfl, hF, hW⟩ hL hm K hK
              have hb17 : zB 17 = false := by simpa using hL
              have hb2 : zB 2 = true := by cases e : zB 2 with | false => (exfalso; revert hm; simp [metB, Region.binds, e]) | true => rfl
              have hb8 : zB 8 = true := by cases e : zB 8 with | false => (exfalso; revert hm; simp [metB, Region.binds, e]) | true => rfl
              have hb16 : zB 16 = true := by cases e : zB 16 with | false => (exfalso; revert hm; simp [metB, Region.binds, e]) | true => rfl
              have e2 : zS 18 = .bool false := hF.2.2.1 hb2
              have e8 : zS 24 = .bool false := hF.2.2.2.2.2.2.2.2.1 hb8
              have e16 : zS 32 = undef := hF.2.2.2.2.2.2.2.2.2.2.2.2.2.2.2.2.1 hb16
              clear hL hm
              simp only [puts, Act.put, List.setIfInBounds_toArray, List.set_cons_zero, List.set_cons_succ]
              simp only [e2, e8, e16]
              go_simp
              exact hK.out _ _ ⟨fun zj => if zj = 16 then true else if zj = 8 then true else if zj = 2 then true else if zj = 17 then true else zB zj, fun zd => if zd = 33 then .bool false else if zd = 32 then undef else if zd = 24 then .bool false else if zd = 18 then .bool false else zS zd, by simp [hb2, hb8, hb16], by kernel_rfl, ⟨hF.1, hF.2.1, fun _ => rfl, hF.2.2.2.1, hF.2.2.2.2.1, hF.2.2.2.2.2.1, hF.2.2.2.2.2.2.1, hF.2.2.2.2.2.2.2.1, fun _ => rfl, hF.2.2.2.2.2.2.2.2.2.1, hF.2.2.2.2.2.2.2.2.2.2.1, hF.2.2.2.2.2.2.2.2.2.2.2.1, hF.2.2.2.2.2.2.2.2.2.2.2.2.1, hF.2.2.2.2.2.2.2.2.2.2.2.2.2.1, hF.2.2.2.2.2.2.2.2.2.2.2.2.2.2.1, hF.2.2.2.2.2.2.2.2.2.2.2.2.2.2.2.1, fun _ => rfl, fun _ => rfl, hF.2.2.2.2.2.2.2.2.2.2.2.2.2.2.2.2.2.2.1, hF.2.2.2.2.2.2.2.2.2.2.2.2.2.2.2.2.2.2.2⟩, hW⟩
            refine StepsI.cons rfl ?_ ?_
            · rintro L zA v ⟨zB, zS, rfl, rfl, hF, hW⟩ hL hm K hK
              have hb18 : zB 18 = false := by simpa using hL
              have hb2 : zB 2 = true := by cases e : zB 2 with | false => (exfalso; revert hm; simp [metB, Region.binds, e]) | true => rfl
              have hb17 : zB 17 = true := by cases e : zB 17 with | false => (exfalso; revert hm; simp [metB, Region.binds, e]) | true => rfl
              have e2 : zS 18 = .bool false := hF.2.2.1 hb2
              have e17 : zS 33 = .bool false := hF.2.2.2.2.2.2.2.2.2.2.2.2.2.2.2.2.2.1 hb17
              clear hL hm
              simp only [puts, Act.put, List.setIfInBounds_toArray, List.set_cons_zero, List.set_cons_succ]
              simp only [e2, e17]
              go_simp
              exact hK.out _ _ ⟨fun zj => if zj = 17 then true else if zj = 2 then true else if zj = 18 then true else zB zj, fun zd => if zd = 34 then .bool false else if zd = 33 then .bool false else if zd = 18 then .bool false else zS zd, by simp [hb2, hb17], by kernel_rfl, ⟨hF.1, hF.2.1, fun _ => rfl, hF.2.2.2.1, hF.2.2.2.2.1, hF.2.2.2.2.2.1, hF.2.2.2.2.2.2.1, hF.2.2.2.2.2.2.2.1, hF.2.2.2.2.2.2.2.2.1, hF.2.2.2.2.2.2.2.2.2.1, hF.2.2.2.2.2.2.2.2.2.2.1, hF.2.2.2.2.2.2.2.2.2.2.2.1, hF.2.2.2.2.2.2.2.2.2.2.2.2.1, hF.2.2.2.2.2.2.2.2.2.2.2.2.2.1, hF.2.2.2.2.2.2.2.2.2.2.2.2.2.2.1, hF.2.2.2.2.2.2.2.2.2.2.2.2.2.2.2.1, hF.2.2.2.2.2.2.2.2.2.2.2.2.2.2.2.2.1, fun _ => rfl, fun _ => rfl, hF.2.2.2.2.2.2.2.2.2.2.2.2.2.2.2.2.2.2.2⟩, hW⟩
            refine StepsI.cons rfl ?_ ?_
            · rintro L zA v ⟨zB, zS, rfl, rfl, hF, hW⟩ hL hm K hK
              have hb19 : zB 19 = false := by simpa using hL
              have hb18 : zB 18 = true := by cases e : zB 18 with | false => (exfalso; revert hm; simp [metB, Region.binds, e]) | true => rfl
              have e18 : zS 34 = .bool false := hF.2.2.2.2.2.2.2.2.2.2.2.2.2.2.2.2.2.2.1 hb18
              clear hL hm
              simp only [puts, Act.put, List.setIfInBounds_toArray, List.set_cons_zero, List.set_cons_succ]
              simp only [e18]
              go_simp
              exact hK.out _ _ ⟨fun zj => if zj = 18 then true else if zj = 19 then true else zB zj, fun zd => if zd = 4 then .bool false else if zd = 34 then .bool false else zS zd, by simp [hb18], by kernel_rfl, ⟨hF.1, hF.2.1, hF.2.2.1, hF.2.2.2.1, hF.2.2.2.2.1, hF.2.2.2.2.2.1, hF.2.2.2.2.2.2.1, hF.2.2.2.2.2.2.2.1, hF.2.2.2.2.2.2.2.2.1, hF.2.2.2.2.2.2.2.2.2.1, hF.2.2.2.2.2.2.2.2.2.2.1, hF.2.2.2.2.2.2.2.2.2.2.2.1, hF.2.2.2.2.2.2.2.2.2.2.2.2.1, hF.2.2.2.2.2.2.2.2.2.2.2.2.2.1, hF.2.2.2.2.2.2.2.2.2.2.2.2.2.2.1, hF.2.2.2.2.2.2.2.2.2.2.2.2.2.2.2.1, hF.2.2.2.2.2.2.2.2.2.2.2.2.2.2.2.2.1, hF.2.2.2.2.2.2.2.2.2.2.2.2.2.2.2.2.2.1, fun _ => rfl, fun _ => rfl⟩, hW⟩
            exact StepsI.nil (by kernel_rfl)
          · rintro L zA v ⟨zB, zS, rfl, rfl, hF, hW⟩ hr
            have hu := all_up (by kernel_rfl) (N := 20) (by kernel_rfl) hr
            have hb0 : zB 0 = true := by simpa using hu 0 (by decide)
            have hb1 : zB 1 = true := by simpa using hu 1 (by decide)
            have hb2 : zB 2 = true := by simpa using hu 2 (by decide)
            have hb3 : zB 3 = true := by simpa using hu 3 (by decide)
            have hb4 : zB 4 = true := by simpa using hu 4 (by decide)
            have hb5 : zB 5 = true := by simpa using hu 5 (by decide)
            have hb6 : zB 6 = true := by simpa using hu 6 (by decide)
            have hb7 : zB 7 = true := by simpa using hu 7 (by decide)
            have hb8 : zB 8 = true := by simpa using hu 8 (by decide)
            have hb9 : zB 9 = true := by simpa using hu 9 (by decide)
            have hb10 : zB 10 = true := by simpa using hu 10 (by decide)
            have hb11 : zB 11 = true := by simpa using hu 11 (by decide)
            have hb12 : zB 12 = true := by simpa using hu 12 (by decide)
            have hb13 : zB 13 = true := by simpa using hu 13 (by decide)
            have hb14 : zB 14 = true := by simpa using hu 14 (by decide)
            have hb15 : zB 15 = true := by simpa using hu 15 (by decide)
            have hb16 : zB 16 = true := by simpa using hu 16 (by decide)
            have hb17 : zB 17 = true := by simpa using hu 17 (by decide)
            have hb18 : zB 18 = true := by simpa using hu 18 (by decide)
            have hb19 : zB 19 = true := by simpa using hu 19 (by decide)
            have e0 : zS 16 = .agg (dA m1 G1) := hF.1 hb0
            have e1 : zS 17 = .bool false := hF.2.1 hb1
            have e2 : zS 18 = .bool false := hF.2.2.1 hb2
            have e3 : zS 19 = .pointer (some ⟨X, 0, none⟩) := hF.2.2.2.1 hb3
            have e4 : zS 20 = .int .i64 m1 := hF.2.2.2.2.1 hb4
            have e5 : zS 21 = .pointer (some ⟨Y, 0, none⟩) := hF.2.2.2.2.2.1 hb5
            have e6 : zS 22 = .int .i64 m2 := hF.2.2.2.2.2.2.1 hb6
            have e7 : zS 23 = .bool false := hF.2.2.2.2.2.2.2.1 hb7
            have e8 : zS 24 = .bool false := hF.2.2.2.2.2.2.2.2.1 hb8
            have e9 : zS 25 = undef := hF.2.2.2.2.2.2.2.2.2.1 hb9
            have e10 : zS 26 = undef := hF.2.2.2.2.2.2.2.2.2.2.1 hb10
            have e11 : zS 27 = undef := hF.2.2.2.2.2.2.2.2.2.2.2.1 hb11
            have e12 : zS 28 = undef := hF.2.2.2.2.2.2.2.2.2.2.2.2.1 hb12
            have e13 : zS 29 = undef := hF.2.2.2.2.2.2.2.2.2.2.2.2.2.1 hb13
            have e14 : zS 30 = undef := hF.2.2.2.2.2.2.2.2.2.2.2.2.2.2.1 hb14
            have e15 : zS 31 = undef := hF.2.2.2.2.2.2.2.2.2.2.2.2.2.2.2.1 hb15
            have e16 : zS 32 = undef := hF.2.2.2.2.2.2.2.2.2.2.2.2.2.2.2.2.1 hb16
            have e17 : zS 33 = .bool false := hF.2.2.2.2.2.2.2.2.2.2.2.2.2.2.2.2.2.1 hb17
            have e18 : zS 34 = .bool false := hF.2.2.2.2.2.2.2.2.2.2.2.2.2.2.2.2.2.2.1 hb18
            have e19 : zS 4 = .bool false := hF.2.2.2.2.2.2.2.2.2.2.2.2.2.2.2.2.2.2.2 hb19
            clear hu hr hF
            simp only [puts, Act.put, List.setIfInBounds_toArray, List.set_cons_zero, List.set_cons_succ]
            simp only [e0, e1, e2, e3, e4, e5, e6, e7, e8, e9, e10, e11, e12, e13, e14, e15, e16, e17, e18, e19]
            clear e0 e1 e2 e3 e4 e5 e6 e7 e8 e9 e10 e11 e12 e13 e14 e15 e16 e17 e18 e19
            clear hb0 hb1 hb2 hb3 hb4 hb5 hb6 hb7 hb8 hb9 hb10 hb11 hb12 hb13 hb14 hb15 hb16 hb17 hb18 hb19
            clear zB zS
            have HB := mkHid (below_step B5.out hW)
            clear hW
            go_wp2
            go_ret
            exact ⟨ret_bool e1.out.symm, HB.out⟩
        | false =>
          obtain ⟨hzz, hok2, n, hzn, q1, q2, q3⟩ := go_ok HGO.out hc1 hn2
          have ho2 : okO z' l' = some (tab z'.toNat l') := okO_yes hok2
          have hm2 : m2 = (z'.toNat : Nat) := by rw [← HM2.out, ho2]; rfl
          have HEQM : Hid ((m1 == m2) = true) := mkHid (by rw [hm, hm2, hzz]; simp)
          have hGg : G2 = grid z.toNat (tab z.toNat l') := by have := HDG2.out; rw [ho2, D_some, ← hzz] at this; exact (dA_inj this).2.symm
          have e1 : Hid (leqF z l z' l' = leL z.toNat f l') := mkHid (leqF_both HGO.out hc1 hn2)
          have hll : l'.length = z.toNat * z.toNat := by rw [hzn, Int.toNat_natCast]; exact q3
          have HLE : Hid (decide (opL max G1 G2 = G2) = leL z.toNat f l') := mkHid (by rw [hGf, hGg]; exact le_grid h2 f l' hll)
          have HGR : Hid (∀ v, Calls Try.prog 43 #[.agg (gA G1), .agg (gA G2)] v fun e w' => e = .returned (.agg (gA (opL max G1 G2))) ∧ Below v.heap.size v w') := mkHid fun v => greater_any G1 G2 HG1.out HG2.out v
          have HEG : Hid (∀ v, (binOp .eql 57 (.agg (gA (opL max G1 G2))) (.agg (gA G2))).run Try.prog v = .ok (.bool (leL z.toNat f l')) v) := mkHid fun v => by rw [run_eqGrid v _ _ (opL_len max G1 G2) HG2.out, grids_same (opL_len max G1 G2) HG2.out, HLE.out]
          obtain ⟨G3, hG3⟩ : ∃ G3, opL max G1 G2 = G3 := ⟨_, rfl⟩
          rw [hG3] at HGR HEG
          clear hm hm2 hc1 hGf hGg hn2 h1 h2 h3 hzz hok2 hzn q1 q2 q3 ho2 hll HLE hG3
          refine wp_region_inv2 (fun zA0 L zA v => ∃ (zB : Nat → Bool) (zS : Nat → Value), L = #[zB 0, zB 1, zB 2, zB 3, zB 4, zB 5, zB 6, zB 7, zB 8, zB 9, zB 10, zB 11, zB 12, zB 13, zB 14, zB 15, zB 16, zB 17, zB 18, zB 19] ∧ zA = puts zA0 [(16, zS 16), (17, zS 17), (18, zS 18), (19, zS 19), (20, zS 20), (21, zS 21), (22, zS 22), (23, zS 23), (24, zS 24), (25, zS 25), (26, zS 26), (27, zS 27), (28, zS 28), (29, zS 29), (30, zS 30), (31, zS 31), (32, zS 32), (33, zS 33), (34, zS 34), (4, zS 4)] ∧ ((zB 0 = true → zS 16 = .agg (dA m1 G1)) ∧ (zB 1 = true → zS 17 = .bool false) ∧ (zB 2 = true → zS 18 = .bool false) ∧ (zB 3 = true → zS 19 = .pointer (some ⟨X, 0, none⟩)) ∧ (zB 4 = true → zS 20 = .int .i64 m1) ∧ (zB 5 = true → zS 21 = .pointer (some ⟨Y, 0, none⟩)) ∧ (zB 6 = true → zS 22 = .int .i64 m2) ∧ (zB 7 = true → zS 23 = .bool true) ∧ (zB 8 = true → zS 24 = .bool true) ∧ (zB 9 = true → zS 25 = .pointer (some ⟨X, 1, none⟩)) ∧ (zB 10 = true → zS 26 = .agg (gA G1)) ∧ (zB 11 = true → zS 27 = .pointer (some ⟨Y, 1, none⟩)) ∧ (zB 12 = true → zS 28 = .agg (gA G2)) ∧ (zB 13 = true → zS 29 = .agg (gA G3)) ∧ (zB 14 = true → zS 30 = .pointer (some ⟨Y, 1, none⟩)) ∧ (zB 15 = true → zS 31 = .agg (gA G2)) ∧ (zB 16 = true → zS 32 = .bool (leL z.toNat f l')) ∧ (zB 17 = true → zS 33 = .bool (leL z.toNat f l')) ∧ (zB 18 = true → zS 34 = .bool (leL z.toNat f l')) ∧ (zB 19 = true → zS 4 = .bool (leL z.toNat f l'))) ∧ Below w5.heap.size w5 v) (by kernel_rfl) ?_ ?_ ?_
          · exact ⟨fun _ => false, fun zd => if zd = 4 then .bool false else undef, rfl, by kernel_rfl, ⟨fun e => ft e, fun e => ft e, fun e => ft e, fun e => ft e, fun e => ft e, fun e => ft e, fun e => ft e, fun e => ft e, fun e => ft e, fun e => ft e, fun e => ft e, fun e => ft e, fun e => ft e, fun e => ft e, fun e => ft e, fun e => ft e, fun e => ft e, fun e => ft e, fun e => ft e, fun e => ft e⟩, (Below.refl _ _).drew⟩
          · refine StepsI.cons rfl ?_ ?_
            · rintro L zA v ⟨zB, zS, rfl, rfl, hF, hW⟩ hL hm K hK
              have hb0 : zB 0 = false := by simpa using hL
              clear hL hm
              simp only [puts, Act.put, List.setIfInBounds_toArray, List.set_cons_zero, List.set_cons_succ]
              rw [if_pos (by rfl)]
              refine wp_load_mid 59 _ rfl X 0 rfl (dL m1 G1) _ (DX5.out.below hW).range Try.underlying59 rfl (by rw [dL_len HG1.out]; exact size64) ?_
              simp only [Act.put]
              exact hK.out _ _ ⟨fun zj => if zj = 0 then true else zB zj, fun zd => if zd = 16 then .agg (dA m1 G1) else zS zd, rfl, by kernel_rfl, ⟨fun _ => rfl, hF.2.1, hF.2.2.1, hF.2.2.2.1, hF.2.2.2.2.1, hF.2.2.2.2.2.1, hF.2.2.2.2.2.2.1, hF.2.2.2.2.2.2.2.1, hF.2.2.2.2.2.2.2.2.1, hF.2.2.2.2.2.2.2.2.2.1, hF.2.2.2.2.2.2.2.2.2.2.1, hF.2.2.2.2.2.2.2.2.2.2.2.1, hF.2.2.2.2.2.2.2.2.2.2.2.2.1, hF.2.2.2.2.2.2.2.2.2.2.2.2.2.1, hF.2.2.2.2.2.2.2.2.2.2.2.2.2.2.1, hF.2.2.2.2.2.2.2.2.2.2.2.2.2.2.2.1, hF.2.2.2.2.2.2.2.2.2.2.2.2.2.2.2.2.1, hF.2.2.2.2.2.2.2.2.2.2.2.2.2.2.2.2.2.1, hF.2.2.2.2.2.2.2.2.2.2.2.2.2.2.2.2.2.2.1, hF.2.2.2.2.2.2.2.2.2.2.2.2.2.2.2.2.2.2.2⟩, hW⟩
            refine StepsI.cons rfl ?_ ?_
            · rintro L zA v ⟨zB, zS, rfl, rfl, hF, hW⟩ hL hm K hK
              have hb1 : zB 1 = false := by simpa using hL
              have hb0 : zB 0 = true := by cases e : zB 0 with | false => (exfalso; revert hm; simp [metB, Region.binds, e]) | true => rfl
              have e0 : zS 16 = .agg (dA m1 G1) := hF.1 hb0
              clear hL hm
              simp only [puts, Act.put, List.setIfInBounds_toArray, List.set_cons_zero, List.set_cons_succ]
              simp only [e0]
              go_simp
              refine (isNone_any m1 G1 _).mono ?_
              rintro e v2 ⟨rfl, hb⟩
              rw [HD1.out]
              go_wp2_with fail
              exact hK.out _ _ ⟨fun zj => if zj = 0 then true else if zj = 1 then true else zB zj, fun zd => if zd = 17 then .bool false else if zd = 16 then .agg (dA m1 G1) else zS zd, by simp [hb0], by kernel_rfl, ⟨fun _ => rfl, fun _ => rfl, hF.2.2.1, hF.2.2.2.1, hF.2.2.2.2.1, hF.2.2.2.2.2.1, hF.2.2.2.2.2.2.1, hF.2.2.2.2.2.2.2.1, hF.2.2.2.2.2.2.2.2.1, hF.2.2.2.2.2.2.2.2.2.1, hF.2.2.2.2.2.2.2.2.2.2.1, hF.2.2.2.2.2.2.2.2.2.2.2.1, hF.2.2.2.2.2.2.2.2.2.2.2.2.1, hF.2.2.2.2.2.2.2.2.2.2.2.2.2.1, hF.2.2.2.2.2.2.2.2.2.2.2.2.2.2.1, hF.2.2.2.2.2.2.2.2.2.2.2.2.2.2.2.1, hF.2.2.2.2.2.2.2.2.2.2.2.2.2.2.2.2.1, hF.2.2.2.2.2.2.2.2.2.2.2.2.2.2.2.2.2.1, hF.2.2.2.2.2.2.2.2.2.2.2.2.2.2.2.2.2.2.1, hF.2.2.2.2.2.2.2.2.2.2.2.2.2.2.2.2.2.2.2⟩, below_step hW hb⟩
            refine StepsI.cons rfl ?_ ?_
            · rintro L zA v ⟨zB, zS, rfl, rfl, hF, hW⟩ hL hm K hK
              have hb2 : zB 2 = false := by simpa using hL
              have hb1 : zB 1 = true := by cases e : zB 1 with | false => (exfalso; revert hm; simp [metB, Region.binds, e]) | true => rfl
              have e1 : zS 17 = .bool false := hF.2.1 hb1
              clear hL hm
              simp only [puts, Act.put, List.setIfInBounds_toArray, List.set_cons_zero, List.set_cons_succ]
              simp only [e1]
              go_simp
              exact hK.out _ _ ⟨fun zj => if zj = 1 then true else if zj = 2 then true else zB zj, fun zd => if zd = 18 then .bool false else if zd = 17 then .bool false else zS zd, by simp [hb1], by kernel_rfl, ⟨hF.1, fun _ => rfl, fun _ => rfl, hF.2.2.2.1, hF.2.2.2.2.1, hF.2.2.2.2.2.1, hF.2.2.2.2.2.2.1, hF.2.2.2.2.2.2.2.1, hF.2.2.2.2.2.2.2.2.1, hF.2.2.2.2.2.2.2.2.2.1, hF.2.2.2.2.2.2.2.2.2.2.1, hF.2.2.2.2.2.2.2.2.2.2.2.1, hF.2.2.2.2.2.2.2.2.2.2.2.2.1, hF.2.2.2.2.2.2.2.2.2.2.2.2.2.1, hF.2.2.2.2.2.2.2.2.2.2.2.2.2.2.1, hF.2.2.2.2.2.2.2.2.2.2.2.2.2.2.2.1, hF.2.2.2.2.2.2.2.2.2.2.2.2.2.2.2.2.1, hF.2.2.2.2.2.2.2.2.2.2.2.2.2.2.2.2.2.1, hF.2.2.2.2.2.2.2.2.2.2.2.2.2.2.2.2.2.2.1, hF.2.2.2.2.2.2.2.2.2.2.2.2.2.2.2.2.2.2.2⟩, hW⟩
            refine StepsI.cons rfl ?_ ?_
            · rintro L zA v ⟨zB, zS, rfl, rfl, hF, hW⟩ hL hm K hK
              have hb3 : zB 3 = false := by simpa using hL
              have hb2 : zB 2 = true := by cases e : zB 2 with | false => (exfalso; revert hm; simp [metB, Region.binds, e]) | true => rfl
              have e2 : zS 18 = .bool false := hF.2.2.1 hb2
              clear hL hm
              simp only [puts, Act.put, List.setIfInBounds_toArray, List.set_cons_zero, List.set_cons_succ]
              simp only [e2]
              go_simp
              exact hK.out _ _ ⟨fun zj => if zj = 2 then true else if zj = 3 then true else zB zj, fun zd => if zd = 19 then .pointer (some ⟨X, 0, none⟩) else if zd = 18 then .bool false else zS zd, by simp [hb2], by kernel_rfl, ⟨hF.1, hF.2.1, fun _ => rfl, fun _ => rfl, hF.2.2.2.2.1, hF.2.2.2.2.2.1, hF.2.2.2.2.2.2.1, hF.2.2.2.2.2.2.2.1, hF.2.2.2.2.2.2.2.2.1, hF.2.2.2.2.2.2.2.2.2.1, hF.2.2.2.2.2.2.2.2.2.2.1, hF.2.2.2.2.2.2.2.2.2.2.2.1, hF.2.2.2.2.2.2.2.2.2.2.2.2.1, hF.2.2.2.2.2.2.2.2.2.2.2.2.2.1, hF.2.2.2.2.2.2.2.2.2.2.2.2.2.2.1, hF.2.2.2.2.2.2.2.2.2.2.2.2.2.2.2.1, hF.2.2.2.2.2.2.2.2.2.2.2.2.2.2.2.2.1, hF.2.2.2.2.2.2.2.2.2.2.2.2.2.2.2.2.2.1, hF.2.2.2.2.2.2.2.2.2.2.2.2.2.2.2.2.2.2.1, hF.2.2.2.2.2.2.2.2.2.2.2.2.2.2.2.2.2.2.2⟩, hW⟩
            refine StepsI.cons rfl ?_ ?_
            · rintro L zA v ⟨zB, zS, rfl, rfl, hF, hW⟩ hL hm K hK
              have hb4 : zB 4 = false := by simpa using hL
              have hb2 : zB 2 = true := by cases e : zB 2 with | false => (exfalso; revert hm; simp [metB, Region.binds, e]) | true => rfl
              have hb3 : zB 3 = true := by cases e : zB 3 with | false => (exfalso; revert hm; simp [metB, Region.binds, e]) | true => rfl
              have e2 : zS 18 = .bool false := hF.2.2.1 hb2
              have e3 : zS 19 = .pointer (some ⟨X, 0, none⟩) := hF.2.2.2.1 hb3
              clear hL hm
              simp only [puts, Act.put, List.setIfInBounds_toArray, List.set_cons_zero, List.set_cons_succ]
              simp only [e2, e3]
              have qx := (DX5.out.below hW).size
              go_simp
              exact hK.out _ _ ⟨fun zj => if zj = 3 then true else if zj = 2 then true else if zj = 4 then true else zB zj, fun zd => if zd = 20 then .int .i64 m1 else if zd = 19 then .pointer (some ⟨X, 0, none⟩) else if zd = 18 then .bool false else zS zd, by simp [hb2, hb3], by kernel_rfl, ⟨hF.1, hF.2.1, fun _ => rfl, fun _ => rfl, fun _ => rfl, hF.2.2.2.2.2.1, hF.2.2.2.2.2.2.1, hF.2.2.2.2.2.2.2.1, hF.2.2.2.2.2.2.2.2.1, hF.2.2.2.2.2.2.2.2.2.1, hF.2.2.2.2.2.2.2.2.2.2.1, hF.2.2.2.2.2.2.2.2.2.2.2.1, hF.2.2.2.2.2.2.2.2.2.2.2.2.1, hF.2.2.2.2.2.2.2.2.2.2.2.2.2.1, hF.2.2.2.2.2.2.2.2.2.2.2.2.2.2.1, hF.2.2.2.2.2.2.2.2.2.2.2.2.2.2.2.1, hF.2.2.2.2.2.2.2.2.2.2.2.2.2.2.2.2.1, hF.2.2.2.2.2.2.2.2.2.2.2.2.2.2.2.2.2.1, hF.2.2.2.2.2.2.2.2.2.2.2.2.2.2.2.2.2.2.1, hF.2.2.2.2.2.2.2.2.2.2.2.2.2.2.2.2.2.2.2⟩, hW⟩
            refine StepsI.cons rfl ?_ ?_
            · rintro L zA v ⟨zB, zS, rfl, rfl, hF, hW⟩ hL hm K hK
              have hb5 : zB 5 = false := by simpa using hL
              have hb2 : zB 2 = true := by cases e : zB 2 with | false => (exfalso; revert hm; simp [metB, Region.binds, e]) | true => rfl
              have e2 : zS 18 = .bool false := hF.2.2.1 hb2
              clear hL hm
              simp only [puts, Act.put, List.setIfInBounds_toArray, List.set_cons_zero, List.set_cons_succ]
              simp only [e2]
              go_simp
              exact hK.out _ _ ⟨fun zj => if zj = 2 then true else if zj = 5 then true else zB zj, fun zd => if zd = 21 then .pointer (some ⟨Y, 0, none⟩) else if zd = 18 then .bool false else zS zd, by simp [hb2], by kernel_rfl, ⟨hF.1, hF.2.1, fun _ => rfl, hF.2.2.2.1, hF.2.2.2.2.1, fun _ => rfl, hF.2.2.2.2.2.2.1, hF.2.2.2.2.2.2.2.1, hF.2.2.2.2.2.2.2.2.1, hF.2.2.2.2.2.2.2.2.2.1, hF.2.2.2.2.2.2.2.2.2.2.1, hF.2.2.2.2.2.2.2.2.2.2.2.1, hF.2.2.2.2.2.2.2.2.2.2.2.2.1, hF.2.2.2.2.2.2.2.2.2.2.2.2.2.1, hF.2.2.2.2.2.2.2.2.2.2.2.2.2.2.1, hF.2.2.2.2.2.2.2.2.2.2.2.2.2.2.2.1, hF.2.2.2.2.2.2.2.2.2.2.2.2.2.2.2.2.1, hF.2.2.2.2.2.2.2.2.2.2.2.2.2.2.2.2.2.1, hF.2.2.2.2.2.2.2.2.2.2.2.2.2.2.2.2.2.2.1, hF.2.2.2.2.2.2.2.2.2.2.2.2.2.2.2.2.2.2.2⟩, hW⟩
            refine StepsI.cons rfl ?_ ?_
            · rintro L zA v ⟨zB, zS, rfl, rfl, hF, hW⟩ hL hm K hK
              have hb6 : zB 6 = false := by simpa using hL
              have hb2 : zB 2 = true := by cases e : zB 2 with | false => (exfalso; revert hm; simp [metB, Region.binds, e]) | true => rfl
              have hb5 : zB 5 = true := by cases e : zB 5 with | false => (exfalso; revert hm; simp [metB, Region.binds, e]) | true => rfl
              have e2 : zS 18 = .bool false := hF.2.2.1 hb2
              have e5 : zS 21 = .pointer (some ⟨Y, 0, none⟩) := hF.2.2.2.2.2.1 hb5
              clear hL hm
              simp only [puts, Act.put, List.setIfInBounds_toArray, List.set_cons_zero, List.set_cons_succ]
              simp only [e2, e5]
              have qy := (DY5.out.below hW).size
              go_simp
              exact hK.out _ _ ⟨fun zj => if zj = 5 then true else if zj = 2 then true else if zj = 6 then true else zB zj, fun zd => if zd = 22 then .int .i64 m2 else if zd = 21 then .pointer (some ⟨Y, 0, none⟩) else if zd = 18 then .bool false else zS zd, by simp [hb2, hb5], by kernel_rfl, ⟨hF.1, hF.2.1, fun _ => rfl, hF.2.2.2.1, hF.2.2.2.2.1, fun _ => rfl, fun _ => rfl, hF.2.2.2.2.2.2.2.1, hF.2.2.2.2.2.2.2.2.1, hF.2.2.2.2.2.2.2.2.2.1, hF.2.2.2.2.2.2.2.2.2.2.1, hF.2.2.2.2.2.2.2.2.2.2.2.1, hF.2.2.2.2.2.2.2.2.2.2.2.2.1, hF.2.2.2.2.2.2.2.2.2.2.2.2.2.1, hF.2.2.2.2.2.2.2.2.2.2.2.2.2.2.1, hF.2.2.2.2.2.2.2.2.2.2.2.2.2.2.2.1, hF.2.2.2.2.2.2.2.2.2.2.2.2.2.2.2.2.1, hF.2.2.2.2.2.2.2.2.2.2.2.2.2.2.2.2.2.1, hF.2.2.2.2.2.2.2.2.2.2.2.2.2.2.2.2.2.2.1, hF.2.2.2.2.2.2.2.2.2.2.2.2.2.2.2.2.2.2.2⟩, hW⟩
            refine StepsI.cons rfl ?_ ?_
            · rintro L zA v ⟨zB, zS, rfl, rfl, hF, hW⟩ hL hm K hK
              have hb7 : zB 7 = false := by simpa using hL
              have hb2 : zB 2 = true := by cases e : zB 2 with | false => (exfalso; revert hm; simp [metB, Region.binds, e]) | true => rfl
              have hb4 : zB 4 = true := by cases e : zB 4 with | false => (exfalso; revert hm; simp [metB, Region.binds, e]) | true => rfl
              have hb6 : zB 6 = true := by cases e : zB 6 with | false => (exfalso; revert hm; simp [metB, Region.binds, e]) | true => rfl
              have e2 : zS 18 = .bool false := hF.2.2.1 hb2
              have e4 : zS 20 = .int .i64 m1 := hF.2.2.2.2.1 hb4
              have e6 : zS 22 = .int .i64 m2 := hF.2.2.2.2.2.2.1 hb6
              clear hL hm
              simp only [puts, Act.put, List.setIfInBounds_toArray, List.set_cons_zero, List.set_cons_succ]
              simp only [e2, e4, e6]
              have hq := HEQM.out
              go_simp
              exact hK.out _ _ ⟨fun zj => if zj = 6 then true else if zj = 4 then true else if zj = 2 then true else if zj = 7 then true else zB zj, fun zd => if zd = 23 then .bool true else if zd = 22 then .int .i64 m2 else if zd = 20 then .int .i64 m1 else if zd = 18 then .bool false else zS zd, by simp [hb2, hb4, hb6], by kernel_rfl, ⟨hF.1, hF.2.1, fun _ => rfl, hF.2.2.2.1, fun _ => rfl, hF.2.2.2.2.2.1, fun _ => rfl, fun _ => rfl, hF.2.2.2.2.2.2.2.2.1, hF.2.2.2.2.2.2.2.2.2.1, hF.2.2.2.2.2.2.2.2.2.2.1, hF.2.2.2.2.2.2.2.2.2.2.2.1, hF.2.2.2.2.2.2.2.2.2.2.2.2.1, hF.2.2.2.2.2.2.2.2.2.2.2.2.2.1, hF.2.2.2.2.2.2.2.2.2.2.2.2.2.2.1, hF.2.2.2.2.2.2.2.2.2.2.2.2.2.2.2.1, hF.2.2.2.2.2.2.2.2.2.2.2.2.2.2.2.2.1, hF.2.2.2.2.2.2.2.2.2.2.2.2.2.2.2.2.2.1, hF.2.2.2.2.2.2.2.2.2.2.2.2.2.2.2.2.2.2.1, hF.2.2.2.2.2.2.2.2.2.2.2.2.2.2.2.2.2.2.2⟩, hW⟩
            refine StepsI.cons rfl ?_ ?_
            · rintro L zA v ⟨zB, zS, rfl, rfl, hF, hW⟩ hL hm K hK
              have hb8 : zB 8 = false := by simpa using hL
              have hb2 : zB 2 = true := by cases e : zB 2 with | false => (exfalso; revert hm; simp [metB, Region.binds, e]) | true => rfl
              have hb7 : zB 7 = true := by cases e : zB 7 with | false => (exfalso; revert hm; simp [metB, Region.binds, e]) | true => rfl
              have e2 : zS 18 = .bool false := hF.2.2.1 hb2
              have e7 : zS 23 = .bool true := hF.2.2.2.2.2.2.2.1 hb7
              clear hL hm
              simp only [puts, Act.put, List.setIfInBounds_toArray, List.set_cons_zero, List.set_cons_succ]
              simp only [e2, e7]
              go_simp
              exact hK.out _ _ ⟨fun zj => if zj = 7 then true else if zj = 2 then true else if zj = 8 then true else zB zj, fun zd => if zd = 24 then .bool true else if zd = 23 then .bool true else if zd = 18 then .bool false else zS zd, by simp [hb2, hb7], by kernel_rfl, ⟨hF.1, hF.2.1, fun _ => rfl, hF.2.2.2.1, hF.2.2.2.2.1, hF.2.2.2.2.2.1, hF.2.2.2.2.2.2.1, fun _ => rfl, fun _ => rfl, hF.2.2.2.2.2.2.2.2.2.1, hF.2.2.2.2.2.2.2.2.2.2.1, hF.2.2.2.2.2.2.2.2.2.2.2.1, hF.2.2.2.2.2.2.2.2.2.2.2.2.1, hF.2.2.2.2.2.2.2.2.2.2.2.2.2.1, hF.2.2.2.2.2.2.2.2.2.2.2.2.2.2.1, hF.2.2.2.2.2.2.2.2.2.2.2.2.2.2.2.1, hF.2.2.2.2.2.2.2.2.2.2.2.2.2.2.2.2.1, hF.2.2.2.2.2.2.2.2.2.2.2.2.2.2.2.2.2.1, hF.2.2.2.2.2.2.2.2.2.2.2.2.2.2.2.2.2.2.1, hF.2.2.2.2.2.2.2.2.2.2.2.2.2.2.2.2.2.2.2⟩, hW⟩
            refine StepsI.cons rfl ?_ ?_
            · rintro L zA v ⟨zB, zS, rfl, rfl, hF, hW⟩ hL hm K hK
              have hb9 : zB 9 = false := by simpa using hL
              have hb8 : zB 8 = true := by cases e : zB 8 with | false => (exfalso; revert hm; simp [metB, Region.binds, e]) | true => rfl
              have e8 : zS 24 = .bool true := hF.2.2.2.2.2.2.2.2.1 hb8
              clear hL hm
              simp only [puts, Act.put, List.setIfInBounds_toArray, List.set_cons_zero, List.set_cons_succ]
              simp only [e8]
              go_simp
              exact hK.out _ _ ⟨fun zj => if zj = 8 then true else if zj = 9 then true else zB zj, fun zd => if zd = 25 then .pointer (some ⟨X, 1, none⟩) else if zd = 24 then .bool true else zS zd, by simp [hb8], by kernel_rfl, ⟨hF.1, hF.2.1, hF.2.2.1, hF.2.2.2.1, hF.2.2.2.2.1, hF.2.2.2.2.2.1, hF.2.2.2.2.2.2.1, hF.2.2.2.2.2.2.2.1, fun _ => rfl, fun _ => rfl, hF.2.2.2.2.2.2.2.2.2.2.1, hF.2.2.2.2.2.2.2.2.2.2.2.1, hF.2.2.2.2.2.2.2.2.2.2.2.2.1, hF.2.2.2.2.2.2.2.2.2.2.2.2.2.1, hF.2.2.2.2.2.2.2.2.2.2.2.2.2.2.1, hF.2.2.2.2.2.2.2.2.2.2.2.2.2.2.2.1, hF.2.2.2.2.2.2.2.2.2.2.2.2.2.2.2.2.1, hF.2.2.2.2.2.2.2.2.2.2.2.2.2.2.2.2.2.1, hF.2.2.2.2.2.2.2.2.2.2.2.2.2.2.2.2.2.2.1, hF.2.2.2.2.2.2.2.2.2.2.2.2.2.2.2.2.2.2.2⟩, hW⟩
            refine StepsI.cons rfl ?_ ?_
            · rintro L zA v ⟨zB, zS, rfl, rfl, hF, hW⟩ hL hm K hK
              have hb10 : zB 10 = false := by simpa using hL
              have hb8 : zB 8 = true := by cases e : zB 8 with | false => (exfalso; revert hm; simp [metB, Region.binds, e]) | true => rfl
              have hb9 : zB 9 = true := by cases e : zB 9 with | false => (exfalso; revert hm; simp [metB, Region.binds, e]) | true => rfl
              have e8 : zS 24 = .bool true := hF.2.2.2.2.2.2.2.2.1 hb8
              have e9 : zS 25 = .pointer (some ⟨X, 1, none⟩) := hF.2.2.2.2.2.2.2.2.2.1 hb9
              clear hL hm
              simp only [puts, Act.put, List.setIfInBounds_toArray, List.set_cons_zero, List.set_cons_succ]
              simp only [e8, e9]
              rw [if_pos (by rfl)]
              refine wp_load_mid 57 _ rfl X 1 rfl (ints G1) _ (DX5.out.below hW).arr Try.underlying57 rfl (by rw [ints_len, HG1.out]; exact size62) ?_
              simp only [Act.put]
              exact hK.out _ _ ⟨fun zj => if zj = 9 then true else if zj = 8 then true else if zj = 10 then true else zB zj, fun zd => if zd = 26 then .agg (gA G1) else if zd = 25 then .pointer (some ⟨X, 1, none⟩) else if zd = 24 then .bool true else zS zd, by simp [hb8, hb9], by kernel_rfl, ⟨hF.1, hF.2.1, hF.2.2.1, hF.2.2.2.1, hF.2.2.2.2.1, hF.2.2.2.2.2.1, hF.2.2.2.2.2.2.1, hF.2.2.2.2.2.2.2.1, fun _ => rfl, fun _ => rfl, fun _ => rfl, hF.2.2.2.2.2.2.2.2.2.2.2.1, hF.2.2.2.2.2.2.2.2.2.2.2.2.1, hF.2.2.2.2.2.2.2.2.2.2.2.2.2.1, hF.2.2.2.2.2.2.2.2.2.2.2.2.2.2.1, hF.2.2.2.2.2.2.2.2.2.2.2.2.2.2.2.1, hF.2.2.2.2.2.2.2.2.2.2.2.2.2.2.2.2.1, hF.2.2.2.2.2.2.2.2.2.2.2.2.2.2.2.2.2.1, hF.2.2.2.2.2.2.2.2.2.2.2.2.2.2.2.2.2.2.1, hF.2.2.2.2.2.2.2.2.2.2.2.2.2.2.2.2.2.2.2⟩, hW⟩
            refine StepsI.cons rfl ?_ ?_
            · rintro L zA v ⟨zB, zS, rfl, rfl, hF, hW⟩ hL hm K hK
              have hb11 : zB 11 = false := by simpa using hL
              have hb8 : zB 8 = true := by cases e : zB 8 with | false => (exfalso; revert hm; simp [metB, Region.binds, e]) | true => rfl
              have e8 : zS 24 = .bool true := hF.2.2.2.2.2.2.2.2.1 hb8
              clear hL hm
              simp only [puts, Act.put, List.setIfInBounds_toArray, List.set_cons_zero, List.set_cons_succ]
              simp only [e8]
              go_simp
              exact hK.out _ _ ⟨fun zj => if zj = 8 then true else if zj = 11 then true else zB zj, fun zd => if zd = 27 then .pointer (some ⟨Y, 1, none⟩) else if zd = 24 then .bool true else zS zd, by simp [hb8], by kernel_rfl, ⟨hF.1, hF.2.1, hF.2.2.1, hF.2.2.2.1, hF.2.2.2.2.1, hF.2.2.2.2.2.1, hF.2.2.2.2.2.2.1, hF.2.2.2.2.2.2.2.1, fun _ => rfl, hF.2.2.2.2.2.2.2.2.2.1, hF.2.2.2.2.2.2.2.2.2.2.1, fun _ => rfl, hF.2.2.2.2.2.2.2.2.2.2.2.2.1, hF.2.2.2.2.2.2.2.2.2.2.2.2.2.1, hF.2.2.2.2.2.2.2.2.2.2.2.2.2.2.1, hF.2.2.2.2.2.2.2.2.2.2.2.2.2.2.2.1, hF.2.2.2.2.2.2.2.2.2.2.2.2.2.2.2.2.1, hF.2.2.2.2.2.2.2.2.2.2.2.2.2.2.2.2.2.1, hF.2.2.2.2.2.2.2.2.2.2.2.2.2.2.2.2.2.2.1, hF.2.2.2.2.2.2.2.2.2.2.2.2.2.2.2.2.2.2.2⟩, hW⟩
            refine StepsI.cons rfl ?_ ?_
            · rintro L zA v ⟨zB, zS, rfl, rfl, hF, hW⟩ hL hm K hK
              have hb12 : zB 12 = false := by simpa using hL
              have hb8 : zB 8 = true := by cases e : zB 8 with | false => (exfalso; revert hm; simp [metB, Region.binds, e]) | true => rfl
              have hb11 : zB 11 = true := by cases e : zB 11 with | false => (exfalso; revert hm; simp [metB, Region.binds, e]) | true => rfl
              have e8 : zS 24 = .bool true := hF.2.2.2.2.2.2.2.2.1 hb8
              have e11 : zS 27 = .pointer (some ⟨Y, 1, none⟩) := hF.2.2.2.2.2.2.2.2.2.2.2.1 hb11
              clear hL hm
              simp only [puts, Act.put, List.setIfInBounds_toArray, List.set_cons_zero, List.set_cons_succ]
              simp only [e8, e11]
              rw [if_pos (by rfl)]
              refine wp_load_mid 57 _ rfl Y 1 rfl (ints G2) _ (DY5.out.below hW).arr Try.underlying57 rfl (by rw [ints_len, HG2.out]; exact size62) ?_
              simp only [Act.put]
              exact hK.out _ _ ⟨fun zj => if zj = 11 then true else if zj = 8 then true else if zj = 12 then true else zB zj, fun zd => if zd = 28 then .agg (gA G2) else if zd = 27 then .pointer (some ⟨Y, 1, none⟩) else if zd = 24 then .bool true else zS zd, by simp [hb8, hb11], by kernel_rfl, ⟨hF.1, hF.2.1, hF.2.2.1, hF.2.2.2.1, hF.2.2.2.2.1, hF.2.2.2.2.2.1, hF.2.2.2.2.2.2.1, hF.2.2.2.2.2.2.2.1, fun _ => rfl, hF.2.2.2.2.2.2.2.2.2.1, hF.2.2.2.2.2.2.2.2.2.2.1, fun _ => rfl, fun _ => rfl, hF.2.2.2.2.2.2.2.2.2.2.2.2.2.1, hF.2.2.2.2.2.2.2.2.2.2.2.2.2.2.1, hF.2.2.2.2.2.2.2.2.2.2.2.2.2.2.2.1, hF.2.2.2.2.2.2.2.2.2.2.2.2.2.2.2.2.1, hF.2.2.2.2.2.2.2.2.2.2.2.2.2.2.2.2.2.1, hF.2.2.2.2.2.2.2.2.2.2.2.2.2.2.2.2.2.2.1, hF.2.2.2.2.2.2.2.2.2.2.2.2.2.2.2.2.2.2.2⟩, hW⟩
            refine StepsI.cons rfl ?_ ?_
            · rintro L zA v ⟨zB, zS, rfl, rfl, hF, hW⟩ hL hm K hK
              have hb13 : zB 13 = false := by simpa using hL
              have hb8 : zB 8 = true := by cases e : zB 8 with | false => (exfalso; revert hm; simp [metB, Region.binds, e]) | true => rfl
              have hb10 : zB 10 = true := by cases e : zB 10 with | false => (exfalso; revert hm; simp [metB, Region.binds, e]) | true => rfl
              have hb12 : zB 12 = true := by cases e : zB 12 with | false => (exfalso; revert hm; simp [metB, Region.binds, e]) | true => rfl
              have e8 : zS 24 = .bool true := hF.2.2.2.2.2.2.2.2.1 hb8
              have e10 : zS 26 = .agg (gA G1) := hF.2.2.2.2.2.2.2.2.2.2.1 hb10
              have e12 : zS 28 = .agg (gA G2) := hF.2.2.2.2.2.2.2.2.2.2.2.2.1 hb12
              clear hL hm
              simp only [puts, Act.put, List.setIfInBounds_toArray, List.set_cons_zero, List.set_cons_succ]
              simp only [e8, e10, e12]
              go_simp
              refine (HGR.out _).mono ?_
              rintro e v2 ⟨rfl, hb⟩
              go_wp2_with fail
              exact hK.out _ _ ⟨fun zj => if zj = 12 then true else if zj = 10 then true else if zj = 8 then true else if zj = 13 then true else zB zj, fun zd => if zd = 29 then .agg (gA G3) else if zd = 28 then .agg (gA G2) else if zd = 26 then .agg (gA G1) else if zd = 24 then .bool true else zS zd, by simp [hb8, hb10, hb12], by kernel_rfl, ⟨hF.1, hF.2.1, hF.2.2.1, hF.2.2.2.1, hF.2.2.2.2.1, hF.2.2.2.2.2.1, hF.2.2.2.2.2.2.1, hF.2.2.2.2.2.2.2.1, fun _ => rfl, hF.2.2.2.2.2.2.2.2.2.1, fun _ => rfl, hF.2.2.2.2.2.2.2.2.2.2.2.1, fun _ => rfl, fun _ => rfl, hF.2.2.2.2.2.2.2.2.2.2.2.2.2.2.1, hF.2.2.2.2.2.2.2.2.2.2.2.2.2.2.2.1, hF.2.2.2.2.2.2.2.2.2.2.2.2.2.2.2.2.1, hF.2.2.2.2.2.2.2.2.2.2.2.2.2.2.2.2.2.1, hF.2.2.2.2.2.2.2.2.2.2.2.2.2.2.2.2.2.2.1, hF.2.2.2.2.2.2.2.2.2.2.2.2.2.2.2.2.2.2.2⟩, below_step hW hb⟩
            refine StepsI.cons rfl ?_ ?_
            · rintro L zA v ⟨zB, zS, rfl, rfl, hF, hW⟩ hL hm K hK
              have hb14 : zB 14 = false := by simpa using hL
              have hb8 : zB 8 = true := by cases e : zB 8 with | false => (exfalso; revert hm; simp [metB, Region.binds, e]) | true => rfl
              have e8 : zS 24 = .bool true := hF.2.2.2.2.2.2.2.2.1 hb8
              clear hL hm
              simp only [puts, Act.put, List.setIfInBounds_toArray, List.set_cons_zero, List.set_cons_succ]
              simp only [e8]
              go_simp
              exact hK.out _ _ ⟨fun zj => if zj = 8 then true else if zj = 14 then true else zB zj, fun zd => if zd = 30 then .pointer (some ⟨Y, 1, none⟩) else if zd = 24 then .bool true else zS zd, by simp [hb8], by kernel_rfl, ⟨hF.1, hF.2.1, hF.2.2.1, hF.2.2.2.1, hF.2.2.2.2.1, hF.2.2.2.2.2.1, hF.2.2.2.2.2.2.1, hF.2.2.2.2.2.2.2.1, fun _ => rfl, hF.2.2.2.2.2.2.2.2.2.1, hF.2.2.2.2.2.2.2.2.2.2.1, hF.2.2.2.2.2.2.2.2.2.2.2.1, hF.2.2.2.2.2.2.2.2.2.2.2.2.1, hF.2.2.2.2.2.2.2.2.2.2.2.2.2.1, fun _ => rfl, hF.2.2.2.2.2.2.2.2.2.2.2.2.2.2.2.1, hF.2.2.2.2.2.2.2.2.2.2.2.2.2.2.2.2.1, hF.2.2.2.2.2.2.2.2.2.2.2.2.2.2.2.2.2.1, hF.2.2.2.2.2.2.2.2.2.2.2.2.2.2.2.2.2.2.1, hF.2.2.2.2.2.2.2.2.2.2.2.2.2.2.2.2.2.2.2⟩, hW⟩
            refine StepsI.cons rfl ?_ ?_
            · rintro L zA v ⟨zB, zS, rfl, rfl, hF, hW⟩ hL hm K hK
              have hb15 : zB 15 = false := by simpa using hL
              have hb8 : zB 8 = true := by cases e : zB 8 with | false => (exfalso; revert hm; simp [metB, Region.binds, e]) | true => rfl
              have hb14 : zB 14 = true := by cases e : zB 14 with | false => (exfalso; revert hm; simp [metB, Region.binds, e]) | true => rfl
              have e8 : zS 24 = .bool true := hF.2.2.2.2.2.2.2.2.1 hb8
              have e14 : zS 30 = .pointer (some ⟨Y, 1, none⟩) := hF.2.2.2.2.2.2.2.2.2.2.2.2.2.2.1 hb14
              clear hL hm
              simp only [puts, Act.put, List.setIfInBounds_toArray, List.set_cons_zero, List.set_cons_succ]
              simp only [e8, e14]
              rw [if_pos (by rfl)]
              refine wp_load_mid 57 _ rfl Y 1 rfl (ints G2) _ (DY5.out.below hW).arr Try.underlying57 rfl (by rw [ints_len, HG2.out]; exact size62) ?_
              simp only [Act.put]
              exact hK.out _ _ ⟨fun zj => if zj = 14 then true else if zj = 8 then true else if zj = 15 then true else zB zj, fun zd => if zd = 31 then .agg (gA G2) else if zd = 30 then .pointer (some ⟨Y, 1, none⟩) else if zd = 24 then .bool true else zS zd, by simp [hb8, hb14], by kernel_rfl, ⟨hF.1, hF.2.1, hF.2.2.1, hF.2.2.2.1, hF.2.2.2.2.1, hF.2.2.2.2.2.1, hF.2.2.2.2.2.2.1, hF.2.2.2.2.2.2.2.1, fun _ => rfl, hF.2.2.2.2.2.2.2.2.2.1, hF.2.2.2.2.2.2.2.2.2.2.1, hF.2.2.2.2.2.2.2.2.2.2.2.1, hF.2.2.2.2.2.2.2.2.2.2.2.2.1, hF.2.2.2.2.2.2.2.2.2.2.2.2.2.1, fun _ => rfl, fun _ => rfl, hF.2.2.2.2.2.2.2.2.2.2.2.2.2.2.2.2.1, hF.2.2.2.2.2.2.2.2.2.2.2.2.2.2.2.2.2.1, hF.2.2.2.2.2.2.2.2.2.2.2.2.2.2.2.2.2.2.1, hF.2.2.2.2.2.2.2.2.2.2.2.2.2.2.2.2.2.2.2⟩, hW⟩
            refine StepsI.cons rfl ?_ ?_
            · rintro L zA v ⟨zB, zS, rfl, rfl, hF, hW⟩ hL hm K hK
              have hb16 : zB 16 = false := by simpa using hL
              have hb8 : zB 8 = true := by cases e : zB 8 with | false => (exfalso; revert hm; simp [metB, Region.binds, e]) | true => rfl
              have hb13 : zB 13 = true := by cases e : zB 13 with | false => (exfalso; revert hm; simp [metB, Region.binds, e]) | true => rfl
              have hb15 : zB 15 = true := by cases e : zB 15 with | false => (exfalso; revert hm; simp [metB, Region.binds, e]) | true => rfl
              have e8 : zS 24 = .bool true := hF.2.2.2.2.2.2.2.2.1 hb8
              have e13 : zS 29 = .agg (gA G3) := hF.2.2.2.2.2.2.2.2.2.2.2.2.2.1 hb13
              have e15 : zS 31 = .agg (gA G2) := hF.2.2.2.2.2.2.2.2.2.2.2.2.2.2.2.1 hb15
              clear hL hm
              simp only [puts, Act.put, List.setIfInBounds_toArray, List.set_cons_zero, List.set_cons_succ]
              simp only [e8, e13, e15]
              have hq := HEG.out
              go_simp
              exact hK.out _ _ ⟨fun zj => if zj = 15 then true else if zj = 13 then true else if zj = 8 then true else if zj = 16 then true else zB zj, fun zd => if zd = 32 then .bool (leL z.toNat f l') else if zd = 31 then .agg (gA G2) else if zd = 29 then .agg (gA G3) else if zd = 24 then .bool true else zS zd, by simp [hb8, hb13, hb15], by kernel_rfl, ⟨hF.1, hF.2.1, hF.2.2.1, hF.2.2.2.1, hF.2.2.2.2.1, hF.2.2.2.2.2.1, hF.2.2.2.2.2.2.1, hF.2.2.2.2.2.2.2.1, fun _ => rfl, hF.2.2.2.2.2.2.2.2.2.1, hF.2.2.2.2.2.2.2.2.2.2.1, hF.2.2.2.2.2.2.2.2.2.2.2.1, hF.2.2.2.2.2.2.2.2.2.2.2.2.1, fun _ => rfl, hF.2.2.2.2.2.2.2.2.2.2.2.2.2.2.1, fun _ => rfl, fun _ => rfl, hF.2.2.2.2.2.2.2.2.2.2.2.2.2.2.2.2.2.1, hF.2.2.2.2.2.2.2.2.2.2.2.2.2.2.2.2.2.2.1, hF.2.2.2.2.2.2.2.2.2.2.2.2.2.2.2.2.2.2.2⟩, hW⟩
            refine StepsI.cons rfl ?_ ?_
            · rintro L zA v ⟨zB, zS, rfl, rfl, hF, hW⟩ hL hm K hK
              have hb17 : zB 17 = false := by simpa using hL
              have hb2 : zB 2 = true := by cases e : zB 2 with | false => (exfalso; revert hm; simp [metB, Region.binds, e]) | true => rfl
              have hb8 : zB 8 = true := by cases e : zB 8 with | false => (exfalso; revert hm; simp [metB, Region.binds, e]) | true => rfl
              have hb16 : zB 16 = true := by cases e : zB 16 with | false => (exfalso; revert hm; simp [metB, Region.binds, e]) | true => rfl
              have e2 : zS 18 = .bool false := hF.2.2.1 hb2
              have e8 : zS 24 = .bool true := hF.2.2.2.2.2.2.2.2.1 hb8
              have e16 : zS 32 = .bool (leL z.toNat f l') := hF.2.2.2.2.2.2.2.2.2.2.2.2.2.2.2.2.1 hb16
              clear hL hm
              simp only [puts, Act.put, List.setIfInBounds_toArray, List.set_cons_zero, List.set_cons_succ]
              simp only [e2, e8, e16]
              go_simp
              exact hK.out _ _ ⟨fun zj => if zj = 16 then true else if zj = 8 then true else if zj = 2 then true else if zj = 17 then true else zB zj, fun zd => if zd = 33 then .bool (leL z.toNat f l') else if zd = 32 then .bool (leL z.toNat f l') else if zd = 24 then .bool true else if zd = 18 then .bool false else zS zd, by simp [hb2, hb8, hb16], by kernel_rfl, ⟨hF.1, hF.2.1, fun _ => rfl, hF.2.2.2.1, hF.2.2.2.2.1, hF.2.2.2.2.2.1, hF.2.2.2.2.2.2.1, hF.2.2.2.2.2.2.2.1, fun _ => rfl, hF.2.2.2.2.2.2.2.2.2.1, hF.2.2.2.2.2.2.2.2.2.2.1, hF.2.2.2.2.2.2.2.2.2.2.2.1, hF.2.2.2.2.2.2.2.2.2.2.2.2.1, hF.2.2.2.2.2.2.2.2.2.2.2.2.2.1, hF.2.2.2.2.2.2.2.2.2.2.2.2.2.2.1, hF.2.2.2.2.2.2.2.2.2.2.2.2.2.2.2.1, fun _ => rfl, fun _ => rfl, hF.2.2.2.2.2.2.2.2.2.2.2.2.2.2.2.2.2.2.1, hF.2.2.2.2.2.2.2.2.2.2.2.2.2.2.2.2.2.2.2⟩, hW⟩
            refine StepsI.cons rfl ?_ ?_
            · rintro L zA v ⟨zB, zS, rfl, rfl, hF, hW⟩ hL hm K hK
              have hb18 : zB 18 = false := by simpa using hL
              have hb2 : zB 2 = true := by cases e : zB 2 with | false => (exfalso; revert hm; simp [metB, Region.binds, e]) | true => rfl
              have hb17 : zB 17 = true := by cases e : zB 17 with | false => (exfalso; revert hm; simp [metB, Region.binds, e]) | true => rfl
              have e2 : zS 18 = .bool false := hF.2.2.1 hb2
              have e17 : zS 33 = .bool (leL z.toNat f l') := hF.2.2.2.2.2.2.2.2.2.2.2.2.2.2.2.2.2.1 hb17
              clear hL hm
              simp only [puts, Act.put, List.setIfInBounds_toArray, List.set_cons_zero, List.set_cons_succ]
              simp only [e2, e17]
              go_simp
              exact hK.out _ _ ⟨fun zj => if zj = 17 then true else if zj = 2 then true else if zj = 18 then true else zB zj, fun zd => if zd = 34 then .bool (leL z.toNat f l') else if zd = 33 then .bool (leL z.toNat f l') else if zd = 18 then .bool false else zS zd, by simp [hb2, hb17], by kernel_rfl, ⟨hF.1, hF.2.1, fun _ => rfl, hF.2.2.2.1, hF.2.2.2.2.1, hF.2.2.2.2.2.1, hF.2.2.2.2.2.2.1, hF.2.2.2.2.2.2.2.1, hF.2.2.2.2.2.2.2.2.1, hF.2.2.2.2.2.2.2.2.2.1, hF.2.2.2.2.2.2.2.2.2.2.1, hF.2.2.2.2.2.2.2.2.2.2.2.1, hF.2.2.2.2.2.2.2.2.2.2.2.2.1, hF.2.2.2.2.2.2.2.2.2.2.2.2.2.1, hF.2.2.2.2.2.2.2.2.2.2.2.2.2.2.1, hF.2.2.2.2.2.2.2.2.2.2.2.2.2.2.2.1, hF.2.2.2.2.2.2.2.2.2.2.2.2.2.2.2.2.1, fun _ => rfl, fun _ => rfl, hF.2.2.2.2.2.2.2.2.2.2.2.2.2.2.2.2.2.2.2⟩, hW⟩
            refine StepsI.cons rfl ?_ ?_
            · rintro L zA v ⟨zB, zS, rfl, rfl, hF, hW⟩ hL hm K hK
              have hb19 : zB 19 = false := by simpa using hL
              have hb18 : zB 18 = true := by cases e : zB 18 with | false => (exfalso; revert hm; simp [metB, Region.binds, e]) | true => rfl
              have e18 : zS 34 = .bool (leL z.toNat f l') := hF.2.2.2.2.2.2.2.2.2.2.2.2.2.2.2.2.2.2.1 hb18
              clear hL hm
              simp only [puts, Act.put, List.setIfInBounds_toArray, List.set_cons_zero, List.set_cons_succ]
              simp only [e18]
              go_simp
              exact hK.out _ _ ⟨fun zj => if zj = 18 then true else if zj = 19 then true else zB zj, fun zd => if zd = 4 then .bool (leL z.toNat f l') else if zd = 34 then .bool (leL z.toNat f l') else zS zd, by simp [hb18], by kernel_rfl, ⟨hF.1, hF.2.1, hF.2.2.1, hF.2.2.2.1, hF.2.2.2.2.1, hF.2.2.2.2.2.1, hF.2.2.2.2.2.2.1, hF.2.2.2.2.2.2.2.1, hF.2.2.2.2.2.2.2.2.1, hF.2.2.2.2.2.2.2.2.2.1, hF.2.2.2.2.2.2.2.2.2.2.1, hF.2.2.2.2.2.2.2.2.2.2.2.1, hF.2.2.2.2.2.2.2.2.2.2.2.2.1, hF.2.2.2.2.2.2.2.2.2.2.2.2.2.1, hF.2.2.2.2.2.2.2.2.2.2.2.2.2.2.1, hF.2.2.2.2.2.2.2.2.2.2.2.2.2.2.2.1, hF.2.2.2.2.2.2.2.2.2.2.2.2.2.2.2.2.1, hF.2.2.2.2.2.2.2.2.2.2.2.2.2.2.2.2.2.1, fun _ => rfl, fun _ => rfl⟩, hW⟩
            exact StepsI.nil (by kernel_rfl)
          · rintro L zA v ⟨zB, zS, rfl, rfl, hF, hW⟩ hr
            have hu := all_up (by kernel_rfl) (N := 20) (by kernel_rfl) hr
            have hb0 : zB 0 = true := by simpa using hu 0 (by decide)
            have hb1 : zB 1 = true := by simpa using hu 1 (by decide)
            have hb2 : zB 2 = true := by simpa using hu 2 (by decide)
            have hb3 : zB 3 = true := by simpa using hu 3 (by decide)
            have hb4 : zB 4 = true := by simpa using hu 4 (by decide)
            have hb5 : zB 5 = true := by simpa using hu 5 (by decide)
            have hb6 : zB 6 = true := by simpa using hu 6 (by decide)
            have hb7 : zB 7 = true := by simpa using hu 7 (by decide)
            have hb8 : zB 8 = true := by simpa using hu 8 (by decide)
            have hb9 : zB 9 = true := by simpa using hu 9 (by decide)
            have hb10 : zB 10 = true := by simpa using hu 10 (by decide)
            have hb11 : zB 11 = true := by simpa using hu 11 (by decide)
            have hb12 : zB 12 = true := by simpa using hu 12 (by decide)
            have hb13 : zB 13 = true := by simpa using hu 13 (by decide)
            have hb14 : zB 14 = true := by simpa using hu 14 (by decide)
            have hb15 : zB 15 = true := by simpa using hu 15 (by decide)
            have hb16 : zB 16 = true := by simpa using hu 16 (by decide)
            have hb17 : zB 17 = true := by simpa using hu 17 (by decide)
            have hb18 : zB 18 = true := by simpa using hu 18 (by decide)
            have hb19 : zB 19 = true := by simpa using hu 19 (by decide)
            have e0 : zS 16 = .agg (dA m1 G1) := hF.1 hb0
            have e1 : zS 17 = .bool false := hF.2.1 hb1
            have e2 : zS 18 = .bool false := hF.2.2.1 hb2
            have e3 : zS 19 = .pointer (some ⟨X, 0, none⟩) := hF.2.2.2.1 hb3
            have e4 : zS 20 = .int .i64 m1 := hF.2.2.2.2.1 hb4
            have e5 : zS 21 = .pointer (some ⟨Y, 0, none⟩) := hF.2.2.2.2.2.1 hb5
            have e6 : zS 22 = .int .i64 m2 := hF.2.2.2.2.2.2.1 hb6
            have e7 : zS 23 = .bool true := hF.2.2.2.2.2.2.2.1 hb7
            have e8 : zS 24 = .bool true := hF.2.2.2.2.2.2.2.2.1 hb8
            have e9 : zS 25 = .pointer (some ⟨X, 1, none⟩) := hF.2.2.2.2.2.2.2.2.2.1 hb9
            have e10 : zS 26 = .agg (gA G1) := hF.2.2.2.2.2.2.2.2.2.2.1 hb10
            have e11 : zS 27 = .pointer (some ⟨Y, 1, none⟩) := hF.2.2.2.2.2.2.2.2.2.2.2.1 hb11
            have e12 : zS 28 = .agg (gA G2) := hF.2.2.2.2.2.2.2.2.2.2.2.2.1 hb12
            have e13 : zS 29 = .agg (gA G3) := hF.2.2.2.2.2.2.2.2.2.2.2.2.2.1 hb13
            have e14 : zS 30 = .pointer (some ⟨Y, 1, none⟩) := hF.2.2.2.2.2.2.2.2.2.2.2.2.2.2.1 hb14
            have e15 : zS 31 = .agg (gA G2) := hF.2.2.2.2.2.2.2.2.2.2.2.2.2.2.2.1 hb15
            have e16 : zS 32 = .bool (leL z.toNat f l') := hF.2.2.2.2.2.2.2.2.2.2.2.2.2.2.2.2.1 hb16
            have e17 : zS 33 = .bool (leL z.toNat f l') := hF.2.2.2.2.2.2.2.2.2.2.2.2.2.2.2.2.2.1 hb17
            have e18 : zS 34 = .bool (leL z.toNat f l') := hF.2.2.2.2.2.2.2.2.2.2.2.2.2.2.2.2.2.2.1 hb18
            have e19 : zS 4 = .bool (leL z.toNat f l') := hF.2.2.2.2.2.2.2.2.2.2.2.2.2.2.2.2.2.2.2 hb19
            clear hu hr hF
            simp only [puts, Act.put, List.setIfInBounds_toArray, List.set_cons_zero, List.set_cons_succ]
            simp only [e0, e1, e2, e3, e4, e5, e6, e7, e8, e9, e10, e11, e12, e13, e14, e15, e16, e17, e18, e19]
            clear e0 e1 e2 e3 e4 e5 e6 e7 e8 e9 e10 e11 e12 e13 e14 e15 e16 e17 e18 e19
            clear hb0 hb1 hb2 hb3 hb4 hb5 hb6 hb7 hb8 hb9 hb10 hb11 hb12 hb13 hb14 hb15 hb16 hb17 hb18 hb19
            clear zB zS
            have HB := mkHid (below_step B5.out hW)
            clear hW
            go_wp2
            go_ret
            exact ⟨ret_bool e1.out.symm, HB.out⟩
end Go.Proofs.Ytgclngofigffdaa
