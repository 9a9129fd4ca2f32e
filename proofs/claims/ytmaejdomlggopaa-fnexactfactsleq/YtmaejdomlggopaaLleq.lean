/-
  FnExactFactsLeq holds at every argument: the program's function answers as the specification's, writes into no argument. No conditions.
-/
import Derived.Test.YtmaejdomlggopaaLq
import Derived.Test.YtmaejdomlggopaaLo
import Derived.Test.YtmaejdomlggopaaInv
import Derived.Deep.RegionHeld3
namespace Go.Proofs.Ytmaejdomlggopaa
open Go.ChangeShapes Go.WideShapes Go.ChangeAt Go.RowKit Go.Joins

set_option maxRecDepth 100000 in
set_option maxHeartbeats 6400000 in
theorem law_walk (z0 : Int) (l0 : List Int) (a0 : Option Addr) (c0 : Nat) (z1 : Int) (l1 : List Int) (a1 : Option Addr) (c1 : Nat) (w : World) (hn0 : l0.length ≤ maxLen) (hl0 : IntsAt w a0 l0) (hn1 : l1.length ≤ maxLen) (hl1 : IntsAt w a1 l1) : Calls Try.prog 3 #[.agg #[.int .i64 z0, .slice a0 l0.length c0], .agg #[.int .i64 z1, .slice a1 l1.length c1]] w fun e w' => e = .returned (.bool true) ∧ Below w.heap.size w w' := by
  have HN0 := mkHid hn0
  have HL0 := mkHid hl0
  have HN1 := mkHid hn1
  have HL1 := mkHid hl1
  have B_0 : Hid (Below w.heap.size w ((w.alloc (.cells #[.int .i64 z0, .slice a0 l0.length c0] 24)).alloc (.cells #[.int .i64 z1, .slice a1 l1.length c1] 24))) := mkHid ((((Below.refl w.heap.size w).alloc (Nat.le_refl _) (.cells #[.int .i64 z0, .slice a0 l0.length c0] 24)).alloc (by simp) (.cells #[.int .i64 z1, .slice a1 l1.length c1] 24)))
  have A0_0 : Hid (Fc ((w.alloc (.cells #[.int .i64 z0, .slice a0 l0.length c0] 24)).alloc (.cells #[.int .i64 z1, .slice a1 l1.length c1] 24)) (w.heap.size) z0 a0 l0.length c0) := mkHid (by have := (Fc.new w z0 a0 l0.length c0 24).below ((Below.refl _ _).alloc (Nat.le_refl _) (.cells #[.int .i64 z1, .slice a1 l1.length c1] 24)); simpa using this)
  have A1_0 : Hid (Fc ((w.alloc (.cells #[.int .i64 z0, .slice a0 l0.length c0] 24)).alloc (.cells #[.int .i64 z1, .slice a1 l1.length c1] 24)) (w.heap.size + 1) z1 a1 l1.length c1) := mkHid (by have := Fc.new (w.alloc (.cells #[.int .i64 z0, .slice a0 l0.length c0] 24)) z1 a1 l1.length c1 24; simpa using this)
  obtain ⟨r0, hr0⟩ : ∃ r, leqF z0 l0 z1 l1 = r := ⟨_, rfl⟩
  have HS : Hid (∀ (a0 a1 : Option Addr) (v : World), IntsAt v a0 l0 → IntsAt v a1 l1 → Calls Try.prog 14 #[.agg #[.int .i64 z0, .slice a0 l0.length l0.length], .agg #[.int .i64 z1, .slice a1 l1.length l1.length]] v fun e w' => e = .returned (.bool r0) ∧ Below v.heap.size v w') := mkHid fun a0 a1 v h0 h1 => by rw [← hr0]; exact sLeq_any z0 l0 a0 _ z1 l1 a1 _ v h0 h1
  have HI : Hid (∀ (a0 a1 : Option Addr) (v : World), IntsAt v a0 l0 → IntsAt v a1 l1 → Calls Try.prog 16 #[.agg #[.int .i64 z0, .slice a0 l0.length l0.length], .agg #[.int .i64 z1, .slice a1 l1.length l1.length]] v fun e w' => e = .returned (.bool r0) ∧ Below v.heap.size v w') := mkHid fun a0 a1 v h0 h1 => by rw [← hr0]; exact iLeq_any z0 l0 a0 _ z1 l1 a1 _ v (Nat.le_refl _) (Nat.le_refl _) h0 h1
  clear hn0 hl0 hn1 hl1 hr0
  go_enter Try.func3, Try.ntmps3
  obtain ⟨p0, p1⟩ := A0_0.out
  go_wp2_with fail
  refine (szFacts_any z0 a0 l0.length c0 1048576 _ HN0.out (by omega) (by omega)).mono ?_
  rintro e w1 ⟨rfl, hb⟩
  have B_1 := mkHid (below_step B_0.out hb)
  have A0_1 := mkHid (A0_0.out.below hb)
  have A1_1 := mkHid (A1_0.out.below hb)
  clear hb p0 p1 B_0 A0_0 A1_0
  obtain ⟨rs0, hr⟩ : ∃ r, szR 1048576 l0.length = r := ⟨_, rfl⟩
  have HQ0 : Hid (¬ rs0 < 0 → l0.length ≤ 1048576 ∧ 0 ≤ rs0 ∧ rs0 ≤ 1048576) := mkHid fun h => by unfold szR at hr; split at hr <;> omega
  rw [hr]
  clear hr
  by_cases hneg0 : rs0 < 0
  · go_wp2
    go_ret
    exact ⟨rfl, B_1.out⟩
  obtain ⟨hz0a, hz0b, hz0c⟩ := HQ0.out hneg0
  have HZZ0 := mkHid hz0a
  clear HQ0
  obtain ⟨p0, p1⟩ := A1_1.out
  go_wp2_with fail
  refine (szFacts_any z1 a1 l1.length c1 rs0 _ HN1.out hz0b hz0c).mono ?_
  rintro e w2 ⟨rfl, hb⟩
  have B_2 := mkHid (below_step B_1.out hb)
  have A0_2 := mkHid (A0_1.out.below hb)
  have A1_2 := mkHid (A1_1.out.below hb)
  clear hb p0 p1 B_1 A0_1 A1_1
  obtain ⟨rs1, hr⟩ : ∃ r, szR rs0 l1.length = r := ⟨_, rfl⟩
  have HQ1 : Hid (¬ rs1 < 0 → l1.length ≤ 1048576 ∧ 0 ≤ rs1 ∧ rs1 ≤ 1048576) := mkHid fun h => by unfold szR at hr; split at hr <;> omega
  rw [hr]
  clear hr
  by_cases hneg1 : rs1 < 0
  · go_wp2
    go_ret
    exact ⟨rfl, B_2.out⟩
  obtain ⟨hz1a, hz1b, hz1c⟩ := HQ1.out hneg1
  have HZZ1 := mkHid hz1a
  clear HQ1
  go_wp2_with fail
  refine wp_region_inv2 (fun zA0 L zA vs => ∃ (zB : Nat → Bool) (zS : Nat → Value) (gs1 : Nat) (gs3 : Nat), L = #[zB 0, zB 1, zB 2, zB 3, zB 4, zB 5] ∧ zA = puts zA0 [(20, zS 20), (21, zS 21), (22, zS 22), (23, zS 23), (24, zS 24), (6, zS 6)] ∧ ((zB 0 = true → zS 20 = .agg #[.int .i64 z0, .slice a0 l0.length c0]) ∧ (zB 1 = true → zS 21 = .agg #[.int .i64 z0, .slice (some ⟨gs1, 0, none⟩) l0.length l0.length]) ∧ (zB 2 = true → zS 22 = .agg #[.int .i64 z1, .slice a1 l1.length c1]) ∧ (zB 3 = true → zS 23 = .agg #[.int .i64 z1, .slice (some ⟨gs3, 0, none⟩) l1.length l1.length]) ∧ (zB 4 = true → zS 24 = .bool r0) ∧ (zB 5 = true → zS 6 = .bool r0)) ∧ Below w2.heap.size w2 vs ∧ ((zB 1) = true → (zB 4) = false → IntsAt vs (some ⟨gs1, 0, none⟩) l0) ∧ ((zB 3) = true → (zB 4) = false → IntsAt vs (some ⟨gs3, 0, none⟩) l1)) (by kernel_rfl) ?_ ?_ ?_
  · exact ⟨fun _ => false, fun _ => undef, 0, 0, rfl, by kernel_rfl, ⟨fun e => ft e, fun e => ft e, fun e => ft e, fun e => ft e, fun e => ft e, fun e => ft e⟩, ⟨(Below.refl _ _).drew, fun e => ft e, fun e => ft e⟩⟩
  · refine StepsI.cons rfl ?_ ?_
    · rintro L zA vs ⟨zB, zS, gs1, gs3, rfl, rfl, hF, hW⟩ hL hm K hK
      have hb0 : zB 0 = false := by simpa using hL
      clear hL hm
      simp only [puts, Act.put, List.setIfInBounds_toArray, List.set_cons_zero, List.set_cons_succ]
      obtain ⟨hC, k1, k3⟩ := hW
      obtain ⟨q0, q1⟩ := A0_2.out.below hC
      go_simp
      exact hK.out _ _ ⟨fun zj => if zj = 0 then true else zB zj, fun zd => if zd = 20 then .agg #[.int .i64 z0, .slice a0 l0.length c0] else zS zd, gs1, gs3, rfl, by kernel_rfl, ⟨fun _ => rfl, hF.2.1, hF.2.2.1, hF.2.2.2.1, hF.2.2.2.2.1, hF.2.2.2.2.2⟩, ⟨hC, k1, k3⟩⟩
    refine StepsI.cons rfl ?_ ?_
    · rintro L zA vs ⟨zB, zS, gs1, gs3, rfl, rfl, hF, hW⟩ hL hm K hK
      have hb1 : zB 1 = false := by simpa using hL
      have hb0 : zB 0 = true := by cases e : zB 0 with | false => (exfalso; revert hm; simp [metB, Region.binds, e]) | true => rfl
      have e0 : zS 20 = .agg #[.int .i64 z0, .slice a0 l0.length c0] := hF.1 hb0
      clear hL hm
      rw [hb1] at hW
      simp only [puts, Act.put, List.setIfInBounds_toArray, List.set_cons_zero, List.set_cons_succ]
      simp only [e0]
      obtain ⟨hC, k1, k3⟩ := hW
      go_simp
      refine (toFacts_any z0 l0 a0 c0 _ HZZ0.out (HL0.out.below (below_step B_2.out hC))).mono ?_
      rintro e v2 ⟨gn, rfl, ho, hb⟩
      go_wp2_with fail
      exact hK.out _ _ ⟨fun zj => if zj = 0 then true else if zj = 1 then true else zB zj, fun zd => if zd = 21 then .agg #[.int .i64 z0, .slice (some ⟨gn, 0, none⟩) l0.length l0.length] else if zd = 20 then .agg #[.int .i64 z0, .slice a0 l0.length c0] else zS zd, gn, gs3, by simp [hb0], by kernel_rfl, ⟨fun _ => rfl, fun _ => rfl, hF.2.2.1, hF.2.2.2.1, hF.2.2.2.2.1, hF.2.2.2.2.2⟩, ⟨below_step hC hb, fun _ _ => ho.at, fun e e2 => (k3 e e2).below hb⟩⟩
    refine StepsI.cons rfl ?_ ?_
    · rintro L zA vs ⟨zB, zS, gs1, gs3, rfl, rfl, hF, hW⟩ hL hm K hK
      have hb2 : zB 2 = false := by simpa using hL
      clear hL hm
      simp only [puts, Act.put, List.setIfInBounds_toArray, List.set_cons_zero, List.set_cons_succ]
      obtain ⟨hC, k1, k3⟩ := hW
      obtain ⟨q0, q1⟩ := A1_2.out.below hC
      go_simp
      exact hK.out _ _ ⟨fun zj => if zj = 2 then true else zB zj, fun zd => if zd = 22 then .agg #[.int .i64 z1, .slice a1 l1.length c1] else zS zd, gs1, gs3, rfl, by kernel_rfl, ⟨hF.1, hF.2.1, fun _ => rfl, hF.2.2.2.1, hF.2.2.2.2.1, hF.2.2.2.2.2⟩, ⟨hC, k1, k3⟩⟩
    refine StepsI.cons rfl ?_ ?_
    · rintro L zA vs ⟨zB, zS, gs1, gs3, rfl, rfl, hF, hW⟩ hL hm K hK
      have hb3 : zB 3 = false := by simpa using hL
      have hb2 : zB 2 = true := by cases e : zB 2 with | false => (exfalso; revert hm; simp [metB, Region.binds, e]) | true => rfl
      have e2 : zS 22 = .agg #[.int .i64 z1, .slice a1 l1.length c1] := hF.2.2.1 hb2
      clear hL hm
      rw [hb3] at hW
      simp only [puts, Act.put, List.setIfInBounds_toArray, List.set_cons_zero, List.set_cons_succ]
      simp only [e2]
      obtain ⟨hC, k1, k3⟩ := hW
      go_simp
      refine (toFacts_any z1 l1 a1 c1 _ HZZ1.out (HL1.out.below (below_step B_2.out hC))).mono ?_
      rintro e v2 ⟨gn, rfl, ho, hb⟩
      go_wp2_with fail
      exact hK.out _ _ ⟨fun zj => if zj = 2 then true else if zj = 3 then true else zB zj, fun zd => if zd = 23 then .agg #[.int .i64 z1, .slice (some ⟨gn, 0, none⟩) l1.length l1.length] else if zd = 22 then .agg #[.int .i64 z1, .slice a1 l1.length c1] else zS zd, gs1, gn, by simp [hb2], by kernel_rfl, ⟨hF.1, hF.2.1, fun _ => rfl, fun _ => rfl, hF.2.2.2.2.1, hF.2.2.2.2.2⟩, ⟨below_step hC hb, fun e e2 => (k1 e e2).below hb, fun _ _ => ho.at⟩⟩
    refine StepsI.cons rfl ?_ ?_
    · rintro L zA vs ⟨zB, zS, gs1, gs3, rfl, rfl, hF, hW⟩ hL hm K hK
      have hb4 : zB 4 = false := by simpa using hL
      have hb1 : zB 1 = true := by cases e : zB 1 with | false => (exfalso; revert hm; simp [metB, Region.binds, e]) | true => rfl
      have hb3 : zB 3 = true := by cases e : zB 3 with | false => (exfalso; revert hm; simp [metB, Region.binds, e]) | true => rfl
      have e1 : zS 21 = .agg #[.int .i64 z0, .slice (some ⟨gs1, 0, none⟩) l0.length l0.length] := hF.2.1 hb1
      have e3 : zS 23 = .agg #[.int .i64 z1, .slice (some ⟨gs3, 0, none⟩) l1.length l1.length] := hF.2.2.2.1 hb3
      clear hL hm
      rw [hb4] at hW
      rw [hb1] at hW
      rw [hb3] at hW
      simp only [puts, Act.put, List.setIfInBounds_toArray, List.set_cons_zero, List.set_cons_succ]
      simp only [e1, e3]
      obtain ⟨hC, k1, k3⟩ := hW
      go_simp
      refine (HS.out _ _ _ (k1 rfl rfl) (k3 rfl rfl)).mono ?_
      rintro e v2 ⟨rfl, hb⟩
      go_wp2_with fail
      exact hK.out _ _ ⟨fun zj => if zj = 3 then true else if zj = 1 then true else if zj = 4 then true else zB zj, fun zd => if zd = 24 then .bool r0 else if zd = 23 then .agg #[.int .i64 z1, .slice (some ⟨gs3, 0, none⟩) l1.length l1.length] else if zd = 21 then .agg #[.int .i64 z0, .slice (some ⟨gs1, 0, none⟩) l0.length l0.length] else zS zd, gs1, gs3, by simp [hb1, hb3], by kernel_rfl, ⟨hF.1, fun _ => rfl, hF.2.2.1, fun _ => rfl, fun _ => rfl, hF.2.2.2.2.2⟩, ⟨below_step hC hb, fun _ e => tf e, fun _ e => tf e⟩⟩
    refine StepsI.cons rfl ?_ ?_
    · rintro L zA vs ⟨zB, zS, gs1, gs3, rfl, rfl, hF, hW⟩ hL hm K hK
      have hb5 : zB 5 = false := by simpa using hL
      have hb4 : zB 4 = true := by cases e : zB 4 with | false => (exfalso; revert hm; simp [metB, Region.binds, e]) | true => rfl
      have e4 : zS 24 = .bool r0 := hF.2.2.2.2.1 hb4
      clear hL hm
      rw [hb4] at hW
      simp only [puts, Act.put, List.setIfInBounds_toArray, List.set_cons_zero, List.set_cons_succ]
      simp only [e4]
      obtain ⟨hC, k1, k3⟩ := hW
      go_simp
      exact hK.out _ _ ⟨fun zj => if zj = 4 then true else if zj = 5 then true else zB zj, fun zd => if zd = 6 then .bool r0 else if zd = 24 then .bool r0 else zS zd, gs1, gs3, by simp [hb4], by kernel_rfl, ⟨hF.1, hF.2.1, hF.2.2.1, hF.2.2.2.1, fun _ => rfl, fun _ => rfl⟩, ⟨hC, k1, k3⟩⟩
    exact StepsI.nil (by kernel_rfl)
  · rintro L zA vs ⟨zB, zS, gs1, gs3, rfl, rfl, hF, hW⟩ hr
    have hu := all_up (by kernel_rfl) (N := 6) (by kernel_rfl) hr
    have hb0 : zB 0 = true := by simpa using hu 0 (by decide)
    have hb1 : zB 1 = true := by simpa using hu 1 (by decide)
    have hb2 : zB 2 = true := by simpa using hu 2 (by decide)
    have hb3 : zB 3 = true := by simpa using hu 3 (by decide)
    have hb4 : zB 4 = true := by simpa using hu 4 (by decide)
    have hb5 : zB 5 = true := by simpa using hu 5 (by decide)
    have e0 : zS 20 = .agg #[.int .i64 z0, .slice a0 l0.length c0] := hF.1 hb0
    have e1 : zS 21 = .agg #[.int .i64 z0, .slice (some ⟨gs1, 0, none⟩) l0.length l0.length] := hF.2.1 hb1
    have e2 : zS 22 = .agg #[.int .i64 z1, .slice a1 l1.length c1] := hF.2.2.1 hb2
    have e3 : zS 23 = .agg #[.int .i64 z1, .slice (some ⟨gs3, 0, none⟩) l1.length l1.length] := hF.2.2.2.1 hb3
    have e4 : zS 24 = .bool r0 := hF.2.2.2.2.1 hb4
    have e5 : zS 6 = .bool r0 := hF.2.2.2.2.2 hb5
    rw [hb1] at hW
    rw [hb3] at hW
    rw [hb4] at hW
    clear hu hr hF
    simp only [puts, Act.put, List.setIfInBounds_toArray, List.set_cons_zero, List.set_cons_succ]
    simp only [e0, e1, e2, e3, e4, e5]
    clear e0 e1 e2 e3 e4 e5
    clear hb0 hb1 hb2 hb3 hb4 hb5
    clear zB zS
    obtain ⟨hC, k1, k3⟩ := hW
    skip
    have hbel := hC
    clear hC k1 k3
    have B_3 := mkHid (below_step B_2.out hbel)
    have A0_3 := mkHid (A0_2.out.below hbel)
    have A1_3 := mkHid (A1_2.out.below hbel)
    clear hbel  B_2 A0_2 A1_2
    obtain ⟨bz, hbz⟩ : ∃ bz, vs.heap.size = bz := ⟨_, rfl⟩
    obtain ⟨p0, p1⟩ := A0_3.out
    skip
    go_wp2_with fail
    refine (toFacts_any z0 l0 a0 c0 _ HZZ0.out (HL0.out.below B_3.out)).mono ?_
    rintro e w3 ⟨cp0, rfl, ho, hb⟩
    obtain ⟨bx0, hbx0⟩ : ∃ b, w3.heap.size = b := ⟨_, rfl⟩
    have hx0 : bz ≤ cp0 ∧ cp0 < bx0 := by have h1 := ho.base_le; have h2 := ho.lt (q := cp0) rfl; omega
    have AL := (Below.refl w3.heap.size w3).alloc (Nat.le_refl _) (.cells #[.int .i64 z0, .slice (some ⟨cp0, 0, none⟩) l0.length l0.length] 27)
    have B_4 := mkHid ((below_step B_3.out hb).alloc (below_step B_3.out hb).size (.cells #[.int .i64 z0, .slice (some ⟨cp0, 0, none⟩) l0.length l0.length] 27))
    have A0_4 := mkHid ((A0_3.out.below hb).below AL)
    have A1_4 := mkHid ((A1_3.out.below hb).below AL)
    clear hb p0 p1 hbz B_3 A0_3 A1_3
    have X0_4 := mkHid (Fc.new w3 z0 (some ⟨cp0, 0, none⟩) l0.length l0.length 27)
    rw [hbx0] at X0_4
    have O0_4 := mkHid (ho.below AL)
    clear ho AL
    obtain ⟨p0, p1⟩ := A1_4.out
    have s0 := X0_4.out.lt
    go_wp2_with fail
    refine (toFacts_any z1 l1 a1 c1 _ HZZ1.out (HL1.out.below B_4.out)).mono ?_
    rintro e w4 ⟨cp1, rfl, ho, hb⟩
    obtain ⟨bx1, hbx1⟩ : ∃ b, w4.heap.size = b := ⟨_, rfl⟩
    have hx1 : bx0 + 1 ≤ cp1 ∧ cp1 < bx1 := by have h1 := ho.base_le; have h2 := ho.lt (q := cp1) rfl; omega
    have AL := (Below.refl w4.heap.size w4).alloc (Nat.le_refl _) (.cells #[.int .i64 z1, .slice (some ⟨cp1, 0, none⟩) l1.length l1.length] 27)
    have B_5 := mkHid ((below_step B_4.out hb).alloc (below_step B_4.out hb).size (.cells #[.int .i64 z1, .slice (some ⟨cp1, 0, none⟩) l1.length l1.length] 27))
    have A0_5 := mkHid ((A0_4.out.below hb).below AL)
    have A1_5 := mkHid ((A1_4.out.below hb).below AL)
    have X0_5 := mkHid ((X0_4.out.below hb).below AL)
    have O0_5 := mkHid ((O0_4.out.below hb).below AL)
    clear hb p0 p1 s0 B_4 A0_4 A1_4 X0_4 O0_4
    have X1_5 := mkHid (Fc.new w4 z1 (some ⟨cp1, 0, none⟩) l1.length l1.length 27)
    rw [hbx1] at X1_5
    have O1_5 := mkHid (ho.below AL)
    clear ho AL
    have hne0 : (r0 != r0) = false := by simp
    obtain ⟨x0q0, x0q1⟩ := X0_5.out
    obtain ⟨x1q0, x1q1⟩ := X1_5.out
    go_wp2_with fail
    refine (HI.out _ _ _ O0_5.out.at O1_5.out.at).mono ?_
    rintro e w5 ⟨rfl, hb⟩
    have B_6 := mkHid (below_step B_5.out hb)
    have A0_6 := mkHid (A0_5.out.below hb)
    have A1_6 := mkHid (A1_5.out.below hb)
    have X0_6 := mkHid (X0_5.out.below hb)
    have O0_6 := mkHid (O0_5.out.below hb)
    have X1_6 := mkHid (X1_5.out.below hb)
    have O1_6 := mkHid (O1_5.out.below hb)
    clear hb x0q0 x0q1 x1q0 x1q1 B_5 A0_5 A1_5 X0_5 O0_5 X1_5 O1_5
    clear hbx0 hbx1
    obtain ⟨p0, p1⟩ := A0_6.out
    obtain ⟨q0, q1⟩ := X0_6.out
    have hlx := A0_6.out.lt
    have hly := X0_6.out.lt
    go_wp2_with fail
    go_region_held3 (fun w' => w'.cell? ⟨w.heap.size, 0, none⟩ = some (.int .i64 z0) ∧ w'.cell? ⟨w.heap.size, 1, none⟩ = some (.slice a0 l0.length c0) ∧ w'.cell? ⟨bx0, 0, none⟩ = some (.int .i64 z0) ∧ w'.cell? ⟨bx0, 1, none⟩ = some (.slice (some ⟨cp0, 0, none⟩) l0.length l0.length))
      (first | exact ⟨p0, p1, q0, q1⟩ | exact ⟨(hc _ _ hlx).trans p0, (hc _ _ hlx).trans p1, (hc _ _ hly).trans q0, (hc _ _ hly).trans q1⟩)
      (first | (go_at_call 15; refine (toFacts_any z0 l0 a0 c0 _ HZZ0.out (HL0.out.below B_6.out.drew)).mono ?_; rintro e w6 ⟨gx, rfl, hox, hbx⟩; obtain ⟨hc, hf⟩ := bcell hbx) | (go_at_call 17; refine (eqFacts_ok z0 l0 (some ⟨cp0, 0, none⟩) (some ⟨gx, 0, none⟩) _ _ _ HN0.out ((O0_6.out.at.below (Below.refl _ _).drew).below hbx) hox.at).mono ?_; rintro e w7 ⟨rfl, hby⟩; obtain ⟨hc', hf'⟩ := bcell hby; have hc := fun b o (h : b < w5.drew.heap.size) => (hc' b o (Nat.lt_of_lt_of_le h hbx.size)).trans (hc b o h)))
    have NN := below_step (below_step (Below.refl w5.heap.size w5).drew hbx) hby
    have B_7 := mkHid (below_step B_6.out NN)
    have A0_7 := mkHid (A0_6.out.below NN)
    have A1_7 := mkHid (A1_6.out.below NN)
    have X0_7 := mkHid (X0_6.out.below NN)
    have O0_7 := mkHid (O0_6.out.below NN)
    have X1_7 := mkHid (X1_6.out.below NN)
    have O1_7 := mkHid (O1_6.out.below NN)
    clear NN hc hc' hf hf' hbx hby hox p0 p1 q0 q1 hlx hly B_6 A0_6 A1_6 X0_6 O0_6 X1_6 O1_6
    obtain ⟨p0, p1⟩ := A1_7.out
    obtain ⟨q0, q1⟩ := X1_7.out
    have hlx := A1_7.out.lt
    have hly := X1_7.out.lt
    go_wp2_with fail
    go_region_held3 (fun w' => w'.cell? ⟨w.heap.size + 1, 0, none⟩ = some (.int .i64 z1) ∧ w'.cell? ⟨w.heap.size + 1, 1, none⟩ = some (.slice a1 l1.length c1) ∧ w'.cell? ⟨bx1, 0, none⟩ = some (.int .i64 z1) ∧ w'.cell? ⟨bx1, 1, none⟩ = some (.slice (some ⟨cp1, 0, none⟩) l1.length l1.length))
      (first | exact ⟨p0, p1, q0, q1⟩ | exact ⟨(hc _ _ hlx).trans p0, (hc _ _ hlx).trans p1, (hc _ _ hly).trans q0, (hc _ _ hly).trans q1⟩)
      (first | (go_at_call 15; refine (toFacts_any z1 l1 a1 c1 _ HZZ1.out (HL1.out.below B_7.out.drew)).mono ?_; rintro e w8 ⟨gx, rfl, hox, hbx⟩; obtain ⟨hc, hf⟩ := bcell hbx) | (go_at_call 17; refine (eqFacts_ok z1 l1 (some ⟨cp1, 0, none⟩) (some ⟨gx, 0, none⟩) _ _ _ HN1.out ((O1_7.out.at.below (Below.refl _ _).drew).below hbx) hox.at).mono ?_; rintro e w9 ⟨rfl, hby⟩; obtain ⟨hc', hf'⟩ := bcell hby; have hc := fun b o (h : b < w7.drew.heap.size) => (hc' b o (Nat.lt_of_lt_of_le h hbx.size)).trans (hc b o h)))
    have NN := below_step (below_step (Below.refl w7.heap.size w7).drew hbx) hby
    have B_8 := mkHid (below_step B_7.out NN)
    have A0_8 := mkHid (A0_7.out.below NN)
    have A1_8 := mkHid (A1_7.out.below NN)
    have X0_8 := mkHid (X0_7.out.below NN)
    have O0_8 := mkHid (O0_7.out.below NN)
    have X1_8 := mkHid (X1_7.out.below NN)
    have O1_8 := mkHid (O1_7.out.below NN)
    clear NN hc hc' hf hf' hbx hby hox p0 p1 q0 q1 hlx hly B_7 A0_7 A1_7 X0_7 O0_7 X1_7 O1_7
    go_wp2
    go_ret
    exact ⟨rfl, B_8.out⟩

set_option maxRecDepth 100000 in
theorem law_lifted (os : Os) (started : os.Started) (H : Type) (enc : TypeId × Value → H) :
    ReturnsInHanded {} Try.checked os 3 .any (Rows.fnExactFactsLeqSpec.pre6 enc Try.prog Try.f3 Rows.fnExactFactsLeqRow.domain false) (Rows.fnExactFactsLeqSpec.post enc Try.prog Try.f3 false true false false) := by
  refine returnsInHanded_of_change (C := Try.checked) Try.own started (by kernel_rfl) Try.func3
    (ChangeSpec.witness6 (enc := enc) (C := Try.checked) false ⟨#[], #[.agg #[.int .i64 0, .slice none 0 0], .agg #[.int .i64 0, .slice none 0 0]], []⟩ 8 (by kernel_rfl) (by kernel_rfl) (by kernel_rfl) (by kernel_rfl)) ?_
  intro W base args ds gs before hval0 hW hcnd _
  have hval : ∀ (j : Nat) t v, Try.f3.params[j]? = some t → args[j]? = some v → Value.okWide Try.prog W .any base t v := hval0
  have hW' := hW
  obtain ⟨p, q, hA0, hV, rfl, hfz, hnd⟩ := hW
  have hA : DataW.TrodAll enc Try.prog W 0 (fun _ => true) true Try.f3.params.toList args.toList ds p := hA0
  rw [Try.params3] at hA hval
  obtain ⟨v0, vs0, d0, ds0, p0, q0, hargs, rfl, rfl, h0, r0⟩ := trodAll_cons hA
  obtain ⟨v1, vs1, d1, ds1, p1, q1, rfl, rfl, rfl, h1, r1⟩ := trodAll_cons r0
  obtain ⟨rfl, rfl, rfl⟩ := trodAll_nil r1
  obtain rfl : args = #[v0, v1] := by cases args; simp_all
  obtain ⟨rfl, rfl⟩ := trodVars_none hV
  have k0 := h0
  have lt0 : ∀ x ∈ p0, x.block < W.heap.size := by obtain ⟨m, hm⟩ := k0; exact DataW.trod_lt m _ _ _ hm
  have k1 := h1
  have lt1 : ∀ x ∈ p1, x.block < W.heap.size := by obtain ⟨m, hm⟩ := k1; exact DataW.trod_lt m _ _ _ hm
  obtain ⟨u00, u01, y00, y01, m0, hv0, _, _, hy00, hy01⟩ := open_agg2 Try.underlying24 (by kernel_rfl) Try.cells24 (hval 0 24 v0 rfl rfl) h0
  obtain ⟨z0, e00, _, _⟩ := DataW.trod_int Try.underlying3 hy00
  obtain ⟨a0, c0, l0, e01, hn0, hk0⟩ := open_intsv hy01
  simp at e00
  subst e00 e01 hv0
  obtain ⟨u10, u11, y10, y11, m1, hv1, _, _, hy10, hy11⟩ := open_agg2 Try.underlying24 (by kernel_rfl) Try.cells24 (hval 1 24 v1 rfl rfl) h1
  obtain ⟨z1, e10, _, _⟩ := DataW.trod_int Try.underlying3 hy10
  obtain ⟨a1, c1, l1, e11, hn1, hk1⟩ := open_intsv hy11
  simp at e10
  subst e10 e11 hv1
  clear hA0 hval0
  refine (law_walk z0 l0 a0 c0 z1 l1 a1 c1 W hn0 hk0 hn1 hk1).mono fun e W' ⟨he, bel⟩ => ?_
  subst he
  exact ⟨_, rfl, _, _, _, [], _, [], hW', trodAll_mk1 (shut_bool Try.underlying4 _), (trodAll_cons_mk (Below.trod Try.laidOut (by kernel_rfl) (of_decide_eq_true (by kernel_rfl)) k0 bel lt0) (trodAll_cons_mk (Below.trod Try.laidOut (by kernel_rfl) (of_decide_eq_true (by kernel_rfl)) k1 bel lt1) trodAll_mk0)), rfl, bel.frame _, fun h => by cases h⟩

theorem law_holds : Rows.FnExactFactsLeqSaid :=
  OpenClaim.holds_of_wide 3 Try.f3 rfl rfl rfl rfl rfl rfl rfl ⟨rfl, rfl, rfl, rfl, rfl⟩ rfl rfl rfl rfl rfl (by kernel_rfl) Try.func3 (by kernel_rfl)
    (of_decide_eq_true (by kernel_rfl)) (by unfold Func.isWrapper; first | (rw [if_pos (by decide +kernel)]; kernel_rfl) | (rw [if_neg (by decide +kernel)]; exact ⟨rfl, rfl⟩))
    (fun os started H enc _ => law_lifted os started H enc)

#print axioms law_holds
end Go.Proofs.Ytmaejdomlggopaa
