/-
  FnExactFactsWiden holds at every argument: the program's function answers as the specification's, writes into no argument, and its answer owns its memory. No conditions.
-/
import Derived.Test.YtmaejdomlggopaaWv
import Derived.Test.YtmaejdomlggopaaLo
import Derived.Test.YtmaejdomlggopaaInv
import Derived.Deep.RegionHeld3
namespace Go.Proofs.Ytmaejdomlggopaa
open Go.ChangeShapes Go.WideShapes Go.ChangeAt Go.RowKit Go.Joins

theorem ints_in {w : World} {l : List Int} {g : Nat} (h : IntsAt w (some ⟨g, 0, none⟩) l) : IntsIn w l g 0 := fun i x hi => by
  rcases h with h0 | ⟨b, o, e, hc⟩
  · rw [h0] at hi; simp at hi
  · cases e; exact hc i x hi
theorem ints_lt {w : World} {l : List Int} {g : Nat} (h : IntsAt w (some ⟨g, 0, none⟩) l) : l = [] ∨ g < w.heap.size := by
  cases l with
  | nil => exact .inl rfl
  | cons x t => exact .inr (World.block_lt_of_cell? w _ (ints_in h 0 x rfl))
set_option maxRecDepth 100000 in
set_option maxHeartbeats 6400000 in
theorem law_walk (z0 : Int) (l0 : List Int) (a0 : Option Addr) (c0 : Nat) (z1 : Int) (l1 : List Int) (a1 : Option Addr) (c1 : Nat) (l2 : List Int) (a2 : Option Addr) (c2 : Nat) (w : World) (hn0 : l0.length ≤ maxLen) (hl0 : IntsAt w a0 l0) (hn1 : l1.length ≤ maxLen) (hl1 : IntsAt w a1 l1) (hn2 : l2.length ≤ maxLen) (hl2 : IntsAt w a2 l2) : Calls Try.prog 5 #[.agg #[.int .i64 z0, .slice a0 l0.length c0], .agg #[.int .i64 z1, .slice a1 l1.length c1], .slice a2 l2.length c2] w fun e w' => e = .returned (.bool true) ∧ Below w.heap.size w w' := by
  have HN0 := mkHid hn0
  have HL0 := mkHid hl0
  have HN1 := mkHid hn1
  have HL1 := mkHid hl1
  have HN2 := mkHid hn2
  have HL2 := mkHid hl2
  have B_0 : Hid (Below w.heap.size w ((w.alloc (.cells #[.int .i64 z0, .slice a0 l0.length c0] 24)).alloc (.cells #[.int .i64 z1, .slice a1 l1.length c1] 24))) := mkHid ((((Below.refl w.heap.size w).alloc (Nat.le_refl _) (.cells #[.int .i64 z0, .slice a0 l0.length c0] 24)).alloc (by simp) (.cells #[.int .i64 z1, .slice a1 l1.length c1] 24)))
  have A0_0 : Hid (Fc ((w.alloc (.cells #[.int .i64 z0, .slice a0 l0.length c0] 24)).alloc (.cells #[.int .i64 z1, .slice a1 l1.length c1] 24)) (w.heap.size) z0 a0 l0.length c0) := mkHid (by have := (Fc.new w z0 a0 l0.length c0 24).below ((Below.refl _ _).alloc (Nat.le_refl _) (.cells #[.int .i64 z1, .slice a1 l1.length c1] 24)); simpa using this)
  have A1_0 : Hid (Fc ((w.alloc (.cells #[.int .i64 z0, .slice a0 l0.length c0] 24)).alloc (.cells #[.int .i64 z1, .slice a1 l1.length c1] 24)) (w.heap.size + 1) z1 a1 l1.length c1) := mkHid (by have := Fc.new (w.alloc (.cells #[.int .i64 z0, .slice a0 l0.length c0] 24)) z1 a1 l1.length c1 24; simpa using this)
  obtain ⟨rz, hrz⟩ : ∃ rz, (widR z0 l0 z1 l1 l2).1 = rz := ⟨_, rfl⟩
  obtain ⟨rl, hrl⟩ : ∃ rl, (widR z0 l0 z1 l1 l2).2 = rl := ⟨_, rfl⟩
  have hlen : rl.length ≤ 169 := by rw [← hrl]; exact widR_len z0 l0 z1 l1 l2
  have HM : Hid (rl.length ≤ maxLen) := mkHid (by unfold maxLen; omega)
  have HLE := mkHid hlen
  have HS : Hid (∀ (a0 : Option Addr) (a1 : Option Addr) (a2 : Nat) (v : World), IntsAt v a0 l0 → IntsAt v a1 l1 → IntsAt v (some ⟨a2, 0, none⟩) l2 → Calls Try.prog 22 #[.agg #[.int .i64 z0, .slice a0 l0.length l0.length], .agg #[.int .i64 z1, .slice a1 l1.length l1.length], .slice (some ⟨a2, 0, none⟩) l2.length l2.length] v fun e w' => Gives v w' e rz rl) := mkHid fun a0 a1 a2 v h0 h1 h2 => by rw [← hrz, ← hrl]; exact sWiden_any z0 l0 a0 _ z1 l1 a1 _ l2 a2 _ v HN2.out h0 h1 (ints_in h2)
  have HI : Hid (∀ (a0 : Option Addr) (a1 : Option Addr) (a2 : Nat) (v : World), IntsAt v a0 l0 → IntsAt v a1 l1 → IntsAt v (some ⟨a2, 0, none⟩) l2 → Calls Try.prog 24 #[.agg #[.int .i64 z0, .slice a0 l0.length l0.length], .agg #[.int .i64 z1, .slice a1 l1.length l1.length], .slice (some ⟨a2, 0, none⟩) l2.length l2.length] v fun e w' => Gives v w' e rz rl) := mkHid fun a0 a1 a2 v h0 h1 h2 => by rw [← hrz, ← hrl]; exact iWiden_any z0 l0 a0 _ z1 l1 a1 _ l2 a2 _ v (ints_lt h2) HN2.out (Nat.le_refl _) (Nat.le_refl _) h0 h1 (ints_in h2)
  clear hn0 hl0 hn1 hl1 hn2 hl2 hrz hrl hlen
  go_enter Try.func5, Try.ntmps5
  by_cases hbig2 : (1048576 : Int) < (l2.length : Int)
  · go_wp2
    go_ret
    exact ⟨rfl, B_0.out⟩
  have HZZ2 : Hid (l2.length ≤ 1048576) := mkHid (by omega)
  obtain ⟨p0, p1⟩ := A0_0.out
  go_wp2_with fail
  refine (szFacts_any z0 a0 l0.length c0 1048576 _ HN0.out (by omega) (by omega)).mono ?_
  rintro e w1 ⟨rfl, hb⟩
  have B_1 := mkHid (below_step B_0.out hb)
  have A0_1 := mkHid (A0_0.out.below hb)
  have A1_1 := mkHid (A1_0.out.below hb)
  clear hb p0 p1 B_0 A0_0 A1_0
  obtain ⟨rs0, hr⟩ : ∃ r, szR 1048576 l0.length = r := ⟨_, rfl⟩
  have HQ0 : Hid (¬ rs0 < 0 → l0.length ≤ 1048576 ∧ 0 ≤ rs0 ∧ rs0 ≤ 1048576) := mkHid fun h => by unfold szR at hr; split at hr <;> omega
  rw [hr]
  clear hr
  by_cases hneg0 : rs0 < 0
  · go_wp2
    go_ret
    exact ⟨rfl, B_1.out⟩
  obtain ⟨hz0a, hz0b, hz0c⟩ := HQ0.out hneg0
  have HZZ0 := mkHid hz0a
  clear HQ0
  obtain ⟨p0, p1⟩ := A1_1.out
  go_wp2_with fail
  refine (szFacts_any z1 a1 l1.length c1 rs0 _ HN1.out hz0b hz0c).mono ?_
  rintro e w2 ⟨rfl, hb⟩
  have B_2 := mkHid (below_step B_1.out hb)
  have A0_2 := mkHid (A0_1.out.below hb)
  have A1_2 := mkHid (A1_1.out.below hb)
  clear hb p0 p1 B_1 A0_1 A1_1
  obtain ⟨rs1, hr⟩ : ∃ r, szR rs0 l1.length = r := ⟨_, rfl⟩
  have HQ1 : Hid (¬ rs1 < 0 → l1.length ≤ 1048576 ∧ 0 ≤ rs1 ∧ rs1 ≤ 1048576) := mkHid fun h => by unfold szR at hr; split at hr <;> omega
  rw [hr]
  clear hr
  by_cases hneg1 : rs1 < 0
  · go_wp2
    go_ret
    exact ⟨rfl, B_2.out⟩
  obtain ⟨hz1a, hz1b, hz1c⟩ := HQ1.out hneg1
  have HZZ1 := mkHid hz1a
  clear HQ1
  have hpl0 : w.heap.size + 1 < w2.heap.size := A1_2.out.lt
  go_wp2_with fail
  refine wp_region_inv2 (fun zA0 L zA vs => ∃ (zB : Nat → Bool) (zS : Nat → Value) (gs1 : Nat) (gs3 : Nat) (gs5 : Nat) (sa : Option Addr) (sc : Nat) (X : Nat), L = #[zB 0, zB 1, zB 2, zB 3, zB 4, zB 5, zB 6, zB 7, zB 8] ∧ zA = puts zA0 [(30, zS 30), (31, zS 31), (32, zS 32), (33, zS 33), (34, zS 34), (35, zS 35), (36, zS 36), (8, zS 8)] ∧ ((zB 0 = true → zS 30 = .agg #[.int .i64 z0, .slice a0 l0.length c0]) ∧ (zB 1 = true → zS 31 = .agg #[.int .i64 z0, .slice (some ⟨gs1, 0, none⟩) l0.length l0.length]) ∧ (zB 2 = true → zS 32 = .agg #[.int .i64 z1, .slice a1 l1.length c1]) ∧ (zB 3 = true → zS 33 = .agg #[.int .i64 z1, .slice (some ⟨gs3, 0, none⟩) l1.length l1.length]) ∧ (zB 4 = true → zS 34 = .slice a2 l2.length c2) ∧ (zB 5 = true → zS 35 = .slice (some ⟨gs5, 0, none⟩) l2.length l2.length) ∧ (zB 6 = true → zS 36 = .agg #[.int .i64 rz, .slice sa rl.length sc]) ∧ (zB 7 = true → zS 8 = .pointer (some ⟨X, 0, none⟩))) ∧ Cal w2 (zB 6) (zB 7) (zB 8) X sa sc rz rl vs ∧ ((zB 1) = true → (zB 6) = false → IntsAt vs (some ⟨gs1, 0, none⟩) l0) ∧ ((zB 3) = true → (zB 6) = false → IntsAt vs (some ⟨gs3, 0, none⟩) l1) ∧ ((zB 5) = true → (zB 6) = false → IntsAt vs (some ⟨gs5, 0, none⟩) l2)) (by kernel_rfl) ?_ ?_ ?_
  · exact ⟨fun _ => false, fun _ => undef, 0, 0, 0, none, 0, 0, rfl, by kernel_rfl, ⟨fun e => ft e, fun e => ft e, fun e => ft e, fun e => ft e, fun e => ft e, fun e => ft e, fun e => ft e, fun e => ft e⟩, ⟨Cal.start (Below.refl _ _).drew, fun e => ft e, fun e => ft e, fun e => ft e⟩⟩
  · refine StepsI.cons rfl ?_ ?_
    · rintro L zA vs ⟨zB, zS, gs1, gs3, gs5, sa, sc, X, rfl, rfl, hF, hW⟩ hL hm K hK
      have hb0 : zB 0 = false := by simpa using hL
      clear hL hm
      simp only [puts, Act.put, List.setIfInBounds_toArray, List.set_cons_zero, List.set_cons_succ]
      obtain ⟨hC, k1, k3, k5⟩ := hW
      obtain ⟨q0, q1⟩ := A0_2.out.below hC.bel
      go_simp
      exact hK.out _ _ ⟨fun zj => if zj = 0 then true else zB zj, fun zd => if zd = 30 then .agg #[.int .i64 z0, .slice a0 l0.length c0] else zS zd, gs1, gs3, gs5, sa, sc, X, rfl, by kernel_rfl, ⟨fun _ => rfl, hF.2.1, hF.2.2.1, hF.2.2.2.1, hF.2.2.2.2.1, hF.2.2.2.2.2.1, hF.2.2.2.2.2.2.1, hF.2.2.2.2.2.2.2⟩, ⟨hC, k1, k3, k5⟩⟩
    refine StepsI.cons rfl ?_ ?_
    · rintro L zA vs ⟨zB, zS, gs1, gs3, gs5, sa, sc, X, rfl, rfl, hF, hW⟩ hL hm K hK
      have hb1 : zB 1 = false := by simpa using hL
      have hb0 : zB 0 = true := by cases e : zB 0 with | false => (exfalso; revert hm; simp [metB, Region.binds, e]) | true => rfl
      have e0 : zS 30 = .agg #[.int .i64 z0, .slice a0 l0.length c0] := hF.1 hb0
      clear hL hm
      rw [hb1] at hW
      simp only [puts, Act.put, List.setIfInBounds_toArray, List.set_cons_zero, List.set_cons_succ]
      simp only [e0]
      obtain ⟨hC, k1, k3, k5⟩ := hW
      go_simp
      refine (toFacts_any z0 l0 a0 c0 _ HZZ0.out (HL0.out.below (below_step B_2.out hC.bel))).mono ?_
      rintro e v2 ⟨gn, rfl, ho, hb⟩
      go_wp2_with fail
      exact hK.out _ _ ⟨fun zj => if zj = 0 then true else if zj = 1 then true else zB zj, fun zd => if zd = 31 then .agg #[.int .i64 z0, .slice (some ⟨gn, 0, none⟩) l0.length l0.length] else if zd = 30 then .agg #[.int .i64 z0, .slice a0 l0.length c0] else zS zd, gn, gs3, gs5, sa, sc, X, by simp [hb0], by kernel_rfl, ⟨fun _ => rfl, fun _ => rfl, hF.2.2.1, hF.2.2.2.1, hF.2.2.2.2.1, hF.2.2.2.2.2.1, hF.2.2.2.2.2.2.1, hF.2.2.2.2.2.2.2⟩, ⟨hC.below hb, fun _ _ => ho.at, fun e e2 => (k3 e e2).below hb, fun e e2 => (k5 e e2).below hb⟩⟩
    refine StepsI.cons rfl ?_ ?_
    · rintro L zA vs ⟨zB, zS, gs1, gs3, gs5, sa, sc, X, rfl, rfl, hF, hW⟩ hL hm K hK
      have hb2 : zB 2 = false := by simpa using hL
      clear hL hm
      simp only [puts, Act.put, List.setIfInBounds_toArray, List.set_cons_zero, List.set_cons_succ]
      obtain ⟨hC, k1, k3, k5⟩ := hW
      obtain ⟨q0, q1⟩ := A1_2.out.below hC.bel
      go_simp
      exact hK.out _ _ ⟨fun zj => if zj = 2 then true else zB zj, fun zd => if zd = 32 then .agg #[.int .i64 z1, .slice a1 l1.length c1] else zS zd, gs1, gs3, gs5, sa, sc, X, rfl, by kernel_rfl, ⟨hF.1, hF.2.1, fun _ => rfl, hF.2.2.2.1, hF.2.2.2.2.1, hF.2.2.2.2.2.1, hF.2.2.2.2.2.2.1, hF.2.2.2.2.2.2.2⟩, ⟨hC, k1, k3, k5⟩⟩
    refine StepsI.cons rfl ?_ ?_
    · rintro L zA vs ⟨zB, zS, gs1, gs3, gs5, sa, sc, X, rfl, rfl, hF, hW⟩ hL hm K hK
      have hb3 : zB 3 = false := by simpa using hL
      have hb2 : zB 2 = true := by cases e : zB 2 with | false => (exfalso; revert hm; simp [metB, Region.binds, e]) | true => rfl
      have e2 : zS 32 = .agg #[.int .i64 z1, .slice a1 l1.length c1] := hF.2.2.1 hb2
      clear hL hm
      rw [hb3] at hW
      simp only [puts, Act.put, List.setIfInBounds_toArray, List.set_cons_zero, List.set_cons_succ]
      simp only [e2]
      obtain ⟨hC, k1, k3, k5⟩ := hW
      go_simp
      refine (toFacts_any z1 l1 a1 c1 _ HZZ1.out (HL1.out.below (below_step B_2.out hC.bel))).mono ?_
      rintro e v2 ⟨gn, rfl, ho, hb⟩
      go_wp2_with fail
      exact hK.out _ _ ⟨fun zj => if zj = 2 then true else if zj = 3 then true else zB zj, fun zd => if zd = 33 then .agg #[.int .i64 z1, .slice (some ⟨gn, 0, none⟩) l1.length l1.length] else if zd = 32 then .agg #[.int .i64 z1, .slice a1 l1.length c1] else zS zd, gs1, gn, gs5, sa, sc, X, by simp [hb2], by kernel_rfl, ⟨hF.1, hF.2.1, fun _ => rfl, fun _ => rfl, hF.2.2.2.2.1, hF.2.2.2.2.2.1, hF.2.2.2.2.2.2.1, hF.2.2.2.2.2.2.2⟩, ⟨hC.below hb, fun e e2 => (k1 e e2).below hb, fun _ _ => ho.at, fun e e2 => (k5 e e2).below hb⟩⟩
    refine StepsI.cons rfl ?_ ?_
    · rintro L zA vs ⟨zB, zS, gs1, gs3, gs5, sa, sc, X, rfl, rfl, hF, hW⟩ hL hm K hK
      have hb4 : zB 4 = false := by simpa using hL
      clear hL hm
      simp only [puts, Act.put, List.setIfInBounds_toArray, List.set_cons_zero, List.set_cons_succ]
      obtain ⟨hC, k1, k3, k5⟩ := hW
      go_simp
      exact hK.out _ _ ⟨fun zj => if zj = 4 then true else zB zj, fun zd => if zd = 34 then .slice a2 l2.length c2 else zS zd, gs1, gs3, gs5, sa, sc, X, rfl, by kernel_rfl, ⟨hF.1, hF.2.1, hF.2.2.1, hF.2.2.2.1, fun _ => rfl, hF.2.2.2.2.2.1, hF.2.2.2.2.2.2.1, hF.2.2.2.2.2.2.2⟩, ⟨hC, k1, k3, k5⟩⟩
    refine StepsI.cons rfl ?_ ?_
    · rintro L zA vs ⟨zB, zS, gs1, gs3, gs5, sa, sc, X, rfl, rfl, hF, hW⟩ hL hm K hK
      have hb5 : zB 5 = false := by simpa using hL
      have hb4 : zB 4 = true := by cases e : zB 4 with | false => (exfalso; revert hm; simp [metB, Region.binds, e]) | true => rfl
      have e4 : zS 34 = .slice a2 l2.length c2 := hF.2.2.2.2.1 hb4
      clear hL hm
      rw [hb5] at hW
      simp only [puts, Act.put, List.setIfInBounds_toArray, List.set_cons_zero, List.set_cons_succ]
      simp only [e4]
      obtain ⟨hC, k1, k3, k5⟩ := hW
      go_simp
      refine (toIntS_any l2 a2 c2 _ HZZ2.out (HL2.out.below (below_step B_2.out hC.bel))).mono ?_
      rintro e v2 ⟨gn, rfl, ho, hb⟩
      go_wp2_with fail
      exact hK.out _ _ ⟨fun zj => if zj = 4 then true else if zj = 5 then true else zB zj, fun zd => if zd = 35 then .slice (some ⟨gn, 0, none⟩) l2.length l2.length else if zd = 34 then .slice a2 l2.length c2 else zS zd, gs1, gs3, gn, sa, sc, X, by simp [hb4], by kernel_rfl, ⟨hF.1, hF.2.1, hF.2.2.1, hF.2.2.2.1, fun _ => rfl, fun _ => rfl, hF.2.2.2.2.2.2.1, hF.2.2.2.2.2.2.2⟩, ⟨hC.below hb, fun e e2 => (k1 e e2).below hb, fun e e2 => (k3 e e2).below hb, fun _ _ => ho.at⟩⟩
    refine StepsI.cons rfl ?_ ?_
    · rintro L zA vs ⟨zB, zS, gs1, gs3, gs5, sa, sc, X, rfl, rfl, hF, hW⟩ hL hm K hK
      have hb6 : zB 6 = false := by simpa using hL
      have hb1 : zB 1 = true := by cases e : zB 1 with | false => (exfalso; revert hm; simp [metB, Region.binds, e]) | true => rfl
      have hb3 : zB 3 = true := by cases e : zB 3 with | false => (exfalso; revert hm; simp [metB, Region.binds, e]) | true => rfl
      have hb5 : zB 5 = true := by cases e : zB 5 with | false => (exfalso; revert hm; simp [metB, Region.binds, e]) | true => rfl
      have e1 : zS 31 = .agg #[.int .i64 z0, .slice (some ⟨gs1, 0, none⟩) l0.length l0.length] := hF.2.1 hb1
      have e3 : zS 33 = .agg #[.int .i64 z1, .slice (some ⟨gs3, 0, none⟩) l1.length l1.length] := hF.2.2.2.1 hb3
      have e5 : zS 35 = .slice (some ⟨gs5, 0, none⟩) l2.length l2.length := hF.2.2.2.2.2.1 hb5
      clear hL hm
      rw [hb6] at hW
      rw [hb1] at hW
      rw [hb3] at hW
      rw [hb5] at hW
      simp only [puts, Act.put, List.setIfInBounds_toArray, List.set_cons_zero, List.set_cons_succ]
      simp only [e1, e3, e5]
      obtain ⟨hC, k1, k3, k5⟩ := hW
      go_simp
      refine (HS.out _ _ _ _ (k1 rfl rfl) (k3 rfl rfl) (k5 rfl rfl)).mono ?_
      rintro e v2 ⟨sa2, sc2, rfl, so, hb⟩
      go_wp2_with fail
      exact hK.out _ _ ⟨fun zj => if zj = 5 then true else if zj = 3 then true else if zj = 1 then true else if zj = 6 then true else zB zj, fun zd => if zd = 36 then .agg #[.int .i64 rz, .slice sa2 rl.length sc2] else if zd = 35 then .slice (some ⟨gs5, 0, none⟩) l2.length l2.length else if zd = 33 then .agg #[.int .i64 z1, .slice (some ⟨gs3, 0, none⟩) l1.length l1.length] else if zd = 31 then .agg #[.int .i64 z0, .slice (some ⟨gs1, 0, none⟩) l0.length l0.length] else zS zd, gs1, gs3, gs5, sa2, sc2, X, by simp [hb1, hb3, hb5], by kernel_rfl, ⟨hF.1, fun _ => rfl, hF.2.2.1, fun _ => rfl, hF.2.2.2.2.1, fun _ => rfl, fun _ => rfl, hF.2.2.2.2.2.2.2⟩, ⟨hC.called so hb, fun _ e => tf e, fun _ e => tf e, fun _ e => tf e⟩⟩
    refine StepsI.cons rfl ?_ ?_
    · rintro L zA vs ⟨zB, zS, gs1, gs3, gs5, sa, sc, X, rfl, rfl, hF, hW⟩ hL hm K hK
      have hb7 : zB 7 = false := by simpa using hL
      clear hL hm
      rw [hb7] at hW
      simp only [puts, Act.put, List.setIfInBounds_toArray, List.set_cons_zero, List.set_cons_succ]
      obtain ⟨hC, k1, k3, k5⟩ := hW
      go_simp
      exact hK.out _ _ ⟨fun zj => if zj = 7 then true else zB zj, fun zd => if zd = 8 then .pointer (some ⟨vs.heap.size, 0, none⟩) else zS zd, gs1, gs3, gs5, sa, sc, vs.heap.size, rfl, by kernel_rfl, ⟨hF.1, hF.2.1, hF.2.2.1, hF.2.2.2.1, hF.2.2.2.2.1, hF.2.2.2.2.2.1, hF.2.2.2.2.2.2.1, fun _ => rfl⟩, ⟨hC.alloc, fun e e2 => (k1 e e2).below ((Below.refl _ _).alloc (Nat.le_refl _) _), fun e e2 => (k3 e e2).below ((Below.refl _ _).alloc (Nat.le_refl _) _), fun e e2 => (k5 e e2).below ((Below.refl _ _).alloc (Nat.le_refl _) _)⟩⟩
    refine StepsI.cons rfl ?_ ?_
    · rintro L zA vs ⟨zB, zS, gs1, gs3, gs5, sa, sc, X, rfl, rfl, hF, hW⟩ hL hm K hK
      have hb8 : zB 8 = false := by simpa using hL
      have hb6 : zB 6 = true := by cases e : zB 6 with | false => (exfalso; revert hm; simp [metB, Region.binds, e]) | true => rfl
      have hb7 : zB 7 = true := by cases e : zB 7 with | false => (exfalso; revert hm; simp [metB, Region.binds, e]) | true => rfl
      have e6 : zS 36 = .agg #[.int .i64 rz, .slice sa rl.length sc] := hF.2.2.2.2.2.2.1 hb6
      have e7 : zS 8 = .pointer (some ⟨X, 0, none⟩) := hF.2.2.2.2.2.2.2 hb7
      clear hL hm
      rw [hb8] at hW
      rw [hb6] at hW
      rw [hb7] at hW
      simp only [puts, Act.put, List.setIfInBounds_toArray, List.set_cons_zero, List.set_cons_succ]
      simp only [e6, e7]
      obtain ⟨hC, k1, k3, k5⟩ := hW
      obtain ⟨⟨y0, y1⟩, y2, y3⟩ := (hC.box rfl).2.1 rfl
      go_simp
      exact hK.out _ _ ⟨fun zj => if zj = 7 then true else if zj = 6 then true else if zj = 8 then true else zB zj, fun zd => if zd = 8 then .pointer (some ⟨X, 0, none⟩) else if zd = 36 then .agg #[.int .i64 rz, .slice sa rl.length sc] else zS zd, gs1, gs3, gs5, sa, sc, X, by simp [hb6, hb7], by kernel_rfl, ⟨hF.1, hF.2.1, hF.2.2.1, hF.2.2.2.1, hF.2.2.2.2.1, hF.2.2.2.2.2.1, fun _ => rfl, fun _ => rfl⟩, ⟨hC.store, fun _ e => tf e, fun _ e => tf e, fun _ e => tf e⟩⟩
    exact StepsI.nil (by kernel_rfl)
  · rintro L zA vs ⟨zB, zS, gs1, gs3, gs5, sa, sc, X, rfl, rfl, hF, hW⟩ hr
    have hu := all_up (by kernel_rfl) (N := 9) (by kernel_rfl) hr
    have hb0 : zB 0 = true := by simpa using hu 0 (by decide)
    have hb1 : zB 1 = true := by simpa using hu 1 (by decide)
    have hb2 : zB 2 = true := by simpa using hu 2 (by decide)
    have hb3 : zB 3 = true := by simpa using hu 3 (by decide)
    have hb4 : zB 4 = true := by simpa using hu 4 (by decide)
    have hb5 : zB 5 = true := by simpa using hu 5 (by decide)
    have hb6 : zB 6 = true := by simpa using hu 6 (by decide)
    have hb7 : zB 7 = true := by simpa using hu 7 (by decide)
    have hb8 : zB 8 = true := by simpa using hu 8 (by decide)
    have e0 : zS 30 = .agg #[.int .i64 z0, .slice a0 l0.length c0] := hF.1 hb0
    have e1 : zS 31 = .agg #[.int .i64 z0, .slice (some ⟨gs1, 0, none⟩) l0.length l0.length] := hF.2.1 hb1
    have e2 : zS 32 = .agg #[.int .i64 z1, .slice a1 l1.length c1] := hF.2.2.1 hb2
    have e3 : zS 33 = .agg #[.int .i64 z1, .slice (some ⟨gs3, 0, none⟩) l1.length l1.length] := hF.2.2.2.1 hb3
    have e4 : zS 34 = .slice a2 l2.length c2 := hF.2.2.2.2.1 hb4
    have e5 : zS 35 = .slice (some ⟨gs5, 0, none⟩) l2.length l2.length := hF.2.2.2.2.2.1 hb5
    have e6 : zS 36 = .agg #[.int .i64 rz, .slice sa rl.length sc] := hF.2.2.2.2.2.2.1 hb6
    have e7 : zS 8 = .pointer (some ⟨X, 0, none⟩) := hF.2.2.2.2.2.2.2 hb7
    rw [hb1] at hW
    rw [hb3] at hW
    rw [hb5] at hW
    rw [hb6] at hW
    rw [hb7] at hW
    rw [hb8] at hW
    clear hu hr hF
    simp only [puts, Act.put, List.setIfInBounds_toArray, List.set_cons_zero, List.set_cons_succ]
    simp only [e0, e1, e2, e3, e4, e5, e6, e7]
    clear e0 e1 e2 e3 e4 e5 e6 e7
    clear hb0 hb1 hb2 hb3 hb4 hb5 hb6 hb7 hb8
    clear zB zS
    obtain ⟨hC, k1, k3, k5⟩ := hW
    skip
    obtain ⟨hbel, hX0, hXf, so, hXn⟩ := hC.all
    clear hC k1 k3 k5
    obtain ⟨bz, hbz⟩ : ∃ bz, vs.heap.size = bz := ⟨_, rfl⟩
    skip
    have hwz : X < bz := by have := hXf.lt; omega
    have hw1 : w.heap.size + 1 < X := by omega
    have SL : Hid (∀ q, Value.ownBlock (.slice sa rl.length sc) = some q → w.heap.size + 1 < q ∧ q < bz) := mkHid fun q hq => by have h1 := so.lt hq; omega
    have B_3 := mkHid (below_step B_2.out hbel)
    have A0_3 := mkHid (A0_2.out.below hbel)
    have A1_3 := mkHid (A1_2.out.below hbel)
    clear hbel hX0 hpl0 B_2 A0_2 A1_2
    have W_3 := mkHid (hXf)
    have S_3 := mkHid (so)
    clear hXf so hXn
    obtain ⟨p0, p1⟩ := A0_3.out
    skip
    go_wp2_with fail
    refine (toFacts_any z0 l0 a0 c0 _ HZZ0.out (HL0.out.below B_3.out)).mono ?_
    rintro e w3 ⟨cp0, rfl, ho, hb⟩
    obtain ⟨bx0, hbx0⟩ : ∃ b, w3.heap.size = b := ⟨_, rfl⟩
    have hx0 : bz ≤ cp0 ∧ cp0 < bx0 := by have h1 := ho.base_le; have h2 := ho.lt (q := cp0) rfl; omega
    have AL := (Below.refl w3.heap.size w3).alloc (Nat.le_refl _) (.cells #[.int .i64 z0, .slice (some ⟨cp0, 0, none⟩) l0.length l0.length] 27)
    have B_4 := mkHid ((below_step B_3.out hb).alloc (below_step B_3.out hb).size (.cells #[.int .i64 z0, .slice (some ⟨cp0, 0, none⟩) l0.length l0.length] 27))
    have A0_4 := mkHid ((A0_3.out.below hb).below AL)
    have A1_4 := mkHid ((A1_3.out.below hb).below AL)
    have W_4 := mkHid ((W_3.out.below hb).below AL)
    have S_4 := mkHid ((S_3.out.below hb).below AL)
    clear hb p0 p1 hbz B_3 A0_3 A1_3 W_3 S_3
    have X0_4 := mkHid (Fc.new w3 z0 (some ⟨cp0, 0, none⟩) l0.length l0.length 27)
    rw [hbx0] at X0_4
    have O0_4 := mkHid (ho.below AL)
    clear ho AL
    obtain ⟨p0, p1⟩ := A1_4.out
    have s0 := X0_4.out.lt
    go_wp2_with fail
    refine (toFacts_any z1 l1 a1 c1 _ HZZ1.out (HL1.out.below B_4.out)).mono ?_
    rintro e w4 ⟨cp1, rfl, ho, hb⟩
    obtain ⟨bx1, hbx1⟩ : ∃ b, w4.heap.size = b := ⟨_, rfl⟩
    have hx1 : bx0 + 1 ≤ cp1 ∧ cp1 < bx1 := by have h1 := ho.base_le; have h2 := ho.lt (q := cp1) rfl; omega
    have AL := (Below.refl w4.heap.size w4).alloc (Nat.le_refl _) (.cells #[.int .i64 z1, .slice (some ⟨cp1, 0, none⟩) l1.length l1.length] 27)
    have B_5 := mkHid ((below_step B_4.out hb).alloc (below_step B_4.out hb).size (.cells #[.int .i64 z1, .slice (some ⟨cp1, 0, none⟩) l1.length l1.length] 27))
    have A0_5 := mkHid ((A0_4.out.below hb).below AL)
    have A1_5 := mkHid ((A1_4.out.below hb).below AL)
    have W_5 := mkHid ((W_4.out.below hb).below AL)
    have S_5 := mkHid ((S_4.out.below hb).below AL)
    have X0_5 := mkHid ((X0_4.out.below hb).below AL)
    have O0_5 := mkHid ((O0_4.out.below hb).below AL)
    clear hb p0 p1 s0 B_4 A0_4 A1_4 W_4 S_4 X0_4 O0_4
    have X1_5 := mkHid (Fc.new w4 z1 (some ⟨cp1, 0, none⟩) l1.length l1.length 27)
    rw [hbx1] at X1_5
    have O1_5 := mkHid (ho.below AL)
    clear ho AL
    go_wp2_with fail
    have s0 := X1_5.out.lt
    refine (toIntS_any l2 a2 c2 _ HZZ2.out (HL2.out.below B_5.out)).mono ?_
    rintro e w5 ⟨cp2, rfl, ho, hb⟩
    obtain ⟨bx2, hbx2⟩ : ∃ b, w5.heap.size = b := ⟨_, rfl⟩
    have hx2 : bx1 + 1 ≤ cp2 ∧ cp2 < bx2 := by have h1 := ho.base_le; have h2 := ho.lt (q := cp2) rfl; omega
    have B_6 := mkHid (below_step B_5.out hb)
    have A0_6 := mkHid (A0_5.out.below hb)
    have A1_6 := mkHid (A1_5.out.below hb)
    have W_6 := mkHid (W_5.out.below hb)
    have S_6 := mkHid (S_5.out.below hb)
    have X0_6 := mkHid (X0_5.out.below hb)
    have O0_6 := mkHid (O0_5.out.below hb)
    have X1_6 := mkHid (X1_5.out.below hb)
    have O1_6 := mkHid (O1_5.out.below hb)
    clear hb s0 B_5 A0_5 A1_5 W_5 S_5 X0_5 O0_5 X1_5 O1_5
    have O2_6 := mkHid (ho)
    clear ho
    obtain ⟨q00, q01⟩ := X0_6.out
    obtain ⟨q10, q11⟩ := X1_6.out
    go_wp2_with fail
    refine (HI.out _ _ _ _ O0_6.out.at O1_6.out.at O2_6.out.at).mono ?_
    rintro e w6 ⟨ga, gc, rfl, go, hb⟩
    obtain ⟨bg, hbg⟩ : ∃ bg, w6.heap.size = bg := ⟨_, rfl⟩
    have GL : Hid (∀ q, Value.ownBlock (.slice ga rl.length gc) = some q → bx2 ≤ q ∧ q < bg) := mkHid fun q hq => by have h1 := go.lt hq; (try simp at h1); omega
    have s5 : bx2 ≤ bg := by have := hb.size; (try simp at this); omega
    have AL := (Below.refl w6.heap.size w6).alloc (Nat.le_refl _) (.cells #[.int .i64 rz, .slice ga rl.length gc] 27)
    have B_7 := mkHid ((below_step B_6.out hb).alloc (below_step B_6.out hb).size (.cells #[.int .i64 rz, .slice ga rl.length gc] 27))
    have A0_7 := mkHid ((A0_6.out.below hb).below AL)
    have A1_7 := mkHid ((A1_6.out.below hb).below AL)
    have W_7 := mkHid ((W_6.out.below hb).below AL)
    have S_7 := mkHid ((S_6.out.below hb).below AL)
    have X0_7 := mkHid ((X0_6.out.below hb).below AL)
    have O0_7 := mkHid ((O0_6.out.below hb).below AL)
    have X1_7 := mkHid ((X1_6.out.below hb).below AL)
    have O1_7 := mkHid ((O1_6.out.below hb).below AL)
    have O2_7 := mkHid ((O2_6.out.below hb).below AL)
    clear hb q00 q01 q10 q11 B_6 A0_6 A1_6 W_6 S_6 X0_6 O0_6 X1_6 O1_6 O2_6
    have G_7 := mkHid (Fc.new w6 rz ga rl.length gc 27)
    rw [hbg] at G_7
    have Q_7 := mkHid (go.below AL)
    clear go AL
    obtain ⟨g0, g1⟩ := G_7.out
    obtain ⟨v0, v1⟩ := W_7.out
    go_wp2_with fail
    refine (eqFacts_ok rz rl ga sa gc sc _ HM.out Q_7.out.at S_7.out.at).mono ?_
    rintro e w7 ⟨rfl, hb⟩
    have B_8 := mkHid (below_step B_7.out hb)
    have A0_8 := mkHid (A0_7.out.below hb)
    have A1_8 := mkHid (A1_7.out.below hb)
    have W_8 := mkHid (W_7.out.below hb)
    have S_8 := mkHid (S_7.out.below hb)
    have X0_8 := mkHid (X0_7.out.below hb)
    have O0_8 := mkHid (O0_7.out.below hb)
    have X1_8 := mkHid (X1_7.out.below hb)
    have O1_8 := mkHid (O1_7.out.below hb)
    have O2_8 := mkHid (O2_7.out.below hb)
    have G_8 := mkHid (G_7.out.below hb)
    have Q_8 := mkHid (Q_7.out.below hb)
    clear hb g0 g1 v0 v1 hbx0 hbx1 hbx2 hbg B_7 A0_7 A1_7 W_7 S_7 X0_7 O0_7 X1_7 O1_7 O2_7 G_7 Q_7
    obtain ⟨p0, p1⟩ := A0_8.out
    obtain ⟨q0, q1⟩ := X0_8.out
    have hlx := A0_8.out.lt
    have hly := X0_8.out.lt
    go_wp2_with fail
    go_region_held3 (fun w' => w'.cell? ⟨w.heap.size, 0, none⟩ = some (.int .i64 z0) ∧ w'.cell? ⟨w.heap.size, 1, none⟩ = some (.slice a0 l0.length c0) ∧ w'.cell? ⟨bx0, 0, none⟩ = some (.int .i64 z0) ∧ w'.cell? ⟨bx0, 1, none⟩ = some (.slice (some ⟨cp0, 0, none⟩) l0.length l0.length))
      (first | exact ⟨p0, p1, q0, q1⟩ | exact ⟨(hc _ _ hlx).trans p0, (hc _ _ hlx).trans p1, (hc _ _ hly).trans q0, (hc _ _ hly).trans q1⟩)
      (first | (go_at_call 15; refine (toFacts_any z0 l0 a0 c0 _ HZZ0.out (HL0.out.below B_8.out.drew)).mono ?_; rintro e w8 ⟨gx, rfl, hox, hbx⟩; obtain ⟨hc, hf⟩ := bcell hbx) | (go_at_call 17; refine (eqFacts_ok z0 l0 (some ⟨cp0, 0, none⟩) (some ⟨gx, 0, none⟩) _ _ _ HN0.out ((O0_8.out.at.below (Below.refl _ _).drew).below hbx) hox.at).mono ?_; rintro e w9 ⟨rfl, hby⟩; obtain ⟨hc', hf'⟩ := bcell hby; have hc := fun b o (h : b < w7.drew.heap.size) => (hc' b o (Nat.lt_of_lt_of_le h hbx.size)).trans (hc b o h)))
    have NN := below_step (below_step (Below.refl w7.heap.size w7).drew hbx) hby
    have B_9 := mkHid (below_step B_8.out NN)
    have A0_9 := mkHid (A0_8.out.below NN)
    have A1_9 := mkHid (A1_8.out.below NN)
    have W_9 := mkHid (W_8.out.below NN)
    have S_9 := mkHid (S_8.out.below NN)
    have X0_9 := mkHid (X0_8.out.below NN)
    have O0_9 := mkHid (O0_8.out.below NN)
    have X1_9 := mkHid (X1_8.out.below NN)
    have O1_9 := mkHid (O1_8.out.below NN)
    have O2_9 := mkHid (O2_8.out.below NN)
    have G_9 := mkHid (G_8.out.below NN)
    have Q_9 := mkHid (Q_8.out.below NN)
    clear NN hc hc' hf hf' hbx hby hox p0 p1 q0 q1 hlx hly B_8 A0_8 A1_8 W_8 S_8 X0_8 O0_8 X1_8 O1_8 O2_8 G_8 Q_8
    obtain ⟨p0, p1⟩ := A1_9.out
    obtain ⟨q0, q1⟩ := X1_9.out
    have hlx := A1_9.out.lt
    have hly := X1_9.out.lt
    go_wp2_with fail
    go_region_held3 (fun w' => w'.cell? ⟨w.heap.size + 1, 0, none⟩ = some (.int .i64 z1) ∧ w'.cell? ⟨w.heap.size + 1, 1, none⟩ = some (.slice a1 l1.length c1) ∧ w'.cell? ⟨bx1, 0, none⟩ = some (.int .i64 z1) ∧ w'.cell? ⟨bx1, 1, none⟩ = some (.slice (some ⟨cp1, 0, none⟩) l1.length l1.length))
      (first | exact ⟨p0, p1, q0, q1⟩ | exact ⟨(hc _ _ hlx).trans p0, (hc _ _ hlx).trans p1, (hc _ _ hly).trans q0, (hc _ _ hly).trans q1⟩)
      (first | (go_at_call 15; refine (toFacts_any z1 l1 a1 c1 _ HZZ1.out (HL1.out.below B_9.out.drew)).mono ?_; rintro e w10 ⟨gx, rfl, hox, hbx⟩; obtain ⟨hc, hf⟩ := bcell hbx) | (go_at_call 17; refine (eqFacts_ok z1 l1 (some ⟨cp1, 0, none⟩) (some ⟨gx, 0, none⟩) _ _ _ HN1.out ((O1_9.out.at.below (Below.refl _ _).drew).below hbx) hox.at).mono ?_; rintro e w11 ⟨rfl, hby⟩; obtain ⟨hc', hf'⟩ := bcell hby; have hc := fun b o (h : b < w9.drew.heap.size) => (hc' b o (Nat.lt_of_lt_of_le h hbx.size)).trans (hc b o h)))
    have NN := below_step (below_step (Below.refl w9.heap.size w9).drew hbx) hby
    have B_10 := mkHid (below_step B_9.out NN)
    have A0_10 := mkHid (A0_9.out.below NN)
    have A1_10 := mkHid (A1_9.out.below NN)
    have W_10 := mkHid (W_9.out.below NN)
    have S_10 := mkHid (S_9.out.below NN)
    have X0_10 := mkHid (X0_9.out.below NN)
    have O0_10 := mkHid (O0_9.out.below NN)
    have X1_10 := mkHid (X1_9.out.below NN)
    have O1_10 := mkHid (O1_9.out.below NN)
    have O2_10 := mkHid (O2_9.out.below NN)
    have G_10 := mkHid (G_9.out.below NN)
    have Q_10 := mkHid (Q_9.out.below NN)
    clear NN hc hc' hf hf' hbx hby hox p0 p1 q0 q1 hlx hly B_9 A0_9 A1_9 W_9 S_9 X0_9 O0_9 X1_9 O1_9 O2_9 G_9 Q_9
    go_wp2_with fail
    refine (toIntS_any l2 a2 c2 _ HZZ2.out (HL2.out.below B_10.out)).mono ?_
    rintro e w12 ⟨gx, rfl, hox, hb⟩
    have B_11 := mkHid (below_step B_10.out hb)
    have A0_11 := mkHid (A0_10.out.below hb)
    have A1_11 := mkHid (A1_10.out.below hb)
    have W_11 := mkHid (W_10.out.below hb)
    have S_11 := mkHid (S_10.out.below hb)
    have X0_11 := mkHid (X0_10.out.below hb)
    have O0_11 := mkHid (O0_10.out.below hb)
    have X1_11 := mkHid (X1_10.out.below hb)
    have O1_11 := mkHid (O1_10.out.below hb)
    have O2_11 := mkHid (O2_10.out.below hb)
    have G_11 := mkHid (G_10.out.below hb)
    have Q_11 := mkHid (Q_10.out.below hb)
    clear hb  B_10 A0_10 A1_10 W_10 S_10 X0_10 O0_10 X1_10 O1_10 O2_10 G_10 Q_10
    go_wp2_with fail
    refine (eqIntS_ok l2 _ _ _ _ _ HN2.out O2_11.out.at hox.at).mono ?_
    rintro e w13 ⟨rfl, hb⟩
    have B_12 := mkHid (below_step B_11.out hb)
    have A0_12 := mkHid (A0_11.out.below hb)
    have A1_12 := mkHid (A1_11.out.below hb)
    have W_12 := mkHid (W_11.out.below hb)
    have S_12 := mkHid (S_11.out.below hb)
    have X0_12 := mkHid (X0_11.out.below hb)
    have O0_12 := mkHid (O0_11.out.below hb)
    have X1_12 := mkHid (X1_11.out.below hb)
    have O1_12 := mkHid (O1_11.out.below hb)
    have O2_12 := mkHid (O2_11.out.below hb)
    have G_12 := mkHid (G_11.out.below hb)
    have Q_12 := mkHid (Q_11.out.below hb)
    clear hb hox B_11 A0_11 A1_11 W_11 S_11 X0_11 O0_11 X1_11 O1_11 O2_11 G_11 Q_11
    obtain ⟨q0, q1⟩ := X0_12.out
    go_wp2_with fail
    refine (markFacts_ok z0 l0 (some ⟨cp0, 0, none⟩) _ _ 1 _ (by have := HZZ0.out; omega) (by omega) (by omega) O0_12.out).mono ?_
    rintro e w14 ⟨rfl, _, hg⟩
    clear q0 q1
    have B_13 := mkHid (B_12.out.grown hg B_12.out.size (fun q hq => by have e : cp0 = q := Option.some.inj hq; omega))
    have A0_13 := mkHid (A0_12.out.grown hg (some_ne (by show (w.heap.size) ≠ cp0; omega)))
    have A1_13 := mkHid (A1_12.out.grown hg (some_ne (by show (w.heap.size + 1) ≠ cp0; omega)))
    have W_13 := mkHid (W_12.out.grown hg (some_ne (by show X ≠ cp0; omega)))
    have S_13 := mkHid (S_12.out.grown hg (fun q hq => some_ne (by have := SL.out q hq; show cp0 ≠ q; omega)))
    have X1_13 := mkHid (X1_12.out.grown hg (some_ne (by show bx1 ≠ cp0; omega)))
    have O1_13 := mkHid (O1_12.out.grown hg (fun q hq => some_ne (by have e : cp1 = q := Option.some.inj hq; show cp0 ≠ q; omega)))
    have O2_13 := mkHid (O2_12.out.grown hg (fun q hq => some_ne (by have e : cp2 = q := Option.some.inj hq; show cp0 ≠ q; omega)))
    have G_13 := mkHid (G_12.out.grown hg (some_ne (by show bg ≠ cp0; omega)))
    have Q_13 := mkHid (Q_12.out.grown hg (fun q hq => some_ne (by have := GL.out q hq; show cp0 ≠ q; omega)))
    clear hg B_12 A0_12 A1_12 W_12 S_12 X0_12 O0_12 X1_12 O1_12 O2_12 G_12 Q_12
    obtain ⟨q0, q1⟩ := X1_13.out
    have HK1 : Hid (0 ≤ 1 + (l0.length : Int) ∧ 1 + (l0.length : Int) ≤ 3000000) := mkHid (by have := HZZ0.out; omega)
    obtain ⟨k1, hk1⟩ : ∃ k, 1 + (l0.length : Int) = k := ⟨_, rfl⟩
    rw [hk1] at HK1
    rw [hk1]
    clear hk1
    go_wp2_with fail
    refine (markFacts_ok z1 l1 (some ⟨cp1, 0, none⟩) _ _ k1 _ (by have := HZZ1.out; omega) (by have := HK1.out; omega) (by have := HK1.out; omega) O1_13.out).mono ?_
    rintro e w15 ⟨rfl, _, hg⟩
    clear q0 q1
    have B_14 := mkHid (B_13.out.grown hg B_13.out.size (fun q hq => by have e : cp1 = q := Option.some.inj hq; omega))
    have A0_14 := mkHid (A0_13.out.grown hg (some_ne (by show (w.heap.size) ≠ cp1; omega)))
    have A1_14 := mkHid (A1_13.out.grown hg (some_ne (by show (w.heap.size + 1) ≠ cp1; omega)))
    have W_14 := mkHid (W_13.out.grown hg (some_ne (by show X ≠ cp1; omega)))
    have S_14 := mkHid (S_13.out.grown hg (fun q hq => some_ne (by have := SL.out q hq; show cp1 ≠ q; omega)))
    have O2_14 := mkHid (O2_13.out.grown hg (fun q hq => some_ne (by have e : cp2 = q := Option.some.inj hq; show cp1 ≠ q; omega)))
    have G_14 := mkHid (G_13.out.grown hg (some_ne (by show bg ≠ cp1; omega)))
    have Q_14 := mkHid (Q_13.out.grown hg (fun q hq => some_ne (by have := GL.out q hq; show cp1 ≠ q; omega)))
    clear hg B_13 A0_13 A1_13 W_13 S_13 X1_13 O1_13 O2_13 G_13 Q_13
    have HK2 : Hid (0 ≤ k1 + (l1.length : Int) ∧ k1 + (l1.length : Int) ≤ 6000000) := mkHid (by have := HZZ1.out; have := HK1.out; omega)
    obtain ⟨k2, hk2⟩ : ∃ k, k1 + (l1.length : Int) = k := ⟨_, rfl⟩
    rw [hk2] at HK2
    rw [hk2]
    clear hk2
    go_wp2_with fail
    refine (markIntS_ok l2 (some ⟨cp2, 0, none⟩) _ _ k2 _ (by have := HZZ2.out; omega) (by have := HK2.out; omega) (by have := HK2.out; omega) O2_14.out).mono ?_
    rintro e w16 ⟨rfl, _, hg⟩
    skip
    have B_15 := mkHid (B_14.out.grown hg B_14.out.size (fun q hq => by have e : cp2 = q := Option.some.inj hq; omega))
    have A0_15 := mkHid (A0_14.out.grown hg (some_ne (by show (w.heap.size) ≠ cp2; omega)))
    have A1_15 := mkHid (A1_14.out.grown hg (some_ne (by show (w.heap.size + 1) ≠ cp2; omega)))
    have W_15 := mkHid (W_14.out.grown hg (some_ne (by show X ≠ cp2; omega)))
    have S_15 := mkHid (S_14.out.grown hg (fun q hq => some_ne (by have := SL.out q hq; show cp2 ≠ q; omega)))
    have G_15 := mkHid (G_14.out.grown hg (some_ne (by show bg ≠ cp2; omega)))
    have Q_15 := mkHid (Q_14.out.grown hg (fun q hq => some_ne (by have := GL.out q hq; show cp2 ≠ q; omega)))
    clear hg B_14 A0_14 A1_14 W_14 S_14 O2_14 G_14 Q_14
    have hk : ¬ (k2 + (l2.length : Int) < 0) := by have := HK2.out; omega
    obtain ⟨g0, g1⟩ := G_15.out
    obtain ⟨v0, v1⟩ := W_15.out
    go_wp2_with fail
    refine (eqFacts_ok rz rl ga sa gc sc _ HM.out Q_15.out.at S_15.out.at).mono ?_
    rintro e w17 ⟨rfl, hb⟩
    have B_16 := mkHid (below_step B_15.out hb)
    have A0_16 := mkHid (A0_15.out.below hb)
    have A1_16 := mkHid (A1_15.out.below hb)
    have W_16 := mkHid (W_15.out.below hb)
    have S_16 := mkHid (S_15.out.below hb)
    have G_16 := mkHid (G_15.out.below hb)
    have Q_16 := mkHid (Q_15.out.below hb)
    clear hb g0 g1 v0 v1 B_15 A0_15 A1_15 W_15 S_15 G_15 Q_15
    obtain ⟨g0, g1⟩ := G_16.out
    go_wp2_with fail
    refine (markFacts_ok rz rl ga gc _ 1 _ (by have := HLE.out; omega) (by omega) (by omega) Q_16.out).mono ?_
    rintro e w18 ⟨rfl, go11, hg⟩
    have B_17 := mkHid (B_16.out.grown hg B_16.out.size (fun q hq => by have := GL.out q hq; omega))
    have A0_17 := mkHid (A0_16.out.grown hg (fun e => by have := GL.out _ e.symm; omega))
    have A1_17 := mkHid (A1_16.out.grown hg (fun e => by have := GL.out _ e.symm; omega))
    have W_17 := mkHid (W_16.out.grown hg (fun e => by have := GL.out _ e.symm; omega))
    have S_17 := mkHid (S_16.out.grown hg (fun q hq e => by have h1 := SL.out q hq; have h2 := GL.out q e; omega))
    have G_17 := mkHid (G_16.out.grown hg (fun e => by have := GL.out _ e.symm; omega))
    have Q_17 := mkHid go11
    clear hg go11 g0 g1 B_16 A0_16 A1_16 W_16 S_16 G_16 Q_16
    obtain ⟨g0, g1⟩ := G_17.out
    have hq0 : ¬ (1 + (rl.length : Int) < 0) := by omega
    go_wp2_with fail
    refine (heldFacts_ok rz rl.length ga gc 1 _ (by have := HLE.out; omega) (by omega) (by omega) Q_17.out.at).mono ?_
    rintro e w19 ⟨rfl, hb⟩
    have B_18 := mkHid (below_step B_17.out hb)
    have A0_18 := mkHid (A0_17.out.below hb)
    have A1_18 := mkHid (A1_17.out.below hb)
    have W_18 := mkHid (W_17.out.below hb)
    have S_18 := mkHid (S_17.out.below hb)
    have G_18 := mkHid (G_17.out.below hb)
    have Q_18 := mkHid (Q_17.out.below hb)
    clear hb g0 g1 B_17 A0_17 A1_17 W_17 S_17 G_17 Q_17
    go_wp2_with fail
    refine wp_region_inv2 (fun zA0 L zA vh => ∃ (zB : Nat → Bool) (zS : Nat → Value) (gh1 : Nat) (gh3 : Nat) (gh5 : Nat) (sah : Option Addr) (sch : Nat) (Xh : Nat), L = #[zB 0, zB 1, zB 2, zB 3, zB 4, zB 5, zB 6, zB 7, zB 8] ∧ zA = puts zA0 [(94, zS 94), (95, zS 95), (96, zS 96), (97, zS 97), (98, zS 98), (99, zS 99), (100, zS 100), (16, zS 16)] ∧ ((zB 0 = true → zS 94 = .agg #[.int .i64 z0, .slice a0 l0.length c0]) ∧ (zB 1 = true → zS 95 = .agg #[.int .i64 z0, .slice (some ⟨gh1, 0, none⟩) l0.length l0.length]) ∧ (zB 2 = true → zS 96 = .agg #[.int .i64 z1, .slice a1 l1.length c1]) ∧ (zB 3 = true → zS 97 = .agg #[.int .i64 z1, .slice (some ⟨gh3, 0, none⟩) l1.length l1.length]) ∧ (zB 4 = true → zS 98 = .slice a2 l2.length c2) ∧ (zB 5 = true → zS 99 = .slice (some ⟨gh5, 0, none⟩) l2.length l2.length) ∧ (zB 6 = true → zS 100 = .agg #[.int .i64 rz, .slice sah rl.length sch]) ∧ (zB 7 = true → zS 16 = .pointer (some ⟨Xh, 0, none⟩))) ∧ Cal w19 (zB 6) (zB 7) (zB 8) Xh sah sch rz rl vh ∧ ((zB 1) = true → (zB 6) = false → IntsAt vh (some ⟨gh1, 0, none⟩) l0) ∧ ((zB 3) = true → (zB 6) = false → IntsAt vh (some ⟨gh3, 0, none⟩) l1) ∧ ((zB 5) = true → (zB 6) = false → IntsAt vh (some ⟨gh5, 0, none⟩) l2)) (by kernel_rfl) ?_ ?_ ?_
    · exact ⟨fun _ => false, fun _ => undef, 0, 0, 0, none, 0, 0, rfl, by kernel_rfl, ⟨fun e => ft e, fun e => ft e, fun e => ft e, fun e => ft e, fun e => ft e, fun e => ft e, fun e => ft e, fun e => ft e⟩, ⟨Cal.start (Below.refl _ _).drew, fun e => ft e, fun e => ft e, fun e => ft e⟩⟩
    · refine StepsI.cons rfl ?_ ?_
      · rintro L zA vh ⟨zB, zS, gh1, gh3, gh5, sah, sch, Xh, rfl, rfl, hF, hW⟩ hL hm K hK
        have hb0 : zB 0 = false := by simpa using hL
        clear hL hm
        simp only [puts, Act.put, List.setIfInBounds_toArray, List.set_cons_zero, List.set_cons_succ]
        obtain ⟨hC, k1, k3, k5⟩ := hW
        obtain ⟨q0, q1⟩ := A0_18.out.below hC.bel
        go_simp
        exact hK.out _ _ ⟨fun zj => if zj = 0 then true else zB zj, fun zd => if zd = 94 then .agg #[.int .i64 z0, .slice a0 l0.length c0] else zS zd, gh1, gh3, gh5, sah, sch, Xh, rfl, by kernel_rfl, ⟨fun _ => rfl, hF.2.1, hF.2.2.1, hF.2.2.2.1, hF.2.2.2.2.1, hF.2.2.2.2.2.1, hF.2.2.2.2.2.2.1, hF.2.2.2.2.2.2.2⟩, ⟨hC, k1, k3, k5⟩⟩
      refine StepsI.cons rfl ?_ ?_
      · rintro L zA vh ⟨zB, zS, gh1, gh3, gh5, sah, sch, Xh, rfl, rfl, hF, hW⟩ hL hm K hK
        have hb1 : zB 1 = false := by simpa using hL
        have hb0 : zB 0 = true := by cases e : zB 0 with | false => (exfalso; revert hm; simp [metB, Region.binds, e]) | true => rfl
        have e0 : zS 94 = .agg #[.int .i64 z0, .slice a0 l0.length c0] := hF.1 hb0
        clear hL hm
        rw [hb1] at hW
        simp only [puts, Act.put, List.setIfInBounds_toArray, List.set_cons_zero, List.set_cons_succ]
        simp only [e0]
        obtain ⟨hC, k1, k3, k5⟩ := hW
        go_simp
        refine (toFacts_any z0 l0 a0 c0 _ HZZ0.out (HL0.out.below (below_step B_18.out hC.bel))).mono ?_
        rintro e v2 ⟨gn, rfl, ho, hb⟩
        go_wp2_with fail
        exact hK.out _ _ ⟨fun zj => if zj = 0 then true else if zj = 1 then true else zB zj, fun zd => if zd = 95 then .agg #[.int .i64 z0, .slice (some ⟨gn, 0, none⟩) l0.length l0.length] else if zd = 94 then .agg #[.int .i64 z0, .slice a0 l0.length c0] else zS zd, gn, gh3, gh5, sah, sch, Xh, by simp [hb0], by kernel_rfl, ⟨fun _ => rfl, fun _ => rfl, hF.2.2.1, hF.2.2.2.1, hF.2.2.2.2.1, hF.2.2.2.2.2.1, hF.2.2.2.2.2.2.1, hF.2.2.2.2.2.2.2⟩, ⟨hC.below hb, fun _ _ => ho.at, fun e e2 => (k3 e e2).below hb, fun e e2 => (k5 e e2).below hb⟩⟩
      refine StepsI.cons rfl ?_ ?_
      · rintro L zA vh ⟨zB, zS, gh1, gh3, gh5, sah, sch, Xh, rfl, rfl, hF, hW⟩ hL hm K hK
        have hb2 : zB 2 = false := by simpa using hL
        clear hL hm
        simp only [puts, Act.put, List.setIfInBounds_toArray, List.set_cons_zero, List.set_cons_succ]
        obtain ⟨hC, k1, k3, k5⟩ := hW
        obtain ⟨q0, q1⟩ := A1_18.out.below hC.bel
        go_simp
        exact hK.out _ _ ⟨fun zj => if zj = 2 then true else zB zj, fun zd => if zd = 96 then .agg #[.int .i64 z1, .slice a1 l1.length c1] else zS zd, gh1, gh3, gh5, sah, sch, Xh, rfl, by kernel_rfl, ⟨hF.1, hF.2.1, fun _ => rfl, hF.2.2.2.1, hF.2.2.2.2.1, hF.2.2.2.2.2.1, hF.2.2.2.2.2.2.1, hF.2.2.2.2.2.2.2⟩, ⟨hC, k1, k3, k5⟩⟩
      refine StepsI.cons rfl ?_ ?_
      · rintro L zA vh ⟨zB, zS, gh1, gh3, gh5, sah, sch, Xh, rfl, rfl, hF, hW⟩ hL hm K hK
        have hb3 : zB 3 = false := by simpa using hL
        have hb2 : zB 2 = true := by cases e : zB 2 with | false => (exfalso; revert hm; simp [metB, Region.binds, e]) | true => rfl
        have e2 : zS 96 = .agg #[.int .i64 z1, .slice a1 l1.length c1] := hF.2.2.1 hb2
        clear hL hm
        rw [hb3] at hW
        simp only [puts, Act.put, List.setIfInBounds_toArray, List.set_cons_zero, List.set_cons_succ]
        simp only [e2]
        obtain ⟨hC, k1, k3, k5⟩ := hW
        go_simp
        refine (toFacts_any z1 l1 a1 c1 _ HZZ1.out (HL1.out.below (below_step B_18.out hC.bel))).mono ?_
        rintro e v2 ⟨gn, rfl, ho, hb⟩
        go_wp2_with fail
        exact hK.out _ _ ⟨fun zj => if zj = 2 then true else if zj = 3 then true else zB zj, fun zd => if zd = 97 then .agg #[.int .i64 z1, .slice (some ⟨gn, 0, none⟩) l1.length l1.length] else if zd = 96 then .agg #[.int .i64 z1, .slice a1 l1.length c1] else zS zd, gh1, gn, gh5, sah, sch, Xh, by simp [hb2], by kernel_rfl, ⟨hF.1, hF.2.1, fun _ => rfl, fun _ => rfl, hF.2.2.2.2.1, hF.2.2.2.2.2.1, hF.2.2.2.2.2.2.1, hF.2.2.2.2.2.2.2⟩, ⟨hC.below hb, fun e e2 => (k1 e e2).below hb, fun _ _ => ho.at, fun e e2 => (k5 e e2).below hb⟩⟩
      refine StepsI.cons rfl ?_ ?_
      · rintro L zA vh ⟨zB, zS, gh1, gh3, gh5, sah, sch, Xh, rfl, rfl, hF, hW⟩ hL hm K hK
        have hb4 : zB 4 = false := by simpa using hL
        clear hL hm
        simp only [puts, Act.put, List.setIfInBounds_toArray, List.set_cons_zero, List.set_cons_succ]
        obtain ⟨hC, k1, k3, k5⟩ := hW
        go_simp
        exact hK.out _ _ ⟨fun zj => if zj = 4 then true else zB zj, fun zd => if zd = 98 then .slice a2 l2.length c2 else zS zd, gh1, gh3, gh5, sah, sch, Xh, rfl, by kernel_rfl, ⟨hF.1, hF.2.1, hF.2.2.1, hF.2.2.2.1, fun _ => rfl, hF.2.2.2.2.2.1, hF.2.2.2.2.2.2.1, hF.2.2.2.2.2.2.2⟩, ⟨hC, k1, k3, k5⟩⟩
      refine StepsI.cons rfl ?_ ?_
      · rintro L zA vh ⟨zB, zS, gh1, gh3, gh5, sah, sch, Xh, rfl, rfl, hF, hW⟩ hL hm K hK
        have hb5 : zB 5 = false := by simpa using hL
        have hb4 : zB 4 = true := by cases e : zB 4 with | false => (exfalso; revert hm; simp [metB, Region.binds, e]) | true => rfl
        have e4 : zS 98 = .slice a2 l2.length c2 := hF.2.2.2.2.1 hb4
        clear hL hm
        rw [hb5] at hW
        simp only [puts, Act.put, List.setIfInBounds_toArray, List.set_cons_zero, List.set_cons_succ]
        simp only [e4]
        obtain ⟨hC, k1, k3, k5⟩ := hW
        go_simp
        refine (toIntS_any l2 a2 c2 _ HZZ2.out (HL2.out.below (below_step B_18.out hC.bel))).mono ?_
        rintro e v2 ⟨gn, rfl, ho, hb⟩
        go_wp2_with fail
        exact hK.out _ _ ⟨fun zj => if zj = 4 then true else if zj = 5 then true else zB zj, fun zd => if zd = 99 then .slice (some ⟨gn, 0, none⟩) l2.length l2.length else if zd = 98 then .slice a2 l2.length c2 else zS zd, gh1, gh3, gn, sah, sch, Xh, by simp [hb4], by kernel_rfl, ⟨hF.1, hF.2.1, hF.2.2.1, hF.2.2.2.1, fun _ => rfl, fun _ => rfl, hF.2.2.2.2.2.2.1, hF.2.2.2.2.2.2.2⟩, ⟨hC.below hb, fun e e2 => (k1 e e2).below hb, fun e e2 => (k3 e e2).below hb, fun _ _ => ho.at⟩⟩
      refine StepsI.cons rfl ?_ ?_
      · rintro L zA vh ⟨zB, zS, gh1, gh3, gh5, sah, sch, Xh, rfl, rfl, hF, hW⟩ hL hm K hK
        have hb6 : zB 6 = false := by simpa using hL
        have hb1 : zB 1 = true := by cases e : zB 1 with | false => (exfalso; revert hm; simp [metB, Region.binds, e]) | true => rfl
        have hb3 : zB 3 = true := by cases e : zB 3 with | false => (exfalso; revert hm; simp [metB, Region.binds, e]) | true => rfl
        have hb5 : zB 5 = true := by cases e : zB 5 with | false => (exfalso; revert hm; simp [metB, Region.binds, e]) | true => rfl
        have e1 : zS 95 = .agg #[.int .i64 z0, .slice (some ⟨gh1, 0, none⟩) l0.length l0.length] := hF.2.1 hb1
        have e3 : zS 97 = .agg #[.int .i64 z1, .slice (some ⟨gh3, 0, none⟩) l1.length l1.length] := hF.2.2.2.1 hb3
        have e5 : zS 99 = .slice (some ⟨gh5, 0, none⟩) l2.length l2.length := hF.2.2.2.2.2.1 hb5
        clear hL hm
        rw [hb6] at hW
        rw [hb1] at hW
        rw [hb3] at hW
        rw [hb5] at hW
        simp only [puts, Act.put, List.setIfInBounds_toArray, List.set_cons_zero, List.set_cons_succ]
        simp only [e1, e3, e5]
        obtain ⟨hC, k1, k3, k5⟩ := hW
        go_simp
        refine (HI.out _ _ _ _ (k1 rfl rfl) (k3 rfl rfl) (k5 rfl rfl)).mono ?_
        rintro e v2 ⟨sa2, sc2, rfl, so, hb⟩
        go_wp2_with fail
        exact hK.out _ _ ⟨fun zj => if zj = 5 then true else if zj = 3 then true else if zj = 1 then true else if zj = 6 then true else zB zj, fun zd => if zd = 100 then .agg #[.int .i64 rz, .slice sa2 rl.length sc2] else if zd = 99 then .slice (some ⟨gh5, 0, none⟩) l2.length l2.length else if zd = 97 then .agg #[.int .i64 z1, .slice (some ⟨gh3, 0, none⟩) l1.length l1.length] else if zd = 95 then .agg #[.int .i64 z0, .slice (some ⟨gh1, 0, none⟩) l0.length l0.length] else zS zd, gh1, gh3, gh5, sa2, sc2, Xh, by simp [hb1, hb3, hb5], by kernel_rfl, ⟨hF.1, fun _ => rfl, hF.2.2.1, fun _ => rfl, hF.2.2.2.2.1, fun _ => rfl, fun _ => rfl, hF.2.2.2.2.2.2.2⟩, ⟨hC.called so hb, fun _ e => tf e, fun _ e => tf e, fun _ e => tf e⟩⟩
      refine StepsI.cons rfl ?_ ?_
      · rintro L zA vh ⟨zB, zS, gh1, gh3, gh5, sah, sch, Xh, rfl, rfl, hF, hW⟩ hL hm K hK
        have hb7 : zB 7 = false := by simpa using hL
        clear hL hm
        rw [hb7] at hW
        simp only [puts, Act.put, List.setIfInBounds_toArray, List.set_cons_zero, List.set_cons_succ]
        obtain ⟨hC, k1, k3, k5⟩ := hW
        go_simp
        exact hK.out _ _ ⟨fun zj => if zj = 7 then true else zB zj, fun zd => if zd = 16 then .pointer (some ⟨vh.heap.size, 0, none⟩) else zS zd, gh1, gh3, gh5, sah, sch, vh.heap.size, rfl, by kernel_rfl, ⟨hF.1, hF.2.1, hF.2.2.1, hF.2.2.2.1, hF.2.2.2.2.1, hF.2.2.2.2.2.1, hF.2.2.2.2.2.2.1, fun _ => rfl⟩, ⟨hC.alloc, fun e e2 => (k1 e e2).below ((Below.refl _ _).alloc (Nat.le_refl _) _), fun e e2 => (k3 e e2).below ((Below.refl _ _).alloc (Nat.le_refl _) _), fun e e2 => (k5 e e2).below ((Below.refl _ _).alloc (Nat.le_refl _) _)⟩⟩
      refine StepsI.cons rfl ?_ ?_
      · rintro L zA vh ⟨zB, zS, gh1, gh3, gh5, sah, sch, Xh, rfl, rfl, hF, hW⟩ hL hm K hK
        have hb8 : zB 8 = false := by simpa using hL
        have hb6 : zB 6 = true := by cases e : zB 6 with | false => (exfalso; revert hm; simp [metB, Region.binds, e]) | true => rfl
        have hb7 : zB 7 = true := by cases e : zB 7 with | false => (exfalso; revert hm; simp [metB, Region.binds, e]) | true => rfl
        have e6 : zS 100 = .agg #[.int .i64 rz, .slice sah rl.length sch] := hF.2.2.2.2.2.2.1 hb6
        have e7 : zS 16 = .pointer (some ⟨Xh, 0, none⟩) := hF.2.2.2.2.2.2.2 hb7
        clear hL hm
        rw [hb8] at hW
        rw [hb6] at hW
        rw [hb7] at hW
        simp only [puts, Act.put, List.setIfInBounds_toArray, List.set_cons_zero, List.set_cons_succ]
        simp only [e6, e7]
        obtain ⟨hC, k1, k3, k5⟩ := hW
        obtain ⟨⟨y0, y1⟩, y2, y3⟩ := (hC.box rfl).2.1 rfl
        go_simp
        exact hK.out _ _ ⟨fun zj => if zj = 7 then true else if zj = 6 then true else if zj = 8 then true else zB zj, fun zd => if zd = 16 then .pointer (some ⟨Xh, 0, none⟩) else if zd = 100 then .agg #[.int .i64 rz, .slice sah rl.length sch] else zS zd, gh1, gh3, gh5, sah, sch, Xh, by simp [hb6, hb7], by kernel_rfl, ⟨hF.1, hF.2.1, hF.2.2.1, hF.2.2.2.1, hF.2.2.2.2.1, hF.2.2.2.2.2.1, fun _ => rfl, fun _ => rfl⟩, ⟨hC.store, fun _ e => tf e, fun _ e => tf e, fun _ e => tf e⟩⟩
      exact StepsI.nil (by kernel_rfl)
    · rintro L zA vh ⟨zB, zS, gh1, gh3, gh5, sah, sch, Xh, rfl, rfl, hF, hW⟩ hr
      have hu := all_up (by kernel_rfl) (N := 9) (by kernel_rfl) hr
      have hb0 : zB 0 = true := by simpa using hu 0 (by decide)
      have hb1 : zB 1 = true := by simpa using hu 1 (by decide)
      have hb2 : zB 2 = true := by simpa using hu 2 (by decide)
      have hb3 : zB 3 = true := by simpa using hu 3 (by decide)
      have hb4 : zB 4 = true := by simpa using hu 4 (by decide)
      have hb5 : zB 5 = true := by simpa using hu 5 (by decide)
      have hb6 : zB 6 = true := by simpa using hu 6 (by decide)
      have hb7 : zB 7 = true := by simpa using hu 7 (by decide)
      have hb8 : zB 8 = true := by simpa using hu 8 (by decide)
      have e0 : zS 94 = .agg #[.int .i64 z0, .slice a0 l0.length c0] := hF.1 hb0
      have e1 : zS 95 = .agg #[.int .i64 z0, .slice (some ⟨gh1, 0, none⟩) l0.length l0.length] := hF.2.1 hb1
      have e2 : zS 96 = .agg #[.int .i64 z1, .slice a1 l1.length c1] := hF.2.2.1 hb2
      have e3 : zS 97 = .agg #[.int .i64 z1, .slice (some ⟨gh3, 0, none⟩) l1.length l1.length] := hF.2.2.2.1 hb3
      have e4 : zS 98 = .slice a2 l2.length c2 := hF.2.2.2.2.1 hb4
      have e5 : zS 99 = .slice (some ⟨gh5, 0, none⟩) l2.length l2.length := hF.2.2.2.2.2.1 hb5
      have e6 : zS 100 = .agg #[.int .i64 rz, .slice sah rl.length sch] := hF.2.2.2.2.2.2.1 hb6
      have e7 : zS 16 = .pointer (some ⟨Xh, 0, none⟩) := hF.2.2.2.2.2.2.2 hb7
      rw [hb1] at hW
      rw [hb3] at hW
      rw [hb5] at hW
      rw [hb6] at hW
      rw [hb7] at hW
      rw [hb8] at hW
      clear hu hr hF
      simp only [puts, Act.put, List.setIfInBounds_toArray, List.set_cons_zero, List.set_cons_succ]
      simp only [e0, e1, e2, e3, e4, e5, e6, e7]
      clear e0 e1 e2 e3 e4 e5 e6 e7
      clear hb0 hb1 hb2 hb3 hb4 hb5 hb6 hb7 hb8
      clear zB zS
      obtain ⟨hC, k1, k3, k5⟩ := hW
      skip
      obtain ⟨hbel, hX0, hXf, so, hXn⟩ := hC.all
      clear hC k1 k3 k5
      have B_19 := mkHid (below_step B_18.out hbel)
      have A0_19 := mkHid (A0_18.out.below hbel)
      have A1_19 := mkHid (A1_18.out.below hbel)
      have W_19 := mkHid (W_18.out.below hbel)
      have S_19 := mkHid (S_18.out.below hbel)
      have G_19 := mkHid (G_18.out.below hbel)
      have Q_19 := mkHid (Q_18.out.below hbel)
      clear hbel hX0 B_18 A0_18 A1_18 W_18 S_18 G_18 Q_18
      have H_19 := mkHid (hXf)
      have Y_19 := mkHid (so)
      clear hXf so hXn
      obtain ⟨h0, h1⟩ := H_19.out
      obtain ⟨v0, v1⟩ := W_19.out
      go_wp2_with fail
      refine (eqFacts_ok rz rl _ sa _ sc _ HM.out Y_19.out.at S_19.out.at).mono ?_
      rintro e w20 ⟨rfl, hb⟩
      have B_20 := mkHid (below_step B_19.out hb)
      have A0_20 := mkHid (A0_19.out.below hb)
      have A1_20 := mkHid (A1_19.out.below hb)
      have W_20 := mkHid (W_19.out.below hb)
      have S_20 := mkHid (S_19.out.below hb)
      have G_20 := mkHid (G_19.out.below hb)
      have Q_20 := mkHid (Q_19.out.below hb)
      have H_20 := mkHid (H_19.out.below hb)
      have Y_20 := mkHid (Y_19.out.below hb)
      clear hb h0 h1 v0 v1 B_19 A0_19 A1_19 W_19 S_19 G_19 Q_19 H_19 Y_19
      obtain ⟨g0, g1⟩ := G_20.out
      go_wp2_with fail
      refine (heldFacts_ok rz rl.length ga gc 1 _ (by have := HLE.out; omega) (by omega) (by omega) Q_20.out.at).mono ?_
      rintro e w21 ⟨rfl, hb⟩
      have B_21 := mkHid (below_step B_20.out hb)
      have A0_21 := mkHid (A0_20.out.below hb)
      have A1_21 := mkHid (A1_20.out.below hb)
      have W_21 := mkHid (W_20.out.below hb)
      have S_21 := mkHid (S_20.out.below hb)
      have G_21 := mkHid (G_20.out.below hb)
      have Q_21 := mkHid (Q_20.out.below hb)
      have H_21 := mkHid (H_20.out.below hb)
      have Y_21 := mkHid (Y_20.out.below hb)
      clear hb g0 g1 B_20 A0_20 A1_20 W_20 S_20 G_20 Q_20 H_20 Y_20
      go_wp2
      go_ret
      exact ⟨rfl, B_21.out⟩

set_option maxRecDepth 100000 in
theorem law_lifted (os : Os) (started : os.Started) (H : Type) (enc : TypeId × Value → H) :
    ReturnsInHanded {} Try.checked os 5 .any (Rows.fnExactFactsWidenSpec.pre6 enc Try.prog Try.f5 Rows.fnExactFactsWidenRow.domain false) (Rows.fnExactFactsWidenSpec.post enc Try.prog Try.f5 false true false false) := by
  refine returnsInHanded_of_change (C := Try.checked) Try.own started (by kernel_rfl) Try.func5
    (ChangeSpec.witness6 (enc := enc) (C := Try.checked) false ⟨#[], #[.agg #[.int .i64 0, .slice none 0 0], .agg #[.int .i64 0, .slice none 0 0], .slice none 0 0], []⟩ 8 (by kernel_rfl) (by kernel_rfl) (by kernel_rfl) (by kernel_rfl)) ?_
  intro W base args ds gs before hval0 hW hcnd _
  have hval : ∀ (j : Nat) t v, Try.f5.params[j]? = some t → args[j]? = some v → Value.okWide Try.prog W .any base t v := hval0
  have hW' := hW
  obtain ⟨p, q, hA0, hV, rfl, hfz, hnd⟩ := hW
  have hA : DataW.TrodAll enc Try.prog W 0 (fun _ => true) true Try.f5.params.toList args.toList ds p := hA0
  rw [Try.params5] at hA hval
  obtain ⟨v0, vs0, d0, ds0, p0, q0, hargs, rfl, rfl, h0, r0⟩ := trodAll_cons hA
  obtain ⟨v1, vs1, d1, ds1, p1, q1, rfl, rfl, rfl, h1, r1⟩ := trodAll_cons r0
  obtain ⟨v2, vs2, d2, ds2, p2, q2, rfl, rfl, rfl, h2, r2⟩ := trodAll_cons r1
  obtain ⟨rfl, rfl, rfl⟩ := trodAll_nil r2
  obtain rfl : args = #[v0, v1, v2] := by cases args; simp_all
  obtain ⟨rfl, rfl⟩ := trodVars_none hV
  have k0 := h0
  have lt0 : ∀ x ∈ p0, x.block < W.heap.size := by obtain ⟨m, hm⟩ := k0; exact DataW.trod_lt m _ _ _ hm
  have k1 := h1
  have lt1 : ∀ x ∈ p1, x.block < W.heap.size := by obtain ⟨m, hm⟩ := k1; exact DataW.trod_lt m _ _ _ hm
  have k2 := h2
  have lt2 : ∀ x ∈ p2, x.block < W.heap.size := by obtain ⟨m, hm⟩ := k2; exact DataW.trod_lt m _ _ _ hm
  obtain ⟨u00, u01, y00, y01, m0, hv0, _, _, hy00, hy01⟩ := open_agg2 Try.underlying24 (by kernel_rfl) Try.cells24 (hval 0 24 v0 rfl rfl) h0
  obtain ⟨z0, e00, _, _⟩ := DataW.trod_int Try.underlying3 hy00
  obtain ⟨a0, c0, l0, e01, hn0, hk0⟩ := open_intsv hy01
  simp at e00
  subst e00 e01 hv0
  obtain ⟨u10, u11, y10, y11, m1, hv1, _, _, hy10, hy11⟩ := open_agg2 Try.underlying24 (by kernel_rfl) Try.cells24 (hval 1 24 v1 rfl rfl) h1
  obtain ⟨z1, e10, _, _⟩ := DataW.trod_int Try.underlying3 hy10
  obtain ⟨a1, c1, l1, e11, hn1, hk1⟩ := open_intsv hy11
  simp at e10
  subst e10 e11 hv1
  obtain ⟨a2, c2, l2, hv2, hn2, hk2⟩ := open_intsof (okWide_slice Try.underlying22 (hval 2 22 v2 rfl rfl)) h2
  subst hv2
  clear hA0 hval0
  refine (law_walk z0 l0 a0 c0 z1 l1 a1 c1 l2 a2 c2 W hn0 hk0 hn1 hk1 hn2 hk2).mono fun e W' ⟨he, bel⟩ => ?_
  subst he
  exact ⟨_, rfl, _, _, _, [], _, [], hW', trodAll_mk1 (shut_bool Try.underlying4 _), (trodAll_cons_mk (Below.trod Try.laidOut (by kernel_rfl) (of_decide_eq_true (by kernel_rfl)) k0 bel lt0) (trodAll_cons_mk (Below.trod Try.laidOut (by kernel_rfl) (of_decide_eq_true (by kernel_rfl)) k1 bel lt1) (trodAll_cons_mk (Below.trod Try.laidOut (by kernel_rfl) (of_decide_eq_true (by kernel_rfl)) k2 bel lt2) trodAll_mk0))), rfl, bel.frame _, fun h => by cases h⟩

theorem law_holds : Rows.FnExactFactsWidenSaid :=
  OpenClaim.holds_of_wide 5 Try.f5 rfl rfl rfl rfl rfl rfl rfl ⟨rfl, rfl, rfl, rfl, rfl⟩ rfl rfl rfl rfl rfl (by kernel_rfl) Try.func5 (by kernel_rfl)
    (of_decide_eq_true (by kernel_rfl)) (by unfold Func.isWrapper; first | (rw [if_pos (by decide +kernel)]; kernel_rfl) | (rw [if_neg (by decide +kernel)]; exact ⟨rfl, rfl⟩))
    (fun os started H enc _ => law_lifted os started H enc)

#print axioms law_holds
end Go.Proofs.Ytmaejdomlggopaa
