/-
  CONTRACT of the program's assignment.renamed.
-/
import Derived.Test.YtodjmpocpfkpaaaGreatKc17
namespace Go.Proofs.YtodjmpocpfkpaaaGreat
open Go.RowKit

def selI (b : Bool) (x y : Int) : Int := match b with | true => x | false => y
structure RnI (X : Nat) (n v z : Int) (w0 x : World) (b : Bool) : Prop where
  bel : Below X w0 x
  sz : X + 4 ≤ x.heap.size
  n0 : x.cell? ⟨X, 0, none⟩ = some (.int .i64 n)
  c0 : x.cell? ⟨X + 1 + 1 + 1, 0, none⟩ = some (.int .i64 v)
  c1 : x.cell? ⟨X + 1 + 1 + 1, 1, none⟩ = some (.int .i64 z)
  f0 : x.frozen? ⟨X + 1 + 1, 0, none⟩ = false
  f1 : x.frozen? ⟨X + 1 + 1, 1, none⟩ = false
  e0 : x.cell? ⟨X + 1 + 1, 0, none⟩ = some (.int .i64 (selI b v 0))
  e1 : x.cell? ⟨X + 1 + 1, 1, none⟩ = some (.int .i64 (selI b z 0))
theorem RnI.below {X : Nat} {n v z : Int} {w0 x x' : World} {b : Bool} (h : RnI X n v z w0 x b) (hb : Below x.heap.size x x') : RnI X n v z w0 x' b := by
  obtain ⟨hc, hf⟩ := bcell hb
  have := h.sz
  exact ⟨h.bel.trans (hb.mono (by omega)), Nat.le_trans h.sz hb.size, (hc _ _ (by omega)).trans h.n0, (hc _ _ (by omega)).trans h.c0, (hc _ _ (by omega)).trans h.c1, (hf _ _ (by omega)).trans h.f0, (hf _ _ (by omega)).trans h.f1, (hc _ _ (by omega)).trans h.e0, (hc _ _ (by omega)).trans h.e1⟩
theorem RnI.put {X : Nat} {n v z : Int} {w0 x : World} {b : Bool} (h : RnI X n v z w0 x b) : RnI X n v z w0 ((x.setCell ⟨X + 1 + 1, 0, none⟩ (.int .i64 v)).setCell ⟨X + 1 + 1, 1, none⟩ (.int .i64 z)) true := by
  obtain ⟨h0, h1, h2, h3, h4, h5, h6, h7, h8⟩ := h
  refine ⟨(h0.setCell (p := ⟨X + 1 + 1, 0, none⟩) (by show X ≤ X + 1 + 1; omega) _).setCell (p := ⟨X + 1 + 1, 1, none⟩) (by show X ≤ X + 1 + 1; omega) _, by simpa [go_sem] using h1, ?_, ?_, ?_, ?_, ?_, ?_, ?_⟩
  all_goals simp [go_sem, selI, *]
set_option maxRecDepth 100000 in
set_option maxHeartbeats 3200000 in
theorem renamed_any (n v u c : Int) (t : Y) (w : World) (ht : -1000 ≤ t.2 ∧ t.2 ≤ 1000) (hc : -2000000 ≤ c ∧ c ≤ 2000000) :
    Calls Tryz.prog 75 #[.agg #[.int .i64 n, .int .i64 v, .int .i64 u, .int .i64 c], .agg #[.int .i64 t.1, .int .i64 t.2]] w fun e w' => e = .returned (.tuple #[.agg #[.int .i64 v, .int .i64 (t.2 - c)], .bool (symOkB n v (t.2 - c))]) ∧ Below w.heap.size w w' := by
  have hwz : IntKind.i64.wrap (t.2 - c) = t.2 - c := IntWalk.i64_in _ (by omega)
  obtain ⟨z, hz⟩ : ∃ z, t.2 - c = z := ⟨_, rfl⟩
  rw [hz] at hwz ⊢
  obtain ⟨X, hX⟩ : ∃ z, w.heap.size = z := ⟨_, rfl⟩
  obtain ⟨w3, hw3⟩ : ∃ x : World, (((w.alloc (.cells #[.int .i64 n, .int .i64 v, .int .i64 u, .int .i64 c] 51)).alloc (.cells #[.int .i64 t.1, .int .i64 t.2] 65)).alloc (.cells #[.int .i64 0, .int .i64 0] 65)).alloc (.cells #[.int .i64 v, .int .i64 z] 65) = x := ⟨_, rfl⟩
  have HI : Hid (RnI X n v z w w3 false) := mkHid (by
    rw [← hw3, ← hX]
    refine ⟨bl_alloc (bl_alloc (bl_alloc (bl_alloc (Below.refl _ _) _) _) _) _, by simp, ?_, ?_, ?_, ?_, ?_, ?_, ?_⟩
    all_goals simp [go_sem, selI])
  have HX := mkHid hX
  clear ht hc
  go_enter Tryz.func75, Tryz.ntmps75
  go_wp2_with fail
  clear hw3 hX hz hwz
  refine wp_region_inv2 (fun zA0 L zA va => ∃ (zB : Nat → Bool) (zS : Nat → Value), L = #[zB 0, zB 1, zB 2, zB 3, zB 4, zB 5, zB 6] ∧ zA = puts zA0 [(15, zS 15), (16, zS 16), (17, zS 17), (18, zS 18), (19, zS 19), (5, zS 5)] ∧ ((zB 0 = true → zS 15 = .agg #[.int .i64 v, .int .i64 z]) ∧ (zB 1 = true → zS 16 = .pointer (some ⟨X, 0, none⟩)) ∧ (zB 2 = true → zS 17 = .int .i64 n) ∧ (zB 3 = true → zS 18 = .agg #[.int .i64 v, .int .i64 z]) ∧ (zB 4 = true → zS 19 = .bool (symOkB n v z)) ∧ (zB 6 = true → zS 5 = .bool (symOkB n v z))) ∧ RnI X n v z w va (zB 5)) (by kernel_rfl) ?_ ?_ ?_
  · exact ⟨fun _ => false, fun zd => if zd = 5 then .bool false else undef, rfl, by kernel_rfl, ⟨fun e => ft e, fun e => ft e, fun e => ft e, fun e => ft e, fun e => ft e, fun e => ft e⟩, ⟨HI.out.bel.drew, HI.out.sz, HI.out.n0, HI.out.c0, HI.out.c1, HI.out.f0, HI.out.f1, HI.out.e0, HI.out.e1⟩⟩
  · refine StepsI.cons rfl ?_ ?_
    · rintro L zA va ⟨zB, zS, rfl, rfl, hF, hW⟩ hL hm K hK
      have hb0 : zB 0 = false := by simpa using hL
      clear hL hm
      simp only [puts, Act.put, List.setIfInBounds_toArray, List.set_cons_zero, List.set_cons_succ]
      have q0 := hW.c0
      have q1 := hW.c1
      go_simp
      exact hK.out _ _ ⟨fun zj => if zj = 0 then true else zB zj, fun zd => if zd = 15 then .agg #[.int .i64 v, .int .i64 z] else zS zd, rfl, by kernel_rfl, ⟨fun _ => rfl, hF.2.1, hF.2.2.1, hF.2.2.2.1, hF.2.2.2.2.1, hF.2.2.2.2.2⟩, hW⟩
    refine StepsI.cons rfl ?_ ?_
    · rintro L zA va ⟨zB, zS, rfl, rfl, hF, hW⟩ hL hm K hK
      have hb1 : zB 1 = false := by simpa using hL
      clear hL hm
      simp only [puts, Act.put, List.setIfInBounds_toArray, List.set_cons_zero, List.set_cons_succ]
      go_simp
      exact hK.out _ _ ⟨fun zj => if zj = 1 then true else zB zj, fun zd => if zd = 16 then .pointer (some ⟨X, 0, none⟩) else zS zd, rfl, by kernel_rfl, ⟨hF.1, fun _ => rfl, hF.2.2.1, hF.2.2.2.1, hF.2.2.2.2.1, hF.2.2.2.2.2⟩, hW⟩
    refine StepsI.cons rfl ?_ ?_
    · rintro L zA va ⟨zB, zS, rfl, rfl, hF, hW⟩ hL hm K hK
      have hb2 : zB 2 = false := by simpa using hL
      have hb1 : zB 1 = true := by cases e : zB 1 with | false => (exfalso; revert hm; simp [metB, Region.binds, e]) | true => rfl
      have e1 : zS 16 = .pointer (some ⟨X, 0, none⟩) := hF.2.1 hb1
      clear hL hm
      simp only [puts, Act.put, List.setIfInBounds_toArray, List.set_cons_zero, List.set_cons_succ]
      simp only [e1]
      have q0 := hW.n0
      go_simp
      exact hK.out _ _ ⟨fun zj => if zj = 1 then true else if zj = 2 then true else zB zj, fun zd => if zd = 17 then .int .i64 n else if zd = 16 then .pointer (some ⟨X, 0, none⟩) else zS zd, by simp [hb1], by kernel_rfl, ⟨hF.1, fun _ => rfl, fun _ => rfl, hF.2.2.2.1, hF.2.2.2.2.1, hF.2.2.2.2.2⟩, hW⟩
    refine StepsI.cons rfl ?_ ?_
    · rintro L zA va ⟨zB, zS, rfl, rfl, hF, hW⟩ hL hm K hK
      have hb3 : zB 3 = false := by simpa using hL
      clear hL hm
      simp only [puts, Act.put, List.setIfInBounds_toArray, List.set_cons_zero, List.set_cons_succ]
      have q0 := hW.c0
      have q1 := hW.c1
      go_simp
      exact hK.out _ _ ⟨fun zj => if zj = 3 then true else zB zj, fun zd => if zd = 18 then .agg #[.int .i64 v, .int .i64 z] else zS zd, rfl, by kernel_rfl, ⟨hF.1, hF.2.1, hF.2.2.1, fun _ => rfl, hF.2.2.2.2.1, hF.2.2.2.2.2⟩, hW⟩
    refine StepsI.cons rfl ?_ ?_
    · rintro L zA va ⟨zB, zS, rfl, rfl, hF, hW⟩ hL hm K hK
      have hb4 : zB 4 = false := by simpa using hL
      have hb2 : zB 2 = true := by cases e : zB 2 with | false => (exfalso; revert hm; simp [metB, Region.binds, e]) | true => rfl
      have hb3 : zB 3 = true := by cases e : zB 3 with | false => (exfalso; revert hm; simp [metB, Region.binds, e]) | true => rfl
      have e2 : zS 17 = .int .i64 n := hF.2.2.1 hb2
      have e3 : zS 18 = .agg #[.int .i64 v, .int .i64 z] := hF.2.2.2.1 hb3
      clear hL hm
      simp only [puts, Act.put, List.setIfInBounds_toArray, List.set_cons_zero, List.set_cons_succ]
      simp only [e2, e3]
      go_simp
      refine (iSymOk_any n v z _).mono ?_
      rintro e v2 ⟨rfl, hb⟩
      go_simp
      exact hK.out _ _ ⟨fun zj => if zj = 3 then true else if zj = 2 then true else if zj = 4 then true else zB zj, fun zd => if zd = 19 then .bool (symOkB n v z) else if zd = 18 then .agg #[.int .i64 v, .int .i64 z] else if zd = 17 then .int .i64 n else zS zd, by simp [hb2, hb3], by kernel_rfl, ⟨hF.1, hF.2.1, fun _ => rfl, fun _ => rfl, fun _ => rfl, hF.2.2.2.2.2⟩, hW.below hb⟩
    refine StepsI.cons rfl ?_ ?_
    · rintro L zA va ⟨zB, zS, rfl, rfl, hF, hW⟩ hL hm K hK
      have hb5 : zB 5 = false := by simpa using hL
      have hb0 : zB 0 = true := by cases e : zB 0 with | false => (exfalso; revert hm; simp [metB, Region.binds, e]) | true => rfl
      have e0 : zS 15 = .agg #[.int .i64 v, .int .i64 z] := hF.1 hb0
      clear hL hm
      rw [hb5] at hW
      simp only [puts, Act.put, List.setIfInBounds_toArray, List.set_cons_zero, List.set_cons_succ]
      simp only [e0]
      have q0 := hW.f0
      have q1 := hW.f1
      have q2 := hW.e0
      have q3 := hW.e1
      go_simp
      exact hK.out _ _ ⟨fun zj => if zj = 0 then true else if zj = 5 then true else zB zj, fun zd => if zd = 15 then .agg #[.int .i64 v, .int .i64 z] else zS zd, by simp [hb0], by kernel_rfl, ⟨fun _ => rfl, hF.2.1, hF.2.2.1, hF.2.2.2.1, hF.2.2.2.2.1, hF.2.2.2.2.2⟩, hW.put⟩
    refine StepsI.cons rfl ?_ ?_
    · rintro L zA va ⟨zB, zS, rfl, rfl, hF, hW⟩ hL hm K hK
      have hb6 : zB 6 = false := by simpa using hL
      have hb4 : zB 4 = true := by cases e : zB 4 with | false => (exfalso; revert hm; simp [metB, Region.binds, e]) | true => rfl
      have e4 : zS 19 = .bool (symOkB n v z) := hF.2.2.2.2.1 hb4
      clear hL hm
      simp only [puts, Act.put, List.setIfInBounds_toArray, List.set_cons_zero, List.set_cons_succ]
      simp only [e4]
      go_simp
      exact hK.out _ _ ⟨fun zj => if zj = 4 then true else if zj = 6 then true else zB zj, fun zd => if zd = 5 then .bool (symOkB n v z) else if zd = 19 then .bool (symOkB n v z) else zS zd, by simp [hb4], by kernel_rfl, ⟨hF.1, hF.2.1, hF.2.2.1, hF.2.2.2.1, fun _ => rfl, fun _ => rfl⟩, hW⟩
    exact StepsI.nil (by kernel_rfl)
  · rintro L zA va ⟨zB, zS, rfl, rfl, hF, hW⟩ hr
    have hu := all_up (by kernel_rfl) (N := 7) (by kernel_rfl) hr
    have hb0 : zB 0 = true := by simpa using hu 0 (by decide)
    have hb1 : zB 1 = true := by simpa using hu 1 (by decide)
    have hb2 : zB 2 = true := by simpa using hu 2 (by decide)
    have hb3 : zB 3 = true := by simpa using hu 3 (by decide)
    have hb4 : zB 4 = true := by simpa using hu 4 (by decide)
    have hb5 : zB 5 = true := by simpa using hu 5 (by decide)
    have hb6 : zB 6 = true := by simpa using hu 6 (by decide)
    have e0 : zS 15 = .agg #[.int .i64 v, .int .i64 z] := hF.1 hb0
    have e1 : zS 16 = .pointer (some ⟨X, 0, none⟩) := hF.2.1 hb1
    have e2 : zS 17 = .int .i64 n := hF.2.2.1 hb2
    have e3 : zS 18 = .agg #[.int .i64 v, .int .i64 z] := hF.2.2.2.1 hb3
    have e4 : zS 19 = .bool (symOkB n v z) := hF.2.2.2.2.1 hb4
    have e6 : zS 5 = .bool (symOkB n v z) := hF.2.2.2.2.2 hb6
    rw [hb5] at hW
    clear hu hr hF
    simp only [puts, Act.put, List.setIfInBounds_toArray, List.set_cons_zero, List.set_cons_succ]
    simp only [e0, e1, e2, e3, e4, e6]
    clear e0 e1 e2 e3 e4 e6
    clear hb0 hb1 hb2 hb3 hb4 hb5 hb6
    clear zB zS
    have HW := mkHid hW
    have q2 := hW.e0
    have q3 := hW.e1
    simp only [selI] at q2 q3
    clear hW
    go_wp2
    refine bodyPost_ret (v := .tuple #[.agg #[.int .i64 v, .int .i64 z], .bool (symOkB n v z)]) (by simp [results, Tryz.results75, go_sem, *]) rfl ⟨rfl, by rw [HX.out]; exact HW.out.bel⟩
end Go.Proofs.YtodjmpocpfkpaaaGreat
