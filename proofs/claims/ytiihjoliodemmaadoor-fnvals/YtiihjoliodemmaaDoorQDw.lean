/-
  CONTRACTS of DrawValJoin, DrawValHas: whatever is drawn.
-/
import Derived.Test.YtiihjoliodemmaaDoorQDv
namespace Go.Proofs.YtiihjoliodemmaaDoor.Q
open Go.RowKit
attribute [local go_sem] nlt2 nlt3 nlt4 nle2 nle3 nle4 drew_size drew_cell drew_frozen

set_option maxRecDepth 100000 in
set_option maxHeartbeats 3200000 in
theorem drawJoin_any (n cap : Nat) (a : Option Addr) (w : World) (hn : n ≤ 1048576) (hb0 : Bytes w w.heap.size a n) :
    Calls Tryd.prog 34 #[.slice a n cap] w fun e w' => ∃ (x y : Int) (s : Bool) (x2 y2 : Int) (s2 : Bool), e = .returned (.tuple #[.agg #[.int .i64 x, .int .i64 y, .bool s], .agg #[.int .i64 x2, .int .i64 y2, .bool s2]]) ∧ Below w.heap.size w w' := by
  have BA := mkHid (bl_alloc (bl_alloc (Below.refl w.heap.size w) (.cells #[.int .i64 0, .int .i64 0, .bool false] 33)) (.cells #[.int .i64 0, .int .i64 0, .bool false] 33))
  have HY := mkHid (hb0.up (by simp; omega : w.heap.size ≤ ((w.alloc (.cells #[.int .i64 0, .int .i64 0, .bool false] 33)).alloc (.cells #[.int .i64 0, .int .i64 0, .bool false] 33)).heap.size) BA.out)
  have X0 := mkHid (show V3 ((w.alloc (.cells #[.int .i64 0, .int .i64 0, .bool false] 33)).alloc (.cells #[.int .i64 0, .int .i64 0, .bool false] 33)) w.heap.size 0 0 false from by constructor <;> simp [go_sem])
  have X1 := mkHid (show V3 ((w.alloc (.cells #[.int .i64 0, .int .i64 0, .bool false] 33)).alloc (.cells #[.int .i64 0, .int .i64 0, .bool false] 33)) (w.heap.size + 1) 0 0 false from by constructor <;> simp [go_sem])
  clear hb0
  go_enter Tryd.func34, Tryd.ntmps34
  go_wp2_with fail
  refine (openC_any n cap a _ hn HY.out).mono ?_
  rintro e w1 ⟨cb, rfl, hcb, hC, hb⟩
  have hcb2 : w.heap.size + 2 ≤ cb := by simp at hcb; omega
  have X0 := mkHid (X0.out.below hb)
  have X1 := mkHid (X1.out.below hb)
  have BA := mkHid (below_step BA.out hb)
  have HC := mkHid hC
  clear hb hcb hC HY
  go_wp2_with fail
  refine (drawVal_any cb n cap 400060 a _ (HC.out.less (by omega))).mono ?_
  rintro e w2 ⟨x, y, s, rfl, hC, hg⟩
  have X0 := mkHid (X0.out.grown hg (by omega))
  have X1 := mkHid (X1.out.grown hg (by omega))
  have BA := mkHid (below_of_grown BA.out hg (by omega))
  have hlt := hC.lt
  have hal := below_alloc w2 (.cells #[.int .i64 x, .int .i64 y, .bool s] 33)
  have X2 := mkHid (V3.new w2 x y s 33)
  have X0 := mkHid (X0.out.below hal)
  have X1 := mkHid (X1.out.below hal)
  have BA := mkHid (below_step BA.out hal)
  have HC := mkHid (hC.below hal)
  clear hC hg hal
  obtain ⟨P, hP⟩ : ∃ P, P = w2.heap.size := ⟨_, rfl⟩
  have hPc : P ≠ cb := by omega
  have hPw : w.heap.size + 1 < P := by omega
  obtain ⟨v2, hv2⟩ : ∃ v, v = w2.alloc (.cells #[.int .i64 x, .int .i64 y, .bool s] 33) := ⟨_, rfl⟩
  go_wp2_with fail
  rw [← hv2, ← hP]
  rw [← hv2] at HC X0 X1 X2 BA
  rw [← hP] at X2
  clear hv2 hP hlt
  refine wp_region_inv2 (fun zA0 L zA v => ∃ (zB : Nat → Bool) (zS : Nat → Value) (x2 : Int) (y2 : Int) (s2 : Bool), L = #[zB 0, zB 1, zB 2, zB 3, zB 4] ∧ zA = puts zA0 [(10, zS 10), (11, zS 11), (12, zS 12)] ∧ ((zB 0 = true → zS 10 = .agg #[.int .i64 x, .int .i64 y, .bool s]) ∧ (zB 1 = true → zS 11 = .pointer (some ⟨cb, 0, none⟩)) ∧ (zB 2 = true → zS 12 = .agg #[.int .i64 x2, .int .i64 y2, .bool s2])) ∧ (V3 v P x y s ∧ Below w.heap.size w v ∧ ((zB 2) = false → Cur v cb a n cap 400060) ∧ ((zB 3) = false → V3 v w.heap.size 0 0 false) ∧ ((zB 3) = true → V3 v w.heap.size x y s) ∧ ((zB 4) = false → V3 v (w.heap.size + 1) 0 0 false) ∧ ((zB 4) = true → V3 v (w.heap.size + 1) x2 y2 s2) ∧ ((zB 3) = true → (zB 2) = true) ∧ ((zB 4) = true → (zB 2) = true))) (by kernel_rfl) ?_ ?_ ?_
  · exact ⟨fun _ => false, fun _ => undef, 0, 0, false, rfl, by kernel_rfl, ⟨fun e => ft e, fun e => ft e, fun e => ft e⟩, ⟨X2.out.drew, BA.out.drew, fun _ => HC.out.below (Below.refl _ _).drew, fun _ => X0.out.drew, fun e => ft e, fun _ => X1.out.drew, fun e => ft e, fun e => ft e, fun e => ft e⟩⟩
  · refine StepsI.cons rfl ?_ ?_
    · rintro L zA v ⟨zB, zS, x2, y2, s2, rfl, rfl, hF, hW⟩ hL hm K hK
      have hb0 : zB 0 = false := by simpa using hL
      clear hL hm
      simp only [puts, Act.put, List.setIfInBounds_toArray, List.set_cons_zero, List.set_cons_succ]
      obtain ⟨q0, q1, q2, _, _, _⟩ := hW.1
      go_simp
      exact hK.out _ _ ⟨fun zj => if zj = 0 then true else zB zj, fun zd => if zd = 10 then .agg #[.int .i64 x, .int .i64 y, .bool s] else zS zd, x2, y2, s2, rfl, by kernel_rfl, ⟨fun _ => rfl, hF.2.1, hF.2.2⟩, hW⟩
    refine StepsI.cons rfl ?_ ?_
    · rintro L zA v ⟨zB, zS, x2, y2, s2, rfl, rfl, hF, hW⟩ hL hm K hK
      have hb1 : zB 1 = false := by simpa using hL
      clear hL hm
      simp only [puts, Act.put, List.setIfInBounds_toArray, List.set_cons_zero, List.set_cons_succ]
      go_simp
      exact hK.out _ _ ⟨fun zj => if zj = 1 then true else zB zj, fun zd => if zd = 11 then .pointer (some ⟨cb, 0, none⟩) else zS zd, x2, y2, s2, rfl, by kernel_rfl, ⟨hF.1, fun _ => rfl, hF.2.2⟩, hW⟩
    refine StepsI.cons rfl ?_ ?_
    · rintro L zA v ⟨zB, zS, x2, y2, s2, rfl, rfl, hF, hW⟩ hL hm K hK
      have hb2 : zB 2 = false := by simpa using hL
      have hb1 : zB 1 = true := by cases e : zB 1 with | false => (exfalso; revert hm; simp [metB, Region.binds, e]) | true => rfl
      have e1 : zS 11 = .pointer (some ⟨cb, 0, none⟩) := hF.2.1 hb1
      clear hL hm
      rw [hb2] at hW
      simp only [puts, Act.put, List.setIfInBounds_toArray, List.set_cons_zero, List.set_cons_succ]
      simp only [e1]
      obtain ⟨u1, u2, u3, u4, u5, u6, u7, u8, u9⟩ := hW
      go_simp
      refine (drawVal_any cb n cap 400050 a _ (u3 rfl)).mono ?_
      rintro e v2 ⟨x3, y3, s3, rfl, hC, hG⟩
      go_wp2_with fail
      exact hK.out _ _ ⟨fun zj => if zj = 1 then true else if zj = 2 then true else zB zj, fun zd => if zd = 12 then .agg #[.int .i64 x3, .int .i64 y3, .bool s3] else if zd = 11 then .pointer (some ⟨cb, 0, none⟩) else zS zd, x3, y3, s3, by simp [hb1], by kernel_rfl, ⟨hF.1, fun _ => rfl, fun _ => rfl⟩, ⟨u1.grown hG hPc, below_of_grown u2 hG (by omega), fun e => tf e, fun e => (u4 e).grown hG (by omega), fun e => ft (u8 e), fun e => (u6 e).grown hG (by omega), fun e => ft (u9 e), fun _ => rfl, fun _ => rfl⟩⟩
    refine StepsI.cons rfl ?_ ?_
    · rintro L zA v ⟨zB, zS, x2, y2, s2, rfl, rfl, hF, hW⟩ hL hm K hK
      have hb3 : zB 3 = false := by simpa using hL
      have hb0 : zB 0 = true := by cases e : zB 0 with | false => (exfalso; revert hm; simp [metB, Region.binds, e]) | true => rfl
      have hb2 : zB 2 = true := by cases e : zB 2 with | false => (exfalso; revert hm; simp [metB, Region.binds, e]) | true => rfl
      have e0 : zS 10 = .agg #[.int .i64 x, .int .i64 y, .bool s] := hF.1 hb0
      have e2 : zS 12 = .agg #[.int .i64 x2, .int .i64 y2, .bool s2] := hF.2.2 hb2
      clear hL hm
      rw [hb3] at hW
      rw [hb2] at hW
      simp only [puts, Act.put, List.setIfInBounds_toArray, List.set_cons_zero, List.set_cons_succ]
      simp only [e0, e2]
      obtain ⟨u1, u2, u3, u4, u5, u6, u7, u8, u9⟩ := hW
      have hZ := u4 rfl
      have ⟨q0, q1, q2, q3, q4, q5⟩ := hZ
      go_simp
      exact hK.out _ _ ⟨fun zj => if zj = 2 then true else if zj = 0 then true else if zj = 3 then true else zB zj, fun zd => if zd = 12 then .agg #[.int .i64 x2, .int .i64 y2, .bool s2] else if zd = 10 then .agg #[.int .i64 x, .int .i64 y, .bool s] else zS zd, x2, y2, s2, by simp [hb0, hb2], by kernel_rfl, ⟨fun _ => rfl, hF.2.1, fun _ => rfl⟩, ⟨u1.other (by omega) _ _ _, bl_set (bl_set (bl_set u2 (Nat.le_refl _) _) (Nat.le_refl _) _) (Nat.le_refl _) _, fun e => tf e, fun e => tf e, fun _ => hZ.set _ _ _, fun e => (u6 e).other (by omega) _ _ _, fun e => (u7 e).other (by omega) _ _ _, fun _ => rfl, fun _ => rfl⟩⟩
    refine StepsI.cons rfl ?_ ?_
    · rintro L zA v ⟨zB, zS, x2, y2, s2, rfl, rfl, hF, hW⟩ hL hm K hK
      have hb4 : zB 4 = false := by simpa using hL
      have hb2 : zB 2 = true := by cases e : zB 2 with | false => (exfalso; revert hm; simp [metB, Region.binds, e]) | true => rfl
      have hb3 : zB 3 = true := by cases e : zB 3 with | false => (exfalso; revert hm; simp [metB, Region.binds, e]) | true => rfl
      have e2 : zS 12 = .agg #[.int .i64 x2, .int .i64 y2, .bool s2] := hF.2.2 hb2
      clear hL hm
      rw [hb4] at hW
      rw [hb2] at hW
      rw [hb3] at hW
      simp only [puts, Act.put, List.setIfInBounds_toArray, List.set_cons_zero, List.set_cons_succ]
      simp only [e2]
      obtain ⟨u1, u2, u3, u4, u5, u6, u7, u8, u9⟩ := hW
      have hZ := u6 rfl
      have hY := u5 rfl
      have ⟨q0, q1, q2, q3, q4, q5⟩ := hZ
      go_simp
      exact hK.out _ _ ⟨fun zj => if zj = 3 then true else if zj = 2 then true else if zj = 4 then true else zB zj, fun zd => if zd = 12 then .agg #[.int .i64 x2, .int .i64 y2, .bool s2] else zS zd, x2, y2, s2, by simp [hb2, hb3], by kernel_rfl, ⟨hF.1, hF.2.1, fun _ => rfl⟩, ⟨u1.other (by omega) _ _ _, bl_set (bl_set (bl_set u2 (by show w.heap.size ≤ w.heap.size + 1; omega) _) (by show w.heap.size ≤ w.heap.size + 1; omega) _) (by show w.heap.size ≤ w.heap.size + 1; omega) _, fun e => tf e, fun e => tf e, fun _ => hY.other (by omega) _ _ _, fun e => tf e, fun _ => hZ.set _ _ _, fun _ => rfl, fun _ => rfl⟩⟩
    exact StepsI.nil (by kernel_rfl)
  · rintro L zA v ⟨zB, zS, x2, y2, s2, rfl, rfl, hF, hW⟩ hr
    have hu := all_up (by kernel_rfl) (N := 5) (by kernel_rfl) hr
    have hb0 : zB 0 = true := by simpa using hu 0 (by decide)
    have hb1 : zB 1 = true := by simpa using hu 1 (by decide)
    have hb2 : zB 2 = true := by simpa using hu 2 (by decide)
    have hb3 : zB 3 = true := by simpa using hu 3 (by decide)
    have hb4 : zB 4 = true := by simpa using hu 4 (by decide)
    have e0 : zS 10 = .agg #[.int .i64 x, .int .i64 y, .bool s] := hF.1 hb0
    have e1 : zS 11 = .pointer (some ⟨cb, 0, none⟩) := hF.2.1 hb1
    have e2 : zS 12 = .agg #[.int .i64 x2, .int .i64 y2, .bool s2] := hF.2.2 hb2
    rw [hb2] at hW
    rw [hb3] at hW
    rw [hb4] at hW
    clear hu hr hF
    simp only [puts, Act.put, List.setIfInBounds_toArray, List.set_cons_zero, List.set_cons_succ]
    simp only [e0, e1, e2]
    clear e0 e1 e2
    clear hb0 hb1 hb2 hb3 hb4
    clear zB zS
    obtain ⟨-, u2, -, -, u5, -, u7, -, -⟩ := hW
    obtain ⟨q0, q1, q2, _, _, _⟩ := u5 rfl
    obtain ⟨p0, p1, p2, _, _, _⟩ := u7 rfl
    clear u5 u7
    go_wp2
    exact bodyPost_ret (v := .tuple #[.agg #[.int .i64 x, .int .i64 y, .bool s], .agg #[.int .i64 x2, .int .i64 y2, .bool s2]]) (by simp [results, Tryd.results34, go_sem, *]) rfl ⟨_, _, _, _, _, _, rfl, u2⟩
set_option maxRecDepth 100000 in
set_option maxHeartbeats 3200000 in
theorem drawHas_any (n cap : Nat) (a : Option Addr) (w : World) (hn : n ≤ 1048576) (hb0 : Bytes w w.heap.size a n) :
    Calls Tryd.prog 36 #[.slice a n cap] w fun e w' => ∃ (x y : Int) (s : Bool) (t : Bool) (z : Int), e = .returned (.tuple #[.agg #[.int .i64 x, .int .i64 y, .bool s], .agg #[.bool t, .int .i64 z]]) ∧ Below w.heap.size w w' := by
  have BA := mkHid (bl_alloc (bl_alloc (Below.refl w.heap.size w) (.cells #[.int .i64 0, .int .i64 0, .bool false] 33)) (.cells #[.bool false, .int .i64 0] 69))
  have HY := mkHid (hb0.up (by simp; omega : w.heap.size ≤ ((w.alloc (.cells #[.int .i64 0, .int .i64 0, .bool false] 33)).alloc (.cells #[.bool false, .int .i64 0] 69)).heap.size) BA.out)
  have X0 := mkHid (show V3 ((w.alloc (.cells #[.int .i64 0, .int .i64 0, .bool false] 33)).alloc (.cells #[.bool false, .int .i64 0] 69)) w.heap.size 0 0 false from by constructor <;> simp [go_sem])
  have X1 := mkHid (show C2 ((w.alloc (.cells #[.int .i64 0, .int .i64 0, .bool false] 33)).alloc (.cells #[.bool false, .int .i64 0] 69)) (w.heap.size + 1) false 0 from by constructor <;> simp [go_sem])
  clear hb0
  go_enter Tryd.func36, Tryd.ntmps36
  go_wp2_with fail
  refine (openC_any n cap a _ hn HY.out).mono ?_
  rintro e w1 ⟨cb, rfl, hcb, hC, hb⟩
  have hcb2 : w.heap.size + 2 ≤ cb := by simp at hcb; omega
  have X0 := mkHid (X0.out.below hb)
  have X1 := mkHid (X1.out.below hb)
  have BA := mkHid (below_step BA.out hb)
  have HC := mkHid hC
  clear hb hcb hC HY
  go_wp2_with fail
  refine (drawVal_any cb n cap 400060 a _ (HC.out.less (by omega))).mono ?_
  rintro e w2 ⟨x, y, s, rfl, hC, hg⟩
  have X0 := mkHid (X0.out.grown hg (by omega))
  have X1 := mkHid (X1.out.grown hg (by omega))
  have BA := mkHid (below_of_grown BA.out hg (by omega))
  have hlt := hC.lt
  have hal := below_alloc w2 (.cells #[.int .i64 x, .int .i64 y, .bool s] 33)
  have X2 := mkHid (V3.new w2 x y s 33)
  have X0 := mkHid (X0.out.below hal)
  have X1 := mkHid (X1.out.below hal)
  have BA := mkHid (below_step BA.out hal)
  have HC := mkHid (hC.below hal)
  clear hC hg hal
  obtain ⟨P, hP⟩ : ∃ P, P = w2.heap.size := ⟨_, rfl⟩
  have hPc : P ≠ cb := by omega
  have hPw : w.heap.size + 1 < P := by omega
  obtain ⟨v2, hv2⟩ : ∃ v, v = w2.alloc (.cells #[.int .i64 x, .int .i64 y, .bool s] 33) := ⟨_, rfl⟩
  go_wp2_with fail
  rw [← hv2, ← hP]
  rw [← hv2] at HC X0 X1 X2 BA
  rw [← hP] at X2
  clear hv2 hP hlt
  refine (drawCell_any cb n cap 400050 a _ (HC.out.less (by omega))).mono ?_
  rintro e w3 ⟨t, z, rfl, hC, hg⟩
  have X0 := mkHid (X0.out.grown hg (by omega))
  have X1 := mkHid (X1.out.grown hg (by omega))
  have X2 := mkHid (X2.out.grown hg hPc)
  have BA := mkHid (below_of_grown BA.out hg (by omega))
  have hlt := hC.lt
  have hlP := X2.out.lt
  have hal := below_alloc w3 (.cells #[.bool t, .int .i64 z] 69)
  have X3 := mkHid (show C2 (w3.alloc (.cells #[.bool t, .int .i64 z] 69)) w3.heap.size t z from by constructor <;> simp [go_sem])
  have X0 := mkHid (X0.out.below hal)
  have X1 := mkHid (X1.out.below hal)
  have X2 := mkHid (X2.out.below hal)
  have BA := mkHid (below_step BA.out hal)
  have HC := mkHid (hC.below hal)
  clear hC hg hal
  obtain ⟨Q, hQ⟩ : ∃ Q, Q = w3.heap.size := ⟨_, rfl⟩
  have hQc : Q ≠ cb := by omega
  have hQP : P < Q := by omega
  obtain ⟨v3, hv3⟩ : ∃ v, v = w3.alloc (.cells #[.bool t, .int .i64 z] 69) := ⟨_, rfl⟩
  go_wp2_with fail
  rw [← hv3, ← hQ]
  rw [← hv3] at HC X0 X1 X2 X3 BA
  rw [← hQ] at X3
  clear hv3 hQ hlt hlP
  refine (once_any 2 cb n cap 400040 a _ (by omega) (by omega) (HC.out.less (by omega))).mono ?_
  rintro e w4 ⟨o2, rfl, hC, hg⟩
  have X0 := mkHid (X0.out.grown hg (by omega))
  have X1 := mkHid (X1.out.grown hg (by omega))
  have X2 := mkHid (X2.out.grown hg hPc)
  have X3 := mkHid (X3.out.grown hg hQc)
  have BA := mkHid (below_of_grown BA.out hg (by omega))
  clear hC hg HC
  cases o2
  · obtain ⟨p0, p1, p2, p3, p4, p5⟩ := X2.out
    obtain ⟨q0, q1, q2, q3⟩ := X3.out
    obtain ⟨r0, r1, r2, r3, r4, r5⟩ := X0.out
    obtain ⟨s0, s1, s2, s3⟩ := X1.out
    have d1 : w.heap.size ≠ P := by omega
    have d2 : w.heap.size ≠ Q := by omega
    have d3 : w.heap.size + 1 ≠ P := by omega
    have d4 : w.heap.size + 1 ≠ Q := by omega
    have d5 : P ≠ Q := by omega
    have d6 : Q ≠ P := by omega
    have d7 : P ≠ w.heap.size := by omega
    have d8 : Q ≠ w.heap.size := by omega
    have d9 : P ≠ w.heap.size + 1 := by omega
    have dA : Q ≠ w.heap.size + 1 := by omega
    have hBA := BA.out
    go_wp2_with fail
    go_region
    all_goals
      go_wp2
      exact bodyPost_ret (v := .tuple #[.agg #[.int .i64 x, .int .i64 y, .bool s], .agg #[.bool t, .int .i64 z]]) (by simp [results, Tryd.results36, go_sem, *]) rfl ⟨_, _, _, _, _, rfl, (by repeat (first | with_reducible exact Below.refl _ _ | (with_reducible refine bl_set2 ?_ ?_ _; (first | (simp; done) | (simp [*]; done) | (simp [*] <;> omega))) | with_reducible refine bl_drew ?_ | with_reducible refine bl_alloc ?_ _ | with_reducible refine below_step ?_ (by assumption) | with_reducible assumption))⟩
  · cases t
    · obtain ⟨p0, p1, p2, p3, p4, p5⟩ := X2.out
      obtain ⟨q0, q1, q2, q3⟩ := X3.out
      obtain ⟨r0, r1, r2, r3, r4, r5⟩ := X0.out
      obtain ⟨s0, s1, s2, s3⟩ := X1.out
      have d1 : w.heap.size ≠ P := by omega
      have d2 : w.heap.size ≠ Q := by omega
      have d3 : w.heap.size + 1 ≠ P := by omega
      have d4 : w.heap.size + 1 ≠ Q := by omega
      have d5 : P ≠ Q := by omega
      have d6 : Q ≠ P := by omega
      have d7 : P ≠ w.heap.size := by omega
      have d8 : Q ≠ w.heap.size := by omega
      have d9 : P ≠ w.heap.size + 1 := by omega
      have dA : Q ≠ w.heap.size + 1 := by omega
      have hBA := BA.out
      go_wp2_with fail
      go_region
      all_goals
        go_wp2
        exact bodyPost_ret (v := .tuple #[.agg #[.int .i64 x, .int .i64 y, .bool s], .agg #[.bool false, .int .i64 z]]) (by simp [results, Tryd.results36, go_sem, *]) rfl ⟨_, _, _, _, _, rfl, (by repeat (first | with_reducible exact Below.refl _ _ | (with_reducible refine bl_set2 ?_ ?_ _; (first | (simp; done) | (simp [*]; done) | (simp [*] <;> omega))) | with_reducible refine bl_drew ?_ | with_reducible refine bl_alloc ?_ _ | with_reducible refine below_step ?_ (by assumption) | with_reducible assumption))⟩
    · obtain ⟨p0, p1, p2, p3, p4, p5⟩ := X2.out
      obtain ⟨q0, q1, q2, q3⟩ := X3.out
      obtain ⟨r0, r1, r2, r3, r4, r5⟩ := X0.out
      obtain ⟨s0, s1, s2, s3⟩ := X1.out
      have d1 : w.heap.size ≠ P := by omega
      have d2 : w.heap.size ≠ Q := by omega
      have d3 : w.heap.size + 1 ≠ P := by omega
      have d4 : w.heap.size + 1 ≠ Q := by omega
      have d5 : P ≠ Q := by omega
      have d6 : Q ≠ P := by omega
      have d7 : P ≠ w.heap.size := by omega
      have d8 : Q ≠ w.heap.size := by omega
      have d9 : P ≠ w.heap.size + 1 := by omega
      have dA : Q ≠ w.heap.size + 1 := by omega
      have hBA := BA.out
      go_wp2_with fail
      go_region
      all_goals
        go_wp2
        exact bodyPost_ret (v := .tuple #[.agg #[.int .i64 x, .int .i64 y, .bool s], .agg #[.bool true, .int .i64 x]]) (by simp [results, Tryd.results36, go_sem, *]) rfl ⟨_, _, _, _, _, rfl, (by repeat (first | with_reducible exact Below.refl _ _ | (with_reducible refine bl_set2 ?_ ?_ _; (first | (simp; done) | (simp [*]; done) | (simp [*] <;> omega))) | with_reducible refine bl_drew ?_ | with_reducible refine bl_alloc ?_ _ | with_reducible refine below_step ?_ (by assumption) | with_reducible assumption))⟩
end Go.Proofs.YtiihjoliodemmaaDoor.Q
