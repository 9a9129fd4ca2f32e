/-
  CONTRACTS of both SymMosts.
-/
import Derived.Test.YtmaejdomlggopaaSv
namespace Go.Proofs.Ytmaejdomlggopaa
open Go.RowKit

def wideB (n : Nat) (v c : Int) : Bool := symB v n && offB c
/-- The most that a term less another can be by a closed table. -/
def mostO (o : Option Tab) (n : Nat) (av ac bv bc : Int) : Int × Bool := match o with
  | some f => if wideB n av ac && wideB n bv bc then (f av.toNat bv.toNat + ac - bc, true) else (0, false)
  | none => (0, false)
/-- What SymMost answers. -/
def mostF (z : Int) (l : List Int) (av ac bv bc : Int) : Int × Bool := mostO ((okO z l).bind (cloO z.toNat)) z.toNat av ac bv bc
theorem wide_of {n : Nat} {v c : Int} (h : wideB n v c = true) : (∃ k : Nat, v = k ∧ k < n) ∧ -2000000 ≤ c ∧ c ≤ 2000000 := by
  unfold wideB at h
  rw [Bool.and_eq_true] at h
  have h1 := of_decide_eq_true h.1
  exact ⟨⟨v.toNat, by omega, by omega⟩, of_decide_eq_true h.2⟩
theorem wide_zero (v c : Int) : wideB 0 v c = false := by
  unfold wideB symB
  rw [decide_eq_false (by omega)]; rfl
theorem mostO_yes {f : Tab} {n : Nat} {av ac bv bc : Int} (h1 : wideB n av ac = true) (h2 : wideB n bv bc = true) : mostO (some f) n av ac bv bc = (f av.toNat bv.toNat + ac - bc, true) := by unfold mostO; simp [h1, h2]
theorem mostO_no1 {o : Option Tab} {n : Nat} {av ac bv bc : Int} (h1 : wideB n av ac = false) : mostO o n av ac bv bc = (0, false) := by unfold mostO; split; simp [h1]; rfl
theorem mostO_no2 {o : Option Tab} {n : Nat} {av ac bv bc : Int} (h1 : wideB n bv bc = false) : mostO o n av ac bv bc = (0, false) := by unfold mostO; split; simp [h1]; rfl
set_option maxRecDepth 100000 in
set_option maxHeartbeats 1600000 in
theorem mostOf_some (n : Nat) (f : Tab) (h1 : 1 ≤ n) (h2 : n ≤ 13) (hb : Bd n f 10000000) (av ac bv bc : Int) (w : World) : Calls Try.prog 81 #[.agg (dA n (grid n f)), .agg #[.int .i64 av, .int .i64 ac], .agg #[.int .i64 bv, .int .i64 bc]] w fun e w' => e = .returned (.tuple #[.int .i64 (mostO (some f) n av ac bv bc).1, .bool (mostO (some f) n av ac bv bc).2]) ∧ Below w.heap.size w w' := by
  have B0 := mkHid ((((Below.refl w.heap.size w).alloc (Nat.le_refl _) (.cells (dA n (grid n f)) 73)).alloc (by simp) (.cells #[.int .i64 av, .int .i64 ac] 46)).alloc (by simp; omega) (.cells #[.int .i64 bv, .int .i64 bc] 46))
  have D0 := mkHid (((Dif.new w (n := n) (grid_len n f) 73).alloc (.cells #[.int .i64 av, .int .i64 ac] 46)).alloc (.cells #[.int .i64 bv, .int .i64 bc] 46))
  have P0 : Hid (Box (((w.alloc (.cells (dA n (grid n f)) 73)).alloc (.cells #[.int .i64 av, .int .i64 ac] 46)).alloc (.cells #[.int .i64 bv, .int .i64 bc] 46)) (w.heap.size + 1) av ac) := mkHid (by have := (Box.new' (w.alloc (.cells (dA n (grid n f)) 73)) av ac 46).below ((Below.refl _ _).alloc (Nat.le_refl _) (.cells #[.int .i64 bv, .int .i64 bc] 46)); simpa using this)
  have Q0 : Hid (Box (((w.alloc (.cells (dA n (grid n f)) 73)).alloc (.cells #[.int .i64 av, .int .i64 ac] 46)).alloc (.cells #[.int .i64 bv, .int .i64 bc] 46)) (w.heap.size + 2) bv bc) := mkHid (by have := Box.new' ((w.alloc (.cells (dA n (grid n f)) 73)).alloc (.cells #[.int .i64 av, .int .i64 ac] 46)) bv bc 46; simpa using this)
  have HV := mkHid (grid_V h2 f)
  have HB := mkHid hb
  have N1 : Hid (wideB n av ac = false → mostO (some f) n av ac bv bc = (0, false)) := mkHid mostO_no1
  have N2 : Hid (wideB n bv bc = false → mostO (some f) n av ac bv bc = (0, false)) := mkHid mostO_no2
  have YY : Hid (wideB n av ac = true → wideB n bv bc = true → mostO (some f) n av ac bv bc = (f av.toNat bv.toNat + ac - bc, true)) := mkHid mostO_yes
  have HW : Hid (∀ v c u, Calls Try.prog 79 #[.int .i64 n, .agg #[.int .i64 v, .int .i64 c]] u fun e w' => e = .returned (.bool (wideB n v c)) ∧ Below u.heap.size u w') := mkHid fun v c u => wide_any n (by omega) v c u
  obtain ⟨P, hP⟩ : ∃ P, mostO (some f) n av ac bv bc = P := ⟨_, rfl⟩
  rw [hP] at N1 N2 YY
  rw [hP]
  obtain ⟨G, hG⟩ : ∃ G, grid n f = G := ⟨_, rfl⟩
  rw [hG] at B0 D0 P0 Q0 HV
  rw [hG]
  clear hP hG hb
  have h0 := dA0 n G
  go_enter Try.func81, Try.ntmps81
  go_wp2_with fail
  refine (HW.out av ac _).mono ?_
  rintro e w2 ⟨rfl, hb2⟩
  have B2 := mkHid (below_step B0.out hb2)
  have D2 := mkHid (D0.out.below hb2)
  have P2 := mkHid (P0.out.below hb2)
  have Q2 := mkHid (Q0.out.below hb2)
  clear hb2 B0 D0 P0 Q0
  cases ha : wideB n av ac
  · have e := N1.out ha
    subst e
    clear N1 N2 YY
    go_wp2
    exact bodyPost_ret (v := .tuple #[.int .i64 0, .bool false]) (by simp [results, Try.results81, go_sem]) rfl ⟨rfl, B2.out⟩
  · have d0 := D2.out.size
    obtain ⟨q0, q1, q2, q3⟩ := Q2.out
    have HA := mkHid ha
    clear ha
    go_wp2_with fail
    refine (HW.out bv bc _).mono ?_
    rintro e w3 ⟨rfl, hb3⟩
    have B3 := mkHid (below_step B2.out hb3)
    have D3 := mkHid (D2.out.below hb3)
    have P3 := mkHid (P2.out.below hb3)
    have Q3 := mkHid (Q2.out.below hb3)
    clear hb3 B2 D2 P2 Q2 d0 q0 q1 q2 q3
    cases hbw : wideB n bv bc
    · have e := N2.out hbw
      subst e
      clear N1 N2 YY
      go_wp2
      exact bodyPost_ret (v := .tuple #[.int .i64 0, .bool false]) (by simp [results, Try.results81, go_sem]) rfl ⟨rfl, B3.out⟩
    · have e := YY.out HA.out hbw
      obtain ⟨⟨i, rfl, hi⟩, ha1, ha2⟩ := wide_of HA.out
      obtain ⟨⟨j, rfl, hj⟩, hb1, hb2⟩ := wide_of hbw
      rw [Int.toNat_natCast, Int.toNat_natCast] at e
      have hx := HV.out i j hi hj
      have hy := HB.out i j hi hj
      obtain ⟨x, hf⟩ : ∃ x, f i j = x := ⟨_, rfl⟩
      rw [hf] at hx hy e
      subst e
      have cx := D3.out.at (i := i) (j := j) (by omega) (by omega) hx
      have hw1 : IntKind.i64.wrap (x + ac) = x + ac := IntWalk.i64_in _ (by omega)
      have hw2 : IntKind.i64.wrap (x + ac - bc) = x + ac - bc := IntWalk.i64_in _ (by omega)
      have a1 : (i : Int) < 13 := by omega
      have a2 : (j : Int) < 13 := by omega
      obtain ⟨p0, p1, p2, p3⟩ := P3.out
      obtain ⟨q0, q1, q2, q3⟩ := Q3.out
      clear N1 N2 YY HA hbw hf hx hy hi hj ha1 ha2 hb1 hb2 HV HB
      go_wp2_with fail
      go_region_held3 (fun u => u.cell? ⟨w.heap.size + 1, 0, none⟩ = some (.int .i64 i) ∧ u.cell? ⟨w.heap.size + 1, 1, none⟩ = some (.int .i64 ac) ∧ u.cell? ⟨w.heap.size + 2, 0, none⟩ = some (.int .i64 j) ∧ u.cell? ⟨w.heap.size + 2, 1, none⟩ = some (.int .i64 bc) ∧ u.cell? ⟨w.heap.size, 1 + i * 13 + j, none⟩ = some (.int .i64 x))
        (first | exact ⟨p0, p1, q0, q1, cx⟩)
        (fail)
      go_wp2
      exact bodyPost_ret (v := .tuple #[.int .i64 (x + ac - bc), .bool true]) (by simp [results, Try.results81, go_sem]) rfl ⟨rfl, B3.out.drew⟩
set_option maxRecDepth 100000 in
set_option maxHeartbeats 800000 in
theorem mostOf_none (av ac bv bc : Int) (w : World) : Calls Try.prog 81 #[.agg (dA 0 zs), .agg #[.int .i64 av, .int .i64 ac], .agg #[.int .i64 bv, .int .i64 bc]] w fun e w' => e = .returned (.tuple #[.int .i64 0, .bool false]) ∧ Below w.heap.size w w' := by
  have B0 := mkHid ((((Below.refl w.heap.size w).alloc (Nat.le_refl _) (.cells (dA 0 zs) 73)).alloc (by simp) (.cells #[.int .i64 av, .int .i64 ac] 46)).alloc (by simp; omega) (.cells #[.int .i64 bv, .int .i64 bc] 46))
  have D0 := mkHid (((Dif.new w (n := 0) zs_len 73).alloc (.cells #[.int .i64 av, .int .i64 ac] 46)).alloc (.cells #[.int .i64 bv, .int .i64 bc] 46))
  have P0 : Hid (Box (((w.alloc (.cells (dA 0 zs) 73)).alloc (.cells #[.int .i64 av, .int .i64 ac] 46)).alloc (.cells #[.int .i64 bv, .int .i64 bc] 46)) (w.heap.size + 1) av ac) := mkHid (by have := (Box.new' (w.alloc (.cells (dA 0 zs) 73)) av ac 46).below ((Below.refl _ _).alloc (Nat.le_refl _) (.cells #[.int .i64 bv, .int .i64 bc] 46)); simpa using this)
  have HW : Hid (∀ v c u, Calls Try.prog 79 #[.int .i64 0, .agg #[.int .i64 v, .int .i64 c]] u fun e w' => e = .returned (.bool false) ∧ Below u.heap.size u w') := mkHid fun v c u => by have := wide_any 0 (by omega) v c u; rw [show (symB v (0 : Nat) && offB c) = false from wide_zero v c] at this; exact this
  obtain ⟨G, hG⟩ : ∃ G, zs = G := ⟨_, rfl⟩
  rw [hG] at B0 D0 P0
  rw [hG]
  clear hG
  have h0 := dA0 0 G
  go_enter Try.func81, Try.ntmps81
  go_wp2_with fail
  refine (HW.out av ac _).mono ?_
  rintro e w2 ⟨rfl, hb2⟩
  have B2 := mkHid (below_step B0.out hb2)
  clear hb2 B0 D0 P0
  go_wp2
  exact bodyPost_ret (v := .tuple #[.int .i64 0, .bool false]) (by simp [results, Try.results81, go_sem]) rfl ⟨rfl, B2.out⟩
theorem mostOfD (n : Nat) (o : Option Tab) (ho : GoodO n o) (av ac bv bc : Int) (w : World) : Calls Try.prog 81 #[.agg (D n o), .agg #[.int .i64 av, .int .i64 ac], .agg #[.int .i64 bv, .int .i64 bc]] w fun e w' => e = .returned (.tuple #[.int .i64 (mostO o n av ac bv bc).1, .bool (mostO o n av ac bv bc).2]) ∧ Below w.heap.size w w' := by
  cases o with
  | none => exact mostOf_none av ac bv bc w
  | some f =>
    obtain ⟨h1, h2, h3⟩ := ho f rfl
    exact mostOf_some n f h1 h2 h3 av ac bv bc w
set_option maxRecDepth 100000 in
set_option maxHeartbeats 1600000 in
theorem iSymMost_any (z : Int) (l : List Int) (a : Option Addr) (c0 : Nat) (av ac bv bc : Int) (w : World) (hc : l.length ≤ c0) (hl : IntsAt w a l) : Calls Try.prog 38 #[.agg #[.int .i64 z, .slice a l.length c0], .agg #[.int .i64 av, .int .i64 ac], .agg #[.int .i64 bv, .int .i64 bc]] w fun e w' => e = .returned (.tuple #[.int .i64 (mostF z l av ac bv bc).1, .bool (mostF z l av ac bv bc).2]) ∧ Below w.heap.size w w' := by
  have HL := mkHid hl
  have HC := mkHid hc
  have B0 := mkHid ((((Below.refl w.heap.size w).alloc (Nat.le_refl _) (.cells #[.int .i64 z, .slice a l.length c0] 27)).alloc (by simp) (.cells #[.int .i64 av, .int .i64 ac] 46)).alloc (by simp; omega) (.cells #[.int .i64 bv, .int .i64 bc] 46))
  have T0 : Hid (Fc (((w.alloc (.cells #[.int .i64 z, .slice a l.length c0] 27)).alloc (.cells #[.int .i64 av, .int .i64 ac] 46)).alloc (.cells #[.int .i64 bv, .int .i64 bc] 46)) w.heap.size z a l.length c0) := mkHid (((Fc.new w z a l.length c0 27).alloc _).alloc _)
  have P0 : Hid (Box (((w.alloc (.cells #[.int .i64 z, .slice a l.length c0] 27)).alloc (.cells #[.int .i64 av, .int .i64 ac] 46)).alloc (.cells #[.int .i64 bv, .int .i64 bc] 46)) (w.heap.size + 1) av ac) := mkHid (by have := (Box.new' (w.alloc (.cells #[.int .i64 z, .slice a l.length c0] 27)) av ac 46).below ((Below.refl _ _).alloc (Nat.le_refl _) (.cells #[.int .i64 bv, .int .i64 bc] 46)); simpa using this)
  have Q0 : Hid (Box (((w.alloc (.cells #[.int .i64 z, .slice a l.length c0] 27)).alloc (.cells #[.int .i64 av, .int .i64 ac] 46)).alloc (.cells #[.int .i64 bv, .int .i64 bc] 46)) (w.heap.size + 2) bv bc) := mkHid (by have := Box.new' ((w.alloc (.cells #[.int .i64 z, .slice a l.length c0] 27)).alloc (.cells #[.int .i64 av, .int .i64 ac] 46)) bv bc 46; simpa using this)
  have HD : Hid (∀ v, IntsAt v a l → Calls Try.prog 54 #[.agg #[.int .i64 z, .slice a l.length c0]] v fun e w' => e = .returned (.agg (D z.toNat (okO z l))) ∧ Below v.heap.size v w') := mkHid fun v hv => diffsD z l a c0 v HC.out hv
  have HCL : Hid (∀ v, Calls Try.prog 55 #[.agg (D z.toNat (okO z l))] v fun e w' => e = .returned (.agg (D z.toNat ((okO z l).bind (cloO z.toNat)))) ∧ Below v.heap.size v w') := mkHid fun v => closedD z.toNat (okO z l) (okO_fine z l).good v
  have HMO : Hid (∀ v, Calls Try.prog 81 #[.agg (D z.toNat ((okO z l).bind (cloO z.toNat))), .agg #[.int .i64 av, .int .i64 ac], .agg #[.int .i64 bv, .int .i64 bc]] v fun e w' => e = .returned (.tuple #[.int .i64 (mostF z l av ac bv bc).1, .bool (mostF z l av ac bv bc).2]) ∧ Below v.heap.size v w') := mkHid fun v => mostOfD z.toNat _ (clo_fineO (okO_fine z l)).good av ac bv bc v
  obtain ⟨P, hP⟩ : ∃ P, mostF z l av ac bv bc = P := ⟨_, rfl⟩
  rw [hP] at HMO
  rw [hP]
  obtain ⟨x, y⟩ := P
  obtain ⟨D1, hD1⟩ : ∃ D1, D z.toNat (okO z l) = D1 := ⟨_, rfl⟩
  rw [hD1] at HD HCL
  obtain ⟨D2, hD2⟩ : ∃ D2, D z.toNat ((okO z l).bind (cloO z.toNat)) = D2 := ⟨_, rfl⟩
  rw [hD2] at HCL HMO
  obtain ⟨w1, hw1⟩ : ∃ w1, ((w.alloc (.cells #[.int .i64 z, .slice a l.length c0] 27)).alloc (.cells #[.int .i64 av, .int .i64 ac] 46)).alloc (.cells #[.int .i64 bv, .int .i64 bc] 46) = w1 := ⟨_, rfl⟩
  rw [hw1] at B0 T0 P0 Q0
  have HW1 := mkHid hw1
  clear hP hD1 hD2 hw1 hc hl
  go_enter Try.func38, Try.ntmps38
  go_wp2_with fail
  rw [HW1.out]
  refine wp_region_inv2 (fun zA0 L zA v => ∃ (zB : Nat → Bool) (zS : Nat → Value), L = #[zB 0, zB 1, zB 2, zB 3, zB 4, zB 5, zB 6, zB 7, zB 8, zB 9] ∧ zA = puts zA0 [(8, zS 8), (9, zS 9), (10, zS 10), (11, zS 11), (12, zS 12), (13, zS 13), (14, zS 14), (15, zS 15), (6, zS 6), (7, zS 7)] ∧ ((zB 0 = true → zS 8 = .agg #[.int .i64 z, .slice a l.length c0]) ∧ (zB 1 = true → zS 9 = .agg D1) ∧ (zB 2 = true → zS 10 = .agg D2) ∧ (zB 3 = true → zS 11 = .agg #[.int .i64 av, .int .i64 ac]) ∧ (zB 4 = true → zS 12 = .agg #[.int .i64 bv, .int .i64 bc]) ∧ (zB 5 = true → zS 13 = .tuple #[.int .i64 x, .bool y]) ∧ (zB 6 = true → zS 14 = .int .i64 x) ∧ (zB 7 = true → zS 15 = .bool y) ∧ (zB 8 = true → zS 6 = .int .i64 x) ∧ (zB 9 = true → zS 7 = .bool y)) ∧ Below w1.heap.size w1 v) (by kernel_rfl) ?_ ?_ ?_
  · exact ⟨fun _ => false, fun zd => if zd = 7 then .bool false else if zd = 6 then .int .i64 0 else undef, rfl, by kernel_rfl, ⟨fun e => ft e, fun e => ft e, fun e => ft e, fun e => ft e, fun e => ft e, fun e => ft e, fun e => ft e, fun e => ft e, fun e => ft e, fun e => ft e⟩, (Below.refl _ _).drew⟩
  · refine StepsI.cons rfl ?_ ?_
    · rintro L zA v ⟨zB, zS, rfl, rfl, hF, hW⟩ hL hm K hK
      have hb0 : zB 0 = false := by simpa using hL
      clear hL hm
      simp only [puts, Act.put, List.setIfInBounds_toArray, List.set_cons_zero, List.set_cons_succ]
      obtain ⟨q0, q1⟩ := T0.out.below hW
      go_simp
      exact hK.out _ _ ⟨fun zj => if zj = 0 then true else zB zj, fun zd => if zd = 8 then .agg #[.int .i64 z, .slice a l.length c0] else zS zd, rfl, by kernel_rfl, ⟨fun _ => rfl, hF.2.1, hF.2.2.1, hF.2.2.2.1, hF.2.2.2.2.1, hF.2.2.2.2.2.1, hF.2.2.2.2.2.2.1, hF.2.2.2.2.2.2.2.1, hF.2.2.2.2.2.2.2.2.1, hF.2.2.2.2.2.2.2.2.2⟩, hW⟩
    refine StepsI.cons rfl ?_ ?_
    · rintro L zA v ⟨zB, zS, rfl, rfl, hF, hW⟩ hL hm K hK
      have hb1 : zB 1 = false := by simpa using hL
      have hb0 : zB 0 = true := by cases e : zB 0 with | false => (exfalso; revert hm; simp [metB, Region.binds, e]) | true => rfl
      have e0 : zS 8 = .agg #[.int .i64 z, .slice a l.length c0] := hF.1 hb0
      clear hL hm
      simp only [puts, Act.put, List.setIfInBounds_toArray, List.set_cons_zero, List.set_cons_succ]
      simp only [e0]
      go_simp
      refine (HD.out _ (HL.out.below (below_step B0.out hW))).mono ?_
      rintro e v2 ⟨rfl, hb⟩
      go_wp2_with fail
      exact hK.out _ _ ⟨fun zj => if zj = 0 then true else if zj = 1 then true else zB zj, fun zd => if zd = 9 then .agg D1 else if zd = 8 then .agg #[.int .i64 z, .slice a l.length c0] else zS zd, by simp [hb0], by kernel_rfl, ⟨fun _ => rfl, fun _ => rfl, hF.2.2.1, hF.2.2.2.1, hF.2.2.2.2.1, hF.2.2.2.2.2.1, hF.2.2.2.2.2.2.1, hF.2.2.2.2.2.2.2.1, hF.2.2.2.2.2.2.2.2.1, hF.2.2.2.2.2.2.2.2.2⟩, below_step hW hb⟩
    refine StepsI.cons rfl ?_ ?_
    · rintro L zA v ⟨zB, zS, rfl, rfl, hF, hW⟩ hL hm K hK
      have hb2 : zB 2 = false := by simpa using hL
      have hb1 : zB 1 = true := by cases e : zB 1 with | false => (exfalso; revert hm; simp [metB, Region.binds, e]) | true => rfl
      have e1 : zS 9 = .agg D1 := hF.2.1 hb1
      clear hL hm
      simp only [puts, Act.put, List.setIfInBounds_toArray, List.set_cons_zero, List.set_cons_succ]
      simp only [e1]
      go_simp
      refine (HCL.out _).mono ?_
      rintro e v2 ⟨rfl, hb⟩
      go_wp2_with fail
      exact hK.out _ _ ⟨fun zj => if zj = 1 then true else if zj = 2 then true else zB zj, fun zd => if zd = 10 then .agg D2 else if zd = 9 then .agg D1 else zS zd, by simp [hb1], by kernel_rfl, ⟨hF.1, fun _ => rfl, fun _ => rfl, hF.2.2.2.1, hF.2.2.2.2.1, hF.2.2.2.2.2.1, hF.2.2.2.2.2.2.1, hF.2.2.2.2.2.2.2.1, hF.2.2.2.2.2.2.2.2.1, hF.2.2.2.2.2.2.2.2.2⟩, below_step hW hb⟩
    refine StepsI.cons rfl ?_ ?_
    · rintro L zA v ⟨zB, zS, rfl, rfl, hF, hW⟩ hL hm K hK
      have hb3 : zB 3 = false := by simpa using hL
      clear hL hm
      simp only [puts, Act.put, List.setIfInBounds_toArray, List.set_cons_zero, List.set_cons_succ]
      obtain ⟨q0, q1, q2, q3⟩ := P0.out.below hW
      go_simp
      exact hK.out _ _ ⟨fun zj => if zj = 3 then true else zB zj, fun zd => if zd = 11 then .agg #[.int .i64 av, .int .i64 ac] else zS zd, rfl, by kernel_rfl, ⟨hF.1, hF.2.1, hF.2.2.1, fun _ => rfl, hF.2.2.2.2.1, hF.2.2.2.2.2.1, hF.2.2.2.2.2.2.1, hF.2.2.2.2.2.2.2.1, hF.2.2.2.2.2.2.2.2.1, hF.2.2.2.2.2.2.2.2.2⟩, hW⟩
    refine StepsI.cons rfl ?_ ?_
    · rintro L zA v ⟨zB, zS, rfl, rfl, hF, hW⟩ hL hm K hK
      have hb4 : zB 4 = false := by simpa using hL
      clear hL hm
      simp only [puts, Act.put, List.setIfInBounds_toArray, List.set_cons_zero, List.set_cons_succ]
      obtain ⟨q0, q1, q2, q3⟩ := Q0.out.below hW
      go_simp
      exact hK.out _ _ ⟨fun zj => if zj = 4 then true else zB zj, fun zd => if zd = 12 then .agg #[.int .i64 bv, .int .i64 bc] else zS zd, rfl, by kernel_rfl, ⟨hF.1, hF.2.1, hF.2.2.1, hF.2.2.2.1, fun _ => rfl, hF.2.2.2.2.2.1, hF.2.2.2.2.2.2.1, hF.2.2.2.2.2.2.2.1, hF.2.2.2.2.2.2.2.2.1, hF.2.2.2.2.2.2.2.2.2⟩, hW⟩
    refine StepsI.cons rfl ?_ ?_
    · rintro L zA v ⟨zB, zS, rfl, rfl, hF, hW⟩ hL hm K hK
      have hb5 : zB 5 = false := by simpa using hL
      have hb2 : zB 2 = true := by cases e : zB 2 with | false => (exfalso; revert hm; simp [metB, Region.binds, e]) | true => rfl
      have hb3 : zB 3 = true := by cases e : zB 3 with | false => (exfalso; revert hm; simp [metB, Region.binds, e]) | true => rfl
      have hb4 : zB 4 = true := by cases e : zB 4 with | false => (exfalso; revert hm; simp [metB, Region.binds, e]) | true => rfl
      have e2 : zS 10 = .agg D2 := hF.2.2.1 hb2
      have e3 : zS 11 = .agg #[.int .i64 av, .int .i64 ac] := hF.2.2.2.1 hb3
      have e4 : zS 12 = .agg #[.int .i64 bv, .int .i64 bc] := hF.2.2.2.2.1 hb4
      clear hL hm
      simp only [puts, Act.put, List.setIfInBounds_toArray, List.set_cons_zero, List.set_cons_succ]
      simp only [e2, e3, e4]
      go_simp
      refine (HMO.out _).mono ?_
      rintro e v2 ⟨rfl, hb⟩
      go_wp2_with fail
      exact hK.out _ _ ⟨fun zj => if zj = 4 then true else if zj = 3 then true else if zj = 2 then true else if zj = 5 then true else zB zj, fun zd => if zd = 13 then .tuple #[.int .i64 x, .bool y] else if zd = 12 then .agg #[.int .i64 bv, .int .i64 bc] else if zd = 11 then .agg #[.int .i64 av, .int .i64 ac] else if zd = 10 then .agg D2 else zS zd, by simp [hb2, hb3, hb4], by kernel_rfl, ⟨hF.1, hF.2.1, fun _ => rfl, fun _ => rfl, fun _ => rfl, fun _ => rfl, hF.2.2.2.2.2.2.1, hF.2.2.2.2.2.2.2.1, hF.2.2.2.2.2.2.2.2.1, hF.2.2.2.2.2.2.2.2.2⟩, below_step hW hb⟩
    refine StepsI.cons rfl ?_ ?_
    · rintro L zA v ⟨zB, zS, rfl, rfl, hF, hW⟩ hL hm K hK
      have hb6 : zB 6 = false := by simpa using hL
      have hb5 : zB 5 = true := by cases e : zB 5 with | false => (exfalso; revert hm; simp [metB, Region.binds, e]) | true => rfl
      have e5 : zS 13 = .tuple #[.int .i64 x, .bool y] := hF.2.2.2.2.2.1 hb5
      clear hL hm
      simp only [puts, Act.put, List.setIfInBounds_toArray, List.set_cons_zero, List.set_cons_succ]
      simp only [e5]
      go_simp
      exact hK.out _ _ ⟨fun zj => if zj = 5 then true else if zj = 6 then true else zB zj, fun zd => if zd = 14 then .int .i64 x else if zd = 13 then .tuple #[.int .i64 x, .bool y] else zS zd, by simp [hb5], by kernel_rfl, ⟨hF.1, hF.2.1, hF.2.2.1, hF.2.2.2.1, hF.2.2.2.2.1, fun _ => rfl, fun _ => rfl, hF.2.2.2.2.2.2.2.1, hF.2.2.2.2.2.2.2.2.1, hF.2.2.2.2.2.2.2.2.2⟩, hW⟩
    refine StepsI.cons rfl ?_ ?_
    · rintro L zA v ⟨zB, zS, rfl, rfl, hF, hW⟩ hL hm K hK
      have hb7 : zB 7 = false := by simpa using hL
      have hb5 : zB 5 = true := by cases e : zB 5 with | false => (exfalso; revert hm; simp [metB, Region.binds, e]) | true => rfl
      have e5 : zS 13 = .tuple #[.int .i64 x, .bool y] := hF.2.2.2.2.2.1 hb5
      clear hL hm
      simp only [puts, Act.put, List.setIfInBounds_toArray, List.set_cons_zero, List.set_cons_succ]
      simp only [e5]
      go_simp
      exact hK.out _ _ ⟨fun zj => if zj = 5 then true else if zj = 7 then true else zB zj, fun zd => if zd = 15 then .bool y else if zd = 13 then .tuple #[.int .i64 x, .bool y] else zS zd, by simp [hb5], by kernel_rfl, ⟨hF.1, hF.2.1, hF.2.2.1, hF.2.2.2.1, hF.2.2.2.2.1, fun _ => rfl, hF.2.2.2.2.2.2.1, fun _ => rfl, hF.2.2.2.2.2.2.2.2.1, hF.2.2.2.2.2.2.2.2.2⟩, hW⟩
    refine StepsI.cons rfl ?_ ?_
    · rintro L zA v ⟨zB, zS, rfl, rfl, hF, hW⟩ hL hm K hK
      have hb8 : zB 8 = false := by simpa using hL
      have hb6 : zB 6 = true := by cases e : zB 6 with | false => (exfalso; revert hm; simp [metB, Region.binds, e]) | true => rfl
      have e6 : zS 14 = .int .i64 x := hF.2.2.2.2.2.2.1 hb6
      clear hL hm
      simp only [puts, Act.put, List.setIfInBounds_toArray, List.set_cons_zero, List.set_cons_succ]
      simp only [e6]
      go_simp
      exact hK.out _ _ ⟨fun zj => if zj = 6 then true else if zj = 8 then true else zB zj, fun zd => if zd = 6 then .int .i64 x else if zd = 14 then .int .i64 x else zS zd, by simp [hb6], by kernel_rfl, ⟨hF.1, hF.2.1, hF.2.2.1, hF.2.2.2.1, hF.2.2.2.2.1, hF.2.2.2.2.2.1, fun _ => rfl, hF.2.2.2.2.2.2.2.1, fun _ => rfl, hF.2.2.2.2.2.2.2.2.2⟩, hW⟩
    refine StepsI.cons rfl ?_ ?_
    · rintro L zA v ⟨zB, zS, rfl, rfl, hF, hW⟩ hL hm K hK
      have hb9 : zB 9 = false := by simpa using hL
      have hb7 : zB 7 = true := by cases e : zB 7 with | false => (exfalso; revert hm; simp [metB, Region.binds, e]) | true => rfl
      have e7 : zS 15 = .bool y := hF.2.2.2.2.2.2.2.1 hb7
      clear hL hm
      simp only [puts, Act.put, List.setIfInBounds_toArray, List.set_cons_zero, List.set_cons_succ]
      simp only [e7]
      go_simp
      exact hK.out _ _ ⟨fun zj => if zj = 7 then true else if zj = 9 then true else zB zj, fun zd => if zd = 7 then .bool y else if zd = 15 then .bool y else zS zd, by simp [hb7], by kernel_rfl, ⟨hF.1, hF.2.1, hF.2.2.1, hF.2.2.2.1, hF.2.2.2.2.1, hF.2.2.2.2.2.1, hF.2.2.2.2.2.2.1, fun _ => rfl, hF.2.2.2.2.2.2.2.2.1, fun _ => rfl⟩, hW⟩
    exact StepsI.nil (by kernel_rfl)
  · rintro L zA v ⟨zB, zS, rfl, rfl, hF, hW⟩ hr
    have hu := all_up (by kernel_rfl) (N := 10) (by kernel_rfl) hr
    have hb0 : zB 0 = true := by simpa using hu 0 (by decide)
    have hb1 : zB 1 = true := by simpa using hu 1 (by decide)
    have hb2 : zB 2 = true := by simpa using hu 2 (by decide)
    have hb3 : zB 3 = true := by simpa using hu 3 (by decide)
    have hb4 : zB 4 = true := by simpa using hu 4 (by decide)
    have hb5 : zB 5 = true := by simpa using hu 5 (by decide)
    have hb6 : zB 6 = true := by simpa using hu 6 (by decide)
    have hb7 : zB 7 = true := by simpa using hu 7 (by decide)
    have hb8 : zB 8 = true := by simpa using hu 8 (by decide)
    have hb9 : zB 9 = true := by simpa using hu 9 (by decide)
    have e0 : zS 8 = .agg #[.int .i64 z, .slice a l.length c0] := hF.1 hb0
    have e1 : zS 9 = .agg D1 := hF.2.1 hb1
    have e2 : zS 10 = .agg D2 := hF.2.2.1 hb2
    have e3 : zS 11 = .agg #[.int .i64 av, .int .i64 ac] := hF.2.2.2.1 hb3
    have e4 : zS 12 = .agg #[.int .i64 bv, .int .i64 bc] := hF.2.2.2.2.1 hb4
    have e5 : zS 13 = .tuple #[.int .i64 x, .bool y] := hF.2.2.2.2.2.1 hb5
    have e6 : zS 14 = .int .i64 x := hF.2.2.2.2.2.2.1 hb6
    have e7 : zS 15 = .bool y := hF.2.2.2.2.2.2.2.1 hb7
    have e8 : zS 6 = .int .i64 x := hF.2.2.2.2.2.2.2.2.1 hb8
    have e9 : zS 7 = .bool y := hF.2.2.2.2.2.2.2.2.2 hb9
    clear hu hr hF
    simp only [puts, Act.put, List.setIfInBounds_toArray, List.set_cons_zero, List.set_cons_succ]
    simp only [e0, e1, e2, e3, e4, e5, e6, e7, e8, e9]
    clear e0 e1 e2 e3 e4 e5 e6 e7 e8 e9
    clear hb0 hb1 hb2 hb3 hb4 hb5 hb6 hb7 hb8 hb9
    clear zB zS
    have HB := mkHid (below_step B0.out hW)
    clear hW
    go_wp2
    exact bodyPost_ret (v := .tuple #[.int .i64 x, .bool y]) (by simp [results, Try.results38, go_sem]) rfl ⟨rfl, HB.out⟩
set_option maxRecDepth 100000 in
set_option maxHeartbeats 800000 in
theorem l08Most_any (n : Nat) (f : Tab) (h2 : n ≤ 13) (hb : Bd n f 10000000) (a : Option Addr) (c0 : Nat) (i j : Nat) (hi : i < n) (hj : j < n) (ac bc : Int) (ha : -2000000 ≤ ac ∧ ac ≤ 2000000) (hbc : -2000000 ≤ bc ∧ bc ≤ 2000000) (w : World) (hl : IntsAt w a (mk n f)) : Calls Try.prog 80 #[.agg #[.int .i64 n, .slice a (mk n f).length c0], .agg #[.int .i64 i, .int .i64 ac], .agg #[.int .i64 j, .int .i64 bc]] w fun e w' => e = .returned (.int .i64 (f i j + ac - bc)) ∧ Below w.heap.size w w' := by
  have B0 := mkHid ((((Below.refl w.heap.size w).alloc (Nat.le_refl _) (.cells #[.int .i64 n, .slice a (mk n f).length c0] 27)).alloc (by simp) (.cells #[.int .i64 i, .int .i64 ac] 46)).alloc (by simp; omega) (.cells #[.int .i64 j, .int .i64 bc] 46))
  have T0 : Hid (Fc (((w.alloc (.cells #[.int .i64 n, .slice a (mk n f).length c0] 27)).alloc (.cells #[.int .i64 i, .int .i64 ac] 46)).alloc (.cells #[.int .i64 j, .int .i64 bc] 46)) w.heap.size n a (mk n f).length c0) := mkHid (((Fc.new w n a (mk n f).length c0 27).alloc _).alloc _)
  have P0 : Hid (Box (((w.alloc (.cells #[.int .i64 n, .slice a (mk n f).length c0] 27)).alloc (.cells #[.int .i64 i, .int .i64 ac] 46)).alloc (.cells #[.int .i64 j, .int .i64 bc] 46)) (w.heap.size + 1) i ac) := mkHid (by have := (Box.new' (w.alloc (.cells #[.int .i64 n, .slice a (mk n f).length c0] 27)) i ac 46).below ((Below.refl _ _).alloc (Nat.le_refl _) (.cells #[.int .i64 j, .int .i64 bc] 46)); simpa using this)
  have Q0 : Hid (Box (((w.alloc (.cells #[.int .i64 n, .slice a (mk n f).length c0] 27)).alloc (.cells #[.int .i64 i, .int .i64 ac] 46)).alloc (.cells #[.int .i64 j, .int .i64 bc] 46)) (w.heap.size + 2) j bc) := mkHid (by have := Box.new' ((w.alloc (.cells #[.int .i64 n, .slice a (mk n f).length c0] 27)).alloc (.cells #[.int .i64 i, .int .i64 ac] 46)) j bc 46; simpa using this)
  rw [mk_len] at B0 T0 P0 Q0
  have hlen := mk_len n f
  have hlt := idx_lt hi hj
  obtain ⟨b, o, rfl, cx0⟩ := IntsAt.get' (hl.below B0.out) (k := i * n + j) (by rw [mk_len]; exact hlt)
  have hv : (mk n f).getD (i * n + j) 0 = f i j := mk_V n f i j hi hj
  have hy := hb i j hi hj
  rw [hv] at cx0
  obtain ⟨x, hf⟩ : ∃ x, f i j = x := ⟨_, rfl⟩
  rw [hf] at cx0 hy
  rw [hf]
  have hsq := sq_le h2
  have hm1 : IntKind.i64.wrap ((i : Int) * (n : Int)) = ((i * n : Nat) : Int) := by rw [Int.natCast_mul]; refine IntWalk.i64_in _ ?_; rw [← Int.natCast_mul]; omega
  have hm2 : IntKind.i64.wrap (((i * n : Nat) : Int) + (j : Int)) = ((i * n + j : Nat) : Int) := by rw [Int.natCast_add]; refine IntWalk.i64_in _ ?_; omega
  have hw1 : IntKind.i64.wrap (x + ac) = x + ac := IntWalk.i64_in _ (by omega)
  have hw2 : IntKind.i64.wrap (x + ac - bc) = x + ac - bc := IntWalk.i64_in _ (by omega)
  have hqs : ((i * n + j : Nat) : Int) < ((n * n : Nat) : Int) := by omega
  obtain ⟨q, hq⟩ : ∃ q, i * n + j = q := ⟨_, rfl⟩
  rw [hq] at hm2 cx0 hlt hqs
  obtain ⟨q', hq'⟩ : ∃ q', i * n = q' := ⟨_, rfl⟩
  rw [hq'] at hm1 hm2
  obtain ⟨s, hs⟩ : ∃ s, n * n = s := ⟨_, rfl⟩
  rw [hs] at hqs B0 T0 P0 Q0 cx0 hlen
  rw [hlen]
  obtain ⟨t0, t1⟩ := T0.out
  obtain ⟨p0, p1, p2, p3⟩ := P0.out
  obtain ⟨r0, r1, r2, r3⟩ := Q0.out
  obtain ⟨w1, hw⟩ : ∃ w1, ((w.alloc (.cells #[.int .i64 n, .slice (some ⟨b, o, none⟩) s c0] 27)).alloc (.cells #[.int .i64 i, .int .i64 ac] 46)).alloc (.cells #[.int .i64 j, .int .i64 bc] 46) = w1 := ⟨_, rfl⟩
  rw [hw] at B0 t0 t1 p0 p1 p2 p3 r0 r1 r2 r3 cx0
  have HW := mkHid hw
  clear hl hb hv hf hsq hy hlen ha hbc hi hj h2 hlt hq hq' hs hw T0 P0 Q0
  go_enter Try.func80, Try.ntmps80
  go_wp2_with fail
  rw [HW.out]
  go_region_held3 (fun u => u.cell? ⟨w.heap.size, 0, none⟩ = some (.int .i64 n) ∧ u.cell? ⟨w.heap.size, 1, none⟩ = some (.slice (some ⟨b, o, none⟩) s c0) ∧ u.cell? ⟨w.heap.size + 1, 0, none⟩ = some (.int .i64 i) ∧ u.cell? ⟨w.heap.size + 1, 1, none⟩ = some (.int .i64 ac) ∧ u.cell? ⟨w.heap.size + 2, 0, none⟩ = some (.int .i64 j) ∧ u.cell? ⟨w.heap.size + 2, 1, none⟩ = some (.int .i64 bc) ∧ u.cell? ⟨b, o + q, none⟩ = some (.int .i64 x))
    (first | exact ⟨t0, t1, p0, p1, r0, r1, cx0⟩)
    (fail)
  go_wp2
  go_ret
  exact ⟨rfl, B0.out.drew⟩
end Go.Proofs.Ytmaejdomlggopaa
