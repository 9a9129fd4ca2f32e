/-
  FnVals holds at every two rows of bytes, the tables and errors of the library being as its text lays them (the card ties them to it): no other conditions.
-/
import Derived.Test.YtiihjoliodemmaaDoorQPv
import Derived.Test.YtiihjoliodemmaaDoorQVwi
import Derived.Test.YtiihjoliodemmaaDoorQDw
import Derived.Test.YtiihjoliodemmaaDoorVz
import Derived.Test.YtiihjoliodemmaaDoorEn
import Derived.Deep.Cut
import Derived.Deep.CutRange
namespace Go.Proofs.YtiihjoliodemmaaDoor.Q
open Go.RowKit

theorem Bytes.up2 {w w' : World} {a : Option Addr} {n : Nat} (h : Bytes w w.heap.size a n) (hb : Below w.heap.size w w') : Bytes w' w'.heap.size a n := h.up hb.size hb
theorem IntsIn.below2 {w w' : World} {l : List Int} {b off : Nat} (h : IntsIn w l b off) (hb : Below w.heap.size w w') : IntsIn w' l b off := h.below hb
theorem ok_same (a b : Int) : okB a b = Go.Proofs.YtiihjoliodemmaaDoor.okB a b := rfl
theorem iVtext_b (a b : Int) (s : Bool) (w : World) (hE : Env w) : Calls Tryd.prog 15 #[.agg #[.int .i64 a, .int .i64 b, .bool s]] w fun e w' => e = .returned (.string (textV a b s)) ∧ Below w.heap.size w w' := iVtext_any a b s w hE.tab
/-- What is written is read back. -/
theorem iVread_b (a b : Int) (s : Bool) (hok : okB a b = true) (w : World) (hE : Env w) : Calls Tryd.prog 17 #[.string (textV a b s)] w fun e w' => e = .returned (.tuple #[.agg #[.int .i64 a, .int .i64 b, .bool s], .bool true]) ∧ Below w.heap.size w w' := by
  have hsz : (textV a b s).size ≤ 1048576 := by
    have := textV_short (s := s) ((ok_same a b).symm.trans hok)
    omega
  refine (iVread_any (textV a b s) w hE hsz).mono ?_
  rintro e w' ⟨r, rfl, hr, hb⟩
  have h2 : ReadsV (textV a b s).data.toList (some (a, b, s)) := ⟨(ok_same a b).symm.trans hok, rfl⟩
  have e := readsV_same hr h2
  subst e
  exact ⟨rfl, hb⟩
set_option maxRecDepth 100000 in
set_option maxHeartbeats 12800000 in
theorem vals_walk (a1 a2 : Option Addr) (n1 c1 n2 c2 : Nat) (w : World) (hE : Env w) (hn1 : n1 ≤ maxLen) (hn2 : n2 ≤ maxLen) (hb1 : Bytes w w.heap.size a1 n1) (hb2 : Bytes w w.heap.size a2 n2) : Calls Tryd.prog 9 #[.slice a1 n1 c1, .slice a2 n2 c2] w fun e w' => e = .returned (.bool true) ∧ Below w.heap.size w w' := by
  have HE := mkHid hE
  have HM0 := mkHid hb2
  have HB0 := mkHid hb1
  have HN1 := mkHid hn1
  have HN2 := mkHid hn2
  clear hE hb1 hb2 hn1 hn2
  by_cases g1 : 1048576 < n1
  · have e1 : decide (1048576 < n1) = true := decide_eq_true g1
    go_enter Tryd.func9, Tryd.ntmps9
    go_wp2_with fail
    refine (big_any n1 _ _ _ HN1.out).mono ?_
    rintro e w' ⟨rfl, rfl⟩
    go_wp2
    go_ret
    exact ⟨rfl, Below.refl _ _⟩
  have e1 : decide (1048576 < n1) = false := decide_eq_false g1
  by_cases g2 : 1048576 < n2
  · have e2 : decide (1048576 < n2) = true := decide_eq_true g2
    go_enter Tryd.func9, Tryd.ntmps9
    go_wp2_with fail
    refine (big_any n1 _ _ _ HN1.out).mono ?_
    rintro e w' ⟨rfl, rfl⟩
    go_wp2_with fail
    refine (big_any n2 _ _ _ HN2.out).mono ?_
    rintro e w' ⟨rfl, rfl⟩
    go_wp2
    go_ret
    exact ⟨rfl, Below.refl _ _⟩
  have e2 : decide (1048576 < n2) = false := decide_eq_false g2
  have HM1 := mkHid (show n1 ≤ 1048576 by omega)
  have HM2 := mkHid (show n2 ≤ 1048576 by omega)
  clear g1 g2
  have hEQ := eql_val
  have hNQ := neq_val
  go_enter Tryd.func9, Tryd.ntmps9
  go_wp2_with fail
  refine (big_any n1 _ _ _ HN1.out).mono ?_
  rintro e w' ⟨rfl, rfl⟩
  go_wp2_with fail
  refine (big_any n2 _ _ _ HN2.out).mono ?_
  rintro e w' ⟨rfl, rfl⟩
  have BE := mkHid (Below.refl w.heap.size w)
  have HM := HM0
  go_wp2_with fail
  refine (drawJoin_any n1 c1 a1 w HM1.out HB0.out).mono ?_
  rintro e w1 ⟨a, b, s, c, d, t, rfl, hb⟩
  have BE := mkHid (below_step BE.out hb)
  have HM := mkHid (Bytes.up2 HM.out hb)
  clear hb
  obtain ⟨v1, hv⟩ : ∃ zw : World, ((w1.alloc (.cells #[.int .i64 a, .int .i64 b, .bool s] 33)).alloc (.cells #[.int .i64 c, .int .i64 d, .bool t] 33)) = zw := ⟨_, rfl⟩
  have hb : Below w1.heap.size w1 v1 := by rw [← hv]; exact bl_alloc (bl_alloc ((Below.refl w1.heap.size w1)) _) _
  have HA : Hid (V3 v1 (w1.heap.size) a b s) := mkHid (by rw [← hv]; constructor <;> simp [go_sem])
  have HB : Hid (V3 v1 (w1.heap.size + 1) c d t) := mkHid (by rw [← hv]; constructor <;> simp [go_sem])
  have BE := mkHid (below_step BE.out hb)
  have HM := mkHid (Bytes.up2 HM.out hb)
  obtain ⟨X1, hX1⟩ : ∃ zn : Nat, w1.heap.size = zn := ⟨_, rfl⟩
  rw [hX1] at HA HB
  have HVV := mkHid hv
  clear hv hb
  go_upto_region 4 with fail
  rw [HVV.out]
  clear HVV hX1
  go_wp2_with fail
  refine (drawWiden_any n2 c2 a2 _ HM2.out HM.out).mono ?_
  rintro e w2 ⟨e1x, e1y, e2x, e2y, l, g, cp, rfl, hl, hI, hgl, hb⟩
  have BE := mkHid (below_step BE.out hb)
  have HM := mkHid (Bytes.up2 HM.out hb)
  have HA := mkHid (HA.out.below hb)
  have HB := mkHid (HB.out.below hb)
  clear hb
  have HI := mkHid hI
  have HL := mkHid (show l.length ≤ maxLen by unfold maxLen; omega)
  clear hI hl hgl
  obtain ⟨v2, hv⟩ : ∃ zw : World, ((w2.alloc (.cells #[.int .i64 e1x, .int .i64 e1y] 23)).alloc (.cells #[.int .i64 e2x, .int .i64 e2y] 23)) = zw := ⟨_, rfl⟩
  have hb : Below w2.heap.size w2 v2 := by rw [← hv]; exact bl_alloc (bl_alloc ((Below.refl w2.heap.size w2)) _) _
  have BE := mkHid (below_step BE.out hb)
  have HM := mkHid (Bytes.up2 HM.out hb)
  have HA := mkHid (HA.out.below hb)
  have HB := mkHid (HB.out.below hb)
  have HI := mkHid (HI.out.below hb)
  obtain ⟨X2, hX2⟩ : ∃ zn : Nat, w2.heap.size = zn := ⟨_, rfl⟩
  have HVV := mkHid hv
  clear hv hb
  go_upto_region 5 with fail
  rw [HVV.out]
  clear HVV hX2
  go_wp2_with fail
  refine (drawHas_any n2 c2 a2 _ HM2.out HM.out).mono ?_
  rintro e w3 ⟨x, y, u, r, n, rfl, hb⟩
  have BE := mkHid (below_step BE.out hb)
  have HM := mkHid (Bytes.up2 HM.out hb)
  have HA := mkHid (HA.out.below hb)
  have HB := mkHid (HB.out.below hb)
  have HI := mkHid (HI.out.below hb)
  clear hb
  obtain ⟨v3, hv⟩ : ∃ zw : World, ((w3.alloc (.cells #[.int .i64 x, .int .i64 y, .bool u] 33)).alloc (.cells #[.bool r, .int .i64 n] 69)) = zw := ⟨_, rfl⟩
  have hb : Below w3.heap.size w3 v3 := by rw [← hv]; exact bl_alloc (bl_alloc ((Below.refl w3.heap.size w3)) _) _
  have HV : Hid (V3 v3 (w3.heap.size) x y u) := mkHid (by rw [← hv]; constructor <;> simp [go_sem])
  have HC : Hid (C2 v3 (w3.heap.size + 1) r n) := mkHid (by rw [← hv]; constructor <;> simp [go_sem])
  have BE := mkHid (below_step BE.out hb)
  have HM := mkHid (Bytes.up2 HM.out hb)
  have HA := mkHid (HA.out.below hb)
  have HB := mkHid (HB.out.below hb)
  have HI := mkHid (HI.out.below hb)
  obtain ⟨X3, hX3⟩ : ∃ zn : Nat, w3.heap.size = zn := ⟨_, rfl⟩
  rw [hX3] at HV HC
  have HVV := mkHid hv
  clear hv hb
  go_upto_region 6 with fail
  rw [HVV.out]
  clear HVV hX3
  obtain ⟨j1, hj1⟩ : ∃ q, (joinV a b s c d t).1 = q := ⟨_, rfl⟩
  obtain ⟨j2, hj2⟩ : ∃ q, (joinV a b s c d t).2.1 = q := ⟨_, rfl⟩
  obtain ⟨j3, hj3⟩ : ∃ q, (joinV a b s c d t).2.2 = q := ⟨_, rfl⟩
  have J1 := mkHid hj1
  have J2 := mkHid hj2
  have J3 := mkHid hj3
  clear hj1 hj2 hj3
  obtain ⟨m1, hm1⟩ : ∃ q, (widenV a b s c d t l).1 = q := ⟨_, rfl⟩
  obtain ⟨m2, hm2⟩ : ∃ q, (widenV a b s c d t l).2.1 = q := ⟨_, rfl⟩
  obtain ⟨m3, hm3⟩ : ∃ q, (widenV a b s c d t l).2.2 = q := ⟨_, rfl⟩
  have M1 := mkHid hm1
  have M2 := mkHid hm2
  have M3 := mkHid hm3
  clear hm1 hm2 hm3
  obtain ⟨ha0, ha1, ha2, ha3, ha4, ha5⟩ := HA.out
  obtain ⟨hb0, hb1, hb2, hb3, hb4, hb5⟩ := HB.out
  go_wp2_with fail
  refine (iVjoin_any a b s c d t _).mono ?_
  rintro e w4 ⟨rfl, hb⟩
  clear ha0 ha1 ha2 ha3 ha4 ha5
  clear hb0 hb1 hb2 hb3 hb4 hb5
  have BE := mkHid (below_step BE.out hb)
  have HM := mkHid (Bytes.up2 HM.out hb)
  have HA := mkHid (HA.out.below hb)
  have HB := mkHid (HB.out.below hb)
  have HI := mkHid (HI.out.below hb)
  have HV := mkHid (HV.out.below hb)
  have HC := mkHid (HC.out.below hb)
  clear hb
  rw [J1.out, J2.out, J3.out]
  obtain ⟨v4, hv⟩ : ∃ zw : World, (w4.alloc (.cells #[.int .i64 j1, .int .i64 j2, .bool j3] 33)) = zw := ⟨_, rfl⟩
  have hb : Below w4.heap.size w4 v4 := by rw [← hv]; exact bl_alloc ((Below.refl w4.heap.size w4)) _
  have HJ : Hid (V3 v4 (w4.heap.size) j1 j2 j3) := mkHid (by rw [← hv]; constructor <;> simp [go_sem])
  have BE := mkHid (below_step BE.out hb)
  have HM := mkHid (Bytes.up2 HM.out hb)
  have HA := mkHid (HA.out.below hb)
  have HB := mkHid (HB.out.below hb)
  have HI := mkHid (HI.out.below hb)
  have HV := mkHid (HV.out.below hb)
  have HC := mkHid (HC.out.below hb)
  obtain ⟨X4, hX4⟩ : ∃ zn : Nat, w4.heap.size = zn := ⟨_, rfl⟩
  rw [hX4] at HJ
  have HVV := mkHid hv
  clear hv hb
  go_upto_region 7 with fail
  rw [HVV.out]
  clear HVV hX4
  obtain ⟨ha0, ha1, ha2, ha3, ha4, ha5⟩ := HA.out
  obtain ⟨hb0, hb1, hb2, hb3, hb4, hb5⟩ := HB.out
  go_wp2_with fail
  refine (iVwiden_of a b s c d t l g 0 cp _ HI.out HL.out).mono ?_
  rintro e w5 ⟨rfl, hb⟩
  clear ha0 ha1 ha2 ha3 ha4 ha5
  clear hb0 hb1 hb2 hb3 hb4 hb5
  have BE := mkHid (below_step BE.out hb)
  have HM := mkHid (Bytes.up2 HM.out hb)
  have HA := mkHid (HA.out.below hb)
  have HB := mkHid (HB.out.below hb)
  have HI := mkHid (HI.out.below hb)
  have HV := mkHid (HV.out.below hb)
  have HC := mkHid (HC.out.below hb)
  have HJ := mkHid (HJ.out.below hb)
  clear hb
  rw [M1.out, M2.out, M3.out]
  obtain ⟨v5, hv⟩ : ∃ zw : World, (w5.alloc (.cells #[.int .i64 m1, .int .i64 m2, .bool m3] 33)) = zw := ⟨_, rfl⟩
  have hb : Below w5.heap.size w5 v5 := by rw [← hv]; exact bl_alloc ((Below.refl w5.heap.size w5)) _
  have HD : Hid (V3 v5 (w5.heap.size) m1 m2 m3) := mkHid (by rw [← hv]; constructor <;> simp [go_sem])
  have BE := mkHid (below_step BE.out hb)
  have HM := mkHid (Bytes.up2 HM.out hb)
  have HA := mkHid (HA.out.below hb)
  have HB := mkHid (HB.out.below hb)
  have HI := mkHid (HI.out.below hb)
  have HV := mkHid (HV.out.below hb)
  have HC := mkHid (HC.out.below hb)
  have HJ := mkHid (HJ.out.below hb)
  obtain ⟨X5, hX5⟩ : ∃ zn : Nat, w5.heap.size = zn := ⟨_, rfl⟩
  rw [hX5] at HD
  have HVV := mkHid hv
  clear hv hb
  go_upto_region 8 with fail
  rw [HVV.out]
  clear HVV hX5
  obtain ⟨hv, hhv⟩ : ∃ q, hasV x y u r n = q := ⟨_, rfl⟩
  have HHV := mkHid hhv
  clear hhv
  refine wp_region_inv2 (fun zA0 L zA vA => ∃ (zB : Nat → Bool) (zS : Nat → Value), L = #[zB 0, zB 1, zB 2, zB 3, zB 4, zB 5, zB 6, zB 7, zB 8, zB 9, zB 10, zB 11, zB 12, zB 13, zB 14, zB 15, zB 16, zB 17, zB 18, zB 19, zB 20, zB 21] ∧ zA = puts zA0 [(45, zS 45), (46, zS 46), (47, zS 47), (48, zS 48), (49, zS 49), (50, zS 50), (51, zS 51), (52, zS 52), (53, zS 53), (54, zS 54), (55, zS 55), (56, zS 56), (57, zS 57), (58, zS 58), (59, zS 59), (60, zS 60), (61, zS 61), (62, zS 62), (63, zS 63), (64, zS 64), (65, zS 65), (66, zS 66)] ∧ ((zB 0 = true → zS 45 = .agg #[.int .i64 j1, .int .i64 j2, .bool j3]) ∧ (zB 1 = true → zS 46 = .agg #[.int .i64 a, .int .i64 b, .bool s]) ∧ (zB 2 = true → zS 47 = .agg #[.int .i64 c, .int .i64 d, .bool t]) ∧ (zB 3 = true → zS 48 = .agg #[.int .i64 j1, .int .i64 j2, .bool j3]) ∧ (zB 4 = true → zS 49 = .bool false) ∧ (zB 5 = true → zS 50 = .bool false) ∧ (zB 6 = true → zS 51 = .agg #[.int .i64 m1, .int .i64 m2, .bool m3]) ∧ (zB 7 = true → zS 52 = .agg #[.int .i64 a, .int .i64 b, .bool s]) ∧ (zB 8 = true → zS 53 = .agg #[.int .i64 c, .int .i64 d, .bool t]) ∧ (zB 9 = true → zS 54 = .slice (some ⟨g, 0, none⟩) l.length cp) ∧ (zB 10 = true → zS 55 = .agg #[.int .i64 m1, .int .i64 m2, .bool m3]) ∧ (zB 11 = true → zS 56 = .bool false) ∧ (zB 12 = true → zS 57 = .bool false) ∧ (zB 13 = true → zS 58 = .bool false) ∧ (zB 14 = true → zS 59 = .agg #[.int .i64 x, .int .i64 y, .bool u]) ∧ (zB 15 = true → zS 60 = .agg #[.bool r, .int .i64 n]) ∧ (zB 16 = true → zS 61 = .bool hv) ∧ (zB 17 = true → zS 62 = .agg #[.int .i64 x, .int .i64 y, .bool u]) ∧ (zB 18 = true → zS 63 = .agg #[.bool r, .int .i64 n]) ∧ (zB 19 = true → zS 64 = .bool hv) ∧ (zB 20 = true → zS 65 = .bool false) ∧ (zB 21 = true → zS 66 = .bool false)) ∧ Below v5.heap.size v5 vA) (by kernel_rfl) ?_ ?_ ?_
  · exact ⟨fun _ => false, fun _ => undef, rfl, by kernel_rfl, ⟨fun e => ft e, fun e => ft e, fun e => ft e, fun e => ft e, fun e => ft e, fun e => ft e, fun e => ft e, fun e => ft e, fun e => ft e, fun e => ft e, fun e => ft e, fun e => ft e, fun e => ft e, fun e => ft e, fun e => ft e, fun e => ft e, fun e => ft e, fun e => ft e, fun e => ft e, fun e => ft e, fun e => ft e, fun e => ft e⟩, (Below.refl _ _).drew⟩
  · refine StepsI.cons rfl ?_ ?_
    · rintro L zA vA ⟨zB, zS, rfl, rfl, hF, hW⟩ hL hm K hK
      have hb0 : zB 0 = false := by simpa using hL
      clear hL hm
      simp only [puts, Act.put, List.setIfInBounds_toArray, List.set_cons_zero, List.set_cons_succ]
      obtain ⟨q0, q1, q2, _, _, _⟩ := HJ.out.below hW
      go_simp
      exact hK.out _ _ ⟨fun zj => if zj = 0 then true else zB zj, fun zd => if zd = 45 then .agg #[.int .i64 j1, .int .i64 j2, .bool j3] else zS zd, rfl, by kernel_rfl, ⟨fun _ => rfl, hF.2.1, hF.2.2.1, hF.2.2.2.1, hF.2.2.2.2.1, hF.2.2.2.2.2.1, hF.2.2.2.2.2.2.1, hF.2.2.2.2.2.2.2.1, hF.2.2.2.2.2.2.2.2.1, hF.2.2.2.2.2.2.2.2.2.1, hF.2.2.2.2.2.2.2.2.2.2.1, hF.2.2.2.2.2.2.2.2.2.2.2.1, hF.2.2.2.2.2.2.2.2.2.2.2.2.1, hF.2.2.2.2.2.2.2.2.2.2.2.2.2.1, hF.2.2.2.2.2.2.2.2.2.2.2.2.2.2.1, hF.2.2.2.2.2.2.2.2.2.2.2.2.2.2.2.1, hF.2.2.2.2.2.2.2.2.2.2.2.2.2.2.2.2.1, hF.2.2.2.2.2.2.2.2.2.2.2.2.2.2.2.2.2.1, hF.2.2.2.2.2.2.2.2.2.2.2.2.2.2.2.2.2.2.1, hF.2.2.2.2.2.2.2.2.2.2.2.2.2.2.2.2.2.2.2.1, hF.2.2.2.2.2.2.2.2.2.2.2.2.2.2.2.2.2.2.2.2.1, hF.2.2.2.2.2.2.2.2.2.2.2.2.2.2.2.2.2.2.2.2.2⟩, hW⟩
    refine StepsI.cons rfl ?_ ?_
    · rintro L zA vA ⟨zB, zS, rfl, rfl, hF, hW⟩ hL hm K hK
      have hb1 : zB 1 = false := by simpa using hL
      clear hL hm
      simp only [puts, Act.put, List.setIfInBounds_toArray, List.set_cons_zero, List.set_cons_succ]
      obtain ⟨q0, q1, q2, _, _, _⟩ := HA.out.below hW
      go_simp
      exact hK.out _ _ ⟨fun zj => if zj = 1 then true else zB zj, fun zd => if zd = 46 then .agg #[.int .i64 a, .int .i64 b, .bool s] else zS zd, rfl, by kernel_rfl, ⟨hF.1, fun _ => rfl, hF.2.2.1, hF.2.2.2.1, hF.2.2.2.2.1, hF.2.2.2.2.2.1, hF.2.2.2.2.2.2.1, hF.2.2.2.2.2.2.2.1, hF.2.2.2.2.2.2.2.2.1, hF.2.2.2.2.2.2.2.2.2.1, hF.2.2.2.2.2.2.2.2.2.2.1, hF.2.2.2.2.2.2.2.2.2.2.2.1, hF.2.2.2.2.2.2.2.2.2.2.2.2.1, hF.2.2.2.2.2.2.2.2.2.2.2.2.2.1, hF.2.2.2.2.2.2.2.2.2.2.2.2.2.2.1, hF.2.2.2.2.2.2.2.2.2.2.2.2.2.2.2.1, hF.2.2.2.2.2.2.2.2.2.2.2.2.2.2.2.2.1, hF.2.2.2.2.2.2.2.2.2.2.2.2.2.2.2.2.2.1, hF.2.2.2.2.2.2.2.2.2.2.2.2.2.2.2.2.2.2.1, hF.2.2.2.2.2.2.2.2.2.2.2.2.2.2.2.2.2.2.2.1, hF.2.2.2.2.2.2.2.2.2.2.2.2.2.2.2.2.2.2.2.2.1, hF.2.2.2.2.2.2.2.2.2.2.2.2.2.2.2.2.2.2.2.2.2⟩, hW⟩
    refine StepsI.cons rfl ?_ ?_
    · rintro L zA vA ⟨zB, zS, rfl, rfl, hF, hW⟩ hL hm K hK
      have hb2 : zB 2 = false := by simpa using hL
      clear hL hm
      simp only [puts, Act.put, List.setIfInBounds_toArray, List.set_cons_zero, List.set_cons_succ]
      obtain ⟨q0, q1, q2, _, _, _⟩ := HB.out.below hW
      go_simp
      exact hK.out _ _ ⟨fun zj => if zj = 2 then true else zB zj, fun zd => if zd = 47 then .agg #[.int .i64 c, .int .i64 d, .bool t] else zS zd, rfl, by kernel_rfl, ⟨hF.1, hF.2.1, fun _ => rfl, hF.2.2.2.1, hF.2.2.2.2.1, hF.2.2.2.2.2.1, hF.2.2.2.2.2.2.1, hF.2.2.2.2.2.2.2.1, hF.2.2.2.2.2.2.2.2.1, hF.2.2.2.2.2.2.2.2.2.1, hF.2.2.2.2.2.2.2.2.2.2.1, hF.2.2.2.2.2.2.2.2.2.2.2.1, hF.2.2.2.2.2.2.2.2.2.2.2.2.1, hF.2.2.2.2.2.2.2.2.2.2.2.2.2.1, hF.2.2.2.2.2.2.2.2.2.2.2.2.2.2.1, hF.2.2.2.2.2.2.2.2.2.2.2.2.2.2.2.1, hF.2.2.2.2.2.2.2.2.2.2.2.2.2.2.2.2.1, hF.2.2.2.2.2.2.2.2.2.2.2.2.2.2.2.2.2.1, hF.2.2.2.2.2.2.2.2.2.2.2.2.2.2.2.2.2.2.1, hF.2.2.2.2.2.2.2.2.2.2.2.2.2.2.2.2.2.2.2.1, hF.2.2.2.2.2.2.2.2.2.2.2.2.2.2.2.2.2.2.2.2.1, hF.2.2.2.2.2.2.2.2.2.2.2.2.2.2.2.2.2.2.2.2.2⟩, hW⟩
    refine StepsI.cons rfl ?_ ?_
    · rintro L zA vA ⟨zB, zS, rfl, rfl, hF, hW⟩ hL hm K hK
      have hb3 : zB 3 = false := by simpa using hL
      have hb1 : zB 1 = true := by cases e : zB 1 with | false => (exfalso; revert hm; simp [metB, Region.binds, e]) | true => rfl
      have hb2 : zB 2 = true := by cases e : zB 2 with | false => (exfalso; revert hm; simp [metB, Region.binds, e]) | true => rfl
      have e1 : zS 46 = .agg #[.int .i64 a, .int .i64 b, .bool s] := hF.2.1 hb1
      have e2 : zS 47 = .agg #[.int .i64 c, .int .i64 d, .bool t] := hF.2.2.1 hb2
      clear hL hm
      simp only [puts, Act.put, List.setIfInBounds_toArray, List.set_cons_zero, List.set_cons_succ]
      simp only [e1, e2]
      go_simp
      refine (sVjoin_any a b s c d t _).mono ?_
      rintro e vA2 ⟨rfl, hb⟩
      rw [J1.out, J2.out, J3.out]
      go_wp2_with fail
      exact hK.out _ _ ⟨fun zj => if zj = 2 then true else if zj = 1 then true else if zj = 3 then true else zB zj, fun zd => if zd = 48 then .agg #[.int .i64 j1, .int .i64 j2, .bool j3] else if zd = 47 then .agg #[.int .i64 c, .int .i64 d, .bool t] else if zd = 46 then .agg #[.int .i64 a, .int .i64 b, .bool s] else zS zd, by simp [hb1, hb2], by kernel_rfl, ⟨hF.1, fun _ => rfl, fun _ => rfl, fun _ => rfl, hF.2.2.2.2.1, hF.2.2.2.2.2.1, hF.2.2.2.2.2.2.1, hF.2.2.2.2.2.2.2.1, hF.2.2.2.2.2.2.2.2.1, hF.2.2.2.2.2.2.2.2.2.1, hF.2.2.2.2.2.2.2.2.2.2.1, hF.2.2.2.2.2.2.2.2.2.2.2.1, hF.2.2.2.2.2.2.2.2.2.2.2.2.1, hF.2.2.2.2.2.2.2.2.2.2.2.2.2.1, hF.2.2.2.2.2.2.2.2.2.2.2.2.2.2.1, hF.2.2.2.2.2.2.2.2.2.2.2.2.2.2.2.1, hF.2.2.2.2.2.2.2.2.2.2.2.2.2.2.2.2.1, hF.2.2.2.2.2.2.2.2.2.2.2.2.2.2.2.2.2.1, hF.2.2.2.2.2.2.2.2.2.2.2.2.2.2.2.2.2.2.1, hF.2.2.2.2.2.2.2.2.2.2.2.2.2.2.2.2.2.2.2.1, hF.2.2.2.2.2.2.2.2.2.2.2.2.2.2.2.2.2.2.2.2.1, hF.2.2.2.2.2.2.2.2.2.2.2.2.2.2.2.2.2.2.2.2.2⟩, below_step hW hb⟩
    refine StepsI.cons rfl ?_ ?_
    · rintro L zA vA ⟨zB, zS, rfl, rfl, hF, hW⟩ hL hm K hK
      have hb4 : zB 4 = false := by simpa using hL
      have hb0 : zB 0 = true := by cases e : zB 0 with | false => (exfalso; revert hm; simp [metB, Region.binds, e]) | true => rfl
      have hb3 : zB 3 = true := by cases e : zB 3 with | false => (exfalso; revert hm; simp [metB, Region.binds, e]) | true => rfl
      have e0 : zS 45 = .agg #[.int .i64 j1, .int .i64 j2, .bool j3] := hF.1 hb0
      have e3 : zS 48 = .agg #[.int .i64 j1, .int .i64 j2, .bool j3] := hF.2.2.2.1 hb3
      clear hL hm
      simp only [puts, Act.put, List.setIfInBounds_toArray, List.set_cons_zero, List.set_cons_succ]
      simp only [e0, e3]
      have hES := eqV_same j1 j2 j3
      go_simp
      exact hK.out _ _ ⟨fun zj => if zj = 3 then true else if zj = 0 then true else if zj = 4 then true else zB zj, fun zd => if zd = 49 then .bool false else if zd = 48 then .agg #[.int .i64 j1, .int .i64 j2, .bool j3] else if zd = 45 then .agg #[.int .i64 j1, .int .i64 j2, .bool j3] else zS zd, by simp [hb0, hb3], by kernel_rfl, ⟨fun _ => rfl, hF.2.1, hF.2.2.1, fun _ => rfl, fun _ => rfl, hF.2.2.2.2.2.1, hF.2.2.2.2.2.2.1, hF.2.2.2.2.2.2.2.1, hF.2.2.2.2.2.2.2.2.1, hF.2.2.2.2.2.2.2.2.2.1, hF.2.2.2.2.2.2.2.2.2.2.1, hF.2.2.2.2.2.2.2.2.2.2.2.1, hF.2.2.2.2.2.2.2.2.2.2.2.2.1, hF.2.2.2.2.2.2.2.2.2.2.2.2.2.1, hF.2.2.2.2.2.2.2.2.2.2.2.2.2.2.1, hF.2.2.2.2.2.2.2.2.2.2.2.2.2.2.2.1, hF.2.2.2.2.2.2.2.2.2.2.2.2.2.2.2.2.1, hF.2.2.2.2.2.2.2.2.2.2.2.2.2.2.2.2.2.1, hF.2.2.2.2.2.2.2.2.2.2.2.2.2.2.2.2.2.2.1, hF.2.2.2.2.2.2.2.2.2.2.2.2.2.2.2.2.2.2.2.1, hF.2.2.2.2.2.2.2.2.2.2.2.2.2.2.2.2.2.2.2.2.1, hF.2.2.2.2.2.2.2.2.2.2.2.2.2.2.2.2.2.2.2.2.2⟩, hW⟩
    refine StepsI.cons rfl ?_ ?_
    · rintro L zA vA ⟨zB, zS, rfl, rfl, hF, hW⟩ hL hm K hK
      have hb5 : zB 5 = false := by simpa using hL
      have hb4 : zB 4 = true := by cases e : zB 4 with | false => (exfalso; revert hm; simp [metB, Region.binds, e]) | true => rfl
      have e4 : zS 49 = .bool false := hF.2.2.2.2.1 hb4
      clear hL hm
      simp only [puts, Act.put, List.setIfInBounds_toArray, List.set_cons_zero, List.set_cons_succ]
      simp only [e4]
      go_simp
      exact hK.out _ _ ⟨fun zj => if zj = 4 then true else if zj = 5 then true else zB zj, fun zd => if zd = 50 then .bool false else if zd = 49 then .bool false else zS zd, by simp [hb4], by kernel_rfl, ⟨hF.1, hF.2.1, hF.2.2.1, hF.2.2.2.1, fun _ => rfl, fun _ => rfl, hF.2.2.2.2.2.2.1, hF.2.2.2.2.2.2.2.1, hF.2.2.2.2.2.2.2.2.1, hF.2.2.2.2.2.2.2.2.2.1, hF.2.2.2.2.2.2.2.2.2.2.1, hF.2.2.2.2.2.2.2.2.2.2.2.1, hF.2.2.2.2.2.2.2.2.2.2.2.2.1, hF.2.2.2.2.2.2.2.2.2.2.2.2.2.1, hF.2.2.2.2.2.2.2.2.2.2.2.2.2.2.1, hF.2.2.2.2.2.2.2.2.2.2.2.2.2.2.2.1, hF.2.2.2.2.2.2.2.2.2.2.2.2.2.2.2.2.1, hF.2.2.2.2.2.2.2.2.2.2.2.2.2.2.2.2.2.1, hF.2.2.2.2.2.2.2.2.2.2.2.2.2.2.2.2.2.2.1, hF.2.2.2.2.2.2.2.2.2.2.2.2.2.2.2.2.2.2.2.1, hF.2.2.2.2.2.2.2.2.2.2.2.2.2.2.2.2.2.2.2.2.1, hF.2.2.2.2.2.2.2.2.2.2.2.2.2.2.2.2.2.2.2.2.2⟩, hW⟩
    refine StepsI.cons rfl ?_ ?_
    · rintro L zA vA ⟨zB, zS, rfl, rfl, hF, hW⟩ hL hm K hK
      have hb6 : zB 6 = false := by simpa using hL
      have hb5 : zB 5 = true := by cases e : zB 5 with | false => (exfalso; revert hm; simp [metB, Region.binds, e]) | true => rfl
      have e5 : zS 50 = .bool false := hF.2.2.2.2.2.1 hb5
      clear hL hm
      simp only [puts, Act.put, List.setIfInBounds_toArray, List.set_cons_zero, List.set_cons_succ]
      simp only [e5]
      obtain ⟨q0, q1, q2, _, _, _⟩ := HD.out.below hW
      go_simp
      exact hK.out _ _ ⟨fun zj => if zj = 5 then true else if zj = 6 then true else zB zj, fun zd => if zd = 51 then .agg #[.int .i64 m1, .int .i64 m2, .bool m3] else if zd = 50 then .bool false else zS zd, by simp [hb5], by kernel_rfl, ⟨hF.1, hF.2.1, hF.2.2.1, hF.2.2.2.1, hF.2.2.2.2.1, fun _ => rfl, fun _ => rfl, hF.2.2.2.2.2.2.2.1, hF.2.2.2.2.2.2.2.2.1, hF.2.2.2.2.2.2.2.2.2.1, hF.2.2.2.2.2.2.2.2.2.2.1, hF.2.2.2.2.2.2.2.2.2.2.2.1, hF.2.2.2.2.2.2.2.2.2.2.2.2.1, hF.2.2.2.2.2.2.2.2.2.2.2.2.2.1, hF.2.2.2.2.2.2.2.2.2.2.2.2.2.2.1, hF.2.2.2.2.2.2.2.2.2.2.2.2.2.2.2.1, hF.2.2.2.2.2.2.2.2.2.2.2.2.2.2.2.2.1, hF.2.2.2.2.2.2.2.2.2.2.2.2.2.2.2.2.2.1, hF.2.2.2.2.2.2.2.2.2.2.2.2.2.2.2.2.2.2.1, hF.2.2.2.2.2.2.2.2.2.2.2.2.2.2.2.2.2.2.2.1, hF.2.2.2.2.2.2.2.2.2.2.2.2.2.2.2.2.2.2.2.2.1, hF.2.2.2.2.2.2.2.2.2.2.2.2.2.2.2.2.2.2.2.2.2⟩, hW⟩
    refine StepsI.cons rfl ?_ ?_
    · rintro L zA vA ⟨zB, zS, rfl, rfl, hF, hW⟩ hL hm K hK
      have hb7 : zB 7 = false := by simpa using hL
      have hb5 : zB 5 = true := by cases e : zB 5 with | false => (exfalso; revert hm; simp [metB, Region.binds, e]) | true => rfl
      have e5 : zS 50 = .bool false := hF.2.2.2.2.2.1 hb5
      clear hL hm
      simp only [puts, Act.put, List.setIfInBounds_toArray, List.set_cons_zero, List.set_cons_succ]
      simp only [e5]
      obtain ⟨q0, q1, q2, _, _, _⟩ := HA.out.below hW
      go_simp
      exact hK.out _ _ ⟨fun zj => if zj = 5 then true else if zj = 7 then true else zB zj, fun zd => if zd = 52 then .agg #[.int .i64 a, .int .i64 b, .bool s] else if zd = 50 then .bool false else zS zd, by simp [hb5], by kernel_rfl, ⟨hF.1, hF.2.1, hF.2.2.1, hF.2.2.2.1, hF.2.2.2.2.1, fun _ => rfl, hF.2.2.2.2.2.2.1, fun _ => rfl, hF.2.2.2.2.2.2.2.2.1, hF.2.2.2.2.2.2.2.2.2.1, hF.2.2.2.2.2.2.2.2.2.2.1, hF.2.2.2.2.2.2.2.2.2.2.2.1, hF.2.2.2.2.2.2.2.2.2.2.2.2.1, hF.2.2.2.2.2.2.2.2.2.2.2.2.2.1, hF.2.2.2.2.2.2.2.2.2.2.2.2.2.2.1, hF.2.2.2.2.2.2.2.2.2.2.2.2.2.2.2.1, hF.2.2.2.2.2.2.2.2.2.2.2.2.2.2.2.2.1, hF.2.2.2.2.2.2.2.2.2.2.2.2.2.2.2.2.2.1, hF.2.2.2.2.2.2.2.2.2.2.2.2.2.2.2.2.2.2.1, hF.2.2.2.2.2.2.2.2.2.2.2.2.2.2.2.2.2.2.2.1, hF.2.2.2.2.2.2.2.2.2.2.2.2.2.2.2.2.2.2.2.2.1, hF.2.2.2.2.2.2.2.2.2.2.2.2.2.2.2.2.2.2.2.2.2⟩, hW⟩
    refine StepsI.cons rfl ?_ ?_
    · rintro L zA vA ⟨zB, zS, rfl, rfl, hF, hW⟩ hL hm K hK
      have hb8 : zB 8 = false := by simpa using hL
      have hb5 : zB 5 = true := by cases e : zB 5 with | false => (exfalso; revert hm; simp [metB, Region.binds, e]) | true => rfl
      have e5 : zS 50 = .bool false := hF.2.2.2.2.2.1 hb5
      clear hL hm
      simp only [puts, Act.put, List.setIfInBounds_toArray, List.set_cons_zero, List.set_cons_succ]
      simp only [e5]
      obtain ⟨q0, q1, q2, _, _, _⟩ := HB.out.below hW
      go_simp
      exact hK.out _ _ ⟨fun zj => if zj = 5 then true else if zj = 8 then true else zB zj, fun zd => if zd = 53 then .agg #[.int .i64 c, .int .i64 d, .bool t] else if zd = 50 then .bool false else zS zd, by simp [hb5], by kernel_rfl, ⟨hF.1, hF.2.1, hF.2.2.1, hF.2.2.2.1, hF.2.2.2.2.1, fun _ => rfl, hF.2.2.2.2.2.2.1, hF.2.2.2.2.2.2.2.1, fun _ => rfl, hF.2.2.2.2.2.2.2.2.2.1, hF.2.2.2.2.2.2.2.2.2.2.1, hF.2.2.2.2.2.2.2.2.2.2.2.1, hF.2.2.2.2.2.2.2.2.2.2.2.2.1, hF.2.2.2.2.2.2.2.2.2.2.2.2.2.1, hF.2.2.2.2.2.2.2.2.2.2.2.2.2.2.1, hF.2.2.2.2.2.2.2.2.2.2.2.2.2.2.2.1, hF.2.2.2.2.2.2.2.2.2.2.2.2.2.2.2.2.1, hF.2.2.2.2.2.2.2.2.2.2.2.2.2.2.2.2.2.1, hF.2.2.2.2.2.2.2.2.2.2.2.2.2.2.2.2.2.2.1, hF.2.2.2.2.2.2.2.2.2.2.2.2.2.2.2.2.2.2.2.1, hF.2.2.2.2.2.2.2.2.2.2.2.2.2.2.2.2.2.2.2.2.1, hF.2.2.2.2.2.2.2.2.2.2.2.2.2.2.2.2.2.2.2.2.2⟩, hW⟩
    refine StepsI.cons rfl ?_ ?_
    · rintro L zA vA ⟨zB, zS, rfl, rfl, hF, hW⟩ hL hm K hK
      have hb9 : zB 9 = false := by simpa using hL
      have hb5 : zB 5 = true := by cases e : zB 5 with | false => (exfalso; revert hm; simp [metB, Region.binds, e]) | true => rfl
      have e5 : zS 50 = .bool false := hF.2.2.2.2.2.1 hb5
      clear hL hm
      simp only [puts, Act.put, List.setIfInBounds_toArray, List.set_cons_zero, List.set_cons_succ]
      simp only [e5]
      go_simp
      exact hK.out _ _ ⟨fun zj => if zj = 5 then true else if zj = 9 then true else zB zj, fun zd => if zd = 54 then .slice (some ⟨g, 0, none⟩) l.length cp else if zd = 50 then .bool false else zS zd, by simp [hb5], by kernel_rfl, ⟨hF.1, hF.2.1, hF.2.2.1, hF.2.2.2.1, hF.2.2.2.2.1, fun _ => rfl, hF.2.2.2.2.2.2.1, hF.2.2.2.2.2.2.2.1, hF.2.2.2.2.2.2.2.2.1, fun _ => rfl, hF.2.2.2.2.2.2.2.2.2.2.1, hF.2.2.2.2.2.2.2.2.2.2.2.1, hF.2.2.2.2.2.2.2.2.2.2.2.2.1, hF.2.2.2.2.2.2.2.2.2.2.2.2.2.1, hF.2.2.2.2.2.2.2.2.2.2.2.2.2.2.1, hF.2.2.2.2.2.2.2.2.2.2.2.2.2.2.2.1, hF.2.2.2.2.2.2.2.2.2.2.2.2.2.2.2.2.1, hF.2.2.2.2.2.2.2.2.2.2.2.2.2.2.2.2.2.1, hF.2.2.2.2.2.2.2.2.2.2.2.2.2.2.2.2.2.2.1, hF.2.2.2.2.2.2.2.2.2.2.2.2.2.2.2.2.2.2.2.1, hF.2.2.2.2.2.2.2.2.2.2.2.2.2.2.2.2.2.2.2.2.1, hF.2.2.2.2.2.2.2.2.2.2.2.2.2.2.2.2.2.2.2.2.2⟩, hW⟩
    refine StepsI.cons rfl ?_ ?_
    · rintro L zA vA ⟨zB, zS, rfl, rfl, hF, hW⟩ hL hm K hK
      have hb10 : zB 10 = false := by simpa using hL
      have hb5 : zB 5 = true := by cases e : zB 5 with | false => (exfalso; revert hm; simp [metB, Region.binds, e]) | true => rfl
      have hb7 : zB 7 = true := by cases e : zB 7 with | false => (exfalso; revert hm; simp [metB, Region.binds, e]) | true => rfl
      have hb8 : zB 8 = true := by cases e : zB 8 with | false => (exfalso; revert hm; simp [metB, Region.binds, e]) | true => rfl
      have hb9 : zB 9 = true := by cases e : zB 9 with | false => (exfalso; revert hm; simp [metB, Region.binds, e]) | true => rfl
      have e5 : zS 50 = .bool false := hF.2.2.2.2.2.1 hb5
      have e7 : zS 52 = .agg #[.int .i64 a, .int .i64 b, .bool s] := hF.2.2.2.2.2.2.2.1 hb7
      have e8 : zS 53 = .agg #[.int .i64 c, .int .i64 d, .bool t] := hF.2.2.2.2.2.2.2.2.1 hb8
      have e9 : zS 54 = .slice (some ⟨g, 0, none⟩) l.length cp := hF.2.2.2.2.2.2.2.2.2.1 hb9
      clear hL hm
      simp only [puts, Act.put, List.setIfInBounds_toArray, List.set_cons_zero, List.set_cons_succ]
      simp only [e5, e7, e8, e9]
      go_simp
      refine (sVwiden_of a b s c d t l g 0 cp _ (HI.out.below hW) HL.out).mono ?_
      rintro e vA2 ⟨rfl, hb⟩
      rw [M1.out, M2.out, M3.out]
      go_wp2_with fail
      exact hK.out _ _ ⟨fun zj => if zj = 9 then true else if zj = 8 then true else if zj = 7 then true else if zj = 5 then true else if zj = 10 then true else zB zj, fun zd => if zd = 55 then .agg #[.int .i64 m1, .int .i64 m2, .bool m3] else if zd = 54 then .slice (some ⟨g, 0, none⟩) l.length cp else if zd = 53 then .agg #[.int .i64 c, .int .i64 d, .bool t] else if zd = 52 then .agg #[.int .i64 a, .int .i64 b, .bool s] else if zd = 50 then .bool false else zS zd, by simp [hb5, hb7, hb8, hb9], by kernel_rfl, ⟨hF.1, hF.2.1, hF.2.2.1, hF.2.2.2.1, hF.2.2.2.2.1, fun _ => rfl, hF.2.2.2.2.2.2.1, fun _ => rfl, fun _ => rfl, fun _ => rfl, fun _ => rfl, hF.2.2.2.2.2.2.2.2.2.2.2.1, hF.2.2.2.2.2.2.2.2.2.2.2.2.1, hF.2.2.2.2.2.2.2.2.2.2.2.2.2.1, hF.2.2.2.2.2.2.2.2.2.2.2.2.2.2.1, hF.2.2.2.2.2.2.2.2.2.2.2.2.2.2.2.1, hF.2.2.2.2.2.2.2.2.2.2.2.2.2.2.2.2.1, hF.2.2.2.2.2.2.2.2.2.2.2.2.2.2.2.2.2.1, hF.2.2.2.2.2.2.2.2.2.2.2.2.2.2.2.2.2.2.1, hF.2.2.2.2.2.2.2.2.2.2.2.2.2.2.2.2.2.2.2.1, hF.2.2.2.2.2.2.2.2.2.2.2.2.2.2.2.2.2.2.2.2.1, hF.2.2.2.2.2.2.2.2.2.2.2.2.2.2.2.2.2.2.2.2.2⟩, below_step hW hb⟩
    refine StepsI.cons rfl ?_ ?_
    · rintro L zA vA ⟨zB, zS, rfl, rfl, hF, hW⟩ hL hm K hK
      have hb11 : zB 11 = false := by simpa using hL
      have hb5 : zB 5 = true := by cases e : zB 5 with | false => (exfalso; revert hm; simp [metB, Region.binds, e]) | true => rfl
      have hb6 : zB 6 = true := by cases e : zB 6 with | false => (exfalso; revert hm; simp [metB, Region.binds, e]) | true => rfl
      have hb10 : zB 10 = true := by cases e : zB 10 with | false => (exfalso; revert hm; simp [metB, Region.binds, e]) | true => rfl
      have e5 : zS 50 = .bool false := hF.2.2.2.2.2.1 hb5
      have e6 : zS 51 = .agg #[.int .i64 m1, .int .i64 m2, .bool m3] := hF.2.2.2.2.2.2.1 hb6
      have e10 : zS 55 = .agg #[.int .i64 m1, .int .i64 m2, .bool m3] := hF.2.2.2.2.2.2.2.2.2.2.1 hb10
      clear hL hm
      simp only [puts, Act.put, List.setIfInBounds_toArray, List.set_cons_zero, List.set_cons_succ]
      simp only [e5, e6, e10]
      have hES := eqV_same m1 m2 m3
      go_simp
      exact hK.out _ _ ⟨fun zj => if zj = 10 then true else if zj = 6 then true else if zj = 5 then true else if zj = 11 then true else zB zj, fun zd => if zd = 56 then .bool false else if zd = 55 then .agg #[.int .i64 m1, .int .i64 m2, .bool m3] else if zd = 51 then .agg #[.int .i64 m1, .int .i64 m2, .bool m3] else if zd = 50 then .bool false else zS zd, by simp [hb5, hb6, hb10], by kernel_rfl, ⟨hF.1, hF.2.1, hF.2.2.1, hF.2.2.2.1, hF.2.2.2.2.1, fun _ => rfl, fun _ => rfl, hF.2.2.2.2.2.2.2.1, hF.2.2.2.2.2.2.2.2.1, hF.2.2.2.2.2.2.2.2.2.1, fun _ => rfl, fun _ => rfl, hF.2.2.2.2.2.2.2.2.2.2.2.2.1, hF.2.2.2.2.2.2.2.2.2.2.2.2.2.1, hF.2.2.2.2.2.2.2.2.2.2.2.2.2.2.1, hF.2.2.2.2.2.2.2.2.2.2.2.2.2.2.2.1, hF.2.2.2.2.2.2.2.2.2.2.2.2.2.2.2.2.1, hF.2.2.2.2.2.2.2.2.2.2.2.2.2.2.2.2.2.1, hF.2.2.2.2.2.2.2.2.2.2.2.2.2.2.2.2.2.2.1, hF.2.2.2.2.2.2.2.2.2.2.2.2.2.2.2.2.2.2.2.1, hF.2.2.2.2.2.2.2.2.2.2.2.2.2.2.2.2.2.2.2.2.1, hF.2.2.2.2.2.2.2.2.2.2.2.2.2.2.2.2.2.2.2.2.2⟩, hW⟩
    refine StepsI.cons rfl ?_ ?_
    · rintro L zA vA ⟨zB, zS, rfl, rfl, hF, hW⟩ hL hm K hK
      have hb12 : zB 12 = false := by simpa using hL
      have hb5 : zB 5 = true := by cases e : zB 5 with | false => (exfalso; revert hm; simp [metB, Region.binds, e]) | true => rfl
      have hb11 : zB 11 = true := by cases e : zB 11 with | false => (exfalso; revert hm; simp [metB, Region.binds, e]) | true => rfl
      have e5 : zS 50 = .bool false := hF.2.2.2.2.2.1 hb5
      have e11 : zS 56 = .bool false := hF.2.2.2.2.2.2.2.2.2.2.2.1 hb11
      clear hL hm
      simp only [puts, Act.put, List.setIfInBounds_toArray, List.set_cons_zero, List.set_cons_succ]
      simp only [e5, e11]
      go_simp
      exact hK.out _ _ ⟨fun zj => if zj = 11 then true else if zj = 5 then true else if zj = 12 then true else zB zj, fun zd => if zd = 57 then .bool false else if zd = 56 then .bool false else if zd = 50 then .bool false else zS zd, by simp [hb5, hb11], by kernel_rfl, ⟨hF.1, hF.2.1, hF.2.2.1, hF.2.2.2.1, hF.2.2.2.2.1, fun _ => rfl, hF.2.2.2.2.2.2.1, hF.2.2.2.2.2.2.2.1, hF.2.2.2.2.2.2.2.2.1, hF.2.2.2.2.2.2.2.2.2.1, hF.2.2.2.2.2.2.2.2.2.2.1, fun _ => rfl, fun _ => rfl, hF.2.2.2.2.2.2.2.2.2.2.2.2.2.1, hF.2.2.2.2.2.2.2.2.2.2.2.2.2.2.1, hF.2.2.2.2.2.2.2.2.2.2.2.2.2.2.2.1, hF.2.2.2.2.2.2.2.2.2.2.2.2.2.2.2.2.1, hF.2.2.2.2.2.2.2.2.2.2.2.2.2.2.2.2.2.1, hF.2.2.2.2.2.2.2.2.2.2.2.2.2.2.2.2.2.2.1, hF.2.2.2.2.2.2.2.2.2.2.2.2.2.2.2.2.2.2.2.1, hF.2.2.2.2.2.2.2.2.2.2.2.2.2.2.2.2.2.2.2.2.1, hF.2.2.2.2.2.2.2.2.2.2.2.2.2.2.2.2.2.2.2.2.2⟩, hW⟩
    refine StepsI.cons rfl ?_ ?_
    · rintro L zA vA ⟨zB, zS, rfl, rfl, hF, hW⟩ hL hm K hK
      have hb13 : zB 13 = false := by simpa using hL
      have hb12 : zB 12 = true := by cases e : zB 12 with | false => (exfalso; revert hm; simp [metB, Region.binds, e]) | true => rfl
      have e12 : zS 57 = .bool false := hF.2.2.2.2.2.2.2.2.2.2.2.2.1 hb12
      clear hL hm
      simp only [puts, Act.put, List.setIfInBounds_toArray, List.set_cons_zero, List.set_cons_succ]
      simp only [e12]
      go_simp
      exact hK.out _ _ ⟨fun zj => if zj = 12 then true else if zj = 13 then true else zB zj, fun zd => if zd = 58 then .bool false else if zd = 57 then .bool false else zS zd, by simp [hb12], by kernel_rfl, ⟨hF.1, hF.2.1, hF.2.2.1, hF.2.2.2.1, hF.2.2.2.2.1, hF.2.2.2.2.2.1, hF.2.2.2.2.2.2.1, hF.2.2.2.2.2.2.2.1, hF.2.2.2.2.2.2.2.2.1, hF.2.2.2.2.2.2.2.2.2.1, hF.2.2.2.2.2.2.2.2.2.2.1, hF.2.2.2.2.2.2.2.2.2.2.2.1, fun _ => rfl, fun _ => rfl, hF.2.2.2.2.2.2.2.2.2.2.2.2.2.2.1, hF.2.2.2.2.2.2.2.2.2.2.2.2.2.2.2.1, hF.2.2.2.2.2.2.2.2.2.2.2.2.2.2.2.2.1, hF.2.2.2.2.2.2.2.2.2.2.2.2.2.2.2.2.2.1, hF.2.2.2.2.2.2.2.2.2.2.2.2.2.2.2.2.2.2.1, hF.2.2.2.2.2.2.2.2.2.2.2.2.2.2.2.2.2.2.2.1, hF.2.2.2.2.2.2.2.2.2.2.2.2.2.2.2.2.2.2.2.2.1, hF.2.2.2.2.2.2.2.2.2.2.2.2.2.2.2.2.2.2.2.2.2⟩, hW⟩
    refine StepsI.cons rfl ?_ ?_
    · rintro L zA vA ⟨zB, zS, rfl, rfl, hF, hW⟩ hL hm K hK
      have hb14 : zB 14 = false := by simpa using hL
      have hb13 : zB 13 = true := by cases e : zB 13 with | false => (exfalso; revert hm; simp [metB, Region.binds, e]) | true => rfl
      have e13 : zS 58 = .bool false := hF.2.2.2.2.2.2.2.2.2.2.2.2.2.1 hb13
      clear hL hm
      simp only [puts, Act.put, List.setIfInBounds_toArray, List.set_cons_zero, List.set_cons_succ]
      simp only [e13]
      obtain ⟨q0, q1, q2, _, _, _⟩ := HV.out.below hW
      go_simp
      exact hK.out _ _ ⟨fun zj => if zj = 13 then true else if zj = 14 then true else zB zj, fun zd => if zd = 59 then .agg #[.int .i64 x, .int .i64 y, .bool u] else if zd = 58 then .bool false else zS zd, by simp [hb13], by kernel_rfl, ⟨hF.1, hF.2.1, hF.2.2.1, hF.2.2.2.1, hF.2.2.2.2.1, hF.2.2.2.2.2.1, hF.2.2.2.2.2.2.1, hF.2.2.2.2.2.2.2.1, hF.2.2.2.2.2.2.2.2.1, hF.2.2.2.2.2.2.2.2.2.1, hF.2.2.2.2.2.2.2.2.2.2.1, hF.2.2.2.2.2.2.2.2.2.2.2.1, hF.2.2.2.2.2.2.2.2.2.2.2.2.1, fun _ => rfl, fun _ => rfl, hF.2.2.2.2.2.2.2.2.2.2.2.2.2.2.2.1, hF.2.2.2.2.2.2.2.2.2.2.2.2.2.2.2.2.1, hF.2.2.2.2.2.2.2.2.2.2.2.2.2.2.2.2.2.1, hF.2.2.2.2.2.2.2.2.2.2.2.2.2.2.2.2.2.2.1, hF.2.2.2.2.2.2.2.2.2.2.2.2.2.2.2.2.2.2.2.1, hF.2.2.2.2.2.2.2.2.2.2.2.2.2.2.2.2.2.2.2.2.1, hF.2.2.2.2.2.2.2.2.2.2.2.2.2.2.2.2.2.2.2.2.2⟩, hW⟩
    refine StepsI.cons rfl ?_ ?_
    · rintro L zA vA ⟨zB, zS, rfl, rfl, hF, hW⟩ hL hm K hK
      have hb15 : zB 15 = false := by simpa using hL
      have hb13 : zB 13 = true := by cases e : zB 13 with | false => (exfalso; revert hm; simp [metB, Region.binds, e]) | true => rfl
      have e13 : zS 58 = .bool false := hF.2.2.2.2.2.2.2.2.2.2.2.2.2.1 hb13
      clear hL hm
      simp only [puts, Act.put, List.setIfInBounds_toArray, List.set_cons_zero, List.set_cons_succ]
      simp only [e13]
      obtain ⟨q0, q1, _, _⟩ := HC.out.below hW
      go_simp
      exact hK.out _ _ ⟨fun zj => if zj = 13 then true else if zj = 15 then true else zB zj, fun zd => if zd = 60 then .agg #[.bool r, .int .i64 n] else if zd = 58 then .bool false else zS zd, by simp [hb13], by kernel_rfl, ⟨hF.1, hF.2.1, hF.2.2.1, hF.2.2.2.1, hF.2.2.2.2.1, hF.2.2.2.2.2.1, hF.2.2.2.2.2.2.1, hF.2.2.2.2.2.2.2.1, hF.2.2.2.2.2.2.2.2.1, hF.2.2.2.2.2.2.2.2.2.1, hF.2.2.2.2.2.2.2.2.2.2.1, hF.2.2.2.2.2.2.2.2.2.2.2.1, hF.2.2.2.2.2.2.2.2.2.2.2.2.1, fun _ => rfl, hF.2.2.2.2.2.2.2.2.2.2.2.2.2.2.1, fun _ => rfl, hF.2.2.2.2.2.2.2.2.2.2.2.2.2.2.2.2.1, hF.2.2.2.2.2.2.2.2.2.2.2.2.2.2.2.2.2.1, hF.2.2.2.2.2.2.2.2.2.2.2.2.2.2.2.2.2.2.1, hF.2.2.2.2.2.2.2.2.2.2.2.2.2.2.2.2.2.2.2.1, hF.2.2.2.2.2.2.2.2.2.2.2.2.2.2.2.2.2.2.2.2.1, hF.2.2.2.2.2.2.2.2.2.2.2.2.2.2.2.2.2.2.2.2.2⟩, hW⟩
    refine StepsI.cons rfl ?_ ?_
    · rintro L zA vA ⟨zB, zS, rfl, rfl, hF, hW⟩ hL hm K hK
      have hb16 : zB 16 = false := by simpa using hL
      have hb13 : zB 13 = true := by cases e : zB 13 with | false => (exfalso; revert hm; simp [metB, Region.binds, e]) | true => rfl
      have hb14 : zB 14 = true := by cases e : zB 14 with | false => (exfalso; revert hm; simp [metB, Region.binds, e]) | true => rfl
      have hb15 : zB 15 = true := by cases e : zB 15 with | false => (exfalso; revert hm; simp [metB, Region.binds, e]) | true => rfl
      have e13 : zS 58 = .bool false := hF.2.2.2.2.2.2.2.2.2.2.2.2.2.1 hb13
      have e14 : zS 59 = .agg #[.int .i64 x, .int .i64 y, .bool u] := hF.2.2.2.2.2.2.2.2.2.2.2.2.2.2.1 hb14
      have e15 : zS 60 = .agg #[.bool r, .int .i64 n] := hF.2.2.2.2.2.2.2.2.2.2.2.2.2.2.2.1 hb15
      clear hL hm
      simp only [puts, Act.put, List.setIfInBounds_toArray, List.set_cons_zero, List.set_cons_succ]
      simp only [e13, e14, e15]
      go_simp
      refine (iVhas_any x y u r n _).mono ?_
      rintro e vA2 ⟨rfl, hb⟩
      rw [HHV.out]
      go_wp2_with fail
      exact hK.out _ _ ⟨fun zj => if zj = 15 then true else if zj = 14 then true else if zj = 13 then true else if zj = 16 then true else zB zj, fun zd => if zd = 61 then .bool hv else if zd = 60 then .agg #[.bool r, .int .i64 n] else if zd = 59 then .agg #[.int .i64 x, .int .i64 y, .bool u] else if zd = 58 then .bool false else zS zd, by simp [hb13, hb14, hb15], by kernel_rfl, ⟨hF.1, hF.2.1, hF.2.2.1, hF.2.2.2.1, hF.2.2.2.2.1, hF.2.2.2.2.2.1, hF.2.2.2.2.2.2.1, hF.2.2.2.2.2.2.2.1, hF.2.2.2.2.2.2.2.2.1, hF.2.2.2.2.2.2.2.2.2.1, hF.2.2.2.2.2.2.2.2.2.2.1, hF.2.2.2.2.2.2.2.2.2.2.2.1, hF.2.2.2.2.2.2.2.2.2.2.2.2.1, fun _ => rfl, fun _ => rfl, fun _ => rfl, fun _ => rfl, hF.2.2.2.2.2.2.2.2.2.2.2.2.2.2.2.2.2.1, hF.2.2.2.2.2.2.2.2.2.2.2.2.2.2.2.2.2.2.1, hF.2.2.2.2.2.2.2.2.2.2.2.2.2.2.2.2.2.2.2.1, hF.2.2.2.2.2.2.2.2.2.2.2.2.2.2.2.2.2.2.2.2.1, hF.2.2.2.2.2.2.2.2.2.2.2.2.2.2.2.2.2.2.2.2.2⟩, below_step hW hb⟩
    refine StepsI.cons rfl ?_ ?_
    · rintro L zA vA ⟨zB, zS, rfl, rfl, hF, hW⟩ hL hm K hK
      have hb17 : zB 17 = false := by simpa using hL
      have hb13 : zB 13 = true := by cases e : zB 13 with | false => (exfalso; revert hm; simp [metB, Region.binds, e]) | true => rfl
      have e13 : zS 58 = .bool false := hF.2.2.2.2.2.2.2.2.2.2.2.2.2.1 hb13
      clear hL hm
      simp only [puts, Act.put, List.setIfInBounds_toArray, List.set_cons_zero, List.set_cons_succ]
      simp only [e13]
      obtain ⟨q0, q1, q2, _, _, _⟩ := HV.out.below hW
      go_simp
      exact hK.out _ _ ⟨fun zj => if zj = 13 then true else if zj = 17 then true else zB zj, fun zd => if zd = 62 then .agg #[.int .i64 x, .int .i64 y, .bool u] else if zd = 58 then .bool false else zS zd, by simp [hb13], by kernel_rfl, ⟨hF.1, hF.2.1, hF.2.2.1, hF.2.2.2.1, hF.2.2.2.2.1, hF.2.2.2.2.2.1, hF.2.2.2.2.2.2.1, hF.2.2.2.2.2.2.2.1, hF.2.2.2.2.2.2.2.2.1, hF.2.2.2.2.2.2.2.2.2.1, hF.2.2.2.2.2.2.2.2.2.2.1, hF.2.2.2.2.2.2.2.2.2.2.2.1, hF.2.2.2.2.2.2.2.2.2.2.2.2.1, fun _ => rfl, hF.2.2.2.2.2.2.2.2.2.2.2.2.2.2.1, hF.2.2.2.2.2.2.2.2.2.2.2.2.2.2.2.1, hF.2.2.2.2.2.2.2.2.2.2.2.2.2.2.2.2.1, fun _ => rfl, hF.2.2.2.2.2.2.2.2.2.2.2.2.2.2.2.2.2.2.1, hF.2.2.2.2.2.2.2.2.2.2.2.2.2.2.2.2.2.2.2.1, hF.2.2.2.2.2.2.2.2.2.2.2.2.2.2.2.2.2.2.2.2.1, hF.2.2.2.2.2.2.2.2.2.2.2.2.2.2.2.2.2.2.2.2.2⟩, hW⟩
    refine StepsI.cons rfl ?_ ?_
    · rintro L zA vA ⟨zB, zS, rfl, rfl, hF, hW⟩ hL hm K hK
      have hb18 : zB 18 = false := by simpa using hL
      have hb13 : zB 13 = true := by cases e : zB 13 with | false => (exfalso; revert hm; simp [metB, Region.binds, e]) | true => rfl
      have e13 : zS 58 = .bool false := hF.2.2.2.2.2.2.2.2.2.2.2.2.2.1 hb13
      clear hL hm
      simp only [puts, Act.put, List.setIfInBounds_toArray, List.set_cons_zero, List.set_cons_succ]
      simp only [e13]
      obtain ⟨q0, q1, _, _⟩ := HC.out.below hW
      go_simp
      exact hK.out _ _ ⟨fun zj => if zj = 13 then true else if zj = 18 then true else zB zj, fun zd => if zd = 63 then .agg #[.bool r, .int .i64 n] else if zd = 58 then .bool false else zS zd, by simp [hb13], by kernel_rfl, ⟨hF.1, hF.2.1, hF.2.2.1, hF.2.2.2.1, hF.2.2.2.2.1, hF.2.2.2.2.2.1, hF.2.2.2.2.2.2.1, hF.2.2.2.2.2.2.2.1, hF.2.2.2.2.2.2.2.2.1, hF.2.2.2.2.2.2.2.2.2.1, hF.2.2.2.2.2.2.2.2.2.2.1, hF.2.2.2.2.2.2.2.2.2.2.2.1, hF.2.2.2.2.2.2.2.2.2.2.2.2.1, fun _ => rfl, hF.2.2.2.2.2.2.2.2.2.2.2.2.2.2.1, hF.2.2.2.2.2.2.2.2.2.2.2.2.2.2.2.1, hF.2.2.2.2.2.2.2.2.2.2.2.2.2.2.2.2.1, hF.2.2.2.2.2.2.2.2.2.2.2.2.2.2.2.2.2.1, fun _ => rfl, hF.2.2.2.2.2.2.2.2.2.2.2.2.2.2.2.2.2.2.2.1, hF.2.2.2.2.2.2.2.2.2.2.2.2.2.2.2.2.2.2.2.2.1, hF.2.2.2.2.2.2.2.2.2.2.2.2.2.2.2.2.2.2.2.2.2⟩, hW⟩
    refine StepsI.cons rfl ?_ ?_
    · rintro L zA vA ⟨zB, zS, rfl, rfl, hF, hW⟩ hL hm K hK
      have hb19 : zB 19 = false := by simpa using hL
      have hb13 : zB 13 = true := by cases e : zB 13 with | false => (exfalso; revert hm; simp [metB, Region.binds, e]) | true => rfl
      have hb17 : zB 17 = true := by cases e : zB 17 with | false => (exfalso; revert hm; simp [metB, Region.binds, e]) | true => rfl
      have hb18 : zB 18 = true := by cases e : zB 18 with | false => (exfalso; revert hm; simp [metB, Region.binds, e]) | true => rfl
      have e13 : zS 58 = .bool false := hF.2.2.2.2.2.2.2.2.2.2.2.2.2.1 hb13
      have e17 : zS 62 = .agg #[.int .i64 x, .int .i64 y, .bool u] := hF.2.2.2.2.2.2.2.2.2.2.2.2.2.2.2.2.2.1 hb17
      have e18 : zS 63 = .agg #[.bool r, .int .i64 n] := hF.2.2.2.2.2.2.2.2.2.2.2.2.2.2.2.2.2.2.1 hb18
      clear hL hm
      simp only [puts, Act.put, List.setIfInBounds_toArray, List.set_cons_zero, List.set_cons_succ]
      simp only [e13, e17, e18]
      go_simp
      refine (sVhas_any x y u r n _).mono ?_
      rintro e vA2 ⟨rfl, hb⟩
      rw [HHV.out]
      go_wp2_with fail
      exact hK.out _ _ ⟨fun zj => if zj = 18 then true else if zj = 17 then true else if zj = 13 then true else if zj = 19 then true else zB zj, fun zd => if zd = 64 then .bool hv else if zd = 63 then .agg #[.bool r, .int .i64 n] else if zd = 62 then .agg #[.int .i64 x, .int .i64 y, .bool u] else if zd = 58 then .bool false else zS zd, by simp [hb13, hb17, hb18], by kernel_rfl, ⟨hF.1, hF.2.1, hF.2.2.1, hF.2.2.2.1, hF.2.2.2.2.1, hF.2.2.2.2.2.1, hF.2.2.2.2.2.2.1, hF.2.2.2.2.2.2.2.1, hF.2.2.2.2.2.2.2.2.1, hF.2.2.2.2.2.2.2.2.2.1, hF.2.2.2.2.2.2.2.2.2.2.1, hF.2.2.2.2.2.2.2.2.2.2.2.1, hF.2.2.2.2.2.2.2.2.2.2.2.2.1, fun _ => rfl, hF.2.2.2.2.2.2.2.2.2.2.2.2.2.2.1, hF.2.2.2.2.2.2.2.2.2.2.2.2.2.2.2.1, hF.2.2.2.2.2.2.2.2.2.2.2.2.2.2.2.2.1, fun _ => rfl, fun _ => rfl, fun _ => rfl, hF.2.2.2.2.2.2.2.2.2.2.2.2.2.2.2.2.2.2.2.2.1, hF.2.2.2.2.2.2.2.2.2.2.2.2.2.2.2.2.2.2.2.2.2⟩, below_step hW hb⟩
    refine StepsI.cons rfl ?_ ?_
    · rintro L zA vA ⟨zB, zS, rfl, rfl, hF, hW⟩ hL hm K hK
      have hb20 : zB 20 = false := by simpa using hL
      have hb13 : zB 13 = true := by cases e : zB 13 with | false => (exfalso; revert hm; simp [metB, Region.binds, e]) | true => rfl
      have hb16 : zB 16 = true := by cases e : zB 16 with | false => (exfalso; revert hm; simp [metB, Region.binds, e]) | true => rfl
      have hb19 : zB 19 = true := by cases e : zB 19 with | false => (exfalso; revert hm; simp [metB, Region.binds, e]) | true => rfl
      have e13 : zS 58 = .bool false := hF.2.2.2.2.2.2.2.2.2.2.2.2.2.1 hb13
      have e16 : zS 61 = .bool hv := hF.2.2.2.2.2.2.2.2.2.2.2.2.2.2.2.2.1 hb16
      have e19 : zS 64 = .bool hv := hF.2.2.2.2.2.2.2.2.2.2.2.2.2.2.2.2.2.2.2.1 hb19
      clear hL hm
      simp only [puts, Act.put, List.setIfInBounds_toArray, List.set_cons_zero, List.set_cons_succ]
      simp only [e13, e16, e19]
      have hES : (hv != hv) = false := by simp
      go_simp
      exact hK.out _ _ ⟨fun zj => if zj = 19 then true else if zj = 16 then true else if zj = 13 then true else if zj = 20 then true else zB zj, fun zd => if zd = 65 then .bool false else if zd = 64 then .bool hv else if zd = 61 then .bool hv else if zd = 58 then .bool false else zS zd, by simp [hb13, hb16, hb19], by kernel_rfl, ⟨hF.1, hF.2.1, hF.2.2.1, hF.2.2.2.1, hF.2.2.2.2.1, hF.2.2.2.2.2.1, hF.2.2.2.2.2.2.1, hF.2.2.2.2.2.2.2.1, hF.2.2.2.2.2.2.2.2.1, hF.2.2.2.2.2.2.2.2.2.1, hF.2.2.2.2.2.2.2.2.2.2.1, hF.2.2.2.2.2.2.2.2.2.2.2.1, hF.2.2.2.2.2.2.2.2.2.2.2.2.1, fun _ => rfl, hF.2.2.2.2.2.2.2.2.2.2.2.2.2.2.1, hF.2.2.2.2.2.2.2.2.2.2.2.2.2.2.2.1, fun _ => rfl, hF.2.2.2.2.2.2.2.2.2.2.2.2.2.2.2.2.2.1, hF.2.2.2.2.2.2.2.2.2.2.2.2.2.2.2.2.2.2.1, fun _ => rfl, fun _ => rfl, hF.2.2.2.2.2.2.2.2.2.2.2.2.2.2.2.2.2.2.2.2.2⟩, hW⟩
    refine StepsI.cons rfl ?_ ?_
    · rintro L zA vA ⟨zB, zS, rfl, rfl, hF, hW⟩ hL hm K hK
      have hb21 : zB 21 = false := by simpa using hL
      have hb13 : zB 13 = true := by cases e : zB 13 with | false => (exfalso; revert hm; simp [metB, Region.binds, e]) | true => rfl
      have hb20 : zB 20 = true := by cases e : zB 20 with | false => (exfalso; revert hm; simp [metB, Region.binds, e]) | true => rfl
      have e13 : zS 58 = .bool false := hF.2.2.2.2.2.2.2.2.2.2.2.2.2.1 hb13
      have e20 : zS 65 = .bool false := hF.2.2.2.2.2.2.2.2.2.2.2.2.2.2.2.2.2.2.2.2.1 hb20
      clear hL hm
      simp only [puts, Act.put, List.setIfInBounds_toArray, List.set_cons_zero, List.set_cons_succ]
      simp only [e13, e20]
      go_simp
      exact hK.out _ _ ⟨fun zj => if zj = 20 then true else if zj = 13 then true else if zj = 21 then true else zB zj, fun zd => if zd = 66 then .bool false else if zd = 65 then .bool false else if zd = 58 then .bool false else zS zd, by simp [hb13, hb20], by kernel_rfl, ⟨hF.1, hF.2.1, hF.2.2.1, hF.2.2.2.1, hF.2.2.2.2.1, hF.2.2.2.2.2.1, hF.2.2.2.2.2.2.1, hF.2.2.2.2.2.2.2.1, hF.2.2.2.2.2.2.2.2.1, hF.2.2.2.2.2.2.2.2.2.1, hF.2.2.2.2.2.2.2.2.2.2.1, hF.2.2.2.2.2.2.2.2.2.2.2.1, hF.2.2.2.2.2.2.2.2.2.2.2.2.1, fun _ => rfl, hF.2.2.2.2.2.2.2.2.2.2.2.2.2.2.1, hF.2.2.2.2.2.2.2.2.2.2.2.2.2.2.2.1, hF.2.2.2.2.2.2.2.2.2.2.2.2.2.2.2.2.1, hF.2.2.2.2.2.2.2.2.2.2.2.2.2.2.2.2.2.1, hF.2.2.2.2.2.2.2.2.2.2.2.2.2.2.2.2.2.2.1, hF.2.2.2.2.2.2.2.2.2.2.2.2.2.2.2.2.2.2.2.1, fun _ => rfl, fun _ => rfl⟩, hW⟩
    exact StepsI.nil (by kernel_rfl)
  · rintro L zA vA ⟨zB, zS, rfl, rfl, hF, hW⟩ hr
    have hu := all_up (by kernel_rfl) (N := 22) (by kernel_rfl) hr
    have hb0 : zB 0 = true := by simpa using hu 0 (by decide)
    have hb1 : zB 1 = true := by simpa using hu 1 (by decide)
    have hb2 : zB 2 = true := by simpa using hu 2 (by decide)
    have hb3 : zB 3 = true := by simpa using hu 3 (by decide)
    have hb4 : zB 4 = true := by simpa using hu 4 (by decide)
    have hb5 : zB 5 = true := by simpa using hu 5 (by decide)
    have hb6 : zB 6 = true := by simpa using hu 6 (by decide)
    have hb7 : zB 7 = true := by simpa using hu 7 (by decide)
    have hb8 : zB 8 = true := by simpa using hu 8 (by decide)
    have hb9 : zB 9 = true := by simpa using hu 9 (by decide)
    have hb10 : zB 10 = true := by simpa using hu 10 (by decide)
    have hb11 : zB 11 = true := by simpa using hu 11 (by decide)
    have hb12 : zB 12 = true := by simpa using hu 12 (by decide)
    have hb13 : zB 13 = true := by simpa using hu 13 (by decide)
    have hb14 : zB 14 = true := by simpa using hu 14 (by decide)
    have hb15 : zB 15 = true := by simpa using hu 15 (by decide)
    have hb16 : zB 16 = true := by simpa using hu 16 (by decide)
    have hb17 : zB 17 = true := by simpa using hu 17 (by decide)
    have hb18 : zB 18 = true := by simpa using hu 18 (by decide)
    have hb19 : zB 19 = true := by simpa using hu 19 (by decide)
    have hb20 : zB 20 = true := by simpa using hu 20 (by decide)
    have hb21 : zB 21 = true := by simpa using hu 21 (by decide)
    have e0 : zS 45 = .agg #[.int .i64 j1, .int .i64 j2, .bool j3] := hF.1 hb0
    have e1 : zS 46 = .agg #[.int .i64 a, .int .i64 b, .bool s] := hF.2.1 hb1
    have e2 : zS 47 = .agg #[.int .i64 c, .int .i64 d, .bool t] := hF.2.2.1 hb2
    have e3 : zS 48 = .agg #[.int .i64 j1, .int .i64 j2, .bool j3] := hF.2.2.2.1 hb3
    have e4 : zS 49 = .bool false := hF.2.2.2.2.1 hb4
    have e5 : zS 50 = .bool false := hF.2.2.2.2.2.1 hb5
    have e6 : zS 51 = .agg #[.int .i64 m1, .int .i64 m2, .bool m3] := hF.2.2.2.2.2.2.1 hb6
    have e7 : zS 52 = .agg #[.int .i64 a, .int .i64 b, .bool s] := hF.2.2.2.2.2.2.2.1 hb7
    have e8 : zS 53 = .agg #[.int .i64 c, .int .i64 d, .bool t] := hF.2.2.2.2.2.2.2.2.1 hb8
    have e9 : zS 54 = .slice (some ⟨g, 0, none⟩) l.length cp := hF.2.2.2.2.2.2.2.2.2.1 hb9
    have e10 : zS 55 = .agg #[.int .i64 m1, .int .i64 m2, .bool m3] := hF.2.2.2.2.2.2.2.2.2.2.1 hb10
    have e11 : zS 56 = .bool false := hF.2.2.2.2.2.2.2.2.2.2.2.1 hb11
    have e12 : zS 57 = .bool false := hF.2.2.2.2.2.2.2.2.2.2.2.2.1 hb12
    have e13 : zS 58 = .bool false := hF.2.2.2.2.2.2.2.2.2.2.2.2.2.1 hb13
    have e14 : zS 59 = .agg #[.int .i64 x, .int .i64 y, .bool u] := hF.2.2.2.2.2.2.2.2.2.2.2.2.2.2.1 hb14
    have e15 : zS 60 = .agg #[.bool r, .int .i64 n] := hF.2.2.2.2.2.2.2.2.2.2.2.2.2.2.2.1 hb15
    have e16 : zS 61 = .bool hv := hF.2.2.2.2.2.2.2.2.2.2.2.2.2.2.2.2.1 hb16
    have e17 : zS 62 = .agg #[.int .i64 x, .int .i64 y, .bool u] := hF.2.2.2.2.2.2.2.2.2.2.2.2.2.2.2.2.2.1 hb17
    have e18 : zS 63 = .agg #[.bool r, .int .i64 n] := hF.2.2.2.2.2.2.2.2.2.2.2.2.2.2.2.2.2.2.1 hb18
    have e19 : zS 64 = .bool hv := hF.2.2.2.2.2.2.2.2.2.2.2.2.2.2.2.2.2.2.2.1 hb19
    have e20 : zS 65 = .bool false := hF.2.2.2.2.2.2.2.2.2.2.2.2.2.2.2.2.2.2.2.2.1 hb20
    have e21 : zS 66 = .bool false := hF.2.2.2.2.2.2.2.2.2.2.2.2.2.2.2.2.2.2.2.2.2 hb21
    clear hu hr hF
    simp only [puts, Act.put, List.setIfInBounds_toArray, List.set_cons_zero, List.set_cons_succ]
    simp only [e0, e1, e2, e3, e4, e5, e6, e7, e8, e9, e10, e11, e12, e13, e14, e15, e16, e17, e18, e19, e20, e21]
    clear e0 e1 e2 e3 e4 e5 e6 e7 e8 e9 e10 e11 e12 e13 e14 e15 e16 e17 e18 e19 e20 e21
    clear hb0 hb1 hb2 hb3 hb4 hb5 hb6 hb7 hb8 hb9 hb10 hb11 hb12 hb13 hb14 hb15 hb16 hb17 hb18 hb19 hb20 hb21
    clear zB zS
    have BE := mkHid (below_step BE.out hW)
    have HM := mkHid (Bytes.up2 HM.out hW)
    have HA := mkHid (HA.out.below hW)
    have HB := mkHid (HB.out.below hW)
    have HI := mkHid (HI.out.below hW)
    have HV := mkHid (HV.out.below hW)
    have HC := mkHid (HC.out.below hW)
    have HJ := mkHid (HJ.out.below hW)
    have HD := mkHid (HD.out.below hW)
    clear hW
    clear HV HD HI HM HHV M1 M2 M3
    cases k1 : okB a b
    · obtain ⟨ha0, ha1, ha2, ha3, ha4, ha5⟩ := HA.out
      go_wp2_with fail
      refine (sVok_any a b s _).mono ?_
      rintro e w6 ⟨rfl, hb⟩
      clear ha0 ha1 ha2 ha3 ha4 ha5
      have BE := mkHid (below_step BE.out hb)
      have HA := mkHid (HA.out.below hb)
      have HB := mkHid (HB.out.below hb)
      have HC := mkHid (HC.out.below hb)
      have HJ := mkHid (HJ.out.below hb)
      clear hb
      rw [k1]
      go_wp2
      go_ret
      exact ⟨rfl, BE.out⟩
    · obtain ⟨ha0, ha1, ha2, ha3, ha4, ha5⟩ := HA.out
      go_wp2_with fail
      refine (sVok_any a b s _).mono ?_
      rintro e w6 ⟨rfl, hb⟩
      clear ha0 ha1 ha2 ha3 ha4 ha5
      have BE := mkHid (below_step BE.out hb)
      have HA := mkHid (HA.out.below hb)
      have HB := mkHid (HB.out.below hb)
      have HC := mkHid (HC.out.below hb)
      have HJ := mkHid (HJ.out.below hb)
      clear hb
      rw [k1]
      cases k2 : okB c d
      · obtain ⟨hb0, hb1, hb2, hb3, hb4, hb5⟩ := HB.out
        go_wp2_with fail
        refine (sVok_any c d t _).mono ?_
        rintro e w7 ⟨rfl, hb⟩
        clear hb0 hb1 hb2 hb3 hb4 hb5
        have BE := mkHid (below_step BE.out hb)
        have HA := mkHid (HA.out.below hb)
        have HB := mkHid (HB.out.below hb)
        have HC := mkHid (HC.out.below hb)
        have HJ := mkHid (HJ.out.below hb)
        clear hb
        rw [k2]
        go_wp2
        go_ret
        exact ⟨rfl, BE.out⟩
      · obtain ⟨hb0, hb1, hb2, hb3, hb4, hb5⟩ := HB.out
        go_wp2_with fail
        refine (sVok_any c d t _).mono ?_
        rintro e w7 ⟨rfl, hb⟩
        clear hb0 hb1 hb2 hb3 hb4 hb5
        have BE := mkHid (below_step BE.out hb)
        have HA := mkHid (HA.out.below hb)
        have HB := mkHid (HB.out.below hb)
        have HC := mkHid (HC.out.below hb)
        have HJ := mkHid (HJ.out.below hb)
        clear hb
        rw [k2]
        have JE := mkHid (joinV_ok (s := s) (t := t) k1 k2)
        have E1 : Hid ((joinM a b c d).1 = j1) := mkHid (by rw [← J1.out, JE.out])
        have E2 : Hid ((joinM a b c d).2 = j2) := mkHid (by rw [← J2.out, JE.out])
        have E3 : Hid ((s && t) = j3) := mkHid (by rw [← J3.out, JE.out])
        have HJO : Hid (okB j1 j2 = true) := mkHid (by rw [← E1.out, ← E2.out]; exact joinM_okB k1 k2)
        have HL1 : Hid (leqV a b s j1 j2 j3 = true) := mkHid (by rw [← E1.out, ← E2.out, ← E3.out]; exact leq_join1 k1 k2)
        have HL2 : Hid (leqV c d t j1 j2 j3 = true) := mkHid (by rw [← E1.out, ← E2.out, ← E3.out]; exact leq_join2 k1 k2)
        obtain ⟨zz, hzz⟩ : ∃ q, leqV a b s c d t = q := ⟨_, rfl⟩
        have HZL := mkHid hzz
        have HZE : Hid (eqV j1 j2 j3 c d t = zz) := mkHid (by rw [← hzz, leq_eq k1 k2, E1.out, E2.out, E3.out])
        clear hzz
        go_upto_region 12 with fail
        go_cut [91] from 75 to 91 (fun z v => z = .bool false ∧ Below w7.heap.size w7 v)
        case first =>
          cases hA : hasV a b s r n <;> cases hB : hasV c d t r n
          · have HHA := mkHid hA
            have HHB := mkHid hB
            clear hA hB
            refine wp_region_inv2 (fun zA0 L zA vB => ∃ (zB : Nat → Bool) (zS : Nat → Value), L = #[zB 0, zB 1, zB 2, zB 3, zB 4, zB 5, zB 6, zB 7, zB 8, zB 9, zB 10, zB 11, zB 12, zB 13, zB 14, zB 15, zB 16] ∧ zA = puts zA0 [(75, zS 75), (76, zS 76), (77, zS 77), (78, zS 78), (79, zS 79), (80, zS 80), (81, zS 81), (82, zS 82), (83, zS 83), (84, zS 84), (85, zS 85), (86, zS 86), (87, zS 87), (88, zS 88), (89, zS 89), (90, zS 90), (91, zS 91)] ∧ ((zB 0 = true → zS 75 = .agg #[.int .i64 a, .int .i64 b, .bool s]) ∧ (zB 1 = true → zS 76 = .agg #[.bool r, .int .i64 n]) ∧ (zB 2 = true → zS 77 = .bool false) ∧ (zB 3 = true → zS 78 = .bool false) ∧ (zB 4 = true → zS 79 = .agg #[.int .i64 c, .int .i64 d, .bool t]) ∧ (zB 5 = true → zS 80 = .agg #[.bool r, .int .i64 n]) ∧ (zB 6 = true → zS 81 = .bool false) ∧ (zB 7 = true → zS 82 = .bool false) ∧ (zB 8 = true → zS 83 = .agg #[.int .i64 a, .int .i64 b, .bool s]) ∧ (zB 9 = true → zS 84 = .agg #[.bool r, .int .i64 n]) ∧ (zB 10 = true → zS 85 = .bool false) ∧ (zB 11 = true → zS 86 = .bool false) ∧ (zB 12 = true → zS 87 = .agg #[.int .i64 c, .int .i64 d, .bool t]) ∧ (zB 13 = true → zS 88 = .agg #[.bool r, .int .i64 n]) ∧ (zB 14 = true → zS 89 = .bool false) ∧ (zB 15 = true → zS 90 = .bool false) ∧ (zB 16 = true → zS 91 = .bool false)) ∧ Below w7.heap.size w7 vB) (by kernel_rfl) ?_ ?_ ?_
            · exact ⟨fun _ => false, fun _ => undef, rfl, by kernel_rfl, ⟨fun e => ft e, fun e => ft e, fun e => ft e, fun e => ft e, fun e => ft e, fun e => ft e, fun e => ft e, fun e => ft e, fun e => ft e, fun e => ft e, fun e => ft e, fun e => ft e, fun e => ft e, fun e => ft e, fun e => ft e, fun e => ft e, fun e => ft e⟩, (Below.refl _ _).drew⟩
            · refine StepsI.cons rfl ?_ ?_
              · rintro L zA vB ⟨zB, zS, rfl, rfl, hF, hW⟩ hL hm K hK
                have hb0 : zB 0 = false := by simpa using hL
                clear hL hm
                simp only [puts, Act.put, List.setIfInBounds_toArray, List.set_cons_zero, List.set_cons_succ]
                obtain ⟨q0, q1, q2, _, _, _⟩ := HA.out.below hW
                go_simp
                exact hK.out _ _ ⟨fun zj => if zj = 0 then true else zB zj, fun zd => if zd = 75 then .agg #[.int .i64 a, .int .i64 b, .bool s] else zS zd, rfl, by kernel_rfl, ⟨fun _ => rfl, hF.2.1, hF.2.2.1, hF.2.2.2.1, hF.2.2.2.2.1, hF.2.2.2.2.2.1, hF.2.2.2.2.2.2.1, hF.2.2.2.2.2.2.2.1, hF.2.2.2.2.2.2.2.2.1, hF.2.2.2.2.2.2.2.2.2.1, hF.2.2.2.2.2.2.2.2.2.2.1, hF.2.2.2.2.2.2.2.2.2.2.2.1, hF.2.2.2.2.2.2.2.2.2.2.2.2.1, hF.2.2.2.2.2.2.2.2.2.2.2.2.2.1, hF.2.2.2.2.2.2.2.2.2.2.2.2.2.2.1, hF.2.2.2.2.2.2.2.2.2.2.2.2.2.2.2.1, hF.2.2.2.2.2.2.2.2.2.2.2.2.2.2.2.2⟩, hW⟩
              refine StepsI.cons rfl ?_ ?_
              · rintro L zA vB ⟨zB, zS, rfl, rfl, hF, hW⟩ hL hm K hK
                have hb1 : zB 1 = false := by simpa using hL
                clear hL hm
                simp only [puts, Act.put, List.setIfInBounds_toArray, List.set_cons_zero, List.set_cons_succ]
                obtain ⟨q0, q1, _, _⟩ := HC.out.below hW
                go_simp
                exact hK.out _ _ ⟨fun zj => if zj = 1 then true else zB zj, fun zd => if zd = 76 then .agg #[.bool r, .int .i64 n] else zS zd, rfl, by kernel_rfl, ⟨hF.1, fun _ => rfl, hF.2.2.1, hF.2.2.2.1, hF.2.2.2.2.1, hF.2.2.2.2.2.1, hF.2.2.2.2.2.2.1, hF.2.2.2.2.2.2.2.1, hF.2.2.2.2.2.2.2.2.1, hF.2.2.2.2.2.2.2.2.2.1, hF.2.2.2.2.2.2.2.2.2.2.1, hF.2.2.2.2.2.2.2.2.2.2.2.1, hF.2.2.2.2.2.2.2.2.2.2.2.2.1, hF.2.2.2.2.2.2.2.2.2.2.2.2.2.1, hF.2.2.2.2.2.2.2.2.2.2.2.2.2.2.1, hF.2.2.2.2.2.2.2.2.2.2.2.2.2.2.2.1, hF.2.2.2.2.2.2.2.2.2.2.2.2.2.2.2.2⟩, hW⟩
              refine StepsI.cons rfl ?_ ?_
              · rintro L zA vB ⟨zB, zS, rfl, rfl, hF, hW⟩ hL hm K hK
                have hb2 : zB 2 = false := by simpa using hL
                have hb0 : zB 0 = true := by cases e : zB 0 with | false => (exfalso; revert hm; simp [metB, Region.binds, e]) | true => rfl
                have hb1 : zB 1 = true := by cases e : zB 1 with | false => (exfalso; revert hm; simp [metB, Region.binds, e]) | true => rfl
                have e0 : zS 75 = .agg #[.int .i64 a, .int .i64 b, .bool s] := hF.1 hb0
                have e1 : zS 76 = .agg #[.bool r, .int .i64 n] := hF.2.1 hb1
                clear hL hm
                simp only [puts, Act.put, List.setIfInBounds_toArray, List.set_cons_zero, List.set_cons_succ]
                simp only [e0, e1]
                go_simp
                refine (iVhas_any a b s r n _).mono ?_
                rintro e vB2 ⟨rfl, hb⟩
                rw [HHA.out]
                go_wp2_with fail
                exact hK.out _ _ ⟨fun zj => if zj = 1 then true else if zj = 0 then true else if zj = 2 then true else zB zj, fun zd => if zd = 77 then .bool false else if zd = 76 then .agg #[.bool r, .int .i64 n] else if zd = 75 then .agg #[.int .i64 a, .int .i64 b, .bool s] else zS zd, by simp [hb0, hb1], by kernel_rfl, ⟨fun _ => rfl, fun _ => rfl, fun _ => rfl, hF.2.2.2.1, hF.2.2.2.2.1, hF.2.2.2.2.2.1, hF.2.2.2.2.2.2.1, hF.2.2.2.2.2.2.2.1, hF.2.2.2.2.2.2.2.2.1, hF.2.2.2.2.2.2.2.2.2.1, hF.2.2.2.2.2.2.2.2.2.2.1, hF.2.2.2.2.2.2.2.2.2.2.2.1, hF.2.2.2.2.2.2.2.2.2.2.2.2.1, hF.2.2.2.2.2.2.2.2.2.2.2.2.2.1, hF.2.2.2.2.2.2.2.2.2.2.2.2.2.2.1, hF.2.2.2.2.2.2.2.2.2.2.2.2.2.2.2.1, hF.2.2.2.2.2.2.2.2.2.2.2.2.2.2.2.2⟩, below_step hW hb⟩
              refine StepsI.cons rfl ?_ ?_
              · rintro L zA vB ⟨zB, zS, rfl, rfl, hF, hW⟩ hL hm K hK
                have hb3 : zB 3 = false := by simpa using hL
                have hb2 : zB 2 = true := by cases e : zB 2 with | false => (exfalso; revert hm; simp [metB, Region.binds, e]) | true => rfl
                have e2 : zS 77 = .bool false := hF.2.2.1 hb2
                clear hL hm
                simp only [puts, Act.put, List.setIfInBounds_toArray, List.set_cons_zero, List.set_cons_succ]
                simp only [e2]
                go_simp
                exact hK.out _ _ ⟨fun zj => if zj = 2 then true else if zj = 3 then true else zB zj, fun zd => if zd = 78 then .bool false else if zd = 77 then .bool false else zS zd, by simp [hb2], by kernel_rfl, ⟨hF.1, hF.2.1, fun _ => rfl, fun _ => rfl, hF.2.2.2.2.1, hF.2.2.2.2.2.1, hF.2.2.2.2.2.2.1, hF.2.2.2.2.2.2.2.1, hF.2.2.2.2.2.2.2.2.1, hF.2.2.2.2.2.2.2.2.2.1, hF.2.2.2.2.2.2.2.2.2.2.1, hF.2.2.2.2.2.2.2.2.2.2.2.1, hF.2.2.2.2.2.2.2.2.2.2.2.2.1, hF.2.2.2.2.2.2.2.2.2.2.2.2.2.1, hF.2.2.2.2.2.2.2.2.2.2.2.2.2.2.1, hF.2.2.2.2.2.2.2.2.2.2.2.2.2.2.2.1, hF.2.2.2.2.2.2.2.2.2.2.2.2.2.2.2.2⟩, hW⟩
              refine StepsI.cons rfl ?_ ?_
              · rintro L zA vB ⟨zB, zS, rfl, rfl, hF, hW⟩ hL hm K hK
                have hb4 : zB 4 = false := by simpa using hL
                have hb3 : zB 3 = true := by cases e : zB 3 with | false => (exfalso; revert hm; simp [metB, Region.binds, e]) | true => rfl
                have e3 : zS 78 = .bool false := hF.2.2.2.1 hb3
                clear hL hm
                simp only [puts, Act.put, List.setIfInBounds_toArray, List.set_cons_zero, List.set_cons_succ]
                simp only [e3]
                obtain ⟨q0, q1, q2, _, _, _⟩ := HB.out.below hW
                go_simp
                exact hK.out _ _ ⟨fun zj => if zj = 3 then true else if zj = 4 then true else zB zj, fun zd => if zd = 79 then .agg #[.int .i64 c, .int .i64 d, .bool t] else if zd = 78 then .bool false else zS zd, by simp [hb3], by kernel_rfl, ⟨hF.1, hF.2.1, hF.2.2.1, fun _ => rfl, fun _ => rfl, hF.2.2.2.2.2.1, hF.2.2.2.2.2.2.1, hF.2.2.2.2.2.2.2.1, hF.2.2.2.2.2.2.2.2.1, hF.2.2.2.2.2.2.2.2.2.1, hF.2.2.2.2.2.2.2.2.2.2.1, hF.2.2.2.2.2.2.2.2.2.2.2.1, hF.2.2.2.2.2.2.2.2.2.2.2.2.1, hF.2.2.2.2.2.2.2.2.2.2.2.2.2.1, hF.2.2.2.2.2.2.2.2.2.2.2.2.2.2.1, hF.2.2.2.2.2.2.2.2.2.2.2.2.2.2.2.1, hF.2.2.2.2.2.2.2.2.2.2.2.2.2.2.2.2⟩, hW⟩
              refine StepsI.cons rfl ?_ ?_
              · rintro L zA vB ⟨zB, zS, rfl, rfl, hF, hW⟩ hL hm K hK
                have hb5 : zB 5 = false := by simpa using hL
                have hb3 : zB 3 = true := by cases e : zB 3 with | false => (exfalso; revert hm; simp [metB, Region.binds, e]) | true => rfl
                have e3 : zS 78 = .bool false := hF.2.2.2.1 hb3
                clear hL hm
                simp only [puts, Act.put, List.setIfInBounds_toArray, List.set_cons_zero, List.set_cons_succ]
                simp only [e3]
                obtain ⟨q0, q1, _, _⟩ := HC.out.below hW
                go_simp
                exact hK.out _ _ ⟨fun zj => if zj = 3 then true else if zj = 5 then true else zB zj, fun zd => if zd = 80 then .agg #[.bool r, .int .i64 n] else if zd = 78 then .bool false else zS zd, by simp [hb3], by kernel_rfl, ⟨hF.1, hF.2.1, hF.2.2.1, fun _ => rfl, hF.2.2.2.2.1, fun _ => rfl, hF.2.2.2.2.2.2.1, hF.2.2.2.2.2.2.2.1, hF.2.2.2.2.2.2.2.2.1, hF.2.2.2.2.2.2.2.2.2.1, hF.2.2.2.2.2.2.2.2.2.2.1, hF.2.2.2.2.2.2.2.2.2.2.2.1, hF.2.2.2.2.2.2.2.2.2.2.2.2.1, hF.2.2.2.2.2.2.2.2.2.2.2.2.2.1, hF.2.2.2.2.2.2.2.2.2.2.2.2.2.2.1, hF.2.2.2.2.2.2.2.2.2.2.2.2.2.2.2.1, hF.2.2.2.2.2.2.2.2.2.2.2.2.2.2.2.2⟩, hW⟩
              refine StepsI.cons rfl ?_ ?_
              · rintro L zA vB ⟨zB, zS, rfl, rfl, hF, hW⟩ hL hm K hK
                have hb6 : zB 6 = false := by simpa using hL
                have hb3 : zB 3 = true := by cases e : zB 3 with | false => (exfalso; revert hm; simp [metB, Region.binds, e]) | true => rfl
                have hb4 : zB 4 = true := by cases e : zB 4 with | false => (exfalso; revert hm; simp [metB, Region.binds, e]) | true => rfl
                have hb5 : zB 5 = true := by cases e : zB 5 with | false => (exfalso; revert hm; simp [metB, Region.binds, e]) | true => rfl
                have e3 : zS 78 = .bool false := hF.2.2.2.1 hb3
                have e4 : zS 79 = .agg #[.int .i64 c, .int .i64 d, .bool t] := hF.2.2.2.2.1 hb4
                have e5 : zS 80 = .agg #[.bool r, .int .i64 n] := hF.2.2.2.2.2.1 hb5
                clear hL hm
                simp only [puts, Act.put, List.setIfInBounds_toArray, List.set_cons_zero, List.set_cons_succ]
                simp only [e3, e4, e5]
                go_simp
                refine (iVhas_any c d t r n _).mono ?_
                rintro e vB2 ⟨rfl, hb⟩
                rw [HHB.out]
                go_wp2_with fail
                exact hK.out _ _ ⟨fun zj => if zj = 5 then true else if zj = 4 then true else if zj = 3 then true else if zj = 6 then true else zB zj, fun zd => if zd = 81 then .bool false else if zd = 80 then .agg #[.bool r, .int .i64 n] else if zd = 79 then .agg #[.int .i64 c, .int .i64 d, .bool t] else if zd = 78 then .bool false else zS zd, by simp [hb3, hb4, hb5], by kernel_rfl, ⟨hF.1, hF.2.1, hF.2.2.1, fun _ => rfl, fun _ => rfl, fun _ => rfl, fun _ => rfl, hF.2.2.2.2.2.2.2.1, hF.2.2.2.2.2.2.2.2.1, hF.2.2.2.2.2.2.2.2.2.1, hF.2.2.2.2.2.2.2.2.2.2.1, hF.2.2.2.2.2.2.2.2.2.2.2.1, hF.2.2.2.2.2.2.2.2.2.2.2.2.1, hF.2.2.2.2.2.2.2.2.2.2.2.2.2.1, hF.2.2.2.2.2.2.2.2.2.2.2.2.2.2.1, hF.2.2.2.2.2.2.2.2.2.2.2.2.2.2.2.1, hF.2.2.2.2.2.2.2.2.2.2.2.2.2.2.2.2⟩, below_step hW hb⟩
              refine StepsI.cons rfl ?_ ?_
              · rintro L zA vB ⟨zB, zS, rfl, rfl, hF, hW⟩ hL hm K hK
                have hb7 : zB 7 = false := by simpa using hL
                have hb3 : zB 3 = true := by cases e : zB 3 with | false => (exfalso; revert hm; simp [metB, Region.binds, e]) | true => rfl
                have hb6 : zB 6 = true := by cases e : zB 6 with | false => (exfalso; revert hm; simp [metB, Region.binds, e]) | true => rfl
                have e3 : zS 78 = .bool false := hF.2.2.2.1 hb3
                have e6 : zS 81 = .bool false := hF.2.2.2.2.2.2.1 hb6
                clear hL hm
                simp only [puts, Act.put, List.setIfInBounds_toArray, List.set_cons_zero, List.set_cons_succ]
                simp only [e3, e6]
                go_simp
                exact hK.out _ _ ⟨fun zj => if zj = 6 then true else if zj = 3 then true else if zj = 7 then true else zB zj, fun zd => if zd = 82 then .bool false else if zd = 81 then .bool false else if zd = 78 then .bool false else zS zd, by simp [hb3, hb6], by kernel_rfl, ⟨hF.1, hF.2.1, hF.2.2.1, fun _ => rfl, hF.2.2.2.2.1, hF.2.2.2.2.2.1, fun _ => rfl, fun _ => rfl, hF.2.2.2.2.2.2.2.2.1, hF.2.2.2.2.2.2.2.2.2.1, hF.2.2.2.2.2.2.2.2.2.2.1, hF.2.2.2.2.2.2.2.2.2.2.2.1, hF.2.2.2.2.2.2.2.2.2.2.2.2.1, hF.2.2.2.2.2.2.2.2.2.2.2.2.2.1, hF.2.2.2.2.2.2.2.2.2.2.2.2.2.2.1, hF.2.2.2.2.2.2.2.2.2.2.2.2.2.2.2.1, hF.2.2.2.2.2.2.2.2.2.2.2.2.2.2.2.2⟩, hW⟩
              refine StepsI.cons rfl ?_ ?_
              · rintro L zA vB ⟨zB, zS, rfl, rfl, hF, hW⟩ hL hm K hK
                have hb8 : zB 8 = false := by simpa using hL
                clear hL hm
                simp only [puts, Act.put, List.setIfInBounds_toArray, List.set_cons_zero, List.set_cons_succ]
                obtain ⟨q0, q1, q2, _, _, _⟩ := HA.out.below hW
                go_simp
                exact hK.out _ _ ⟨fun zj => if zj = 8 then true else zB zj, fun zd => if zd = 83 then .agg #[.int .i64 a, .int .i64 b, .bool s] else zS zd, rfl, by kernel_rfl, ⟨hF.1, hF.2.1, hF.2.2.1, hF.2.2.2.1, hF.2.2.2.2.1, hF.2.2.2.2.2.1, hF.2.2.2.2.2.2.1, hF.2.2.2.2.2.2.2.1, fun _ => rfl, hF.2.2.2.2.2.2.2.2.2.1, hF.2.2.2.2.2.2.2.2.2.2.1, hF.2.2.2.2.2.2.2.2.2.2.2.1, hF.2.2.2.2.2.2.2.2.2.2.2.2.1, hF.2.2.2.2.2.2.2.2.2.2.2.2.2.1, hF.2.2.2.2.2.2.2.2.2.2.2.2.2.2.1, hF.2.2.2.2.2.2.2.2.2.2.2.2.2.2.2.1, hF.2.2.2.2.2.2.2.2.2.2.2.2.2.2.2.2⟩, hW⟩
              refine StepsI.cons rfl ?_ ?_
              · rintro L zA vB ⟨zB, zS, rfl, rfl, hF, hW⟩ hL hm K hK
                have hb9 : zB 9 = false := by simpa using hL
                clear hL hm
                simp only [puts, Act.put, List.setIfInBounds_toArray, List.set_cons_zero, List.set_cons_succ]
                obtain ⟨q0, q1, _, _⟩ := HC.out.below hW
                go_simp
                exact hK.out _ _ ⟨fun zj => if zj = 9 then true else zB zj, fun zd => if zd = 84 then .agg #[.bool r, .int .i64 n] else zS zd, rfl, by kernel_rfl, ⟨hF.1, hF.2.1, hF.2.2.1, hF.2.2.2.1, hF.2.2.2.2.1, hF.2.2.2.2.2.1, hF.2.2.2.2.2.2.1, hF.2.2.2.2.2.2.2.1, hF.2.2.2.2.2.2.2.2.1, fun _ => rfl, hF.2.2.2.2.2.2.2.2.2.2.1, hF.2.2.2.2.2.2.2.2.2.2.2.1, hF.2.2.2.2.2.2.2.2.2.2.2.2.1, hF.2.2.2.2.2.2.2.2.2.2.2.2.2.1, hF.2.2.2.2.2.2.2.2.2.2.2.2.2.2.1, hF.2.2.2.2.2.2.2.2.2.2.2.2.2.2.2.1, hF.2.2.2.2.2.2.2.2.2.2.2.2.2.2.2.2⟩, hW⟩
              refine StepsI.cons rfl ?_ ?_
              · rintro L zA vB ⟨zB, zS, rfl, rfl, hF, hW⟩ hL hm K hK
                have hb10 : zB 10 = false := by simpa using hL
                have hb8 : zB 8 = true := by cases e : zB 8 with | false => (exfalso; revert hm; simp [metB, Region.binds, e]) | true => rfl
                have hb9 : zB 9 = true := by cases e : zB 9 with | false => (exfalso; revert hm; simp [metB, Region.binds, e]) | true => rfl
                have e8 : zS 83 = .agg #[.int .i64 a, .int .i64 b, .bool s] := hF.2.2.2.2.2.2.2.2.1 hb8
                have e9 : zS 84 = .agg #[.bool r, .int .i64 n] := hF.2.2.2.2.2.2.2.2.2.1 hb9
                clear hL hm
                simp only [puts, Act.put, List.setIfInBounds_toArray, List.set_cons_zero, List.set_cons_succ]
                simp only [e8, e9]
                go_simp
                refine (sVhas_any a b s r n _).mono ?_
                rintro e vB2 ⟨rfl, hb⟩
                rw [HHA.out]
                go_wp2_with fail
                exact hK.out _ _ ⟨fun zj => if zj = 9 then true else if zj = 8 then true else if zj = 10 then true else zB zj, fun zd => if zd = 85 then .bool false else if zd = 84 then .agg #[.bool r, .int .i64 n] else if zd = 83 then .agg #[.int .i64 a, .int .i64 b, .bool s] else zS zd, by simp [hb8, hb9], by kernel_rfl, ⟨hF.1, hF.2.1, hF.2.2.1, hF.2.2.2.1, hF.2.2.2.2.1, hF.2.2.2.2.2.1, hF.2.2.2.2.2.2.1, hF.2.2.2.2.2.2.2.1, fun _ => rfl, fun _ => rfl, fun _ => rfl, hF.2.2.2.2.2.2.2.2.2.2.2.1, hF.2.2.2.2.2.2.2.2.2.2.2.2.1, hF.2.2.2.2.2.2.2.2.2.2.2.2.2.1, hF.2.2.2.2.2.2.2.2.2.2.2.2.2.2.1, hF.2.2.2.2.2.2.2.2.2.2.2.2.2.2.2.1, hF.2.2.2.2.2.2.2.2.2.2.2.2.2.2.2.2⟩, below_step hW hb⟩
              refine StepsI.cons rfl ?_ ?_
              · rintro L zA vB ⟨zB, zS, rfl, rfl, hF, hW⟩ hL hm K hK
                have hb11 : zB 11 = false := by simpa using hL
                have hb10 : zB 10 = true := by cases e : zB 10 with | false => (exfalso; revert hm; simp [metB, Region.binds, e]) | true => rfl
                have e10 : zS 85 = .bool false := hF.2.2.2.2.2.2.2.2.2.2.1 hb10
                clear hL hm
                simp only [puts, Act.put, List.setIfInBounds_toArray, List.set_cons_zero, List.set_cons_succ]
                simp only [e10]
                go_simp
                exact hK.out _ _ ⟨fun zj => if zj = 10 then true else if zj = 11 then true else zB zj, fun zd => if zd = 86 then .bool false else if zd = 85 then .bool false else zS zd, by simp [hb10], by kernel_rfl, ⟨hF.1, hF.2.1, hF.2.2.1, hF.2.2.2.1, hF.2.2.2.2.1, hF.2.2.2.2.2.1, hF.2.2.2.2.2.2.1, hF.2.2.2.2.2.2.2.1, hF.2.2.2.2.2.2.2.2.1, hF.2.2.2.2.2.2.2.2.2.1, fun _ => rfl, fun _ => rfl, hF.2.2.2.2.2.2.2.2.2.2.2.2.1, hF.2.2.2.2.2.2.2.2.2.2.2.2.2.1, hF.2.2.2.2.2.2.2.2.2.2.2.2.2.2.1, hF.2.2.2.2.2.2.2.2.2.2.2.2.2.2.2.1, hF.2.2.2.2.2.2.2.2.2.2.2.2.2.2.2.2⟩, hW⟩
              refine StepsI.cons rfl ?_ ?_
              · rintro L zA vB ⟨zB, zS, rfl, rfl, hF, hW⟩ hL hm K hK
                have hb12 : zB 12 = false := by simpa using hL
                have hb11 : zB 11 = true := by cases e : zB 11 with | false => (exfalso; revert hm; simp [metB, Region.binds, e]) | true => rfl
                have e11 : zS 86 = .bool false := hF.2.2.2.2.2.2.2.2.2.2.2.1 hb11
                clear hL hm
                simp only [puts, Act.put, List.setIfInBounds_toArray, List.set_cons_zero, List.set_cons_succ]
                simp only [e11]
                obtain ⟨q0, q1, q2, _, _, _⟩ := HB.out.below hW
                go_simp
                exact hK.out _ _ ⟨fun zj => if zj = 11 then true else if zj = 12 then true else zB zj, fun zd => if zd = 87 then .agg #[.int .i64 c, .int .i64 d, .bool t] else if zd = 86 then .bool false else zS zd, by simp [hb11], by kernel_rfl, ⟨hF.1, hF.2.1, hF.2.2.1, hF.2.2.2.1, hF.2.2.2.2.1, hF.2.2.2.2.2.1, hF.2.2.2.2.2.2.1, hF.2.2.2.2.2.2.2.1, hF.2.2.2.2.2.2.2.2.1, hF.2.2.2.2.2.2.2.2.2.1, hF.2.2.2.2.2.2.2.2.2.2.1, fun _ => rfl, fun _ => rfl, hF.2.2.2.2.2.2.2.2.2.2.2.2.2.1, hF.2.2.2.2.2.2.2.2.2.2.2.2.2.2.1, hF.2.2.2.2.2.2.2.2.2.2.2.2.2.2.2.1, hF.2.2.2.2.2.2.2.2.2.2.2.2.2.2.2.2⟩, hW⟩
              refine StepsI.cons rfl ?_ ?_
              · rintro L zA vB ⟨zB, zS, rfl, rfl, hF, hW⟩ hL hm K hK
                have hb13 : zB 13 = false := by simpa using hL
                have hb11 : zB 11 = true := by cases e : zB 11 with | false => (exfalso; revert hm; simp [metB, Region.binds, e]) | true => rfl
                have e11 : zS 86 = .bool false := hF.2.2.2.2.2.2.2.2.2.2.2.1 hb11
                clear hL hm
                simp only [puts, Act.put, List.setIfInBounds_toArray, List.set_cons_zero, List.set_cons_succ]
                simp only [e11]
                obtain ⟨q0, q1, _, _⟩ := HC.out.below hW
                go_simp
                exact hK.out _ _ ⟨fun zj => if zj = 11 then true else if zj = 13 then true else zB zj, fun zd => if zd = 88 then .agg #[.bool r, .int .i64 n] else if zd = 86 then .bool false else zS zd, by simp [hb11], by kernel_rfl, ⟨hF.1, hF.2.1, hF.2.2.1, hF.2.2.2.1, hF.2.2.2.2.1, hF.2.2.2.2.2.1, hF.2.2.2.2.2.2.1, hF.2.2.2.2.2.2.2.1, hF.2.2.2.2.2.2.2.2.1, hF.2.2.2.2.2.2.2.2.2.1, hF.2.2.2.2.2.2.2.2.2.2.1, fun _ => rfl, hF.2.2.2.2.2.2.2.2.2.2.2.2.1, fun _ => rfl, hF.2.2.2.2.2.2.2.2.2.2.2.2.2.2.1, hF.2.2.2.2.2.2.2.2.2.2.2.2.2.2.2.1, hF.2.2.2.2.2.2.2.2.2.2.2.2.2.2.2.2⟩, hW⟩
              refine StepsI.cons rfl ?_ ?_
              · rintro L zA vB ⟨zB, zS, rfl, rfl, hF, hW⟩ hL hm K hK
                have hb14 : zB 14 = false := by simpa using hL
                have hb11 : zB 11 = true := by cases e : zB 11 with | false => (exfalso; revert hm; simp [metB, Region.binds, e]) | true => rfl
                have hb12 : zB 12 = true := by cases e : zB 12 with | false => (exfalso; revert hm; simp [metB, Region.binds, e]) | true => rfl
                have hb13 : zB 13 = true := by cases e : zB 13 with | false => (exfalso; revert hm; simp [metB, Region.binds, e]) | true => rfl
                have e11 : zS 86 = .bool false := hF.2.2.2.2.2.2.2.2.2.2.2.1 hb11
                have e12 : zS 87 = .agg #[.int .i64 c, .int .i64 d, .bool t] := hF.2.2.2.2.2.2.2.2.2.2.2.2.1 hb12
                have e13 : zS 88 = .agg #[.bool r, .int .i64 n] := hF.2.2.2.2.2.2.2.2.2.2.2.2.2.1 hb13
                clear hL hm
                simp only [puts, Act.put, List.setIfInBounds_toArray, List.set_cons_zero, List.set_cons_succ]
                simp only [e11, e12, e13]
                go_simp
                refine (sVhas_any c d t r n _).mono ?_
                rintro e vB2 ⟨rfl, hb⟩
                rw [HHB.out]
                go_wp2_with fail
                exact hK.out _ _ ⟨fun zj => if zj = 13 then true else if zj = 12 then true else if zj = 11 then true else if zj = 14 then true else zB zj, fun zd => if zd = 89 then .bool false else if zd = 88 then .agg #[.bool r, .int .i64 n] else if zd = 87 then .agg #[.int .i64 c, .int .i64 d, .bool t] else if zd = 86 then .bool false else zS zd, by simp [hb11, hb12, hb13], by kernel_rfl, ⟨hF.1, hF.2.1, hF.2.2.1, hF.2.2.2.1, hF.2.2.2.2.1, hF.2.2.2.2.2.1, hF.2.2.2.2.2.2.1, hF.2.2.2.2.2.2.2.1, hF.2.2.2.2.2.2.2.2.1, hF.2.2.2.2.2.2.2.2.2.1, hF.2.2.2.2.2.2.2.2.2.2.1, fun _ => rfl, fun _ => rfl, fun _ => rfl, fun _ => rfl, hF.2.2.2.2.2.2.2.2.2.2.2.2.2.2.2.1, hF.2.2.2.2.2.2.2.2.2.2.2.2.2.2.2.2⟩, below_step hW hb⟩
              refine StepsI.cons rfl ?_ ?_
              · rintro L zA vB ⟨zB, zS, rfl, rfl, hF, hW⟩ hL hm K hK
                have hb15 : zB 15 = false := by simpa using hL
                have hb11 : zB 11 = true := by cases e : zB 11 with | false => (exfalso; revert hm; simp [metB, Region.binds, e]) | true => rfl
                have hb14 : zB 14 = true := by cases e : zB 14 with | false => (exfalso; revert hm; simp [metB, Region.binds, e]) | true => rfl
                have e11 : zS 86 = .bool false := hF.2.2.2.2.2.2.2.2.2.2.2.1 hb11
                have e14 : zS 89 = .bool false := hF.2.2.2.2.2.2.2.2.2.2.2.2.2.2.1 hb14
                clear hL hm
                simp only [puts, Act.put, List.setIfInBounds_toArray, List.set_cons_zero, List.set_cons_succ]
                simp only [e11, e14]
                go_simp
                exact hK.out _ _ ⟨fun zj => if zj = 14 then true else if zj = 11 then true else if zj = 15 then true else zB zj, fun zd => if zd = 90 then .bool false else if zd = 89 then .bool false else if zd = 86 then .bool false else zS zd, by simp [hb11, hb14], by kernel_rfl, ⟨hF.1, hF.2.1, hF.2.2.1, hF.2.2.2.1, hF.2.2.2.2.1, hF.2.2.2.2.2.1, hF.2.2.2.2.2.2.1, hF.2.2.2.2.2.2.2.1, hF.2.2.2.2.2.2.2.2.1, hF.2.2.2.2.2.2.2.2.2.1, hF.2.2.2.2.2.2.2.2.2.2.1, fun _ => rfl, hF.2.2.2.2.2.2.2.2.2.2.2.2.1, hF.2.2.2.2.2.2.2.2.2.2.2.2.2.1, fun _ => rfl, fun _ => rfl, hF.2.2.2.2.2.2.2.2.2.2.2.2.2.2.2.2⟩, hW⟩
              refine StepsI.cons rfl ?_ ?_
              · rintro L zA vB ⟨zB, zS, rfl, rfl, hF, hW⟩ hL hm K hK
                have hb16 : zB 16 = false := by simpa using hL
                have hb7 : zB 7 = true := by cases e : zB 7 with | false => (exfalso; revert hm; simp [metB, Region.binds, e]) | true => rfl
                have hb15 : zB 15 = true := by cases e : zB 15 with | false => (exfalso; revert hm; simp [metB, Region.binds, e]) | true => rfl
                have e7 : zS 82 = .bool false := hF.2.2.2.2.2.2.2.1 hb7
                have e15 : zS 90 = .bool false := hF.2.2.2.2.2.2.2.2.2.2.2.2.2.2.2.1 hb15
                clear hL hm
                simp only [puts, Act.put, List.setIfInBounds_toArray, List.set_cons_zero, List.set_cons_succ]
                simp only [e7, e15]
                have hES : (false != false) = false := by simp
                go_simp
                exact hK.out _ _ ⟨fun zj => if zj = 15 then true else if zj = 7 then true else if zj = 16 then true else zB zj, fun zd => if zd = 91 then .bool false else if zd = 90 then .bool false else if zd = 82 then .bool false else zS zd, by simp [hb7, hb15], by kernel_rfl, ⟨hF.1, hF.2.1, hF.2.2.1, hF.2.2.2.1, hF.2.2.2.2.1, hF.2.2.2.2.2.1, hF.2.2.2.2.2.2.1, fun _ => rfl, hF.2.2.2.2.2.2.2.2.1, hF.2.2.2.2.2.2.2.2.2.1, hF.2.2.2.2.2.2.2.2.2.2.1, hF.2.2.2.2.2.2.2.2.2.2.2.1, hF.2.2.2.2.2.2.2.2.2.2.2.2.1, hF.2.2.2.2.2.2.2.2.2.2.2.2.2.1, hF.2.2.2.2.2.2.2.2.2.2.2.2.2.2.1, fun _ => rfl, fun _ => rfl⟩, hW⟩
              exact StepsI.nil (by kernel_rfl)
            · rintro L zA vB ⟨zB, zS, rfl, rfl, hF, hW⟩ hr
              have hu := all_up (by kernel_rfl) (N := 17) (by kernel_rfl) hr
              have hb0 : zB 0 = true := by simpa using hu 0 (by decide)
              have hb1 : zB 1 = true := by simpa using hu 1 (by decide)
              have hb2 : zB 2 = true := by simpa using hu 2 (by decide)
              have hb3 : zB 3 = true := by simpa using hu 3 (by decide)
              have hb4 : zB 4 = true := by simpa using hu 4 (by decide)
              have hb5 : zB 5 = true := by simpa using hu 5 (by decide)
              have hb6 : zB 6 = true := by simpa using hu 6 (by decide)
              have hb7 : zB 7 = true := by simpa using hu 7 (by decide)
              have hb8 : zB 8 = true := by simpa using hu 8 (by decide)
              have hb9 : zB 9 = true := by simpa using hu 9 (by decide)
              have hb10 : zB 10 = true := by simpa using hu 10 (by decide)
              have hb11 : zB 11 = true := by simpa using hu 11 (by decide)
              have hb12 : zB 12 = true := by simpa using hu 12 (by decide)
              have hb13 : zB 13 = true := by simpa using hu 13 (by decide)
              have hb14 : zB 14 = true := by simpa using hu 14 (by decide)
              have hb15 : zB 15 = true := by simpa using hu 15 (by decide)
              have hb16 : zB 16 = true := by simpa using hu 16 (by decide)
              have e0 : zS 75 = .agg #[.int .i64 a, .int .i64 b, .bool s] := hF.1 hb0
              have e1 : zS 76 = .agg #[.bool r, .int .i64 n] := hF.2.1 hb1
              have e2 : zS 77 = .bool false := hF.2.2.1 hb2
              have e3 : zS 78 = .bool false := hF.2.2.2.1 hb3
              have e4 : zS 79 = .agg #[.int .i64 c, .int .i64 d, .bool t] := hF.2.2.2.2.1 hb4
              have e5 : zS 80 = .agg #[.bool r, .int .i64 n] := hF.2.2.2.2.2.1 hb5
              have e6 : zS 81 = .bool false := hF.2.2.2.2.2.2.1 hb6
              have e7 : zS 82 = .bool false := hF.2.2.2.2.2.2.2.1 hb7
              have e8 : zS 83 = .agg #[.int .i64 a, .int .i64 b, .bool s] := hF.2.2.2.2.2.2.2.2.1 hb8
              have e9 : zS 84 = .agg #[.bool r, .int .i64 n] := hF.2.2.2.2.2.2.2.2.2.1 hb9
              have e10 : zS 85 = .bool false := hF.2.2.2.2.2.2.2.2.2.2.1 hb10
              have e11 : zS 86 = .bool false := hF.2.2.2.2.2.2.2.2.2.2.2.1 hb11
              have e12 : zS 87 = .agg #[.int .i64 c, .int .i64 d, .bool t] := hF.2.2.2.2.2.2.2.2.2.2.2.2.1 hb12
              have e13 : zS 88 = .agg #[.bool r, .int .i64 n] := hF.2.2.2.2.2.2.2.2.2.2.2.2.2.1 hb13
              have e14 : zS 89 = .bool false := hF.2.2.2.2.2.2.2.2.2.2.2.2.2.2.1 hb14
              have e15 : zS 90 = .bool false := hF.2.2.2.2.2.2.2.2.2.2.2.2.2.2.2.1 hb15
              have e16 : zS 91 = .bool false := hF.2.2.2.2.2.2.2.2.2.2.2.2.2.2.2.2 hb16
              clear hu hr hF
              simp only [puts, Act.put, List.setIfInBounds_toArray, List.set_cons_zero, List.set_cons_succ]
              simp only [e0, e1, e2, e3, e4, e5, e6, e7, e8, e9, e10, e11, e12, e13, e14, e15, e16]
              clear e0 e1 e2 e3 e4 e5 e6 e7 e8 e9 e10 e11 e12 e13 e14 e15 e16
              clear hb0 hb1 hb2 hb3 hb4 hb5 hb6 hb7 hb8 hb9 hb10 hb11 hb12 hb13 hb14 hb15 hb16
              clear zB zS
              go_wp2_with fail
              go_meet
              case rel => exact ⟨rfl, hW⟩
          · have HHA := mkHid hA
            have HHB := mkHid hB
            clear hA hB
            refine wp_region_inv2 (fun zA0 L zA vB => ∃ (zB : Nat → Bool) (zS : Nat → Value), L = #[zB 0, zB 1, zB 2, zB 3, zB 4, zB 5, zB 6, zB 7, zB 8, zB 9, zB 10, zB 11, zB 12, zB 13, zB 14, zB 15, zB 16] ∧ zA = puts zA0 [(75, zS 75), (76, zS 76), (77, zS 77), (78, zS 78), (79, zS 79), (80, zS 80), (81, zS 81), (82, zS 82), (83, zS 83), (84, zS 84), (85, zS 85), (86, zS 86), (87, zS 87), (88, zS 88), (89, zS 89), (90, zS 90), (91, zS 91)] ∧ ((zB 0 = true → zS 75 = .agg #[.int .i64 a, .int .i64 b, .bool s]) ∧ (zB 1 = true → zS 76 = .agg #[.bool r, .int .i64 n]) ∧ (zB 2 = true → zS 77 = .bool false) ∧ (zB 3 = true → zS 78 = .bool false) ∧ (zB 4 = true → zS 79 = .agg #[.int .i64 c, .int .i64 d, .bool t]) ∧ (zB 5 = true → zS 80 = .agg #[.bool r, .int .i64 n]) ∧ (zB 6 = true → zS 81 = .bool true) ∧ (zB 7 = true → zS 82 = .bool true) ∧ (zB 8 = true → zS 83 = .agg #[.int .i64 a, .int .i64 b, .bool s]) ∧ (zB 9 = true → zS 84 = .agg #[.bool r, .int .i64 n]) ∧ (zB 10 = true → zS 85 = .bool false) ∧ (zB 11 = true → zS 86 = .bool false) ∧ (zB 12 = true → zS 87 = .agg #[.int .i64 c, .int .i64 d, .bool t]) ∧ (zB 13 = true → zS 88 = .agg #[.bool r, .int .i64 n]) ∧ (zB 14 = true → zS 89 = .bool true) ∧ (zB 15 = true → zS 90 = .bool true) ∧ (zB 16 = true → zS 91 = .bool false)) ∧ Below w7.heap.size w7 vB) (by kernel_rfl) ?_ ?_ ?_
            · exact ⟨fun _ => false, fun _ => undef, rfl, by kernel_rfl, ⟨fun e => ft e, fun e => ft e, fun e => ft e, fun e => ft e, fun e => ft e, fun e => ft e, fun e => ft e, fun e => ft e, fun e => ft e, fun e => ft e, fun e => ft e, fun e => ft e, fun e => ft e, fun e => ft e, fun e => ft e, fun e => ft e, fun e => ft e⟩, (Below.refl _ _).drew⟩
            · refine StepsI.cons rfl ?_ ?_
              · rintro L zA vB ⟨zB, zS, rfl, rfl, hF, hW⟩ hL hm K hK
                have hb0 : zB 0 = false := by simpa using hL
                clear hL hm
                simp only [puts, Act.put, List.setIfInBounds_toArray, List.set_cons_zero, List.set_cons_succ]
                obtain ⟨q0, q1, q2, _, _, _⟩ := HA.out.below hW
                go_simp
                exact hK.out _ _ ⟨fun zj => if zj = 0 then true else zB zj, fun zd => if zd = 75 then .agg #[.int .i64 a, .int .i64 b, .bool s] else zS zd, rfl, by kernel_rfl, ⟨fun _ => rfl, hF.2.1, hF.2.2.1, hF.2.2.2.1, hF.2.2.2.2.1, hF.2.2.2.2.2.1, hF.2.2.2.2.2.2.1, hF.2.2.2.2.2.2.2.1, hF.2.2.2.2.2.2.2.2.1, hF.2.2.2.2.2.2.2.2.2.1, hF.2.2.2.2.2.2.2.2.2.2.1, hF.2.2.2.2.2.2.2.2.2.2.2.1, hF.2.2.2.2.2.2.2.2.2.2.2.2.1, hF.2.2.2.2.2.2.2.2.2.2.2.2.2.1, hF.2.2.2.2.2.2.2.2.2.2.2.2.2.2.1, hF.2.2.2.2.2.2.2.2.2.2.2.2.2.2.2.1, hF.2.2.2.2.2.2.2.2.2.2.2.2.2.2.2.2⟩, hW⟩
              refine StepsI.cons rfl ?_ ?_
              · rintro L zA vB ⟨zB, zS, rfl, rfl, hF, hW⟩ hL hm K hK
                have hb1 : zB 1 = false := by simpa using hL
                clear hL hm
                simp only [puts, Act.put, List.setIfInBounds_toArray, List.set_cons_zero, List.set_cons_succ]
                obtain ⟨q0, q1, _, _⟩ := HC.out.below hW
                go_simp
                exact hK.out _ _ ⟨fun zj => if zj = 1 then true else zB zj, fun zd => if zd = 76 then .agg #[.bool r, .int .i64 n] else zS zd, rfl, by kernel_rfl, ⟨hF.1, fun _ => rfl, hF.2.2.1, hF.2.2.2.1, hF.2.2.2.2.1, hF.2.2.2.2.2.1, hF.2.2.2.2.2.2.1, hF.2.2.2.2.2.2.2.1, hF.2.2.2.2.2.2.2.2.1, hF.2.2.2.2.2.2.2.2.2.1, hF.2.2.2.2.2.2.2.2.2.2.1, hF.2.2.2.2.2.2.2.2.2.2.2.1, hF.2.2.2.2.2.2.2.2.2.2.2.2.1, hF.2.2.2.2.2.2.2.2.2.2.2.2.2.1, hF.2.2.2.2.2.2.2.2.2.2.2.2.2.2.1, hF.2.2.2.2.2.2.2.2.2.2.2.2.2.2.2.1, hF.2.2.2.2.2.2.2.2.2.2.2.2.2.2.2.2⟩, hW⟩
              refine StepsI.cons rfl ?_ ?_
              · rintro L zA vB ⟨zB, zS, rfl, rfl, hF, hW⟩ hL hm K hK
                have hb2 : zB 2 = false := by simpa using hL
                have hb0 : zB 0 = true := by cases e : zB 0 with | false => (exfalso; revert hm; simp [metB, Region.binds, e]) | true => rfl
                have hb1 : zB 1 = true := by cases e : zB 1 with | false => (exfalso; revert hm; simp [metB, Region.binds, e]) | true => rfl
                have e0 : zS 75 = .agg #[.int .i64 a, .int .i64 b, .bool s] := hF.1 hb0
                have e1 : zS 76 = .agg #[.bool r, .int .i64 n] := hF.2.1 hb1
                clear hL hm
                simp only [puts, Act.put, List.setIfInBounds_toArray, List.set_cons_zero, List.set_cons_succ]
                simp only [e0, e1]
                go_simp
                refine (iVhas_any a b s r n _).mono ?_
                rintro e vB2 ⟨rfl, hb⟩
                rw [HHA.out]
                go_wp2_with fail
                exact hK.out _ _ ⟨fun zj => if zj = 1 then true else if zj = 0 then true else if zj = 2 then true else zB zj, fun zd => if zd = 77 then .bool false else if zd = 76 then .agg #[.bool r, .int .i64 n] else if zd = 75 then .agg #[.int .i64 a, .int .i64 b, .bool s] else zS zd, by simp [hb0, hb1], by kernel_rfl, ⟨fun _ => rfl, fun _ => rfl, fun _ => rfl, hF.2.2.2.1, hF.2.2.2.2.1, hF.2.2.2.2.2.1, hF.2.2.2.2.2.2.1, hF.2.2.2.2.2.2.2.1, hF.2.2.2.2.2.2.2.2.1, hF.2.2.2.2.2.2.2.2.2.1, hF.2.2.2.2.2.2.2.2.2.2.1, hF.2.2.2.2.2.2.2.2.2.2.2.1, hF.2.2.2.2.2.2.2.2.2.2.2.2.1, hF.2.2.2.2.2.2.2.2.2.2.2.2.2.1, hF.2.2.2.2.2.2.2.2.2.2.2.2.2.2.1, hF.2.2.2.2.2.2.2.2.2.2.2.2.2.2.2.1, hF.2.2.2.2.2.2.2.2.2.2.2.2.2.2.2.2⟩, below_step hW hb⟩
              refine StepsI.cons rfl ?_ ?_
              · rintro L zA vB ⟨zB, zS, rfl, rfl, hF, hW⟩ hL hm K hK
                have hb3 : zB 3 = false := by simpa using hL
                have hb2 : zB 2 = true := by cases e : zB 2 with | false => (exfalso; revert hm; simp [metB, Region.binds, e]) | true => rfl
                have e2 : zS 77 = .bool false := hF.2.2.1 hb2
                clear hL hm
                simp only [puts, Act.put, List.setIfInBounds_toArray, List.set_cons_zero, List.set_cons_succ]
                simp only [e2]
                go_simp
                exact hK.out _ _ ⟨fun zj => if zj = 2 then true else if zj = 3 then true else zB zj, fun zd => if zd = 78 then .bool false else if zd = 77 then .bool false else zS zd, by simp [hb2], by kernel_rfl, ⟨hF.1, hF.2.1, fun _ => rfl, fun _ => rfl, hF.2.2.2.2.1, hF.2.2.2.2.2.1, hF.2.2.2.2.2.2.1, hF.2.2.2.2.2.2.2.1, hF.2.2.2.2.2.2.2.2.1, hF.2.2.2.2.2.2.2.2.2.1, hF.2.2.2.2.2.2.2.2.2.2.1, hF.2.2.2.2.2.2.2.2.2.2.2.1, hF.2.2.2.2.2.2.2.2.2.2.2.2.1, hF.2.2.2.2.2.2.2.2.2.2.2.2.2.1, hF.2.2.2.2.2.2.2.2.2.2.2.2.2.2.1, hF.2.2.2.2.2.2.2.2.2.2.2.2.2.2.2.1, hF.2.2.2.2.2.2.2.2.2.2.2.2.2.2.2.2⟩, hW⟩
              refine StepsI.cons rfl ?_ ?_
              · rintro L zA vB ⟨zB, zS, rfl, rfl, hF, hW⟩ hL hm K hK
                have hb4 : zB 4 = false := by simpa using hL
                have hb3 : zB 3 = true := by cases e : zB 3 with | false => (exfalso; revert hm; simp [metB, Region.binds, e]) | true => rfl
                have e3 : zS 78 = .bool false := hF.2.2.2.1 hb3
                clear hL hm
                simp only [puts, Act.put, List.setIfInBounds_toArray, List.set_cons_zero, List.set_cons_succ]
                simp only [e3]
                obtain ⟨q0, q1, q2, _, _, _⟩ := HB.out.below hW
                go_simp
                exact hK.out _ _ ⟨fun zj => if zj = 3 then true else if zj = 4 then true else zB zj, fun zd => if zd = 79 then .agg #[.int .i64 c, .int .i64 d, .bool t] else if zd = 78 then .bool false else zS zd, by simp [hb3], by kernel_rfl, ⟨hF.1, hF.2.1, hF.2.2.1, fun _ => rfl, fun _ => rfl, hF.2.2.2.2.2.1, hF.2.2.2.2.2.2.1, hF.2.2.2.2.2.2.2.1, hF.2.2.2.2.2.2.2.2.1, hF.2.2.2.2.2.2.2.2.2.1, hF.2.2.2.2.2.2.2.2.2.2.1, hF.2.2.2.2.2.2.2.2.2.2.2.1, hF.2.2.2.2.2.2.2.2.2.2.2.2.1, hF.2.2.2.2.2.2.2.2.2.2.2.2.2.1, hF.2.2.2.2.2.2.2.2.2.2.2.2.2.2.1, hF.2.2.2.2.2.2.2.2.2.2.2.2.2.2.2.1, hF.2.2.2.2.2.2.2.2.2.2.2.2.2.2.2.2⟩, hW⟩
              refine StepsI.cons rfl ?_ ?_
              · rintro L zA vB ⟨zB, zS, rfl, rfl, hF, hW⟩ hL hm K hK
                have hb5 : zB 5 = false := by simpa using hL
                have hb3 : zB 3 = true := by cases e : zB 3 with | false => (exfalso; revert hm; simp [metB, Region.binds, e]) | true => rfl
                have e3 : zS 78 = .bool false := hF.2.2.2.1 hb3
                clear hL hm
                simp only [puts, Act.put, List.setIfInBounds_toArray, List.set_cons_zero, List.set_cons_succ]
                simp only [e3]
                obtain ⟨q0, q1, _, _⟩ := HC.out.below hW
                go_simp
                exact hK.out _ _ ⟨fun zj => if zj = 3 then true else if zj = 5 then true else zB zj, fun zd => if zd = 80 then .agg #[.bool r, .int .i64 n] else if zd = 78 then .bool false else zS zd, by simp [hb3], by kernel_rfl, ⟨hF.1, hF.2.1, hF.2.2.1, fun _ => rfl, hF.2.2.2.2.1, fun _ => rfl, hF.2.2.2.2.2.2.1, hF.2.2.2.2.2.2.2.1, hF.2.2.2.2.2.2.2.2.1, hF.2.2.2.2.2.2.2.2.2.1, hF.2.2.2.2.2.2.2.2.2.2.1, hF.2.2.2.2.2.2.2.2.2.2.2.1, hF.2.2.2.2.2.2.2.2.2.2.2.2.1, hF.2.2.2.2.2.2.2.2.2.2.2.2.2.1, hF.2.2.2.2.2.2.2.2.2.2.2.2.2.2.1, hF.2.2.2.2.2.2.2.2.2.2.2.2.2.2.2.1, hF.2.2.2.2.2.2.2.2.2.2.2.2.2.2.2.2⟩, hW⟩
              refine StepsI.cons rfl ?_ ?_
              · rintro L zA vB ⟨zB, zS, rfl, rfl, hF, hW⟩ hL hm K hK
                have hb6 : zB 6 = false := by simpa using hL
                have hb3 : zB 3 = true := by cases e : zB 3 with | false => (exfalso; revert hm; simp [metB, Region.binds, e]) | true => rfl
                have hb4 : zB 4 = true := by cases e : zB 4 with | false => (exfalso; revert hm; simp [metB, Region.binds, e]) | true => rfl
                have hb5 : zB 5 = true := by cases e : zB 5 with | false => (exfalso; revert hm; simp [metB, Region.binds, e]) | true => rfl
                have e3 : zS 78 = .bool false := hF.2.2.2.1 hb3
                have e4 : zS 79 = .agg #[.int .i64 c, .int .i64 d, .bool t] := hF.2.2.2.2.1 hb4
                have e5 : zS 80 = .agg #[.bool r, .int .i64 n] := hF.2.2.2.2.2.1 hb5
                clear hL hm
                simp only [puts, Act.put, List.setIfInBounds_toArray, List.set_cons_zero, List.set_cons_succ]
                simp only [e3, e4, e5]
                go_simp
                refine (iVhas_any c d t r n _).mono ?_
                rintro e vB2 ⟨rfl, hb⟩
                rw [HHB.out]
                go_wp2_with fail
                exact hK.out _ _ ⟨fun zj => if zj = 5 then true else if zj = 4 then true else if zj = 3 then true else if zj = 6 then true else zB zj, fun zd => if zd = 81 then .bool true else if zd = 80 then .agg #[.bool r, .int .i64 n] else if zd = 79 then .agg #[.int .i64 c, .int .i64 d, .bool t] else if zd = 78 then .bool false else zS zd, by simp [hb3, hb4, hb5], by kernel_rfl, ⟨hF.1, hF.2.1, hF.2.2.1, fun _ => rfl, fun _ => rfl, fun _ => rfl, fun _ => rfl, hF.2.2.2.2.2.2.2.1, hF.2.2.2.2.2.2.2.2.1, hF.2.2.2.2.2.2.2.2.2.1, hF.2.2.2.2.2.2.2.2.2.2.1, hF.2.2.2.2.2.2.2.2.2.2.2.1, hF.2.2.2.2.2.2.2.2.2.2.2.2.1, hF.2.2.2.2.2.2.2.2.2.2.2.2.2.1, hF.2.2.2.2.2.2.2.2.2.2.2.2.2.2.1, hF.2.2.2.2.2.2.2.2.2.2.2.2.2.2.2.1, hF.2.2.2.2.2.2.2.2.2.2.2.2.2.2.2.2⟩, below_step hW hb⟩
              refine StepsI.cons rfl ?_ ?_
              · rintro L zA vB ⟨zB, zS, rfl, rfl, hF, hW⟩ hL hm K hK
                have hb7 : zB 7 = false := by simpa using hL
                have hb3 : zB 3 = true := by cases e : zB 3 with | false => (exfalso; revert hm; simp [metB, Region.binds, e]) | true => rfl
                have hb6 : zB 6 = true := by cases e : zB 6 with | false => (exfalso; revert hm; simp [metB, Region.binds, e]) | true => rfl
                have e3 : zS 78 = .bool false := hF.2.2.2.1 hb3
                have e6 : zS 81 = .bool true := hF.2.2.2.2.2.2.1 hb6
                clear hL hm
                simp only [puts, Act.put, List.setIfInBounds_toArray, List.set_cons_zero, List.set_cons_succ]
                simp only [e3, e6]
                go_simp
                exact hK.out _ _ ⟨fun zj => if zj = 6 then true else if zj = 3 then true else if zj = 7 then true else zB zj, fun zd => if zd = 82 then .bool true else if zd = 81 then .bool true else if zd = 78 then .bool false else zS zd, by simp [hb3, hb6], by kernel_rfl, ⟨hF.1, hF.2.1, hF.2.2.1, fun _ => rfl, hF.2.2.2.2.1, hF.2.2.2.2.2.1, fun _ => rfl, fun _ => rfl, hF.2.2.2.2.2.2.2.2.1, hF.2.2.2.2.2.2.2.2.2.1, hF.2.2.2.2.2.2.2.2.2.2.1, hF.2.2.2.2.2.2.2.2.2.2.2.1, hF.2.2.2.2.2.2.2.2.2.2.2.2.1, hF.2.2.2.2.2.2.2.2.2.2.2.2.2.1, hF.2.2.2.2.2.2.2.2.2.2.2.2.2.2.1, hF.2.2.2.2.2.2.2.2.2.2.2.2.2.2.2.1, hF.2.2.2.2.2.2.2.2.2.2.2.2.2.2.2.2⟩, hW⟩
              refine StepsI.cons rfl ?_ ?_
              · rintro L zA vB ⟨zB, zS, rfl, rfl, hF, hW⟩ hL hm K hK
                have hb8 : zB 8 = false := by simpa using hL
                clear hL hm
                simp only [puts, Act.put, List.setIfInBounds_toArray, List.set_cons_zero, List.set_cons_succ]
                obtain ⟨q0, q1, q2, _, _, _⟩ := HA.out.below hW
                go_simp
                exact hK.out _ _ ⟨fun zj => if zj = 8 then true else zB zj, fun zd => if zd = 83 then .agg #[.int .i64 a, .int .i64 b, .bool s] else zS zd, rfl, by kernel_rfl, ⟨hF.1, hF.2.1, hF.2.2.1, hF.2.2.2.1, hF.2.2.2.2.1, hF.2.2.2.2.2.1, hF.2.2.2.2.2.2.1, hF.2.2.2.2.2.2.2.1, fun _ => rfl, hF.2.2.2.2.2.2.2.2.2.1, hF.2.2.2.2.2.2.2.2.2.2.1, hF.2.2.2.2.2.2.2.2.2.2.2.1, hF.2.2.2.2.2.2.2.2.2.2.2.2.1, hF.2.2.2.2.2.2.2.2.2.2.2.2.2.1, hF.2.2.2.2.2.2.2.2.2.2.2.2.2.2.1, hF.2.2.2.2.2.2.2.2.2.2.2.2.2.2.2.1, hF.2.2.2.2.2.2.2.2.2.2.2.2.2.2.2.2⟩, hW⟩
              refine StepsI.cons rfl ?_ ?_
              · rintro L zA vB ⟨zB, zS, rfl, rfl, hF, hW⟩ hL hm K hK
                have hb9 : zB 9 = false := by simpa using hL
                clear hL hm
                simp only [puts, Act.put, List.setIfInBounds_toArray, List.set_cons_zero, List.set_cons_succ]
                obtain ⟨q0, q1, _, _⟩ := HC.out.below hW
                go_simp
                exact hK.out _ _ ⟨fun zj => if zj = 9 then true else zB zj, fun zd => if zd = 84 then .agg #[.bool r, .int .i64 n] else zS zd, rfl, by kernel_rfl, ⟨hF.1, hF.2.1, hF.2.2.1, hF.2.2.2.1, hF.2.2.2.2.1, hF.2.2.2.2.2.1, hF.2.2.2.2.2.2.1, hF.2.2.2.2.2.2.2.1, hF.2.2.2.2.2.2.2.2.1, fun _ => rfl, hF.2.2.2.2.2.2.2.2.2.2.1, hF.2.2.2.2.2.2.2.2.2.2.2.1, hF.2.2.2.2.2.2.2.2.2.2.2.2.1, hF.2.2.2.2.2.2.2.2.2.2.2.2.2.1, hF.2.2.2.2.2.2.2.2.2.2.2.2.2.2.1, hF.2.2.2.2.2.2.2.2.2.2.2.2.2.2.2.1, hF.2.2.2.2.2.2.2.2.2.2.2.2.2.2.2.2⟩, hW⟩
              refine StepsI.cons rfl ?_ ?_
              · rintro L zA vB ⟨zB, zS, rfl, rfl, hF, hW⟩ hL hm K hK
                have hb10 : zB 10 = false := by simpa using hL
                have hb8 : zB 8 = true := by cases e : zB 8 with | false => (exfalso; revert hm; simp [metB, Region.binds, e]) | true => rfl
                have hb9 : zB 9 = true := by cases e : zB 9 with | false => (exfalso; revert hm; simp [metB, Region.binds, e]) | true => rfl
                have e8 : zS 83 = .agg #[.int .i64 a, .int .i64 b, .bool s] := hF.2.2.2.2.2.2.2.2.1 hb8
                have e9 : zS 84 = .agg #[.bool r, .int .i64 n] := hF.2.2.2.2.2.2.2.2.2.1 hb9
                clear hL hm
                simp only [puts, Act.put, List.setIfInBounds_toArray, List.set_cons_zero, List.set_cons_succ]
                simp only [e8, e9]
                go_simp
                refine (sVhas_any a b s r n _).mono ?_
                rintro e vB2 ⟨rfl, hb⟩
                rw [HHA.out]
                go_wp2_with fail
                exact hK.out _ _ ⟨fun zj => if zj = 9 then true else if zj = 8 then true else if zj = 10 then true else zB zj, fun zd => if zd = 85 then .bool false else if zd = 84 then .agg #[.bool r, .int .i64 n] else if zd = 83 then .agg #[.int .i64 a, .int .i64 b, .bool s] else zS zd, by simp [hb8, hb9], by kernel_rfl, ⟨hF.1, hF.2.1, hF.2.2.1, hF.2.2.2.1, hF.2.2.2.2.1, hF.2.2.2.2.2.1, hF.2.2.2.2.2.2.1, hF.2.2.2.2.2.2.2.1, fun _ => rfl, fun _ => rfl, fun _ => rfl, hF.2.2.2.2.2.2.2.2.2.2.2.1, hF.2.2.2.2.2.2.2.2.2.2.2.2.1, hF.2.2.2.2.2.2.2.2.2.2.2.2.2.1, hF.2.2.2.2.2.2.2.2.2.2.2.2.2.2.1, hF.2.2.2.2.2.2.2.2.2.2.2.2.2.2.2.1, hF.2.2.2.2.2.2.2.2.2.2.2.2.2.2.2.2⟩, below_step hW hb⟩
              refine StepsI.cons rfl ?_ ?_
              · rintro L zA vB ⟨zB, zS, rfl, rfl, hF, hW⟩ hL hm K hK
                have hb11 : zB 11 = false := by simpa using hL
                have hb10 : zB 10 = true := by cases e : zB 10 with | false => (exfalso; revert hm; simp [metB, Region.binds, e]) | true => rfl
                have e10 : zS 85 = .bool false := hF.2.2.2.2.2.2.2.2.2.2.1 hb10
                clear hL hm
                simp only [puts, Act.put, List.setIfInBounds_toArray, List.set_cons_zero, List.set_cons_succ]
                simp only [e10]
                go_simp
                exact hK.out _ _ ⟨fun zj => if zj = 10 then true else if zj = 11 then true else zB zj, fun zd => if zd = 86 then .bool false else if zd = 85 then .bool false else zS zd, by simp [hb10], by kernel_rfl, ⟨hF.1, hF.2.1, hF.2.2.1, hF.2.2.2.1, hF.2.2.2.2.1, hF.2.2.2.2.2.1, hF.2.2.2.2.2.2.1, hF.2.2.2.2.2.2.2.1, hF.2.2.2.2.2.2.2.2.1, hF.2.2.2.2.2.2.2.2.2.1, fun _ => rfl, fun _ => rfl, hF.2.2.2.2.2.2.2.2.2.2.2.2.1, hF.2.2.2.2.2.2.2.2.2.2.2.2.2.1, hF.2.2.2.2.2.2.2.2.2.2.2.2.2.2.1, hF.2.2.2.2.2.2.2.2.2.2.2.2.2.2.2.1, hF.2.2.2.2.2.2.2.2.2.2.2.2.2.2.2.2⟩, hW⟩
              refine StepsI.cons rfl ?_ ?_
              · rintro L zA vB ⟨zB, zS, rfl, rfl, hF, hW⟩ hL hm K hK
                have hb12 : zB 12 = false := by simpa using hL
                have hb11 : zB 11 = true := by cases e : zB 11 with | false => (exfalso; revert hm; simp [metB, Region.binds, e]) | true => rfl
                have e11 : zS 86 = .bool false := hF.2.2.2.2.2.2.2.2.2.2.2.1 hb11
                clear hL hm
                simp only [puts, Act.put, List.setIfInBounds_toArray, List.set_cons_zero, List.set_cons_succ]
                simp only [e11]
                obtain ⟨q0, q1, q2, _, _, _⟩ := HB.out.below hW
                go_simp
                exact hK.out _ _ ⟨fun zj => if zj = 11 then true else if zj = 12 then true else zB zj, fun zd => if zd = 87 then .agg #[.int .i64 c, .int .i64 d, .bool t] else if zd = 86 then .bool false else zS zd, by simp [hb11], by kernel_rfl, ⟨hF.1, hF.2.1, hF.2.2.1, hF.2.2.2.1, hF.2.2.2.2.1, hF.2.2.2.2.2.1, hF.2.2.2.2.2.2.1, hF.2.2.2.2.2.2.2.1, hF.2.2.2.2.2.2.2.2.1, hF.2.2.2.2.2.2.2.2.2.1, hF.2.2.2.2.2.2.2.2.2.2.1, fun _ => rfl, fun _ => rfl, hF.2.2.2.2.2.2.2.2.2.2.2.2.2.1, hF.2.2.2.2.2.2.2.2.2.2.2.2.2.2.1, hF.2.2.2.2.2.2.2.2.2.2.2.2.2.2.2.1, hF.2.2.2.2.2.2.2.2.2.2.2.2.2.2.2.2⟩, hW⟩
              refine StepsI.cons rfl ?_ ?_
              · rintro L zA vB ⟨zB, zS, rfl, rfl, hF, hW⟩ hL hm K hK
                have hb13 : zB 13 = false := by simpa using hL
                have hb11 : zB 11 = true := by cases e : zB 11 with | false => (exfalso; revert hm; simp [metB, Region.binds, e]) | true => rfl
                have e11 : zS 86 = .bool false := hF.2.2.2.2.2.2.2.2.2.2.2.1 hb11
                clear hL hm
                simp only [puts, Act.put, List.setIfInBounds_toArray, List.set_cons_zero, List.set_cons_succ]
                simp only [e11]
                obtain ⟨q0, q1, _, _⟩ := HC.out.below hW
                go_simp
                exact hK.out _ _ ⟨fun zj => if zj = 11 then true else if zj = 13 then true else zB zj, fun zd => if zd = 88 then .agg #[.bool r, .int .i64 n] else if zd = 86 then .bool false else zS zd, by simp [hb11], by kernel_rfl, ⟨hF.1, hF.2.1, hF.2.2.1, hF.2.2.2.1, hF.2.2.2.2.1, hF.2.2.2.2.2.1, hF.2.2.2.2.2.2.1, hF.2.2.2.2.2.2.2.1, hF.2.2.2.2.2.2.2.2.1, hF.2.2.2.2.2.2.2.2.2.1, hF.2.2.2.2.2.2.2.2.2.2.1, fun _ => rfl, hF.2.2.2.2.2.2.2.2.2.2.2.2.1, fun _ => rfl, hF.2.2.2.2.2.2.2.2.2.2.2.2.2.2.1, hF.2.2.2.2.2.2.2.2.2.2.2.2.2.2.2.1, hF.2.2.2.2.2.2.2.2.2.2.2.2.2.2.2.2⟩, hW⟩
              refine StepsI.cons rfl ?_ ?_
              · rintro L zA vB ⟨zB, zS, rfl, rfl, hF, hW⟩ hL hm K hK
                have hb14 : zB 14 = false := by simpa using hL
                have hb11 : zB 11 = true := by cases e : zB 11 with | false => (exfalso; revert hm; simp [metB, Region.binds, e]) | true => rfl
                have hb12 : zB 12 = true := by cases e : zB 12 with | false => (exfalso; revert hm; simp [metB, Region.binds, e]) | true => rfl
                have hb13 : zB 13 = true := by cases e : zB 13 with | false => (exfalso; revert hm; simp [metB, Region.binds, e]) | true => rfl
                have e11 : zS 86 = .bool false := hF.2.2.2.2.2.2.2.2.2.2.2.1 hb11
                have e12 : zS 87 = .agg #[.int .i64 c, .int .i64 d, .bool t] := hF.2.2.2.2.2.2.2.2.2.2.2.2.1 hb12
                have e13 : zS 88 = .agg #[.bool r, .int .i64 n] := hF.2.2.2.2.2.2.2.2.2.2.2.2.2.1 hb13
                clear hL hm
                simp only [puts, Act.put, List.setIfInBounds_toArray, List.set_cons_zero, List.set_cons_succ]
                simp only [e11, e12, e13]
                go_simp
                refine (sVhas_any c d t r n _).mono ?_
                rintro e vB2 ⟨rfl, hb⟩
                rw [HHB.out]
                go_wp2_with fail
                exact hK.out _ _ ⟨fun zj => if zj = 13 then true else if zj = 12 then true else if zj = 11 then true else if zj = 14 then true else zB zj, fun zd => if zd = 89 then .bool true else if zd = 88 then .agg #[.bool r, .int .i64 n] else if zd = 87 then .agg #[.int .i64 c, .int .i64 d, .bool t] else if zd = 86 then .bool false else zS zd, by simp [hb11, hb12, hb13], by kernel_rfl, ⟨hF.1, hF.2.1, hF.2.2.1, hF.2.2.2.1, hF.2.2.2.2.1, hF.2.2.2.2.2.1, hF.2.2.2.2.2.2.1, hF.2.2.2.2.2.2.2.1, hF.2.2.2.2.2.2.2.2.1, hF.2.2.2.2.2.2.2.2.2.1, hF.2.2.2.2.2.2.2.2.2.2.1, fun _ => rfl, fun _ => rfl, fun _ => rfl, fun _ => rfl, hF.2.2.2.2.2.2.2.2.2.2.2.2.2.2.2.1, hF.2.2.2.2.2.2.2.2.2.2.2.2.2.2.2.2⟩, below_step hW hb⟩
              refine StepsI.cons rfl ?_ ?_
              · rintro L zA vB ⟨zB, zS, rfl, rfl, hF, hW⟩ hL hm K hK
                have hb15 : zB 15 = false := by simpa using hL
                have hb11 : zB 11 = true := by cases e : zB 11 with | false => (exfalso; revert hm; simp [metB, Region.binds, e]) | true => rfl
                have hb14 : zB 14 = true := by cases e : zB 14 with | false => (exfalso; revert hm; simp [metB, Region.binds, e]) | true => rfl
                have e11 : zS 86 = .bool false := hF.2.2.2.2.2.2.2.2.2.2.2.1 hb11
                have e14 : zS 89 = .bool true := hF.2.2.2.2.2.2.2.2.2.2.2.2.2.2.1 hb14
                clear hL hm
                simp only [puts, Act.put, List.setIfInBounds_toArray, List.set_cons_zero, List.set_cons_succ]
                simp only [e11, e14]
                go_simp
                exact hK.out _ _ ⟨fun zj => if zj = 14 then true else if zj = 11 then true else if zj = 15 then true else zB zj, fun zd => if zd = 90 then .bool true else if zd = 89 then .bool true else if zd = 86 then .bool false else zS zd, by simp [hb11, hb14], by kernel_rfl, ⟨hF.1, hF.2.1, hF.2.2.1, hF.2.2.2.1, hF.2.2.2.2.1, hF.2.2.2.2.2.1, hF.2.2.2.2.2.2.1, hF.2.2.2.2.2.2.2.1, hF.2.2.2.2.2.2.2.2.1, hF.2.2.2.2.2.2.2.2.2.1, hF.2.2.2.2.2.2.2.2.2.2.1, fun _ => rfl, hF.2.2.2.2.2.2.2.2.2.2.2.2.1, hF.2.2.2.2.2.2.2.2.2.2.2.2.2.1, fun _ => rfl, fun _ => rfl, hF.2.2.2.2.2.2.2.2.2.2.2.2.2.2.2.2⟩, hW⟩
              refine StepsI.cons rfl ?_ ?_
              · rintro L zA vB ⟨zB, zS, rfl, rfl, hF, hW⟩ hL hm K hK
                have hb16 : zB 16 = false := by simpa using hL
                have hb7 : zB 7 = true := by cases e : zB 7 with | false => (exfalso; revert hm; simp [metB, Region.binds, e]) | true => rfl
                have hb15 : zB 15 = true := by cases e : zB 15 with | false => (exfalso; revert hm; simp [metB, Region.binds, e]) | true => rfl
                have e7 : zS 82 = .bool true := hF.2.2.2.2.2.2.2.1 hb7
                have e15 : zS 90 = .bool true := hF.2.2.2.2.2.2.2.2.2.2.2.2.2.2.2.1 hb15
                clear hL hm
                simp only [puts, Act.put, List.setIfInBounds_toArray, List.set_cons_zero, List.set_cons_succ]
                simp only [e7, e15]
                have hES : (true != true) = false := by simp
                go_simp
                exact hK.out _ _ ⟨fun zj => if zj = 15 then true else if zj = 7 then true else if zj = 16 then true else zB zj, fun zd => if zd = 91 then .bool false else if zd = 90 then .bool true else if zd = 82 then .bool true else zS zd, by simp [hb7, hb15], by kernel_rfl, ⟨hF.1, hF.2.1, hF.2.2.1, hF.2.2.2.1, hF.2.2.2.2.1, hF.2.2.2.2.2.1, hF.2.2.2.2.2.2.1, fun _ => rfl, hF.2.2.2.2.2.2.2.2.1, hF.2.2.2.2.2.2.2.2.2.1, hF.2.2.2.2.2.2.2.2.2.2.1, hF.2.2.2.2.2.2.2.2.2.2.2.1, hF.2.2.2.2.2.2.2.2.2.2.2.2.1, hF.2.2.2.2.2.2.2.2.2.2.2.2.2.1, hF.2.2.2.2.2.2.2.2.2.2.2.2.2.2.1, fun _ => rfl, fun _ => rfl⟩, hW⟩
              exact StepsI.nil (by kernel_rfl)
            · rintro L zA vB ⟨zB, zS, rfl, rfl, hF, hW⟩ hr
              have hu := all_up (by kernel_rfl) (N := 17) (by kernel_rfl) hr
              have hb0 : zB 0 = true := by simpa using hu 0 (by decide)
              have hb1 : zB 1 = true := by simpa using hu 1 (by decide)
              have hb2 : zB 2 = true := by simpa using hu 2 (by decide)
              have hb3 : zB 3 = true := by simpa using hu 3 (by decide)
              have hb4 : zB 4 = true := by simpa using hu 4 (by decide)
              have hb5 : zB 5 = true := by simpa using hu 5 (by decide)
              have hb6 : zB 6 = true := by simpa using hu 6 (by decide)
              have hb7 : zB 7 = true := by simpa using hu 7 (by decide)
              have hb8 : zB 8 = true := by simpa using hu 8 (by decide)
              have hb9 : zB 9 = true := by simpa using hu 9 (by decide)
              have hb10 : zB 10 = true := by simpa using hu 10 (by decide)
              have hb11 : zB 11 = true := by simpa using hu 11 (by decide)
              have hb12 : zB 12 = true := by simpa using hu 12 (by decide)
              have hb13 : zB 13 = true := by simpa using hu 13 (by decide)
              have hb14 : zB 14 = true := by simpa using hu 14 (by decide)
              have hb15 : zB 15 = true := by simpa using hu 15 (by decide)
              have hb16 : zB 16 = true := by simpa using hu 16 (by decide)
              have e0 : zS 75 = .agg #[.int .i64 a, .int .i64 b, .bool s] := hF.1 hb0
              have e1 : zS 76 = .agg #[.bool r, .int .i64 n] := hF.2.1 hb1
              have e2 : zS 77 = .bool false := hF.2.2.1 hb2
              have e3 : zS 78 = .bool false := hF.2.2.2.1 hb3
              have e4 : zS 79 = .agg #[.int .i64 c, .int .i64 d, .bool t] := hF.2.2.2.2.1 hb4
              have e5 : zS 80 = .agg #[.bool r, .int .i64 n] := hF.2.2.2.2.2.1 hb5
              have e6 : zS 81 = .bool true := hF.2.2.2.2.2.2.1 hb6
              have e7 : zS 82 = .bool true := hF.2.2.2.2.2.2.2.1 hb7
              have e8 : zS 83 = .agg #[.int .i64 a, .int .i64 b, .bool s] := hF.2.2.2.2.2.2.2.2.1 hb8
              have e9 : zS 84 = .agg #[.bool r, .int .i64 n] := hF.2.2.2.2.2.2.2.2.2.1 hb9
              have e10 : zS 85 = .bool false := hF.2.2.2.2.2.2.2.2.2.2.1 hb10
              have e11 : zS 86 = .bool false := hF.2.2.2.2.2.2.2.2.2.2.2.1 hb11
              have e12 : zS 87 = .agg #[.int .i64 c, .int .i64 d, .bool t] := hF.2.2.2.2.2.2.2.2.2.2.2.2.1 hb12
              have e13 : zS 88 = .agg #[.bool r, .int .i64 n] := hF.2.2.2.2.2.2.2.2.2.2.2.2.2.1 hb13
              have e14 : zS 89 = .bool true := hF.2.2.2.2.2.2.2.2.2.2.2.2.2.2.1 hb14
              have e15 : zS 90 = .bool true := hF.2.2.2.2.2.2.2.2.2.2.2.2.2.2.2.1 hb15
              have e16 : zS 91 = .bool false := hF.2.2.2.2.2.2.2.2.2.2.2.2.2.2.2.2 hb16
              clear hu hr hF
              simp only [puts, Act.put, List.setIfInBounds_toArray, List.set_cons_zero, List.set_cons_succ]
              simp only [e0, e1, e2, e3, e4, e5, e6, e7, e8, e9, e10, e11, e12, e13, e14, e15, e16]
              clear e0 e1 e2 e3 e4 e5 e6 e7 e8 e9 e10 e11 e12 e13 e14 e15 e16
              clear hb0 hb1 hb2 hb3 hb4 hb5 hb6 hb7 hb8 hb9 hb10 hb11 hb12 hb13 hb14 hb15 hb16
              clear zB zS
              go_wp2_with fail
              go_meet
              case rel => exact ⟨rfl, hW⟩
          · have HHA := mkHid hA
            have HHB := mkHid hB
            clear hA hB
            refine wp_region_inv2 (fun zA0 L zA vB => ∃ (zB : Nat → Bool) (zS : Nat → Value), L = #[zB 0, zB 1, zB 2, zB 3, zB 4, zB 5, zB 6, zB 7, zB 8, zB 9, zB 10, zB 11, zB 12, zB 13, zB 14, zB 15, zB 16] ∧ zA = puts zA0 [(75, zS 75), (76, zS 76), (77, zS 77), (78, zS 78), (79, zS 79), (80, zS 80), (81, zS 81), (82, zS 82), (83, zS 83), (84, zS 84), (85, zS 85), (86, zS 86), (87, zS 87), (88, zS 88), (89, zS 89), (90, zS 90), (91, zS 91)] ∧ ((zB 0 = true → zS 75 = .agg #[.int .i64 a, .int .i64 b, .bool s]) ∧ (zB 1 = true → zS 76 = .agg #[.bool r, .int .i64 n]) ∧ (zB 2 = true → zS 77 = .bool true) ∧ (zB 3 = true → zS 78 = .bool true) ∧ (zB 4 = true → zS 79 = undef) ∧ (zB 5 = true → zS 80 = undef) ∧ (zB 6 = true → zS 81 = undef) ∧ (zB 7 = true → zS 82 = .bool true) ∧ (zB 8 = true → zS 83 = .agg #[.int .i64 a, .int .i64 b, .bool s]) ∧ (zB 9 = true → zS 84 = .agg #[.bool r, .int .i64 n]) ∧ (zB 10 = true → zS 85 = .bool true) ∧ (zB 11 = true → zS 86 = .bool true) ∧ (zB 12 = true → zS 87 = undef) ∧ (zB 13 = true → zS 88 = undef) ∧ (zB 14 = true → zS 89 = undef) ∧ (zB 15 = true → zS 90 = .bool true) ∧ (zB 16 = true → zS 91 = .bool false)) ∧ Below w7.heap.size w7 vB) (by kernel_rfl) ?_ ?_ ?_
            · exact ⟨fun _ => false, fun _ => undef, rfl, by kernel_rfl, ⟨fun e => ft e, fun e => ft e, fun e => ft e, fun e => ft e, fun e => ft e, fun e => ft e, fun e => ft e, fun e => ft e, fun e => ft e, fun e => ft e, fun e => ft e, fun e => ft e, fun e => ft e, fun e => ft e, fun e => ft e, fun e => ft e, fun e => ft e⟩, (Below.refl _ _).drew⟩
            · refine StepsI.cons rfl ?_ ?_
              · rintro L zA vB ⟨zB, zS, rfl, rfl, hF, hW⟩ hL hm K hK
                have hb0 : zB 0 = false := by simpa using hL
                clear hL hm
                simp only [puts, Act.put, List.setIfInBounds_toArray, List.set_cons_zero, List.set_cons_succ]
                obtain ⟨q0, q1, q2, _, _, _⟩ := HA.out.below hW
                go_simp
                exact hK.out _ _ ⟨fun zj => if zj = 0 then true else zB zj, fun zd => if zd = 75 then .agg #[.int .i64 a, .int .i64 b, .bool s] else zS zd, rfl, by kernel_rfl, ⟨fun _ => rfl, hF.2.1, hF.2.2.1, hF.2.2.2.1, hF.2.2.2.2.1, hF.2.2.2.2.2.1, hF.2.2.2.2.2.2.1, hF.2.2.2.2.2.2.2.1, hF.2.2.2.2.2.2.2.2.1, hF.2.2.2.2.2.2.2.2.2.1, hF.2.2.2.2.2.2.2.2.2.2.1, hF.2.2.2.2.2.2.2.2.2.2.2.1, hF.2.2.2.2.2.2.2.2.2.2.2.2.1, hF.2.2.2.2.2.2.2.2.2.2.2.2.2.1, hF.2.2.2.2.2.2.2.2.2.2.2.2.2.2.1, hF.2.2.2.2.2.2.2.2.2.2.2.2.2.2.2.1, hF.2.2.2.2.2.2.2.2.2.2.2.2.2.2.2.2⟩, hW⟩
              refine StepsI.cons rfl ?_ ?_
              · rintro L zA vB ⟨zB, zS, rfl, rfl, hF, hW⟩ hL hm K hK
                have hb1 : zB 1 = false := by simpa using hL
                clear hL hm
                simp only [puts, Act.put, List.setIfInBounds_toArray, List.set_cons_zero, List.set_cons_succ]
                obtain ⟨q0, q1, _, _⟩ := HC.out.below hW
                go_simp
                exact hK.out _ _ ⟨fun zj => if zj = 1 then true else zB zj, fun zd => if zd = 76 then .agg #[.bool r, .int .i64 n] else zS zd, rfl, by kernel_rfl, ⟨hF.1, fun _ => rfl, hF.2.2.1, hF.2.2.2.1, hF.2.2.2.2.1, hF.2.2.2.2.2.1, hF.2.2.2.2.2.2.1, hF.2.2.2.2.2.2.2.1, hF.2.2.2.2.2.2.2.2.1, hF.2.2.2.2.2.2.2.2.2.1, hF.2.2.2.2.2.2.2.2.2.2.1, hF.2.2.2.2.2.2.2.2.2.2.2.1, hF.2.2.2.2.2.2.2.2.2.2.2.2.1, hF.2.2.2.2.2.2.2.2.2.2.2.2.2.1, hF.2.2.2.2.2.2.2.2.2.2.2.2.2.2.1, hF.2.2.2.2.2.2.2.2.2.2.2.2.2.2.2.1, hF.2.2.2.2.2.2.2.2.2.2.2.2.2.2.2.2⟩, hW⟩
              refine StepsI.cons rfl ?_ ?_
              · rintro L zA vB ⟨zB, zS, rfl, rfl, hF, hW⟩ hL hm K hK
                have hb2 : zB 2 = false := by simpa using hL
                have hb0 : zB 0 = true := by cases e : zB 0 with | false => (exfalso; revert hm; simp [metB, Region.binds, e]) | true => rfl
                have hb1 : zB 1 = true := by cases e : zB 1 with | false => (exfalso; revert hm; simp [metB, Region.binds, e]) | true => rfl
                have e0 : zS 75 = .agg #[.int .i64 a, .int .i64 b, .bool s] := hF.1 hb0
                have e1 : zS 76 = .agg #[.bool r, .int .i64 n] := hF.2.1 hb1
                clear hL hm
                simp only [puts, Act.put, List.setIfInBounds_toArray, List.set_cons_zero, List.set_cons_succ]
                simp only [e0, e1]
                go_simp
                refine (iVhas_any a b s r n _).mono ?_
                rintro e vB2 ⟨rfl, hb⟩
                rw [HHA.out]
                go_wp2_with fail
                exact hK.out _ _ ⟨fun zj => if zj = 1 then true else if zj = 0 then true else if zj = 2 then true else zB zj, fun zd => if zd = 77 then .bool true else if zd = 76 then .agg #[.bool r, .int .i64 n] else if zd = 75 then .agg #[.int .i64 a, .int .i64 b, .bool s] else zS zd, by simp [hb0, hb1], by kernel_rfl, ⟨fun _ => rfl, fun _ => rfl, fun _ => rfl, hF.2.2.2.1, hF.2.2.2.2.1, hF.2.2.2.2.2.1, hF.2.2.2.2.2.2.1, hF.2.2.2.2.2.2.2.1, hF.2.2.2.2.2.2.2.2.1, hF.2.2.2.2.2.2.2.2.2.1, hF.2.2.2.2.2.2.2.2.2.2.1, hF.2.2.2.2.2.2.2.2.2.2.2.1, hF.2.2.2.2.2.2.2.2.2.2.2.2.1, hF.2.2.2.2.2.2.2.2.2.2.2.2.2.1, hF.2.2.2.2.2.2.2.2.2.2.2.2.2.2.1, hF.2.2.2.2.2.2.2.2.2.2.2.2.2.2.2.1, hF.2.2.2.2.2.2.2.2.2.2.2.2.2.2.2.2⟩, below_step hW hb⟩
              refine StepsI.cons rfl ?_ ?_
              · rintro L zA vB ⟨zB, zS, rfl, rfl, hF, hW⟩ hL hm K hK
                have hb3 : zB 3 = false := by simpa using hL
                have hb2 : zB 2 = true := by cases e : zB 2 with | false => (exfalso; revert hm; simp [metB, Region.binds, e]) | true => rfl
                have e2 : zS 77 = .bool true := hF.2.2.1 hb2
                clear hL hm
                simp only [puts, Act.put, List.setIfInBounds_toArray, List.set_cons_zero, List.set_cons_succ]
                simp only [e2]
                go_simp
                exact hK.out _ _ ⟨fun zj => if zj = 2 then true else if zj = 3 then true else zB zj, fun zd => if zd = 78 then .bool true else if zd = 77 then .bool true else zS zd, by simp [hb2], by kernel_rfl, ⟨hF.1, hF.2.1, fun _ => rfl, fun _ => rfl, hF.2.2.2.2.1, hF.2.2.2.2.2.1, hF.2.2.2.2.2.2.1, hF.2.2.2.2.2.2.2.1, hF.2.2.2.2.2.2.2.2.1, hF.2.2.2.2.2.2.2.2.2.1, hF.2.2.2.2.2.2.2.2.2.2.1, hF.2.2.2.2.2.2.2.2.2.2.2.1, hF.2.2.2.2.2.2.2.2.2.2.2.2.1, hF.2.2.2.2.2.2.2.2.2.2.2.2.2.1, hF.2.2.2.2.2.2.2.2.2.2.2.2.2.2.1, hF.2.2.2.2.2.2.2.2.2.2.2.2.2.2.2.1, hF.2.2.2.2.2.2.2.2.2.2.2.2.2.2.2.2⟩, hW⟩
              refine StepsI.cons rfl ?_ ?_
              · rintro L zA vB ⟨zB, zS, rfl, rfl, hF, hW⟩ hL hm K hK
                have hb4 : zB 4 = false := by simpa using hL
                have hb3 : zB 3 = true := by cases e : zB 3 with | false => (exfalso; revert hm; simp [metB, Region.binds, e]) | true => rfl
                have e3 : zS 78 = .bool true := hF.2.2.2.1 hb3
                clear hL hm
                simp only [puts, Act.put, List.setIfInBounds_toArray, List.set_cons_zero, List.set_cons_succ]
                simp only [e3]
                rw [if_neg (by exact Bool.false_ne_true)]
                exact hK.out _ _ ⟨fun zj => if zj = 3 then true else if zj = 4 then true else zB zj, fun zd => if zd = 79 then undef else if zd = 78 then .bool true else zS zd, by simp [hb3], by kernel_rfl, ⟨hF.1, hF.2.1, hF.2.2.1, fun _ => rfl, fun _ => rfl, hF.2.2.2.2.2.1, hF.2.2.2.2.2.2.1, hF.2.2.2.2.2.2.2.1, hF.2.2.2.2.2.2.2.2.1, hF.2.2.2.2.2.2.2.2.2.1, hF.2.2.2.2.2.2.2.2.2.2.1, hF.2.2.2.2.2.2.2.2.2.2.2.1, hF.2.2.2.2.2.2.2.2.2.2.2.2.1, hF.2.2.2.2.2.2.2.2.2.2.2.2.2.1, hF.2.2.2.2.2.2.2.2.2.2.2.2.2.2.1, hF.2.2.2.2.2.2.2.2.2.2.2.2.2.2.2.1, hF.2.2.2.2.2.2.2.2.2.2.2.2.2.2.2.2⟩, hW⟩
              refine StepsI.cons rfl ?_ ?_
              · rintro L zA vB ⟨zB, zS, rfl, rfl, hF, hW⟩ hL hm K hK
                have hb5 : zB 5 = false := by simpa using hL
                have hb3 : zB 3 = true := by cases e : zB 3 with | false => (exfalso; revert hm; simp [metB, Region.binds, e]) | true => rfl
                have e3 : zS 78 = .bool true := hF.2.2.2.1 hb3
                clear hL hm
                simp only [puts, Act.put, List.setIfInBounds_toArray, List.set_cons_zero, List.set_cons_succ]
                simp only [e3]
                rw [if_neg (by exact Bool.false_ne_true)]
                exact hK.out _ _ ⟨fun zj => if zj = 3 then true else if zj = 5 then true else zB zj, fun zd => if zd = 80 then undef else if zd = 78 then .bool true else zS zd, by simp [hb3], by kernel_rfl, ⟨hF.1, hF.2.1, hF.2.2.1, fun _ => rfl, hF.2.2.2.2.1, fun _ => rfl, hF.2.2.2.2.2.2.1, hF.2.2.2.2.2.2.2.1, hF.2.2.2.2.2.2.2.2.1, hF.2.2.2.2.2.2.2.2.2.1, hF.2.2.2.2.2.2.2.2.2.2.1, hF.2.2.2.2.2.2.2.2.2.2.2.1, hF.2.2.2.2.2.2.2.2.2.2.2.2.1, hF.2.2.2.2.2.2.2.2.2.2.2.2.2.1, hF.2.2.2.2.2.2.2.2.2.2.2.2.2.2.1, hF.2.2.2.2.2.2.2.2.2.2.2.2.2.2.2.1, hF.2.2.2.2.2.2.2.2.2.2.2.2.2.2.2.2⟩, hW⟩
              refine StepsI.cons rfl ?_ ?_
              · rintro L zA vB ⟨zB, zS, rfl, rfl, hF, hW⟩ hL hm K hK
                have hb6 : zB 6 = false := by simpa using hL
                have hb3 : zB 3 = true := by cases e : zB 3 with | false => (exfalso; revert hm; simp [metB, Region.binds, e]) | true => rfl
                have e3 : zS 78 = .bool true := hF.2.2.2.1 hb3
                clear hL hm
                simp only [puts, Act.put, List.setIfInBounds_toArray, List.set_cons_zero, List.set_cons_succ]
                simp only [e3]
                rw [if_neg (by exact Bool.false_ne_true)]
                exact hK.out _ _ ⟨fun zj => if zj = 3 then true else if zj = 6 then true else zB zj, fun zd => if zd = 81 then undef else if zd = 78 then .bool true else zS zd, by simp [hb3], by kernel_rfl, ⟨hF.1, hF.2.1, hF.2.2.1, fun _ => rfl, hF.2.2.2.2.1, hF.2.2.2.2.2.1, fun _ => rfl, hF.2.2.2.2.2.2.2.1, hF.2.2.2.2.2.2.2.2.1, hF.2.2.2.2.2.2.2.2.2.1, hF.2.2.2.2.2.2.2.2.2.2.1, hF.2.2.2.2.2.2.2.2.2.2.2.1, hF.2.2.2.2.2.2.2.2.2.2.2.2.1, hF.2.2.2.2.2.2.2.2.2.2.2.2.2.1, hF.2.2.2.2.2.2.2.2.2.2.2.2.2.2.1, hF.2.2.2.2.2.2.2.2.2.2.2.2.2.2.2.1, hF.2.2.2.2.2.2.2.2.2.2.2.2.2.2.2.2⟩, hW⟩
              refine StepsI.cons rfl ?_ ?_
              · rintro L zA vB ⟨zB, zS, rfl, rfl, hF, hW⟩ hL hm K hK
                have hb7 : zB 7 = false := by simpa using hL
                have hb3 : zB 3 = true := by cases e : zB 3 with | false => (exfalso; revert hm; simp [metB, Region.binds, e]) | true => rfl
                have hb6 : zB 6 = true := by cases e : zB 6 with | false => (exfalso; revert hm; simp [metB, Region.binds, e]) | true => rfl
                have e3 : zS 78 = .bool true := hF.2.2.2.1 hb3
                have e6 : zS 81 = undef := hF.2.2.2.2.2.2.1 hb6
                clear hL hm
                simp only [puts, Act.put, List.setIfInBounds_toArray, List.set_cons_zero, List.set_cons_succ]
                simp only [e3, e6]
                go_simp
                exact hK.out _ _ ⟨fun zj => if zj = 6 then true else if zj = 3 then true else if zj = 7 then true else zB zj, fun zd => if zd = 82 then .bool true else if zd = 81 then undef else if zd = 78 then .bool true else zS zd, by simp [hb3, hb6], by kernel_rfl, ⟨hF.1, hF.2.1, hF.2.2.1, fun _ => rfl, hF.2.2.2.2.1, hF.2.2.2.2.2.1, fun _ => rfl, fun _ => rfl, hF.2.2.2.2.2.2.2.2.1, hF.2.2.2.2.2.2.2.2.2.1, hF.2.2.2.2.2.2.2.2.2.2.1, hF.2.2.2.2.2.2.2.2.2.2.2.1, hF.2.2.2.2.2.2.2.2.2.2.2.2.1, hF.2.2.2.2.2.2.2.2.2.2.2.2.2.1, hF.2.2.2.2.2.2.2.2.2.2.2.2.2.2.1, hF.2.2.2.2.2.2.2.2.2.2.2.2.2.2.2.1, hF.2.2.2.2.2.2.2.2.2.2.2.2.2.2.2.2⟩, hW⟩
              refine StepsI.cons rfl ?_ ?_
              · rintro L zA vB ⟨zB, zS, rfl, rfl, hF, hW⟩ hL hm K hK
                have hb8 : zB 8 = false := by simpa using hL
                clear hL hm
                simp only [puts, Act.put, List.setIfInBounds_toArray, List.set_cons_zero, List.set_cons_succ]
                obtain ⟨q0, q1, q2, _, _, _⟩ := HA.out.below hW
                go_simp
                exact hK.out _ _ ⟨fun zj => if zj = 8 then true else zB zj, fun zd => if zd = 83 then .agg #[.int .i64 a, .int .i64 b, .bool s] else zS zd, rfl, by kernel_rfl, ⟨hF.1, hF.2.1, hF.2.2.1, hF.2.2.2.1, hF.2.2.2.2.1, hF.2.2.2.2.2.1, hF.2.2.2.2.2.2.1, hF.2.2.2.2.2.2.2.1, fun _ => rfl, hF.2.2.2.2.2.2.2.2.2.1, hF.2.2.2.2.2.2.2.2.2.2.1, hF.2.2.2.2.2.2.2.2.2.2.2.1, hF.2.2.2.2.2.2.2.2.2.2.2.2.1, hF.2.2.2.2.2.2.2.2.2.2.2.2.2.1, hF.2.2.2.2.2.2.2.2.2.2.2.2.2.2.1, hF.2.2.2.2.2.2.2.2.2.2.2.2.2.2.2.1, hF.2.2.2.2.2.2.2.2.2.2.2.2.2.2.2.2⟩, hW⟩
              refine StepsI.cons rfl ?_ ?_
              · rintro L zA vB ⟨zB, zS, rfl, rfl, hF, hW⟩ hL hm K hK
                have hb9 : zB 9 = false := by simpa using hL
                clear hL hm
                simp only [puts, Act.put, List.setIfInBounds_toArray, List.set_cons_zero, List.set_cons_succ]
                obtain ⟨q0, q1, _, _⟩ := HC.out.below hW
                go_simp
                exact hK.out _ _ ⟨fun zj => if zj = 9 then true else zB zj, fun zd => if zd = 84 then .agg #[.bool r, .int .i64 n] else zS zd, rfl, by kernel_rfl, ⟨hF.1, hF.2.1, hF.2.2.1, hF.2.2.2.1, hF.2.2.2.2.1, hF.2.2.2.2.2.1, hF.2.2.2.2.2.2.1, hF.2.2.2.2.2.2.2.1, hF.2.2.2.2.2.2.2.2.1, fun _ => rfl, hF.2.2.2.2.2.2.2.2.2.2.1, hF.2.2.2.2.2.2.2.2.2.2.2.1, hF.2.2.2.2.2.2.2.2.2.2.2.2.1, hF.2.2.2.2.2.2.2.2.2.2.2.2.2.1, hF.2.2.2.2.2.2.2.2.2.2.2.2.2.2.1, hF.2.2.2.2.2.2.2.2.2.2.2.2.2.2.2.1, hF.2.2.2.2.2.2.2.2.2.2.2.2.2.2.2.2⟩, hW⟩
              refine StepsI.cons rfl ?_ ?_
              · rintro L zA vB ⟨zB, zS, rfl, rfl, hF, hW⟩ hL hm K hK
                have hb10 : zB 10 = false := by simpa using hL
                have hb8 : zB 8 = true := by cases e : zB 8 with | false => (exfalso; revert hm; simp [metB, Region.binds, e]) | true => rfl
                have hb9 : zB 9 = true := by cases e : zB 9 with | false => (exfalso; revert hm; simp [metB, Region.binds, e]) | true => rfl
                have e8 : zS 83 = .agg #[.int .i64 a, .int .i64 b, .bool s] := hF.2.2.2.2.2.2.2.2.1 hb8
                have e9 : zS 84 = .agg #[.bool r, .int .i64 n] := hF.2.2.2.2.2.2.2.2.2.1 hb9
                clear hL hm
                simp only [puts, Act.put, List.setIfInBounds_toArray, List.set_cons_zero, List.set_cons_succ]
                simp only [e8, e9]
                go_simp
                refine (sVhas_any a b s r n _).mono ?_
                rintro e vB2 ⟨rfl, hb⟩
                rw [HHA.out]
                go_wp2_with fail
                exact hK.out _ _ ⟨fun zj => if zj = 9 then true else if zj = 8 then true else if zj = 10 then true else zB zj, fun zd => if zd = 85 then .bool true else if zd = 84 then .agg #[.bool r, .int .i64 n] else if zd = 83 then .agg #[.int .i64 a, .int .i64 b, .bool s] else zS zd, by simp [hb8, hb9], by kernel_rfl, ⟨hF.1, hF.2.1, hF.2.2.1, hF.2.2.2.1, hF.2.2.2.2.1, hF.2.2.2.2.2.1, hF.2.2.2.2.2.2.1, hF.2.2.2.2.2.2.2.1, fun _ => rfl, fun _ => rfl, fun _ => rfl, hF.2.2.2.2.2.2.2.2.2.2.2.1, hF.2.2.2.2.2.2.2.2.2.2.2.2.1, hF.2.2.2.2.2.2.2.2.2.2.2.2.2.1, hF.2.2.2.2.2.2.2.2.2.2.2.2.2.2.1, hF.2.2.2.2.2.2.2.2.2.2.2.2.2.2.2.1, hF.2.2.2.2.2.2.2.2.2.2.2.2.2.2.2.2⟩, below_step hW hb⟩
              refine StepsI.cons rfl ?_ ?_
              · rintro L zA vB ⟨zB, zS, rfl, rfl, hF, hW⟩ hL hm K hK
                have hb11 : zB 11 = false := by simpa using hL
                have hb10 : zB 10 = true := by cases e : zB 10 with | false => (exfalso; revert hm; simp [metB, Region.binds, e]) | true => rfl
                have e10 : zS 85 = .bool true := hF.2.2.2.2.2.2.2.2.2.2.1 hb10
                clear hL hm
                simp only [puts, Act.put, List.setIfInBounds_toArray, List.set_cons_zero, List.set_cons_succ]
                simp only [e10]
                go_simp
                exact hK.out _ _ ⟨fun zj => if zj = 10 then true else if zj = 11 then true else zB zj, fun zd => if zd = 86 then .bool true else if zd = 85 then .bool true else zS zd, by simp [hb10], by kernel_rfl, ⟨hF.1, hF.2.1, hF.2.2.1, hF.2.2.2.1, hF.2.2.2.2.1, hF.2.2.2.2.2.1, hF.2.2.2.2.2.2.1, hF.2.2.2.2.2.2.2.1, hF.2.2.2.2.2.2.2.2.1, hF.2.2.2.2.2.2.2.2.2.1, fun _ => rfl, fun _ => rfl, hF.2.2.2.2.2.2.2.2.2.2.2.2.1, hF.2.2.2.2.2.2.2.2.2.2.2.2.2.1, hF.2.2.2.2.2.2.2.2.2.2.2.2.2.2.1, hF.2.2.2.2.2.2.2.2.2.2.2.2.2.2.2.1, hF.2.2.2.2.2.2.2.2.2.2.2.2.2.2.2.2⟩, hW⟩
              refine StepsI.cons rfl ?_ ?_
              · rintro L zA vB ⟨zB, zS, rfl, rfl, hF, hW⟩ hL hm K hK
                have hb12 : zB 12 = false := by simpa using hL
                have hb11 : zB 11 = true := by cases e : zB 11 with | false => (exfalso; revert hm; simp [metB, Region.binds, e]) | true => rfl
                have e11 : zS 86 = .bool true := hF.2.2.2.2.2.2.2.2.2.2.2.1 hb11
                clear hL hm
                simp only [puts, Act.put, List.setIfInBounds_toArray, List.set_cons_zero, List.set_cons_succ]
                simp only [e11]
                rw [if_neg (by exact Bool.false_ne_true)]
                exact hK.out _ _ ⟨fun zj => if zj = 11 then true else if zj = 12 then true else zB zj, fun zd => if zd = 87 then undef else if zd = 86 then .bool true else zS zd, by simp [hb11], by kernel_rfl, ⟨hF.1, hF.2.1, hF.2.2.1, hF.2.2.2.1, hF.2.2.2.2.1, hF.2.2.2.2.2.1, hF.2.2.2.2.2.2.1, hF.2.2.2.2.2.2.2.1, hF.2.2.2.2.2.2.2.2.1, hF.2.2.2.2.2.2.2.2.2.1, hF.2.2.2.2.2.2.2.2.2.2.1, fun _ => rfl, fun _ => rfl, hF.2.2.2.2.2.2.2.2.2.2.2.2.2.1, hF.2.2.2.2.2.2.2.2.2.2.2.2.2.2.1, hF.2.2.2.2.2.2.2.2.2.2.2.2.2.2.2.1, hF.2.2.2.2.2.2.2.2.2.2.2.2.2.2.2.2⟩, hW⟩
              refine StepsI.cons rfl ?_ ?_
              · rintro L zA vB ⟨zB, zS, rfl, rfl, hF, hW⟩ hL hm K hK
                have hb13 : zB 13 = false := by simpa using hL
                have hb11 : zB 11 = true := by cases e : zB 11 with | false => (exfalso; revert hm; simp [metB, Region.binds, e]) | true => rfl
                have e11 : zS 86 = .bool true := hF.2.2.2.2.2.2.2.2.2.2.2.1 hb11
                clear hL hm
                simp only [puts, Act.put, List.setIfInBounds_toArray, List.set_cons_zero, List.set_cons_succ]
                simp only [e11]
                rw [if_neg (by exact Bool.false_ne_true)]
                exact hK.out _ _ ⟨fun zj => if zj = 11 then true else if zj = 13 then true else zB zj, fun zd => if zd = 88 then undef else if zd = 86 then .bool true else zS zd, by simp [hb11], by kernel_rfl, ⟨hF.1, hF.2.1, hF.2.2.1, hF.2.2.2.1, hF.2.2.2.2.1, hF.2.2.2.2.2.1, hF.2.2.2.2.2.2.1, hF.2.2.2.2.2.2.2.1, hF.2.2.2.2.2.2.2.2.1, hF.2.2.2.2.2.2.2.2.2.1, hF.2.2.2.2.2.2.2.2.2.2.1, fun _ => rfl, hF.2.2.2.2.2.2.2.2.2.2.2.2.1, fun _ => rfl, hF.2.2.2.2.2.2.2.2.2.2.2.2.2.2.1, hF.2.2.2.2.2.2.2.2.2.2.2.2.2.2.2.1, hF.2.2.2.2.2.2.2.2.2.2.2.2.2.2.2.2⟩, hW⟩
              refine StepsI.cons rfl ?_ ?_
              · rintro L zA vB ⟨zB, zS, rfl, rfl, hF, hW⟩ hL hm K hK
                have hb14 : zB 14 = false := by simpa using hL
                have hb11 : zB 11 = true := by cases e : zB 11 with | false => (exfalso; revert hm; simp [metB, Region.binds, e]) | true => rfl
                have e11 : zS 86 = .bool true := hF.2.2.2.2.2.2.2.2.2.2.2.1 hb11
                clear hL hm
                simp only [puts, Act.put, List.setIfInBounds_toArray, List.set_cons_zero, List.set_cons_succ]
                simp only [e11]
                rw [if_neg (by exact Bool.false_ne_true)]
                exact hK.out _ _ ⟨fun zj => if zj = 11 then true else if zj = 14 then true else zB zj, fun zd => if zd = 89 then undef else if zd = 86 then .bool true else zS zd, by simp [hb11], by kernel_rfl, ⟨hF.1, hF.2.1, hF.2.2.1, hF.2.2.2.1, hF.2.2.2.2.1, hF.2.2.2.2.2.1, hF.2.2.2.2.2.2.1, hF.2.2.2.2.2.2.2.1, hF.2.2.2.2.2.2.2.2.1, hF.2.2.2.2.2.2.2.2.2.1, hF.2.2.2.2.2.2.2.2.2.2.1, fun _ => rfl, hF.2.2.2.2.2.2.2.2.2.2.2.2.1, hF.2.2.2.2.2.2.2.2.2.2.2.2.2.1, fun _ => rfl, hF.2.2.2.2.2.2.2.2.2.2.2.2.2.2.2.1, hF.2.2.2.2.2.2.2.2.2.2.2.2.2.2.2.2⟩, hW⟩
              refine StepsI.cons rfl ?_ ?_
              · rintro L zA vB ⟨zB, zS, rfl, rfl, hF, hW⟩ hL hm K hK
                have hb15 : zB 15 = false := by simpa using hL
                have hb11 : zB 11 = true := by cases e : zB 11 with | false => (exfalso; revert hm; simp [metB, Region.binds, e]) | true => rfl
                have hb14 : zB 14 = true := by cases e : zB 14 with | false => (exfalso; revert hm; simp [metB, Region.binds, e]) | true => rfl
                have e11 : zS 86 = .bool true := hF.2.2.2.2.2.2.2.2.2.2.2.1 hb11
                have e14 : zS 89 = undef := hF.2.2.2.2.2.2.2.2.2.2.2.2.2.2.1 hb14
                clear hL hm
                simp only [puts, Act.put, List.setIfInBounds_toArray, List.set_cons_zero, List.set_cons_succ]
                simp only [e11, e14]
                go_simp
                exact hK.out _ _ ⟨fun zj => if zj = 14 then true else if zj = 11 then true else if zj = 15 then true else zB zj, fun zd => if zd = 90 then .bool true else if zd = 89 then undef else if zd = 86 then .bool true else zS zd, by simp [hb11, hb14], by kernel_rfl, ⟨hF.1, hF.2.1, hF.2.2.1, hF.2.2.2.1, hF.2.2.2.2.1, hF.2.2.2.2.2.1, hF.2.2.2.2.2.2.1, hF.2.2.2.2.2.2.2.1, hF.2.2.2.2.2.2.2.2.1, hF.2.2.2.2.2.2.2.2.2.1, hF.2.2.2.2.2.2.2.2.2.2.1, fun _ => rfl, hF.2.2.2.2.2.2.2.2.2.2.2.2.1, hF.2.2.2.2.2.2.2.2.2.2.2.2.2.1, fun _ => rfl, fun _ => rfl, hF.2.2.2.2.2.2.2.2.2.2.2.2.2.2.2.2⟩, hW⟩
              refine StepsI.cons rfl ?_ ?_
              · rintro L zA vB ⟨zB, zS, rfl, rfl, hF, hW⟩ hL hm K hK
                have hb16 : zB 16 = false := by simpa using hL
                have hb7 : zB 7 = true := by cases e : zB 7 with | false => (exfalso; revert hm; simp [metB, Region.binds, e]) | true => rfl
                have hb15 : zB 15 = true := by cases e : zB 15 with | false => (exfalso; revert hm; simp [metB, Region.binds, e]) | true => rfl
                have e7 : zS 82 = .bool true := hF.2.2.2.2.2.2.2.1 hb7
                have e15 : zS 90 = .bool true := hF.2.2.2.2.2.2.2.2.2.2.2.2.2.2.2.1 hb15
                clear hL hm
                simp only [puts, Act.put, List.setIfInBounds_toArray, List.set_cons_zero, List.set_cons_succ]
                simp only [e7, e15]
                have hES : (true != true) = false := by simp
                go_simp
                exact hK.out _ _ ⟨fun zj => if zj = 15 then true else if zj = 7 then true else if zj = 16 then true else zB zj, fun zd => if zd = 91 then .bool false else if zd = 90 then .bool true else if zd = 82 then .bool true else zS zd, by simp [hb7, hb15], by kernel_rfl, ⟨hF.1, hF.2.1, hF.2.2.1, hF.2.2.2.1, hF.2.2.2.2.1, hF.2.2.2.2.2.1, hF.2.2.2.2.2.2.1, fun _ => rfl, hF.2.2.2.2.2.2.2.2.1, hF.2.2.2.2.2.2.2.2.2.1, hF.2.2.2.2.2.2.2.2.2.2.1, hF.2.2.2.2.2.2.2.2.2.2.2.1, hF.2.2.2.2.2.2.2.2.2.2.2.2.1, hF.2.2.2.2.2.2.2.2.2.2.2.2.2.1, hF.2.2.2.2.2.2.2.2.2.2.2.2.2.2.1, fun _ => rfl, fun _ => rfl⟩, hW⟩
              exact StepsI.nil (by kernel_rfl)
            · rintro L zA vB ⟨zB, zS, rfl, rfl, hF, hW⟩ hr
              have hu := all_up (by kernel_rfl) (N := 17) (by kernel_rfl) hr
              have hb0 : zB 0 = true := by simpa using hu 0 (by decide)
              have hb1 : zB 1 = true := by simpa using hu 1 (by decide)
              have hb2 : zB 2 = true := by simpa using hu 2 (by decide)
              have hb3 : zB 3 = true := by simpa using hu 3 (by decide)
              have hb4 : zB 4 = true := by simpa using hu 4 (by decide)
              have hb5 : zB 5 = true := by simpa using hu 5 (by decide)
              have hb6 : zB 6 = true := by simpa using hu 6 (by decide)
              have hb7 : zB 7 = true := by simpa using hu 7 (by decide)
              have hb8 : zB 8 = true := by simpa using hu 8 (by decide)
              have hb9 : zB 9 = true := by simpa using hu 9 (by decide)
              have hb10 : zB 10 = true := by simpa using hu 10 (by decide)
              have hb11 : zB 11 = true := by simpa using hu 11 (by decide)
              have hb12 : zB 12 = true := by simpa using hu 12 (by decide)
              have hb13 : zB 13 = true := by simpa using hu 13 (by decide)
              have hb14 : zB 14 = true := by simpa using hu 14 (by decide)
              have hb15 : zB 15 = true := by simpa using hu 15 (by decide)
              have hb16 : zB 16 = true := by simpa using hu 16 (by decide)
              have e0 : zS 75 = .agg #[.int .i64 a, .int .i64 b, .bool s] := hF.1 hb0
              have e1 : zS 76 = .agg #[.bool r, .int .i64 n] := hF.2.1 hb1
              have e2 : zS 77 = .bool true := hF.2.2.1 hb2
              have e3 : zS 78 = .bool true := hF.2.2.2.1 hb3
              have e4 : zS 79 = undef := hF.2.2.2.2.1 hb4
              have e5 : zS 80 = undef := hF.2.2.2.2.2.1 hb5
              have e6 : zS 81 = undef := hF.2.2.2.2.2.2.1 hb6
              have e7 : zS 82 = .bool true := hF.2.2.2.2.2.2.2.1 hb7
              have e8 : zS 83 = .agg #[.int .i64 a, .int .i64 b, .bool s] := hF.2.2.2.2.2.2.2.2.1 hb8
              have e9 : zS 84 = .agg #[.bool r, .int .i64 n] := hF.2.2.2.2.2.2.2.2.2.1 hb9
              have e10 : zS 85 = .bool true := hF.2.2.2.2.2.2.2.2.2.2.1 hb10
              have e11 : zS 86 = .bool true := hF.2.2.2.2.2.2.2.2.2.2.2.1 hb11
              have e12 : zS 87 = undef := hF.2.2.2.2.2.2.2.2.2.2.2.2.1 hb12
              have e13 : zS 88 = undef := hF.2.2.2.2.2.2.2.2.2.2.2.2.2.1 hb13
              have e14 : zS 89 = undef := hF.2.2.2.2.2.2.2.2.2.2.2.2.2.2.1 hb14
              have e15 : zS 90 = .bool true := hF.2.2.2.2.2.2.2.2.2.2.2.2.2.2.2.1 hb15
              have e16 : zS 91 = .bool false := hF.2.2.2.2.2.2.2.2.2.2.2.2.2.2.2.2 hb16
              clear hu hr hF
              simp only [puts, Act.put, List.setIfInBounds_toArray, List.set_cons_zero, List.set_cons_succ]
              simp only [e0, e1, e2, e3, e4, e5, e6, e7, e8, e9, e10, e11, e12, e13, e14, e15, e16]
              clear e0 e1 e2 e3 e4 e5 e6 e7 e8 e9 e10 e11 e12 e13 e14 e15 e16
              clear hb0 hb1 hb2 hb3 hb4 hb5 hb6 hb7 hb8 hb9 hb10 hb11 hb12 hb13 hb14 hb15 hb16
              clear zB zS
              go_wp2_with fail
              go_meet
              case rel => exact ⟨rfl, hW⟩
          · have HHA := mkHid hA
            have HHB := mkHid hB
            clear hA hB
            refine wp_region_inv2 (fun zA0 L zA vB => ∃ (zB : Nat → Bool) (zS : Nat → Value), L = #[zB 0, zB 1, zB 2, zB 3, zB 4, zB 5, zB 6, zB 7, zB 8, zB 9, zB 10, zB 11, zB 12, zB 13, zB 14, zB 15, zB 16] ∧ zA = puts zA0 [(75, zS 75), (76, zS 76), (77, zS 77), (78, zS 78), (79, zS 79), (80, zS 80), (81, zS 81), (82, zS 82), (83, zS 83), (84, zS 84), (85, zS 85), (86, zS 86), (87, zS 87), (88, zS 88), (89, zS 89), (90, zS 90), (91, zS 91)] ∧ ((zB 0 = true → zS 75 = .agg #[.int .i64 a, .int .i64 b, .bool s]) ∧ (zB 1 = true → zS 76 = .agg #[.bool r, .int .i64 n]) ∧ (zB 2 = true → zS 77 = .bool true) ∧ (zB 3 = true → zS 78 = .bool true) ∧ (zB 4 = true → zS 79 = undef) ∧ (zB 5 = true → zS 80 = undef) ∧ (zB 6 = true → zS 81 = undef) ∧ (zB 7 = true → zS 82 = .bool true) ∧ (zB 8 = true → zS 83 = .agg #[.int .i64 a, .int .i64 b, .bool s]) ∧ (zB 9 = true → zS 84 = .agg #[.bool r, .int .i64 n]) ∧ (zB 10 = true → zS 85 = .bool true) ∧ (zB 11 = true → zS 86 = .bool true) ∧ (zB 12 = true → zS 87 = undef) ∧ (zB 13 = true → zS 88 = undef) ∧ (zB 14 = true → zS 89 = undef) ∧ (zB 15 = true → zS 90 = .bool true) ∧ (zB 16 = true → zS 91 = .bool false)) ∧ Below w7.heap.size w7 vB) (by kernel_rfl) ?_ ?_ ?_
            · exact ⟨fun _ => false, fun _ => undef, rfl, by kernel_rfl, ⟨fun e => ft e, fun e => ft e, fun e => ft e, fun e => ft e, fun e => ft e, fun e => ft e, fun e => ft e, fun e => ft e, fun e => ft e, fun e => ft e, fun e => ft e, fun e => ft e, fun e => ft e, fun e => ft e, fun e => ft e, fun e => ft e, fun e => ft e⟩, (Below.refl _ _).drew⟩
            · refine StepsI.cons rfl ?_ ?_
              · rintro L zA vB ⟨zB, zS, rfl, rfl, hF, hW⟩ hL hm K hK
                have hb0 : zB 0 = false := by simpa using hL
                clear hL hm
                simp only [puts, Act.put, List.setIfInBounds_toArray, List.set_cons_zero, List.set_cons_succ]
                obtain ⟨q0, q1, q2, _, _, _⟩ := HA.out.below hW
                go_simp
                exact hK.out _ _ ⟨fun zj => if zj = 0 then true else zB zj, fun zd => if zd = 75 then .agg #[.int .i64 a, .int .i64 b, .bool s] else zS zd, rfl, by kernel_rfl, ⟨fun _ => rfl, hF.2.1, hF.2.2.1, hF.2.2.2.1, hF.2.2.2.2.1, hF.2.2.2.2.2.1, hF.2.2.2.2.2.2.1, hF.2.2.2.2.2.2.2.1, hF.2.2.2.2.2.2.2.2.1, hF.2.2.2.2.2.2.2.2.2.1, hF.2.2.2.2.2.2.2.2.2.2.1, hF.2.2.2.2.2.2.2.2.2.2.2.1, hF.2.2.2.2.2.2.2.2.2.2.2.2.1, hF.2.2.2.2.2.2.2.2.2.2.2.2.2.1, hF.2.2.2.2.2.2.2.2.2.2.2.2.2.2.1, hF.2.2.2.2.2.2.2.2.2.2.2.2.2.2.2.1, hF.2.2.2.2.2.2.2.2.2.2.2.2.2.2.2.2⟩, hW⟩
              refine StepsI.cons rfl ?_ ?_
              · rintro L zA vB ⟨zB, zS, rfl, rfl, hF, hW⟩ hL hm K hK
                have hb1 : zB 1 = false := by simpa using hL
                clear hL hm
                simp only [puts, Act.put, List.setIfInBounds_toArray, List.set_cons_zero, List.set_cons_succ]
                obtain ⟨q0, q1, _, _⟩ := HC.out.below hW
                go_simp
                exact hK.out _ _ ⟨fun zj => if zj = 1 then true else zB zj, fun zd => if zd = 76 then .agg #[.bool r, .int .i64 n] else zS zd, rfl, by kernel_rfl, ⟨hF.1, fun _ => rfl, hF.2.2.1, hF.2.2.2.1, hF.2.2.2.2.1, hF.2.2.2.2.2.1, hF.2.2.2.2.2.2.1, hF.2.2.2.2.2.2.2.1, hF.2.2.2.2.2.2.2.2.1, hF.2.2.2.2.2.2.2.2.2.1, hF.2.2.2.2.2.2.2.2.2.2.1, hF.2.2.2.2.2.2.2.2.2.2.2.1, hF.2.2.2.2.2.2.2.2.2.2.2.2.1, hF.2.2.2.2.2.2.2.2.2.2.2.2.2.1, hF.2.2.2.2.2.2.2.2.2.2.2.2.2.2.1, hF.2.2.2.2.2.2.2.2.2.2.2.2.2.2.2.1, hF.2.2.2.2.2.2.2.2.2.2.2.2.2.2.2.2⟩, hW⟩
              refine StepsI.cons rfl ?_ ?_
              · rintro L zA vB ⟨zB, zS, rfl, rfl, hF, hW⟩ hL hm K hK
                have hb2 : zB 2 = false := by simpa using hL
                have hb0 : zB 0 = true := by cases e : zB 0 with | false => (exfalso; revert hm; simp [metB, Region.binds, e]) | true => rfl
                have hb1 : zB 1 = true := by cases e : zB 1 with | false => (exfalso; revert hm; simp [metB, Region.binds, e]) | true => rfl
                have e0 : zS 75 = .agg #[.int .i64 a, .int .i64 b, .bool s] := hF.1 hb0
                have e1 : zS 76 = .agg #[.bool r, .int .i64 n] := hF.2.1 hb1
                clear hL hm
                simp only [puts, Act.put, List.setIfInBounds_toArray, List.set_cons_zero, List.set_cons_succ]
                simp only [e0, e1]
                go_simp
                refine (iVhas_any a b s r n _).mono ?_
                rintro e vB2 ⟨rfl, hb⟩
                rw [HHA.out]
                go_wp2_with fail
                exact hK.out _ _ ⟨fun zj => if zj = 1 then true else if zj = 0 then true else if zj = 2 then true else zB zj, fun zd => if zd = 77 then .bool true else if zd = 76 then .agg #[.bool r, .int .i64 n] else if zd = 75 then .agg #[.int .i64 a, .int .i64 b, .bool s] else zS zd, by simp [hb0, hb1], by kernel_rfl, ⟨fun _ => rfl, fun _ => rfl, fun _ => rfl, hF.2.2.2.1, hF.2.2.2.2.1, hF.2.2.2.2.2.1, hF.2.2.2.2.2.2.1, hF.2.2.2.2.2.2.2.1, hF.2.2.2.2.2.2.2.2.1, hF.2.2.2.2.2.2.2.2.2.1, hF.2.2.2.2.2.2.2.2.2.2.1, hF.2.2.2.2.2.2.2.2.2.2.2.1, hF.2.2.2.2.2.2.2.2.2.2.2.2.1, hF.2.2.2.2.2.2.2.2.2.2.2.2.2.1, hF.2.2.2.2.2.2.2.2.2.2.2.2.2.2.1, hF.2.2.2.2.2.2.2.2.2.2.2.2.2.2.2.1, hF.2.2.2.2.2.2.2.2.2.2.2.2.2.2.2.2⟩, below_step hW hb⟩
              refine StepsI.cons rfl ?_ ?_
              · rintro L zA vB ⟨zB, zS, rfl, rfl, hF, hW⟩ hL hm K hK
                have hb3 : zB 3 = false := by simpa using hL
                have hb2 : zB 2 = true := by cases e : zB 2 with | false => (exfalso; revert hm; simp [metB, Region.binds, e]) | true => rfl
                have e2 : zS 77 = .bool true := hF.2.2.1 hb2
                clear hL hm
                simp only [puts, Act.put, List.setIfInBounds_toArray, List.set_cons_zero, List.set_cons_succ]
                simp only [e2]
                go_simp
                exact hK.out _ _ ⟨fun zj => if zj = 2 then true else if zj = 3 then true else zB zj, fun zd => if zd = 78 then .bool true else if zd = 77 then .bool true else zS zd, by simp [hb2], by kernel_rfl, ⟨hF.1, hF.2.1, fun _ => rfl, fun _ => rfl, hF.2.2.2.2.1, hF.2.2.2.2.2.1, hF.2.2.2.2.2.2.1, hF.2.2.2.2.2.2.2.1, hF.2.2.2.2.2.2.2.2.1, hF.2.2.2.2.2.2.2.2.2.1, hF.2.2.2.2.2.2.2.2.2.2.1, hF.2.2.2.2.2.2.2.2.2.2.2.1, hF.2.2.2.2.2.2.2.2.2.2.2.2.1, hF.2.2.2.2.2.2.2.2.2.2.2.2.2.1, hF.2.2.2.2.2.2.2.2.2.2.2.2.2.2.1, hF.2.2.2.2.2.2.2.2.2.2.2.2.2.2.2.1, hF.2.2.2.2.2.2.2.2.2.2.2.2.2.2.2.2⟩, hW⟩
              refine StepsI.cons rfl ?_ ?_
              · rintro L zA vB ⟨zB, zS, rfl, rfl, hF, hW⟩ hL hm K hK
                have hb4 : zB 4 = false := by simpa using hL
                have hb3 : zB 3 = true := by cases e : zB 3 with | false => (exfalso; revert hm; simp [metB, Region.binds, e]) | true => rfl
                have e3 : zS 78 = .bool true := hF.2.2.2.1 hb3
                clear hL hm
                simp only [puts, Act.put, List.setIfInBounds_toArray, List.set_cons_zero, List.set_cons_succ]
                simp only [e3]
                rw [if_neg (by exact Bool.false_ne_true)]
                exact hK.out _ _ ⟨fun zj => if zj = 3 then true else if zj = 4 then true else zB zj, fun zd => if zd = 79 then undef else if zd = 78 then .bool true else zS zd, by simp [hb3], by kernel_rfl, ⟨hF.1, hF.2.1, hF.2.2.1, fun _ => rfl, fun _ => rfl, hF.2.2.2.2.2.1, hF.2.2.2.2.2.2.1, hF.2.2.2.2.2.2.2.1, hF.2.2.2.2.2.2.2.2.1, hF.2.2.2.2.2.2.2.2.2.1, hF.2.2.2.2.2.2.2.2.2.2.1, hF.2.2.2.2.2.2.2.2.2.2.2.1, hF.2.2.2.2.2.2.2.2.2.2.2.2.1, hF.2.2.2.2.2.2.2.2.2.2.2.2.2.1, hF.2.2.2.2.2.2.2.2.2.2.2.2.2.2.1, hF.2.2.2.2.2.2.2.2.2.2.2.2.2.2.2.1, hF.2.2.2.2.2.2.2.2.2.2.2.2.2.2.2.2⟩, hW⟩
              refine StepsI.cons rfl ?_ ?_
              · rintro L zA vB ⟨zB, zS, rfl, rfl, hF, hW⟩ hL hm K hK
                have hb5 : zB 5 = false := by simpa using hL
                have hb3 : zB 3 = true := by cases e : zB 3 with | false => (exfalso; revert hm; simp [metB, Region.binds, e]) | true => rfl
                have e3 : zS 78 = .bool true := hF.2.2.2.1 hb3
                clear hL hm
                simp only [puts, Act.put, List.setIfInBounds_toArray, List.set_cons_zero, List.set_cons_succ]
                simp only [e3]
                rw [if_neg (by exact Bool.false_ne_true)]
                exact hK.out _ _ ⟨fun zj => if zj = 3 then true else if zj = 5 then true else zB zj, fun zd => if zd = 80 then undef else if zd = 78 then .bool true else zS zd, by simp [hb3], by kernel_rfl, ⟨hF.1, hF.2.1, hF.2.2.1, fun _ => rfl, hF.2.2.2.2.1, fun _ => rfl, hF.2.2.2.2.2.2.1, hF.2.2.2.2.2.2.2.1, hF.2.2.2.2.2.2.2.2.1, hF.2.2.2.2.2.2.2.2.2.1, hF.2.2.2.2.2.2.2.2.2.2.1, hF.2.2.2.2.2.2.2.2.2.2.2.1, hF.2.2.2.2.2.2.2.2.2.2.2.2.1, hF.2.2.2.2.2.2.2.2.2.2.2.2.2.1, hF.2.2.2.2.2.2.2.2.2.2.2.2.2.2.1, hF.2.2.2.2.2.2.2.2.2.2.2.2.2.2.2.1, hF.2.2.2.2.2.2.2.2.2.2.2.2.2.2.2.2⟩, hW⟩
              refine StepsI.cons rfl ?_ ?_
              · rintro L zA vB ⟨zB, zS, rfl, rfl, hF, hW⟩ hL hm K hK
                have hb6 : zB 6 = false := by simpa using hL
                have hb3 : zB 3 = true := by cases e : zB 3 with | false => (exfalso; revert hm; simp [metB, Region.binds, e]) | true => rfl
                have e3 : zS 78 = .bool true := hF.2.2.2.1 hb3
                clear hL hm
                simp only [puts, Act.put, List.setIfInBounds_toArray, List.set_cons_zero, List.set_cons_succ]
                simp only [e3]
                rw [if_neg (by exact Bool.false_ne_true)]
                exact hK.out _ _ ⟨fun zj => if zj = 3 then true else if zj = 6 then true else zB zj, fun zd => if zd = 81 then undef else if zd = 78 then .bool true else zS zd, by simp [hb3], by kernel_rfl, ⟨hF.1, hF.2.1, hF.2.2.1, fun _ => rfl, hF.2.2.2.2.1, hF.2.2.2.2.2.1, fun _ => rfl, hF.2.2.2.2.2.2.2.1, hF.2.2.2.2.2.2.2.2.1, hF.2.2.2.2.2.2.2.2.2.1, hF.2.2.2.2.2.2.2.2.2.2.1, hF.2.2.2.2.2.2.2.2.2.2.2.1, hF.2.2.2.2.2.2.2.2.2.2.2.2.1, hF.2.2.2.2.2.2.2.2.2.2.2.2.2.1, hF.2.2.2.2.2.2.2.2.2.2.2.2.2.2.1, hF.2.2.2.2.2.2.2.2.2.2.2.2.2.2.2.1, hF.2.2.2.2.2.2.2.2.2.2.2.2.2.2.2.2⟩, hW⟩
              refine StepsI.cons rfl ?_ ?_
              · rintro L zA vB ⟨zB, zS, rfl, rfl, hF, hW⟩ hL hm K hK
                have hb7 : zB 7 = false := by simpa using hL
                have hb3 : zB 3 = true := by cases e : zB 3 with | false => (exfalso; revert hm; simp [metB, Region.binds, e]) | true => rfl
                have hb6 : zB 6 = true := by cases e : zB 6 with | false => (exfalso; revert hm; simp [metB, Region.binds, e]) | true => rfl
                have e3 : zS 78 = .bool true := hF.2.2.2.1 hb3
                have e6 : zS 81 = undef := hF.2.2.2.2.2.2.1 hb6
                clear hL hm
                simp only [puts, Act.put, List.setIfInBounds_toArray, List.set_cons_zero, List.set_cons_succ]
                simp only [e3, e6]
                go_simp
                exact hK.out _ _ ⟨fun zj => if zj = 6 then true else if zj = 3 then true else if zj = 7 then true else zB zj, fun zd => if zd = 82 then .bool true else if zd = 81 then undef else if zd = 78 then .bool true else zS zd, by simp [hb3, hb6], by kernel_rfl, ⟨hF.1, hF.2.1, hF.2.2.1, fun _ => rfl, hF.2.2.2.2.1, hF.2.2.2.2.2.1, fun _ => rfl, fun _ => rfl, hF.2.2.2.2.2.2.2.2.1, hF.2.2.2.2.2.2.2.2.2.1, hF.2.2.2.2.2.2.2.2.2.2.1, hF.2.2.2.2.2.2.2.2.2.2.2.1, hF.2.2.2.2.2.2.2.2.2.2.2.2.1, hF.2.2.2.2.2.2.2.2.2.2.2.2.2.1, hF.2.2.2.2.2.2.2.2.2.2.2.2.2.2.1, hF.2.2.2.2.2.2.2.2.2.2.2.2.2.2.2.1, hF.2.2.2.2.2.2.2.2.2.2.2.2.2.2.2.2⟩, hW⟩
              refine StepsI.cons rfl ?_ ?_
              · rintro L zA vB ⟨zB, zS, rfl, rfl, hF, hW⟩ hL hm K hK
                have hb8 : zB 8 = false := by simpa using hL
                clear hL hm
                simp only [puts, Act.put, List.setIfInBounds_toArray, List.set_cons_zero, List.set_cons_succ]
                obtain ⟨q0, q1, q2, _, _, _⟩ := HA.out.below hW
                go_simp
                exact hK.out _ _ ⟨fun zj => if zj = 8 then true else zB zj, fun zd => if zd = 83 then .agg #[.int .i64 a, .int .i64 b, .bool s] else zS zd, rfl, by kernel_rfl, ⟨hF.1, hF.2.1, hF.2.2.1, hF.2.2.2.1, hF.2.2.2.2.1, hF.2.2.2.2.2.1, hF.2.2.2.2.2.2.1, hF.2.2.2.2.2.2.2.1, fun _ => rfl, hF.2.2.2.2.2.2.2.2.2.1, hF.2.2.2.2.2.2.2.2.2.2.1, hF.2.2.2.2.2.2.2.2.2.2.2.1, hF.2.2.2.2.2.2.2.2.2.2.2.2.1, hF.2.2.2.2.2.2.2.2.2.2.2.2.2.1, hF.2.2.2.2.2.2.2.2.2.2.2.2.2.2.1, hF.2.2.2.2.2.2.2.2.2.2.2.2.2.2.2.1, hF.2.2.2.2.2.2.2.2.2.2.2.2.2.2.2.2⟩, hW⟩
              refine StepsI.cons rfl ?_ ?_
              · rintro L zA vB ⟨zB, zS, rfl, rfl, hF, hW⟩ hL hm K hK
                have hb9 : zB 9 = false := by simpa using hL
                clear hL hm
                simp only [puts, Act.put, List.setIfInBounds_toArray, List.set_cons_zero, List.set_cons_succ]
                obtain ⟨q0, q1, _, _⟩ := HC.out.below hW
                go_simp
                exact hK.out _ _ ⟨fun zj => if zj = 9 then true else zB zj, fun zd => if zd = 84 then .agg #[.bool r, .int .i64 n] else zS zd, rfl, by kernel_rfl, ⟨hF.1, hF.2.1, hF.2.2.1, hF.2.2.2.1, hF.2.2.2.2.1, hF.2.2.2.2.2.1, hF.2.2.2.2.2.2.1, hF.2.2.2.2.2.2.2.1, hF.2.2.2.2.2.2.2.2.1, fun _ => rfl, hF.2.2.2.2.2.2.2.2.2.2.1, hF.2.2.2.2.2.2.2.2.2.2.2.1, hF.2.2.2.2.2.2.2.2.2.2.2.2.1, hF.2.2.2.2.2.2.2.2.2.2.2.2.2.1, hF.2.2.2.2.2.2.2.2.2.2.2.2.2.2.1, hF.2.2.2.2.2.2.2.2.2.2.2.2.2.2.2.1, hF.2.2.2.2.2.2.2.2.2.2.2.2.2.2.2.2⟩, hW⟩
              refine StepsI.cons rfl ?_ ?_
              · rintro L zA vB ⟨zB, zS, rfl, rfl, hF, hW⟩ hL hm K hK
                have hb10 : zB 10 = false := by simpa using hL
                have hb8 : zB 8 = true := by cases e : zB 8 with | false => (exfalso; revert hm; simp [metB, Region.binds, e]) | true => rfl
                have hb9 : zB 9 = true := by cases e : zB 9 with | false => (exfalso; revert hm; simp [metB, Region.binds, e]) | true => rfl
                have e8 : zS 83 = .agg #[.int .i64 a, .int .i64 b, .bool s] := hF.2.2.2.2.2.2.2.2.1 hb8
                have e9 : zS 84 = .agg #[.bool r, .int .i64 n] := hF.2.2.2.2.2.2.2.2.2.1 hb9
                clear hL hm
                simp only [puts, Act.put, List.setIfInBounds_toArray, List.set_cons_zero, List.set_cons_succ]
                simp only [e8, e9]
                go_simp
                refine (sVhas_any a b s r n _).mono ?_
                rintro e vB2 ⟨rfl, hb⟩
                rw [HHA.out]
                go_wp2_with fail
                exact hK.out _ _ ⟨fun zj => if zj = 9 then true else if zj = 8 then true else if zj = 10 then true else zB zj, fun zd => if zd = 85 then .bool true else if zd = 84 then .agg #[.bool r, .int .i64 n] else if zd = 83 then .agg #[.int .i64 a, .int .i64 b, .bool s] else zS zd, by simp [hb8, hb9], by kernel_rfl, ⟨hF.1, hF.2.1, hF.2.2.1, hF.2.2.2.1, hF.2.2.2.2.1, hF.2.2.2.2.2.1, hF.2.2.2.2.2.2.1, hF.2.2.2.2.2.2.2.1, fun _ => rfl, fun _ => rfl, fun _ => rfl, hF.2.2.2.2.2.2.2.2.2.2.2.1, hF.2.2.2.2.2.2.2.2.2.2.2.2.1, hF.2.2.2.2.2.2.2.2.2.2.2.2.2.1, hF.2.2.2.2.2.2.2.2.2.2.2.2.2.2.1, hF.2.2.2.2.2.2.2.2.2.2.2.2.2.2.2.1, hF.2.2.2.2.2.2.2.2.2.2.2.2.2.2.2.2⟩, below_step hW hb⟩
              refine StepsI.cons rfl ?_ ?_
              · rintro L zA vB ⟨zB, zS, rfl, rfl, hF, hW⟩ hL hm K hK
                have hb11 : zB 11 = false := by simpa using hL
                have hb10 : zB 10 = true := by cases e : zB 10 with | false => (exfalso; revert hm; simp [metB, Region.binds, e]) | true => rfl
                have e10 : zS 85 = .bool true := hF.2.2.2.2.2.2.2.2.2.2.1 hb10
                clear hL hm
                simp only [puts, Act.put, List.setIfInBounds_toArray, List.set_cons_zero, List.set_cons_succ]
                simp only [e10]
                go_simp
                exact hK.out _ _ ⟨fun zj => if zj = 10 then true else if zj = 11 then true else zB zj, fun zd => if zd = 86 then .bool true else if zd = 85 then .bool true else zS zd, by simp [hb10], by kernel_rfl, ⟨hF.1, hF.2.1, hF.2.2.1, hF.2.2.2.1, hF.2.2.2.2.1, hF.2.2.2.2.2.1, hF.2.2.2.2.2.2.1, hF.2.2.2.2.2.2.2.1, hF.2.2.2.2.2.2.2.2.1, hF.2.2.2.2.2.2.2.2.2.1, fun _ => rfl, fun _ => rfl, hF.2.2.2.2.2.2.2.2.2.2.2.2.1, hF.2.2.2.2.2.2.2.2.2.2.2.2.2.1, hF.2.2.2.2.2.2.2.2.2.2.2.2.2.2.1, hF.2.2.2.2.2.2.2.2.2.2.2.2.2.2.2.1, hF.2.2.2.2.2.2.2.2.2.2.2.2.2.2.2.2⟩, hW⟩
              refine StepsI.cons rfl ?_ ?_
              · rintro L zA vB ⟨zB, zS, rfl, rfl, hF, hW⟩ hL hm K hK
                have hb12 : zB 12 = false := by simpa using hL
                have hb11 : zB 11 = true := by cases e : zB 11 with | false => (exfalso; revert hm; simp [metB, Region.binds, e]) | true => rfl
                have e11 : zS 86 = .bool true := hF.2.2.2.2.2.2.2.2.2.2.2.1 hb11
                clear hL hm
                simp only [puts, Act.put, List.setIfInBounds_toArray, List.set_cons_zero, List.set_cons_succ]
                simp only [e11]
                rw [if_neg (by exact Bool.false_ne_true)]
                exact hK.out _ _ ⟨fun zj => if zj = 11 then true else if zj = 12 then true else zB zj, fun zd => if zd = 87 then undef else if zd = 86 then .bool true else zS zd, by simp [hb11], by kernel_rfl, ⟨hF.1, hF.2.1, hF.2.2.1, hF.2.2.2.1, hF.2.2.2.2.1, hF.2.2.2.2.2.1, hF.2.2.2.2.2.2.1, hF.2.2.2.2.2.2.2.1, hF.2.2.2.2.2.2.2.2.1, hF.2.2.2.2.2.2.2.2.2.1, hF.2.2.2.2.2.2.2.2.2.2.1, fun _ => rfl, fun _ => rfl, hF.2.2.2.2.2.2.2.2.2.2.2.2.2.1, hF.2.2.2.2.2.2.2.2.2.2.2.2.2.2.1, hF.2.2.2.2.2.2.2.2.2.2.2.2.2.2.2.1, hF.2.2.2.2.2.2.2.2.2.2.2.2.2.2.2.2⟩, hW⟩
              refine StepsI.cons rfl ?_ ?_
              · rintro L zA vB ⟨zB, zS, rfl, rfl, hF, hW⟩ hL hm K hK
                have hb13 : zB 13 = false := by simpa using hL
                have hb11 : zB 11 = true := by cases e : zB 11 with | false => (exfalso; revert hm; simp [metB, Region.binds, e]) | true => rfl
                have e11 : zS 86 = .bool true := hF.2.2.2.2.2.2.2.2.2.2.2.1 hb11
                clear hL hm
                simp only [puts, Act.put, List.setIfInBounds_toArray, List.set_cons_zero, List.set_cons_succ]
                simp only [e11]
                rw [if_neg (by exact Bool.false_ne_true)]
                exact hK.out _ _ ⟨fun zj => if zj = 11 then true else if zj = 13 then true else zB zj, fun zd => if zd = 88 then undef else if zd = 86 then .bool true else zS zd, by simp [hb11], by kernel_rfl, ⟨hF.1, hF.2.1, hF.2.2.1, hF.2.2.2.1, hF.2.2.2.2.1, hF.2.2.2.2.2.1, hF.2.2.2.2.2.2.1, hF.2.2.2.2.2.2.2.1, hF.2.2.2.2.2.2.2.2.1, hF.2.2.2.2.2.2.2.2.2.1, hF.2.2.2.2.2.2.2.2.2.2.1, fun _ => rfl, hF.2.2.2.2.2.2.2.2.2.2.2.2.1, fun _ => rfl, hF.2.2.2.2.2.2.2.2.2.2.2.2.2.2.1, hF.2.2.2.2.2.2.2.2.2.2.2.2.2.2.2.1, hF.2.2.2.2.2.2.2.2.2.2.2.2.2.2.2.2⟩, hW⟩
              refine StepsI.cons rfl ?_ ?_
              · rintro L zA vB ⟨zB, zS, rfl, rfl, hF, hW⟩ hL hm K hK
                have hb14 : zB 14 = false := by simpa using hL
                have hb11 : zB 11 = true := by cases e : zB 11 with | false => (exfalso; revert hm; simp [metB, Region.binds, e]) | true => rfl
                have e11 : zS 86 = .bool true := hF.2.2.2.2.2.2.2.2.2.2.2.1 hb11
                clear hL hm
                simp only [puts, Act.put, List.setIfInBounds_toArray, List.set_cons_zero, List.set_cons_succ]
                simp only [e11]
                rw [if_neg (by exact Bool.false_ne_true)]
                exact hK.out _ _ ⟨fun zj => if zj = 11 then true else if zj = 14 then true else zB zj, fun zd => if zd = 89 then undef else if zd = 86 then .bool true else zS zd, by simp [hb11], by kernel_rfl, ⟨hF.1, hF.2.1, hF.2.2.1, hF.2.2.2.1, hF.2.2.2.2.1, hF.2.2.2.2.2.1, hF.2.2.2.2.2.2.1, hF.2.2.2.2.2.2.2.1, hF.2.2.2.2.2.2.2.2.1, hF.2.2.2.2.2.2.2.2.2.1, hF.2.2.2.2.2.2.2.2.2.2.1, fun _ => rfl, hF.2.2.2.2.2.2.2.2.2.2.2.2.1, hF.2.2.2.2.2.2.2.2.2.2.2.2.2.1, fun _ => rfl, hF.2.2.2.2.2.2.2.2.2.2.2.2.2.2.2.1, hF.2.2.2.2.2.2.2.2.2.2.2.2.2.2.2.2⟩, hW⟩
              refine StepsI.cons rfl ?_ ?_
              · rintro L zA vB ⟨zB, zS, rfl, rfl, hF, hW⟩ hL hm K hK
                have hb15 : zB 15 = false := by simpa using hL
                have hb11 : zB 11 = true := by cases e : zB 11 with | false => (exfalso; revert hm; simp [metB, Region.binds, e]) | true => rfl
                have hb14 : zB 14 = true := by cases e : zB 14 with | false => (exfalso; revert hm; simp [metB, Region.binds, e]) | true => rfl
                have e11 : zS 86 = .bool true := hF.2.2.2.2.2.2.2.2.2.2.2.1 hb11
                have e14 : zS 89 = undef := hF.2.2.2.2.2.2.2.2.2.2.2.2.2.2.1 hb14
                clear hL hm
                simp only [puts, Act.put, List.setIfInBounds_toArray, List.set_cons_zero, List.set_cons_succ]
                simp only [e11, e14]
                go_simp
                exact hK.out _ _ ⟨fun zj => if zj = 14 then true else if zj = 11 then true else if zj = 15 then true else zB zj, fun zd => if zd = 90 then .bool true else if zd = 89 then undef else if zd = 86 then .bool true else zS zd, by simp [hb11, hb14], by kernel_rfl, ⟨hF.1, hF.2.1, hF.2.2.1, hF.2.2.2.1, hF.2.2.2.2.1, hF.2.2.2.2.2.1, hF.2.2.2.2.2.2.1, hF.2.2.2.2.2.2.2.1, hF.2.2.2.2.2.2.2.2.1, hF.2.2.2.2.2.2.2.2.2.1, hF.2.2.2.2.2.2.2.2.2.2.1, fun _ => rfl, hF.2.2.2.2.2.2.2.2.2.2.2.2.1, hF.2.2.2.2.2.2.2.2.2.2.2.2.2.1, fun _ => rfl, fun _ => rfl, hF.2.2.2.2.2.2.2.2.2.2.2.2.2.2.2.2⟩, hW⟩
              refine StepsI.cons rfl ?_ ?_
              · rintro L zA vB ⟨zB, zS, rfl, rfl, hF, hW⟩ hL hm K hK
                have hb16 : zB 16 = false := by simpa using hL
                have hb7 : zB 7 = true := by cases e : zB 7 with | false => (exfalso; revert hm; simp [metB, Region.binds, e]) | true => rfl
                have hb15 : zB 15 = true := by cases e : zB 15 with | false => (exfalso; revert hm; simp [metB, Region.binds, e]) | true => rfl
                have e7 : zS 82 = .bool true := hF.2.2.2.2.2.2.2.1 hb7
                have e15 : zS 90 = .bool true := hF.2.2.2.2.2.2.2.2.2.2.2.2.2.2.2.1 hb15
                clear hL hm
                simp only [puts, Act.put, List.setIfInBounds_toArray, List.set_cons_zero, List.set_cons_succ]
                simp only [e7, e15]
                have hES : (true != true) = false := by simp
                go_simp
                exact hK.out _ _ ⟨fun zj => if zj = 15 then true else if zj = 7 then true else if zj = 16 then true else zB zj, fun zd => if zd = 91 then .bool false else if zd = 90 then .bool true else if zd = 82 then .bool true else zS zd, by simp [hb7, hb15], by kernel_rfl, ⟨hF.1, hF.2.1, hF.2.2.1, hF.2.2.2.1, hF.2.2.2.2.1, hF.2.2.2.2.2.1, hF.2.2.2.2.2.2.1, fun _ => rfl, hF.2.2.2.2.2.2.2.2.1, hF.2.2.2.2.2.2.2.2.2.1, hF.2.2.2.2.2.2.2.2.2.2.1, hF.2.2.2.2.2.2.2.2.2.2.2.1, hF.2.2.2.2.2.2.2.2.2.2.2.2.1, hF.2.2.2.2.2.2.2.2.2.2.2.2.2.1, hF.2.2.2.2.2.2.2.2.2.2.2.2.2.2.1, fun _ => rfl, fun _ => rfl⟩, hW⟩
              exact StepsI.nil (by kernel_rfl)
            · rintro L zA vB ⟨zB, zS, rfl, rfl, hF, hW⟩ hr
              have hu := all_up (by kernel_rfl) (N := 17) (by kernel_rfl) hr
              have hb0 : zB 0 = true := by simpa using hu 0 (by decide)
              have hb1 : zB 1 = true := by simpa using hu 1 (by decide)
              have hb2 : zB 2 = true := by simpa using hu 2 (by decide)
              have hb3 : zB 3 = true := by simpa using hu 3 (by decide)
              have hb4 : zB 4 = true := by simpa using hu 4 (by decide)
              have hb5 : zB 5 = true := by simpa using hu 5 (by decide)
              have hb6 : zB 6 = true := by simpa using hu 6 (by decide)
              have hb7 : zB 7 = true := by simpa using hu 7 (by decide)
              have hb8 : zB 8 = true := by simpa using hu 8 (by decide)
              have hb9 : zB 9 = true := by simpa using hu 9 (by decide)
              have hb10 : zB 10 = true := by simpa using hu 10 (by decide)
              have hb11 : zB 11 = true := by simpa using hu 11 (by decide)
              have hb12 : zB 12 = true := by simpa using hu 12 (by decide)
              have hb13 : zB 13 = true := by simpa using hu 13 (by decide)
              have hb14 : zB 14 = true := by simpa using hu 14 (by decide)
              have hb15 : zB 15 = true := by simpa using hu 15 (by decide)
              have hb16 : zB 16 = true := by simpa using hu 16 (by decide)
              have e0 : zS 75 = .agg #[.int .i64 a, .int .i64 b, .bool s] := hF.1 hb0
              have e1 : zS 76 = .agg #[.bool r, .int .i64 n] := hF.2.1 hb1
              have e2 : zS 77 = .bool true := hF.2.2.1 hb2
              have e3 : zS 78 = .bool true := hF.2.2.2.1 hb3
              have e4 : zS 79 = undef := hF.2.2.2.2.1 hb4
              have e5 : zS 80 = undef := hF.2.2.2.2.2.1 hb5
              have e6 : zS 81 = undef := hF.2.2.2.2.2.2.1 hb6
              have e7 : zS 82 = .bool true := hF.2.2.2.2.2.2.2.1 hb7
              have e8 : zS 83 = .agg #[.int .i64 a, .int .i64 b, .bool s] := hF.2.2.2.2.2.2.2.2.1 hb8
              have e9 : zS 84 = .agg #[.bool r, .int .i64 n] := hF.2.2.2.2.2.2.2.2.2.1 hb9
              have e10 : zS 85 = .bool true := hF.2.2.2.2.2.2.2.2.2.2.1 hb10
              have e11 : zS 86 = .bool true := hF.2.2.2.2.2.2.2.2.2.2.2.1 hb11
              have e12 : zS 87 = undef := hF.2.2.2.2.2.2.2.2.2.2.2.2.1 hb12
              have e13 : zS 88 = undef := hF.2.2.2.2.2.2.2.2.2.2.2.2.2.1 hb13
              have e14 : zS 89 = undef := hF.2.2.2.2.2.2.2.2.2.2.2.2.2.2.1 hb14
              have e15 : zS 90 = .bool true := hF.2.2.2.2.2.2.2.2.2.2.2.2.2.2.2.1 hb15
              have e16 : zS 91 = .bool false := hF.2.2.2.2.2.2.2.2.2.2.2.2.2.2.2.2 hb16
              clear hu hr hF
              simp only [puts, Act.put, List.setIfInBounds_toArray, List.set_cons_zero, List.set_cons_succ]
              simp only [e0, e1, e2, e3, e4, e5, e6, e7, e8, e9, e10, e11, e12, e13, e14, e15, e16]
              clear e0 e1 e2 e3 e4 e5 e6 e7 e8 e9 e10 e11 e12 e13 e14 e15 e16
              clear hb0 hb1 hb2 hb3 hb4 hb5 hb6 hb7 hb8 hb9 hb10 hb11 hb12 hb13 hb14 hb15 hb16
              clear zB zS
              go_wp2_with fail
              go_meet
              case rel => exact ⟨rfl, hW⟩
        case rest =>
          obtain ⟨rfl, hW⟩ := hcut
          have BE := mkHid (below_step BE.out hW)
          have HA := mkHid (HA.out.below hW)
          have HB := mkHid (HB.out.below hW)
          have HC := mkHid (HC.out.below hW)
          have HJ := mkHid (HJ.out.below hW)
          clear hW
          obtain ⟨w8, hw8⟩ : ∃ zw : World, wc = zw := ⟨_, rfl⟩
          subst hw8
          go_upto_region 14 with fail
          go_cut [105] from 92 to 105 (fun z v => z = .bool false ∧ Below wc.heap.size wc v)
          case first =>
            cases hA : hasV a b s r n <;> cases hB : hasV c d t r n
            · have BB := mkHid (Below.refl wc.heap.size wc)
              have HHA := mkHid hA
              have HHB := mkHid hB
              clear hA hB
              obtain ⟨ha0, ha1, ha2, ha3, ha4, ha5⟩ := HA.out
              obtain ⟨z0, z1, z2, z3⟩ := HC.out
              go_wp2_with fail
              refine (sVhas_any a b s r n _).mono ?_
              rintro e wD ⟨rfl, hb⟩
              clear ha0 ha1 ha2 ha3 ha4 ha5
              clear z0 z1 z2 z3
              have HA := mkHid (HA.out.below hb)
              have HB := mkHid (HB.out.below hb)
              have HJ := mkHid (HJ.out.below hb)
              have HC := mkHid (HC.out.below hb)
              have BB := mkHid (below_step BB.out hb)
              clear hb
              rw [HHA.out]
              obtain ⟨hb0, hb1, hb2, hb3, hb4, hb5⟩ := HB.out
              obtain ⟨z0, z1, z2, z3⟩ := HC.out
              go_wp2_with fail
              refine (sVhas_any c d t r n _).mono ?_
              rintro e wE ⟨rfl, hb⟩
              clear hb0 hb1 hb2 hb3 hb4 hb5
              clear z0 z1 z2 z3
              have HA := mkHid (HA.out.below hb)
              have HB := mkHid (HB.out.below hb)
              have HJ := mkHid (HJ.out.below hb)
              have HC := mkHid (HC.out.below hb)
              have BB := mkHid (below_step BB.out hb)
              clear hb
              rw [HHB.out]
              go_wp2_with fail
              go_meet
              case rel => exact ⟨rfl, BB.out⟩
            · have BB := mkHid (Below.refl wc.heap.size wc)
              have HHJ : Hid (hasV j1 j2 j3 r n = true) := mkHid (by rw [← E1.out, ← E2.out, ← E3.out]; exact has_join2 k1 k2 hB)
              have HHA := mkHid hA
              have HHB := mkHid hB
              clear hA hB
              obtain ⟨ha0, ha1, ha2, ha3, ha4, ha5⟩ := HA.out
              obtain ⟨z0, z1, z2, z3⟩ := HC.out
              go_wp2_with fail
              refine (sVhas_any a b s r n _).mono ?_
              rintro e wD ⟨rfl, hb⟩
              clear ha0 ha1 ha2 ha3 ha4 ha5
              clear z0 z1 z2 z3
              have HA := mkHid (HA.out.below hb)
              have HB := mkHid (HB.out.below hb)
              have HJ := mkHid (HJ.out.below hb)
              have HC := mkHid (HC.out.below hb)
              have BB := mkHid (below_step BB.out hb)
              clear hb
              rw [HHA.out]
              obtain ⟨hb0, hb1, hb2, hb3, hb4, hb5⟩ := HB.out
              obtain ⟨z0, z1, z2, z3⟩ := HC.out
              go_wp2_with fail
              refine (sVhas_any c d t r n _).mono ?_
              rintro e wE ⟨rfl, hb⟩
              clear hb0 hb1 hb2 hb3 hb4 hb5
              clear z0 z1 z2 z3
              have HA := mkHid (HA.out.below hb)
              have HB := mkHid (HB.out.below hb)
              have HJ := mkHid (HJ.out.below hb)
              have HC := mkHid (HC.out.below hb)
              have BB := mkHid (below_step BB.out hb)
              clear hb
              rw [HHB.out]
              obtain ⟨hj0, hj1, hj2, hj3, hj4, hj5⟩ := HJ.out
              obtain ⟨z0, z1, z2, z3⟩ := HC.out
              go_wp2_with fail
              refine (iVhas_any j1 j2 j3 r n _).mono ?_
              rintro e wF ⟨rfl, hb⟩
              clear hj0 hj1 hj2 hj3 hj4 hj5
              clear z0 z1 z2 z3
              have HA := mkHid (HA.out.below hb)
              have HB := mkHid (HB.out.below hb)
              have HJ := mkHid (HJ.out.below hb)
              have HC := mkHid (HC.out.below hb)
              have BB := mkHid (below_step BB.out hb)
              clear hb
              rw [HHJ.out]
              go_wp2_with fail
              go_meet
              case rel => exact ⟨rfl, BB.out⟩
            · have BB := mkHid (Below.refl wc.heap.size wc)
              have HHJ : Hid (hasV j1 j2 j3 r n = true) := mkHid (by rw [← E1.out, ← E2.out, ← E3.out]; exact has_join1 k1 k2 hA)
              have HHA := mkHid hA
              have HHB := mkHid hB
              clear hA hB
              obtain ⟨ha0, ha1, ha2, ha3, ha4, ha5⟩ := HA.out
              obtain ⟨z0, z1, z2, z3⟩ := HC.out
              go_wp2_with fail
              refine (sVhas_any a b s r n _).mono ?_
              rintro e wD ⟨rfl, hb⟩
              clear ha0 ha1 ha2 ha3 ha4 ha5
              clear z0 z1 z2 z3
              have HA := mkHid (HA.out.below hb)
              have HB := mkHid (HB.out.below hb)
              have HJ := mkHid (HJ.out.below hb)
              have HC := mkHid (HC.out.below hb)
              have BB := mkHid (below_step BB.out hb)
              clear hb
              rw [HHA.out]
              obtain ⟨hj0, hj1, hj2, hj3, hj4, hj5⟩ := HJ.out
              obtain ⟨z0, z1, z2, z3⟩ := HC.out
              go_wp2_with fail
              refine (iVhas_any j1 j2 j3 r n _).mono ?_
              rintro e wF ⟨rfl, hb⟩
              clear hj0 hj1 hj2 hj3 hj4 hj5
              clear z0 z1 z2 z3
              have HA := mkHid (HA.out.below hb)
              have HB := mkHid (HB.out.below hb)
              have HJ := mkHid (HJ.out.below hb)
              have HC := mkHid (HC.out.below hb)
              have BB := mkHid (below_step BB.out hb)
              clear hb
              rw [HHJ.out]
              go_wp2_with fail
              go_meet
              case rel => exact ⟨rfl, BB.out⟩
            · have BB := mkHid (Below.refl wc.heap.size wc)
              have HHJ : Hid (hasV j1 j2 j3 r n = true) := mkHid (by rw [← E1.out, ← E2.out, ← E3.out]; exact has_join1 k1 k2 hA)
              have HHA := mkHid hA
              have HHB := mkHid hB
              clear hA hB
              obtain ⟨ha0, ha1, ha2, ha3, ha4, ha5⟩ := HA.out
              obtain ⟨z0, z1, z2, z3⟩ := HC.out
              go_wp2_with fail
              refine (sVhas_any a b s r n _).mono ?_
              rintro e wD ⟨rfl, hb⟩
              clear ha0 ha1 ha2 ha3 ha4 ha5
              clear z0 z1 z2 z3
              have HA := mkHid (HA.out.below hb)
              have HB := mkHid (HB.out.below hb)
              have HJ := mkHid (HJ.out.below hb)
              have HC := mkHid (HC.out.below hb)
              have BB := mkHid (below_step BB.out hb)
              clear hb
              rw [HHA.out]
              obtain ⟨hj0, hj1, hj2, hj3, hj4, hj5⟩ := HJ.out
              obtain ⟨z0, z1, z2, z3⟩ := HC.out
              go_wp2_with fail
              refine (iVhas_any j1 j2 j3 r n _).mono ?_
              rintro e wF ⟨rfl, hb⟩
              clear hj0 hj1 hj2 hj3 hj4 hj5
              clear z0 z1 z2 z3
              have HA := mkHid (HA.out.below hb)
              have HB := mkHid (HB.out.below hb)
              have HJ := mkHid (HJ.out.below hb)
              have HC := mkHid (HC.out.below hb)
              have BB := mkHid (below_step BB.out hb)
              clear hb
              rw [HHJ.out]
              go_wp2_with fail
              go_meet
              case rel => exact ⟨rfl, BB.out⟩
          case rest =>
            obtain ⟨rfl, hW⟩ := hcut
            have BE := mkHid (below_step BE.out hW)
            have HA := mkHid (HA.out.below hW)
            have HB := mkHid (HB.out.below hW)
            have HC := mkHid (HC.out.below hW)
            have HJ := mkHid (HJ.out.below hW)
            clear hW
            obtain ⟨hj0, hj1, hj2, hj3, hj4, hj5⟩ := HJ.out
            go_wp2_with fail
            refine (iVtext_b j1 j2 j3 _ (HE.out.below BE.out)).mono ?_
            rintro e wB ⟨rfl, hb⟩
            clear hj0 hj1 hj2 hj3 hj4 hj5
            have BE := mkHid (below_step BE.out hb)
            have HA := mkHid (HA.out.below hb)
            have HB := mkHid (HB.out.below hb)
            have HC := mkHid (HC.out.below hb)
            have HJ := mkHid (HJ.out.below hb)
            clear hb
            go_wp2_with fail
            refine (iVread_b j1 j2 j3 HJO.out _ (HE.out.below BE.out)).mono ?_
            rintro e wC ⟨rfl, hb⟩
            have BE := mkHid (below_step BE.out hb)
            have HA := mkHid (HA.out.below hb)
            have HB := mkHid (HB.out.below hb)
            have HC := mkHid (HC.out.below hb)
            have HJ := mkHid (HJ.out.below hb)
            clear hb
            obtain ⟨v6, hv⟩ : ∃ zw : World, (wC.alloc (.cells #[.int .i64 j1, .int .i64 j2, .bool j3] 33)) = zw := ⟨_, rfl⟩
            have hb : Below wC.heap.size wC v6 := by rw [← hv]; exact bl_alloc ((Below.refl wC.heap.size wC)) _
            have HK : Hid (V3 v6 (wC.heap.size) j1 j2 j3) := mkHid (by rw [← hv]; constructor <;> simp [go_sem])
            have BE := mkHid (below_step BE.out hb)
            have HA := mkHid (HA.out.below hb)
            have HB := mkHid (HB.out.below hb)
            have HC := mkHid (HC.out.below hb)
            have HJ := mkHid (HJ.out.below hb)
            obtain ⟨X6, hX6⟩ : ∃ zn : Nat, wC.heap.size = zn := ⟨_, rfl⟩
            rw [hX6] at HK
            have HVV := mkHid hv
            clear hv hb
            go_upto_region 17 with fail
            rw [HVV.out]
            clear HVV hX6
            refine wp_region_inv2 (fun zA0 L zA vC => ∃ (zB : Nat → Bool) (zS : Nat → Value), L = #[zB 0, zB 1, zB 2, zB 3, zB 4, zB 5, zB 6, zB 7, zB 8, zB 9, zB 10, zB 11, zB 12, zB 13, zB 14, zB 15, zB 16, zB 17, zB 18, zB 19, zB 20, zB 21, zB 22, zB 23, zB 24, zB 25] ∧ zA = puts zA0 [(112, zS 112), (113, zS 113), (114, zS 114), (115, zS 115), (116, zS 116), (117, zS 117), (118, zS 118), (119, zS 119), (120, zS 120), (121, zS 121), (122, zS 122), (123, zS 123), (124, zS 124), (125, zS 125), (126, zS 126), (127, zS 127), (128, zS 128), (129, zS 129), (130, zS 130), (131, zS 131), (132, zS 132), (133, zS 133), (134, zS 134), (135, zS 135), (136, zS 136), (4, zS 4)] ∧ ((zB 0 = true → zS 112 = .bool true) ∧ (zB 1 = true → zS 113 = .bool true) ∧ (zB 2 = true → zS 114 = .agg #[.int .i64 j1, .int .i64 j2, .bool j3]) ∧ (zB 3 = true → zS 115 = .agg #[.int .i64 j1, .int .i64 j2, .bool j3]) ∧ (zB 4 = true → zS 116 = .bool true) ∧ (zB 5 = true → zS 117 = .bool true) ∧ (zB 6 = true → zS 118 = .bool true) ∧ (zB 7 = true → zS 119 = .agg #[.int .i64 a, .int .i64 b, .bool s]) ∧ (zB 8 = true → zS 120 = .agg #[.int .i64 j1, .int .i64 j2, .bool j3]) ∧ (zB 9 = true → zS 121 = .bool true) ∧ (zB 10 = true → zS 122 = .bool true) ∧ (zB 11 = true → zS 123 = .bool true) ∧ (zB 12 = true → zS 124 = .agg #[.int .i64 c, .int .i64 d, .bool t]) ∧ (zB 13 = true → zS 125 = .agg #[.int .i64 j1, .int .i64 j2, .bool j3]) ∧ (zB 14 = true → zS 126 = .bool true) ∧ (zB 15 = true → zS 127 = .bool true) ∧ (zB 16 = true → zS 128 = .bool true) ∧ (zB 17 = true → zS 129 = .agg #[.int .i64 a, .int .i64 b, .bool s]) ∧ (zB 18 = true → zS 130 = .agg #[.int .i64 c, .int .i64 d, .bool t]) ∧ (zB 19 = true → zS 131 = .bool zz) ∧ (zB 20 = true → zS 132 = .agg #[.int .i64 j1, .int .i64 j2, .bool j3]) ∧ (zB 21 = true → zS 133 = .agg #[.int .i64 c, .int .i64 d, .bool t]) ∧ (zB 22 = true → zS 134 = .bool zz) ∧ (zB 23 = true → zS 135 = .bool true) ∧ (zB 24 = true → zS 136 = .bool true) ∧ (zB 25 = true → zS 4 = .bool true)) ∧ Below v6.heap.size v6 vC) (by kernel_rfl) ?_ ?_ ?_
            · exact ⟨fun _ => false, fun zd => if zd = 4 then .bool false else undef, rfl, by kernel_rfl, ⟨fun e => ft e, fun e => ft e, fun e => ft e, fun e => ft e, fun e => ft e, fun e => ft e, fun e => ft e, fun e => ft e, fun e => ft e, fun e => ft e, fun e => ft e, fun e => ft e, fun e => ft e, fun e => ft e, fun e => ft e, fun e => ft e, fun e => ft e, fun e => ft e, fun e => ft e, fun e => ft e, fun e => ft e, fun e => ft e, fun e => ft e, fun e => ft e, fun e => ft e, fun e => ft e⟩, (Below.refl _ _).drew⟩
            · refine StepsI.cons rfl ?_ ?_
              · rintro L zA vC ⟨zB, zS, rfl, rfl, hF, hW⟩ hL hm K hK
                have hb0 : zB 0 = false := by simpa using hL
                clear hL hm
                simp only [puts, Act.put, List.setIfInBounds_toArray, List.set_cons_zero, List.set_cons_succ]
                go_simp
                exact hK.out _ _ ⟨fun zj => if zj = 0 then true else zB zj, fun zd => if zd = 112 then .bool true else zS zd, rfl, by kernel_rfl, ⟨fun _ => rfl, hF.2.1, hF.2.2.1, hF.2.2.2.1, hF.2.2.2.2.1, hF.2.2.2.2.2.1, hF.2.2.2.2.2.2.1, hF.2.2.2.2.2.2.2.1, hF.2.2.2.2.2.2.2.2.1, hF.2.2.2.2.2.2.2.2.2.1, hF.2.2.2.2.2.2.2.2.2.2.1, hF.2.2.2.2.2.2.2.2.2.2.2.1, hF.2.2.2.2.2.2.2.2.2.2.2.2.1, hF.2.2.2.2.2.2.2.2.2.2.2.2.2.1, hF.2.2.2.2.2.2.2.2.2.2.2.2.2.2.1, hF.2.2.2.2.2.2.2.2.2.2.2.2.2.2.2.1, hF.2.2.2.2.2.2.2.2.2.2.2.2.2.2.2.2.1, hF.2.2.2.2.2.2.2.2.2.2.2.2.2.2.2.2.2.1, hF.2.2.2.2.2.2.2.2.2.2.2.2.2.2.2.2.2.2.1, hF.2.2.2.2.2.2.2.2.2.2.2.2.2.2.2.2.2.2.2.1, hF.2.2.2.2.2.2.2.2.2.2.2.2.2.2.2.2.2.2.2.2.1, hF.2.2.2.2.2.2.2.2.2.2.2.2.2.2.2.2.2.2.2.2.2.1, hF.2.2.2.2.2.2.2.2.2.2.2.2.2.2.2.2.2.2.2.2.2.2.1, hF.2.2.2.2.2.2.2.2.2.2.2.2.2.2.2.2.2.2.2.2.2.2.2.1, hF.2.2.2.2.2.2.2.2.2.2.2.2.2.2.2.2.2.2.2.2.2.2.2.2.1, hF.2.2.2.2.2.2.2.2.2.2.2.2.2.2.2.2.2.2.2.2.2.2.2.2.2⟩, hW⟩
              refine StepsI.cons rfl ?_ ?_
              · rintro L zA vC ⟨zB, zS, rfl, rfl, hF, hW⟩ hL hm K hK
                have hb1 : zB 1 = false := by simpa using hL
                have hb0 : zB 0 = true := by cases e : zB 0 with | false => (exfalso; revert hm; simp [metB, Region.binds, e]) | true => rfl
                have e0 : zS 112 = .bool true := hF.1 hb0
                clear hL hm
                simp only [puts, Act.put, List.setIfInBounds_toArray, List.set_cons_zero, List.set_cons_succ]
                simp only [e0]
                go_simp
                exact hK.out _ _ ⟨fun zj => if zj = 0 then true else if zj = 1 then true else zB zj, fun zd => if zd = 113 then .bool true else if zd = 112 then .bool true else zS zd, by simp [hb0], by kernel_rfl, ⟨fun _ => rfl, fun _ => rfl, hF.2.2.1, hF.2.2.2.1, hF.2.2.2.2.1, hF.2.2.2.2.2.1, hF.2.2.2.2.2.2.1, hF.2.2.2.2.2.2.2.1, hF.2.2.2.2.2.2.2.2.1, hF.2.2.2.2.2.2.2.2.2.1, hF.2.2.2.2.2.2.2.2.2.2.1, hF.2.2.2.2.2.2.2.2.2.2.2.1, hF.2.2.2.2.2.2.2.2.2.2.2.2.1, hF.2.2.2.2.2.2.2.2.2.2.2.2.2.1, hF.2.2.2.2.2.2.2.2.2.2.2.2.2.2.1, hF.2.2.2.2.2.2.2.2.2.2.2.2.2.2.2.1, hF.2.2.2.2.2.2.2.2.2.2.2.2.2.2.2.2.1, hF.2.2.2.2.2.2.2.2.2.2.2.2.2.2.2.2.2.1, hF.2.2.2.2.2.2.2.2.2.2.2.2.2.2.2.2.2.2.1, hF.2.2.2.2.2.2.2.2.2.2.2.2.2.2.2.2.2.2.2.1, hF.2.2.2.2.2.2.2.2.2.2.2.2.2.2.2.2.2.2.2.2.1, hF.2.2.2.2.2.2.2.2.2.2.2.2.2.2.2.2.2.2.2.2.2.1, hF.2.2.2.2.2.2.2.2.2.2.2.2.2.2.2.2.2.2.2.2.2.2.1, hF.2.2.2.2.2.2.2.2.2.2.2.2.2.2.2.2.2.2.2.2.2.2.2.1, hF.2.2.2.2.2.2.2.2.2.2.2.2.2.2.2.2.2.2.2.2.2.2.2.2.1, hF.2.2.2.2.2.2.2.2.2.2.2.2.2.2.2.2.2.2.2.2.2.2.2.2.2⟩, hW⟩
              refine StepsI.cons rfl ?_ ?_
              · rintro L zA vC ⟨zB, zS, rfl, rfl, hF, hW⟩ hL hm K hK
                have hb2 : zB 2 = false := by simpa using hL
                have hb1 : zB 1 = true := by cases e : zB 1 with | false => (exfalso; revert hm; simp [metB, Region.binds, e]) | true => rfl
                have e1 : zS 113 = .bool true := hF.2.1 hb1
                clear hL hm
                simp only [puts, Act.put, List.setIfInBounds_toArray, List.set_cons_zero, List.set_cons_succ]
                simp only [e1]
                obtain ⟨q0, q1, q2, _, _, _⟩ := HK.out.below hW
                go_simp
                exact hK.out _ _ ⟨fun zj => if zj = 1 then true else if zj = 2 then true else zB zj, fun zd => if zd = 114 then .agg #[.int .i64 j1, .int .i64 j2, .bool j3] else if zd = 113 then .bool true else zS zd, by simp [hb1], by kernel_rfl, ⟨hF.1, fun _ => rfl, fun _ => rfl, hF.2.2.2.1, hF.2.2.2.2.1, hF.2.2.2.2.2.1, hF.2.2.2.2.2.2.1, hF.2.2.2.2.2.2.2.1, hF.2.2.2.2.2.2.2.2.1, hF.2.2.2.2.2.2.2.2.2.1, hF.2.2.2.2.2.2.2.2.2.2.1, hF.2.2.2.2.2.2.2.2.2.2.2.1, hF.2.2.2.2.2.2.2.2.2.2.2.2.1, hF.2.2.2.2.2.2.2.2.2.2.2.2.2.1, hF.2.2.2.2.2.2.2.2.2.2.2.2.2.2.1, hF.2.2.2.2.2.2.2.2.2.2.2.2.2.2.2.1, hF.2.2.2.2.2.2.2.2.2.2.2.2.2.2.2.2.1, hF.2.2.2.2.2.2.2.2.2.2.2.2.2.2.2.2.2.1, hF.2.2.2.2.2.2.2.2.2.2.2.2.2.2.2.2.2.2.1, hF.2.2.2.2.2.2.2.2.2.2.2.2.2.2.2.2.2.2.2.1, hF.2.2.2.2.2.2.2.2.2.2.2.2.2.2.2.2.2.2.2.2.1, hF.2.2.2.2.2.2.2.2.2.2.2.2.2.2.2.2.2.2.2.2.2.1, hF.2.2.2.2.2.2.2.2.2.2.2.2.2.2.2.2.2.2.2.2.2.2.1, hF.2.2.2.2.2.2.2.2.2.2.2.2.2.2.2.2.2.2.2.2.2.2.2.1, hF.2.2.2.2.2.2.2.2.2.2.2.2.2.2.2.2.2.2.2.2.2.2.2.2.1, hF.2.2.2.2.2.2.2.2.2.2.2.2.2.2.2.2.2.2.2.2.2.2.2.2.2⟩, hW⟩
              refine StepsI.cons rfl ?_ ?_
              · rintro L zA vC ⟨zB, zS, rfl, rfl, hF, hW⟩ hL hm K hK
                have hb3 : zB 3 = false := by simpa using hL
                have hb1 : zB 1 = true := by cases e : zB 1 with | false => (exfalso; revert hm; simp [metB, Region.binds, e]) | true => rfl
                have e1 : zS 113 = .bool true := hF.2.1 hb1
                clear hL hm
                simp only [puts, Act.put, List.setIfInBounds_toArray, List.set_cons_zero, List.set_cons_succ]
                simp only [e1]
                obtain ⟨q0, q1, q2, _, _, _⟩ := HJ.out.below hW
                go_simp
                exact hK.out _ _ ⟨fun zj => if zj = 1 then true else if zj = 3 then true else zB zj, fun zd => if zd = 115 then .agg #[.int .i64 j1, .int .i64 j2, .bool j3] else if zd = 113 then .bool true else zS zd, by simp [hb1], by kernel_rfl, ⟨hF.1, fun _ => rfl, hF.2.2.1, fun _ => rfl, hF.2.2.2.2.1, hF.2.2.2.2.2.1, hF.2.2.2.2.2.2.1, hF.2.2.2.2.2.2.2.1, hF.2.2.2.2.2.2.2.2.1, hF.2.2.2.2.2.2.2.2.2.1, hF.2.2.2.2.2.2.2.2.2.2.1, hF.2.2.2.2.2.2.2.2.2.2.2.1, hF.2.2.2.2.2.2.2.2.2.2.2.2.1, hF.2.2.2.2.2.2.2.2.2.2.2.2.2.1, hF.2.2.2.2.2.2.2.2.2.2.2.2.2.2.1, hF.2.2.2.2.2.2.2.2.2.2.2.2.2.2.2.1, hF.2.2.2.2.2.2.2.2.2.2.2.2.2.2.2.2.1, hF.2.2.2.2.2.2.2.2.2.2.2.2.2.2.2.2.2.1, hF.2.2.2.2.2.2.2.2.2.2.2.2.2.2.2.2.2.2.1, hF.2.2.2.2.2.2.2.2.2.2.2.2.2.2.2.2.2.2.2.1, hF.2.2.2.2.2.2.2.2.2.2.2.2.2.2.2.2.2.2.2.2.1, hF.2.2.2.2.2.2.2.2.2.2.2.2.2.2.2.2.2.2.2.2.2.1, hF.2.2.2.2.2.2.2.2.2.2.2.2.2.2.2.2.2.2.2.2.2.2.1, hF.2.2.2.2.2.2.2.2.2.2.2.2.2.2.2.2.2.2.2.2.2.2.2.1, hF.2.2.2.2.2.2.2.2.2.2.2.2.2.2.2.2.2.2.2.2.2.2.2.2.1, hF.2.2.2.2.2.2.2.2.2.2.2.2.2.2.2.2.2.2.2.2.2.2.2.2.2⟩, hW⟩
              refine StepsI.cons rfl ?_ ?_
              · rintro L zA vC ⟨zB, zS, rfl, rfl, hF, hW⟩ hL hm K hK
                have hb4 : zB 4 = false := by simpa using hL
                have hb1 : zB 1 = true := by cases e : zB 1 with | false => (exfalso; revert hm; simp [metB, Region.binds, e]) | true => rfl
                have hb2 : zB 2 = true := by cases e : zB 2 with | false => (exfalso; revert hm; simp [metB, Region.binds, e]) | true => rfl
                have hb3 : zB 3 = true := by cases e : zB 3 with | false => (exfalso; revert hm; simp [metB, Region.binds, e]) | true => rfl
                have e1 : zS 113 = .bool true := hF.2.1 hb1
                have e2 : zS 114 = .agg #[.int .i64 j1, .int .i64 j2, .bool j3] := hF.2.2.1 hb2
                have e3 : zS 115 = .agg #[.int .i64 j1, .int .i64 j2, .bool j3] := hF.2.2.2.1 hb3
                clear hL hm
                simp only [puts, Act.put, List.setIfInBounds_toArray, List.set_cons_zero, List.set_cons_succ]
                simp only [e1, e2, e3]
                have hES := eqV_same j1 j2 j3
                go_simp
                exact hK.out _ _ ⟨fun zj => if zj = 3 then true else if zj = 2 then true else if zj = 1 then true else if zj = 4 then true else zB zj, fun zd => if zd = 116 then .bool true else if zd = 115 then .agg #[.int .i64 j1, .int .i64 j2, .bool j3] else if zd = 114 then .agg #[.int .i64 j1, .int .i64 j2, .bool j3] else if zd = 113 then .bool true else zS zd, by simp [hb1, hb2, hb3], by kernel_rfl, ⟨hF.1, fun _ => rfl, fun _ => rfl, fun _ => rfl, fun _ => rfl, hF.2.2.2.2.2.1, hF.2.2.2.2.2.2.1, hF.2.2.2.2.2.2.2.1, hF.2.2.2.2.2.2.2.2.1, hF.2.2.2.2.2.2.2.2.2.1, hF.2.2.2.2.2.2.2.2.2.2.1, hF.2.2.2.2.2.2.2.2.2.2.2.1, hF.2.2.2.2.2.2.2.2.2.2.2.2.1, hF.2.2.2.2.2.2.2.2.2.2.2.2.2.1, hF.2.2.2.2.2.2.2.2.2.2.2.2.2.2.1, hF.2.2.2.2.2.2.2.2.2.2.2.2.2.2.2.1, hF.2.2.2.2.2.2.2.2.2.2.2.2.2.2.2.2.1, hF.2.2.2.2.2.2.2.2.2.2.2.2.2.2.2.2.2.1, hF.2.2.2.2.2.2.2.2.2.2.2.2.2.2.2.2.2.2.1, hF.2.2.2.2.2.2.2.2.2.2.2.2.2.2.2.2.2.2.2.1, hF.2.2.2.2.2.2.2.2.2.2.2.2.2.2.2.2.2.2.2.2.1, hF.2.2.2.2.2.2.2.2.2.2.2.2.2.2.2.2.2.2.2.2.2.1, hF.2.2.2.2.2.2.2.2.2.2.2.2.2.2.2.2.2.2.2.2.2.2.1, hF.2.2.2.2.2.2.2.2.2.2.2.2.2.2.2.2.2.2.2.2.2.2.2.1, hF.2.2.2.2.2.2.2.2.2.2.2.2.2.2.2.2.2.2.2.2.2.2.2.2.1, hF.2.2.2.2.2.2.2.2.2.2.2.2.2.2.2.2.2.2.2.2.2.2.2.2.2⟩, hW⟩
              refine StepsI.cons rfl ?_ ?_
              · rintro L zA vC ⟨zB, zS, rfl, rfl, hF, hW⟩ hL hm K hK
                have hb5 : zB 5 = false := by simpa using hL
                have hb1 : zB 1 = true := by cases e : zB 1 with | false => (exfalso; revert hm; simp [metB, Region.binds, e]) | true => rfl
                have hb4 : zB 4 = true := by cases e : zB 4 with | false => (exfalso; revert hm; simp [metB, Region.binds, e]) | true => rfl
                have e1 : zS 113 = .bool true := hF.2.1 hb1
                have e4 : zS 116 = .bool true := hF.2.2.2.2.1 hb4
                clear hL hm
                simp only [puts, Act.put, List.setIfInBounds_toArray, List.set_cons_zero, List.set_cons_succ]
                simp only [e1, e4]
                go_simp
                exact hK.out _ _ ⟨fun zj => if zj = 4 then true else if zj = 1 then true else if zj = 5 then true else zB zj, fun zd => if zd = 117 then .bool true else if zd = 116 then .bool true else if zd = 113 then .bool true else zS zd, by simp [hb1, hb4], by kernel_rfl, ⟨hF.1, fun _ => rfl, hF.2.2.1, hF.2.2.2.1, fun _ => rfl, fun _ => rfl, hF.2.2.2.2.2.2.1, hF.2.2.2.2.2.2.2.1, hF.2.2.2.2.2.2.2.2.1, hF.2.2.2.2.2.2.2.2.2.1, hF.2.2.2.2.2.2.2.2.2.2.1, hF.2.2.2.2.2.2.2.2.2.2.2.1, hF.2.2.2.2.2.2.2.2.2.2.2.2.1, hF.2.2.2.2.2.2.2.2.2.2.2.2.2.1, hF.2.2.2.2.2.2.2.2.2.2.2.2.2.2.1, hF.2.2.2.2.2.2.2.2.2.2.2.2.2.2.2.1, hF.2.2.2.2.2.2.2.2.2.2.2.2.2.2.2.2.1, hF.2.2.2.2.2.2.2.2.2.2.2.2.2.2.2.2.2.1, hF.2.2.2.2.2.2.2.2.2.2.2.2.2.2.2.2.2.2.1, hF.2.2.2.2.2.2.2.2.2.2.2.2.2.2.2.2.2.2.2.1, hF.2.2.2.2.2.2.2.2.2.2.2.2.2.2.2.2.2.2.2.2.1, hF.2.2.2.2.2.2.2.2.2.2.2.2.2.2.2.2.2.2.2.2.2.1, hF.2.2.2.2.2.2.2.2.2.2.2.2.2.2.2.2.2.2.2.2.2.2.1, hF.2.2.2.2.2.2.2.2.2.2.2.2.2.2.2.2.2.2.2.2.2.2.2.1, hF.2.2.2.2.2.2.2.2.2.2.2.2.2.2.2.2.2.2.2.2.2.2.2.2.1, hF.2.2.2.2.2.2.2.2.2.2.2.2.2.2.2.2.2.2.2.2.2.2.2.2.2⟩, hW⟩
              refine StepsI.cons rfl ?_ ?_
              · rintro L zA vC ⟨zB, zS, rfl, rfl, hF, hW⟩ hL hm K hK
                have hb6 : zB 6 = false := by simpa using hL
                have hb5 : zB 5 = true := by cases e : zB 5 with | false => (exfalso; revert hm; simp [metB, Region.binds, e]) | true => rfl
                have e5 : zS 117 = .bool true := hF.2.2.2.2.2.1 hb5
                clear hL hm
                simp only [puts, Act.put, List.setIfInBounds_toArray, List.set_cons_zero, List.set_cons_succ]
                simp only [e5]
                go_simp
                exact hK.out _ _ ⟨fun zj => if zj = 5 then true else if zj = 6 then true else zB zj, fun zd => if zd = 118 then .bool true else if zd = 117 then .bool true else zS zd, by simp [hb5], by kernel_rfl, ⟨hF.1, hF.2.1, hF.2.2.1, hF.2.2.2.1, hF.2.2.2.2.1, fun _ => rfl, fun _ => rfl, hF.2.2.2.2.2.2.2.1, hF.2.2.2.2.2.2.2.2.1, hF.2.2.2.2.2.2.2.2.2.1, hF.2.2.2.2.2.2.2.2.2.2.1, hF.2.2.2.2.2.2.2.2.2.2.2.1, hF.2.2.2.2.2.2.2.2.2.2.2.2.1, hF.2.2.2.2.2.2.2.2.2.2.2.2.2.1, hF.2.2.2.2.2.2.2.2.2.2.2.2.2.2.1, hF.2.2.2.2.2.2.2.2.2.2.2.2.2.2.2.1, hF.2.2.2.2.2.2.2.2.2.2.2.2.2.2.2.2.1, hF.2.2.2.2.2.2.2.2.2.2.2.2.2.2.2.2.2.1, hF.2.2.2.2.2.2.2.2.2.2.2.2.2.2.2.2.2.2.1, hF.2.2.2.2.2.2.2.2.2.2.2.2.2.2.2.2.2.2.2.1, hF.2.2.2.2.2.2.2.2.2.2.2.2.2.2.2.2.2.2.2.2.1, hF.2.2.2.2.2.2.2.2.2.2.2.2.2.2.2.2.2.2.2.2.2.1, hF.2.2.2.2.2.2.2.2.2.2.2.2.2.2.2.2.2.2.2.2.2.2.1, hF.2.2.2.2.2.2.2.2.2.2.2.2.2.2.2.2.2.2.2.2.2.2.2.1, hF.2.2.2.2.2.2.2.2.2.2.2.2.2.2.2.2.2.2.2.2.2.2.2.2.1, hF.2.2.2.2.2.2.2.2.2.2.2.2.2.2.2.2.2.2.2.2.2.2.2.2.2⟩, hW⟩
              refine StepsI.cons rfl ?_ ?_
              · rintro L zA vC ⟨zB, zS, rfl, rfl, hF, hW⟩ hL hm K hK
                have hb7 : zB 7 = false := by simpa using hL
                have hb6 : zB 6 = true := by cases e : zB 6 with | false => (exfalso; revert hm; simp [metB, Region.binds, e]) | true => rfl
                have e6 : zS 118 = .bool true := hF.2.2.2.2.2.2.1 hb6
                clear hL hm
                simp only [puts, Act.put, List.setIfInBounds_toArray, List.set_cons_zero, List.set_cons_succ]
                simp only [e6]
                obtain ⟨q0, q1, q2, _, _, _⟩ := HA.out.below hW
                go_simp
                exact hK.out _ _ ⟨fun zj => if zj = 6 then true else if zj = 7 then true else zB zj, fun zd => if zd = 119 then .agg #[.int .i64 a, .int .i64 b, .bool s] else if zd = 118 then .bool true else zS zd, by simp [hb6], by kernel_rfl, ⟨hF.1, hF.2.1, hF.2.2.1, hF.2.2.2.1, hF.2.2.2.2.1, hF.2.2.2.2.2.1, fun _ => rfl, fun _ => rfl, hF.2.2.2.2.2.2.2.2.1, hF.2.2.2.2.2.2.2.2.2.1, hF.2.2.2.2.2.2.2.2.2.2.1, hF.2.2.2.2.2.2.2.2.2.2.2.1, hF.2.2.2.2.2.2.2.2.2.2.2.2.1, hF.2.2.2.2.2.2.2.2.2.2.2.2.2.1, hF.2.2.2.2.2.2.2.2.2.2.2.2.2.2.1, hF.2.2.2.2.2.2.2.2.2.2.2.2.2.2.2.1, hF.2.2.2.2.2.2.2.2.2.2.2.2.2.2.2.2.1, hF.2.2.2.2.2.2.2.2.2.2.2.2.2.2.2.2.2.1, hF.2.2.2.2.2.2.2.2.2.2.2.2.2.2.2.2.2.2.1, hF.2.2.2.2.2.2.2.2.2.2.2.2.2.2.2.2.2.2.2.1, hF.2.2.2.2.2.2.2.2.2.2.2.2.2.2.2.2.2.2.2.2.1, hF.2.2.2.2.2.2.2.2.2.2.2.2.2.2.2.2.2.2.2.2.2.1, hF.2.2.2.2.2.2.2.2.2.2.2.2.2.2.2.2.2.2.2.2.2.2.1, hF.2.2.2.2.2.2.2.2.2.2.2.2.2.2.2.2.2.2.2.2.2.2.2.1, hF.2.2.2.2.2.2.2.2.2.2.2.2.2.2.2.2.2.2.2.2.2.2.2.2.1, hF.2.2.2.2.2.2.2.2.2.2.2.2.2.2.2.2.2.2.2.2.2.2.2.2.2⟩, hW⟩
              refine StepsI.cons rfl ?_ ?_
              · rintro L zA vC ⟨zB, zS, rfl, rfl, hF, hW⟩ hL hm K hK
                have hb8 : zB 8 = false := by simpa using hL
                have hb6 : zB 6 = true := by cases e : zB 6 with | false => (exfalso; revert hm; simp [metB, Region.binds, e]) | true => rfl
                have e6 : zS 118 = .bool true := hF.2.2.2.2.2.2.1 hb6
                clear hL hm
                simp only [puts, Act.put, List.setIfInBounds_toArray, List.set_cons_zero, List.set_cons_succ]
                simp only [e6]
                obtain ⟨q0, q1, q2, _, _, _⟩ := HJ.out.below hW
                go_simp
                exact hK.out _ _ ⟨fun zj => if zj = 6 then true else if zj = 8 then true else zB zj, fun zd => if zd = 120 then .agg #[.int .i64 j1, .int .i64 j2, .bool j3] else if zd = 118 then .bool true else zS zd, by simp [hb6], by kernel_rfl, ⟨hF.1, hF.2.1, hF.2.2.1, hF.2.2.2.1, hF.2.2.2.2.1, hF.2.2.2.2.2.1, fun _ => rfl, hF.2.2.2.2.2.2.2.1, fun _ => rfl, hF.2.2.2.2.2.2.2.2.2.1, hF.2.2.2.2.2.2.2.2.2.2.1, hF.2.2.2.2.2.2.2.2.2.2.2.1, hF.2.2.2.2.2.2.2.2.2.2.2.2.1, hF.2.2.2.2.2.2.2.2.2.2.2.2.2.1, hF.2.2.2.2.2.2.2.2.2.2.2.2.2.2.1, hF.2.2.2.2.2.2.2.2.2.2.2.2.2.2.2.1, hF.2.2.2.2.2.2.2.2.2.2.2.2.2.2.2.2.1, hF.2.2.2.2.2.2.2.2.2.2.2.2.2.2.2.2.2.1, hF.2.2.2.2.2.2.2.2.2.2.2.2.2.2.2.2.2.2.1, hF.2.2.2.2.2.2.2.2.2.2.2.2.2.2.2.2.2.2.2.1, hF.2.2.2.2.2.2.2.2.2.2.2.2.2.2.2.2.2.2.2.2.1, hF.2.2.2.2.2.2.2.2.2.2.2.2.2.2.2.2.2.2.2.2.2.1, hF.2.2.2.2.2.2.2.2.2.2.2.2.2.2.2.2.2.2.2.2.2.2.1, hF.2.2.2.2.2.2.2.2.2.2.2.2.2.2.2.2.2.2.2.2.2.2.2.1, hF.2.2.2.2.2.2.2.2.2.2.2.2.2.2.2.2.2.2.2.2.2.2.2.2.1, hF.2.2.2.2.2.2.2.2.2.2.2.2.2.2.2.2.2.2.2.2.2.2.2.2.2⟩, hW⟩
              refine StepsI.cons rfl ?_ ?_
              · rintro L zA vC ⟨zB, zS, rfl, rfl, hF, hW⟩ hL hm K hK
                have hb9 : zB 9 = false := by simpa using hL
                have hb6 : zB 6 = true := by cases e : zB 6 with | false => (exfalso; revert hm; simp [metB, Region.binds, e]) | true => rfl
                have hb7 : zB 7 = true := by cases e : zB 7 with | false => (exfalso; revert hm; simp [metB, Region.binds, e]) | true => rfl
                have hb8 : zB 8 = true := by cases e : zB 8 with | false => (exfalso; revert hm; simp [metB, Region.binds, e]) | true => rfl
                have e6 : zS 118 = .bool true := hF.2.2.2.2.2.2.1 hb6
                have e7 : zS 119 = .agg #[.int .i64 a, .int .i64 b, .bool s] := hF.2.2.2.2.2.2.2.1 hb7
                have e8 : zS 120 = .agg #[.int .i64 j1, .int .i64 j2, .bool j3] := hF.2.2.2.2.2.2.2.2.1 hb8
                clear hL hm
                simp only [puts, Act.put, List.setIfInBounds_toArray, List.set_cons_zero, List.set_cons_succ]
                simp only [e6, e7, e8]
                go_simp
                refine (iVleq_any a b s j1 j2 j3 _).mono ?_
                rintro e vC2 ⟨rfl, hb⟩
                rw [HL1.out]
                go_wp2_with fail
                exact hK.out _ _ ⟨fun zj => if zj = 8 then true else if zj = 7 then true else if zj = 6 then true else if zj = 9 then true else zB zj, fun zd => if zd = 121 then .bool true else if zd = 120 then .agg #[.int .i64 j1, .int .i64 j2, .bool j3] else if zd = 119 then .agg #[.int .i64 a, .int .i64 b, .bool s] else if zd = 118 then .bool true else zS zd, by simp [hb6, hb7, hb8], by kernel_rfl, ⟨hF.1, hF.2.1, hF.2.2.1, hF.2.2.2.1, hF.2.2.2.2.1, hF.2.2.2.2.2.1, fun _ => rfl, fun _ => rfl, fun _ => rfl, fun _ => rfl, hF.2.2.2.2.2.2.2.2.2.2.1, hF.2.2.2.2.2.2.2.2.2.2.2.1, hF.2.2.2.2.2.2.2.2.2.2.2.2.1, hF.2.2.2.2.2.2.2.2.2.2.2.2.2.1, hF.2.2.2.2.2.2.2.2.2.2.2.2.2.2.1, hF.2.2.2.2.2.2.2.2.2.2.2.2.2.2.2.1, hF.2.2.2.2.2.2.2.2.2.2.2.2.2.2.2.2.1, hF.2.2.2.2.2.2.2.2.2.2.2.2.2.2.2.2.2.1, hF.2.2.2.2.2.2.2.2.2.2.2.2.2.2.2.2.2.2.1, hF.2.2.2.2.2.2.2.2.2.2.2.2.2.2.2.2.2.2.2.1, hF.2.2.2.2.2.2.2.2.2.2.2.2.2.2.2.2.2.2.2.2.1, hF.2.2.2.2.2.2.2.2.2.2.2.2.2.2.2.2.2.2.2.2.2.1, hF.2.2.2.2.2.2.2.2.2.2.2.2.2.2.2.2.2.2.2.2.2.2.1, hF.2.2.2.2.2.2.2.2.2.2.2.2.2.2.2.2.2.2.2.2.2.2.2.1, hF.2.2.2.2.2.2.2.2.2.2.2.2.2.2.2.2.2.2.2.2.2.2.2.2.1, hF.2.2.2.2.2.2.2.2.2.2.2.2.2.2.2.2.2.2.2.2.2.2.2.2.2⟩, below_step hW hb⟩
              refine StepsI.cons rfl ?_ ?_
              · rintro L zA vC ⟨zB, zS, rfl, rfl, hF, hW⟩ hL hm K hK
                have hb10 : zB 10 = false := by simpa using hL
                have hb6 : zB 6 = true := by cases e : zB 6 with | false => (exfalso; revert hm; simp [metB, Region.binds, e]) | true => rfl
                have hb9 : zB 9 = true := by cases e : zB 9 with | false => (exfalso; revert hm; simp [metB, Region.binds, e]) | true => rfl
                have e6 : zS 118 = .bool true := hF.2.2.2.2.2.2.1 hb6
                have e9 : zS 121 = .bool true := hF.2.2.2.2.2.2.2.2.2.1 hb9
                clear hL hm
                simp only [puts, Act.put, List.setIfInBounds_toArray, List.set_cons_zero, List.set_cons_succ]
                simp only [e6, e9]
                go_simp
                exact hK.out _ _ ⟨fun zj => if zj = 9 then true else if zj = 6 then true else if zj = 10 then true else zB zj, fun zd => if zd = 122 then .bool true else if zd = 121 then .bool true else if zd = 118 then .bool true else zS zd, by simp [hb6, hb9], by kernel_rfl, ⟨hF.1, hF.2.1, hF.2.2.1, hF.2.2.2.1, hF.2.2.2.2.1, hF.2.2.2.2.2.1, fun _ => rfl, hF.2.2.2.2.2.2.2.1, hF.2.2.2.2.2.2.2.2.1, fun _ => rfl, fun _ => rfl, hF.2.2.2.2.2.2.2.2.2.2.2.1, hF.2.2.2.2.2.2.2.2.2.2.2.2.1, hF.2.2.2.2.2.2.2.2.2.2.2.2.2.1, hF.2.2.2.2.2.2.2.2.2.2.2.2.2.2.1, hF.2.2.2.2.2.2.2.2.2.2.2.2.2.2.2.1, hF.2.2.2.2.2.2.2.2.2.2.2.2.2.2.2.2.1, hF.2.2.2.2.2.2.2.2.2.2.2.2.2.2.2.2.2.1, hF.2.2.2.2.2.2.2.2.2.2.2.2.2.2.2.2.2.2.1, hF.2.2.2.2.2.2.2.2.2.2.2.2.2.2.2.2.2.2.2.1, hF.2.2.2.2.2.2.2.2.2.2.2.2.2.2.2.2.2.2.2.2.1, hF.2.2.2.2.2.2.2.2.2.2.2.2.2.2.2.2.2.2.2.2.2.1, hF.2.2.2.2.2.2.2.2.2.2.2.2.2.2.2.2.2.2.2.2.2.2.1, hF.2.2.2.2.2.2.2.2.2.2.2.2.2.2.2.2.2.2.2.2.2.2.2.1, hF.2.2.2.2.2.2.2.2.2.2.2.2.2.2.2.2.2.2.2.2.2.2.2.2.1, hF.2.2.2.2.2.2.2.2.2.2.2.2.2.2.2.2.2.2.2.2.2.2.2.2.2⟩, hW⟩
              refine StepsI.cons rfl ?_ ?_
              · rintro L zA vC ⟨zB, zS, rfl, rfl, hF, hW⟩ hL hm K hK
                have hb11 : zB 11 = false := by simpa using hL
                have hb10 : zB 10 = true := by cases e : zB 10 with | false => (exfalso; revert hm; simp [metB, Region.binds, e]) | true => rfl
                have e10 : zS 122 = .bool true := hF.2.2.2.2.2.2.2.2.2.2.1 hb10
                clear hL hm
                simp only [puts, Act.put, List.setIfInBounds_toArray, List.set_cons_zero, List.set_cons_succ]
                simp only [e10]
                go_simp
                exact hK.out _ _ ⟨fun zj => if zj = 10 then true else if zj = 11 then true else zB zj, fun zd => if zd = 123 then .bool true else if zd = 122 then .bool true else zS zd, by simp [hb10], by kernel_rfl, ⟨hF.1, hF.2.1, hF.2.2.1, hF.2.2.2.1, hF.2.2.2.2.1, hF.2.2.2.2.2.1, hF.2.2.2.2.2.2.1, hF.2.2.2.2.2.2.2.1, hF.2.2.2.2.2.2.2.2.1, hF.2.2.2.2.2.2.2.2.2.1, fun _ => rfl, fun _ => rfl, hF.2.2.2.2.2.2.2.2.2.2.2.2.1, hF.2.2.2.2.2.2.2.2.2.2.2.2.2.1, hF.2.2.2.2.2.2.2.2.2.2.2.2.2.2.1, hF.2.2.2.2.2.2.2.2.2.2.2.2.2.2.2.1, hF.2.2.2.2.2.2.2.2.2.2.2.2.2.2.2.2.1, hF.2.2.2.2.2.2.2.2.2.2.2.2.2.2.2.2.2.1, hF.2.2.2.2.2.2.2.2.2.2.2.2.2.2.2.2.2.2.1, hF.2.2.2.2.2.2.2.2.2.2.2.2.2.2.2.2.2.2.2.1, hF.2.2.2.2.2.2.2.2.2.2.2.2.2.2.2.2.2.2.2.2.1, hF.2.2.2.2.2.2.2.2.2.2.2.2.2.2.2.2.2.2.2.2.2.1, hF.2.2.2.2.2.2.2.2.2.2.2.2.2.2.2.2.2.2.2.2.2.2.1, hF.2.2.2.2.2.2.2.2.2.2.2.2.2.2.2.2.2.2.2.2.2.2.2.1, hF.2.2.2.2.2.2.2.2.2.2.2.2.2.2.2.2.2.2.2.2.2.2.2.2.1, hF.2.2.2.2.2.2.2.2.2.2.2.2.2.2.2.2.2.2.2.2.2.2.2.2.2⟩, hW⟩
              refine StepsI.cons rfl ?_ ?_
              · rintro L zA vC ⟨zB, zS, rfl, rfl, hF, hW⟩ hL hm K hK
                have hb12 : zB 12 = false := by simpa using hL
                have hb11 : zB 11 = true := by cases e : zB 11 with | false => (exfalso; revert hm; simp [metB, Region.binds, e]) | true => rfl
                have e11 : zS 123 = .bool true := hF.2.2.2.2.2.2.2.2.2.2.2.1 hb11
                clear hL hm
                simp only [puts, Act.put, List.setIfInBounds_toArray, List.set_cons_zero, List.set_cons_succ]
                simp only [e11]
                obtain ⟨q0, q1, q2, _, _, _⟩ := HB.out.below hW
                go_simp
                exact hK.out _ _ ⟨fun zj => if zj = 11 then true else if zj = 12 then true else zB zj, fun zd => if zd = 124 then .agg #[.int .i64 c, .int .i64 d, .bool t] else if zd = 123 then .bool true else zS zd, by simp [hb11], by kernel_rfl, ⟨hF.1, hF.2.1, hF.2.2.1, hF.2.2.2.1, hF.2.2.2.2.1, hF.2.2.2.2.2.1, hF.2.2.2.2.2.2.1, hF.2.2.2.2.2.2.2.1, hF.2.2.2.2.2.2.2.2.1, hF.2.2.2.2.2.2.2.2.2.1, hF.2.2.2.2.2.2.2.2.2.2.1, fun _ => rfl, fun _ => rfl, hF.2.2.2.2.2.2.2.2.2.2.2.2.2.1, hF.2.2.2.2.2.2.2.2.2.2.2.2.2.2.1, hF.2.2.2.2.2.2.2.2.2.2.2.2.2.2.2.1, hF.2.2.2.2.2.2.2.2.2.2.2.2.2.2.2.2.1, hF.2.2.2.2.2.2.2.2.2.2.2.2.2.2.2.2.2.1, hF.2.2.2.2.2.2.2.2.2.2.2.2.2.2.2.2.2.2.1, hF.2.2.2.2.2.2.2.2.2.2.2.2.2.2.2.2.2.2.2.1, hF.2.2.2.2.2.2.2.2.2.2.2.2.2.2.2.2.2.2.2.2.1, hF.2.2.2.2.2.2.2.2.2.2.2.2.2.2.2.2.2.2.2.2.2.1, hF.2.2.2.2.2.2.2.2.2.2.2.2.2.2.2.2.2.2.2.2.2.2.1, hF.2.2.2.2.2.2.2.2.2.2.2.2.2.2.2.2.2.2.2.2.2.2.2.1, hF.2.2.2.2.2.2.2.2.2.2.2.2.2.2.2.2.2.2.2.2.2.2.2.2.1, hF.2.2.2.2.2.2.2.2.2.2.2.2.2.2.2.2.2.2.2.2.2.2.2.2.2⟩, hW⟩
              refine StepsI.cons rfl ?_ ?_
              · rintro L zA vC ⟨zB, zS, rfl, rfl, hF, hW⟩ hL hm K hK
                have hb13 : zB 13 = false := by simpa using hL
                have hb11 : zB 11 = true := by cases e : zB 11 with | false => (exfalso; revert hm; simp [metB, Region.binds, e]) | true => rfl
                have e11 : zS 123 = .bool true := hF.2.2.2.2.2.2.2.2.2.2.2.1 hb11
                clear hL hm
                simp only [puts, Act.put, List.setIfInBounds_toArray, List.set_cons_zero, List.set_cons_succ]
                simp only [e11]
                obtain ⟨q0, q1, q2, _, _, _⟩ := HJ.out.below hW
                go_simp
                exact hK.out _ _ ⟨fun zj => if zj = 11 then true else if zj = 13 then true else zB zj, fun zd => if zd = 125 then .agg #[.int .i64 j1, .int .i64 j2, .bool j3] else if zd = 123 then .bool true else zS zd, by simp [hb11], by kernel_rfl, ⟨hF.1, hF.2.1, hF.2.2.1, hF.2.2.2.1, hF.2.2.2.2.1, hF.2.2.2.2.2.1, hF.2.2.2.2.2.2.1, hF.2.2.2.2.2.2.2.1, hF.2.2.2.2.2.2.2.2.1, hF.2.2.2.2.2.2.2.2.2.1, hF.2.2.2.2.2.2.2.2.2.2.1, fun _ => rfl, hF.2.2.2.2.2.2.2.2.2.2.2.2.1, fun _ => rfl, hF.2.2.2.2.2.2.2.2.2.2.2.2.2.2.1, hF.2.2.2.2.2.2.2.2.2.2.2.2.2.2.2.1, hF.2.2.2.2.2.2.2.2.2.2.2.2.2.2.2.2.1, hF.2.2.2.2.2.2.2.2.2.2.2.2.2.2.2.2.2.1, hF.2.2.2.2.2.2.2.2.2.2.2.2.2.2.2.2.2.2.1, hF.2.2.2.2.2.2.2.2.2.2.2.2.2.2.2.2.2.2.2.1, hF.2.2.2.2.2.2.2.2.2.2.2.2.2.2.2.2.2.2.2.2.1, hF.2.2.2.2.2.2.2.2.2.2.2.2.2.2.2.2.2.2.2.2.2.1, hF.2.2.2.2.2.2.2.2.2.2.2.2.2.2.2.2.2.2.2.2.2.2.1, hF.2.2.2.2.2.2.2.2.2.2.2.2.2.2.2.2.2.2.2.2.2.2.2.1, hF.2.2.2.2.2.2.2.2.2.2.2.2.2.2.2.2.2.2.2.2.2.2.2.2.1, hF.2.2.2.2.2.2.2.2.2.2.2.2.2.2.2.2.2.2.2.2.2.2.2.2.2⟩, hW⟩
              refine StepsI.cons rfl ?_ ?_
              · rintro L zA vC ⟨zB, zS, rfl, rfl, hF, hW⟩ hL hm K hK
                have hb14 : zB 14 = false := by simpa using hL
                have hb11 : zB 11 = true := by cases e : zB 11 with | false => (exfalso; revert hm; simp [metB, Region.binds, e]) | true => rfl
                have hb12 : zB 12 = true := by cases e : zB 12 with | false => (exfalso; revert hm; simp [metB, Region.binds, e]) | true => rfl
                have hb13 : zB 13 = true := by cases e : zB 13 with | false => (exfalso; revert hm; simp [metB, Region.binds, e]) | true => rfl
                have e11 : zS 123 = .bool true := hF.2.2.2.2.2.2.2.2.2.2.2.1 hb11
                have e12 : zS 124 = .agg #[.int .i64 c, .int .i64 d, .bool t] := hF.2.2.2.2.2.2.2.2.2.2.2.2.1 hb12
                have e13 : zS 125 = .agg #[.int .i64 j1, .int .i64 j2, .bool j3] := hF.2.2.2.2.2.2.2.2.2.2.2.2.2.1 hb13
                clear hL hm
                simp only [puts, Act.put, List.setIfInBounds_toArray, List.set_cons_zero, List.set_cons_succ]
                simp only [e11, e12, e13]
                go_simp
                refine (iVleq_any c d t j1 j2 j3 _).mono ?_
                rintro e vC2 ⟨rfl, hb⟩
                rw [HL2.out]
                go_wp2_with fail
                exact hK.out _ _ ⟨fun zj => if zj = 13 then true else if zj = 12 then true else if zj = 11 then true else if zj = 14 then true else zB zj, fun zd => if zd = 126 then .bool true else if zd = 125 then .agg #[.int .i64 j1, .int .i64 j2, .bool j3] else if zd = 124 then .agg #[.int .i64 c, .int .i64 d, .bool t] else if zd = 123 then .bool true else zS zd, by simp [hb11, hb12, hb13], by kernel_rfl, ⟨hF.1, hF.2.1, hF.2.2.1, hF.2.2.2.1, hF.2.2.2.2.1, hF.2.2.2.2.2.1, hF.2.2.2.2.2.2.1, hF.2.2.2.2.2.2.2.1, hF.2.2.2.2.2.2.2.2.1, hF.2.2.2.2.2.2.2.2.2.1, hF.2.2.2.2.2.2.2.2.2.2.1, fun _ => rfl, fun _ => rfl, fun _ => rfl, fun _ => rfl, hF.2.2.2.2.2.2.2.2.2.2.2.2.2.2.2.1, hF.2.2.2.2.2.2.2.2.2.2.2.2.2.2.2.2.1, hF.2.2.2.2.2.2.2.2.2.2.2.2.2.2.2.2.2.1, hF.2.2.2.2.2.2.2.2.2.2.2.2.2.2.2.2.2.2.1, hF.2.2.2.2.2.2.2.2.2.2.2.2.2.2.2.2.2.2.2.1, hF.2.2.2.2.2.2.2.2.2.2.2.2.2.2.2.2.2.2.2.2.1, hF.2.2.2.2.2.2.2.2.2.2.2.2.2.2.2.2.2.2.2.2.2.1, hF.2.2.2.2.2.2.2.2.2.2.2.2.2.2.2.2.2.2.2.2.2.2.1, hF.2.2.2.2.2.2.2.2.2.2.2.2.2.2.2.2.2.2.2.2.2.2.2.1, hF.2.2.2.2.2.2.2.2.2.2.2.2.2.2.2.2.2.2.2.2.2.2.2.2.1, hF.2.2.2.2.2.2.2.2.2.2.2.2.2.2.2.2.2.2.2.2.2.2.2.2.2⟩, below_step hW hb⟩
              refine StepsI.cons rfl ?_ ?_
              · rintro L zA vC ⟨zB, zS, rfl, rfl, hF, hW⟩ hL hm K hK
                have hb15 : zB 15 = false := by simpa using hL
                have hb11 : zB 11 = true := by cases e : zB 11 with | false => (exfalso; revert hm; simp [metB, Region.binds, e]) | true => rfl
                have hb14 : zB 14 = true := by cases e : zB 14 with | false => (exfalso; revert hm; simp [metB, Region.binds, e]) | true => rfl
                have e11 : zS 123 = .bool true := hF.2.2.2.2.2.2.2.2.2.2.2.1 hb11
                have e14 : zS 126 = .bool true := hF.2.2.2.2.2.2.2.2.2.2.2.2.2.2.1 hb14
                clear hL hm
                simp only [puts, Act.put, List.setIfInBounds_toArray, List.set_cons_zero, List.set_cons_succ]
                simp only [e11, e14]
                go_simp
                exact hK.out _ _ ⟨fun zj => if zj = 14 then true else if zj = 11 then true else if zj = 15 then true else zB zj, fun zd => if zd = 127 then .bool true else if zd = 126 then .bool true else if zd = 123 then .bool true else zS zd, by simp [hb11, hb14], by kernel_rfl, ⟨hF.1, hF.2.1, hF.2.2.1, hF.2.2.2.1, hF.2.2.2.2.1, hF.2.2.2.2.2.1, hF.2.2.2.2.2.2.1, hF.2.2.2.2.2.2.2.1, hF.2.2.2.2.2.2.2.2.1, hF.2.2.2.2.2.2.2.2.2.1, hF.2.2.2.2.2.2.2.2.2.2.1, fun _ => rfl, hF.2.2.2.2.2.2.2.2.2.2.2.2.1, hF.2.2.2.2.2.2.2.2.2.2.2.2.2.1, fun _ => rfl, fun _ => rfl, hF.2.2.2.2.2.2.2.2.2.2.2.2.2.2.2.2.1, hF.2.2.2.2.2.2.2.2.2.2.2.2.2.2.2.2.2.1, hF.2.2.2.2.2.2.2.2.2.2.2.2.2.2.2.2.2.2.1, hF.2.2.2.2.2.2.2.2.2.2.2.2.2.2.2.2.2.2.2.1, hF.2.2.2.2.2.2.2.2.2.2.2.2.2.2.2.2.2.2.2.2.1, hF.2.2.2.2.2.2.2.2.2.2.2.2.2.2.2.2.2.2.2.2.2.1, hF.2.2.2.2.2.2.2.2.2.2.2.2.2.2.2.2.2.2.2.2.2.2.1, hF.2.2.2.2.2.2.2.2.2.2.2.2.2.2.2.2.2.2.2.2.2.2.2.1, hF.2.2.2.2.2.2.2.2.2.2.2.2.2.2.2.2.2.2.2.2.2.2.2.2.1, hF.2.2.2.2.2.2.2.2.2.2.2.2.2.2.2.2.2.2.2.2.2.2.2.2.2⟩, hW⟩
              refine StepsI.cons rfl ?_ ?_
              · rintro L zA vC ⟨zB, zS, rfl, rfl, hF, hW⟩ hL hm K hK
                have hb16 : zB 16 = false := by simpa using hL
                have hb15 : zB 15 = true := by cases e : zB 15 with | false => (exfalso; revert hm; simp [metB, Region.binds, e]) | true => rfl
                have e15 : zS 127 = .bool true := hF.2.2.2.2.2.2.2.2.2.2.2.2.2.2.2.1 hb15
                clear hL hm
                simp only [puts, Act.put, List.setIfInBounds_toArray, List.set_cons_zero, List.set_cons_succ]
                simp only [e15]
                go_simp
                exact hK.out _ _ ⟨fun zj => if zj = 15 then true else if zj = 16 then true else zB zj, fun zd => if zd = 128 then .bool true else if zd = 127 then .bool true else zS zd, by simp [hb15], by kernel_rfl, ⟨hF.1, hF.2.1, hF.2.2.1, hF.2.2.2.1, hF.2.2.2.2.1, hF.2.2.2.2.2.1, hF.2.2.2.2.2.2.1, hF.2.2.2.2.2.2.2.1, hF.2.2.2.2.2.2.2.2.1, hF.2.2.2.2.2.2.2.2.2.1, hF.2.2.2.2.2.2.2.2.2.2.1, hF.2.2.2.2.2.2.2.2.2.2.2.1, hF.2.2.2.2.2.2.2.2.2.2.2.2.1, hF.2.2.2.2.2.2.2.2.2.2.2.2.2.1, hF.2.2.2.2.2.2.2.2.2.2.2.2.2.2.1, fun _ => rfl, fun _ => rfl, hF.2.2.2.2.2.2.2.2.2.2.2.2.2.2.2.2.2.1, hF.2.2.2.2.2.2.2.2.2.2.2.2.2.2.2.2.2.2.1, hF.2.2.2.2.2.2.2.2.2.2.2.2.2.2.2.2.2.2.2.1, hF.2.2.2.2.2.2.2.2.2.2.2.2.2.2.2.2.2.2.2.2.1, hF.2.2.2.2.2.2.2.2.2.2.2.2.2.2.2.2.2.2.2.2.2.1, hF.2.2.2.2.2.2.2.2.2.2.2.2.2.2.2.2.2.2.2.2.2.2.1, hF.2.2.2.2.2.2.2.2.2.2.2.2.2.2.2.2.2.2.2.2.2.2.2.1, hF.2.2.2.2.2.2.2.2.2.2.2.2.2.2.2.2.2.2.2.2.2.2.2.2.1, hF.2.2.2.2.2.2.2.2.2.2.2.2.2.2.2.2.2.2.2.2.2.2.2.2.2⟩, hW⟩
              refine StepsI.cons rfl ?_ ?_
              · rintro L zA vC ⟨zB, zS, rfl, rfl, hF, hW⟩ hL hm K hK
                have hb17 : zB 17 = false := by simpa using hL
                have hb16 : zB 16 = true := by cases e : zB 16 with | false => (exfalso; revert hm; simp [metB, Region.binds, e]) | true => rfl
                have e16 : zS 128 = .bool true := hF.2.2.2.2.2.2.2.2.2.2.2.2.2.2.2.2.1 hb16
                clear hL hm
                simp only [puts, Act.put, List.setIfInBounds_toArray, List.set_cons_zero, List.set_cons_succ]
                simp only [e16]
                obtain ⟨q0, q1, q2, _, _, _⟩ := HA.out.below hW
                go_simp
                exact hK.out _ _ ⟨fun zj => if zj = 16 then true else if zj = 17 then true else zB zj, fun zd => if zd = 129 then .agg #[.int .i64 a, .int .i64 b, .bool s] else if zd = 128 then .bool true else zS zd, by simp [hb16], by kernel_rfl, ⟨hF.1, hF.2.1, hF.2.2.1, hF.2.2.2.1, hF.2.2.2.2.1, hF.2.2.2.2.2.1, hF.2.2.2.2.2.2.1, hF.2.2.2.2.2.2.2.1, hF.2.2.2.2.2.2.2.2.1, hF.2.2.2.2.2.2.2.2.2.1, hF.2.2.2.2.2.2.2.2.2.2.1, hF.2.2.2.2.2.2.2.2.2.2.2.1, hF.2.2.2.2.2.2.2.2.2.2.2.2.1, hF.2.2.2.2.2.2.2.2.2.2.2.2.2.1, hF.2.2.2.2.2.2.2.2.2.2.2.2.2.2.1, hF.2.2.2.2.2.2.2.2.2.2.2.2.2.2.2.1, fun _ => rfl, fun _ => rfl, hF.2.2.2.2.2.2.2.2.2.2.2.2.2.2.2.2.2.2.1, hF.2.2.2.2.2.2.2.2.2.2.2.2.2.2.2.2.2.2.2.1, hF.2.2.2.2.2.2.2.2.2.2.2.2.2.2.2.2.2.2.2.2.1, hF.2.2.2.2.2.2.2.2.2.2.2.2.2.2.2.2.2.2.2.2.2.1, hF.2.2.2.2.2.2.2.2.2.2.2.2.2.2.2.2.2.2.2.2.2.2.1, hF.2.2.2.2.2.2.2.2.2.2.2.2.2.2.2.2.2.2.2.2.2.2.2.1, hF.2.2.2.2.2.2.2.2.2.2.2.2.2.2.2.2.2.2.2.2.2.2.2.2.1, hF.2.2.2.2.2.2.2.2.2.2.2.2.2.2.2.2.2.2.2.2.2.2.2.2.2⟩, hW⟩
              refine StepsI.cons rfl ?_ ?_
              · rintro L zA vC ⟨zB, zS, rfl, rfl, hF, hW⟩ hL hm K hK
                have hb18 : zB 18 = false := by simpa using hL
                have hb16 : zB 16 = true := by cases e : zB 16 with | false => (exfalso; revert hm; simp [metB, Region.binds, e]) | true => rfl
                have e16 : zS 128 = .bool true := hF.2.2.2.2.2.2.2.2.2.2.2.2.2.2.2.2.1 hb16
                clear hL hm
                simp only [puts, Act.put, List.setIfInBounds_toArray, List.set_cons_zero, List.set_cons_succ]
                simp only [e16]
                obtain ⟨q0, q1, q2, _, _, _⟩ := HB.out.below hW
                go_simp
                exact hK.out _ _ ⟨fun zj => if zj = 16 then true else if zj = 18 then true else zB zj, fun zd => if zd = 130 then .agg #[.int .i64 c, .int .i64 d, .bool t] else if zd = 128 then .bool true else zS zd, by simp [hb16], by kernel_rfl, ⟨hF.1, hF.2.1, hF.2.2.1, hF.2.2.2.1, hF.2.2.2.2.1, hF.2.2.2.2.2.1, hF.2.2.2.2.2.2.1, hF.2.2.2.2.2.2.2.1, hF.2.2.2.2.2.2.2.2.1, hF.2.2.2.2.2.2.2.2.2.1, hF.2.2.2.2.2.2.2.2.2.2.1, hF.2.2.2.2.2.2.2.2.2.2.2.1, hF.2.2.2.2.2.2.2.2.2.2.2.2.1, hF.2.2.2.2.2.2.2.2.2.2.2.2.2.1, hF.2.2.2.2.2.2.2.2.2.2.2.2.2.2.1, hF.2.2.2.2.2.2.2.2.2.2.2.2.2.2.2.1, fun _ => rfl, hF.2.2.2.2.2.2.2.2.2.2.2.2.2.2.2.2.2.1, fun _ => rfl, hF.2.2.2.2.2.2.2.2.2.2.2.2.2.2.2.2.2.2.2.1, hF.2.2.2.2.2.2.2.2.2.2.2.2.2.2.2.2.2.2.2.2.1, hF.2.2.2.2.2.2.2.2.2.2.2.2.2.2.2.2.2.2.2.2.2.1, hF.2.2.2.2.2.2.2.2.2.2.2.2.2.2.2.2.2.2.2.2.2.2.1, hF.2.2.2.2.2.2.2.2.2.2.2.2.2.2.2.2.2.2.2.2.2.2.2.1, hF.2.2.2.2.2.2.2.2.2.2.2.2.2.2.2.2.2.2.2.2.2.2.2.2.1, hF.2.2.2.2.2.2.2.2.2.2.2.2.2.2.2.2.2.2.2.2.2.2.2.2.2⟩, hW⟩
              refine StepsI.cons rfl ?_ ?_
              · rintro L zA vC ⟨zB, zS, rfl, rfl, hF, hW⟩ hL hm K hK
                have hb19 : zB 19 = false := by simpa using hL
                have hb16 : zB 16 = true := by cases e : zB 16 with | false => (exfalso; revert hm; simp [metB, Region.binds, e]) | true => rfl
                have hb17 : zB 17 = true := by cases e : zB 17 with | false => (exfalso; revert hm; simp [metB, Region.binds, e]) | true => rfl
                have hb18 : zB 18 = true := by cases e : zB 18 with | false => (exfalso; revert hm; simp [metB, Region.binds, e]) | true => rfl
                have e16 : zS 128 = .bool true := hF.2.2.2.2.2.2.2.2.2.2.2.2.2.2.2.2.1 hb16
                have e17 : zS 129 = .agg #[.int .i64 a, .int .i64 b, .bool s] := hF.2.2.2.2.2.2.2.2.2.2.2.2.2.2.2.2.2.1 hb17
                have e18 : zS 130 = .agg #[.int .i64 c, .int .i64 d, .bool t] := hF.2.2.2.2.2.2.2.2.2.2.2.2.2.2.2.2.2.2.1 hb18
                clear hL hm
                simp only [puts, Act.put, List.setIfInBounds_toArray, List.set_cons_zero, List.set_cons_succ]
                simp only [e16, e17, e18]
                go_simp
                refine (iVleq_any a b s c d t _).mono ?_
                rintro e vC2 ⟨rfl, hb⟩
                rw [HZL.out]
                go_wp2_with fail
                exact hK.out _ _ ⟨fun zj => if zj = 18 then true else if zj = 17 then true else if zj = 16 then true else if zj = 19 then true else zB zj, fun zd => if zd = 131 then .bool zz else if zd = 130 then .agg #[.int .i64 c, .int .i64 d, .bool t] else if zd = 129 then .agg #[.int .i64 a, .int .i64 b, .bool s] else if zd = 128 then .bool true else zS zd, by simp [hb16, hb17, hb18], by kernel_rfl, ⟨hF.1, hF.2.1, hF.2.2.1, hF.2.2.2.1, hF.2.2.2.2.1, hF.2.2.2.2.2.1, hF.2.2.2.2.2.2.1, hF.2.2.2.2.2.2.2.1, hF.2.2.2.2.2.2.2.2.1, hF.2.2.2.2.2.2.2.2.2.1, hF.2.2.2.2.2.2.2.2.2.2.1, hF.2.2.2.2.2.2.2.2.2.2.2.1, hF.2.2.2.2.2.2.2.2.2.2.2.2.1, hF.2.2.2.2.2.2.2.2.2.2.2.2.2.1, hF.2.2.2.2.2.2.2.2.2.2.2.2.2.2.1, hF.2.2.2.2.2.2.2.2.2.2.2.2.2.2.2.1, fun _ => rfl, fun _ => rfl, fun _ => rfl, fun _ => rfl, hF.2.2.2.2.2.2.2.2.2.2.2.2.2.2.2.2.2.2.2.2.1, hF.2.2.2.2.2.2.2.2.2.2.2.2.2.2.2.2.2.2.2.2.2.1, hF.2.2.2.2.2.2.2.2.2.2.2.2.2.2.2.2.2.2.2.2.2.2.1, hF.2.2.2.2.2.2.2.2.2.2.2.2.2.2.2.2.2.2.2.2.2.2.2.1, hF.2.2.2.2.2.2.2.2.2.2.2.2.2.2.2.2.2.2.2.2.2.2.2.2.1, hF.2.2.2.2.2.2.2.2.2.2.2.2.2.2.2.2.2.2.2.2.2.2.2.2.2⟩, below_step hW hb⟩
              refine StepsI.cons rfl ?_ ?_
              · rintro L zA vC ⟨zB, zS, rfl, rfl, hF, hW⟩ hL hm K hK
                have hb20 : zB 20 = false := by simpa using hL
                have hb16 : zB 16 = true := by cases e : zB 16 with | false => (exfalso; revert hm; simp [metB, Region.binds, e]) | true => rfl
                have e16 : zS 128 = .bool true := hF.2.2.2.2.2.2.2.2.2.2.2.2.2.2.2.2.1 hb16
                clear hL hm
                simp only [puts, Act.put, List.setIfInBounds_toArray, List.set_cons_zero, List.set_cons_succ]
                simp only [e16]
                obtain ⟨q0, q1, q2, _, _, _⟩ := HJ.out.below hW
                go_simp
                exact hK.out _ _ ⟨fun zj => if zj = 16 then true else if zj = 20 then true else zB zj, fun zd => if zd = 132 then .agg #[.int .i64 j1, .int .i64 j2, .bool j3] else if zd = 128 then .bool true else zS zd, by simp [hb16], by kernel_rfl, ⟨hF.1, hF.2.1, hF.2.2.1, hF.2.2.2.1, hF.2.2.2.2.1, hF.2.2.2.2.2.1, hF.2.2.2.2.2.2.1, hF.2.2.2.2.2.2.2.1, hF.2.2.2.2.2.2.2.2.1, hF.2.2.2.2.2.2.2.2.2.1, hF.2.2.2.2.2.2.2.2.2.2.1, hF.2.2.2.2.2.2.2.2.2.2.2.1, hF.2.2.2.2.2.2.2.2.2.2.2.2.1, hF.2.2.2.2.2.2.2.2.2.2.2.2.2.1, hF.2.2.2.2.2.2.2.2.2.2.2.2.2.2.1, hF.2.2.2.2.2.2.2.2.2.2.2.2.2.2.2.1, fun _ => rfl, hF.2.2.2.2.2.2.2.2.2.2.2.2.2.2.2.2.2.1, hF.2.2.2.2.2.2.2.2.2.2.2.2.2.2.2.2.2.2.1, hF.2.2.2.2.2.2.2.2.2.2.2.2.2.2.2.2.2.2.2.1, fun _ => rfl, hF.2.2.2.2.2.2.2.2.2.2.2.2.2.2.2.2.2.2.2.2.2.1, hF.2.2.2.2.2.2.2.2.2.2.2.2.2.2.2.2.2.2.2.2.2.2.1, hF.2.2.2.2.2.2.2.2.2.2.2.2.2.2.2.2.2.2.2.2.2.2.2.1, hF.2.2.2.2.2.2.2.2.2.2.2.2.2.2.2.2.2.2.2.2.2.2.2.2.1, hF.2.2.2.2.2.2.2.2.2.2.2.2.2.2.2.2.2.2.2.2.2.2.2.2.2⟩, hW⟩
              refine StepsI.cons rfl ?_ ?_
              · rintro L zA vC ⟨zB, zS, rfl, rfl, hF, hW⟩ hL hm K hK
                have hb21 : zB 21 = false := by simpa using hL
                have hb16 : zB 16 = true := by cases e : zB 16 with | false => (exfalso; revert hm; simp [metB, Region.binds, e]) | true => rfl
                have e16 : zS 128 = .bool true := hF.2.2.2.2.2.2.2.2.2.2.2.2.2.2.2.2.1 hb16
                clear hL hm
                simp only [puts, Act.put, List.setIfInBounds_toArray, List.set_cons_zero, List.set_cons_succ]
                simp only [e16]
                obtain ⟨q0, q1, q2, _, _, _⟩ := HB.out.below hW
                go_simp
                exact hK.out _ _ ⟨fun zj => if zj = 16 then true else if zj = 21 then true else zB zj, fun zd => if zd = 133 then .agg #[.int .i64 c, .int .i64 d, .bool t] else if zd = 128 then .bool true else zS zd, by simp [hb16], by kernel_rfl, ⟨hF.1, hF.2.1, hF.2.2.1, hF.2.2.2.1, hF.2.2.2.2.1, hF.2.2.2.2.2.1, hF.2.2.2.2.2.2.1, hF.2.2.2.2.2.2.2.1, hF.2.2.2.2.2.2.2.2.1, hF.2.2.2.2.2.2.2.2.2.1, hF.2.2.2.2.2.2.2.2.2.2.1, hF.2.2.2.2.2.2.2.2.2.2.2.1, hF.2.2.2.2.2.2.2.2.2.2.2.2.1, hF.2.2.2.2.2.2.2.2.2.2.2.2.2.1, hF.2.2.2.2.2.2.2.2.2.2.2.2.2.2.1, hF.2.2.2.2.2.2.2.2.2.2.2.2.2.2.2.1, fun _ => rfl, hF.2.2.2.2.2.2.2.2.2.2.2.2.2.2.2.2.2.1, hF.2.2.2.2.2.2.2.2.2.2.2.2.2.2.2.2.2.2.1, hF.2.2.2.2.2.2.2.2.2.2.2.2.2.2.2.2.2.2.2.1, hF.2.2.2.2.2.2.2.2.2.2.2.2.2.2.2.2.2.2.2.2.1, fun _ => rfl, hF.2.2.2.2.2.2.2.2.2.2.2.2.2.2.2.2.2.2.2.2.2.2.1, hF.2.2.2.2.2.2.2.2.2.2.2.2.2.2.2.2.2.2.2.2.2.2.2.1, hF.2.2.2.2.2.2.2.2.2.2.2.2.2.2.2.2.2.2.2.2.2.2.2.2.1, hF.2.2.2.2.2.2.2.2.2.2.2.2.2.2.2.2.2.2.2.2.2.2.2.2.2⟩, hW⟩
              refine StepsI.cons rfl ?_ ?_
              · rintro L zA vC ⟨zB, zS, rfl, rfl, hF, hW⟩ hL hm K hK
                have hb22 : zB 22 = false := by simpa using hL
                have hb16 : zB 16 = true := by cases e : zB 16 with | false => (exfalso; revert hm; simp [metB, Region.binds, e]) | true => rfl
                have hb20 : zB 20 = true := by cases e : zB 20 with | false => (exfalso; revert hm; simp [metB, Region.binds, e]) | true => rfl
                have hb21 : zB 21 = true := by cases e : zB 21 with | false => (exfalso; revert hm; simp [metB, Region.binds, e]) | true => rfl
                have e16 : zS 128 = .bool true := hF.2.2.2.2.2.2.2.2.2.2.2.2.2.2.2.2.1 hb16
                have e20 : zS 132 = .agg #[.int .i64 j1, .int .i64 j2, .bool j3] := hF.2.2.2.2.2.2.2.2.2.2.2.2.2.2.2.2.2.2.2.2.1 hb20
                have e21 : zS 133 = .agg #[.int .i64 c, .int .i64 d, .bool t] := hF.2.2.2.2.2.2.2.2.2.2.2.2.2.2.2.2.2.2.2.2.2.1 hb21
                clear hL hm
                simp only [puts, Act.put, List.setIfInBounds_toArray, List.set_cons_zero, List.set_cons_succ]
                simp only [e16, e20, e21]
                have hES := HZE.out
                go_simp
                exact hK.out _ _ ⟨fun zj => if zj = 21 then true else if zj = 20 then true else if zj = 16 then true else if zj = 22 then true else zB zj, fun zd => if zd = 134 then .bool zz else if zd = 133 then .agg #[.int .i64 c, .int .i64 d, .bool t] else if zd = 132 then .agg #[.int .i64 j1, .int .i64 j2, .bool j3] else if zd = 128 then .bool true else zS zd, by simp [hb16, hb20, hb21], by kernel_rfl, ⟨hF.1, hF.2.1, hF.2.2.1, hF.2.2.2.1, hF.2.2.2.2.1, hF.2.2.2.2.2.1, hF.2.2.2.2.2.2.1, hF.2.2.2.2.2.2.2.1, hF.2.2.2.2.2.2.2.2.1, hF.2.2.2.2.2.2.2.2.2.1, hF.2.2.2.2.2.2.2.2.2.2.1, hF.2.2.2.2.2.2.2.2.2.2.2.1, hF.2.2.2.2.2.2.2.2.2.2.2.2.1, hF.2.2.2.2.2.2.2.2.2.2.2.2.2.1, hF.2.2.2.2.2.2.2.2.2.2.2.2.2.2.1, hF.2.2.2.2.2.2.2.2.2.2.2.2.2.2.2.1, fun _ => rfl, hF.2.2.2.2.2.2.2.2.2.2.2.2.2.2.2.2.2.1, hF.2.2.2.2.2.2.2.2.2.2.2.2.2.2.2.2.2.2.1, hF.2.2.2.2.2.2.2.2.2.2.2.2.2.2.2.2.2.2.2.1, fun _ => rfl, fun _ => rfl, fun _ => rfl, hF.2.2.2.2.2.2.2.2.2.2.2.2.2.2.2.2.2.2.2.2.2.2.2.1, hF.2.2.2.2.2.2.2.2.2.2.2.2.2.2.2.2.2.2.2.2.2.2.2.2.1, hF.2.2.2.2.2.2.2.2.2.2.2.2.2.2.2.2.2.2.2.2.2.2.2.2.2⟩, hW⟩
              refine StepsI.cons rfl ?_ ?_
              · rintro L zA vC ⟨zB, zS, rfl, rfl, hF, hW⟩ hL hm K hK
                have hb23 : zB 23 = false := by simpa using hL
                have hb16 : zB 16 = true := by cases e : zB 16 with | false => (exfalso; revert hm; simp [metB, Region.binds, e]) | true => rfl
                have hb19 : zB 19 = true := by cases e : zB 19 with | false => (exfalso; revert hm; simp [metB, Region.binds, e]) | true => rfl
                have hb22 : zB 22 = true := by cases e : zB 22 with | false => (exfalso; revert hm; simp [metB, Region.binds, e]) | true => rfl
                have e16 : zS 128 = .bool true := hF.2.2.2.2.2.2.2.2.2.2.2.2.2.2.2.2.1 hb16
                have e19 : zS 131 = .bool zz := hF.2.2.2.2.2.2.2.2.2.2.2.2.2.2.2.2.2.2.2.1 hb19
                have e22 : zS 134 = .bool zz := hF.2.2.2.2.2.2.2.2.2.2.2.2.2.2.2.2.2.2.2.2.2.2.1 hb22
                clear hL hm
                simp only [puts, Act.put, List.setIfInBounds_toArray, List.set_cons_zero, List.set_cons_succ]
                simp only [e16, e19, e22]
                have hES : (zz == zz) = true := by simp
                go_simp
                exact hK.out _ _ ⟨fun zj => if zj = 22 then true else if zj = 19 then true else if zj = 16 then true else if zj = 23 then true else zB zj, fun zd => if zd = 135 then .bool true else if zd = 134 then .bool zz else if zd = 131 then .bool zz else if zd = 128 then .bool true else zS zd, by simp [hb16, hb19, hb22], by kernel_rfl, ⟨hF.1, hF.2.1, hF.2.2.1, hF.2.2.2.1, hF.2.2.2.2.1, hF.2.2.2.2.2.1, hF.2.2.2.2.2.2.1, hF.2.2.2.2.2.2.2.1, hF.2.2.2.2.2.2.2.2.1, hF.2.2.2.2.2.2.2.2.2.1, hF.2.2.2.2.2.2.2.2.2.2.1, hF.2.2.2.2.2.2.2.2.2.2.2.1, hF.2.2.2.2.2.2.2.2.2.2.2.2.1, hF.2.2.2.2.2.2.2.2.2.2.2.2.2.1, hF.2.2.2.2.2.2.2.2.2.2.2.2.2.2.1, hF.2.2.2.2.2.2.2.2.2.2.2.2.2.2.2.1, fun _ => rfl, hF.2.2.2.2.2.2.2.2.2.2.2.2.2.2.2.2.2.1, hF.2.2.2.2.2.2.2.2.2.2.2.2.2.2.2.2.2.2.1, fun _ => rfl, hF.2.2.2.2.2.2.2.2.2.2.2.2.2.2.2.2.2.2.2.2.1, hF.2.2.2.2.2.2.2.2.2.2.2.2.2.2.2.2.2.2.2.2.2.1, fun _ => rfl, fun _ => rfl, hF.2.2.2.2.2.2.2.2.2.2.2.2.2.2.2.2.2.2.2.2.2.2.2.2.1, hF.2.2.2.2.2.2.2.2.2.2.2.2.2.2.2.2.2.2.2.2.2.2.2.2.2⟩, hW⟩
              refine StepsI.cons rfl ?_ ?_
              · rintro L zA vC ⟨zB, zS, rfl, rfl, hF, hW⟩ hL hm K hK
                have hb24 : zB 24 = false := by simpa using hL
                have hb16 : zB 16 = true := by cases e : zB 16 with | false => (exfalso; revert hm; simp [metB, Region.binds, e]) | true => rfl
                have hb23 : zB 23 = true := by cases e : zB 23 with | false => (exfalso; revert hm; simp [metB, Region.binds, e]) | true => rfl
                have e16 : zS 128 = .bool true := hF.2.2.2.2.2.2.2.2.2.2.2.2.2.2.2.2.1 hb16
                have e23 : zS 135 = .bool true := hF.2.2.2.2.2.2.2.2.2.2.2.2.2.2.2.2.2.2.2.2.2.2.2.1 hb23
                clear hL hm
                simp only [puts, Act.put, List.setIfInBounds_toArray, List.set_cons_zero, List.set_cons_succ]
                simp only [e16, e23]
                go_simp
                exact hK.out _ _ ⟨fun zj => if zj = 23 then true else if zj = 16 then true else if zj = 24 then true else zB zj, fun zd => if zd = 136 then .bool true else if zd = 135 then .bool true else if zd = 128 then .bool true else zS zd, by simp [hb16, hb23], by kernel_rfl, ⟨hF.1, hF.2.1, hF.2.2.1, hF.2.2.2.1, hF.2.2.2.2.1, hF.2.2.2.2.2.1, hF.2.2.2.2.2.2.1, hF.2.2.2.2.2.2.2.1, hF.2.2.2.2.2.2.2.2.1, hF.2.2.2.2.2.2.2.2.2.1, hF.2.2.2.2.2.2.2.2.2.2.1, hF.2.2.2.2.2.2.2.2.2.2.2.1, hF.2.2.2.2.2.2.2.2.2.2.2.2.1, hF.2.2.2.2.2.2.2.2.2.2.2.2.2.1, hF.2.2.2.2.2.2.2.2.2.2.2.2.2.2.1, hF.2.2.2.2.2.2.2.2.2.2.2.2.2.2.2.1, fun _ => rfl, hF.2.2.2.2.2.2.2.2.2.2.2.2.2.2.2.2.2.1, hF.2.2.2.2.2.2.2.2.2.2.2.2.2.2.2.2.2.2.1, hF.2.2.2.2.2.2.2.2.2.2.2.2.2.2.2.2.2.2.2.1, hF.2.2.2.2.2.2.2.2.2.2.2.2.2.2.2.2.2.2.2.2.1, hF.2.2.2.2.2.2.2.2.2.2.2.2.2.2.2.2.2.2.2.2.2.1, hF.2.2.2.2.2.2.2.2.2.2.2.2.2.2.2.2.2.2.2.2.2.2.1, fun _ => rfl, fun _ => rfl, hF.2.2.2.2.2.2.2.2.2.2.2.2.2.2.2.2.2.2.2.2.2.2.2.2.2⟩, hW⟩
              refine StepsI.cons rfl ?_ ?_
              · rintro L zA vC ⟨zB, zS, rfl, rfl, hF, hW⟩ hL hm K hK
                have hb25 : zB 25 = false := by simpa using hL
                have hb24 : zB 24 = true := by cases e : zB 24 with | false => (exfalso; revert hm; simp [metB, Region.binds, e]) | true => rfl
                have e24 : zS 136 = .bool true := hF.2.2.2.2.2.2.2.2.2.2.2.2.2.2.2.2.2.2.2.2.2.2.2.2.1 hb24
                clear hL hm
                simp only [puts, Act.put, List.setIfInBounds_toArray, List.set_cons_zero, List.set_cons_succ]
                simp only [e24]
                go_simp
                exact hK.out _ _ ⟨fun zj => if zj = 24 then true else if zj = 25 then true else zB zj, fun zd => if zd = 4 then .bool true else if zd = 136 then .bool true else zS zd, by simp [hb24], by kernel_rfl, ⟨hF.1, hF.2.1, hF.2.2.1, hF.2.2.2.1, hF.2.2.2.2.1, hF.2.2.2.2.2.1, hF.2.2.2.2.2.2.1, hF.2.2.2.2.2.2.2.1, hF.2.2.2.2.2.2.2.2.1, hF.2.2.2.2.2.2.2.2.2.1, hF.2.2.2.2.2.2.2.2.2.2.1, hF.2.2.2.2.2.2.2.2.2.2.2.1, hF.2.2.2.2.2.2.2.2.2.2.2.2.1, hF.2.2.2.2.2.2.2.2.2.2.2.2.2.1, hF.2.2.2.2.2.2.2.2.2.2.2.2.2.2.1, hF.2.2.2.2.2.2.2.2.2.2.2.2.2.2.2.1, hF.2.2.2.2.2.2.2.2.2.2.2.2.2.2.2.2.1, hF.2.2.2.2.2.2.2.2.2.2.2.2.2.2.2.2.2.1, hF.2.2.2.2.2.2.2.2.2.2.2.2.2.2.2.2.2.2.1, hF.2.2.2.2.2.2.2.2.2.2.2.2.2.2.2.2.2.2.2.1, hF.2.2.2.2.2.2.2.2.2.2.2.2.2.2.2.2.2.2.2.2.1, hF.2.2.2.2.2.2.2.2.2.2.2.2.2.2.2.2.2.2.2.2.2.1, hF.2.2.2.2.2.2.2.2.2.2.2.2.2.2.2.2.2.2.2.2.2.2.1, hF.2.2.2.2.2.2.2.2.2.2.2.2.2.2.2.2.2.2.2.2.2.2.2.1, fun _ => rfl, fun _ => rfl⟩, hW⟩
              exact StepsI.nil (by kernel_rfl)
            · rintro L zA vC ⟨zB, zS, rfl, rfl, hF, hW⟩ hr
              have hu := all_up (by kernel_rfl) (N := 26) (by kernel_rfl) hr
              have hb0 : zB 0 = true := by simpa using hu 0 (by decide)
              have hb1 : zB 1 = true := by simpa using hu 1 (by decide)
              have hb2 : zB 2 = true := by simpa using hu 2 (by decide)
              have hb3 : zB 3 = true := by simpa using hu 3 (by decide)
              have hb4 : zB 4 = true := by simpa using hu 4 (by decide)
              have hb5 : zB 5 = true := by simpa using hu 5 (by decide)
              have hb6 : zB 6 = true := by simpa using hu 6 (by decide)
              have hb7 : zB 7 = true := by simpa using hu 7 (by decide)
              have hb8 : zB 8 = true := by simpa using hu 8 (by decide)
              have hb9 : zB 9 = true := by simpa using hu 9 (by decide)
              have hb10 : zB 10 = true := by simpa using hu 10 (by decide)
              have hb11 : zB 11 = true := by simpa using hu 11 (by decide)
              have hb12 : zB 12 = true := by simpa using hu 12 (by decide)
              have hb13 : zB 13 = true := by simpa using hu 13 (by decide)
              have hb14 : zB 14 = true := by simpa using hu 14 (by decide)
              have hb15 : zB 15 = true := by simpa using hu 15 (by decide)
              have hb16 : zB 16 = true := by simpa using hu 16 (by decide)
              have hb17 : zB 17 = true := by simpa using hu 17 (by decide)
              have hb18 : zB 18 = true := by simpa using hu 18 (by decide)
              have hb19 : zB 19 = true := by simpa using hu 19 (by decide)
              have hb20 : zB 20 = true := by simpa using hu 20 (by decide)
              have hb21 : zB 21 = true := by simpa using hu 21 (by decide)
              have hb22 : zB 22 = true := by simpa using hu 22 (by decide)
              have hb23 : zB 23 = true := by simpa using hu 23 (by decide)
              have hb24 : zB 24 = true := by simpa using hu 24 (by decide)
              have hb25 : zB 25 = true := by simpa using hu 25 (by decide)
              have e0 : zS 112 = .bool true := hF.1 hb0
              have e1 : zS 113 = .bool true := hF.2.1 hb1
              have e2 : zS 114 = .agg #[.int .i64 j1, .int .i64 j2, .bool j3] := hF.2.2.1 hb2
              have e3 : zS 115 = .agg #[.int .i64 j1, .int .i64 j2, .bool j3] := hF.2.2.2.1 hb3
              have e4 : zS 116 = .bool true := hF.2.2.2.2.1 hb4
              have e5 : zS 117 = .bool true := hF.2.2.2.2.2.1 hb5
              have e6 : zS 118 = .bool true := hF.2.2.2.2.2.2.1 hb6
              have e7 : zS 119 = .agg #[.int .i64 a, .int .i64 b, .bool s] := hF.2.2.2.2.2.2.2.1 hb7
              have e8 : zS 120 = .agg #[.int .i64 j1, .int .i64 j2, .bool j3] := hF.2.2.2.2.2.2.2.2.1 hb8
              have e9 : zS 121 = .bool true := hF.2.2.2.2.2.2.2.2.2.1 hb9
              have e10 : zS 122 = .bool true := hF.2.2.2.2.2.2.2.2.2.2.1 hb10
              have e11 : zS 123 = .bool true := hF.2.2.2.2.2.2.2.2.2.2.2.1 hb11
              have e12 : zS 124 = .agg #[.int .i64 c, .int .i64 d, .bool t] := hF.2.2.2.2.2.2.2.2.2.2.2.2.1 hb12
              have e13 : zS 125 = .agg #[.int .i64 j1, .int .i64 j2, .bool j3] := hF.2.2.2.2.2.2.2.2.2.2.2.2.2.1 hb13
              have e14 : zS 126 = .bool true := hF.2.2.2.2.2.2.2.2.2.2.2.2.2.2.1 hb14
              have e15 : zS 127 = .bool true := hF.2.2.2.2.2.2.2.2.2.2.2.2.2.2.2.1 hb15
              have e16 : zS 128 = .bool true := hF.2.2.2.2.2.2.2.2.2.2.2.2.2.2.2.2.1 hb16
              have e17 : zS 129 = .agg #[.int .i64 a, .int .i64 b, .bool s] := hF.2.2.2.2.2.2.2.2.2.2.2.2.2.2.2.2.2.1 hb17
              have e18 : zS 130 = .agg #[.int .i64 c, .int .i64 d, .bool t] := hF.2.2.2.2.2.2.2.2.2.2.2.2.2.2.2.2.2.2.1 hb18
              have e19 : zS 131 = .bool zz := hF.2.2.2.2.2.2.2.2.2.2.2.2.2.2.2.2.2.2.2.1 hb19
              have e20 : zS 132 = .agg #[.int .i64 j1, .int .i64 j2, .bool j3] := hF.2.2.2.2.2.2.2.2.2.2.2.2.2.2.2.2.2.2.2.2.1 hb20
              have e21 : zS 133 = .agg #[.int .i64 c, .int .i64 d, .bool t] := hF.2.2.2.2.2.2.2.2.2.2.2.2.2.2.2.2.2.2.2.2.2.1 hb21
              have e22 : zS 134 = .bool zz := hF.2.2.2.2.2.2.2.2.2.2.2.2.2.2.2.2.2.2.2.2.2.2.1 hb22
              have e23 : zS 135 = .bool true := hF.2.2.2.2.2.2.2.2.2.2.2.2.2.2.2.2.2.2.2.2.2.2.2.1 hb23
              have e24 : zS 136 = .bool true := hF.2.2.2.2.2.2.2.2.2.2.2.2.2.2.2.2.2.2.2.2.2.2.2.2.1 hb24
              have e25 : zS 4 = .bool true := hF.2.2.2.2.2.2.2.2.2.2.2.2.2.2.2.2.2.2.2.2.2.2.2.2.2 hb25
              clear hu hr hF
              simp only [puts, Act.put, List.setIfInBounds_toArray, List.set_cons_zero, List.set_cons_succ]
              simp only [e0, e1, e2, e3, e4, e5, e6, e7, e8, e9, e10, e11, e12, e13, e14, e15, e16, e17, e18, e19, e20, e21, e22, e23, e24, e25]
              clear e0 e1 e2 e3 e4 e5 e6 e7 e8 e9 e10 e11 e12 e13 e14 e15 e16 e17 e18 e19 e20 e21 e22 e23 e24 e25
              clear hb0 hb1 hb2 hb3 hb4 hb5 hb6 hb7 hb8 hb9 hb10 hb11 hb12 hb13 hb14 hb15 hb16 hb17 hb18 hb19 hb20 hb21 hb22 hb23 hb24 hb25
              clear zB zS
              have BE := mkHid (below_step BE.out hW)
              clear hW
              go_wp2
              go_ret
              exact ⟨rfl, BE.out⟩
end Go.Proofs.YtiihjoliodemmaaDoor.Q
