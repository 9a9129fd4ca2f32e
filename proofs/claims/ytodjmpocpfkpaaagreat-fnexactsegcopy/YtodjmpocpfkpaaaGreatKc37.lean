/-
  CONTRACTS of both Copys.
-/
import Derived.Test.YtodjmpocpfkpaaaGreatKc29
import Derived.Test.YtodjmpocpfkpaaaGreatKc36
namespace Go.Proofs.YtodjmpocpfkpaaaGreat
open Go.RowKit

set_option maxRecDepth 100000 in
set_option maxHeartbeats 1600000 in
theorem iCopy_any (n lv : Int) (S : SG) (A : SAd) (v u c : Int) (w : World) (hs : Small S) (hl : SegAt w A S) :
    Calls Tryz.prog 16 #[.int .i64 n, .int .i64 lv, .agg #[.slice A.a0 S.B.length A.c0, .slice A.a1 S.V.length A.c1, .slice A.a2 S.M.length A.c2], .int .i64 v, .int .i64 u, .int .i64 c] w fun e w' => ∃ Z, MvR n lv v u c S (cpS n v u c (dropSG lv (tv v S.B) S)) Z ∧ GivesS w w' e Z := by
  have HSM := mkHid hs
  obtain ⟨w0, hw0⟩ : ∃ x : World, (w.alloc (.cells #[.slice A.a0 S.B.length A.c0, .slice A.a1 S.V.length A.c1, .slice A.a2 S.M.length A.c2] 31)).alloc (.cells #[.slice none 0 0, .slice none 0 0, .slice none 0 0] 31) = x := ⟨_, rfl⟩
  obtain ⟨X, hX⟩ : ∃ x, w.heap.size = x := ⟨_, rfl⟩
  have HXX := mkHid hX
  have HB : Hid (Below w.heap.size w w0) := mkHid (by rw [← hw0]; exact bl_alloc (bl_alloc (Below.refl _ _) _) _)
  have P0 : Hid (G3 w0 X (.slice A.a0 S.B.length A.c0) (.slice A.a1 S.V.length A.c1) (.slice A.a2 S.M.length A.c2)) := mkHid (by rw [← hw0, ← hX]; exact (G3.new _ _ _ _ _).below (bl_alloc (Below.refl _ _) _))
  have R0 : Hid (G3 w0 (X + 1) (.slice none 0 0) (.slice none 0 0) (.slice none 0 0)) := mkHid (by rw [← hw0, ← hX]; have := G3.new (w.alloc (.cells #[.slice A.a0 S.B.length A.c0, .slice A.a1 S.V.length A.c1, .slice A.a2 S.M.length A.c2] 31)) (.slice none 0 0) (.slice none 0 0) (.slice none 0 0) 31; simpa using this)
  have HL := mkHid (hl.below HB.out)
  have HZ0 : Hid (w0.heap.size = X + 2) := mkHid (by rw [← hw0, ← hX]; simp)
  clear hl hs
  obtain ⟨q0, q1, q2, _, _, _⟩ := P0.out
  go_enter Tryz.func16, Tryz.ntmps16
  go_wp2_with fail
  clear hw0 hX q0 q1 q2
  refine (moved_any n lv v u c S A (cpS n v u c (dropSG lv (tv v S.B) S)) _ HSM.out HL.out (fun hok hm X base z hB hc => copy_any n lv v u c S X base z HSM.out hok hm hB hc)).mono ?_
  rintro e w1 ⟨Zs, hM, A', rfl, hO, hb⟩
  have HM := mkHid hM
  have HF := mkHid (gives_shut (Yb := X + 1) hO (by have := HZ0.out; omega) (Nat.le_refl _) (below_step HB.out hb) (by rw [HXX.out]; omega))
  obtain ⟨r0, r1, r2, t0, t1, t2⟩ := R0.out.below hb
  clear hM hO hb
  go_wp2
  refine bodyPost_ret (v := .agg #[.slice A'.a0 Zs.B.length A'.c0, .slice A'.a1 Zs.V.length A'.c1, .slice A'.a2 Zs.M.length A'.c2]) (by simp [results, Tryz.results16, go_sem, *]) rfl ⟨Zs, HM.out, HF.out⟩
set_option maxRecDepth 100000 in
set_option maxHeartbeats 1600000 in
theorem sCopy_any (n lv : Int) (S : SG) (A : SAd) (v u c : Int) (w : World) (hs : Small S) (hl : SegAt w A S) :
    Calls Tryz.prog 15 #[.int .i64 n, .int .i64 lv, .agg #[.slice A.a0 S.B.length A.c0, .slice A.a1 S.V.length A.c1, .slice A.a2 S.M.length A.c2], .int .i64 v, .int .i64 u, .int .i64 c] w fun e w' => ∃ Z, MvR n lv v u c S (cpS n v u c (dropSG lv (tv v S.B) S)) Z ∧ GivesS w w' e Z := by
  have HSM := mkHid hs
  obtain ⟨w0, hw0⟩ : ∃ x : World, (w.alloc (.cells #[.slice A.a0 S.B.length A.c0, .slice A.a1 S.V.length A.c1, .slice A.a2 S.M.length A.c2] 31)).alloc (.cells #[.slice none 0 0, .slice none 0 0, .slice none 0 0] 31) = x := ⟨_, rfl⟩
  obtain ⟨X, hX⟩ : ∃ x, w.heap.size = x := ⟨_, rfl⟩
  have HXX := mkHid hX
  have HB : Hid (Below w.heap.size w w0) := mkHid (by rw [← hw0]; exact bl_alloc (bl_alloc (Below.refl _ _) _) _)
  have P0 : Hid (G3 w0 X (.slice A.a0 S.B.length A.c0) (.slice A.a1 S.V.length A.c1) (.slice A.a2 S.M.length A.c2)) := mkHid (by rw [← hw0, ← hX]; exact (G3.new _ _ _ _ _).below (bl_alloc (Below.refl _ _) _))
  have R0 : Hid (G3 w0 (X + 1) (.slice none 0 0) (.slice none 0 0) (.slice none 0 0)) := mkHid (by rw [← hw0, ← hX]; have := G3.new (w.alloc (.cells #[.slice A.a0 S.B.length A.c0, .slice A.a1 S.V.length A.c1, .slice A.a2 S.M.length A.c2] 31)) (.slice none 0 0) (.slice none 0 0) (.slice none 0 0) 31; simpa using this)
  have HL := mkHid (hl.below HB.out)
  have HZ0 : Hid (w0.heap.size = X + 2) := mkHid (by rw [← hw0, ← hX]; simp)
  clear hl hs
  obtain ⟨q0, q1, q2, _, _, _⟩ := P0.out
  have HSH : Hid (∀ z, Below w.heap.size w z → GivesS w (put3 z (X + 1) (.slice none 0 0) (.slice none 0 0) (.slice none 0 0)) (.returned (.agg #[.slice none 0 0, .slice none 0 0, .slice none 0 0])) noS) := mkHid fun z hv => gives_shut (A := noA) (S := noS) (OwnS.none z (X + 2) z.heap.size) (Nat.le_refl _) (Nat.le_refl _) hv (by rw [HXX.out]; omega)
  go_enter Tryz.func15, Tryz.ntmps15
  go_wp2_with fail
  clear hw0 hX q0 q1 q2
  refine (good_any n lv S A v c _ HSM.out HL.out).mono ?_
  rintro e w1 ⟨hb, r, rfl, hr⟩
  have HR := mkHid hr
  have HBE := mkHid hb
  clear hb hr
  cases hrb : r
  · have HNO : Hid (MvR n lv v u c S (cpS n v u c (dropSG lv (tv v S.B) S)) noS) := mkHid ⟨fun h => (by have := HR.out.2 ⟨h.1, h.2.pv, h.2.pl, h.2.pc⟩; rw [hrb] at this; cases this), fun _ => rfl⟩
    subst hrb
    have HF := mkHid (HSH.out _ (below_step HB.out HBE.out))
    obtain ⟨r0, r1, r2, t0, t1, t2⟩ := R0.out.below HBE.out
    go_wp2
    refine bodyPost_ret (v := .agg #[.slice none 0 0, .slice none 0 0, .slice none 0 0]) (by simp [results, Tryz.results15, go_sem, *]) rfl ⟨noS, HNO.out, HF.out⟩
  have HG := mkHid (HR.out.1 hrb)
  subst hrb
  clear HR
  have hw1 : IntKind.i64.wrap (n - 1) = n - 1 := IntWalk.i64_in _ (by have := HG.out.1.len.1; omega)
  have hw2 : wrap64 (n - 1) = n - 1 := by have := HG.out.1.len.1; unfold wrap64; omega
  by_cases h3 : btw u 0 (n - 1) = false
  · have HNO : Hid (MvR n lv v u c S (cpS n v u c (dropSG lv (tv v S.B) S)) noS) := mkHid ⟨fun h => (btw_no h3 h.2.pu).elim, fun _ => rfl⟩
    have HF := mkHid (HSH.out _ (below_step HB.out HBE.out))
    obtain ⟨r0, r1, r2, t0, t1, t2⟩ := R0.out.below HBE.out
    go_wp2_with (first | (go_at_call 36; refine (between_any _ _ _ _).mono ?_; rintro e w2 ⟨rfl, rfl⟩))
    refine bodyPost_ret (v := .agg #[.slice none 0 0, .slice none 0 0, .slice none 0 0]) (by simp [results, Tryz.results15, go_sem, *]) rfl ⟨noS, HNO.out, HF.out⟩
  replace h3 : btw u 0 (n - 1) = true := by simpa using h3
  by_cases h4 : (u == v) = true
  · have HNO : Hid (MvR n lv v u c S (cpS n v u c (dropSG lv (tv v S.B) S)) noS) := mkHid ⟨fun h => (h.2.pn (by simpa using h4)).elim, fun _ => rfl⟩
    have HF := mkHid (HSH.out _ (below_step HB.out HBE.out))
    obtain ⟨r0, r1, r2, t0, t1, t2⟩ := R0.out.below HBE.out
    go_wp2_with (first | (go_at_call 36; refine (between_any _ _ _ _).mono ?_; rintro e w2 ⟨rfl, rfl⟩))
    refine bodyPost_ret (v := .agg #[.slice none 0 0, .slice none 0 0, .slice none 0 0]) (by simp [results, Tryz.results15, go_sem, *]) rfl ⟨noS, HNO.out, HF.out⟩
  replace h4 : (u == v) = false := by simpa using h4
  have HMP : Hid (MvP n lv v u c) := mkHid ⟨HG.out.2.1, HG.out.2.2.1, btw_iff.1 h3, by simpa using h4, HG.out.2.2.2⟩
  clear HSH
  obtain ⟨q0, q1, q2, _, _, _⟩ := P0.out.below HBE.out
  go_wp2_with (first | (go_at_call 36; refine (between_any _ _ _ _).mono ?_; rintro e w2 ⟨rfl, rfl⟩))
  clear q0 q1 q2
  refine (lCopy_any n lv v u c S A _ HSM.out HG.out.1 HMP.out (HL.out.below HBE.out)).mono ?_
  obtain ⟨Zs, hZs⟩ : ∃ z, cpS n v u c (dropSG lv (tv v S.B) S) = z := ⟨_, rfl⟩
  have HZ : Hid (MvR n lv v u c S (cpS n v u c (dropSG lv (tv v S.B) S)) Zs) := mkHid ⟨fun _ => hZs.symm, fun h => absurd ⟨HG.out.1, HMP.out⟩ h⟩
  have HMM : Hid (cpS n v u c (dropSG lv (tv v S.B) S) = Zs) := mkHid hZs
  rw [hZs]
  clear hZs
  rintro e w7 ⟨A', rfl, hO, hb⟩
  have HF := mkHid (gives_shut (Yb := X + 1) hO (by have := HBE.out.size; have := HZ0.out; omega) (Nat.le_refl _) (below_step (below_step HB.out HBE.out) hb) (by rw [HXX.out]; omega))
  obtain ⟨r0, r1, r2, t0, t1, t2⟩ := R0.out.below (below_step HBE.out hb)
  clear hO hb
  go_wp2
  refine bodyPost_ret (v := .agg #[.slice A'.a0 Zs.B.length A'.c0, .slice A'.a1 Zs.V.length A'.c1, .slice A'.a2 Zs.M.length A'.c2]) (by simp [results, Tryz.results15, go_sem, *]) rfl ⟨Zs, HZ.out, HF.out⟩
end Go.Proofs.YtodjmpocpfkpaaaGreat
