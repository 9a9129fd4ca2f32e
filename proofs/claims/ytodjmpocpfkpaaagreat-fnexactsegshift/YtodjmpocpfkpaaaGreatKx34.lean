/-
  CONTRACTS of both Shifts.
-/
import Derived.Test.YtodjmpocpfkpaaaGreatKx29
import Derived.Test.YtodjmpocpfkpaaaGreatKx32
import Derived.Test.YtodjmpocpfkpaaaGreatKx33
namespace Go.Proofs.YtodjmpocpfkpaaaGreat
open Go.RowKit

set_option maxRecDepth 100000 in
set_option maxHeartbeats 1600000 in
theorem iShift_any (n lv : Int) (S : SG) (A : SAd) (v c : Int) (w : World) (hs : Small S) (hl : SegAt w A S) :
    Calls Tryz.prog 14 #[.int .i64 n, .int .i64 lv, .agg #[.slice A.a0 S.B.length A.c0, .slice A.a1 S.V.length A.c1, .slice A.a2 S.M.length A.c2], .int .i64 v, .int .i64 c] w fun e w' => ∃ Z, MvR n lv v 0 c S (shS n v c S) Z ∧ GivesS w w' e Z := by
  have HSM := mkHid hs
  obtain ⟨w0, hw0⟩ : ∃ x : World, (w.alloc (.cells #[.slice A.a0 S.B.length A.c0, .slice A.a1 S.V.length A.c1, .slice A.a2 S.M.length A.c2] 31)).alloc (.cells #[.slice none 0 0, .slice none 0 0, .slice none 0 0] 31) = x := ⟨_, rfl⟩
  obtain ⟨X, hX⟩ : ∃ x, w.heap.size = x := ⟨_, rfl⟩
  have HXX := mkHid hX
  have HB : Hid (Below w.heap.size w w0) := mkHid (by rw [← hw0]; exact bl_alloc (bl_alloc (Below.refl _ _) _) _)
  have P0 : Hid (G3 w0 X (.slice A.a0 S.B.length A.c0) (.slice A.a1 S.V.length A.c1) (.slice A.a2 S.M.length A.c2)) := mkHid (by rw [← hw0, ← hX]; exact (G3.new _ _ _ _ _).below (bl_alloc (Below.refl _ _) _))
  have R0 : Hid (G3 w0 (X + 1) (.slice none 0 0) (.slice none 0 0) (.slice none 0 0)) := mkHid (by rw [← hw0, ← hX]; have := G3.new (w.alloc (.cells #[.slice A.a0 S.B.length A.c0, .slice A.a1 S.V.length A.c1, .slice A.a2 S.M.length A.c2] 31)) (.slice none 0 0) (.slice none 0 0) (.slice none 0 0) 31; simpa using this)
  have HL := mkHid (hl.below HB.out)
  have HZ0 : Hid (w0.heap.size = X + 2) := mkHid (by rw [← hw0, ← hX]; simp)
  clear hl hs
  obtain ⟨q0, q1, q2, _, _, _⟩ := P0.out
  go_enter Tryz.func14, Tryz.ntmps14
  go_wp2_with fail
  clear hw0 hX q0 q1 q2
  refine (moved_any n lv v 0 c S A (shS n v c S) _ HSM.out HL.out (fun hok hm X base z hB hc => shift_any n lv v 0 c S X base z HSM.out hok hm hB hc)).mono ?_
  rintro e w1 ⟨Zs, hM, A', rfl, hO, hb⟩
  have HM := mkHid hM
  have HF := mkHid (gives_shut (Yb := X + 1) hO (by have := HZ0.out; omega) (Nat.le_refl _) (below_step HB.out hb) (by rw [HXX.out]; omega))
  obtain ⟨r0, r1, r2, t0, t1, t2⟩ := R0.out.below hb
  clear hM hO hb
  go_wp2
  refine bodyPost_ret (v := .agg #[.slice A'.a0 Zs.B.length A'.c0, .slice A'.a1 Zs.V.length A'.c1, .slice A'.a2 Zs.M.length A'.c2]) (by simp [results, Tryz.results14, go_sem, *]) rfl ⟨Zs, HM.out, HF.out⟩
set_option maxRecDepth 100000 in
set_option maxHeartbeats 1600000 in
theorem sShift_any (n lv : Int) (S : SG) (A : SAd) (v c : Int) (w : World) (hs : Small S) (hl : SegAt w A S) :
    Calls Tryz.prog 13 #[.int .i64 n, .int .i64 lv, .agg #[.slice A.a0 S.B.length A.c0, .slice A.a1 S.V.length A.c1, .slice A.a2 S.M.length A.c2], .int .i64 v, .int .i64 c] w fun e w' => ∃ Z, MvR n lv v 0 c S (shS n v c S) Z ∧ GivesS w w' e Z := by
  have HSM := mkHid hs
  obtain ⟨w0, hw0⟩ : ∃ x : World, (w.alloc (.cells #[.slice A.a0 S.B.length A.c0, .slice A.a1 S.V.length A.c1, .slice A.a2 S.M.length A.c2] 31)).alloc (.cells #[.slice none 0 0, .slice none 0 0, .slice none 0 0] 31) = x := ⟨_, rfl⟩
  obtain ⟨X, hX⟩ : ∃ x, w.heap.size = x := ⟨_, rfl⟩
  have HXX := mkHid hX
  have HB : Hid (Below w.heap.size w w0) := mkHid (by rw [← hw0]; exact bl_alloc (bl_alloc (Below.refl _ _) _) _)
  have P0 : Hid (G3 w0 X (.slice A.a0 S.B.length A.c0) (.slice A.a1 S.V.length A.c1) (.slice A.a2 S.M.length A.c2)) := mkHid (by rw [← hw0, ← hX]; exact (G3.new _ _ _ _ _).below (bl_alloc (Below.refl _ _) _))
  have R0 : Hid (G3 w0 (X + 1) (.slice none 0 0) (.slice none 0 0) (.slice none 0 0)) := mkHid (by rw [← hw0, ← hX]; have := G3.new (w.alloc (.cells #[.slice A.a0 S.B.length A.c0, .slice A.a1 S.V.length A.c1, .slice A.a2 S.M.length A.c2] 31)) (.slice none 0 0) (.slice none 0 0) (.slice none 0 0) 31; simpa using this)
  have HL := mkHid (hl.below HB.out)
  have HZ0 : Hid (w0.heap.size = X + 2) := mkHid (by rw [← hw0, ← hX]; simp)
  clear hl hs
  obtain ⟨q0, q1, q2, _, _, _⟩ := P0.out
  have HSH : Hid (∀ z, Below w.heap.size w z → GivesS w (put3 z (X + 1) (.slice none 0 0) (.slice none 0 0) (.slice none 0 0)) (.returned (.agg #[.slice none 0 0, .slice none 0 0, .slice none 0 0])) noS) := mkHid fun z hv => gives_shut (A := noA) (S := noS) (OwnS.none z (X + 2) z.heap.size) (Nat.le_refl _) (Nat.le_refl _) hv (by rw [HXX.out]; omega)
  go_enter Tryz.func13, Tryz.ntmps13
  go_wp2_with fail
  clear hw0 hX q0 q1 q2
  refine (good_any n lv S A v c _ HSM.out HL.out).mono ?_
  rintro e w1 ⟨hb, r, rfl, hr⟩
  have HR := mkHid hr
  have HBE := mkHid hb
  clear hb hr
  cases hrb : r
  · have HNO : Hid (MvR n lv v 0 c S (shS n v c S) noS) := mkHid ⟨fun h => (by have := HR.out.2 ⟨h.1, h.2.pv, h.2.pl, h.2.pc⟩; rw [hrb] at this; cases this), fun _ => rfl⟩
    subst hrb
    have HF := mkHid (HSH.out _ (below_step HB.out HBE.out))
    obtain ⟨r0, r1, r2, t0, t1, t2⟩ := R0.out.below HBE.out
    go_wp2
    refine bodyPost_ret (v := .agg #[.slice none 0 0, .slice none 0 0, .slice none 0 0]) (by simp [results, Tryz.results13, go_sem, *]) rfl ⟨noS, HNO.out, HF.out⟩
  have HG := mkHid (HR.out.1 hrb)
  subst hrb
  clear HR
  have HMP : Hid (MvP n lv v 0 c) := mkHid ⟨HG.out.2.1, HG.out.2.2.1, by have := HG.out.1.len.1; omega, by have := HG.out.2.1; omega, HG.out.2.2.2⟩
  clear HSH
  obtain ⟨q0, q1, q2, _, _, _⟩ := P0.out.below HBE.out
  go_wp2_with fail
  clear q0 q1 q2
  refine (lShift_any n lv v c S A _ HSM.out HG.out.1 HG.out.2.1.1 HG.out.2.2.2 (HL.out.below HBE.out)).mono ?_
  obtain ⟨Zs, hZs⟩ : ∃ z, shS n v c S = z := ⟨_, rfl⟩
  have HZ : Hid (MvR n lv v 0 c S (shS n v c S) Zs) := mkHid ⟨fun _ => hZs.symm, fun h => absurd ⟨HG.out.1, HMP.out⟩ h⟩
  have HMM : Hid (shS n v c S = Zs) := mkHid hZs
  rw [hZs]
  clear hZs
  rintro e w7 ⟨A', rfl, hO, hb⟩
  have HF := mkHid (gives_shut (Yb := X + 1) hO (by have := HBE.out.size; have := HZ0.out; omega) (Nat.le_refl _) (below_step (below_step HB.out HBE.out) hb) (by rw [HXX.out]; omega))
  obtain ⟨r0, r1, r2, t0, t1, t2⟩ := R0.out.below (below_step HBE.out hb)
  clear hO hb
  go_wp2
  refine bodyPost_ret (v := .agg #[.slice A'.a0 Zs.B.length A'.c0, .slice A'.a1 Zs.V.length A'.c1, .slice A'.a2 Zs.M.length A'.c2]) (by simp [results, Tryz.results13, go_sem, *]) rfl ⟨Zs, HZ.out, HF.out⟩
end Go.Proofs.YtodjmpocpfkpaaaGreat
