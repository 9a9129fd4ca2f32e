/-
  CONTRACT of the specification's SegOk.
  CONTRACTS of the specification's l10Drop and SegDrop.
  PURE: what is said between two bounds; CONTRACTS of the specification's l13Among and the program's saidBetween.
  CONTRACTS of the leaves of ranges: bounds, none, tests, of the program and of the specification.
  MODELS of the functions on ranges (plain), CONTRACTS of the specification's.
  WHAT A CALL LEAVES AS IT WAS, as rules for the walk.
-/
import Derived.Test.YtihpajiololfoaaGreatSh05
import Derived.Test.YtihpajiololfoaaGreatSh14
import Derived.Test.YtihpajiololfoaaGreatSh15
import Derived.Test.YtihpajiololfoaaGreatSh16
import Derived.Test.YtihpajiololfoaaGreatSh17
import Derived.Test.YtihpajiololfoaaGreatSh18
import Derived.Test.YtihpajiololfoaaGreatSh19
import Derived.Test.YtihpajiololfoaaGreatSh12
import Derived.Test.YtihpajiololfoaaGreatRows
import Derived.WalkKit
import Derived.WalkSpells
import Derived.WalkLawsBesides
import Derived.Deep.RegionHeld3
import Derived.Deep.RegionWith
import Derived.Below
import Derived.ChangeOld
namespace Go.Proofs.YtihpajiololfoaaGreat
open Go.RowKit

set_option maxRecDepth 100000 in
set_option maxHeartbeats 12800000 in
theorem sSegOk_any (n lv : Int) (S : SG) (A : SAd) (w : World) (hs : Small S) (hl : SegAt w A S) :
  Calls Tryz.prog 35 #[.int .i64 n, .int .i64 lv, .agg #[.slice A.a0 S.B.length A.c0, .slice A.a1 S.V.length A.c1, .slice A.a2 S.M.length A.c2]] w fun e w' => Tells w w' e (OkS n lv S.B S.V S.M) := by
 have HSM := mkHid hs
 have HBM : Hid (S.B.length ≤ maxLen) := mkHid (by have := hs.b; unfold maxLen; omega)
 have HBR : Hid (∀ (i : Nat) (l : List Y), S.B[i]? = some l → l.length ≤ maxLen) := mkHid fun i l hl => (by have := hs.row i l hl; unfold maxLen; omega)
 have hbl : (S.B.length : Int) ≤ 9223372036854775807 := by have := hs.b; omega
 clear hs
 obtain ⟨w0, hw0⟩ : ∃ x : World, w.alloc (.cells #[.slice A.a0 S.B.length A.c0, .slice A.a1 S.V.length A.c1, .slice A.a2 S.M.length A.c2] 35) = x := ⟨_, rfl⟩
 obtain ⟨X, hX⟩ : ∃ x, w.heap.size = x := ⟨_, rfl⟩
 have HB : Hid (Below w.heap.size w w0) := mkHid (by rw [← hw0]; exact bl_alloc (Below.refl _ _) _)
 have P0 : Hid (G3 w0 X (.slice A.a0 S.B.length A.c0) (.slice A.a1 S.V.length A.c1) (.slice A.a2 S.M.length A.c2)) := mkHid (by rw [← hw0, ← hX]; exact G3.new _ _ _ _ _)
 have HL := mkHid (hl.below HB.out)
 clear hl
 skip
 obtain ⟨q0, q1, q2, _, _, _⟩ := P0.out
 cases hlen : lenB n lv
 ·have HNO : Hid (¬ OkS n lv S.B S.V S.M) := mkHid (fun h => by have := lenB_iff.2 h.len; rw [hlen] at this; cases this)
  go_enter Tryz.func35, Tryz.ntmps35
  go_wp2_with (first | (go_at_call 76; refine (sLen_any _ _ _).mono ?_; rintro e w' ⟨rfl, rfl⟩))
  go_ret
  exact Tells.no HB.out HNO.out
 have HLEN := mkHid (lenB_iff.1 hlen)
 by_cases hk1 : S.B.length < 1
 ·have HNO : Hid (¬ OkS n lv S.B S.V S.M) := mkHid (fun h => by have := h.k1; omega)
  have hk1i : (S.B.length : Int) < 1 := by omega
  go_enter Tryz.func35, Tryz.ntmps35
  go_wp2_with (first | (go_at_call 76; refine (sLen_any _ _ _).mono ?_; rintro e w' ⟨rfl, rfl⟩))
  go_ret
  exact Tells.no HB.out HNO.out
 have hk1i : ¬ (S.B.length : Int) < 1 := by omega
 by_cases hk2 : 16 < S.B.length
 ·have HNO : Hid (¬ OkS n lv S.B S.V S.M) := mkHid (fun h => by have := h.k2; omega)
  have hk2i : (16 : Int) < (S.B.length : Int) := by omega
  go_enter Tryz.func35, Tryz.ntmps35
  go_wp2_with (first | (go_at_call 76; refine (sLen_any _ _ _).mono ?_; rintro e w' ⟨rfl, rfl⟩))
  go_ret
  exact Tells.no HB.out HNO.out
 have hk2i : ¬ (16 : Int) < (S.B.length : Int) := by omega
 obtain ⟨kk, hkk⟩ : ∃ kk, S.B.length = kk + 1 := ⟨S.B.length - 1, by omega⟩
 have hwk : IntKind.i64.wrap ((S.B.length : Int) - 1) = (kk : Int) := by rw [IntWalk.i64_in _ (by omega)]; omega
 have hwk2 : wrap64 ((S.B.length : Int) - 1) = (kk : Int) := by unfold wrap64; omega
 have HKK := mkHid hkk
 by_cases hv1 : S.V.length ≠ kk
 ·have HNO : Hid (¬ OkS n lv S.B S.V S.M) := mkHid (fun h => by have := h.v; omega)
  have hv2 : ((S.V.length : Int) != (kk : Int)) = true := by simp; omega
  clear hkk
  go_enter Tryz.func35, Tryz.ntmps35
  go_wp2_with (first | (go_at_call 76; refine (sLen_any _ _ _).mono ?_; rintro e w' ⟨rfl, rfl⟩))
  go_ret
  exact Tells.no HB.out HNO.out
 have hv1 : S.V.length = kk := by omega
 by_cases hm1 : S.M.length ≠ kk
 ·have HNO : Hid (¬ OkS n lv S.B S.V S.M) := mkHid (fun h => by have := h.m; omega)
  have hv2 : ((S.V.length : Int) != (kk : Int)) = false := by simp; omega
  have hm2 : ((S.M.length : Int) != (kk : Int)) = true := by simp; omega
  clear hkk hv1
  go_enter Tryz.func35, Tryz.ntmps35
  go_wp2_with (first | (go_at_call 76; refine (sLen_any _ _ _).mono ?_; rintro e w' ⟨rfl, rfl⟩))
  go_ret
  exact Tells.no HB.out HNO.out
 have hm1 : S.M.length = kk := by omega
 have hv2 : ((S.V.length : Int) != (kk : Int)) = false := by simp; omega
 have hm2 : ((S.M.length : Int) != (kk : Int)) = false := by simp; omega
 have HV1 := mkHid hv1
 have HM1 := mkHid hm1
 clear hkk hv1 hm1
 go_enter Tryz.func35, Tryz.ntmps35
 go_wp2_with (first | (go_at_call 76; refine (sLen_any _ _ _).mono ?_; rintro e w' ⟨rfl, rfl⟩))
 clear hw0 hX q0 q1 q2
 go_loopg [8, 9] S.B.length (fun g s8 s9 wr => ∃ (i : Nat), i ≤ S.B.length ∧ s9 = .int .i64 i ∧ s8 = .int .i64 ((S.B.take i).flatten.length : Nat) ∧ S.B.length - i ≤ g ∧ (S.B.take i).flatten.length ≤ 40 ∧ (∀ (q : Nat) (b : List Y), q < i → S.B[q]? = some b → RowS n S.B q b) ∧ Below w0.heap.size w0 wr)
 case atStart => exact ⟨0, Nat.zero_le _, rfl, rfl, by omega, by simp, fun q b h => by omega, Below.refl _ _⟩
 case round =>
  obtain ⟨i, hi, rfl, rfl, hgi, h40, hrows, hbel⟩ := hrel
  have HRO := mkHid hrows
  have P1 := mkHid (P0.out.below hbel)
  have HL1 := mkHid (HL.out.b.below hbel)
  have HLV := mkHid (HL.out.below hbel)
  have HB2 := mkHid (below_step HB.out hbel)
  have HBW := mkHid hbel
  have H40 := mkHid h40
  clear hrows hbel
  obtain ⟨tt, htt⟩ : ∃ tt, (S.B.take i).flatten.length = tt := ⟨_, rfl⟩
  have HTT := mkHid htt
  rw [htt] at h40 ⊢
  clear htt
  obtain ⟨q0, q1, q2, _, _, _⟩ := P1.out
  by_cases hlt : i < S.B.length
  ·obtain ⟨l, hx⟩ : ∃ x, S.B[i]? = some x := ⟨_, List.getElem?_eq_getElem hlt⟩
   obtain ⟨b1, off1, hab, hlb1, hq1⟩ := HL1.out.cons (by omega)
   obtain ⟨ao, cp, c0, hat⟩ := hq1 i l hx
   rw [hab] at q0
   have HAT := mkHid hat
   have HI := mkHid hx
   have HM := mkHid (HBR.out i l hx)
   have hll : l.length ≤ 1048576 := HSM.out.row i l hx
   have HSU := mkHid (tot_succ hx)
   clear hq1 hx hat hab
   have i0 : (0 : Int) ≤ (i : Int) := by omega
   have i1 : (i : Int) < (S.B.length : Int) := by omega
   skip
   by_cases hne : l.length = 0
   ·have HNO : Hid (¬ OkS n lv S.B S.V S.M) := mkHid (fun h => by have hr := h.row HI.out; exact hr.ne (List.length_eq_zero_iff.1 hne))
    have hne2 : ((l.length : Int) == 0) = true := beq_iff_eq.2 (by omega)
    go_wp2
    go_ret
    exact Tells.no HB2.out HNO.out
   have hne2 : ((l.length : Int) == 0) = false := beq_eq_false_iff_ne.2 (by omega)
   have hle40 : tt ≤ 40 := h40
   by_cases hmax : 40 < tt + l.length
   ·have HNO : Hid (¬ OkS n lv S.B S.V S.M) := mkHid (fun h => by have h1 := h.tot; have h2 := tot_take S.B (i + 1); have h3 := HSU.out; have h4 := HTT.out; omega)
    have hmax2 : (40 : Int) < (tt : Int) + (l.length : Int) := by omega
    go_wp2
    go_ret
    exact Tells.no HB2.out HNO.out
   have hmax2 : ¬ (40 : Int) < (tt : Int) + (l.length : Int) := by omega
   have hl40 : l.length ≤ 40 := by omega
   go_wp2
   clear q0 q1 q2 c0
   obtain ⟨wo, hwo⟩ : ∃ x, x = wr := ⟨_, rfl⟩
   subst hwo
   go_loopg [11] l.length (fun g s11 wr2 => ∃ (j : Nat), j ≤ l.length ∧ s11 = .int .i64 j ∧ l.length - j ≤ g ∧ Part n S.B i l j ∧ Below wo.heap.size wo wr2)
   case atStart => exact ⟨0, Nat.zero_le _, rfl, by omega, Part.zero _ _ _ _, Below.refl _ _⟩
   case round =>
    obtain ⟨j, hj0, rfl, hgj, hpa, hbel⟩ := hrel
    have HPA := mkHid hpa
    have HB3_ := mkHid (below_step HB2.out hbel)
    have P2_ := mkHid (P1.out.below hbel)
    have HL2_ := mkHid (HL1.out.below hbel)
    have HAJ := mkHid (HAT.out.below hbel)
    have HBW2 := mkHid (below_step HBW.out hbel)
    have HBO2 := mkHid hbel
    clear hpa hbel HB2 P1 HL1
    have HB2 := HB3_
    have P1 := P2_
    have HL1 := HL2_
    clear HB3_ P2_ HL2_
    by_cases hlt2 : j < l.length
    ·obtain ⟨x, hx⟩ : ∃ x, l[j]? = some x := ⟨_, List.getElem?_eq_getElem hlt2⟩
     obtain ⟨b, off, rfl, hlb, hq⟩ := HAJ.out.cons (by omega)
     obtain ⟨d0, d1⟩ := get_y hq hx
     have HX := mkHid hx
     have hcell : ∀ v, Below wr.heap.size wr v → v.cell? ⟨b, off + j * 2, none⟩ = some (.int .i64 x.1) ∧ v.cell? ⟨b, off + j * 2 + 1, none⟩ = some (.int .i64 x.2) := fun v h => ⟨(h.cell (p := ⟨b, off + j * 2, none⟩) hlb).trans d0, (h.cell (p := ⟨b, off + j * 2 + 1, none⟩) hlb).trans d1⟩
     clear hx d0 d1
     have j0 : (0 : Int) ≤ (j : Int) := by omega
     have j1 : (j : Int) < (l.length : Int) := by omega
     go_wp2_with fail
     cases hso : symOkB n x.1 x.2
     ·have HSO := mkHid hso
      have HNO : Hid (¬ OkS n lv S.B S.V S.M) := mkHid (fun h => by have hr := h.row HI.out; exact Bool.false_ne_true (hso.symm.trans ((symB_iff n x).2 (hr.sym x (List.mem_of_getElem? HX.out)))))
      have HZI := HX
      clear hso
      refine reg15_a _ _ _ _ _ _ _ _ _ _ _ HSO hcell j0 j1 _ _ _ _ _ _ _ _ _ _ _ _ _ _ _ _ _ _ _ _ _ _ _ _ _ _ _ _ _ _ _ _ _ _ _ _ _ _ _ _ _ _ _ _ _ _ _ _ _ _ _ _ _ _ _ _ _ _ _ _ _ _ _ _ _ _ _ _ _ _ _ _ _ _ _ _ _ _ _ _ _ _ _ _ _ _ _ _ _ _ _ _ _ _ _ _ _ _ _ _ _ _ _ _ _ _ _ _ _ _ _ _ _ _ _ _ _ _ _ _ _ _ _ _ _ _ ?_
      intro va hW
      have HB3 := mkHid (below_step HB2.out hW)
      clear hW
      go_wp2
      go_ret
      exact Tells.no HB3.out HNO.out
     have HSO := mkHid hso
     have HSP := mkHid ((symB_iff n x).1 hso)
     clear hso
     obtain ⟨z, hz⟩ : ∃ z, toI (inY S.B x) = z := ⟨_, rfl⟩
     have HZ := mkHid hz
     clear hz
     by_cases hj : 0 < j
     ·obtain ⟨jm, hjm⟩ : ∃ jm, j = jm + 1 := ⟨j - 1, by omega⟩
      have HJ := mkHid hjm
      have hwj : IntKind.i64.wrap ((j : Int) - 1) = (jm : Int) := by rw [IntWalk.i64_in _ (by omega)]; omega
      have hwj2 : wrap64 ((j : Int) - 1) = (jm : Int) := by unfold wrap64; omega
      obtain ⟨y, hy⟩ : ∃ y, l[jm]? = some y := ⟨_, List.getElem?_eq_getElem (by omega)⟩
      have HY := mkHid hy
      obtain ⟨e0, e1⟩ := get_y hq hy
      have hcelm : ∀ v, Below wr.heap.size wr v → v.cell? ⟨b, off + jm * 2, none⟩ = some (.int .i64 y.1) ∧ v.cell? ⟨b, off + jm * 2 + 1, none⟩ = some (.int .i64 y.2) := fun v h => ⟨(h.cell (p := ⟨b, off + jm * 2, none⟩) hlb).trans e0, (h.cell (p := ⟨b, off + jm * 2 + 1, none⟩) hlb).trans e1⟩
      have hj1 : (0 : Int) < (j : Int) := by omega
      have hj2 : decide (0 < j) = true := decide_eq_true hj
      have m0 : (0 : Int) ≤ (jm : Int) := by omega
      have m1 : (jm : Int) < (l.length : Int) := by omega
      clear hy e0 e1 hjm hq
      cases hle : lessB y.1 y.2 x.1 x.2
      ·have HLE := mkHid hle
       have HNO : Hid (¬ OkS n lv S.B S.V S.M) := mkHid (fun h => by have hr := h.row HI.out; exact Bool.false_ne_true (hle.symm.trans ((lessB_iff y x).2 (asc_at hr.asc HY.out (by rw [← HJ.out]; exact HX.out)))))
       have HZI := HX
       clear hle
       refine reg15_b _ _ _ _ _ _ _ _ _ _ _ HSO hcell j0 j1 _ _ hwj hj2 m0 m1 hcelm HLE _ _ _ _ _ _ _ _ _ _ _ _ _ _ _ _ _ _ _ _ _ _ _ _ _ _ _ _ _ _ _ _ _ _ _ _ _ _ _ _ _ _ _ _ _ _ _ _ _ _ _ _ _ _ _ _ _ _ _ _ _ _ _ _ _ _ _ _ _ _ _ _ _ _ _ _ _ _ _ _ _ _ _ _ _ _ _ _ _ _ _ _ _ _ _ _ _ _ _ _ _ _ _ _ _ _ _ _ _ _ _ _ _ _ _ _ _ _ _ _ _ _ _ _ _ _ ?_
       intro va hW
       have HB3 := mkHid (below_step HB2.out hW)
       clear hW
       go_wp2
       go_ret
       exact Tells.no HB3.out HNO.out
      have HLE := mkHid hle
      have HLT := mkHid ((lessB_iff y x).1 hle)
      clear hle
      by_cases hzi : z = (i : Int)
      ·have HZI : Hid ((z != (i : Int)) = false) := mkHid (by simp [hzi])
       have HNX := mkHid (HPA.out.next2 HX.out HSP.out (toI_eq.1 (HZ.out.trans hzi)) HJ.out HY.out HLT.out)
       clear hzi
       refine reg15_c _ _ _ _ _ _ _ _ _ _ _ _ _ HSO hcell j0 j1 _ HZ P1 HL1 HBM HBR _ _ hwj hj2 m0 m1 hcelm HLE HZI _ _ _ _ _ _ _ _ _ _ _ _ _ _ _ _ _ _ _ _ _ _ _ _ _ _ _ _ _ _ _ _ _ _ _ _ _ _ _ _ _ _ _ _ _ _ _ _ _ _ _ _ _ _ _ _ _ _ _ _ _ _ _ _ _ _ _ _ _ _ _ _ _ _ _ _ _ _ _ _ _ _ _ _ _ _ _ _ _ _ _ _ _ _ _ _ _ _ _ _ _ _ _ _ _ _ _ _ _ _ _ _ _ _ _ _ _ _ _ _ _ _ _ _ _ _ ?_
       intro va hW
       have HB3 := mkHid (below_step HBO2.out hW)
       clear hW
       go_wp2
       go_roundg (l.length - (j + 1))
       case measure => omega
       case rel => exact ⟨j + 1, by omega, by go_num, Nat.le_refl _, HNX.out, HB3.out⟩
      ·have HZI : Hid ((z != (i : Int)) = true) := mkHid (by simp [hzi])
       have HNO : Hid (¬ OkS n lv S.B S.V S.M) := mkHid (fun h => by have hr := h.row HI.out; exact hzi (by rw [← HZ.out]; exact toI_eq.2 (hr.inn x (List.mem_of_getElem? HX.out))))
       clear hzi
       refine reg15_d _ _ _ _ _ _ _ _ _ _ _ _ _ HSO hcell j0 j1 _ HZ P1 HL1 HBM HBR _ _ hwj hj2 m0 m1 hcelm HLE HZI _ _ _ _ _ _ _ _ _ _ _ _ _ _ _ _ _ _ _ _ _ _ _ _ _ _ _ _ _ _ _ _ _ _ _ _ _ _ _ _ _ _ _ _ _ _ _ _ _ _ _ _ _ _ _ _ _ _ _ _ _ _ _ _ _ _ _ _ _ _ _ _ _ _ _ _ _ _ _ _ _ _ _ _ _ _ _ _ _ _ _ _ _ _ _ _ _ _ _ _ _ _ _ _ _ _ _ _ _ _ _ _ _ _ _ _ _ _ _ _ _ _ _ _ _ _ ?_
       intro va hW
       have HB3 := mkHid (below_step HB2.out hW)
       clear hW
       go_wp2
       go_ret
       exact Tells.no HB3.out HNO.out
     ·have hj1 : ¬ (0 : Int) < (j : Int) := by omega
      have hj2 : decide (0 < j) = false := decide_eq_false hj
      have hj3 : j = 0 := by omega
      have HJ := mkHid hj3
      clear hj3 hq
      by_cases hzi : z = (i : Int)
      ·have HZI : Hid ((z != (i : Int)) = false) := mkHid (by simp [hzi])
       have HNX := mkHid (HPA.out.next HX.out HSP.out (toI_eq.1 (HZ.out.trans hzi)) (fun q y' hq hy' => by have := HJ.out; omega))
       clear hzi
       refine reg15_e _ _ _ _ _ _ _ _ _ _ _ _ _ HSO hcell j0 j1 _ HZ P1 HL1 HBM HBR hj2 HZI _ _ _ _ _ _ _ _ _ _ _ _ _ _ _ _ _ _ _ _ _ _ _ _ _ _ _ _ _ _ _ _ _ _ _ _ _ _ _ _ _ _ _ _ _ _ _ _ _ _ _ _ _ _ _ _ _ _ _ _ _ _ _ _ _ _ _ _ _ _ _ _ _ _ _ _ _ _ _ _ _ _ _ _ _ _ _ _ _ _ _ _ _ _ _ _ _ _ _ _ _ _ _ _ _ _ _ _ _ _ _ _ _ _ _ _ _ _ _ _ _ _ _ _ _ _ ?_
       intro va hW
       have HB3 := mkHid (below_step HBO2.out hW)
       clear hW
       go_wp2
       go_roundg (l.length - (j + 1))
       case measure => omega
       case rel => exact ⟨j + 1, by omega, by go_num, Nat.le_refl _, HNX.out, HB3.out⟩
      ·have HZI : Hid ((z != (i : Int)) = true) := mkHid (by simp [hzi])
       have HNO : Hid (¬ OkS n lv S.B S.V S.M) := mkHid (fun h => by have hr := h.row HI.out; exact hzi (by rw [← HZ.out]; exact toI_eq.2 (hr.inn x (List.mem_of_getElem? HX.out))))
       clear hzi
       refine reg15_f _ _ _ _ _ _ _ _ _ _ _ _ _ HSO hcell j0 j1 _ HZ P1 HL1 HBM HBR hj2 HZI _ _ _ _ _ _ _ _ _ _ _ _ _ _ _ _ _ _ _ _ _ _ _ _ _ _ _ _ _ _ _ _ _ _ _ _ _ _ _ _ _ _ _ _ _ _ _ _ _ _ _ _ _ _ _ _ _ _ _ _ _ _ _ _ _ _ _ _ _ _ _ _ _ _ _ _ _ _ _ _ _ _ _ _ _ _ _ _ _ _ _ _ _ _ _ _ _ _ _ _ _ _ _ _ _ _ _ _ _ _ _ _ _ _ _ _ _ _ _ _ _ _ _ _ _ _ ?_
       intro va hW
       have HB3 := mkHid (below_step HB2.out hW)
       clear hW
       go_wp2
       go_ret
       exact Tells.no HB3.out HNO.out
    ·have e : j = l.length := by omega
     subst e
     have HRS := mkHid (HPA.out.all (fun e => hne (by rw [e]; rfl)))
     have HNR : Hid (∀ (q : Nat) (b : List Y), q < i + 1 → S.B[q]? = some b → RowS n S.B q b) := mkHid fun q b hq hb => (by omega : q < i ∨ q = i).elim (fun h => HRO.out q b h hb) (fun h => by subst h; rw [HI.out] at hb; cases hb; exact HRS.out)
     go_wp2
     go_roundg (S.B.length - (i + 1))
     case measure => omega
     case rel => exact ⟨i + 1, by omega, by go_num, by rw [HSU.out, HTT.out]; simp, Nat.le_refl _, by rw [HSU.out, HTT.out]; omega, HNR.out, HBW2.out⟩
  ·have e : i = S.B.length := by omega
   have HTA : Hid (S.B.flatten.length ≤ 40) := mkHid (by have h1 := H40.out; rw [e, List.take_length] at h1; exact h1)
   have HRA : Hid (∀ (q : Nat) (b : List Y), S.B[q]? = some b → RowS n S.B q b) := mkHid fun q b hb => HRO.out q b (by have := (List.getElem?_eq_some_iff.1 hb).1; omega) hb
   have i1 : ¬ (i : Int) < (S.B.length : Int) := by omega
   clear e H40 HRO
   go_wp2
   clear q0 q1 q2
   obtain ⟨wo, hwo⟩ : ∃ x, x = wr := ⟨_, rfl⟩
   subst hwo
   go_loopg [12] kk (fun g s12 wr2 => ∃ (q : Nat), q ≤ kk ∧ s12 = .int .i64 q ∧ kk - q ≤ g ∧ (∀ (p : Nat) (v : VV), p < q → S.V[p]? = some v → okB v.1 v.2.1 = true) ∧ Below wo.heap.size wo wr2)
   case atStart => exact ⟨0, Nat.zero_le _, rfl, by omega, fun p v h => by omega, Below.refl _ _⟩
   case round =>
    obtain ⟨q, hq0, rfl, hgq, hok, hbel⟩ := hrel
    have HOK := mkHid hok
    have HB3_ := mkHid (below_step HB2.out hbel)
    have P2_ := mkHid (P1.out.below hbel)
    have HL2_ := mkHid (HLV.out.below hbel)
    have HBO := mkHid hbel
    clear hok hbel
    obtain ⟨q0, q1, q2, _, _, _⟩ := P2_.out
    by_cases hlt2 : q < kk
    ·obtain ⟨v, hx⟩ : ∃ x, S.V[q]? = some x := ⟨_, List.getElem?_eq_getElem (by have := HV1.out; omega)⟩
     obtain ⟨b, off, hab, hlb, hq⟩ := HL2_.out.v.cons (by have := HV1.out; omega)
     obtain ⟨c0, c1, c2⟩ := get_v hq hx
     rw [hab] at q1
     have HX := mkHid hx
     have i2 : (0 : Int) ≤ (q : Int) := by omega
     have i3 : (q : Int) < (S.V.length : Int) := by have := HV1.out; omega
     have i4 : (q : Int) < (kk : Int) := by omega
     have i5 : (q : Int) ≤ 20 := by have := HKK.out; omega
     clear hab hq hx
     go_wp2_with fail
     refine (sVok_any v.1 v.2.1 v.2.2 _).mono ?_
     rintro e wv ⟨rfl, hb⟩
     have HB4 := mkHid (below_step HB3_.out hb)
     have HBO4 := mkHid (below_step HBO.out hb)
     clear hb q0 q1 q2 c0 c1 c2
     cases hok : okB v.1 v.2.1
     ·have HNO : Hid (¬ OkS n lv S.B S.V S.M) := mkHid fun h => Bool.false_ne_true (hok.symm.trans (h.vals v (List.mem_of_getElem? HX.out)))
      go_wp2
      go_ret
      exact Tells.no HB4.out HNO.out
     ·have HNX : Hid (∀ (p : Nat) (v : VV), p < q + 1 → S.V[p]? = some v → okB v.1 v.2.1 = true) := mkHid fun p u hp hu => (by omega : p < q ∨ p = q).elim (fun h => HOK.out p u h hu) (fun h => by subst h; rw [HX.out] at hu; cases hu; exact hok)
      go_wp2
      go_roundg (kk - (q + 1))
      case measure => omega
      case rel => exact ⟨q + 1, by omega, by go_num, Nat.le_refl _, HNX.out, HBO4.out⟩
    ·have i4 : ¬ (q : Int) < (kk : Int) := by omega
     have HVA : Hid (∀ v, v ∈ S.V → okB v.1 v.2.1 = true) := mkHid fun v hv => by obtain ⟨p, hp, rfl⟩ := List.getElem_of_mem hv; exact HOK.out p _ (by have := HV1.out; omega) (List.getElem?_eq_getElem hp)
     obtain ⟨z0, hz0⟩ : ∃ z, toI (inY S.B (0, 0)) = z := ⟨_, rfl⟩
     obtain ⟨z1, hz1⟩ : ∃ z, toI (inY S.B (lv, 0)) = z := ⟨_, rfl⟩
     have HZ0 := mkHid hz0
     have HZ1 := mkHid hz1
     clear hz0 hz1
     go_wp2_with fail
     refine (l10In_any S A (0, 0) _ HBM.out HBR.out HL2_.out.b).mono ?_
     rintro e wa ⟨hb, rfl⟩
     rw [HZ0.out]
     have HB4 := mkHid (below_step HB3_.out hb)
     have P4 := mkHid (P2_.out.below hb)
     have HL4 := mkHid (HL2_.out.below hb)
     clear hb q0 q1 q2 P2_ HL2_ HB3_
     by_cases he0 : z0 = 0
     ·have h0 : (z0 == 0) = true := beq_iff_eq.2 he0
      obtain ⟨q0, q1, q2, _, _, _⟩ := P4.out
      have HE0 := mkHid he0
      clear he0
      go_wp2_with fail
      refine (l10In_any S A (lv, 0) _ HBM.out HBR.out HL4.out.b).mono ?_
      rintro e wb ⟨hb, rfl⟩
      rw [HZ1.out]
      have HB5 := mkHid (below_step HB4.out hb)
      clear hb q0 q1 q2
      by_cases he1 : z1 = (kk : Int)
      ·have h1 : (z1 == (kk : Int)) = true := beq_iff_eq.2 he1
       have HYES : Hid (OkS n lv S.B S.V S.M) := mkHid (ok_of HLEN.out (by have := HKK.out; omega) (by omega) (by have := HV1.out; have := HKK.out; omega) (by have := HM1.out; have := HKK.out; omega) HTA.out HRA.out HVA.out (HZ0.out.trans HE0.out) (by rw [HZ1.out, he1]; have := HKK.out; omega))
       clear he1
       go_wp2
       go_ret
       exact Tells.yes HB5.out HYES.out
      ·have h1 : (z1 == (kk : Int)) = false := beq_eq_false_iff_ne.2 he1
       have HNO : Hid (¬ OkS n lv S.B S.V S.M) := mkHid fun h => he1 (by have h2 := (ok_ends h).2; rw [HZ1.out] at h2; have := HKK.out; omega)
       clear he1
       go_wp2
       go_ret
       exact Tells.no HB5.out HNO.out
     ·have h0 : (z0 == 0) = false := beq_eq_false_iff_ne.2 he0
      have HNO : Hid (¬ OkS n lv S.B S.V S.M) := mkHid fun h => he0 (by rw [← HZ0.out]; exact (ok_ends h).1)
      obtain ⟨q0, q1, q2, _, _, _⟩ := P4.out
      clear he0
      go_wp2
      go_ret
      exact Tells.no HB4.out HNO.out
end Go.Proofs.YtihpajiololfoaaGreat
namespace Go.Proofs.YtihpajiololfoaaGreat
open Go.RowKit

/-- A Seg in a box whose bounds alone are of our own. -/
structure GrowB (w : World) (base X : Nat) (A : SAd) (S : SG) : Prop where
 box : w.heap[X]? = some (.cells (sgC A S) 35 (0, 0))
 b : OwnYY w base (.slice A.a0 S.B.length A.c0) S.B
theorem GrowB.lt {w : World} {base X : Nat} {A : SAd} {S : SG} (h : GrowB w base X A S) : X < w.heap.size := heap_lt h.box
theorem GrowB.below {w w' : World} {base X : Nat} {A : SAd} {S : SG} (h : GrowB w base X A S) (hb : Below w.heap.size w w') : GrowB w' base X A S := ⟨(hb.block X h.lt).trans h.box, h.b.below hb⟩
theorem GrowB.g3 {w : World} {base X : Nat} {A : SAd} {S : SG} (h : GrowB w base X A S) : G3 w X (.slice A.a0 S.B.length A.c0) (.slice A.a1 S.V.length A.c1) (.slice A.a2 S.M.length A.c2) :=
 ⟨heap_cell h.box 0, heap_cell h.box 1, heap_cell h.box 2, heap_free h.box 0, heap_free h.box 1, heap_free h.box 2⟩
theorem GrowB.stepB {wr va : World} {base Bx : Nat} {A : SAd} {S : SG} {g c : Nat} {gr : Option Addr} {cr : Nat} {x : List Y} {vs : List Value} (h : GrowB wr base Bx A S) (hbs : base ≤ wr.heap.size) (hvs : wr.ownsRow base 113 1 (.slice A.a0 S.B.length A.c0) S.B.length vs) (hin : Inn wr base vs S.B)
  (hf : ∃ vc, Aft wr (fun v => Own eY 49 v wr.heap.size (.slice gr x.length cr) x) (Value.ownBlock (.slice A.a0 S.B.length A.c0)) (fun v => v.ownsRow base 113 1 (.slice (some ⟨g, 0, none⟩) (S.B.length + 1) c) (S.B.length + 1) (vs ++ [.slice gr x.length cr])) vc ∧ va = vc.setCell ⟨Bx, 0, none⟩ (.slice (some ⟨g, 0, none⟩) (S.B.length + 1) c)) :
  GrowB va base Bx ⟨some ⟨g, 0, none⟩, c, A.a1, A.c1, A.a2, A.c2⟩ ⟨S.B ++ [x], S.V, S.M⟩ ∧ Kp base Bx wr va := by
 obtain ⟨vc, ha, rfl⟩ := hf
 refine ⟨?_, ha.kp hbs (fun q hq => (World.ownsRow.lt hvs q hq).1) _ _ _⟩
 have hX := ha.box (Bx := Bx) h.box (fun v hv q e hq => by subst hq; obtain ⟨c7, h7⟩ := owns_block (owns_below hvs hv) e; have h8 := (hv.block _ h.lt).trans h.box; rw [h7] at h8; simp at h8)
 obtain ⟨vb, h1, h2, h3, h4⟩ := ha
 have e : (S.B ++ [x]).length = S.B.length + 1 := by simp
 have ho := OwnYY.more hin hbs h1 h2 hvs h3 (by rw [e]; exact h4)
 rw [e] at ho
 refine ⟨by rw [heap_set_self hX]; simp [sgC], ?_⟩
 rw [e]
 exact ho.keptT (Only.set vc Bx 0 _) (fun q cur e => by cases e; exact not_typ ⟨_, hX⟩ (by decide) cur) (fun q cur e => by cases e; exact not_typ ⟨_, hX⟩ (by decide) cur)
end Go.Proofs.YtihpajiololfoaaGreat
namespace Go.Proofs.YtihpajiololfoaaGreat
open Go.RowKit

/-- The join of so many from one on. -/
def amg (V : List VV) (fr : Nat) : Nat → VV
 | 0 => noneV
 | k + 1 => jv (amg V fr k) (V.getD (fr + k) noneV)
theorem below_set3 {B : Nat} {w v : World} (h : Below B w v) {X : Nat} (hX : B ≤ X) (a b c : Value) : Below B w (((v.setCell ⟨X, 0, none⟩ a).setCell ⟨X, 1, none⟩ b).setCell ⟨X, 2, none⟩ c) := ((h.setCell (p := ⟨X, 0, none⟩) hX a).setCell (p := ⟨X, 1, none⟩) hX b).setCell (p := ⟨X, 2, none⟩) hX c
end Go.Proofs.YtihpajiololfoaaGreat
namespace Go.Proofs.YtihpajiololfoaaGreat.Q
open Go.RowKit

theorem mkHid {p : Prop} (h : p) : Hid p := h
def valB (n : Int) : Bool := decide (-1000000 ≤ n ∧ n ≤ 1000000)
def btw (a lo hi : Int) : Bool := decide (lo ≤ a ∧ a ≤ hi)
def isB (a b : Int) : Bool := decide (a ≤ b)
def someB (a b : Int) : Bool := decide (-1000000 ≤ a ∧ a ≤ b ∧ b ≤ 1000000)
def okB (a b : Int) : Bool := decide (a = 1 ∧ b = 0 ∨ -1000000 ≤ a ∧ a ≤ b ∧ b ≤ 1000000)
theorem ret_bool {a b : Bool} (h : a = b) : Ending.returned (.bool a) = .returned (.bool b) := by rw [h]
theorem ret_int {k : IntKind} {a b : Int} (h : a = b) : Ending.returned (.int k a) = .returned (.int k b) := by rw [h]
theorem bcell {W w1 : World} (hb : Below W.heap.size W w1) : (∀ b o, b < W.heap.size → w1.cell? ⟨b, o, none⟩ = W.cell? ⟨b, o, none⟩) ∧ (∀ b o, b < W.heap.size → w1.frozen? ⟨b, o, none⟩ = W.frozen? ⟨b, o, none⟩) :=
  ⟨fun b o h => hb.cell (p := ⟨b, o, none⟩) h, fun b o h => hb.frozen (p := ⟨b, o, none⟩) h⟩

set_option maxRecDepth 100000 in
theorem between_any (a lo hi : Int) (w : World) : Calls Tryz.prog 95 #[.int .i64 a, .int .i64 lo, .int .i64 hi] w fun e w' => e = .returned (.bool (btw a lo hi)) ∧ w = w' := by
  unfold btw
  go_enter Tryz.func95, Tryz.ntmps95
  go_wp2
  all_goals (go_ret; exact ⟨ret_bool (by simp_all <;> omega), rfl⟩)
set_option maxRecDepth 100000 in
theorem isBetween_any (a lo hi : Int) (w : World) : Calls Tryz.prog 129 #[.int .i64 a, .int .i64 lo, .int .i64 hi] w fun e w' => e = .returned (.bool (btw a lo hi)) ∧ w = w' := by
  unfold btw
  go_enter Tryz.func129, Tryz.ntmps129
  go_wp2
  all_goals (go_ret; exact ⟨ret_bool (by simp_all <;> omega), rfl⟩)
theorem btw_val (n : Int) : btw n (-1000000) 1000000 = valB n := rfl
set_option maxRecDepth 100000 in
theorem sVal_any (n : Int) (w : World) : Calls Tryz.prog 140 #[.int .i64 n] w fun e w' => e = .returned (.bool (valB n)) ∧ w = w' := by
  go_enter Tryz.func140, Tryz.ntmps140
  go_wp2_with (go_at_call 95; refine (between_any _ _ _ _).mono ?_; rintro e w' ⟨rfl, rfl⟩)
  go_ret
  exact ⟨ret_bool (btw_val n), rfl⟩
set_option maxRecDepth 100000 in
theorem sIs_any (a b : Int) (w : World) : Calls Tryz.prog 106 #[.agg #[.int .i64 a, .int .i64 b]] w fun e w' => e = .returned (.bool (isB a b)) ∧ Below w.heap.size w w' := by
  unfold isB
  go_enter Tryz.func106, Tryz.ntmps106
  go_wp2
  go_ret
  exact ⟨rfl, (Below.refl _ _).alloc (Nat.le_refl _) _⟩
set_option maxRecDepth 100000 in
set_option maxHeartbeats 400000 in
theorem isSome_any (a b : Int) (w : World) : Calls Tryz.prog 67 #[.agg #[.int .i64 a, .int .i64 b]] w fun e w' => e = .returned (.bool (someB a b)) ∧ Below w.heap.size w w' := by
  unfold someB
  go_enter Tryz.func67, Tryz.ntmps67
  go_wp2
  all_goals (go_ret; exact ⟨ret_bool (by simp_all <;> omega), (Below.refl _ _).alloc (Nat.le_refl _) _⟩)
set_option maxRecDepth 100000 in
set_option maxHeartbeats 400000 in
theorem toRange_any (a b : Int) (w : World) : Calls Tryz.prog 26 #[.agg #[.int .i64 a, .int .i64 b]] w fun e w' => e = .returned (.agg #[.int .i64 a, .int .i64 b]) ∧ Below w.heap.size w w' := by
  go_enter Tryz.func26, Tryz.ntmps26
  go_wp2
  exact bodyPost_ret (v := .agg #[.int .i64 a, .int .i64 b]) (by simp [results, Tryz.results26, go_sem]) rfl ⟨rfl, (((Below.refl _ _).alloc (Nat.le_refl _) _).alloc (by simp) _).alloc (by simp; omega) _⟩
end Go.Proofs.YtihpajiololfoaaGreat.Q
namespace Go.Proofs.YtihpajiololfoaaGreat.Q
open Go.RowKit

theorem below_step {w a b : World} (h : Below w.heap.size w a) (hb : Below a.heap.size a b) : Below w.heap.size w b := h.trans (hb.mono h.size)
theorem bl_alloc {w a : World} (h : Below w.heap.size w a) (o : Obj) : Below w.heap.size w (a.alloc o) := h.alloc h.size o
theorem bl_set {w a : World} {p : Addr} (h : Below w.heap.size w a) (hp : w.heap.size ≤ p.block) (u : Value) : Below w.heap.size w (a.setCell p u) := h.setCell hp u
theorem bl_drew {w a : World} (h : Below w.heap.size w a) : Below w.heap.size w a.drew := h.drew
def joinM (a b c d : Int) : Int × Int := if okB a b && okB c d then (if isB a b then (if isB c d then (min a c, max b d) else (a, b)) else (c, d)) else (1, 0)
theorem some_iff {a b : Int} : someB a b = true ↔ -1000000 ≤ a ∧ a ≤ b ∧ b ≤ 1000000 := by unfold someB; simp
theorem ok_iff {a b : Int} : okB a b = true ↔ (a = 1 ∧ b = 0 ∨ -1000000 ≤ a ∧ a ≤ b ∧ b ≤ 1000000) := by unfold okB; simp
set_option maxRecDepth 100000 in
set_option maxHeartbeats 400000 in
theorem sOk_any (a b : Int) (w : World) : Calls Tryz.prog 105 #[.agg #[.int .i64 a, .int .i64 b]] w fun e w' => e = .returned (.bool (okB a b)) ∧ Below w.heap.size w w' := by
  by_cases hn : a = 1 ∧ b = 0
  · obtain ⟨rfl, rfl⟩ := hn
    go_enter Tryz.func105, Tryz.ntmps105
    go_wp2
    go_ret
    exact ⟨ret_bool (by decide), (by repeat (first | exact Below.refl _ _ | refine bl_set ?_ (by simp) _ | refine bl_alloc ?_ _ | refine bl_drew ?_ | refine below_step ?_ (by assumption)))⟩
  · have e0 : okB a b = (isB a b && (valB a && valB b)) := by
      rw [Bool.eq_iff_iff]; unfold okB isB valB; simp; omega
    by_cases h4 : a = 1
    · subst h4
      have h5 : ¬ b = 0 := fun e => hn ⟨rfl, e⟩
      clear hn
      cases h1 : isB 1 b <;> cases h3 : valB b
      all_goals
        simp only [h1, h3] at e0
        have e1 := mkHid e0
        clear e0
        have h2 : valB 1 = true := by decide
        go_enter Tryz.func105, Tryz.ntmps105
        go_wp2_with (first | (go_at_call 106; refine (sIs_any _ _ _).mono ?_; rintro e w' ⟨rfl, hb⟩; obtain ⟨hc, hf⟩ := bcell hb; have hz0 : w.heap.size < w'.heap.size := by have := hb.size; (try simp at this); omega) | (go_at_call 140; refine (sVal_any _ _).mono ?_; rintro e w' ⟨rfl, rfl⟩))
        go_ret
        exact ⟨ret_bool (by rw [e1.out]; first | rfl | simp [*] | (simp; omega)), (by repeat (first | exact Below.refl _ _ | refine bl_set ?_ (by simp) _ | refine bl_alloc ?_ _ | refine bl_drew ?_ | refine below_step ?_ (by assumption)))⟩
    · clear hn
      cases h1 : isB a b <;> cases h2 : valB a <;> cases h3 : valB b
      all_goals
        simp only [h1, h2, h3] at e0
        have e1 := mkHid e0
        clear e0
        go_enter Tryz.func105, Tryz.ntmps105
        go_wp2_with (first | (go_at_call 106; refine (sIs_any _ _ _).mono ?_; rintro e w' ⟨rfl, hb⟩; obtain ⟨hc, hf⟩ := bcell hb; have hz0 : w.heap.size < w'.heap.size := by have := hb.size; (try simp at this); omega) | (go_at_call 140; refine (sVal_any _ _).mono ?_; rintro e w' ⟨rfl, rfl⟩))
        go_ret
        exact ⟨ret_bool (by rw [e1.out]; first | rfl | simp [*] | (simp; omega)), (by repeat (first | exact Below.refl _ _ | refine bl_set ?_ (by simp) _ | refine bl_alloc ?_ _ | refine bl_drew ?_ | refine below_step ?_ (by assumption)))⟩
end Go.Proofs.YtihpajiololfoaaGreat.Q
namespace Go.Proofs.YtihpajiololfoaaGreat.Q
open Go.RowKit

theorem bcell4 {W w1 : World} (hb : Below W.heap.size W w1) : (∀ b o, b < W.heap.size → w1.cell? ⟨b, o, none⟩ = W.cell? ⟨b, o, none⟩) ∧ (∀ b o, b < W.heap.size → w1.frozen? ⟨b, o, none⟩ = W.frozen? ⟨b, o, none⟩) ∧ (∀ b, b < W.heap.size → b < w1.heap.size) ∧ (∀ b, b ≤ W.heap.size → b ≤ w1.heap.size) :=
  ⟨fun b o h => hb.cell (p := ⟨b, o, none⟩) h, fun b o h => hb.frozen (p := ⟨b, o, none⟩) h, fun _ h => Nat.lt_of_lt_of_le h hb.size, fun _ h => Nat.le_trans h hb.size⟩
theorem nlt2 (n : Nat) : n < n + 1 + 1 := by omega
theorem nlt3 (n : Nat) : n < n + 1 + 1 + 1 := by omega
theorem nlt4 (n : Nat) : n < n + 1 + 1 + 1 + 1 := by omega
theorem nle2 (n : Nat) : n ≤ n + 1 + 1 := by omega
theorem nle3 (n : Nat) : n ≤ n + 1 + 1 + 1 := by omega
theorem nle4 (n : Nat) : n ≤ n + 1 + 1 + 1 + 1 := by omega
theorem drew_size (w : World) : w.drew.heap.size = w.heap.size := rfl
theorem bdrew {W w1 : World} (h : Below W.drew.heap.size W.drew w1) : Below W.heap.size W w1 := ⟨h.os, h.tape, h.output, h.size, h.block⟩
theorem below_drew (W w1 : World) : Below W.drew.heap.size W.drew w1 = Below W.heap.size W w1 := propext ⟨bdrew, fun h => ⟨h.os, h.tape, h.output, h.size, h.block⟩⟩
theorem drew_cell (w : World) (a : Addr) : w.drew.cell? a = w.cell? a := rfl
theorem drew_frozen (w : World) (a : Addr) : w.drew.frozen? a = w.frozen? a := rfl
/-- Two numbers in a block that may be written. -/
def Box (v : World) (b : Nat) (x y : Int) : Prop := v.cell? ⟨b, 0, none⟩ = some (.int .i64 x) ∧ v.cell? ⟨b, 1, none⟩ = some (.int .i64 y) ∧ v.frozen? ⟨b, 0, none⟩ = false ∧ v.frozen? ⟨b, 1, none⟩ = false
theorem Box.below {v v' : World} {b : Nat} {x y : Int} (h : Box v b x y) (hb : Below v.heap.size v v') : Box v' b x y := by
  obtain ⟨h0, h1, h2, h3⟩ := h
  have hlt := World.block_lt_of_cell? v _ h0
  exact ⟨(hb.cell (p := ⟨b, 0, none⟩) hlt).trans h0, (hb.cell (p := ⟨b, 1, none⟩) hlt).trans h1, (hb.frozen (p := ⟨b, 0, none⟩) hlt).trans h2, (hb.frozen (p := ⟨b, 1, none⟩) hlt).trans h3⟩
theorem Box.lt {v : World} {b : Nat} {x y : Int} (h : Box v b x y) : b < v.heap.size := World.block_lt_of_cell? v _ h.1
end Go.Proofs.YtihpajiololfoaaGreat.Q
