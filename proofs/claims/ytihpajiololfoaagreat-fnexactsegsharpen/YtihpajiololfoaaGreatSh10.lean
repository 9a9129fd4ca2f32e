/-
  CONTRACTS of the program's isInLimits, SegOk.
  CONTRACT of the program's rowOf: a Seg as links.
-/
import Derived.Test.YtihpajiololfoaaGreatSh09
import Derived.Test.YtihpajiololfoaaGreatSh06
namespace Go.Proofs.YtihpajiololfoaaGreat
open Go.RowKit

structure LimP (S : SG) : Prop where
 k1 : 1 ≤ S.B.length
 k2 : S.B.length ≤ 16
 v : S.V.length + 1 = S.B.length
 m : S.M.length = S.V.length
 t : S.B.flatten.length ≤ 40
set_option maxRecDepth 100000 in
set_option maxHeartbeats 3200000 in
theorem isInLimits_any (S : SG) (A : SAd) (w : World) (hs : Small S) (hl : SegAt w A S) :
  Calls Tryz.prog 118 #[.agg #[.slice A.a0 S.B.length A.c0, .slice A.a1 S.V.length A.c1, .slice A.a2 S.M.length A.c2]] w fun e w' => Tells w w' e (LimP S) := by
 have hsb := hs.b
 have hsv := hs.v
 have hsm := hs.m
 have HSM := mkHid hs
 clear hs
 obtain ⟨w0, hw0⟩ : ∃ x : World, w.alloc (.cells #[.slice A.a0 S.B.length A.c0, .slice A.a1 S.V.length A.c1, .slice A.a2 S.M.length A.c2] 35) = x := ⟨_, rfl⟩
 obtain ⟨X, hX⟩ : ∃ x, w.heap.size = x := ⟨_, rfl⟩
 have HB : Hid (Below w.heap.size w w0) := mkHid (by rw [← hw0]; exact bl_alloc (Below.refl _ _) _)
 have P0 : Hid (G3 w0 X (.slice A.a0 S.B.length A.c0) (.slice A.a1 S.V.length A.c1) (.slice A.a2 S.M.length A.c2)) := mkHid (by rw [← hw0, ← hX]; exact G3.new _ _ _ _ _)
 have HL := mkHid (hl.below HB.out)
 clear hl
 obtain ⟨q0, q1, q2, _, _, _⟩ := P0.out
 cases hbt : btw (S.B.length : Int) 1 16
 ·have HNO : Hid (¬ LimP S) := mkHid fun h => of_decide_eq_false hbt ⟨by have := h.k1; omega, by have := h.k2; omega⟩
  go_enter Tryz.func118, Tryz.ntmps118
  go_wp2_with (first | (go_at_call 129; refine (isBetween_any _ _ _ _).mono ?_; rintro e w' ⟨rfl, rfl⟩))
  go_ret
  exact Tells.no HB.out HNO.out
 obtain ⟨hk1, hk2⟩ : 1 ≤ (S.B.length : Int) ∧ (S.B.length : Int) ≤ 16 := of_decide_eq_true hbt
 obtain ⟨kk, hkk⟩ : ∃ kk, S.B.length - 1 = kk := ⟨_, rfl⟩
 have hwk : IntKind.i64.wrap ((S.B.length : Int) - 1) = (kk : Int) := by rw [IntWalk.i64_in _ (by omega)]; omega
 have hwk2 : wrap64 ((S.B.length : Int) - 1) = (kk : Int) := by unfold wrap64; omega
 by_cases hv1 : S.V.length ≠ kk
 ·have HNO : Hid (¬ LimP S) := mkHid fun h => by have := h.v; omega
  have hv2 : ((S.V.length : Int) != (kk : Int)) = true := by simp; omega
  clear hkk
  go_enter Tryz.func118, Tryz.ntmps118
  go_wp2_with (first | (go_at_call 129; refine (isBetween_any _ _ _ _).mono ?_; rintro e w' ⟨rfl, rfl⟩))
  go_ret
  exact Tells.no HB.out HNO.out
 have hv2 : ((S.V.length : Int) != (kk : Int)) = false := by simp; omega
 by_cases hm1 : S.M.length ≠ S.V.length
 ·have HNO : Hid (¬ LimP S) := mkHid fun h => by have := h.m; omega
  have hm2 : ((S.M.length : Int) != (S.V.length : Int)) = true := by simp; omega
  clear hkk
  go_enter Tryz.func118, Tryz.ntmps118
  go_wp2_with (first | (go_at_call 129; refine (isBetween_any _ _ _ _).mono ?_; rintro e w' ⟨rfl, rfl⟩))
  go_ret
  exact Tells.no HB.out HNO.out
 have hm2 : ((S.M.length : Int) != (S.V.length : Int)) = false := by simp; omega
 have HK : Hid (1 ≤ S.B.length ∧ S.B.length ≤ 16 ∧ S.V.length + 1 = S.B.length ∧ S.M.length = S.V.length) := mkHid ⟨by omega, by omega, by omega, by omega⟩
 obtain ⟨b, off, hab, _, hq⟩ := HL.out.b.cons (by omega)
 have HQ := mkHid hq
 rw [hab] at hw0 q0 ⊢
 clear hkk hv1 hm1 hab hq
 go_enter Tryz.func118, Tryz.ntmps118
 go_wp2_with (first | (go_at_call 129; refine (isBetween_any _ _ _ _).mono ?_; rintro e w' ⟨rfl, rfl⟩))
 clear hw0 hX q0 q1 q2
 go_loopg [3, 33, 5] S.B.length (fun g s3 s33 s5 wr => ∃ (k : Nat), k ≤ S.B.length ∧ s33 = .int .i64 k ∧ s3 = .int .i64 ((S.B.take k).flatten.length : Nat) ∧ S.B.length - k ≤ g ∧ wr = w0)
 case atStart => exact ⟨0, Nat.zero_le _, rfl, rfl, by omega, rfl⟩
 case round =>
  obtain ⟨k, hk, rfl, rfl, hgk, rfl⟩ := hrel
  obtain ⟨tt, htt⟩ : ∃ tt, (S.B.take k).flatten.length = tt := ⟨_, rfl⟩
  have HTT := mkHid htt
  have hle1 : tt ≤ 1048576 := by have h1 := tot_take S.B k; have h2 := HSM.out.t; rw [tot_flatten] at h2; omega
  rw [htt]
  clear htt
  by_cases hlt : k < S.B.length
  ·obtain ⟨l, hx⟩ : ∃ x, S.B[k]? = some x := ⟨_, List.getElem?_eq_getElem hlt⟩
   obtain ⟨ao, cp, c0, _⟩ := HQ.out k l hx
   have HSU := mkHid (tot_succ hx)
   have hle2 : l.length ≤ 1048576 := HSM.out.row k l hx
   clear hx
   have i0 : (0 : Int) ≤ (k : Int) := by omega
   have i1 : (k : Int) < (S.B.length : Int) := by omega
   go_wp2
   go_roundg (S.B.length - (k + 1))
   case measure => omega
   case rel => exact ⟨k + 1, by omega, by go_num, by rw [HSU.out, HTT.out]; simp, Nat.le_refl _, by trivial⟩
  ·have e : k = S.B.length := by omega
   have HTA : Hid (S.B.flatten.length = tt) := mkHid (by have h := HTT.out; rw [e, List.take_length] at h; exact h)
   have i1 : ¬ (k : Int) < (S.B.length : Int) := by omega
   clear e
   by_cases h40 : tt ≤ 40
   ·have h41 : (tt : Int) ≤ 40 := by omega
    have h42 : decide (tt ≤ 40) = true := decide_eq_true h40
    have HYES : Hid (LimP S) := mkHid ⟨HK.out.1, HK.out.2.1, HK.out.2.2.1, HK.out.2.2.2, by have := HTA.out; omega⟩
    go_wp2
    go_ret
    exact Tells.yes HB.out HYES.out
   ·have h41 : ¬ (tt : Int) ≤ 40 := by omega
    have h42 : decide (tt ≤ 40) = false := decide_eq_false h40
    have HNO : Hid (¬ LimP S) := mkHid fun h => by have := h.t; have := HTA.out; omega
    go_wp2
    go_ret
    exact Tells.no HB.out HNO.out
set_option maxRecDepth 100000 in
set_option maxHeartbeats 3200000 in
theorem iSegOk_any (n lv : Int) (S : SG) (A : SAd) (w : World) (hs : Small S) (hl : SegAt w A S) :
  Calls Tryz.prog 71 #[.int .i64 n, .int .i64 lv, .agg #[.slice A.a0 S.B.length A.c0, .slice A.a1 S.V.length A.c1, .slice A.a2 S.M.length A.c2]] w fun e w' => Tells w w' e (OkS n lv S.B S.V S.M) := by
 have hsb := hs.b
 have hsv := hs.v
 have hst : S.B.flatten.length ≤ 1048576 := by have h := hs.t; rw [tot_flatten] at h; exact h
 have HST := mkHid hst
 have HSM := mkHid hs
 clear hs hst
 obtain ⟨w0, hw0⟩ : ∃ x : World, w.alloc (.cells #[.slice A.a0 S.B.length A.c0, .slice A.a1 S.V.length A.c1, .slice A.a2 S.M.length A.c2] 35) = x := ⟨_, rfl⟩
 obtain ⟨X, hX⟩ : ∃ x, w.heap.size = x := ⟨_, rfl⟩
 have HB : Hid (Below w.heap.size w w0) := mkHid (by rw [← hw0]; exact bl_alloc (Below.refl _ _) _)
 have P0 : Hid (G3 w0 X (.slice A.a0 S.B.length A.c0) (.slice A.a1 S.V.length A.c1) (.slice A.a2 S.M.length A.c2)) := mkHid (by rw [← hw0, ← hX]; exact G3.new _ _ _ _ _)
 have HL := mkHid (hl.below HB.out)
 clear hl
 obtain ⟨q0, q1, q2, _, _, _⟩ := P0.out
 cases hlen : lenB n lv
 ·have HNO : Hid (¬ OkS n lv S.B S.V S.M) := mkHid fun h => by have := lenB_iff.2 h.len; rw [hlen] at this; cases this
  go_enter Tryz.func71, Tryz.ntmps71
  go_wp2_with (first | (go_at_call 117; refine (iLen_any _ _ _).mono ?_; rintro e w' ⟨rfl, rfl⟩))
  go_ret
  exact Tells.no HB.out HNO.out
 go_enter Tryz.func71, Tryz.ntmps71
 go_wp2_with (first | (go_at_call 117; refine (iLen_any _ _ _).mono ?_; rintro e w' ⟨rfl, rfl⟩) | fail)
 clear hw0 hX q0 q1 q2
 refine (isInLimits_any S A _ HSM.out HL.out).mono ?_
 rintro e w1 ⟨hb, r, rfl, hr⟩
 have HR := mkHid hr
 have HB1 := mkHid (below_step HB.out hb)
 have P1 := mkHid (P0.out.below hb)
 have L1 := mkHid (HL.out.below hb)
 clear hb hr P0 HL HB
 cases hrb : r
 ·have HNO : Hid (¬ OkS n lv S.B S.V S.M) := mkHid fun h => by have := HR.out.2 ⟨h.k1, h.k2, h.v, by have := h.m; have := h.v; omega, h.tot⟩; rw [hrb] at this; cases this
  subst hrb
  go_wp2
  go_ret
  exact Tells.no HB1.out HNO.out
 have HLP := mkHid (HR.out.1 hrb)
 subst hrb
 obtain ⟨b0, hb0, hhd⟩ := head_get HLP.out.k1
 obtain ⟨bl, hbl, hlst⟩ := last_get HLP.out.k1
 obtain ⟨kk, hkk⟩ : ∃ kk, S.B.length - 1 = kk := ⟨_, rfl⟩
 rw [hkk] at hbl
 have hk1 : 1 ≤ S.B.length := HLP.out.k1
 have hwk : IntKind.i64.wrap ((S.B.length : Int) - 1) = (kk : Int) := by rw [IntWalk.i64_in _ (by omega)]; omega
 have hwk2 : wrap64 ((S.B.length : Int) - 1) = (kk : Int) := by unfold wrap64; omega
 obtain ⟨b, off, hab, hlb, hq⟩ := L1.out.b.cons (by omega)
 obtain ⟨ao, cp, c0, hat0⟩ := hq 0 b0 hb0
 obtain ⟨al, cl, c1, hatl⟩ := hq kk bl hbl
 rw [Nat.add_zero] at c0
 have HA0 := mkHid hat0
 have HAl := mkHid hatl
 have HHD := mkHid hhd
 have HLS := mkHid hlst
 have HM0 := mkHid (HSM.out.row 0 b0 hb0)
 have HMl := mkHid (HSM.out.row kk bl hbl)
 obtain ⟨q0, q1, q2, _, _, _⟩ := P1.out
 rw [hab] at q0
 have i0 : (0 : Int) < (S.B.length : Int) := by omega
 have i1 : (kk : Int) < (S.B.length : Int) := by omega
 have i2 : (0 : Int) ≤ (kk : Int) := by omega
 clear hq hb0 hbl hat0 hatl hhd hlst hkk
 go_wp2
 go_quiet (fail)
 have HAB := mkHid hab
 clear hab
 go_wp2_with fail
 clear q0 q1 q2 c0 c1
 obtain ⟨wq, hwq⟩ : ∃ x, w1.drewN nq = x := ⟨_, rfl⟩
 have BQ : Below w1.heap.size w1 wq := by rw [← hwq]; exact ⟨rfl, rfl, rfl, Nat.le_refl _, fun _ _ => rfl⟩
 have HB2 := mkHid (below_step HB1.out BQ)
 have P2 := mkHid (P1.out.below BQ)
 have L2 := mkHid (L1.out.below BQ)
 have HA2 := mkHid (HA0.out.below BQ)
 have HAl2 := mkHid (HAl.out.below BQ)
 rw [hwq]
 clear hwq BQ HB1 P1 L1 HA0 HAl
 refine (areBounds_any n S.B _ A.c0 _ hsb HST.out (by have h := L2.out.b; rw [HAB.out] at h; exact h)).mono ?_
 rintro e w2 ⟨hb, r, rfl, hr⟩
 have HR2 := mkHid hr
 have HB3 := mkHid (below_step HB2.out hb)
 have P3 := mkHid (P2.out.below hb)
 have L3 := mkHid (L2.out.below hb)
 have HA3 := mkHid (HA2.out.below hb)
 have HAl3 := mkHid (HAl2.out.below hb)
 clear hb hr HB2 P2 L2 HA2 HAl2
 cases hrb : r
 ·have HNO : Hid (¬ OkS n lv S.B S.V S.M) := mkHid fun h => by have := HR2.out.2 ⟨h.rows, h.nodup⟩; rw [hrb] at this; cases this
  subst hrb
  go_wp2
  go_ret
  exact Tells.no HB3.out HNO.out
 have HBP := mkHid (HR2.out.1 hrb)
 subst hrb
 go_wp2_with fail
 refine (contains_any b0 ao cp (0, 0) _ (by have := HM0.out; unfold maxLen; omega) HA3.out).mono ?_
 rintro e w3 ⟨rfl, hb⟩
 have HB4 := mkHid (below_step HB3.out hb)
 have P4 := mkHid (P3.out.below hb)
 have L4 := mkHid (L3.out.below hb)
 have HAl4 := mkHid (HAl3.out.below hb)
 clear hb HB3 P3 L3 HA3 HAl3
 obtain ⟨r2, hr2⟩ : ∃ r, decide (((0, 0) : Y) ∈ b0) = r := ⟨_, rfl⟩
 rw [hr2]
 cases hrc : r2
 ·have HNO : Hid (¬ OkS n lv S.B S.V S.M) := mkHid fun h => by have h1 := h.first; rw [HHD.out] at h1; rw [hrc] at hr2; exact of_decide_eq_false hr2 h1
  subst hrc
  clear hr2
  go_wp2
  go_ret
  exact Tells.no HB4.out HNO.out
 have HFI : Hid (((0, 0) : Y) ∈ S.B.headD []) := mkHid (by rw [HHD.out]; rw [hrc] at hr2; exact of_decide_eq_true hr2)
 subst hrc
 clear hr2
 go_wp2_with fail
 refine (contains_any bl al cl (lv, 0) _ (by have := HMl.out; unfold maxLen; omega) HAl4.out).mono ?_
 rintro e w4 ⟨rfl, hb⟩
 have HB5 := mkHid (below_step HB4.out hb)
 have P5 := mkHid (P4.out.below hb)
 have L5 := mkHid (L4.out.below hb)
 clear hb HB4 P4 L4 HAl4
 obtain ⟨r3, hr3⟩ : ∃ r, decide (((lv, 0) : Y) ∈ bl) = r := ⟨_, rfl⟩
 rw [hr3]
 cases hrd : r3
 ·have HNO : Hid (¬ OkS n lv S.B S.V S.M) := mkHid fun h => by have h1 := h.last; rw [HLS.out] at h1; rw [hrd] at hr3; exact of_decide_eq_false hr3 h1
  subst hrd
  clear hr3
  go_wp2
  go_ret
  exact Tells.no HB5.out HNO.out
 have HLA : Hid (((lv, 0) : Y) ∈ S.B.getLastD []) := mkHid (by rw [HLS.out]; rw [hrd] at hr3; exact of_decide_eq_true hr3)
 subst hrd
 clear hr3
 obtain ⟨q0, q1, q2, _, _, _⟩ := P5.out
 go_wp2_with fail
 clear q0 q1 q2
 refine (areVals_any S.V A.a1 A.c1 _ hsv L5.out.v).mono ?_
 rintro e w5 ⟨hb, r4, rfl, hr4⟩
 have HR4 := mkHid hr4
 have HB6 := mkHid (below_step HB5.out hb)
 clear hb hr4
 cases hre : r4
 ·have HNO : Hid (¬ OkS n lv S.B S.V S.M) := mkHid fun h => by have := HR4.out.2 ⟨h.vals⟩; rw [hre] at this; cases this
  subst hre
  go_wp2
  go_ret
  exact Tells.no HB6.out HNO.out
 have HYES : Hid (OkS n lv S.B S.V S.M) := mkHid ⟨lenB_iff.1 hlen, HLP.out.k1, HLP.out.k2, HLP.out.v, by have := HLP.out.m; have := HLP.out.v; omega, HLP.out.t, HBP.out.rows, HBP.out.nodup, (HR4.out.1 hre).ok, HFI.out, HLA.out⟩
 subst hre
 go_wp2
 go_ret
 exact Tells.yes HB6.out HYES.out
end Go.Proofs.YtihpajiololfoaaGreat
namespace Go.Proofs.YtihpajiololfoaaGreat
open Go.RowKit

def linksOf : List (List Y) → List VV → List Bool → List Lk
 | [], _, _ => []
 | [b], _, _ => [⟨b, (0, 0, false), false⟩]
 | b :: B, V, M => ⟨b, V.headD (0, 0, false), M.headD false⟩ :: linksOf B V.tail M.tail
theorem links_step {B : List (List Y)} {V : List VV} {M : List Bool} {i : Nat} {b : List Y} {v : VV} {m : Bool} (hb : B[i]? = some b) (hv : V[i]? = some v) (hm : M[i]? = some m) (hl : i + 1 < B.length) :
  linksOf (B.drop i) (V.drop i) (M.drop i) = ⟨b, v, m⟩ :: linksOf (B.drop (i + 1)) (V.drop (i + 1)) (M.drop (i + 1)) := by
 obtain ⟨h1, rfl⟩ := List.getElem?_eq_some_iff.1 hb
 obtain ⟨h2, rfl⟩ := List.getElem?_eq_some_iff.1 hv
 obtain ⟨h3, rfl⟩ := List.getElem?_eq_some_iff.1 hm
 rw [List.drop_eq_getElem_cons h1, List.drop_eq_getElem_cons h2, List.drop_eq_getElem_cons h3]
 cases hd : B.drop (i + 1) with
 | nil => have := congrArg List.length hd; simp at this; omega
 | cons c r => rfl
theorem links_last {B : List (List Y)} {V : List VV} {M : List Bool} {i : Nat} {b : List Y} (hb : B[i]? = some b) (hl : i + 1 = B.length) : linksOf (B.drop i) (V.drop i) (M.drop i) = [⟨b, (0, 0, false), false⟩] := by
 obtain ⟨h1, rfl⟩ := List.getElem?_eq_some_iff.1 hb
 rw [List.drop_eq_getElem_cons h1, List.drop_eq_nil_of_le (by omega)]
 rfl
end Go.Proofs.YtihpajiololfoaaGreat
