/-
  CONTRACTS of the program's isInLimits, SegOk.
  CONTRACTS of the small functions on terms and on what is known of two of them.
  CONTRACT of diffs.areBelow: some term of a list is below some term of another one by what is known.
-/
import Derived.Test.YtihpajiololfoaaGreatCb15
import Derived.Test.YtihpajiololfoaaGreatCb10
import Derived.Test.YtihpajiololfoaaGreatCb07
import Derived.Deep.RegionHeld3
import Derived.Test.YtihpajiololfoaaGreatCb13
namespace Go.Proofs.YtihpajiololfoaaGreat
open Go.RowKit

structure LimP (S : SG) : Prop where
 k1 : 1 ≤ S.B.length
 k2 : S.B.length ≤ 16
 v : S.V.length + 1 = S.B.length
 m : S.M.length = S.V.length
 t : S.B.flatten.length ≤ 40
set_option maxRecDepth 100000 in
set_option maxHeartbeats 3200000 in
theorem isInLimits_any (S : SG) (A : SAd) (w : World) (hs : Small S) (hl : SegAt w A S) :
  Calls Tryz.prog 118 #[.agg #[.slice A.a0 S.B.length A.c0, .slice A.a1 S.V.length A.c1, .slice A.a2 S.M.length A.c2]] w fun e w' => Tells w w' e (LimP S) := by
 have hsb := hs.b
 have hsv := hs.v
 have hsm := hs.m
 have HSM := mkHid hs
 clear hs
 obtain ⟨w0, hw0⟩ : ∃ x : World, w.alloc (.cells #[.slice A.a0 S.B.length A.c0, .slice A.a1 S.V.length A.c1, .slice A.a2 S.M.length A.c2] 35) = x := ⟨_, rfl⟩
 obtain ⟨X, hX⟩ : ∃ x, w.heap.size = x := ⟨_, rfl⟩
 have HB : Hid (Below w.heap.size w w0) := mkHid (by rw [← hw0]; exact bl_alloc (Below.refl _ _) _)
 have P0 : Hid (G3 w0 X (.slice A.a0 S.B.length A.c0) (.slice A.a1 S.V.length A.c1) (.slice A.a2 S.M.length A.c2)) := mkHid (by rw [← hw0, ← hX]; exact G3.new _ _ _ _ _)
 have HL := mkHid (hl.below HB.out)
 clear hl
 obtain ⟨q0, q1, q2, _, _, _⟩ := P0.out
 cases hbt : btw (S.B.length : Int) 1 16
 ·have HNO : Hid (¬ LimP S) := mkHid fun h => of_decide_eq_false hbt ⟨by have := h.k1; omega, by have := h.k2; omega⟩
  go_enter Tryz.func118, Tryz.ntmps118
  go_wp2_with (first | (go_at_call 129; refine (isBetween_any _ _ _ _).mono ?_; rintro e w' ⟨rfl, rfl⟩))
  go_ret
  exact Tells.no HB.out HNO.out
 obtain ⟨hk1, hk2⟩ : 1 ≤ (S.B.length : Int) ∧ (S.B.length : Int) ≤ 16 := of_decide_eq_true hbt
 obtain ⟨kk, hkk⟩ : ∃ kk, S.B.length - 1 = kk := ⟨_, rfl⟩
 have hwk : IntKind.i64.wrap ((S.B.length : Int) - 1) = (kk : Int) := by rw [IntWalk.i64_in _ (by omega)]; omega
 have hwk2 : wrap64 ((S.B.length : Int) - 1) = (kk : Int) := by unfold wrap64; omega
 by_cases hv1 : S.V.length ≠ kk
 ·have HNO : Hid (¬ LimP S) := mkHid fun h => by have := h.v; omega
  have hv2 : ((S.V.length : Int) != (kk : Int)) = true := by simp; omega
  clear hkk
  go_enter Tryz.func118, Tryz.ntmps118
  go_wp2_with (first | (go_at_call 129; refine (isBetween_any _ _ _ _).mono ?_; rintro e w' ⟨rfl, rfl⟩))
  go_ret
  exact Tells.no HB.out HNO.out
 have hv2 : ((S.V.length : Int) != (kk : Int)) = false := by simp; omega
 by_cases hm1 : S.M.length ≠ S.V.length
 ·have HNO : Hid (¬ LimP S) := mkHid fun h => by have := h.m; omega
  have hm2 : ((S.M.length : Int) != (S.V.length : Int)) = true := by simp; omega
  clear hkk
  go_enter Tryz.func118, Tryz.ntmps118
  go_wp2_with (first | (go_at_call 129; refine (isBetween_any _ _ _ _).mono ?_; rintro e w' ⟨rfl, rfl⟩))
  go_ret
  exact Tells.no HB.out HNO.out
 have hm2 : ((S.M.length : Int) != (S.V.length : Int)) = false := by simp; omega
 have HK : Hid (1 ≤ S.B.length ∧ S.B.length ≤ 16 ∧ S.V.length + 1 = S.B.length ∧ S.M.length = S.V.length) := mkHid ⟨by omega, by omega, by omega, by omega⟩
 obtain ⟨b, off, hab, _, hq⟩ := HL.out.b.cons (by omega)
 have HQ := mkHid hq
 rw [hab] at hw0 q0 ⊢
 clear hkk hv1 hm1 hab hq
 go_enter Tryz.func118, Tryz.ntmps118
 go_wp2_with (first | (go_at_call 129; refine (isBetween_any _ _ _ _).mono ?_; rintro e w' ⟨rfl, rfl⟩))
 clear hw0 hX q0 q1 q2
 go_loopg [3, 33, 5] S.B.length (fun g s3 s33 s5 wr => ∃ (k : Nat), k ≤ S.B.length ∧ s33 = .int .i64 k ∧ s3 = .int .i64 ((S.B.take k).flatten.length : Nat) ∧ S.B.length - k ≤ g ∧ wr = w0)
 case atStart => exact ⟨0, Nat.zero_le _, rfl, rfl, by omega, rfl⟩
 case round =>
  obtain ⟨k, hk, rfl, rfl, hgk, rfl⟩ := hrel
  obtain ⟨tt, htt⟩ : ∃ tt, (S.B.take k).flatten.length = tt := ⟨_, rfl⟩
  have HTT := mkHid htt
  have hle1 : tt ≤ 1048576 := by have h1 := tot_take S.B k; have h2 := HSM.out.t; rw [tot_flatten] at h2; omega
  rw [htt]
  clear htt
  by_cases hlt : k < S.B.length
  ·obtain ⟨l, hx⟩ : ∃ x, S.B[k]? = some x := ⟨_, List.getElem?_eq_getElem hlt⟩
   obtain ⟨ao, cp, c0, _⟩ := HQ.out k l hx
   have HSU := mkHid (tot_succ hx)
   have hle2 : l.length ≤ 1048576 := HSM.out.row k l hx
   clear hx
   have i0 : (0 : Int) ≤ (k : Int) := by omega
   have i1 : (k : Int) < (S.B.length : Int) := by omega
   go_wp2
   go_roundg (S.B.length - (k + 1))
   case measure => omega
   case rel => exact ⟨k + 1, by omega, by go_num, by rw [HSU.out, HTT.out]; simp, Nat.le_refl _, by trivial⟩
  ·have e : k = S.B.length := by omega
   have HTA : Hid (S.B.flatten.length = tt) := mkHid (by have h := HTT.out; rw [e, List.take_length] at h; exact h)
   have i1 : ¬ (k : Int) < (S.B.length : Int) := by omega
   clear e
   by_cases h40 : tt ≤ 40
   ·have h41 : (tt : Int) ≤ 40 := by omega
    have h42 : decide (tt ≤ 40) = true := decide_eq_true h40
    have HYES : Hid (LimP S) := mkHid ⟨HK.out.1, HK.out.2.1, HK.out.2.2.1, HK.out.2.2.2, by have := HTA.out; omega⟩
    go_wp2
    go_ret
    exact Tells.yes HB.out HYES.out
   ·have h41 : ¬ (tt : Int) ≤ 40 := by omega
    have h42 : decide (tt ≤ 40) = false := decide_eq_false h40
    have HNO : Hid (¬ LimP S) := mkHid fun h => by have := h.t; have := HTA.out; omega
    go_wp2
    go_ret
    exact Tells.no HB.out HNO.out
set_option maxRecDepth 100000 in
set_option maxHeartbeats 3200000 in
theorem iSegOk_any (n lv : Int) (S : SG) (A : SAd) (w : World) (hs : Small S) (hl : SegAt w A S) :
  Calls Tryz.prog 71 #[.int .i64 n, .int .i64 lv, .agg #[.slice A.a0 S.B.length A.c0, .slice A.a1 S.V.length A.c1, .slice A.a2 S.M.length A.c2]] w fun e w' => Tells w w' e (OkS n lv S.B S.V S.M) := by
 have hsb := hs.b
 have hsv := hs.v
 have hst : S.B.flatten.length ≤ 1048576 := by have h := hs.t; rw [tot_flatten] at h; exact h
 have HST := mkHid hst
 have HSM := mkHid hs
 clear hs hst
 obtain ⟨w0, hw0⟩ : ∃ x : World, w.alloc (.cells #[.slice A.a0 S.B.length A.c0, .slice A.a1 S.V.length A.c1, .slice A.a2 S.M.length A.c2] 35) = x := ⟨_, rfl⟩
 obtain ⟨X, hX⟩ : ∃ x, w.heap.size = x := ⟨_, rfl⟩
 have HB : Hid (Below w.heap.size w w0) := mkHid (by rw [← hw0]; exact bl_alloc (Below.refl _ _) _)
 have P0 : Hid (G3 w0 X (.slice A.a0 S.B.length A.c0) (.slice A.a1 S.V.length A.c1) (.slice A.a2 S.M.length A.c2)) := mkHid (by rw [← hw0, ← hX]; exact G3.new _ _ _ _ _)
 have HL := mkHid (hl.below HB.out)
 clear hl
 obtain ⟨q0, q1, q2, _, _, _⟩ := P0.out
 cases hlen : lenB n lv
 ·have HNO : Hid (¬ OkS n lv S.B S.V S.M) := mkHid fun h => by have := lenB_iff.2 h.len; rw [hlen] at this; cases this
  go_enter Tryz.func71, Tryz.ntmps71
  go_wp2_with (first | (go_at_call 117; refine (iLen_any _ _ _).mono ?_; rintro e w' ⟨rfl, rfl⟩))
  go_ret
  exact Tells.no HB.out HNO.out
 go_enter Tryz.func71, Tryz.ntmps71
 go_wp2_with (first | (go_at_call 117; refine (iLen_any _ _ _).mono ?_; rintro e w' ⟨rfl, rfl⟩) | fail)
 clear hw0 hX q0 q1 q2
 refine (isInLimits_any S A _ HSM.out HL.out).mono ?_
 rintro e w1 ⟨hb, r, rfl, hr⟩
 have HR := mkHid hr
 have HB1 := mkHid (below_step HB.out hb)
 have P1 := mkHid (P0.out.below hb)
 have L1 := mkHid (HL.out.below hb)
 clear hb hr P0 HL HB
 cases hrb : r
 ·have HNO : Hid (¬ OkS n lv S.B S.V S.M) := mkHid fun h => by have := HR.out.2 ⟨h.k1, h.k2, h.v, by have := h.m; have := h.v; omega, h.tot⟩; rw [hrb] at this; cases this
  subst hrb
  go_wp2
  go_ret
  exact Tells.no HB1.out HNO.out
 have HLP := mkHid (HR.out.1 hrb)
 subst hrb
 obtain ⟨b0, hb0, hhd⟩ := head_get HLP.out.k1
 obtain ⟨bl, hbl, hlst⟩ := last_get HLP.out.k1
 obtain ⟨kk, hkk⟩ : ∃ kk, S.B.length - 1 = kk := ⟨_, rfl⟩
 rw [hkk] at hbl
 have hk1 : 1 ≤ S.B.length := HLP.out.k1
 have hwk : IntKind.i64.wrap ((S.B.length : Int) - 1) = (kk : Int) := by rw [IntWalk.i64_in _ (by omega)]; omega
 have hwk2 : wrap64 ((S.B.length : Int) - 1) = (kk : Int) := by unfold wrap64; omega
 obtain ⟨b, off, hab, hlb, hq⟩ := L1.out.b.cons (by omega)
 obtain ⟨ao, cp, c0, hat0⟩ := hq 0 b0 hb0
 obtain ⟨al, cl, c1, hatl⟩ := hq kk bl hbl
 rw [Nat.add_zero] at c0
 have HA0 := mkHid hat0
 have HAl := mkHid hatl
 have HHD := mkHid hhd
 have HLS := mkHid hlst
 have HM0 := mkHid (HSM.out.row 0 b0 hb0)
 have HMl := mkHid (HSM.out.row kk bl hbl)
 obtain ⟨q0, q1, q2, _, _, _⟩ := P1.out
 rw [hab] at q0
 have i0 : (0 : Int) < (S.B.length : Int) := by omega
 have i1 : (kk : Int) < (S.B.length : Int) := by omega
 have i2 : (0 : Int) ≤ (kk : Int) := by omega
 clear hq hb0 hbl hat0 hatl hhd hlst hkk
 go_wp2
 go_quiet (fail)
 have HAB := mkHid hab
 clear hab
 go_wp2_with fail
 clear q0 q1 q2 c0 c1
 obtain ⟨wq, hwq⟩ : ∃ x, w1.drewN nq = x := ⟨_, rfl⟩
 have BQ : Below w1.heap.size w1 wq := by rw [← hwq]; exact ⟨rfl, rfl, rfl, Nat.le_refl _, fun _ _ => rfl⟩
 have HB2 := mkHid (below_step HB1.out BQ)
 have P2 := mkHid (P1.out.below BQ)
 have L2 := mkHid (L1.out.below BQ)
 have HA2 := mkHid (HA0.out.below BQ)
 have HAl2 := mkHid (HAl.out.below BQ)
 rw [hwq]
 clear hwq BQ HB1 P1 L1 HA0 HAl
 refine (areBounds_any n S.B _ A.c0 _ hsb HST.out (by have h := L2.out.b; rw [HAB.out] at h; exact h)).mono ?_
 rintro e w2 ⟨hb, r, rfl, hr⟩
 have HR2 := mkHid hr
 have HB3 := mkHid (below_step HB2.out hb)
 have P3 := mkHid (P2.out.below hb)
 have L3 := mkHid (L2.out.below hb)
 have HA3 := mkHid (HA2.out.below hb)
 have HAl3 := mkHid (HAl2.out.below hb)
 clear hb hr HB2 P2 L2 HA2 HAl2
 cases hrb : r
 ·have HNO : Hid (¬ OkS n lv S.B S.V S.M) := mkHid fun h => by have := HR2.out.2 ⟨h.rows, h.nodup⟩; rw [hrb] at this; cases this
  subst hrb
  go_wp2
  go_ret
  exact Tells.no HB3.out HNO.out
 have HBP := mkHid (HR2.out.1 hrb)
 subst hrb
 go_wp2_with fail
 refine (contains_any b0 ao cp (0, 0) _ (by have := HM0.out; unfold maxLen; omega) HA3.out).mono ?_
 rintro e w3 ⟨rfl, hb⟩
 have HB4 := mkHid (below_step HB3.out hb)
 have P4 := mkHid (P3.out.below hb)
 have L4 := mkHid (L3.out.below hb)
 have HAl4 := mkHid (HAl3.out.below hb)
 clear hb HB3 P3 L3 HA3 HAl3
 obtain ⟨r2, hr2⟩ : ∃ r, decide (((0, 0) : Y) ∈ b0) = r := ⟨_, rfl⟩
 rw [hr2]
 cases hrc : r2
 ·have HNO : Hid (¬ OkS n lv S.B S.V S.M) := mkHid fun h => by have h1 := h.first; rw [HHD.out] at h1; rw [hrc] at hr2; exact of_decide_eq_false hr2 h1
  subst hrc
  clear hr2
  go_wp2
  go_ret
  exact Tells.no HB4.out HNO.out
 have HFI : Hid (((0, 0) : Y) ∈ S.B.headD []) := mkHid (by rw [HHD.out]; rw [hrc] at hr2; exact of_decide_eq_true hr2)
 subst hrc
 clear hr2
 go_wp2_with fail
 refine (contains_any bl al cl (lv, 0) _ (by have := HMl.out; unfold maxLen; omega) HAl4.out).mono ?_
 rintro e w4 ⟨rfl, hb⟩
 have HB5 := mkHid (below_step HB4.out hb)
 have P5 := mkHid (P4.out.below hb)
 have L5 := mkHid (L4.out.below hb)
 clear hb HB4 P4 L4 HAl4
 obtain ⟨r3, hr3⟩ : ∃ r, decide (((lv, 0) : Y) ∈ bl) = r := ⟨_, rfl⟩
 rw [hr3]
 cases hrd : r3
 ·have HNO : Hid (¬ OkS n lv S.B S.V S.M) := mkHid fun h => by have h1 := h.last; rw [HLS.out] at h1; rw [hrd] at hr3; exact of_decide_eq_false hr3 h1
  subst hrd
  clear hr3
  go_wp2
  go_ret
  exact Tells.no HB5.out HNO.out
 have HLA : Hid (((lv, 0) : Y) ∈ S.B.getLastD []) := mkHid (by rw [HLS.out]; rw [hrd] at hr3; exact of_decide_eq_true hr3)
 subst hrd
 clear hr3
 obtain ⟨q0, q1, q2, _, _, _⟩ := P5.out
 go_wp2_with fail
 clear q0 q1 q2
 refine (areVals_any S.V A.a1 A.c1 _ hsv L5.out.v).mono ?_
 rintro e w5 ⟨hb, r4, rfl, hr4⟩
 have HR4 := mkHid hr4
 have HB6 := mkHid (below_step HB5.out hb)
 clear hb hr4
 cases hre : r4
 ·have HNO : Hid (¬ OkS n lv S.B S.V S.M) := mkHid fun h => by have := HR4.out.2 ⟨h.vals⟩; rw [hre] at this; cases this
  subst hre
  go_wp2
  go_ret
  exact Tells.no HB6.out HNO.out
 have HYES : Hid (OkS n lv S.B S.V S.M) := mkHid ⟨lenB_iff.1 hlen, HLP.out.k1, HLP.out.k2, HLP.out.v, by have := HLP.out.m; have := HLP.out.v; omega, HLP.out.t, HBP.out.rows, HBP.out.nodup, (HR4.out.1 hre).ok, HFI.out, HLA.out⟩
 subst hre
 go_wp2
 go_ret
 exact Tells.yes HB6.out HYES.out
end Go.Proofs.YtihpajiololfoaaGreat
namespace Go.Proofs.YtihpajiololfoaaGreat.Q
open Go.RowKit

def symB (i n : Int) : Bool := decide (0 ≤ i ∧ i < n)
theorem btw_sym' {n : Nat} (i : Int) {k : Int} (hk : (n : Int) - 1 = k) : btw i 0 k = symB i n := by unfold btw symB; rw [decide_eq_decide]; omega
set_option maxRecDepth 100000 in
set_option maxHeartbeats 1600000 in
theorem isGap_any (c : Int) (w : World) : Calls Tryz.prog 130 #[.int .i64 c] w fun e w' => e = .returned (.bool (btw c (-2000000) 2000000)) ∧ w = w' := by
  go_enter Tryz.func130, Tryz.ntmps130
  go_wp2_with (go_at_call 129; refine (isBetween_any _ _ _ _).mono ?_; rintro e w' ⟨rfl, rfl⟩)
  go_ret
  exact ⟨rfl, rfl⟩
def offB (c : Int) : Bool := btw c (-2000000) 2000000
set_option maxRecDepth 100000 in
set_option maxHeartbeats 1600000 in
theorem sOff_any (c : Int) (w : World) : Calls Tryz.prog 96 #[.int .i64 c] w fun e w' => e = .returned (.bool (offB c)) ∧ w = w' := by
  go_enter Tryz.func96, Tryz.ntmps96
  go_wp2_with (first | (go_at_call 95; refine (between_any _ _ _ _).mono ?_; rintro e w' ⟨rfl, rfl⟩))
  go_ret
  exact ⟨rfl, rfl⟩
set_option maxRecDepth 100000 in
set_option maxHeartbeats 1600000 in
theorem wide_any (n : Nat) (hn : n ≤ 1000000) (v c : Int) (w : World) : Calls Tryz.prog 88 #[.int .i64 n, .agg #[.int .i64 v, .int .i64 c]] w fun e w' => e = .returned (.bool (symB v n && offB c)) ∧ Below w.heap.size w w' := by
  have B0 := mkHid ((Below.refl w.heap.size w).alloc (Nat.le_refl _) (.cells #[.int .i64 v, .int .i64 c] 49))
  obtain ⟨k, hk⟩ : ∃ k : Int, (n : Int) - 1 = k := ⟨_, rfl⟩
  have hwk : IntKind.i64.wrap ((n : Int) - 1) = k := by rw [← hk]; exact IntWalk.i64_in _ (by omega)
  have hbi := btw_sym' v hk
  clear hk hn
  cases hv : symB v n
  · rw [hv] at hbi
    go_enter Tryz.func88, Tryz.ntmps88
    go_wp2_with (first | (go_at_call 129; refine (isBetween_any _ _ _ _).mono ?_; rintro e w' ⟨rfl, rfl⟩))
    go_ret
    exact ⟨rfl, B0.out⟩
  · rw [hv] at hbi
    go_enter Tryz.func88, Tryz.ntmps88
    go_wp2_with (first | (go_at_call 129; refine (isBetween_any _ _ _ _).mono ?_; rintro e w' ⟨rfl, rfl⟩) | (go_at_call 130; refine (isGap_any _ _).mono ?_; rintro e w' ⟨rfl, rfl⟩))
    go_ret
    exact ⟨rfl, B0.out⟩
theorem Box.new' (w : World) (x y : Int) (T : TypeId) : Box (w.alloc (.cells #[.int .i64 x, .int .i64 y] T)) w.heap.size x y := ⟨by simp [go_sem], by simp [go_sem], by simp [go_sem], by simp [go_sem]⟩
set_option maxRecDepth 100000 in
set_option maxHeartbeats 1600000 in
theorem l08Most_any (n : Nat) (f : Tab) (h2 : n ≤ 13) (hb : Bd n f 10000000) (a : Option Addr) (c0 : Nat) (i j : Nat) (hi : i < n) (hj : j < n) (ac bc : Int) (ha : -2000000 ≤ ac ∧ ac ≤ 2000000) (hbc : -2000000 ≤ bc ∧ bc ≤ 2000000) (w : World) (hl : IntsAt w a (mk n f)) : Calls Tryz.prog 158 #[.agg #[.int .i64 n, .slice a (mk n f).length c0], .agg #[.int .i64 i, .int .i64 ac], .agg #[.int .i64 j, .int .i64 bc]] w fun e w' => e = .returned (.int .i64 (f i j + ac - bc)) ∧ Below w.heap.size w w' := by
  have B0 := mkHid ((((Below.refl w.heap.size w).alloc (Nat.le_refl _) (.cells #[.int .i64 n, .slice a (mk n f).length c0] 38)).alloc (by simp) (.cells #[.int .i64 i, .int .i64 ac] 49)).alloc (by simp; omega) (.cells #[.int .i64 j, .int .i64 bc] 49))
  have T0 : Hid (Fc (((w.alloc (.cells #[.int .i64 n, .slice a (mk n f).length c0] 38)).alloc (.cells #[.int .i64 i, .int .i64 ac] 49)).alloc (.cells #[.int .i64 j, .int .i64 bc] 49)) w.heap.size n a (mk n f).length c0) := mkHid (((Fc.new w n a (mk n f).length c0 38).alloc _).alloc _)
  have P0 : Hid (Box (((w.alloc (.cells #[.int .i64 n, .slice a (mk n f).length c0] 38)).alloc (.cells #[.int .i64 i, .int .i64 ac] 49)).alloc (.cells #[.int .i64 j, .int .i64 bc] 49)) (w.heap.size + 1) i ac) := mkHid (by have := (Box.new' (w.alloc (.cells #[.int .i64 n, .slice a (mk n f).length c0] 38)) i ac 49).below ((Below.refl _ _).alloc (Nat.le_refl _) (.cells #[.int .i64 j, .int .i64 bc] 49)); simpa using this)
  have Q0 : Hid (Box (((w.alloc (.cells #[.int .i64 n, .slice a (mk n f).length c0] 38)).alloc (.cells #[.int .i64 i, .int .i64 ac] 49)).alloc (.cells #[.int .i64 j, .int .i64 bc] 49)) (w.heap.size + 2) j bc) := mkHid (by have := Box.new' ((w.alloc (.cells #[.int .i64 n, .slice a (mk n f).length c0] 38)).alloc (.cells #[.int .i64 i, .int .i64 ac] 49)) j bc 49; simpa using this)
  rw [mk_len] at B0 T0 P0 Q0
  have hlen := mk_len n f
  have hlt := idx_lt hi hj
  obtain ⟨b, o, rfl, cx0⟩ := IntsAt.get' (hl.below B0.out) (k := i * n + j) (by rw [mk_len]; exact hlt)
  have hv : (mk n f).getD (i * n + j) 0 = f i j := mk_V n f i j hi hj
  have hy := hb i j hi hj
  rw [hv] at cx0
  obtain ⟨x, hf⟩ : ∃ x, f i j = x := ⟨_, rfl⟩
  rw [hf] at cx0 hy
  rw [hf]
  have hsq := sq_le h2
  have hm1 : IntKind.i64.wrap ((i : Int) * (n : Int)) = ((i * n : Nat) : Int) := by rw [Int.natCast_mul]; refine IntWalk.i64_in _ ?_; rw [← Int.natCast_mul]; omega
  have hm2 : IntKind.i64.wrap (((i * n : Nat) : Int) + (j : Int)) = ((i * n + j : Nat) : Int) := by rw [Int.natCast_add]; refine IntWalk.i64_in _ ?_; omega
  have hw1 : IntKind.i64.wrap (x + ac) = x + ac := IntWalk.i64_in _ (by omega)
  have hw2 : IntKind.i64.wrap (x + ac - bc) = x + ac - bc := IntWalk.i64_in _ (by omega)
  have hqs : ((i * n + j : Nat) : Int) < ((n * n : Nat) : Int) := by omega
  obtain ⟨q, hq⟩ : ∃ q, i * n + j = q := ⟨_, rfl⟩
  rw [hq] at hm2 cx0 hlt hqs
  obtain ⟨q', hq'⟩ : ∃ q', i * n = q' := ⟨_, rfl⟩
  rw [hq'] at hm1 hm2
  obtain ⟨s, hs⟩ : ∃ s, n * n = s := ⟨_, rfl⟩
  rw [hs] at hqs B0 T0 P0 Q0 cx0 hlen
  rw [hlen]
  obtain ⟨t0, t1⟩ := T0.out
  obtain ⟨p0, p1, p2, p3⟩ := P0.out
  obtain ⟨r0, r1, r2, r3⟩ := Q0.out
  obtain ⟨w1, hw⟩ : ∃ w1, ((w.alloc (.cells #[.int .i64 n, .slice (some ⟨b, o, none⟩) s c0] 38)).alloc (.cells #[.int .i64 i, .int .i64 ac] 49)).alloc (.cells #[.int .i64 j, .int .i64 bc] 49) = w1 := ⟨_, rfl⟩
  rw [hw] at B0 t0 t1 p0 p1 p2 p3 r0 r1 r2 r3 cx0
  have HW := mkHid hw
  clear hl hb hv hf hsq hy hlen ha hbc hi hj h2 hlt hq hq' hs hw T0 P0 Q0
  go_enter Tryz.func158, Tryz.ntmps158
  go_wp2_with fail
  rw [HW.out]
  go_region_held3 (fun u => u.cell? ⟨w.heap.size, 0, none⟩ = some (.int .i64 n) ∧ u.cell? ⟨w.heap.size, 1, none⟩ = some (.slice (some ⟨b, o, none⟩) s c0) ∧ u.cell? ⟨w.heap.size + 1, 0, none⟩ = some (.int .i64 i) ∧ u.cell? ⟨w.heap.size + 1, 1, none⟩ = some (.int .i64 ac) ∧ u.cell? ⟨w.heap.size + 2, 0, none⟩ = some (.int .i64 j) ∧ u.cell? ⟨w.heap.size + 2, 1, none⟩ = some (.int .i64 bc) ∧ u.cell? ⟨b, o + q, none⟩ = some (.int .i64 x))
    (first | exact ⟨t0, t1, p0, p1, r0, r1, cx0⟩)
    (fail)
  go_wp2
  go_ret
  exact ⟨rfl, B0.out.drew⟩
end Go.Proofs.YtihpajiololfoaaGreat.Q
namespace Go.Proofs.YtihpajiololfoaaGreat
open Go.RowKit

/-- A term is below another one by so much, by a table. -/
def bl (f : Q.Tab) (x y : Y) (d : Int) : Bool := decide (f x.1.toNat y.1.toNat + x.2 - y.2 ≤ -d)
def anyB (f : Q.Tab) (L M : List Y) (d : Int) : Bool := L.any fun x => M.any fun y => bl f x y d
/-- A term that may be worked with. -/
def Wd (n : Nat) (x : Y) : Prop := (0 ≤ x.1 ∧ x.1 < n) ∧ -2000000 ≤ x.2 ∧ x.2 ≤ 2000000
theorem any_take {α : Type} {p : α → Bool} {l : List α} {k : Nat} {x : α} (hx : l[k]? = some x) (h : (l.take k).any p = false) (hn : p x = false) : (l.take (k + 1)).any p = false := by
  rw [List.take_add_one, hx, List.any_append, h]
  simp [hn]
theorem any_some {α : Type} {p : α → Bool} {l : List α} {k : Nat} {x : α} (hx : l[k]? = some x) (h : p x = true) : l.any p = true := List.any_eq_true.2 ⟨x, List.mem_of_getElem? hx, h⟩
set_option maxRecDepth 100000 in
set_option maxHeartbeats 3200000 in
theorem areBelow_any (n : Nat) (f : Q.Tab) (h2 : n ≤ 13) (hb : Q.Bd n f 10000000) (L M : List Y) (a a' : Option Addr) (c c' : Nat) (d : Int) (hd : 0 ≤ d ∧ d ≤ 1) (w : World) (hl : L.length ≤ maxLen) (hm : M.length ≤ maxLen) (wL : ∀ x, x ∈ L → Wd n x) (wM : ∀ x, x ∈ M → Wd n x) (aL : At eY w a L) (aM : At eY w a' M) :
    Calls Tryz.prog 90 #[.agg (Q.dA n (Q.grid n f)), .slice a L.length c, .slice a' M.length c', .int .i64 d] w fun e w' => e = .returned (.bool (anyB f L M d)) ∧ Below w.heap.size w w' := by
  unfold maxLen at hl hm
  have B0 := mkHid ((Below.refl w.heap.size w).alloc (Nat.le_refl _) (.cells (Q.dA n (Q.grid n f)) 80))
  have D0 := mkHid (Q.Dif.new w (n := n) (Q.grid_len n f) 80)
  have HV := mkHid (Q.grid_V h2 f)
  have HB := mkHid hb
  have WL := mkHid wL
  have WM := mkHid wM
  have AL := mkHid (aL.below B0.out)
  have AM := mkHid (aM.below B0.out)
  have H2 := mkHid h2
  have hnd : IntKind.i64.wrap (-d) = -d := IntWalk.i64_in _ (by omega)
  obtain ⟨r, hr⟩ : ∃ r, anyB f L M d = r := ⟨_, rfl⟩
  have HR := mkHid hr
  rw [hr]
  obtain ⟨X, hX⟩ : ∃ x, w.heap.size = x := ⟨_, rfl⟩
  obtain ⟨G, hG⟩ : ∃ G, Q.grid n f = G := ⟨_, rfl⟩
  obtain ⟨w0, hw0⟩ : ∃ x, w.alloc (.cells (Q.dA n G) 80) = x := ⟨_, rfl⟩
  rw [hG] at D0 HV B0 AL AM
  rw [hw0] at D0 B0 AL AM
  rw [hG]
  rw [hX] at D0
  clear hb wL wM aL aM h2 hr hG
  go_enter Tryz.func90, Tryz.ntmps90
  go_wp2
  first | rw [hw0] | skip
  first | rw [hX] | skip
  clear hw0 hX
  go_loopg [15] L.length (fun g s15 wr => ∃ (k : Nat), k ≤ L.length ∧ s15 = .int .i64 k ∧ L.length - k ≤ g ∧ anyB f (L.take k) M d = false ∧ Below w0.heap.size w0 wr)
  case atStart => exact ⟨0, Nat.zero_le _, rfl, by omega, rfl, Below.refl _ _⟩
  case round =>
    obtain ⟨k, hk, rfl, hgk, hno, hbel⟩ := hrel
    have HN := mkHid hno
    have HB1 := mkHid hbel
    clear hno
    by_cases hlt : k < L.length
    · obtain ⟨x, hx⟩ : ∃ x, L[k]? = some x := ⟨_, List.getElem?_eq_getElem hlt⟩
      obtain ⟨⟨x0, x1⟩, x2, x3⟩ := WL.out x (List.mem_of_getElem? hx)
      obtain ⟨v, cx⟩ := x
      obtain ⟨i, rfl⟩ : ∃ i : Nat, v = i := ⟨v.toNat, by simp at x0; omega⟩
      simp only at x1 x2 x3
      obtain ⟨b, off, rfl, _, hq⟩ := (AL.out.below hbel).cons (by omega)
      obtain ⟨c0, c1⟩ := get_y hq hx
      have HX := mkHid hx
      obtain ⟨P, hP⟩ : ∃ q, wr.heap.size = q := ⟨_, rfl⟩
      obtain ⟨w1, hw1⟩ : ∃ q, wr.alloc (.cells #[.int .i64 (i : Int), .int .i64 cx] 49) = q := ⟨_, rfl⟩
      have HB2 : Hid (Below w0.heap.size w0 w1) := mkHid (by rw [← hw1]; exact below_step hbel (bl_alloc (Below.refl _ _) _))
      have P1 : Hid (Box w1 P i cx) := mkHid (by rw [← hw1, ← hP]; exact Box.new' _ _ _ _)
      clear hq hbel hx x0
      have i0 : (0 : Int) ≤ (k : Int) := by omega
      have i1 : (k : Int) < (L.length : Int) := by omega
      simp only at c0 c1
      go_wp2
      first | rw [hw1] | skip
      first | rw [hP] | skip
      clear hw1 hP c0 c1
      go_loopg [21] M.length (fun g s21 wy => ∃ (t : Nat), t ≤ M.length ∧ s21 = .int .i64 t ∧ M.length - t ≤ g ∧ ((M.take t).any fun y => bl f ((i : Int), cx) y d) = false ∧ Below w1.heap.size w1 wy)
      case atStart => exact ⟨0, Nat.zero_le _, rfl, by omega, rfl, Below.refl _ _⟩
      case round =>
        obtain ⟨t, ht, rfl, hgt, hno, hbel⟩ := hrel
        have HN2 := mkHid hno
        have HB3 := mkHid hbel
        clear hno
        by_cases htl : t < M.length
        · obtain ⟨y, hy⟩ : ∃ x, M[t]? = some x := ⟨_, List.getElem?_eq_getElem htl⟩
          obtain ⟨⟨y0, y1⟩, y2, y3⟩ := WM.out y (List.mem_of_getElem? hy)
          obtain ⟨v, cy⟩ := y
          obtain ⟨j, rfl⟩ : ∃ i : Nat, v = i := ⟨v.toNat, by simp at y0; omega⟩
          simp only at y1 y2 y3
          obtain ⟨b', off', rfl, _, hq⟩ := ((AM.out.below HB2.out).below hbel).cons (by omega)
          obtain ⟨c0, c1⟩ := get_y hq hy
          simp only at c0 c1
          have HY := mkHid hy
          obtain ⟨R, hR⟩ : ∃ q, wr.heap.size = q := ⟨_, rfl⟩
          obtain ⟨w2, hw2⟩ : ∃ q, wr.alloc (.cells #[.int .i64 (j : Int), .int .i64 cy] 49) = q := ⟨_, rfl⟩
          have A2 : Below wr.heap.size wr w2 := by rw [← hw2]; exact bl_alloc (Below.refl _ _) _
          have HB4 : Hid (Below w1.heap.size w1 w2) := mkHid (below_step hbel A2)
          have Q1 : Hid (Box w2 R j cy) := mkHid (by rw [← hw2, ← hR]; exact Box.new' _ _ _ _)
          have P2 := mkHid ((P1.out.below hbel).below A2)
          have hn13 := H2.out
          have hv := HV.out i j (by omega) (by omega)
          have hbd := HB.out i j (by omega) (by omega)
          obtain ⟨u, hf⟩ : ∃ u, f i j = u := ⟨_, rfl⟩
          rw [hf] at hv hbd
          have cx2 := (((D0.out.below HB2.out).below hbel).below A2).at (i := i) (j := j) (by omega) (by omega) hv
          have HF := mkHid hf
          have hw3 : IntKind.i64.wrap (u + cx) = u + cx := IntWalk.i64_in _ (by omega)
          have hw4 : IntKind.i64.wrap (u + cx - cy) = u + cx - cy := IntWalk.i64_in _ (by omega)
          have a1 : (i : Int) < 13 := by omega
          have a2 : (j : Int) < 13 := by omega
          have j0 : (0 : Int) ≤ (t : Int) := by omega
          have j1 : (t : Int) < (M.length : Int) := by omega
          obtain ⟨p0, p1, p2, p3⟩ := P2.out
          obtain ⟨q0, q1, q2, q3⟩ := Q1.out
          clear hq hbel hy y0 A2 P2 Q1 hv hbd hf
          by_cases he : u + cx - cy ≤ -d
          · have HE : Hid (bl f ((i : Int), cx) ((j : Int), cy) d = true) := mkHid (by unfold bl; refine decide_eq_true ?_; show f ((i : Int).toNat) ((j : Int).toNat) + cx - cy ≤ -d; rw [Int.toNat_natCast, Int.toNat_natCast, HF.out]; exact he)
            go_wp2_with fail
            first | rw [hw2] | skip
            first | rw [hR] | skip
            clear hw2 hR
            go_region_held3 (fun u' => u'.cell? ⟨P, 0, none⟩ = some (.int .i64 i) ∧ u'.cell? ⟨P, 1, none⟩ = some (.int .i64 cx) ∧ u'.cell? ⟨R, 0, none⟩ = some (.int .i64 j) ∧ u'.cell? ⟨R, 1, none⟩ = some (.int .i64 cy) ∧ u'.cell? ⟨X, 1 + i * 13 + j, none⟩ = some (.int .i64 u))
              (first | exact ⟨p0, p1, q0, q1, cx2⟩)
              (fail)
            go_wp2
            go_ret
            refine ⟨ret_bool ?_, below_step (below_step B0.out HB2.out) HB4.out.drew⟩
            rw [← HR.out]
            exact (show anyB f L M d = true from any_some HX.out (any_some HY.out HE.out)).symm
          · have HE : Hid (bl f ((i : Int), cx) ((j : Int), cy) d = false) := mkHid (by unfold bl; refine decide_eq_false ?_; show ¬ f ((i : Int).toNat) ((j : Int).toNat) + cx - cy ≤ -d; rw [Int.toNat_natCast, Int.toNat_natCast, HF.out]; exact he)
            go_wp2_with fail
            first | rw [hw2] | skip
            first | rw [hR] | skip
            clear hw2 hR
            go_region_held3 (fun u' => u'.cell? ⟨P, 0, none⟩ = some (.int .i64 i) ∧ u'.cell? ⟨P, 1, none⟩ = some (.int .i64 cx) ∧ u'.cell? ⟨R, 0, none⟩ = some (.int .i64 j) ∧ u'.cell? ⟨R, 1, none⟩ = some (.int .i64 cy) ∧ u'.cell? ⟨X, 1 + i * 13 + j, none⟩ = some (.int .i64 u))
              (first | exact ⟨p0, p1, q0, q1, cx2⟩)
              (fail)
            go_wp2
            go_roundg (M.length - (t + 1))
            case measure => omega
            case rel => exact ⟨t + 1, by omega, by go_num, Nat.le_refl _, any_take HY.out HN2.out HE.out, HB4.out.drew⟩
        · have e : t = M.length := by omega
          subst e
          have hno := HN2.out
          rw [List.take_length] at hno
          have HN3 := mkHid hno
          clear hno hbel
          go_wp2
          go_roundg (L.length - (k + 1))
          case measure => omega
          case rel => exact ⟨k + 1, by omega, by go_num, Nat.le_refl _, any_take HX.out HN.out HN3.out, below_step HB2.out HB3.out⟩
    · have e : k = L.length := by omega
      subst e
      have hno := HN.out
      rw [List.take_length] at hno
      have HN := mkHid hno
      clear hno hbel
      go_wp2
      go_ret
      exact ⟨ret_bool (HN.out.symm.trans HR.out), below_step B0.out HB1.out⟩
end Go.Proofs.YtihpajiololfoaaGreat
