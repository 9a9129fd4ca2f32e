/-
  FnExactSegSharpen holds at every argument: the program's SegSharpen answers as the specification's, field by field; it writes into no argument, and its answer owns its memory, behind another call too. No conditions.
-/
import Derived.Test.YtihpajiololfoaaGreatSh35
import Derived.Test.YtihpajiololfoaaGreatSh36
import Derived.Test.YtihpajiololfoaaGreatSh05
import Derived.Test.YtihpajiololfoaaGreatSh25
import Derived.ProofKit
import Derived.OpenShut
import Derived.ChangeOld
import Derived.ChangeSlices
import Derived.Laws.OwnMore
namespace Go.Proofs.YtihpajiololfoaaGreat
open Go.ChangeShapes Go.WideShapes Go.ChangeAt Go.RowKit Go.Joins

theorem fc_outs {w w' : World} {b : Nat} {z : Int} {a : Option Addr} {n c : Nat} (h : Q.Fc w b z a n c) {lo hi : Nat} (ho : Outs lo hi w w') (hd : b < lo ∨ hi ≤ b) : Q.Fc w' b z a n c := by
 have hb := ho.block b h.lt hd
 have hc : ∀ o, w'.cell? ⟨b, o, none⟩ = w.cell? ⟨b, o, none⟩ := fun o => by simp only [World.cell?, hb]
 exact ⟨(hc _).trans h.1, (hc _).trans h.2⟩
set_option maxRecDepth 100000 in
set_option maxHeartbeats 25600000 in
theorem law_walk (size lv : Int) (S : SG) (A : SAd) (z : Int) (l : List Int) (a : Option Addr) (c : Nat) (w : World) (hg : Lim S) (hl : SegAt w A S) (hn : l.length ≤ maxLen) (hk : Q.IntsAt w a l) : Calls Tryz.prog 3 #[.int .i64 size, .int .i64 lv, .agg #[.slice A.a0 S.B.length A.c0, .slice A.a1 S.V.length A.c1, .slice A.a2 S.M.length A.c2], .agg #[.int .i64 z, .slice a l.length c]] w fun e w' => e = .returned (.bool true) ∧ Below w.heap.size w w' := by
 have HG := mkHid hg
 have HN := mkHid hn
 obtain ⟨w0, hw0⟩ : ∃ q, ((w.alloc (.cells #[.slice A.a0 S.B.length A.c0, .slice A.a1 S.V.length A.c1, .slice A.a2 S.M.length A.c2] 26)).alloc (.cells #[.int .i64 z, .slice a l.length c] 29)) = q := ⟨_, rfl⟩
 obtain ⟨X, hX⟩ : ∃ q, w.heap.size = q := ⟨_, rfl⟩
 have BE : Hid (Below w.heap.size w w0) := mkHid (by rw [← hw0]; exact (bl_alloc (bl_alloc (Below.refl _ _) _) _))
 have FS0 : Hid (G3 w0 (X) (.slice A.a0 S.B.length A.c0) (.slice A.a1 S.V.length A.c1) (.slice A.a2 S.M.length A.c2)) := mkHid (by rw [← hw0, ← hX]; exact (G3.new w _ _ _ 26).below (bl_alloc (Below.refl _ _) _))
 have FF0 : Hid (Q.Fc w0 (X + 1) z a l.length c) := mkHid (by rw [← hw0, ← hX]; have := Q.Fc.new (w.alloc (.cells #[.slice A.a0 S.B.length A.c0, .slice A.a1 S.V.length A.c1, .slice A.a2 S.M.length A.c2] 26)) z a l.length c 29; simpa using this)
 have LS := mkHid (hl.below BE.out)
 have LF := mkHid (hk.below BE.out)
 clear hg hn hl hk
 obtain ⟨q0, q1, q2, _, _, _⟩ := FS0.out
 have KFS0 := FS0
 have KFF0 := FF0
 have KLS := LS
 have KLF := LF
 have BW := mkHid (Below.refl w0.heap.size w0)
 have SZ0 : Hid (w.heap.size ≤ w0.heap.size) := mkHid BE.out.size
 go_enter Tryz.func3, Tryz.ntmps3
 go_wp2_with fail
 first | rw [hw0] | skip
 refine (szSeg_any S A _ HG.out.b HG.out.r HG.out.v HG.out.m 1048576 (by omega) (by omega) LS.out).mono ?_
 rintro e w1 ⟨hb, r, rfl, hr⟩
 have HQ := mkHid hr
 have BE := mkHid (below_step BE.out hb)
 have BW := mkHid (below_step BW.out hb)
 have SZ1 := mkHid hb.size
 have FS0 := mkHid (FS0.out.below hb)
 have FF0 := mkHid (FF0.out.below hb)
 have LS := mkHid (LS.out.below hb)
 have LF := mkHid (LF.out.below hb)
 clear hb hr hw0 q0 q1 q2
 first | rw [hX] | skip
 by_cases hneg : r < 0
 ·go_wp2
  go_ret
  exact ⟨rfl, BE.out⟩
 obtain ⟨hz1, hz2, hz3, hz4, hz5⟩ := HQ.out (by omega)
 have HM : Hid (Small S) := mkHid ⟨hz1, hz2, hz3, hz4⟩
 clear HQ hz1 hz2 hz3 hz4
 obtain ⟨t0, t1⟩ := FF0.out
 go_wp2_with fail
 refine (Q.szFacts_any z a l.length c r _ HN.out (by omega) hz5).mono ?_
 rintro e w2 ⟨rfl, hb⟩
 have BE := mkHid (below_step BE.out hb)
 have BW := mkHid (below_step BW.out hb)
 have SZ2 := mkHid hb.size
 have FS0 := mkHid (FS0.out.below hb)
 have FF0 := mkHid (FF0.out.below hb)
 have LS := mkHid (LS.out.below hb)
 have LF := mkHid (LF.out.below hb)
 clear hb t0 t1
 by_cases hll : (l.length : Int) ≤ r
 rotate_left
 ·have e1 : Q.szR r l.length = -1 := if_neg hll
  rw [e1]
  go_wp2
  go_ret
  exact ⟨rfl, BE.out⟩
 have e1 : Q.szR r l.length = r - l.length := if_pos hll
 have HLN : Hid (l.length ≤ 1048576) := mkHid (by omega)
 obtain ⟨r2, hr2⟩ : ∃ q, r - (l.length : Int) = q := ⟨_, rfl⟩
 have hr3 : ¬ r2 < 0 := by omega
 rw [e1, hr2]
 clear e1 hr2 hll hz5 hneg
 obtain ⟨Z, hZ⟩ := ShpR.ex size lv S z l 
 have HZ := mkHid hZ
 have HSZ : Hid (Small Z) := mkHid (hZ.small HM.out)
 clear hZ
 have cFS0 : ∀ v', Below w2.heap.size w2 v' → G3 v' (X) (.slice A.a0 S.B.length A.c0) (.slice A.a1 S.V.length A.c1) (.slice A.a2 S.M.length A.c2) := fun v' h => FS0.out.below h
 have cFF0 : ∀ v', Below w2.heap.size w2 v' → Q.Fc v' (X + 1) z a l.length (c) := fun v' h => FF0.out.below h
 go_wp2_with fail
 refine wp_region_inv2 (fun zA0 L zA vv8 => ∃ (zB : Nat → Bool) (zS : Nat → Value) (Aq : SAd) (gq : Nat) (Aw : SAd) (lw : Nat) (hw : Nat) (qw : Nat), L = #[zB 0, zB 1, zB 2, zB 3, zB 4, zB 5, zB 6, zB 7, zB 8] ∧ zA = puts zA0 [(28, zS 28), (29, zS 29), (30, zS 30), (31, zS 31), (32, zS 32), (33, zS 33), (34, zS 34), (10, zS 10)] ∧ ((zB 0 = true → zS 28 = .int .i64 size) ∧ (zB 1 = true → zS 29 = .int .i64 lv) ∧ (zB 2 = true → zS 30 = .agg #[.slice A.a0 S.B.length A.c0, .slice A.a1 S.V.length A.c1, .slice A.a2 S.M.length A.c2]) ∧ (zB 3 = true → zS 31 = .agg #[.slice Aq.a0 S.B.length Aq.c0, .slice Aq.a1 S.V.length Aq.c1, .slice Aq.a2 S.M.length Aq.c2]) ∧ (zB 4 = true → zS 32 = .agg #[.int .i64 z, .slice a l.length c]) ∧ (zB 5 = true → zS 33 = .agg #[.int .i64 z, .slice (some ⟨gq, 0, none⟩) l.length l.length]) ∧ (zB 6 = true → zS 34 = .agg #[.slice Aw.a0 Z.B.length Aw.c0, .slice Aw.a1 Z.V.length Aw.c1, .slice Aw.a2 Z.M.length Aw.c2]) ∧ (zB 7 = true → zS 10 = .pointer (some ⟨qw, 0, none⟩))) ∧ Below w2.heap.size w2 vv8 ∧ ((zB 3) = true → (zB 6) = false → SegAt vv8 Aq S) ∧ ((zB 5) = true → (zB 6) = false → Q.IntsAt vv8 (some ⟨gq, 0, none⟩) l) ∧ ((zB 6) = true → OwnS vv8 lw hw Aw Z ∧ w2.heap.size ≤ lw ∧ hw ≤ vv8.heap.size) ∧ ((zB 7) = true → w2.heap.size ≤ qw ∧ qw < vv8.heap.size) ∧ ((zB 7) = true → (zB 8) = false → G3 vv8 qw (.slice none 0 0) (.slice none 0 0) (.slice none 0 0)) ∧ ((zB 6) = true → (zB 7) = true → qw < lw ∨ hw ≤ qw) ∧ ((zB 8) = true → (zB 7) = true ∧ (zB 6) = true ∧ G3 vv8 qw (.slice Aw.a0 Z.B.length Aw.c0) (.slice Aw.a1 Z.V.length Aw.c1) (.slice Aw.a2 Z.M.length Aw.c2))) (by kernel_rfl) ?_ ?_ ?_
 ·exact ⟨fun _ => false, fun _ => undef, zAd, 0, zAd, 0, 0, 0, rfl, by kernel_rfl, ⟨fun e => ft e, fun e => ft e, fun e => ft e, fun e => ft e, fun e => ft e, fun e => ft e, fun e => ft e, fun e => ft e⟩, ⟨(Below.refl _ _).drew, fun e => ft e, fun e => ft e, fun e => ft e, fun e => ft e, fun e => ft e, fun e => ft e, fun e => ft e⟩⟩
 ·refine StepsI.cons rfl ?_ ?_
  ·rintro L zA vv8 ⟨zB, zS, Aq, gq, Aw, lw, hw, qw, rfl, rfl, hF, hW⟩ hL hm K hK
   have hb0 : zB 0 = false := by simpa using hL
   clear hL hm
   simp only [pE]
   go_simp
   exact hK.out _ _ ⟨fun zj => if zj = 0 then true else zB zj, fun zd => if zd = 28 then .int .i64 size else zS zd, Aq, gq, Aw, lw, hw, qw, rfl, by kernel_rfl, ⟨fun _ => rfl, hF.2.1, hF.2.2.1, hF.2.2.2.1, hF.2.2.2.2.1, hF.2.2.2.2.2.1, hF.2.2.2.2.2.2.1, hF.2.2.2.2.2.2.2⟩, hW⟩
  refine StepsI.cons rfl ?_ ?_
  ·rintro L zA vv8 ⟨zB, zS, Aq, gq, Aw, lw, hw, qw, rfl, rfl, hF, hW⟩ hL hm K hK
   have hb1 : zB 1 = false := by simpa using hL
   clear hL hm
   simp only [pE]
   go_simp
   exact hK.out _ _ ⟨fun zj => if zj = 1 then true else zB zj, fun zd => if zd = 29 then .int .i64 lv else zS zd, Aq, gq, Aw, lw, hw, qw, rfl, by kernel_rfl, ⟨hF.1, fun _ => rfl, hF.2.2.1, hF.2.2.2.1, hF.2.2.2.2.1, hF.2.2.2.2.2.1, hF.2.2.2.2.2.2.1, hF.2.2.2.2.2.2.2⟩, hW⟩
  refine StepsI.cons rfl ?_ ?_
  ·rintro L zA vv8 ⟨zB, zS, Aq, gq, Aw, lw, hw, qw, rfl, rfl, hF, hW⟩ hL hm K hK
   have hb2 : zB 2 = false := by simpa using hL
   clear hL hm
   simp only [pE]
   obtain ⟨k0, k1, k2, _, _, _⟩ := cFS0 _ hW.1
   go_simp
   exact hK.out _ _ ⟨fun zj => if zj = 2 then true else zB zj, fun zd => if zd = 30 then .agg #[.slice A.a0 S.B.length A.c0, .slice A.a1 S.V.length A.c1, .slice A.a2 S.M.length A.c2] else zS zd, Aq, gq, Aw, lw, hw, qw, rfl, by kernel_rfl, ⟨hF.1, hF.2.1, fun _ => rfl, hF.2.2.2.1, hF.2.2.2.2.1, hF.2.2.2.2.2.1, hF.2.2.2.2.2.2.1, hF.2.2.2.2.2.2.2⟩, hW⟩
  refine StepsI.cons rfl ?_ ?_
  ·rintro L zA vv8 ⟨zB, zS, Aq, gq, Aw, lw, hw, qw, rfl, rfl, hF, hW⟩ hL hm K hK
   have hb3 : zB 3 = false := by simpa using hL
   have hb2 : zB 2 = true := mt 2 hm (by kernel_rfl)
   have e2 : zS 30 = .agg #[.slice A.a0 S.B.length A.c0, .slice A.a1 S.V.length A.c1, .slice A.a2 S.M.length A.c2] := hF.2.2.1 hb2
   clear hL hm
   rw [hb3] at hW
   simp only [pE]
   simp only [e2]
   go_simp
   refine (toSeg_any S A _ HM.out.b HM.out.t HM.out.v HM.out.m (LS.out.below hW.1)).mono ?_
   rintro e vv82 ⟨Aq9, rfl, ho, hb⟩
   go_wp2_with fail
   exact hK.out _ _ ⟨fun zj => if zj = 2 then true else if zj = 3 then true else zB zj, fun zd => if zd = 31 then .agg #[.slice Aq9.a0 S.B.length Aq9.c0, .slice Aq9.a1 S.V.length Aq9.c1, .slice Aq9.a2 S.M.length Aq9.c2] else if zd = 30 then .agg #[.slice A.a0 S.B.length A.c0, .slice A.a1 S.V.length A.c1, .slice A.a2 S.M.length A.c2] else zS zd, Aq9, gq, Aw, lw, hw, qw, by simp [hb2], by kernel_rfl, ⟨hF.1, hF.2.1, fun _ => rfl, fun _ => rfl, hF.2.2.2.2.1, hF.2.2.2.2.2.1, hF.2.2.2.2.2.2.1, hF.2.2.2.2.2.2.2⟩, ⟨below_step hW.1 hb, fun _ _ => ho.at, fun e r => (hW.2.2.1 e r).below hb, fun e => ⟨(hW.2.2.2.1 e).1.below hb, (hW.2.2.2.1 e).2.1, Nat.le_trans (hW.2.2.2.1 e).2.2 hb.size⟩, fun e => ⟨(hW.2.2.2.2.1 e).1, Nat.lt_of_lt_of_le (hW.2.2.2.2.1 e).2 hb.size⟩, fun e r => (hW.2.2.2.2.2.1 e r).below hb, hW.2.2.2.2.2.2.1, fun e => ⟨(hW.2.2.2.2.2.2.2 e).1, (hW.2.2.2.2.2.2.2 e).2.1, (hW.2.2.2.2.2.2.2 e).2.2.below hb⟩⟩⟩
  refine StepsI.cons rfl ?_ ?_
  ·rintro L zA vv8 ⟨zB, zS, Aq, gq, Aw, lw, hw, qw, rfl, rfl, hF, hW⟩ hL hm K hK
   have hb4 : zB 4 = false := by simpa using hL
   clear hL hm
   simp only [pE]
   obtain ⟨k0, k1⟩ := cFF0 _ hW.1
   go_simp
   exact hK.out _ _ ⟨fun zj => if zj = 4 then true else zB zj, fun zd => if zd = 32 then .agg #[.int .i64 z, .slice a l.length c] else zS zd, Aq, gq, Aw, lw, hw, qw, rfl, by kernel_rfl, ⟨hF.1, hF.2.1, hF.2.2.1, hF.2.2.2.1, fun _ => rfl, hF.2.2.2.2.2.1, hF.2.2.2.2.2.2.1, hF.2.2.2.2.2.2.2⟩, hW⟩
  refine StepsI.cons rfl ?_ ?_
  ·rintro L zA vv8 ⟨zB, zS, Aq, gq, Aw, lw, hw, qw, rfl, rfl, hF, hW⟩ hL hm K hK
   have hb5 : zB 5 = false := by simpa using hL
   have hb4 : zB 4 = true := mt 4 hm (by kernel_rfl)
   have e4 : zS 32 = .agg #[.int .i64 z, .slice a l.length c] := hF.2.2.2.2.1 hb4
   clear hL hm
   rw [hb5] at hW
   simp only [pE]
   simp only [e4]
   go_simp
   refine (Q.toFacts_any z l a c _ HLN.out (LF.out.below hW.1)).mono ?_
   rintro e vv82 ⟨gq9, rfl, ho, hb⟩
   go_wp2_with fail
   exact hK.out _ _ ⟨fun zj => if zj = 4 then true else if zj = 5 then true else zB zj, fun zd => if zd = 33 then .agg #[.int .i64 z, .slice (some ⟨gq9, 0, none⟩) l.length l.length] else if zd = 32 then .agg #[.int .i64 z, .slice a l.length c] else zS zd, Aq, gq9, Aw, lw, hw, qw, by simp [hb4], by kernel_rfl, ⟨hF.1, hF.2.1, hF.2.2.1, hF.2.2.2.1, fun _ => rfl, fun _ => rfl, hF.2.2.2.2.2.2.1, hF.2.2.2.2.2.2.2⟩, ⟨below_step hW.1 hb, fun e r => (hW.2.1 e r).below hb, fun _ _ => ho.at, fun e => ⟨(hW.2.2.2.1 e).1.below hb, (hW.2.2.2.1 e).2.1, Nat.le_trans (hW.2.2.2.1 e).2.2 hb.size⟩, fun e => ⟨(hW.2.2.2.2.1 e).1, Nat.lt_of_lt_of_le (hW.2.2.2.2.1 e).2 hb.size⟩, fun e r => (hW.2.2.2.2.2.1 e r).below hb, hW.2.2.2.2.2.2.1, fun e => ⟨(hW.2.2.2.2.2.2.2 e).1, (hW.2.2.2.2.2.2.2 e).2.1, (hW.2.2.2.2.2.2.2 e).2.2.below hb⟩⟩⟩
  refine StepsI.cons rfl ?_ ?_
  ·rintro L zA vv8 ⟨zB, zS, Aq, gq, Aw, lw, hw, qw, rfl, rfl, hF, hW⟩ hL hm K hK
   have hb6 : zB 6 = false := by simpa using hL
   have hb0 : zB 0 = true := mt 0 hm (by kernel_rfl)
   have hb1 : zB 1 = true := mt 1 hm (by kernel_rfl)
   have hb3 : zB 3 = true := mt 3 hm (by kernel_rfl)
   have hb5 : zB 5 = true := mt 5 hm (by kernel_rfl)
   have e0 : zS 28 = .int .i64 size := hF.1 hb0
   have e1 : zS 29 = .int .i64 lv := hF.2.1 hb1
   have e3 : zS 31 = .agg #[.slice Aq.a0 S.B.length Aq.c0, .slice Aq.a1 S.V.length Aq.c1, .slice Aq.a2 S.M.length Aq.c2] := hF.2.2.2.1 hb3
   have e5 : zS 33 = .agg #[.int .i64 z, .slice (some ⟨gq, 0, none⟩) l.length l.length] := hF.2.2.2.2.2.1 hb5
   clear hL hm
   rw [hb6] at hW
   rw [hb3] at hW
   rw [hb5] at hW
   simp only [pE]
   simp only [e0, e1, e3, e5]
   go_simp
   refine (sSegSharpen_any size lv S Aq z l (some ⟨gq, 0, none⟩) l.length  _ HM.out (hW.2.1 (by first | rfl | trivial) rfl) (hW.2.2.1 (by first | rfl | trivial) rfl)).mono ?_
   rintro e vv82 ⟨Z', hZ', Aw9, rfl, ho, hb⟩
   have eZ : Z = Z' := HZ.out.one hZ'
   subst eZ
   clear hZ'
   go_wp2_with fail
   exact hK.out _ _ ⟨fun zj => if zj = 5 then true else if zj = 3 then true else if zj = 1 then true else if zj = 0 then true else if zj = 6 then true else zB zj, fun zd => if zd = 34 then .agg #[.slice Aw9.a0 Z.B.length Aw9.c0, .slice Aw9.a1 Z.V.length Aw9.c1, .slice Aw9.a2 Z.M.length Aw9.c2] else if zd = 33 then .agg #[.int .i64 z, .slice (some ⟨gq, 0, none⟩) l.length l.length] else if zd = 31 then .agg #[.slice Aq.a0 S.B.length Aq.c0, .slice Aq.a1 S.V.length Aq.c1, .slice Aq.a2 S.M.length Aq.c2] else if zd = 29 then .int .i64 lv else if zd = 28 then .int .i64 size else zS zd, Aq, gq, Aw9, vv8.heap.size, vv82.heap.size, qw, by simp [hb0, hb1, hb3, hb5], by kernel_rfl, ⟨fun _ => rfl, fun _ => rfl, hF.2.2.1, fun _ => rfl, hF.2.2.2.2.1, fun _ => rfl, fun _ => rfl, hF.2.2.2.2.2.2.2⟩, ⟨below_step hW.1 hb, fun _ e => tf e, fun _ e => tf e, fun _ => ⟨ho, hW.1.size, Nat.le_refl _⟩, fun e => ⟨(hW.2.2.2.2.1 e).1, Nat.lt_of_lt_of_le (hW.2.2.2.2.1 e).2 hb.size⟩, fun e r => (hW.2.2.2.2.2.1 e r).below hb, fun _ e => .inl (hW.2.2.2.2.1 e).2, fun e => ft (hW.2.2.2.2.2.2.2 e).2.1⟩⟩
  refine StepsI.cons rfl ?_ ?_
  ·rintro L zA vv8 ⟨zB, zS, Aq, gq, Aw, lw, hw, qw, rfl, rfl, hF, hW⟩ hL hm K hK
   have hb7 : zB 7 = false := by simpa using hL
   clear hL hm
   rw [hb7] at hW
   simp only [pE]
   go_simp
   exact hK.out _ _ ⟨fun zj => if zj = 7 then true else zB zj, fun zd => if zd = 10 then .pointer (some ⟨vv8.heap.size, 0, none⟩) else zS zd, Aq, gq, Aw, lw, hw, vv8.heap.size, rfl, by kernel_rfl, ⟨hF.1, hF.2.1, hF.2.2.1, hF.2.2.2.1, hF.2.2.2.2.1, hF.2.2.2.2.2.1, hF.2.2.2.2.2.2.1, fun _ => rfl⟩, ⟨bl_alloc hW.1 _, fun e r => (hW.2.1 e r).below (bl_alloc (Below.refl _ _) _), fun e r => (hW.2.2.1 e r).below (bl_alloc (Below.refl _ _) _), fun e => ⟨(hW.2.2.2.1 e).1.below (bl_alloc (Below.refl _ _) _), (hW.2.2.2.1 e).2.1, Nat.le_trans (hW.2.2.2.1 e).2.2 (bl_alloc (Below.refl vv8.heap.size vv8) (.cells #[.slice none 0 0, .slice none 0 0, .slice none 0 0] 35)).size⟩, fun _ => ⟨hW.1.size, by simp⟩, fun _ _ => G3.new _ _ _ _ _, fun e _ => .inr (hW.2.2.2.1 e).2.2, fun e => ft (hW.2.2.2.2.2.2.2 e).1⟩⟩
  refine StepsI.cons rfl ?_ ?_
  ·rintro L zA vv8 ⟨zB, zS, Aq, gq, Aw, lw, hw, qw, rfl, rfl, hF, hW⟩ hL hm K hK
   have hb8 : zB 8 = false := by simpa using hL
   have hb6 : zB 6 = true := mt 6 hm (by kernel_rfl)
   have hb7 : zB 7 = true := mt 7 hm (by kernel_rfl)
   have e6 : zS 34 = .agg #[.slice Aw.a0 Z.B.length Aw.c0, .slice Aw.a1 Z.V.length Aw.c1, .slice Aw.a2 Z.M.length Aw.c2] := hF.2.2.2.2.2.2.1 hb6
   have e7 : zS 10 = .pointer (some ⟨qw, 0, none⟩) := hF.2.2.2.2.2.2.2 hb7
   clear hL hm
   rw [hb8] at hW
   rw [hb6] at hW
   rw [hb7] at hW
   simp only [pE]
   simp only [e6, e7]
   have hz9 := mkHid (hW.2.2.2.2.2.1 rfl rfl)
   have ho9 := mkHid (hW.2.2.2.1 rfl)
   have hq9 := mkHid (hW.2.2.2.2.1 rfl)
   have hr8 := mkHid (hW.2.2.2.2.2.2.1 rfl rfl)
   have hr9 : Hid (hw ≤ qw ∨ qw + 1 ≤ lw) := mkHid (by rcases hr8.out with h | h; exact .inr h; exact .inl h)
   obtain ⟨k0, k1, k2, k3, k4, k5⟩ := hz9.out
   go_simp
   exact hK.out _ _ ⟨fun zj => if zj = 7 then true else if zj = 6 then true else if zj = 8 then true else zB zj, fun zd => if zd = 10 then .pointer (some ⟨qw, 0, none⟩) else if zd = 34 then .agg #[.slice Aw.a0 Z.B.length Aw.c0, .slice Aw.a1 Z.V.length Aw.c1, .slice Aw.a2 Z.M.length Aw.c2] else zS zd, Aq, gq, Aw, lw, hw, qw, by simp [hb6, hb7], by kernel_rfl, ⟨hF.1, hF.2.1, hF.2.2.1, hF.2.2.2.1, hF.2.2.2.2.1, hF.2.2.2.2.2.1, fun _ => rfl, fun _ => rfl⟩, ⟨((hW.1.setCell (p := ⟨qw, 0, none⟩) hq9.out.1 _).setCell (p := ⟨qw, 1, none⟩) hq9.out.1 _).setCell (p := ⟨qw, 2, none⟩) hq9.out.1 _, fun _ e => tf e, fun _ e => tf e, fun _ => ⟨((ho9.out.1.outs (outs_set _ _ _ _) hr9.out).outs (outs_set _ _ _ _) hr9.out).outs (outs_set _ _ _ _) hr9.out, ho9.out.2.1, by simpa [go_sem] using ho9.out.2.2⟩, fun _ => ⟨hq9.out.1, by simpa [go_sem] using hq9.out.2⟩, fun _ e => tf e, fun _ _ => hr8.out, fun _ => ⟨rfl, rfl, ((hz9.out.set0 _).set1 _).set2 _⟩⟩⟩
  exact StepsI.nil (by kernel_rfl)
 ·rintro L zA vv8 ⟨zB, zS, Aq, gq, Aw, lw, hw, qw, rfl, rfl, hF, hW⟩ hr
  have hu := all_up (by kernel_rfl) (N := 9) (by kernel_rfl) hr
  have hb0 : zB 0 = true := by simpa using hu 0 (by decide)
  have hb1 : zB 1 = true := by simpa using hu 1 (by decide)
  have hb2 : zB 2 = true := by simpa using hu 2 (by decide)
  have hb3 : zB 3 = true := by simpa using hu 3 (by decide)
  have hb4 : zB 4 = true := by simpa using hu 4 (by decide)
  have hb5 : zB 5 = true := by simpa using hu 5 (by decide)
  have hb6 : zB 6 = true := by simpa using hu 6 (by decide)
  have hb7 : zB 7 = true := by simpa using hu 7 (by decide)
  have hb8 : zB 8 = true := by simpa using hu 8 (by decide)
  have e0 : zS 28 = .int .i64 size := hF.1 hb0
  have e1 : zS 29 = .int .i64 lv := hF.2.1 hb1
  have e2 : zS 30 = .agg #[.slice A.a0 S.B.length A.c0, .slice A.a1 S.V.length A.c1, .slice A.a2 S.M.length A.c2] := hF.2.2.1 hb2
  have e3 : zS 31 = .agg #[.slice Aq.a0 S.B.length Aq.c0, .slice Aq.a1 S.V.length Aq.c1, .slice Aq.a2 S.M.length Aq.c2] := hF.2.2.2.1 hb3
  have e4 : zS 32 = .agg #[.int .i64 z, .slice a l.length c] := hF.2.2.2.2.1 hb4
  have e5 : zS 33 = .agg #[.int .i64 z, .slice (some ⟨gq, 0, none⟩) l.length l.length] := hF.2.2.2.2.2.1 hb5
  have e6 : zS 34 = .agg #[.slice Aw.a0 Z.B.length Aw.c0, .slice Aw.a1 Z.V.length Aw.c1, .slice Aw.a2 Z.M.length Aw.c2] := hF.2.2.2.2.2.2.1 hb6
  have e7 : zS 10 = .pointer (some ⟨qw, 0, none⟩) := hF.2.2.2.2.2.2.2 hb7
  rw [hb3] at hW
  rw [hb5] at hW
  rw [hb6] at hW
  rw [hb7] at hW
  rw [hb8] at hW
  clear hu hr hF
  simp only [pE]
  simp only [e0, e1, e2, e3, e4, e5, e6, e7]
  clear e0 e1 e2 e3 e4 e5 e6 e7
  clear hb0 hb1 hb2 hb3 hb4 hb5 hb6 hb7 hb8
  clear zB zS
  have hb := hW.1
  have Ow := mkHid (hW.2.2.2.1 (by first | rfl | trivial)).1
  have Swa := mkHid (hW.2.2.2.1 (by first | rfl | trivial)).2.1
  have Swb := mkHid (hW.2.2.2.1 (by first | rfl | trivial)).2.2
  have Swc := mkHid (hW.2.2.2.2.1 (by first | rfl | trivial)).1
  have Swd := mkHid (hW.2.2.2.2.1 (by first | rfl | trivial)).2
  have Rw := mkHid (hW.2.2.2.2.2.2.1 (by first | rfl | trivial) (by first | rfl | trivial))
  have Gw := mkHid (hW.2.2.2.2.2.2.2 (by first | rfl | trivial)).2.2
  have BE := mkHid (below_step BE.out hb)
  have BW := mkHid (below_step BW.out hb)
  have SZ3 := mkHid hb.size
  have FS0 := mkHid (FS0.out.below hb)
  have FF0 := mkHid (FF0.out.below hb)
  have LS := mkHid (LS.out.below hb)
  have LF := mkHid (LF.out.below hb)
  clear hb hW
  clear cFS0 cFF0
  obtain ⟨k0, k1, k2, _, _, _⟩ := FS0.out
  go_wp2_with fail
  refine (toSeg_any S A _ HM.out.b HM.out.t HM.out.v HM.out.m LS.out).mono ?_
  rintro e wa ⟨Ax, rfl, ho, hb⟩
  have Ox := mkHid ho
  obtain ⟨lx, hlx⟩ : ∃ q, vv8.heap.size = q := ⟨_, rfl⟩
  have Qlx : Hid (vv8.heap.size = lx) := mkHid hlx
  obtain ⟨hx, hhx⟩ : ∃ q, wa.heap.size = q := ⟨_, rfl⟩
  have Qhx : Hid (wa.heap.size = hx) := mkHid hhx
  rw [hlx, hhx] at Ox
  have BE := mkHid (below_step BE.out hb)
  have BW := mkHid (below_step BW.out hb)
  have SZ4 := mkHid hb.size
  have FS0 := mkHid (FS0.out.below hb)
  have FF0 := mkHid (FF0.out.below hb)
  have LS := mkHid (LS.out.below hb)
  have LF := mkHid (LF.out.below hb)
  have Ow := mkHid (Ow.out.below hb)
  have Gw := mkHid (Gw.out.below hb)
  clear ho hb k0 k1 k2 hlx hhx
  obtain ⟨X11, hX11⟩ : ∃ x, wa.heap.size = x := ⟨_, rfl⟩
  have QX11 : Hid (wa.heap.size = X11) := mkHid hX11
  obtain ⟨w3, hw3⟩ : ∃ x : World, wa.alloc (.cells #[.slice Ax.a0 S.B.length Ax.c0, .slice Ax.a1 S.V.length Ax.c1, .slice Ax.a2 S.M.length Ax.c2] 35) = x := ⟨_, rfl⟩
  have hb : Below wa.heap.size wa w3 := by rw [← hw3]; exact bl_alloc (Below.refl _ _) _
  have BE := mkHid (below_step BE.out hb)
  have BW := mkHid (below_step BW.out hb)
  have SZ5 := mkHid hb.size
  have FS0 := mkHid (FS0.out.below hb)
  have FF0 := mkHid (FF0.out.below hb)
  have LS := mkHid (LS.out.below hb)
  have LF := mkHid (LF.out.below hb)
  have Ow := mkHid (Ow.out.below hb)
  have Gw := mkHid (Gw.out.below hb)
  have Ox := mkHid (Ox.out.below hb)
  have FS11 : Hid (G3 w3 X11 (.slice Ax.a0 S.B.length Ax.c0) (.slice Ax.a1 S.V.length Ax.c1) (.slice Ax.a2 S.M.length Ax.c2)) := mkHid (by rw [← hw3, ← hX11]; exact G3.new _ _ _ _ 35)
  clear hb
  have SX11 : Hid (X11 < w3.heap.size) := mkHid FS11.out.lt
  obtain ⟨k0, k1⟩ := FF0.out
  go_wp2_with fail
  first | rw [hw3] | skip
  first | rw [hX11] | skip
  clear hw3 hX11
  refine (Q.toFacts_any z l a c _ HLN.out LF.out).mono ?_
  rintro e wb ⟨gx, rfl, ho, hb⟩
  have Ofx : Hid (Q.OwnI wb w3.heap.size (.slice (some ⟨gx, 0, none⟩) l.length l.length) l) := mkHid ho
  have Qg1 := mkHid (ho.lt (q := gx) rfl).1
  have Qg2 := mkHid (ho.lt (q := gx) rfl).2
  have BE := mkHid (below_step BE.out hb)
  have BW := mkHid (below_step BW.out hb)
  have SZ6 := mkHid hb.size
  have FS0 := mkHid (FS0.out.below hb)
  have FF0 := mkHid (FF0.out.below hb)
  have LS := mkHid (LS.out.below hb)
  have LF := mkHid (LF.out.below hb)
  have Ow := mkHid (Ow.out.below hb)
  have Gw := mkHid (Gw.out.below hb)
  have Ox := mkHid (Ox.out.below hb)
  have FS11 := mkHid (FS11.out.below hb)
  clear ho hb k0 k1
  obtain ⟨X12, hX12⟩ : ∃ x, wb.heap.size = x := ⟨_, rfl⟩
  have QX12 : Hid (wb.heap.size = X12) := mkHid hX12
  obtain ⟨w4, hw4⟩ : ∃ x : World, wb.alloc (.cells #[.int .i64 z, .slice (some ⟨gx, 0, none⟩) l.length l.length] 38) = x := ⟨_, rfl⟩
  have hb : Below wb.heap.size wb w4 := by rw [← hw4]; exact bl_alloc (Below.refl _ _) _
  have BE := mkHid (below_step BE.out hb)
  have BW := mkHid (below_step BW.out hb)
  have SZ7 := mkHid hb.size
  have FS0 := mkHid (FS0.out.below hb)
  have FF0 := mkHid (FF0.out.below hb)
  have LS := mkHid (LS.out.below hb)
  have LF := mkHid (LF.out.below hb)
  have Ow := mkHid (Ow.out.below hb)
  have Gw := mkHid (Gw.out.below hb)
  have Ox := mkHid (Ox.out.below hb)
  have FS11 := mkHid (FS11.out.below hb)
  have Ofx := mkHid (Ofx.out.below hb)
  have FF12 : Hid (Q.Fc w4 X12 z (some ⟨gx, 0, none⟩) l.length l.length) := mkHid (by rw [← hw4, ← hX12]; exact Q.Fc.new _ _ _ _ _ 38)
  clear hb
  have SX12 : Hid (X12 < w4.heap.size) := mkHid FF12.out.lt
  obtain ⟨k0, k1, k2, _, _, _⟩ := FS11.out
  obtain ⟨j0, j1⟩ := FF12.out
  go_wp2_with fail
  first | rw [hw4] | skip
  first | rw [hX12] | skip
  clear hw4 hX12
  refine (iSegSharpen_any size lv S Ax z l (some ⟨gx, 0, none⟩) l.length  _ HM.out Ox.out.at (Nat.le_refl _) Ofx.out.at).mono ?_
  rintro e wg ⟨Z', hZ', Ag, rfl, ho, hb⟩
  have eZ : Z = Z' := HZ.out.one hZ'
  subst eZ
  clear hZ'
  have Og := mkHid ho
  obtain ⟨lg, hlg⟩ : ∃ q, w4.heap.size = q := ⟨_, rfl⟩
  have Qlg : Hid (w4.heap.size = lg) := mkHid hlg
  obtain ⟨hg, hhg⟩ : ∃ q, wg.heap.size = q := ⟨_, rfl⟩
  have Qhg : Hid (wg.heap.size = hg) := mkHid hhg
  rw [hlg, hhg] at Og
  have BE := mkHid (below_step BE.out hb)
  have BW := mkHid (below_step BW.out hb)
  have SZ8 := mkHid hb.size
  have FS0 := mkHid (FS0.out.below hb)
  have FF0 := mkHid (FF0.out.below hb)
  have LS := mkHid (LS.out.below hb)
  have LF := mkHid (LF.out.below hb)
  have Ow := mkHid (Ow.out.below hb)
  have Gw := mkHid (Gw.out.below hb)
  have Ox := mkHid (Ox.out.below hb)
  have FS11 := mkHid (FS11.out.below hb)
  have Ofx := mkHid (Ofx.out.below hb)
  have FF12 := mkHid (FF12.out.below hb)
  clear ho hb k0 k1 k2 j0 j1 hlg hhg
  obtain ⟨X13, hX13⟩ : ∃ x, wg.heap.size = x := ⟨_, rfl⟩
  have QX13 : Hid (wg.heap.size = X13) := mkHid hX13
  obtain ⟨w5, hw5⟩ : ∃ x : World, wg.alloc (.cells #[.slice Ag.a0 Z.B.length Ag.c0, .slice Ag.a1 Z.V.length Ag.c1, .slice Ag.a2 Z.M.length Ag.c2] 35) = x := ⟨_, rfl⟩
  have hb : Below wg.heap.size wg w5 := by rw [← hw5]; exact bl_alloc (Below.refl _ _) _
  have BE := mkHid (below_step BE.out hb)
  have BW := mkHid (below_step BW.out hb)
  have SZ9 := mkHid hb.size
  have FS0 := mkHid (FS0.out.below hb)
  have FF0 := mkHid (FF0.out.below hb)
  have LS := mkHid (LS.out.below hb)
  have LF := mkHid (LF.out.below hb)
  have Ow := mkHid (Ow.out.below hb)
  have Gw := mkHid (Gw.out.below hb)
  have Ox := mkHid (Ox.out.below hb)
  have FS11 := mkHid (FS11.out.below hb)
  have Ofx := mkHid (Ofx.out.below hb)
  have FF12 := mkHid (FF12.out.below hb)
  have Og := mkHid (Og.out.below hb)
  have FS13 : Hid (G3 w5 X13 (.slice Ag.a0 Z.B.length Ag.c0) (.slice Ag.a1 Z.V.length Ag.c1) (.slice Ag.a2 Z.M.length Ag.c2)) := mkHid (by rw [← hw5, ← hX13]; exact G3.new _ _ _ _ 35)
  clear hb
  have Rg : Hid (X13 < lg ∨ hg ≤ X13) := mkHid (.inr (by have := Qhg.out; have := QX13.out; omega))
  have Gg := FS13
  clear FS13
  have SXg : Hid (X13 < w5.heap.size) := mkHid Gg.out.lt
  obtain ⟨k0, k1, k2, _, _, _⟩ := Gg.out
  obtain ⟨j0, j1, j2, _, _, _⟩ := Gw.out
  go_wp2_with fail
  first | rw [hw5] | skip
  first | rw [hX13] | skip
  clear hw5 hX13
  refine (eqSeg_same Z Ag Aw _ HSZ.out Og.out.at Ow.out.at).mono ?_
  rintro e wc1 ⟨rfl, hb⟩
  have BE := mkHid (below_step BE.out hb)
  have BW := mkHid (below_step BW.out hb)
  have SZ10 := mkHid hb.size
  have FS0 := mkHid (FS0.out.below hb)
  have FF0 := mkHid (FF0.out.below hb)
  have LS := mkHid (LS.out.below hb)
  have LF := mkHid (LF.out.below hb)
  have Ow := mkHid (Ow.out.below hb)
  have Gw := mkHid (Gw.out.below hb)
  have Ox := mkHid (Ox.out.below hb)
  have FS11 := mkHid (FS11.out.below hb)
  have Ofx := mkHid (Ofx.out.below hb)
  have FF12 := mkHid (FF12.out.below hb)
  have Og := mkHid (Og.out.below hb)
  have Gg := mkHid (Gg.out.below hb)
  clear hb k0 k1 k2 j0 j1 j2
  have cFS0 : ∀ v', Below wc1.heap.size wc1 v' → G3 v' (X) (.slice A.a0 S.B.length A.c0) (.slice A.a1 S.V.length A.c1) (.slice A.a2 S.M.length A.c2) := fun v' h => FS0.out.below h
  have cFF0 : ∀ v', Below wc1.heap.size wc1 v' → Q.Fc v' (X + 1) z a l.length (c) := fun v' h => FF0.out.below h
  have cGw : ∀ v', Below wc1.heap.size wc1 v' → G3 v' (qw) (.slice Aw.a0 Z.B.length Aw.c0) (.slice Aw.a1 Z.V.length Aw.c1) (.slice Aw.a2 Z.M.length Aw.c2) := fun v' h => Gw.out.below h
  have cFS11 : ∀ v', Below wc1.heap.size wc1 v' → G3 v' (X11) (.slice Ax.a0 S.B.length Ax.c0) (.slice Ax.a1 S.V.length Ax.c1) (.slice Ax.a2 S.M.length Ax.c2) := fun v' h => FS11.out.below h
  have cFF12 : ∀ v', Below wc1.heap.size wc1 v' → Q.Fc v' (X12) z (some ⟨gx, 0, none⟩) l.length (l.length) := fun v' h => FF12.out.below h
  have cGg : ∀ v', Below wc1.heap.size wc1 v' → G3 v' (X13) (.slice Ag.a0 Z.B.length Ag.c0) (.slice Ag.a1 Z.V.length Ag.c1) (.slice Ag.a2 Z.M.length Ag.c2) := fun v' h => Gg.out.below h
  go_wp2_with fail
  refine wp_region_inv2 (fun zA0 L zA vv14 => ∃ (zB : Nat → Bool) (zS : Nat → Value) (Aq : SAd), L = #[zB 0, zB 1, zB 2, zB 3, zB 4] ∧ zA = puts zA0 [(48, zS 48), (49, zS 49), (50, zS 50), (51, zS 51), (52, zS 52)] ∧ ((zB 0 = true → zS 48 = .agg #[.slice Ax.a0 S.B.length Ax.c0, .slice Ax.a1 S.V.length Ax.c1, .slice Ax.a2 S.M.length Ax.c2]) ∧ (zB 1 = true → zS 49 = .agg #[.slice A.a0 S.B.length A.c0, .slice A.a1 S.V.length A.c1, .slice A.a2 S.M.length A.c2]) ∧ (zB 2 = true → zS 50 = .agg #[.slice Aq.a0 S.B.length Aq.c0, .slice Aq.a1 S.V.length Aq.c1, .slice Aq.a2 S.M.length Aq.c2]) ∧ (zB 3 = true → zS 51 = .bool true) ∧ (zB 4 = true → zS 52 = .bool false)) ∧ Below wc1.heap.size wc1 vv14 ∧ ((zB 2) = true → SegAt vv14 Aq S)) (by kernel_rfl) ?_ ?_ ?_
  ·exact ⟨fun _ => false, fun _ => undef, zAd, rfl, by kernel_rfl, ⟨fun e => ft e, fun e => ft e, fun e => ft e, fun e => ft e, fun e => ft e⟩, ⟨(Below.refl _ _).drew, fun e => ft e⟩⟩
  ·refine StepsI.cons rfl ?_ ?_
   ·rintro L zA vv14 ⟨zB, zS, Aq, rfl, rfl, hF, hW⟩ hL hm K hK
    have hb0 : zB 0 = false := by simpa using hL
    clear hL hm
    simp only [pE]
    obtain ⟨k0, k1, k2, _, _, _⟩ := cFS11 _ hW.1
    go_simp
    exact hK.out _ _ ⟨fun zj => if zj = 0 then true else zB zj, fun zd => if zd = 48 then .agg #[.slice Ax.a0 S.B.length Ax.c0, .slice Ax.a1 S.V.length Ax.c1, .slice Ax.a2 S.M.length Ax.c2] else zS zd, Aq, rfl, by kernel_rfl, ⟨fun _ => rfl, hF.2.1, hF.2.2.1, hF.2.2.2.1, hF.2.2.2.2⟩, hW⟩
   refine StepsI.cons rfl ?_ ?_
   ·rintro L zA vv14 ⟨zB, zS, Aq, rfl, rfl, hF, hW⟩ hL hm K hK
    have hb1 : zB 1 = false := by simpa using hL
    clear hL hm
    simp only [pE]
    obtain ⟨k0, k1, k2, _, _, _⟩ := cFS0 _ hW.1
    go_simp
    exact hK.out _ _ ⟨fun zj => if zj = 1 then true else zB zj, fun zd => if zd = 49 then .agg #[.slice A.a0 S.B.length A.c0, .slice A.a1 S.V.length A.c1, .slice A.a2 S.M.length A.c2] else zS zd, Aq, rfl, by kernel_rfl, ⟨hF.1, fun _ => rfl, hF.2.2.1, hF.2.2.2.1, hF.2.2.2.2⟩, hW⟩
   refine StepsI.cons rfl ?_ ?_
   ·rintro L zA vv14 ⟨zB, zS, Aq, rfl, rfl, hF, hW⟩ hL hm K hK
    have hb2 : zB 2 = false := by simpa using hL
    have hb1 : zB 1 = true := mt 1 hm (by kernel_rfl)
    have e1 : zS 49 = .agg #[.slice A.a0 S.B.length A.c0, .slice A.a1 S.V.length A.c1, .slice A.a2 S.M.length A.c2] := hF.2.1 hb1
    clear hL hm
    rw [hb2] at hW
    simp only [pE]
    simp only [e1]
    go_simp
    refine (toSeg_any S A _ HM.out.b HM.out.t HM.out.v HM.out.m (LS.out.below hW.1)).mono ?_
    rintro e vv142 ⟨Aq9, rfl, ho, hb⟩
    go_wp2_with fail
    exact hK.out _ _ ⟨fun zj => if zj = 1 then true else if zj = 2 then true else zB zj, fun zd => if zd = 50 then .agg #[.slice Aq9.a0 S.B.length Aq9.c0, .slice Aq9.a1 S.V.length Aq9.c1, .slice Aq9.a2 S.M.length Aq9.c2] else if zd = 49 then .agg #[.slice A.a0 S.B.length A.c0, .slice A.a1 S.V.length A.c1, .slice A.a2 S.M.length A.c2] else zS zd, Aq9, by simp [hb1], by kernel_rfl, ⟨hF.1, fun _ => rfl, fun _ => rfl, hF.2.2.2.1, hF.2.2.2.2⟩, ⟨below_step hW.1 hb, fun _ => ho.at⟩⟩
   refine StepsI.cons rfl ?_ ?_
   ·rintro L zA vv14 ⟨zB, zS, Aq, rfl, rfl, hF, hW⟩ hL hm K hK
    have hb3 : zB 3 = false := by simpa using hL
    have hb0 : zB 0 = true := mt 0 hm (by kernel_rfl)
    have hb2 : zB 2 = true := mt 2 hm (by kernel_rfl)
    have e0 : zS 48 = .agg #[.slice Ax.a0 S.B.length Ax.c0, .slice Ax.a1 S.V.length Ax.c1, .slice Ax.a2 S.M.length Ax.c2] := hF.1 hb0
    have e2 : zS 50 = .agg #[.slice Aq.a0 S.B.length Aq.c0, .slice Aq.a1 S.V.length Aq.c1, .slice Aq.a2 S.M.length Aq.c2] := hF.2.2.1 hb2
    clear hL hm
    rw [hb2] at hW
    simp only [pE]
    simp only [e0, e2]
    go_simp
    refine (eqSeg_same S Ax Aq _ HM.out (Ox.out.at.below hW.1) (hW.2 (by first | rfl | trivial))).mono ?_
    rintro e vv142 ⟨rfl, hb⟩
    go_wp2_with fail
    exact hK.out _ _ ⟨fun zj => if zj = 2 then true else if zj = 0 then true else if zj = 3 then true else zB zj, fun zd => if zd = 51 then .bool true else if zd = 50 then .agg #[.slice Aq.a0 S.B.length Aq.c0, .slice Aq.a1 S.V.length Aq.c1, .slice Aq.a2 S.M.length Aq.c2] else if zd = 48 then .agg #[.slice Ax.a0 S.B.length Ax.c0, .slice Ax.a1 S.V.length Ax.c1, .slice Ax.a2 S.M.length Ax.c2] else zS zd, Aq, by simp [hb0, hb2], by kernel_rfl, ⟨fun _ => rfl, hF.2.1, fun _ => rfl, fun _ => rfl, hF.2.2.2.2⟩, ⟨below_step hW.1 hb, fun _ => (hW.2 (by first | rfl | trivial)).below hb⟩⟩
   refine StepsI.cons rfl ?_ ?_
   ·rintro L zA vv14 ⟨zB, zS, Aq, rfl, rfl, hF, hW⟩ hL hm K hK
    have hb4 : zB 4 = false := by simpa using hL
    have hb3 : zB 3 = true := mt 3 hm (by kernel_rfl)
    have e3 : zS 51 = .bool true := hF.2.2.2.1 hb3
    clear hL hm
    simp only [pE]
    simp only [e3]
    go_simp
    exact hK.out _ _ ⟨fun zj => if zj = 3 then true else if zj = 4 then true else zB zj, fun zd => if zd = 52 then .bool false else if zd = 51 then .bool true else zS zd, Aq, by simp [hb3], by kernel_rfl, ⟨hF.1, hF.2.1, hF.2.2.1, fun _ => rfl, fun _ => rfl⟩, hW⟩
   exact StepsI.nil (by kernel_rfl)
  ·rintro L zA vv14 ⟨zB, zS, Aq, rfl, rfl, hF, hW⟩ hr
   have hu := all_up (by kernel_rfl) (N := 5) (by kernel_rfl) hr
   have hb0 : zB 0 = true := by simpa using hu 0 (by decide)
   have hb1 : zB 1 = true := by simpa using hu 1 (by decide)
   have hb2 : zB 2 = true := by simpa using hu 2 (by decide)
   have hb3 : zB 3 = true := by simpa using hu 3 (by decide)
   have hb4 : zB 4 = true := by simpa using hu 4 (by decide)
   have e0 : zS 48 = .agg #[.slice Ax.a0 S.B.length Ax.c0, .slice Ax.a1 S.V.length Ax.c1, .slice Ax.a2 S.M.length Ax.c2] := hF.1 hb0
   have e1 : zS 49 = .agg #[.slice A.a0 S.B.length A.c0, .slice A.a1 S.V.length A.c1, .slice A.a2 S.M.length A.c2] := hF.2.1 hb1
   have e2 : zS 50 = .agg #[.slice Aq.a0 S.B.length Aq.c0, .slice Aq.a1 S.V.length Aq.c1, .slice Aq.a2 S.M.length Aq.c2] := hF.2.2.1 hb2
   have e3 : zS 51 = .bool true := hF.2.2.2.1 hb3
   have e4 : zS 52 = .bool false := hF.2.2.2.2 hb4
   rw [hb2] at hW
   clear hu hr hF
   simp only [pE]
   simp only [e0, e1, e2, e3, e4]
   clear e0 e1 e2 e3 e4
   clear hb0 hb1 hb2 hb3 hb4
   clear zB zS
   have hb := hW.1
   have n0 := mkHid (hW.2 (by first | rfl | trivial))
   have BE := mkHid (below_step BE.out hb)
   have BW := mkHid (below_step BW.out hb)
   have SZ11 := mkHid hb.size
   have FS0 := mkHid (FS0.out.below hb)
   have FF0 := mkHid (FF0.out.below hb)
   have LS := mkHid (LS.out.below hb)
   have LF := mkHid (LF.out.below hb)
   have Ow := mkHid (Ow.out.below hb)
   have Gw := mkHid (Gw.out.below hb)
   have Ox := mkHid (Ox.out.below hb)
   have FS11 := mkHid (FS11.out.below hb)
   have Ofx := mkHid (Ofx.out.below hb)
   have FF12 := mkHid (FF12.out.below hb)
   have Og := mkHid (Og.out.below hb)
   have Gg := mkHid (Gg.out.below hb)
   clear hb hW
   clear cFS0 cFF0 cGw cFS11 cFF12 cGg
   clear n0
   have cFS0 : ∀ v', Below vv14.heap.size vv14 v' → G3 v' (X) (.slice A.a0 S.B.length A.c0) (.slice A.a1 S.V.length A.c1) (.slice A.a2 S.M.length A.c2) := fun v' h => FS0.out.below h
   have cFF0 : ∀ v', Below vv14.heap.size vv14 v' → Q.Fc v' (X + 1) z a l.length (c) := fun v' h => FF0.out.below h
   have cGw : ∀ v', Below vv14.heap.size vv14 v' → G3 v' (qw) (.slice Aw.a0 Z.B.length Aw.c0) (.slice Aw.a1 Z.V.length Aw.c1) (.slice Aw.a2 Z.M.length Aw.c2) := fun v' h => Gw.out.below h
   have cFS11 : ∀ v', Below vv14.heap.size vv14 v' → G3 v' (X11) (.slice Ax.a0 S.B.length Ax.c0) (.slice Ax.a1 S.V.length Ax.c1) (.slice Ax.a2 S.M.length Ax.c2) := fun v' h => FS11.out.below h
   have cFF12 : ∀ v', Below vv14.heap.size vv14 v' → Q.Fc v' (X12) z (some ⟨gx, 0, none⟩) l.length (l.length) := fun v' h => FF12.out.below h
   have cGg : ∀ v', Below vv14.heap.size vv14 v' → G3 v' (X13) (.slice Ag.a0 Z.B.length Ag.c0) (.slice Ag.a1 Z.V.length Ag.c1) (.slice Ag.a2 Z.M.length Ag.c2) := fun v' h => Gg.out.below h
   go_wp2_with fail
   refine wp_region_inv2 (fun zA0 L zA vv16 => ∃ (zB : Nat → Bool) (zS : Nat → Value) (gq : Nat), L = #[zB 0, zB 1, zB 2, zB 3, zB 4] ∧ zA = puts zA0 [(53, zS 53), (54, zS 54), (55, zS 55), (56, zS 56), (57, zS 57)] ∧ ((zB 0 = true → zS 53 = .agg #[.int .i64 z, .slice (some ⟨gx, 0, none⟩) l.length l.length]) ∧ (zB 1 = true → zS 54 = .agg #[.int .i64 z, .slice a l.length c]) ∧ (zB 2 = true → zS 55 = .agg #[.int .i64 z, .slice (some ⟨gq, 0, none⟩) l.length l.length]) ∧ (zB 3 = true → zS 56 = .bool true) ∧ (zB 4 = true → zS 57 = .bool false)) ∧ Below vv14.heap.size vv14 vv16 ∧ ((zB 2) = true → Q.IntsAt vv16 (some ⟨gq, 0, none⟩) l)) (by kernel_rfl) ?_ ?_ ?_
   ·exact ⟨fun _ => false, fun _ => undef, 0, rfl, by kernel_rfl, ⟨fun e => ft e, fun e => ft e, fun e => ft e, fun e => ft e, fun e => ft e⟩, ⟨(Below.refl _ _).drew, fun e => ft e⟩⟩
   ·refine StepsI.cons rfl ?_ ?_
    ·rintro L zA vv16 ⟨zB, zS, gq, rfl, rfl, hF, hW⟩ hL hm K hK
     have hb0 : zB 0 = false := by simpa using hL
     clear hL hm
     simp only [pE]
     obtain ⟨k0, k1⟩ := cFF12 _ hW.1
     go_simp
     exact hK.out _ _ ⟨fun zj => if zj = 0 then true else zB zj, fun zd => if zd = 53 then .agg #[.int .i64 z, .slice (some ⟨gx, 0, none⟩) l.length l.length] else zS zd, gq, rfl, by kernel_rfl, ⟨fun _ => rfl, hF.2.1, hF.2.2.1, hF.2.2.2.1, hF.2.2.2.2⟩, hW⟩
    refine StepsI.cons rfl ?_ ?_
    ·rintro L zA vv16 ⟨zB, zS, gq, rfl, rfl, hF, hW⟩ hL hm K hK
     have hb1 : zB 1 = false := by simpa using hL
     clear hL hm
     simp only [pE]
     obtain ⟨k0, k1⟩ := cFF0 _ hW.1
     go_simp
     exact hK.out _ _ ⟨fun zj => if zj = 1 then true else zB zj, fun zd => if zd = 54 then .agg #[.int .i64 z, .slice a l.length c] else zS zd, gq, rfl, by kernel_rfl, ⟨hF.1, fun _ => rfl, hF.2.2.1, hF.2.2.2.1, hF.2.2.2.2⟩, hW⟩
    refine StepsI.cons rfl ?_ ?_
    ·rintro L zA vv16 ⟨zB, zS, gq, rfl, rfl, hF, hW⟩ hL hm K hK
     have hb2 : zB 2 = false := by simpa using hL
     have hb1 : zB 1 = true := mt 1 hm (by kernel_rfl)
     have e1 : zS 54 = .agg #[.int .i64 z, .slice a l.length c] := hF.2.1 hb1
     clear hL hm
     rw [hb2] at hW
     simp only [pE]
     simp only [e1]
     go_simp
     refine (Q.toFacts_any z l a c _ HLN.out (LF.out.below hW.1)).mono ?_
     rintro e vv162 ⟨gq9, rfl, ho, hb⟩
     go_wp2_with fail
     exact hK.out _ _ ⟨fun zj => if zj = 1 then true else if zj = 2 then true else zB zj, fun zd => if zd = 55 then .agg #[.int .i64 z, .slice (some ⟨gq9, 0, none⟩) l.length l.length] else if zd = 54 then .agg #[.int .i64 z, .slice a l.length c] else zS zd, gq9, by simp [hb1], by kernel_rfl, ⟨hF.1, fun _ => rfl, fun _ => rfl, hF.2.2.2.1, hF.2.2.2.2⟩, ⟨below_step hW.1 hb, fun _ => ho.at⟩⟩
    refine StepsI.cons rfl ?_ ?_
    ·rintro L zA vv16 ⟨zB, zS, gq, rfl, rfl, hF, hW⟩ hL hm K hK
     have hb3 : zB 3 = false := by simpa using hL
     have hb0 : zB 0 = true := mt 0 hm (by kernel_rfl)
     have hb2 : zB 2 = true := mt 2 hm (by kernel_rfl)
     have e0 : zS 53 = .agg #[.int .i64 z, .slice (some ⟨gx, 0, none⟩) l.length l.length] := hF.1 hb0
     have e2 : zS 55 = .agg #[.int .i64 z, .slice (some ⟨gq, 0, none⟩) l.length l.length] := hF.2.2.1 hb2
     clear hL hm
     rw [hb2] at hW
     simp only [pE]
     simp only [e0, e2]
     go_simp
     refine (Q.eqFacts_ok z l (some ⟨gx, 0, none⟩) (some ⟨gq, 0, none⟩) l.length l.length _ HN.out (Ofx.out.at.below hW.1) (hW.2 (by first | rfl | trivial))).mono ?_
     rintro e vv162 ⟨rfl, hb⟩
     go_wp2_with fail
     exact hK.out _ _ ⟨fun zj => if zj = 2 then true else if zj = 0 then true else if zj = 3 then true else zB zj, fun zd => if zd = 56 then .bool true else if zd = 55 then .agg #[.int .i64 z, .slice (some ⟨gq, 0, none⟩) l.length l.length] else if zd = 53 then .agg #[.int .i64 z, .slice (some ⟨gx, 0, none⟩) l.length l.length] else zS zd, gq, by simp [hb0, hb2], by kernel_rfl, ⟨fun _ => rfl, hF.2.1, fun _ => rfl, fun _ => rfl, hF.2.2.2.2⟩, ⟨below_step hW.1 hb, fun _ => (hW.2 (by first | rfl | trivial)).below hb⟩⟩
    refine StepsI.cons rfl ?_ ?_
    ·rintro L zA vv16 ⟨zB, zS, gq, rfl, rfl, hF, hW⟩ hL hm K hK
     have hb4 : zB 4 = false := by simpa using hL
     have hb3 : zB 3 = true := mt 3 hm (by kernel_rfl)
     have e3 : zS 56 = .bool true := hF.2.2.2.1 hb3
     clear hL hm
     simp only [pE]
     simp only [e3]
     go_simp
     exact hK.out _ _ ⟨fun zj => if zj = 3 then true else if zj = 4 then true else zB zj, fun zd => if zd = 57 then .bool false else if zd = 56 then .bool true else zS zd, gq, by simp [hb3], by kernel_rfl, ⟨hF.1, hF.2.1, hF.2.2.1, fun _ => rfl, fun _ => rfl⟩, hW⟩
    exact StepsI.nil (by kernel_rfl)
   ·rintro L zA vv16 ⟨zB, zS, gq, rfl, rfl, hF, hW⟩ hr
    have hu := all_up (by kernel_rfl) (N := 5) (by kernel_rfl) hr
    have hb0 : zB 0 = true := by simpa using hu 0 (by decide)
    have hb1 : zB 1 = true := by simpa using hu 1 (by decide)
    have hb2 : zB 2 = true := by simpa using hu 2 (by decide)
    have hb3 : zB 3 = true := by simpa using hu 3 (by decide)
    have hb4 : zB 4 = true := by simpa using hu 4 (by decide)
    have e0 : zS 53 = .agg #[.int .i64 z, .slice (some ⟨gx, 0, none⟩) l.length l.length] := hF.1 hb0
    have e1 : zS 54 = .agg #[.int .i64 z, .slice a l.length c] := hF.2.1 hb1
    have e2 : zS 55 = .agg #[.int .i64 z, .slice (some ⟨gq, 0, none⟩) l.length l.length] := hF.2.2.1 hb2
    have e3 : zS 56 = .bool true := hF.2.2.2.1 hb3
    have e4 : zS 57 = .bool false := hF.2.2.2.2 hb4
    rw [hb2] at hW
    clear hu hr hF
    simp only [pE]
    simp only [e0, e1, e2, e3, e4]
    clear e0 e1 e2 e3 e4
    clear hb0 hb1 hb2 hb3 hb4
    clear zB zS
    have hb := hW.1
    have n0 := mkHid (hW.2 (by first | rfl | trivial))
    have BE := mkHid (below_step BE.out hb)
    have BW := mkHid (below_step BW.out hb)
    have SZ12 := mkHid hb.size
    have FS0 := mkHid (FS0.out.below hb)
    have FF0 := mkHid (FF0.out.below hb)
    have LS := mkHid (LS.out.below hb)
    have LF := mkHid (LF.out.below hb)
    have Ow := mkHid (Ow.out.below hb)
    have Gw := mkHid (Gw.out.below hb)
    have Ox := mkHid (Ox.out.below hb)
    have FS11 := mkHid (FS11.out.below hb)
    have Ofx := mkHid (Ofx.out.below hb)
    have FF12 := mkHid (FF12.out.below hb)
    have Og := mkHid (Og.out.below hb)
    have Gg := mkHid (Gg.out.below hb)
    clear hb hW
    clear cFS0 cFF0 cGw cFS11 cFF12 cGg
    clear n0
    obtain ⟨k0, k1, k2, _, _, _⟩ := FS11.out
    go_wp2_with fail
    refine (markSeg_ok S Ax lx hx 1 _ HM.out (by omega) (by omega) (by have := SZ0.out; have := SZ1.out; have := SZ2.out; have := SZ3.out; have := Swa.out; have := Swb.out; have := Swc.out; have := Swd.out; have := SZ4.out; have := Qlx.out; have := Qhx.out; have := SZ5.out; have := QX11.out; have := SX11.out; have := SZ6.out; have := Qg1.out; have := Qg2.out; have := SZ7.out; have := QX12.out; have := SX12.out; have := SZ8.out; have := Qlg.out; have := Qhg.out; have := SZ9.out; have := QX13.out; have := SXg.out; have := SZ10.out; have := SZ11.out; have := SZ12.out; omega) Ox.out).mono ?_
    rintro e wm1 ⟨rfl, og, ho⟩
    have SZ13 := mkHid ho.size
    have BW := mkHid (Outs.below BW.out ho (by have := SZ0.out; have := SZ1.out; have := SZ2.out; have := SZ3.out; have := Swa.out; have := Swb.out; have := Swc.out; have := Swd.out; have := SZ4.out; have := Qlx.out; have := Qhx.out; have := SZ5.out; have := QX11.out; have := SX11.out; have := SZ6.out; have := Qg1.out; have := Qg2.out; have := SZ7.out; have := QX12.out; have := SX12.out; have := SZ8.out; have := Qlg.out; have := Qhg.out; have := SZ9.out; have := QX13.out; have := SXg.out; have := SZ10.out; have := SZ11.out; have := SZ12.out; omega) (Nat.le_refl _))
    have BE := mkHid (Outs.below BE.out ho (by have := SZ0.out; have := SZ1.out; have := SZ2.out; have := SZ3.out; have := Swa.out; have := Swb.out; have := Swc.out; have := Swd.out; have := SZ4.out; have := Qlx.out; have := Qhx.out; have := SZ5.out; have := QX11.out; have := SX11.out; have := SZ6.out; have := Qg1.out; have := Qg2.out; have := SZ7.out; have := QX12.out; have := SX12.out; have := SZ8.out; have := Qlg.out; have := Qhg.out; have := SZ9.out; have := QX13.out; have := SXg.out; have := SZ10.out; have := SZ11.out; have := SZ12.out; omega) (Nat.le_refl _))
    have FS0 := mkHid (KFS0.out.below BW.out)
    have FF0 := mkHid (KFF0.out.below BW.out)
    have LS := mkHid (KLS.out.below BW.out)
    have LF := mkHid (KLF.out.below BW.out)
    have Ow := mkHid (Ow.out.outs ho (.inl (by have := SZ0.out; have := SZ1.out; have := SZ2.out; have := SZ3.out; have := Swa.out; have := Swb.out; have := Swc.out; have := Swd.out; have := SZ4.out; have := Qlx.out; have := Qhx.out; have := SZ5.out; have := QX11.out; have := SX11.out; have := SZ6.out; have := Qg1.out; have := Qg2.out; have := SZ7.out; have := QX12.out; have := SX12.out; have := SZ8.out; have := Qlg.out; have := Qhg.out; have := SZ9.out; have := QX13.out; have := SXg.out; have := SZ10.out; have := SZ11.out; have := SZ12.out; have := SZ13.out; omega)))
    have Gw := mkHid (Gw.out.outs ho (.inl (by have := SZ0.out; have := SZ1.out; have := SZ2.out; have := SZ3.out; have := Swa.out; have := Swb.out; have := Swc.out; have := Swd.out; have := SZ4.out; have := Qlx.out; have := Qhx.out; have := SZ5.out; have := QX11.out; have := SX11.out; have := SZ6.out; have := Qg1.out; have := Qg2.out; have := SZ7.out; have := QX12.out; have := SX12.out; have := SZ8.out; have := Qlg.out; have := Qhg.out; have := SZ9.out; have := QX13.out; have := SXg.out; have := SZ10.out; have := SZ11.out; have := SZ12.out; have := SZ13.out; omega)))
    have Ox := mkHid og
    have FS11 := mkHid (FS11.out.outs ho (.inr (by have := SZ0.out; have := SZ1.out; have := SZ2.out; have := SZ3.out; have := Swa.out; have := Swb.out; have := Swc.out; have := Swd.out; have := SZ4.out; have := Qlx.out; have := Qhx.out; have := SZ5.out; have := QX11.out; have := SX11.out; have := SZ6.out; have := Qg1.out; have := Qg2.out; have := SZ7.out; have := QX12.out; have := SX12.out; have := SZ8.out; have := Qlg.out; have := Qhg.out; have := SZ9.out; have := QX13.out; have := SXg.out; have := SZ10.out; have := SZ11.out; have := SZ12.out; have := SZ13.out; omega)))
    have Ofx := mkHid (owns_outs Ofx.out ho (fun q e => by cases e; exact .inr (show hx ≤ gx from (by have := SZ0.out; have := SZ1.out; have := SZ2.out; have := SZ3.out; have := Swa.out; have := Swb.out; have := Swc.out; have := Swd.out; have := SZ4.out; have := Qlx.out; have := Qhx.out; have := SZ5.out; have := QX11.out; have := SX11.out; have := SZ6.out; have := Qg1.out; have := Qg2.out; have := SZ7.out; have := QX12.out; have := SX12.out; have := SZ8.out; have := Qlg.out; have := Qhg.out; have := SZ9.out; have := QX13.out; have := SXg.out; have := SZ10.out; have := SZ11.out; have := SZ12.out; have := SZ13.out; omega))))
    have FF12 := mkHid (fc_outs FF12.out ho (.inr (by have := SZ0.out; have := SZ1.out; have := SZ2.out; have := SZ3.out; have := Swa.out; have := Swb.out; have := Swc.out; have := Swd.out; have := SZ4.out; have := Qlx.out; have := Qhx.out; have := SZ5.out; have := QX11.out; have := SX11.out; have := SZ6.out; have := Qg1.out; have := Qg2.out; have := SZ7.out; have := QX12.out; have := SX12.out; have := SZ8.out; have := Qlg.out; have := Qhg.out; have := SZ9.out; have := QX13.out; have := SXg.out; have := SZ10.out; have := SZ11.out; have := SZ12.out; have := SZ13.out; omega)))
    have Og := mkHid (Og.out.outs ho (.inr (by have := SZ0.out; have := SZ1.out; have := SZ2.out; have := SZ3.out; have := Swa.out; have := Swb.out; have := Swc.out; have := Swd.out; have := SZ4.out; have := Qlx.out; have := Qhx.out; have := SZ5.out; have := QX11.out; have := SX11.out; have := SZ6.out; have := Qg1.out; have := Qg2.out; have := SZ7.out; have := QX12.out; have := SX12.out; have := SZ8.out; have := Qlg.out; have := Qhg.out; have := SZ9.out; have := QX13.out; have := SXg.out; have := SZ10.out; have := SZ11.out; have := SZ12.out; have := SZ13.out; omega)))
    have Gg := mkHid (Gg.out.outs ho (.inr (by have := SZ0.out; have := SZ1.out; have := SZ2.out; have := SZ3.out; have := Swa.out; have := Swb.out; have := Swc.out; have := Swd.out; have := SZ4.out; have := Qlx.out; have := Qhx.out; have := SZ5.out; have := QX11.out; have := SX11.out; have := SZ6.out; have := Qg1.out; have := Qg2.out; have := SZ7.out; have := QX12.out; have := SX12.out; have := SZ8.out; have := Qlg.out; have := Qhg.out; have := SZ9.out; have := QX13.out; have := SXg.out; have := SZ10.out; have := SZ11.out; have := SZ12.out; have := SZ13.out; omega)))
    clear ho og
    clear k0 k1 k2
    obtain ⟨m1, hm1⟩ : ∃ m, 1 + cntS S = m := ⟨_, rfl⟩
    have hm1a : 1 ≤ m1 ∧ m1 ≤ 6291457 := by have := cntS_nonneg S; have := HM.out.cnt; omega
    rw [hm1]
    clear hm1
    obtain ⟨k0, k1⟩ := FF12.out
    go_wp2_with fail
    refine (Q.markFacts_ok z l (some ⟨gx, 0, none⟩) l.length w3.heap.size m1 _ (by have := HLN.out; omega) (by omega) (by omega) Ofx.out).mono ?_
    rintro e wm2 ⟨rfl, og, hg⟩
    have ho : Outs gx (gx + 1) wm1 wm2 := (Outs.refl gx (gx + 1) wm1).grown hg (fun q e => by cases e; exact ⟨Nat.le_refl _, Nat.lt_succ_self _⟩)
    have SZ14 := mkHid ho.size
    have BW := mkHid (Outs.below BW.out ho (by have := SZ0.out; have := SZ1.out; have := SZ2.out; have := SZ3.out; have := Swa.out; have := Swb.out; have := Swc.out; have := Swd.out; have := SZ4.out; have := Qlx.out; have := Qhx.out; have := SZ5.out; have := QX11.out; have := SX11.out; have := SZ6.out; have := Qg1.out; have := Qg2.out; have := SZ7.out; have := QX12.out; have := SX12.out; have := SZ8.out; have := Qlg.out; have := Qhg.out; have := SZ9.out; have := QX13.out; have := SXg.out; have := SZ10.out; have := SZ11.out; have := SZ12.out; have := SZ13.out; omega) (Nat.le_refl _))
    have BE := mkHid (Outs.below BE.out ho (by have := SZ0.out; have := SZ1.out; have := SZ2.out; have := SZ3.out; have := Swa.out; have := Swb.out; have := Swc.out; have := Swd.out; have := SZ4.out; have := Qlx.out; have := Qhx.out; have := SZ5.out; have := QX11.out; have := SX11.out; have := SZ6.out; have := Qg1.out; have := Qg2.out; have := SZ7.out; have := QX12.out; have := SX12.out; have := SZ8.out; have := Qlg.out; have := Qhg.out; have := SZ9.out; have := QX13.out; have := SXg.out; have := SZ10.out; have := SZ11.out; have := SZ12.out; have := SZ13.out; omega) (Nat.le_refl _))
    have FS0 := mkHid (KFS0.out.below BW.out)
    have FF0 := mkHid (KFF0.out.below BW.out)
    have LS := mkHid (KLS.out.below BW.out)
    have LF := mkHid (KLF.out.below BW.out)
    have Ow := mkHid (Ow.out.outs ho (.inl (by have := SZ0.out; have := SZ1.out; have := SZ2.out; have := SZ3.out; have := Swa.out; have := Swb.out; have := Swc.out; have := Swd.out; have := SZ4.out; have := Qlx.out; have := Qhx.out; have := SZ5.out; have := QX11.out; have := SX11.out; have := SZ6.out; have := Qg1.out; have := Qg2.out; have := SZ7.out; have := QX12.out; have := SX12.out; have := SZ8.out; have := Qlg.out; have := Qhg.out; have := SZ9.out; have := QX13.out; have := SXg.out; have := SZ10.out; have := SZ11.out; have := SZ12.out; have := SZ13.out; have := SZ14.out; omega)))
    have Gw := mkHid (Gw.out.outs ho (.inl (by have := SZ0.out; have := SZ1.out; have := SZ2.out; have := SZ3.out; have := Swa.out; have := Swb.out; have := Swc.out; have := Swd.out; have := SZ4.out; have := Qlx.out; have := Qhx.out; have := SZ5.out; have := QX11.out; have := SX11.out; have := SZ6.out; have := Qg1.out; have := Qg2.out; have := SZ7.out; have := QX12.out; have := SX12.out; have := SZ8.out; have := Qlg.out; have := Qhg.out; have := SZ9.out; have := QX13.out; have := SXg.out; have := SZ10.out; have := SZ11.out; have := SZ12.out; have := SZ13.out; have := SZ14.out; omega)))
    have Ox := mkHid (Ox.out.outs ho (.inl (by have := SZ0.out; have := SZ1.out; have := SZ2.out; have := SZ3.out; have := Swa.out; have := Swb.out; have := Swc.out; have := Swd.out; have := SZ4.out; have := Qlx.out; have := Qhx.out; have := SZ5.out; have := QX11.out; have := SX11.out; have := SZ6.out; have := Qg1.out; have := Qg2.out; have := SZ7.out; have := QX12.out; have := SX12.out; have := SZ8.out; have := Qlg.out; have := Qhg.out; have := SZ9.out; have := QX13.out; have := SXg.out; have := SZ10.out; have := SZ11.out; have := SZ12.out; have := SZ13.out; have := SZ14.out; omega)))
    have FS11 := mkHid (FS11.out.outs ho (.inl (by have := SZ0.out; have := SZ1.out; have := SZ2.out; have := SZ3.out; have := Swa.out; have := Swb.out; have := Swc.out; have := Swd.out; have := SZ4.out; have := Qlx.out; have := Qhx.out; have := SZ5.out; have := QX11.out; have := SX11.out; have := SZ6.out; have := Qg1.out; have := Qg2.out; have := SZ7.out; have := QX12.out; have := SX12.out; have := SZ8.out; have := Qlg.out; have := Qhg.out; have := SZ9.out; have := QX13.out; have := SXg.out; have := SZ10.out; have := SZ11.out; have := SZ12.out; have := SZ13.out; have := SZ14.out; omega)))
    have Ofx := mkHid og
    have FF12 := mkHid (fc_outs FF12.out ho (.inr (by have := SZ0.out; have := SZ1.out; have := SZ2.out; have := SZ3.out; have := Swa.out; have := Swb.out; have := Swc.out; have := Swd.out; have := SZ4.out; have := Qlx.out; have := Qhx.out; have := SZ5.out; have := QX11.out; have := SX11.out; have := SZ6.out; have := Qg1.out; have := Qg2.out; have := SZ7.out; have := QX12.out; have := SX12.out; have := SZ8.out; have := Qlg.out; have := Qhg.out; have := SZ9.out; have := QX13.out; have := SXg.out; have := SZ10.out; have := SZ11.out; have := SZ12.out; have := SZ13.out; have := SZ14.out; omega)))
    have Og := mkHid (Og.out.outs ho (.inr (by have := SZ0.out; have := SZ1.out; have := SZ2.out; have := SZ3.out; have := Swa.out; have := Swb.out; have := Swc.out; have := Swd.out; have := SZ4.out; have := Qlx.out; have := Qhx.out; have := SZ5.out; have := QX11.out; have := SX11.out; have := SZ6.out; have := Qg1.out; have := Qg2.out; have := SZ7.out; have := QX12.out; have := SX12.out; have := SZ8.out; have := Qlg.out; have := Qhg.out; have := SZ9.out; have := QX13.out; have := SXg.out; have := SZ10.out; have := SZ11.out; have := SZ12.out; have := SZ13.out; have := SZ14.out; omega)))
    have Gg := mkHid (Gg.out.outs ho (.inr (by have := SZ0.out; have := SZ1.out; have := SZ2.out; have := SZ3.out; have := Swa.out; have := Swb.out; have := Swc.out; have := Swd.out; have := SZ4.out; have := Qlx.out; have := Qhx.out; have := SZ5.out; have := QX11.out; have := SX11.out; have := SZ6.out; have := Qg1.out; have := Qg2.out; have := SZ7.out; have := QX12.out; have := SX12.out; have := SZ8.out; have := Qlg.out; have := Qhg.out; have := SZ9.out; have := QX13.out; have := SXg.out; have := SZ10.out; have := SZ11.out; have := SZ12.out; have := SZ13.out; have := SZ14.out; omega)))
    clear ho og
    clear k0 k1 hg
    obtain ⟨m2, hm2⟩ : ∃ m, m1 + (l.length : Int) = m := ⟨_, rfl⟩
    have hm2a : ¬ m2 < 0 := by omega
    rw [hm2]
    clear hm2
    obtain ⟨k0, k1, k2, _, _, _⟩ := Gg.out
    obtain ⟨j0, j1, j2, _, _, _⟩ := Gw.out
    go_wp2_with fail
    refine (eqSeg_same Z Ag Aw _ HSZ.out Og.out.at Ow.out.at).mono ?_
    rintro e wc2 ⟨rfl, hb⟩
    have BE := mkHid (below_step BE.out hb)
    have BW := mkHid (below_step BW.out hb)
    have SZ15 := mkHid hb.size
    have FS0 := mkHid (FS0.out.below hb)
    have FF0 := mkHid (FF0.out.below hb)
    have LS := mkHid (LS.out.below hb)
    have LF := mkHid (LF.out.below hb)
    have Ow := mkHid (Ow.out.below hb)
    have Gw := mkHid (Gw.out.below hb)
    have Ox := mkHid (Ox.out.below hb)
    have FS11 := mkHid (FS11.out.below hb)
    have Ofx := mkHid (Ofx.out.below hb)
    have FF12 := mkHid (FF12.out.below hb)
    have Og := mkHid (Og.out.below hb)
    have Gg := mkHid (Gg.out.below hb)
    clear hb k0 k1 k2 j0 j1 j2
    clear Ox
    clear FS11
    clear Ofx
    clear FF12
    obtain ⟨k0, k1, k2, _, _, _⟩ := Gg.out
    go_wp2_with fail
    refine (markSeg_ok Z Ag lg hg 1 _ HSZ.out (by omega) (by omega) (by have := SZ0.out; have := SZ1.out; have := SZ2.out; have := SZ3.out; have := Swa.out; have := Swb.out; have := Swc.out; have := Swd.out; have := SZ4.out; have := Qlx.out; have := Qhx.out; have := SZ5.out; have := QX11.out; have := SX11.out; have := SZ6.out; have := Qg1.out; have := Qg2.out; have := SZ7.out; have := QX12.out; have := SX12.out; have := SZ8.out; have := Qlg.out; have := Qhg.out; have := SZ9.out; have := QX13.out; have := SXg.out; have := SZ10.out; have := SZ11.out; have := SZ12.out; have := SZ13.out; have := SZ14.out; have := SZ15.out; omega) Og.out).mono ?_
    rintro e wm3 ⟨rfl, og, ho⟩
    have SZ16 := mkHid ho.size
    have BW := mkHid (Outs.below BW.out ho (by have := SZ0.out; have := SZ1.out; have := SZ2.out; have := SZ3.out; have := Swa.out; have := Swb.out; have := Swc.out; have := Swd.out; have := SZ4.out; have := Qlx.out; have := Qhx.out; have := SZ5.out; have := QX11.out; have := SX11.out; have := SZ6.out; have := Qg1.out; have := Qg2.out; have := SZ7.out; have := QX12.out; have := SX12.out; have := SZ8.out; have := Qlg.out; have := Qhg.out; have := SZ9.out; have := QX13.out; have := SXg.out; have := SZ10.out; have := SZ11.out; have := SZ12.out; have := SZ13.out; have := SZ14.out; have := SZ15.out; omega) (Nat.le_refl _))
    have BE := mkHid (Outs.below BE.out ho (by have := SZ0.out; have := SZ1.out; have := SZ2.out; have := SZ3.out; have := Swa.out; have := Swb.out; have := Swc.out; have := Swd.out; have := SZ4.out; have := Qlx.out; have := Qhx.out; have := SZ5.out; have := QX11.out; have := SX11.out; have := SZ6.out; have := Qg1.out; have := Qg2.out; have := SZ7.out; have := QX12.out; have := SX12.out; have := SZ8.out; have := Qlg.out; have := Qhg.out; have := SZ9.out; have := QX13.out; have := SXg.out; have := SZ10.out; have := SZ11.out; have := SZ12.out; have := SZ13.out; have := SZ14.out; have := SZ15.out; omega) (Nat.le_refl _))
    have FS0 := mkHid (KFS0.out.below BW.out)
    have FF0 := mkHid (KFF0.out.below BW.out)
    have LS := mkHid (KLS.out.below BW.out)
    have LF := mkHid (KLF.out.below BW.out)
    have Ow := mkHid (Ow.out.outs ho (.inl (by have := SZ0.out; have := SZ1.out; have := SZ2.out; have := SZ3.out; have := Swa.out; have := Swb.out; have := Swc.out; have := Swd.out; have := SZ4.out; have := Qlx.out; have := Qhx.out; have := SZ5.out; have := QX11.out; have := SX11.out; have := SZ6.out; have := Qg1.out; have := Qg2.out; have := SZ7.out; have := QX12.out; have := SX12.out; have := SZ8.out; have := Qlg.out; have := Qhg.out; have := SZ9.out; have := QX13.out; have := SXg.out; have := SZ10.out; have := SZ11.out; have := SZ12.out; have := SZ13.out; have := SZ14.out; have := SZ15.out; have := SZ16.out; omega)))
    have Gw := mkHid (Gw.out.outs ho (.inl (by have := SZ0.out; have := SZ1.out; have := SZ2.out; have := SZ3.out; have := Swa.out; have := Swb.out; have := Swc.out; have := Swd.out; have := SZ4.out; have := Qlx.out; have := Qhx.out; have := SZ5.out; have := QX11.out; have := SX11.out; have := SZ6.out; have := Qg1.out; have := Qg2.out; have := SZ7.out; have := QX12.out; have := SX12.out; have := SZ8.out; have := Qlg.out; have := Qhg.out; have := SZ9.out; have := QX13.out; have := SXg.out; have := SZ10.out; have := SZ11.out; have := SZ12.out; have := SZ13.out; have := SZ14.out; have := SZ15.out; have := SZ16.out; omega)))
    have Og := mkHid og
    have Gg := mkHid (Gg.out.outs ho Rg.out)
    clear ho og
    clear k0 k1 k2
    obtain ⟨m, hm⟩ : ∃ m, 1 + cntS Z = m := ⟨_, rfl⟩
    have hm0 : ¬ m < 0 := by have := cntS_nonneg Z; omega
    have hmm : (m != m) = false := by simp
    have HMm := mkHid hm
    rw [hm]
    clear hm
    obtain ⟨k0, k1, k2, _, _, _⟩ := Gg.out
    go_wp2_with fail
    refine (heldSeg_ok Z Ag 1 _ HSZ.out (by omega) (by omega) Og.out.at).mono ?_
    rintro e wh1 ⟨rfl, hb⟩
    have BE := mkHid (below_step BE.out hb)
    have BW := mkHid (below_step BW.out hb)
    have SZ17 := mkHid hb.size
    have FS0 := mkHid (FS0.out.below hb)
    have FF0 := mkHid (FF0.out.below hb)
    have LS := mkHid (LS.out.below hb)
    have LF := mkHid (LF.out.below hb)
    have Ow := mkHid (Ow.out.below hb)
    have Gw := mkHid (Gw.out.below hb)
    have Og := mkHid (Og.out.below hb)
    have Gg := mkHid (Gg.out.below hb)
    clear hb k0 k1 k2
    rw [HMm.out]
    have cFS0 : ∀ v', Below wh1.heap.size wh1 v' → G3 v' (X) (.slice A.a0 S.B.length A.c0) (.slice A.a1 S.V.length A.c1) (.slice A.a2 S.M.length A.c2) := fun v' h => FS0.out.below h
    have cFF0 : ∀ v', Below wh1.heap.size wh1 v' → Q.Fc v' (X + 1) z a l.length (c) := fun v' h => FF0.out.below h
    have cGw : ∀ v', Below wh1.heap.size wh1 v' → G3 v' (qw) (.slice Aw.a0 Z.B.length Aw.c0) (.slice Aw.a1 Z.V.length Aw.c1) (.slice Aw.a2 Z.M.length Aw.c2) := fun v' h => Gw.out.below h
    have cGg : ∀ v', Below wh1.heap.size wh1 v' → G3 v' (X13) (.slice Ag.a0 Z.B.length Ag.c0) (.slice Ag.a1 Z.V.length Ag.c1) (.slice Ag.a2 Z.M.length Ag.c2) := fun v' h => Gg.out.below h
    go_wp2_with fail
    refine wp_region_inv2 (fun zA0 L zA vv31 => ∃ (zB : Nat → Bool) (zS : Nat → Value) (Aq : SAd) (gq : Nat) (Ah : SAd) (lh : Nat) (hh : Nat) (qh : Nat), L = #[zB 0, zB 1, zB 2, zB 3, zB 4, zB 5, zB 6, zB 7, zB 8] ∧ zA = puts zA0 [(83, zS 83), (84, zS 84), (85, zS 85), (86, zS 86), (87, zS 87), (88, zS 88), (89, zS 89), (17, zS 17)] ∧ ((zB 0 = true → zS 83 = .int .i64 size) ∧ (zB 1 = true → zS 84 = .int .i64 lv) ∧ (zB 2 = true → zS 85 = .agg #[.slice A.a0 S.B.length A.c0, .slice A.a1 S.V.length A.c1, .slice A.a2 S.M.length A.c2]) ∧ (zB 3 = true → zS 86 = .agg #[.slice Aq.a0 S.B.length Aq.c0, .slice Aq.a1 S.V.length Aq.c1, .slice Aq.a2 S.M.length Aq.c2]) ∧ (zB 4 = true → zS 87 = .agg #[.int .i64 z, .slice a l.length c]) ∧ (zB 5 = true → zS 88 = .agg #[.int .i64 z, .slice (some ⟨gq, 0, none⟩) l.length l.length]) ∧ (zB 6 = true → zS 89 = .agg #[.slice Ah.a0 Z.B.length Ah.c0, .slice Ah.a1 Z.V.length Ah.c1, .slice Ah.a2 Z.M.length Ah.c2]) ∧ (zB 7 = true → zS 17 = .pointer (some ⟨qh, 0, none⟩))) ∧ Below wh1.heap.size wh1 vv31 ∧ ((zB 3) = true → (zB 6) = false → SegAt vv31 Aq S) ∧ ((zB 5) = true → (zB 6) = false → Q.IntsAt vv31 (some ⟨gq, 0, none⟩) l) ∧ ((zB 6) = true → OwnS vv31 lh hh Ah Z ∧ wh1.heap.size ≤ lh ∧ hh ≤ vv31.heap.size) ∧ ((zB 7) = true → wh1.heap.size ≤ qh ∧ qh < vv31.heap.size) ∧ ((zB 7) = true → (zB 8) = false → G3 vv31 qh (.slice none 0 0) (.slice none 0 0) (.slice none 0 0)) ∧ ((zB 6) = true → (zB 7) = true → qh < lh ∨ hh ≤ qh) ∧ ((zB 8) = true → (zB 7) = true ∧ (zB 6) = true ∧ G3 vv31 qh (.slice Ah.a0 Z.B.length Ah.c0) (.slice Ah.a1 Z.V.length Ah.c1) (.slice Ah.a2 Z.M.length Ah.c2))) (by kernel_rfl) ?_ ?_ ?_
    ·exact ⟨fun _ => false, fun _ => undef, zAd, 0, zAd, 0, 0, 0, rfl, by kernel_rfl, ⟨fun e => ft e, fun e => ft e, fun e => ft e, fun e => ft e, fun e => ft e, fun e => ft e, fun e => ft e, fun e => ft e⟩, ⟨(Below.refl _ _).drew, fun e => ft e, fun e => ft e, fun e => ft e, fun e => ft e, fun e => ft e, fun e => ft e, fun e => ft e⟩⟩
    ·refine StepsI.cons rfl ?_ ?_
     ·rintro L zA vv31 ⟨zB, zS, Aq, gq, Ah, lh, hh, qh, rfl, rfl, hF, hW⟩ hL hm K hK
      have hb0 : zB 0 = false := by simpa using hL
      clear hL hm
      simp only [pE]
      go_simp
      exact hK.out _ _ ⟨fun zj => if zj = 0 then true else zB zj, fun zd => if zd = 83 then .int .i64 size else zS zd, Aq, gq, Ah, lh, hh, qh, rfl, by kernel_rfl, ⟨fun _ => rfl, hF.2.1, hF.2.2.1, hF.2.2.2.1, hF.2.2.2.2.1, hF.2.2.2.2.2.1, hF.2.2.2.2.2.2.1, hF.2.2.2.2.2.2.2⟩, hW⟩
     refine StepsI.cons rfl ?_ ?_
     ·rintro L zA vv31 ⟨zB, zS, Aq, gq, Ah, lh, hh, qh, rfl, rfl, hF, hW⟩ hL hm K hK
      have hb1 : zB 1 = false := by simpa using hL
      clear hL hm
      simp only [pE]
      go_simp
      exact hK.out _ _ ⟨fun zj => if zj = 1 then true else zB zj, fun zd => if zd = 84 then .int .i64 lv else zS zd, Aq, gq, Ah, lh, hh, qh, rfl, by kernel_rfl, ⟨hF.1, fun _ => rfl, hF.2.2.1, hF.2.2.2.1, hF.2.2.2.2.1, hF.2.2.2.2.2.1, hF.2.2.2.2.2.2.1, hF.2.2.2.2.2.2.2⟩, hW⟩
     refine StepsI.cons rfl ?_ ?_
     ·rintro L zA vv31 ⟨zB, zS, Aq, gq, Ah, lh, hh, qh, rfl, rfl, hF, hW⟩ hL hm K hK
      have hb2 : zB 2 = false := by simpa using hL
      clear hL hm
      simp only [pE]
      obtain ⟨k0, k1, k2, _, _, _⟩ := cFS0 _ hW.1
      go_simp
      exact hK.out _ _ ⟨fun zj => if zj = 2 then true else zB zj, fun zd => if zd = 85 then .agg #[.slice A.a0 S.B.length A.c0, .slice A.a1 S.V.length A.c1, .slice A.a2 S.M.length A.c2] else zS zd, Aq, gq, Ah, lh, hh, qh, rfl, by kernel_rfl, ⟨hF.1, hF.2.1, fun _ => rfl, hF.2.2.2.1, hF.2.2.2.2.1, hF.2.2.2.2.2.1, hF.2.2.2.2.2.2.1, hF.2.2.2.2.2.2.2⟩, hW⟩
     refine StepsI.cons rfl ?_ ?_
     ·rintro L zA vv31 ⟨zB, zS, Aq, gq, Ah, lh, hh, qh, rfl, rfl, hF, hW⟩ hL hm K hK
      have hb3 : zB 3 = false := by simpa using hL
      have hb2 : zB 2 = true := mt 2 hm (by kernel_rfl)
      have e2 : zS 85 = .agg #[.slice A.a0 S.B.length A.c0, .slice A.a1 S.V.length A.c1, .slice A.a2 S.M.length A.c2] := hF.2.2.1 hb2
      clear hL hm
      rw [hb3] at hW
      simp only [pE]
      simp only [e2]
      go_simp
      refine (toSeg_any S A _ HM.out.b HM.out.t HM.out.v HM.out.m (LS.out.below hW.1)).mono ?_
      rintro e vv312 ⟨Aq9, rfl, ho, hb⟩
      go_wp2_with fail
      exact hK.out _ _ ⟨fun zj => if zj = 2 then true else if zj = 3 then true else zB zj, fun zd => if zd = 86 then .agg #[.slice Aq9.a0 S.B.length Aq9.c0, .slice Aq9.a1 S.V.length Aq9.c1, .slice Aq9.a2 S.M.length Aq9.c2] else if zd = 85 then .agg #[.slice A.a0 S.B.length A.c0, .slice A.a1 S.V.length A.c1, .slice A.a2 S.M.length A.c2] else zS zd, Aq9, gq, Ah, lh, hh, qh, by simp [hb2], by kernel_rfl, ⟨hF.1, hF.2.1, fun _ => rfl, fun _ => rfl, hF.2.2.2.2.1, hF.2.2.2.2.2.1, hF.2.2.2.2.2.2.1, hF.2.2.2.2.2.2.2⟩, ⟨below_step hW.1 hb, fun _ _ => ho.at, fun e r => (hW.2.2.1 e r).below hb, fun e => ⟨(hW.2.2.2.1 e).1.below hb, (hW.2.2.2.1 e).2.1, Nat.le_trans (hW.2.2.2.1 e).2.2 hb.size⟩, fun e => ⟨(hW.2.2.2.2.1 e).1, Nat.lt_of_lt_of_le (hW.2.2.2.2.1 e).2 hb.size⟩, fun e r => (hW.2.2.2.2.2.1 e r).below hb, hW.2.2.2.2.2.2.1, fun e => ⟨(hW.2.2.2.2.2.2.2 e).1, (hW.2.2.2.2.2.2.2 e).2.1, (hW.2.2.2.2.2.2.2 e).2.2.below hb⟩⟩⟩
     refine StepsI.cons rfl ?_ ?_
     ·rintro L zA vv31 ⟨zB, zS, Aq, gq, Ah, lh, hh, qh, rfl, rfl, hF, hW⟩ hL hm K hK
      have hb4 : zB 4 = false := by simpa using hL
      clear hL hm
      simp only [pE]
      obtain ⟨k0, k1⟩ := cFF0 _ hW.1
      go_simp
      exact hK.out _ _ ⟨fun zj => if zj = 4 then true else zB zj, fun zd => if zd = 87 then .agg #[.int .i64 z, .slice a l.length c] else zS zd, Aq, gq, Ah, lh, hh, qh, rfl, by kernel_rfl, ⟨hF.1, hF.2.1, hF.2.2.1, hF.2.2.2.1, fun _ => rfl, hF.2.2.2.2.2.1, hF.2.2.2.2.2.2.1, hF.2.2.2.2.2.2.2⟩, hW⟩
     refine StepsI.cons rfl ?_ ?_
     ·rintro L zA vv31 ⟨zB, zS, Aq, gq, Ah, lh, hh, qh, rfl, rfl, hF, hW⟩ hL hm K hK
      have hb5 : zB 5 = false := by simpa using hL
      have hb4 : zB 4 = true := mt 4 hm (by kernel_rfl)
      have e4 : zS 87 = .agg #[.int .i64 z, .slice a l.length c] := hF.2.2.2.2.1 hb4
      clear hL hm
      rw [hb5] at hW
      simp only [pE]
      simp only [e4]
      go_simp
      refine (Q.toFacts_any z l a c _ HLN.out (LF.out.below hW.1)).mono ?_
      rintro e vv312 ⟨gq9, rfl, ho, hb⟩
      go_wp2_with fail
      exact hK.out _ _ ⟨fun zj => if zj = 4 then true else if zj = 5 then true else zB zj, fun zd => if zd = 88 then .agg #[.int .i64 z, .slice (some ⟨gq9, 0, none⟩) l.length l.length] else if zd = 87 then .agg #[.int .i64 z, .slice a l.length c] else zS zd, Aq, gq9, Ah, lh, hh, qh, by simp [hb4], by kernel_rfl, ⟨hF.1, hF.2.1, hF.2.2.1, hF.2.2.2.1, fun _ => rfl, fun _ => rfl, hF.2.2.2.2.2.2.1, hF.2.2.2.2.2.2.2⟩, ⟨below_step hW.1 hb, fun e r => (hW.2.1 e r).below hb, fun _ _ => ho.at, fun e => ⟨(hW.2.2.2.1 e).1.below hb, (hW.2.2.2.1 e).2.1, Nat.le_trans (hW.2.2.2.1 e).2.2 hb.size⟩, fun e => ⟨(hW.2.2.2.2.1 e).1, Nat.lt_of_lt_of_le (hW.2.2.2.2.1 e).2 hb.size⟩, fun e r => (hW.2.2.2.2.2.1 e r).below hb, hW.2.2.2.2.2.2.1, fun e => ⟨(hW.2.2.2.2.2.2.2 e).1, (hW.2.2.2.2.2.2.2 e).2.1, (hW.2.2.2.2.2.2.2 e).2.2.below hb⟩⟩⟩
     refine StepsI.cons rfl ?_ ?_
     ·rintro L zA vv31 ⟨zB, zS, Aq, gq, Ah, lh, hh, qh, rfl, rfl, hF, hW⟩ hL hm K hK
      have hb6 : zB 6 = false := by simpa using hL
      have hb0 : zB 0 = true := mt 0 hm (by kernel_rfl)
      have hb1 : zB 1 = true := mt 1 hm (by kernel_rfl)
      have hb3 : zB 3 = true := mt 3 hm (by kernel_rfl)
      have hb5 : zB 5 = true := mt 5 hm (by kernel_rfl)
      have e0 : zS 83 = .int .i64 size := hF.1 hb0
      have e1 : zS 84 = .int .i64 lv := hF.2.1 hb1
      have e3 : zS 86 = .agg #[.slice Aq.a0 S.B.length Aq.c0, .slice Aq.a1 S.V.length Aq.c1, .slice Aq.a2 S.M.length Aq.c2] := hF.2.2.2.1 hb3
      have e5 : zS 88 = .agg #[.int .i64 z, .slice (some ⟨gq, 0, none⟩) l.length l.length] := hF.2.2.2.2.2.1 hb5
      clear hL hm
      rw [hb6] at hW
      rw [hb3] at hW
      rw [hb5] at hW
      simp only [pE]
      simp only [e0, e1, e3, e5]
      go_simp
      refine (iSegSharpen_any size lv S Aq z l (some ⟨gq, 0, none⟩) l.length  _ HM.out (hW.2.1 (by first | rfl | trivial) rfl) (Nat.le_refl _) (hW.2.2.1 (by first | rfl | trivial) rfl)).mono ?_
      rintro e vv312 ⟨Z', hZ', Ah9, rfl, ho, hb⟩
      have eZ : Z = Z' := HZ.out.one hZ'
      subst eZ
      clear hZ'
      go_wp2_with fail
      exact hK.out _ _ ⟨fun zj => if zj = 5 then true else if zj = 3 then true else if zj = 1 then true else if zj = 0 then true else if zj = 6 then true else zB zj, fun zd => if zd = 89 then .agg #[.slice Ah9.a0 Z.B.length Ah9.c0, .slice Ah9.a1 Z.V.length Ah9.c1, .slice Ah9.a2 Z.M.length Ah9.c2] else if zd = 88 then .agg #[.int .i64 z, .slice (some ⟨gq, 0, none⟩) l.length l.length] else if zd = 86 then .agg #[.slice Aq.a0 S.B.length Aq.c0, .slice Aq.a1 S.V.length Aq.c1, .slice Aq.a2 S.M.length Aq.c2] else if zd = 84 then .int .i64 lv else if zd = 83 then .int .i64 size else zS zd, Aq, gq, Ah9, vv31.heap.size, vv312.heap.size, qh, by simp [hb0, hb1, hb3, hb5], by kernel_rfl, ⟨fun _ => rfl, fun _ => rfl, hF.2.2.1, fun _ => rfl, hF.2.2.2.2.1, fun _ => rfl, fun _ => rfl, hF.2.2.2.2.2.2.2⟩, ⟨below_step hW.1 hb, fun _ e => tf e, fun _ e => tf e, fun _ => ⟨ho, hW.1.size, Nat.le_refl _⟩, fun e => ⟨(hW.2.2.2.2.1 e).1, Nat.lt_of_lt_of_le (hW.2.2.2.2.1 e).2 hb.size⟩, fun e r => (hW.2.2.2.2.2.1 e r).below hb, fun _ e => .inl (hW.2.2.2.2.1 e).2, fun e => ft (hW.2.2.2.2.2.2.2 e).2.1⟩⟩
     refine StepsI.cons rfl ?_ ?_
     ·rintro L zA vv31 ⟨zB, zS, Aq, gq, Ah, lh, hh, qh, rfl, rfl, hF, hW⟩ hL hm K hK
      have hb7 : zB 7 = false := by simpa using hL
      clear hL hm
      rw [hb7] at hW
      simp only [pE]
      go_simp
      exact hK.out _ _ ⟨fun zj => if zj = 7 then true else zB zj, fun zd => if zd = 17 then .pointer (some ⟨vv31.heap.size, 0, none⟩) else zS zd, Aq, gq, Ah, lh, hh, vv31.heap.size, rfl, by kernel_rfl, ⟨hF.1, hF.2.1, hF.2.2.1, hF.2.2.2.1, hF.2.2.2.2.1, hF.2.2.2.2.2.1, hF.2.2.2.2.2.2.1, fun _ => rfl⟩, ⟨bl_alloc hW.1 _, fun e r => (hW.2.1 e r).below (bl_alloc (Below.refl _ _) _), fun e r => (hW.2.2.1 e r).below (bl_alloc (Below.refl _ _) _), fun e => ⟨(hW.2.2.2.1 e).1.below (bl_alloc (Below.refl _ _) _), (hW.2.2.2.1 e).2.1, Nat.le_trans (hW.2.2.2.1 e).2.2 (bl_alloc (Below.refl vv31.heap.size vv31) (.cells #[.slice none 0 0, .slice none 0 0, .slice none 0 0] 35)).size⟩, fun _ => ⟨hW.1.size, by simp⟩, fun _ _ => G3.new _ _ _ _ _, fun e _ => .inr (hW.2.2.2.1 e).2.2, fun e => ft (hW.2.2.2.2.2.2.2 e).1⟩⟩
     refine StepsI.cons rfl ?_ ?_
     ·rintro L zA vv31 ⟨zB, zS, Aq, gq, Ah, lh, hh, qh, rfl, rfl, hF, hW⟩ hL hm K hK
      have hb8 : zB 8 = false := by simpa using hL
      have hb6 : zB 6 = true := mt 6 hm (by kernel_rfl)
      have hb7 : zB 7 = true := mt 7 hm (by kernel_rfl)
      have e6 : zS 89 = .agg #[.slice Ah.a0 Z.B.length Ah.c0, .slice Ah.a1 Z.V.length Ah.c1, .slice Ah.a2 Z.M.length Ah.c2] := hF.2.2.2.2.2.2.1 hb6
      have e7 : zS 17 = .pointer (some ⟨qh, 0, none⟩) := hF.2.2.2.2.2.2.2 hb7
      clear hL hm
      rw [hb8] at hW
      rw [hb6] at hW
      rw [hb7] at hW
      simp only [pE]
      simp only [e6, e7]
      have hz9 := mkHid (hW.2.2.2.2.2.1 rfl rfl)
      have ho9 := mkHid (hW.2.2.2.1 rfl)
      have hq9 := mkHid (hW.2.2.2.2.1 rfl)
      have hr8 := mkHid (hW.2.2.2.2.2.2.1 rfl rfl)
      have hr9 : Hid (hh ≤ qh ∨ qh + 1 ≤ lh) := mkHid (by rcases hr8.out with h | h; exact .inr h; exact .inl h)
      obtain ⟨k0, k1, k2, k3, k4, k5⟩ := hz9.out
      go_simp
      exact hK.out _ _ ⟨fun zj => if zj = 7 then true else if zj = 6 then true else if zj = 8 then true else zB zj, fun zd => if zd = 17 then .pointer (some ⟨qh, 0, none⟩) else if zd = 89 then .agg #[.slice Ah.a0 Z.B.length Ah.c0, .slice Ah.a1 Z.V.length Ah.c1, .slice Ah.a2 Z.M.length Ah.c2] else zS zd, Aq, gq, Ah, lh, hh, qh, by simp [hb6, hb7], by kernel_rfl, ⟨hF.1, hF.2.1, hF.2.2.1, hF.2.2.2.1, hF.2.2.2.2.1, hF.2.2.2.2.2.1, fun _ => rfl, fun _ => rfl⟩, ⟨((hW.1.setCell (p := ⟨qh, 0, none⟩) hq9.out.1 _).setCell (p := ⟨qh, 1, none⟩) hq9.out.1 _).setCell (p := ⟨qh, 2, none⟩) hq9.out.1 _, fun _ e => tf e, fun _ e => tf e, fun _ => ⟨((ho9.out.1.outs (outs_set _ _ _ _) hr9.out).outs (outs_set _ _ _ _) hr9.out).outs (outs_set _ _ _ _) hr9.out, ho9.out.2.1, by simpa [go_sem] using ho9.out.2.2⟩, fun _ => ⟨hq9.out.1, by simpa [go_sem] using hq9.out.2⟩, fun _ e => tf e, fun _ _ => hr8.out, fun _ => ⟨rfl, rfl, ((hz9.out.set0 _).set1 _).set2 _⟩⟩⟩
     exact StepsI.nil (by kernel_rfl)
    ·rintro L zA vv31 ⟨zB, zS, Aq, gq, Ah, lh, hh, qh, rfl, rfl, hF, hW⟩ hr
     have hu := all_up (by kernel_rfl) (N := 9) (by kernel_rfl) hr
     have hb0 : zB 0 = true := by simpa using hu 0 (by decide)
     have hb1 : zB 1 = true := by simpa using hu 1 (by decide)
     have hb2 : zB 2 = true := by simpa using hu 2 (by decide)
     have hb3 : zB 3 = true := by simpa using hu 3 (by decide)
     have hb4 : zB 4 = true := by simpa using hu 4 (by decide)
     have hb5 : zB 5 = true := by simpa using hu 5 (by decide)
     have hb6 : zB 6 = true := by simpa using hu 6 (by decide)
     have hb7 : zB 7 = true := by simpa using hu 7 (by decide)
     have hb8 : zB 8 = true := by simpa using hu 8 (by decide)
     have e0 : zS 83 = .int .i64 size := hF.1 hb0
     have e1 : zS 84 = .int .i64 lv := hF.2.1 hb1
     have e2 : zS 85 = .agg #[.slice A.a0 S.B.length A.c0, .slice A.a1 S.V.length A.c1, .slice A.a2 S.M.length A.c2] := hF.2.2.1 hb2
     have e3 : zS 86 = .agg #[.slice Aq.a0 S.B.length Aq.c0, .slice Aq.a1 S.V.length Aq.c1, .slice Aq.a2 S.M.length Aq.c2] := hF.2.2.2.1 hb3
     have e4 : zS 87 = .agg #[.int .i64 z, .slice a l.length c] := hF.2.2.2.2.1 hb4
     have e5 : zS 88 = .agg #[.int .i64 z, .slice (some ⟨gq, 0, none⟩) l.length l.length] := hF.2.2.2.2.2.1 hb5
     have e6 : zS 89 = .agg #[.slice Ah.a0 Z.B.length Ah.c0, .slice Ah.a1 Z.V.length Ah.c1, .slice Ah.a2 Z.M.length Ah.c2] := hF.2.2.2.2.2.2.1 hb6
     have e7 : zS 17 = .pointer (some ⟨qh, 0, none⟩) := hF.2.2.2.2.2.2.2 hb7
     rw [hb3] at hW
     rw [hb5] at hW
     rw [hb6] at hW
     rw [hb7] at hW
     rw [hb8] at hW
     clear hu hr hF
     simp only [pE]
     simp only [e0, e1, e2, e3, e4, e5, e6, e7]
     clear e0 e1 e2 e3 e4 e5 e6 e7
     clear hb0 hb1 hb2 hb3 hb4 hb5 hb6 hb7 hb8
     clear zB zS
     have hb := hW.1
     have Oh := mkHid (hW.2.2.2.1 (by first | rfl | trivial)).1
     have Sha := mkHid (hW.2.2.2.1 (by first | rfl | trivial)).2.1
     have Shb := mkHid (hW.2.2.2.1 (by first | rfl | trivial)).2.2
     have Shc := mkHid (hW.2.2.2.2.1 (by first | rfl | trivial)).1
     have Shd := mkHid (hW.2.2.2.2.1 (by first | rfl | trivial)).2
     have Rh := mkHid (hW.2.2.2.2.2.2.1 (by first | rfl | trivial) (by first | rfl | trivial))
     have Gh := mkHid (hW.2.2.2.2.2.2.2 (by first | rfl | trivial)).2.2
     have BE := mkHid (below_step BE.out hb)
     have BW := mkHid (below_step BW.out hb)
     have SZ18 := mkHid hb.size
     have FS0 := mkHid (FS0.out.below hb)
     have FF0 := mkHid (FF0.out.below hb)
     have LS := mkHid (LS.out.below hb)
     have LF := mkHid (LF.out.below hb)
     have Ow := mkHid (Ow.out.below hb)
     have Gw := mkHid (Gw.out.below hb)
     have Og := mkHid (Og.out.below hb)
     have Gg := mkHid (Gg.out.below hb)
     clear hb hW
     clear cFS0 cFF0 cGw cGg
     obtain ⟨k0, k1, k2, _, _, _⟩ := Gh.out
     obtain ⟨j0, j1, j2, _, _, _⟩ := Gw.out
     go_wp2_with fail
     refine (eqSeg_same Z Ah Aw _ HSZ.out Oh.out.at Ow.out.at).mono ?_
     rintro e wc3 ⟨rfl, hb⟩
     have BE := mkHid (below_step BE.out hb)
     have BW := mkHid (below_step BW.out hb)
     have SZ19 := mkHid hb.size
     have FS0 := mkHid (FS0.out.below hb)
     have FF0 := mkHid (FF0.out.below hb)
     have LS := mkHid (LS.out.below hb)
     have LF := mkHid (LF.out.below hb)
     have Ow := mkHid (Ow.out.below hb)
     have Gw := mkHid (Gw.out.below hb)
     have Og := mkHid (Og.out.below hb)
     have Gg := mkHid (Gg.out.below hb)
     have Oh := mkHid (Oh.out.below hb)
     have Gh := mkHid (Gh.out.below hb)
     clear hb k0 k1 k2 j0 j1 j2
     obtain ⟨k0, k1, k2, _, _, _⟩ := Gg.out
     go_wp2_with fail
     refine (heldSeg_ok Z Ag 1 _ HSZ.out (by omega) (by omega) Og.out.at).mono ?_
     rintro e wh2 ⟨rfl, hb⟩
     have BE := mkHid (below_step BE.out hb)
     have BW := mkHid (below_step BW.out hb)
     have SZ20 := mkHid hb.size
     have FS0 := mkHid (FS0.out.below hb)
     have FF0 := mkHid (FF0.out.below hb)
     have LS := mkHid (LS.out.below hb)
     have LF := mkHid (LF.out.below hb)
     have Ow := mkHid (Ow.out.below hb)
     have Gw := mkHid (Gw.out.below hb)
     have Og := mkHid (Og.out.below hb)
     have Gg := mkHid (Gg.out.below hb)
     have Oh := mkHid (Oh.out.below hb)
     have Gh := mkHid (Gh.out.below hb)
     clear hb k0 k1 k2
     rw [HMm.out]
     go_wp2
     go_ret
     exact ⟨rfl, BE.out⟩

theorem cellsF : Tryz.prog.cellsOf 29 = 2 := by kernel_rfl
set_option maxRecDepth 100000 in
theorem law_lifted (os : Os) (started : os.Started) (H : Type) (enc : TypeId × Value → H) :
  ReturnsInHanded {} Tryz.checked os 3 .any (Rows.fnExactSegSharpenSpec.pre6 enc Tryz.prog Tryz.f3 Rows.fnExactSegSharpenRow.domain false) (Rows.fnExactSegSharpenSpec.post enc Tryz.prog Tryz.f3 false true false false) := by
 refine returnsInHanded_of_change (C := Tryz.checked) Tryz.own started (by kernel_rfl) Tryz.func3
  (ChangeSpec.witness6 (enc := enc) (C := Tryz.checked) false ⟨#[], #[.int .i64 0, .int .i64 0, .agg #[.slice none 0 0, .slice none 0 0, .slice none 0 0], .agg #[.int .i64 0, .slice none 0 0]], []⟩ 8 (by kernel_rfl) (by kernel_rfl) (by kernel_rfl) (by kernel_rfl)) ?_
 intro W base args ds gs before hval0 hW hcnd _
 have hval : ∀ (j : Nat) t v, Tryz.f3.params[j]? = some t → args[j]? = some v → Value.okWide Tryz.prog W .any base t v := hval0
 have hW' := hW
 obtain ⟨p, q, hA0, hV, rfl, hfz, hnd⟩ := hW
 have hA : DataW.TrodAll enc Tryz.prog W 0 (fun _ => true) true Tryz.f3.params.toList args.toList ds p := hA0
 rw [Tryz.params3] at hA hval
 obtain ⟨v0, vs0, d0, ds0, p0, q0, hargs, rfl, rfl, h0, r0⟩ := trodAll_cons hA
 obtain ⟨v1, vs1, d1, ds1, p1, q1, rfl, rfl, rfl, h1, r1⟩ := trodAll_cons r0
 obtain ⟨v2, vs2, d2, ds2, p2, q2, rfl, rfl, rfl, h2, r2⟩ := trodAll_cons r1
 obtain ⟨v3, vs3, d3, ds3, p3, q3, rfl, rfl, rfl, h3, r3⟩ := trodAll_cons r2
 obtain ⟨rfl, rfl, rfl⟩ := trodAll_nil r3
 obtain rfl : args = #[v0, v1, v2, v3] := by cases args; simp_all
 obtain ⟨rfl, rfl⟩ := trodVars_none hV
 have k0 := h0
 have lt0 : ∀ x ∈ p0, x.block < W.heap.size := by obtain ⟨m, hm⟩ := k0; exact DataW.trod_lt m _ _ _ hm
 have k1 := h1
 have lt1 : ∀ x ∈ p1, x.block < W.heap.size := by obtain ⟨m, hm⟩ := k1; exact DataW.trod_lt m _ _ _ hm
 have k2 := h2
 have lt2 : ∀ x ∈ p2, x.block < W.heap.size := by obtain ⟨m, hm⟩ := k2; exact DataW.trod_lt m _ _ _ hm
 have k3 := h3
 have lt3 : ∀ x ∈ p3, x.block < W.heap.size := by obtain ⟨m, hm⟩ := k3; exact DataW.trod_lt m _ _ _ hm
 obtain ⟨x0, hv0, _, _, _⟩ := open_int Tryz.underlying3 (hval 0 3 v0 rfl rfl) h0
 subst hv0
 obtain ⟨x1, hv1, _, _, _⟩ := open_int Tryz.underlying3 (hval 1 3 v1 rfl rfl) h1
 subst hv1
 obtain ⟨S2, A2, hv2, hg2, hl2⟩ := open_seg (hval 2 26 v2 rfl rfl) h2
 subst hv2
 obtain ⟨u30, u31, y30, y31, m3, hv3, _, _, hy30, hy31⟩ := open_agg2 Tryz.underlying29 (by kernel_rfl) cellsF (hval 3 29 v3 rfl rfl) h3
 obtain ⟨z3, e30, _, _⟩ := DataW.trod_int Tryz.underlying3 hy30
 obtain ⟨a3, c3, l3, e31, hn3, hk3⟩ := Q.open_intsv hy31
 simp at e30
 subst e30 e31 hv3
 clear hA0 hval0
 refine (law_walk x0 x1 S2 A2 z3 l3 a3 c3 W hg2 hl2 hn3 hk3).mono fun e W' ⟨he, bel⟩ => ?_
 subst he
 exact ⟨_, rfl, _, _, _, [], _, [], hW', trodAll_mk1 (shut_bool Tryz.underlying4 _), (trodAll_cons_mk (Below.trod Tryz.laidOut (by kernel_rfl) (of_decide_eq_true (by kernel_rfl)) k0 bel lt0) (trodAll_cons_mk (Below.trod Tryz.laidOut (by kernel_rfl) (of_decide_eq_true (by kernel_rfl)) k1 bel lt1) (trodAll_cons_mk (Below.trod Tryz.laidOut (by kernel_rfl) (of_decide_eq_true (by kernel_rfl)) k2 bel lt2) (trodAll_cons_mk (Below.trod Tryz.laidOut (by kernel_rfl) (of_decide_eq_true (by kernel_rfl)) k3 bel lt3) trodAll_mk0)))), rfl, bel.frame _, fun h => by cases h⟩

theorem law_holds : Rows.FnExactSegSharpenSaid :=
 OpenClaim.holds_of_wide 3 Tryz.f3 rfl rfl rfl rfl rfl rfl rfl ⟨rfl, rfl, rfl, rfl, rfl⟩ rfl rfl rfl rfl rfl (by kernel_rfl) Tryz.func3 (by kernel_rfl)
  (of_decide_eq_true (by kernel_rfl)) (by unfold Func.isWrapper; first | (rw [if_pos (by decide +kernel)]; kernel_rfl) | (rw [if_neg (by decide +kernel)]; exact ⟨rfl, rfl⟩))
  (fun os started H enc _ => law_lifted os started H enc)

#print axioms law_holds
end Go.Proofs.YtihpajiololfoaaGreat
