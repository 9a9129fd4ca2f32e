/-
  FnExactSegWeak holds at every argument: the program's SegWeak answers as the specification's, field by field; it writes into no argument, and its answer owns its memory, behind another call too. No conditions.
-/
import Derived.Test.YtihpajiololfoaaGreatCc40
import Derived.Test.YtihpajiololfoaaGreatCc41
import Derived.Test.YtihpajiololfoaaGreatCc42
import Derived.Test.YtihpajiololfoaaGreatCc06
import Derived.Test.YtihpajiololfoaaGreatCc31
import Derived.ProofKit
import Derived.OpenShut
import Derived.ChangeOld
import Derived.ChangeSlices
import Derived.Laws.OwnMore
namespace Go.Proofs.YtihpajiololfoaaGreat
open Go.ChangeShapes Go.WideShapes Go.ChangeAt Go.RowKit Go.Joins

theorem fc_outs {w w' : World} {b : Nat} {z : Int} {a : Option Addr} {n c : Nat} (h : Q.Fc w b z a n c) {lo hi : Nat} (ho : Outs lo hi w w') (hd : b < lo ∨ hi ≤ b) : Q.Fc w' b z a n c := by
 have hb := ho.block b h.lt hd
 have hc : ∀ o, w'.cell? ⟨b, o, none⟩ = w.cell? ⟨b, o, none⟩ := fun o => by simp only [World.cell?, hb]
 exact ⟨(hc _).trans h.1, (hc _).trans h.2⟩
set_option maxRecDepth 100000 in
set_option maxHeartbeats 25600000 in
theorem law_walk (size lv : Int) (S : SG) (A : SAd) (z : Int) (l : List Int) (a : Option Addr) (c : Nat) (x : Y) (y : Y) (ra rb : Int) (w : World) (hg : Lim S) (hl : SegAt w A S) (hn : l.length ≤ maxLen) (hk : Q.IntsAt w a l) : Calls Tryz.prog 7 #[.int .i64 size, .int .i64 lv, .agg #[.slice A.a0 S.B.length A.c0, .slice A.a1 S.V.length A.c1, .slice A.a2 S.M.length A.c2], .agg #[.int .i64 z, .slice a l.length c], .agg #[.int .i64 x.1, .int .i64 x.2], .agg #[.int .i64 y.1, .int .i64 y.2], .agg #[.int .i64 ra, .int .i64 rb]] w fun e w' => e = .returned (.bool true) ∧ Below w.heap.size w w' := by
 have HG := mkHid hg
 have HN := mkHid hn
 obtain ⟨w0, hw0⟩ : ∃ q, (((((w.alloc (.cells #[.slice A.a0 S.B.length A.c0, .slice A.a1 S.V.length A.c1, .slice A.a2 S.M.length A.c2] 26)).alloc (.cells #[.int .i64 z, .slice a l.length c] 29)).alloc (.cells #[.int .i64 x.1, .int .i64 x.2] 46)).alloc (.cells #[.int .i64 y.1, .int .i64 y.2] 46)).alloc (.cells #[.int .i64 ra, .int .i64 rb] 58)) = q := ⟨_, rfl⟩
 obtain ⟨X, hX⟩ : ∃ q, w.heap.size = q := ⟨_, rfl⟩
 have BE : Hid (Below w.heap.size w w0) := mkHid (by rw [← hw0]; exact (bl_alloc (bl_alloc (bl_alloc (bl_alloc (bl_alloc (Below.refl _ _) _) _) _) _) _))
 have FS0 : Hid (G3 w0 (X) (.slice A.a0 S.B.length A.c0) (.slice A.a1 S.V.length A.c1) (.slice A.a2 S.M.length A.c2)) := mkHid (by rw [← hw0, ← hX]; exact (G3.new w _ _ _ 26).below (bl_alloc (bl_alloc (bl_alloc (bl_alloc (Below.refl _ _) _) _) _) _))
 have FF0 : Hid (Q.Fc w0 (X + 1) z a l.length c) := mkHid (by rw [← hw0, ← hX]; have := (Q.Fc.new (w.alloc (.cells #[.slice A.a0 S.B.length A.c0, .slice A.a1 S.V.length A.c1, .slice A.a2 S.M.length A.c2] 26)) z a l.length c 29).below (bl_alloc (bl_alloc (bl_alloc (Below.refl _ _) (.cells #[.int .i64 x.1, .int .i64 x.2] 46)) (.cells #[.int .i64 y.1, .int .i64 y.2] 46)) (.cells #[.int .i64 ra, .int .i64 rb] 58)); simpa using this)
 have FYx : Hid (Box w0 (X + 2) x.1 x.2) := mkHid (by rw [← hw0, ← hX]; have := (Box.new' ((w.alloc (.cells #[.slice A.a0 S.B.length A.c0, .slice A.a1 S.V.length A.c1, .slice A.a2 S.M.length A.c2] 26)).alloc (.cells #[.int .i64 z, .slice a l.length c] 29)) x.1 x.2 46).below (bl_alloc (bl_alloc (Below.refl _ _) (.cells #[.int .i64 y.1, .int .i64 y.2] 46)) (.cells #[.int .i64 ra, .int .i64 rb] 58)); simpa using this)
 have FYy : Hid (Box w0 (X + 3) y.1 y.2) := mkHid (by rw [← hw0, ← hX]; have := (Box.new' (((w.alloc (.cells #[.slice A.a0 S.B.length A.c0, .slice A.a1 S.V.length A.c1, .slice A.a2 S.M.length A.c2] 26)).alloc (.cells #[.int .i64 z, .slice a l.length c] 29)).alloc (.cells #[.int .i64 x.1, .int .i64 x.2] 46)) y.1 y.2 46).below (bl_alloc (Below.refl _ _) (.cells #[.int .i64 ra, .int .i64 rb] 58)); simpa using this)
 have FR : Hid (Box w0 (X + 4) ra rb) := mkHid (by rw [← hw0, ← hX]; have := Box.new' ((((w.alloc (.cells #[.slice A.a0 S.B.length A.c0, .slice A.a1 S.V.length A.c1, .slice A.a2 S.M.length A.c2] 26)).alloc (.cells #[.int .i64 z, .slice a l.length c] 29)).alloc (.cells #[.int .i64 x.1, .int .i64 x.2] 46)).alloc (.cells #[.int .i64 y.1, .int .i64 y.2] 46)) ra rb 58; simpa using this)
 have LS := mkHid (hl.below BE.out)
 have LF := mkHid (hk.below BE.out)
 clear hg hn hl hk
 obtain ⟨q0, q1, q2, _, _, _⟩ := FS0.out
 have KFS0 := FS0
 have KFF0 := FF0
 have KFYx := FYx
 have KFYy := FYy
 have KFR := FR
 have KLS := LS
 have KLF := LF
 have BW := mkHid (Below.refl w0.heap.size w0)
 have SZ0 : Hid (w.heap.size ≤ w0.heap.size) := mkHid BE.out.size
 go_enter Tryz.func7, Tryz.ntmps7
 go_wp2_with fail
 first | rw [hw0] | skip
 refine (szSeg_any S A _ HG.out.b HG.out.r HG.out.v HG.out.m 1048576 (by omega) (by omega) LS.out).mono ?_
 rintro e w1 ⟨hb, r, rfl, hr⟩
 have HQ := mkHid hr
 have BE := mkHid (below_step BE.out hb)
 have BW := mkHid (below_step BW.out hb)
 have SZ1 := mkHid hb.size
 have FS0 := mkHid (FS0.out.below hb)
 have FF0 := mkHid (FF0.out.below hb)
 have FYx := mkHid (FYx.out.below hb)
 have FYy := mkHid (FYy.out.below hb)
 have FR := mkHid (FR.out.below hb)
 have LS := mkHid (LS.out.below hb)
 have LF := mkHid (LF.out.below hb)
 clear hb hr hw0 q0 q1 q2
 first | rw [hX] | skip
 by_cases hneg : r < 0
 ·go_wp2
  go_ret
  exact ⟨rfl, BE.out⟩
 obtain ⟨hz1, hz2, hz3, hz4, hz5⟩ := HQ.out (by omega)
 have HM : Hid (Small S) := mkHid ⟨hz1, hz2, hz3, hz4⟩
 clear HQ hz1 hz2 hz3 hz4
 obtain ⟨t0, t1⟩ := FF0.out
 go_wp2_with fail
 refine (Q.szFacts_any z a l.length c r _ HN.out (by omega) hz5).mono ?_
 rintro e w2 ⟨rfl, hb⟩
 have BE := mkHid (below_step BE.out hb)
 have BW := mkHid (below_step BW.out hb)
 have SZ2 := mkHid hb.size
 have FS0 := mkHid (FS0.out.below hb)
 have FF0 := mkHid (FF0.out.below hb)
 have FYx := mkHid (FYx.out.below hb)
 have FYy := mkHid (FYy.out.below hb)
 have FR := mkHid (FR.out.below hb)
 have LS := mkHid (LS.out.below hb)
 have LF := mkHid (LF.out.below hb)
 clear hb t0 t1
 by_cases hll : (l.length : Int) ≤ r
 rotate_left
 ·have e1 : Q.szR r l.length = -1 := if_neg hll
  rw [e1]
  go_wp2
  go_ret
  exact ⟨rfl, BE.out⟩
 have e1 : Q.szR r l.length = r - l.length := if_pos hll
 have HLN : Hid (l.length ≤ 1048576) := mkHid (by omega)
 obtain ⟨r2, hr2⟩ : ∃ q, r - (l.length : Int) = q := ⟨_, rfl⟩
 have hr3 : ¬ r2 < 0 := by omega
 rw [e1, hr2]
 clear e1 hr2 hll hz5 hneg
 obtain ⟨Z, hZ⟩ := WkR.ex size lv S z l x y ra rb
 have HZ := mkHid hZ
 have HSZ : Hid (Small Z) := mkHid (hZ.small HM.out)
 clear hZ
 have cFS0 : ∀ v', Below w2.heap.size w2 v' → G3 v' (X) (.slice A.a0 S.B.length A.c0) (.slice A.a1 S.V.length A.c1) (.slice A.a2 S.M.length A.c2) := fun v' h => FS0.out.below h
 have cFF0 : ∀ v', Below w2.heap.size w2 v' → Q.Fc v' (X + 1) z a l.length (c) := fun v' h => FF0.out.below h
 have cFYx : ∀ v', Below w2.heap.size w2 v' → Box v' (X + 2) (x.1) (x.2) := fun v' h => FYx.out.below h
 have cFYy : ∀ v', Below w2.heap.size w2 v' → Box v' (X + 3) (y.1) (y.2) := fun v' h => FYy.out.below h
 have cFR : ∀ v', Below w2.heap.size w2 v' → Box v' (X + 4) (ra) (rb) := fun v' h => FR.out.below h
 go_wp2_with fail
 refine wp_region_inv2 (fun zA0 L zA vv8 => ∃ (zB : Nat → Bool) (zS : Nat → Value) (Aq : SAd) (gq : Nat) (Aw : SAd) (lw : Nat) (hw : Nat) (qw : Nat), L = #[zB 0, zB 1, zB 2, zB 3, zB 4, zB 5, zB 6, zB 7, zB 8, zB 9, zB 10, zB 11, zB 12, zB 13, zB 14] ∧ zA = puts zA0 [(34, zS 34), (35, zS 35), (36, zS 36), (37, zS 37), (38, zS 38), (39, zS 39), (40, zS 40), (41, zS 41), (42, zS 42), (43, zS 43), (44, zS 44), (45, zS 45), (46, zS 46), (16, zS 16)] ∧ ((zB 0 = true → zS 34 = .int .i64 size) ∧ (zB 1 = true → zS 35 = .int .i64 lv) ∧ (zB 2 = true → zS 36 = .agg #[.slice A.a0 S.B.length A.c0, .slice A.a1 S.V.length A.c1, .slice A.a2 S.M.length A.c2]) ∧ (zB 3 = true → zS 37 = .agg #[.slice Aq.a0 S.B.length Aq.c0, .slice Aq.a1 S.V.length Aq.c1, .slice Aq.a2 S.M.length Aq.c2]) ∧ (zB 4 = true → zS 38 = .agg #[.int .i64 z, .slice a l.length c]) ∧ (zB 5 = true → zS 39 = .agg #[.int .i64 z, .slice (some ⟨gq, 0, none⟩) l.length l.length]) ∧ (zB 6 = true → zS 40 = .agg #[.int .i64 x.1, .int .i64 x.2]) ∧ (zB 7 = true → zS 41 = .agg #[.int .i64 x.1, .int .i64 x.2]) ∧ (zB 8 = true → zS 42 = .agg #[.int .i64 y.1, .int .i64 y.2]) ∧ (zB 9 = true → zS 43 = .agg #[.int .i64 y.1, .int .i64 y.2]) ∧ (zB 10 = true → zS 44 = .agg #[.int .i64 ra, .int .i64 rb]) ∧ (zB 11 = true → zS 45 = .agg #[.int .i64 ra, .int .i64 rb]) ∧ (zB 12 = true → zS 46 = .agg #[.slice Aw.a0 Z.B.length Aw.c0, .slice Aw.a1 Z.V.length Aw.c1, .slice Aw.a2 Z.M.length Aw.c2]) ∧ (zB 13 = true → zS 16 = .pointer (some ⟨qw, 0, none⟩))) ∧ Below w2.heap.size w2 vv8 ∧ ((zB 3) = true → (zB 12) = false → SegAt vv8 Aq S) ∧ ((zB 5) = true → (zB 12) = false → Q.IntsAt vv8 (some ⟨gq, 0, none⟩) l) ∧ ((zB 12) = true → OwnS vv8 lw hw Aw Z ∧ w2.heap.size ≤ lw ∧ hw ≤ vv8.heap.size) ∧ ((zB 13) = true → w2.heap.size ≤ qw ∧ qw < vv8.heap.size) ∧ ((zB 13) = true → (zB 14) = false → G3 vv8 qw (.slice none 0 0) (.slice none 0 0) (.slice none 0 0)) ∧ ((zB 12) = true → (zB 13) = true → qw < lw ∨ hw ≤ qw) ∧ ((zB 14) = true → (zB 13) = true ∧ (zB 12) = true ∧ G3 vv8 qw (.slice Aw.a0 Z.B.length Aw.c0) (.slice Aw.a1 Z.V.length Aw.c1) (.slice Aw.a2 Z.M.length Aw.c2))) (by kernel_rfl) ?_ ?_ ?_
 ·exact ⟨fun _ => false, fun _ => undef, zAd, 0, zAd, 0, 0, 0, rfl, by kernel_rfl, ⟨fun e => ft e, fun e => ft e, fun e => ft e, fun e => ft e, fun e => ft e, fun e => ft e, fun e => ft e, fun e => ft e, fun e => ft e, fun e => ft e, fun e => ft e, fun e => ft e, fun e => ft e, fun e => ft e⟩, ⟨(Below.refl _ _).drew, fun e => ft e, fun e => ft e, fun e => ft e, fun e => ft e, fun e => ft e, fun e => ft e, fun e => ft e⟩⟩
 ·refine StepsI.cons rfl ?_ ?_
  ·rintro L zA vv8 ⟨zB, zS, Aq, gq, Aw, lw, hw, qw, rfl, rfl, hF, hW⟩ hL hm K hK
   have hb0 : zB 0 = false := by simpa using hL
   clear hL hm
   simp only [pE]
   go_simp
   exact hK.out _ _ ⟨fun zj => if zj = 0 then true else zB zj, fun zd => if zd = 34 then .int .i64 size else zS zd, Aq, gq, Aw, lw, hw, qw, rfl, by kernel_rfl, ⟨fun _ => rfl, hF.2.1, hF.2.2.1, hF.2.2.2.1, hF.2.2.2.2.1, hF.2.2.2.2.2.1, hF.2.2.2.2.2.2.1, hF.2.2.2.2.2.2.2.1, hF.2.2.2.2.2.2.2.2.1, hF.2.2.2.2.2.2.2.2.2.1, hF.2.2.2.2.2.2.2.2.2.2.1, hF.2.2.2.2.2.2.2.2.2.2.2.1, hF.2.2.2.2.2.2.2.2.2.2.2.2.1, hF.2.2.2.2.2.2.2.2.2.2.2.2.2⟩, hW⟩
  refine StepsI.cons rfl ?_ ?_
  ·rintro L zA vv8 ⟨zB, zS, Aq, gq, Aw, lw, hw, qw, rfl, rfl, hF, hW⟩ hL hm K hK
   have hb1 : zB 1 = false := by simpa using hL
   clear hL hm
   simp only [pE]
   go_simp
   exact hK.out _ _ ⟨fun zj => if zj = 1 then true else zB zj, fun zd => if zd = 35 then .int .i64 lv else zS zd, Aq, gq, Aw, lw, hw, qw, rfl, by kernel_rfl, ⟨hF.1, fun _ => rfl, hF.2.2.1, hF.2.2.2.1, hF.2.2.2.2.1, hF.2.2.2.2.2.1, hF.2.2.2.2.2.2.1, hF.2.2.2.2.2.2.2.1, hF.2.2.2.2.2.2.2.2.1, hF.2.2.2.2.2.2.2.2.2.1, hF.2.2.2.2.2.2.2.2.2.2.1, hF.2.2.2.2.2.2.2.2.2.2.2.1, hF.2.2.2.2.2.2.2.2.2.2.2.2.1, hF.2.2.2.2.2.2.2.2.2.2.2.2.2⟩, hW⟩
  refine StepsI.cons rfl ?_ ?_
  ·rintro L zA vv8 ⟨zB, zS, Aq, gq, Aw, lw, hw, qw, rfl, rfl, hF, hW⟩ hL hm K hK
   have hb2 : zB 2 = false := by simpa using hL
   clear hL hm
   simp only [pE]
   obtain ⟨k0, k1, k2, _, _, _⟩ := cFS0 _ hW.1
   go_simp
   exact hK.out _ _ ⟨fun zj => if zj = 2 then true else zB zj, fun zd => if zd = 36 then .agg #[.slice A.a0 S.B.length A.c0, .slice A.a1 S.V.length A.c1, .slice A.a2 S.M.length A.c2] else zS zd, Aq, gq, Aw, lw, hw, qw, rfl, by kernel_rfl, ⟨hF.1, hF.2.1, fun _ => rfl, hF.2.2.2.1, hF.2.2.2.2.1, hF.2.2.2.2.2.1, hF.2.2.2.2.2.2.1, hF.2.2.2.2.2.2.2.1, hF.2.2.2.2.2.2.2.2.1, hF.2.2.2.2.2.2.2.2.2.1, hF.2.2.2.2.2.2.2.2.2.2.1, hF.2.2.2.2.2.2.2.2.2.2.2.1, hF.2.2.2.2.2.2.2.2.2.2.2.2.1, hF.2.2.2.2.2.2.2.2.2.2.2.2.2⟩, hW⟩
  refine StepsI.cons rfl ?_ ?_
  ·rintro L zA vv8 ⟨zB, zS, Aq, gq, Aw, lw, hw, qw, rfl, rfl, hF, hW⟩ hL hm K hK
   have hb3 : zB 3 = false := by simpa using hL
   have hb2 : zB 2 = true := mt 2 hm (by kernel_rfl)
   have e2 : zS 36 = .agg #[.slice A.a0 S.B.length A.c0, .slice A.a1 S.V.length A.c1, .slice A.a2 S.M.length A.c2] := hF.2.2.1 hb2
   clear hL hm
   rw [hb3] at hW
   simp only [pE]
   simp only [e2]
   go_simp
   refine (toSeg_any S A _ HM.out.b HM.out.t HM.out.v HM.out.m (LS.out.below hW.1)).mono ?_
   rintro e vv82 ⟨Aq9, rfl, ho, hb⟩
   go_wp2_with fail
   exact hK.out _ _ ⟨fun zj => if zj = 2 then true else if zj = 3 then true else zB zj, fun zd => if zd = 37 then .agg #[.slice Aq9.a0 S.B.length Aq9.c0, .slice Aq9.a1 S.V.length Aq9.c1, .slice Aq9.a2 S.M.length Aq9.c2] else if zd = 36 then .agg #[.slice A.a0 S.B.length A.c0, .slice A.a1 S.V.length A.c1, .slice A.a2 S.M.length A.c2] else zS zd, Aq9, gq, Aw, lw, hw, qw, by simp [hb2], by kernel_rfl, ⟨hF.1, hF.2.1, fun _ => rfl, fun _ => rfl, hF.2.2.2.2.1, hF.2.2.2.2.2.1, hF.2.2.2.2.2.2.1, hF.2.2.2.2.2.2.2.1, hF.2.2.2.2.2.2.2.2.1, hF.2.2.2.2.2.2.2.2.2.1, hF.2.2.2.2.2.2.2.2.2.2.1, hF.2.2.2.2.2.2.2.2.2.2.2.1, hF.2.2.2.2.2.2.2.2.2.2.2.2.1, hF.2.2.2.2.2.2.2.2.2.2.2.2.2⟩, ⟨below_step hW.1 hb, fun _ _ => ho.at, fun e r => (hW.2.2.1 e r).below hb, fun e => ⟨(hW.2.2.2.1 e).1.below hb, (hW.2.2.2.1 e).2.1, Nat.le_trans (hW.2.2.2.1 e).2.2 hb.size⟩, fun e => ⟨(hW.2.2.2.2.1 e).1, Nat.lt_of_lt_of_le (hW.2.2.2.2.1 e).2 hb.size⟩, fun e r => (hW.2.2.2.2.2.1 e r).below hb, hW.2.2.2.2.2.2.1, fun e => ⟨(hW.2.2.2.2.2.2.2 e).1, (hW.2.2.2.2.2.2.2 e).2.1, (hW.2.2.2.2.2.2.2 e).2.2.below hb⟩⟩⟩
  refine StepsI.cons rfl ?_ ?_
  ·rintro L zA vv8 ⟨zB, zS, Aq, gq, Aw, lw, hw, qw, rfl, rfl, hF, hW⟩ hL hm K hK
   have hb4 : zB 4 = false := by simpa using hL
   clear hL hm
   simp only [pE]
   obtain ⟨k0, k1⟩ := cFF0 _ hW.1
   go_simp
   exact hK.out _ _ ⟨fun zj => if zj = 4 then true else zB zj, fun zd => if zd = 38 then .agg #[.int .i64 z, .slice a l.length c] else zS zd, Aq, gq, Aw, lw, hw, qw, rfl, by kernel_rfl, ⟨hF.1, hF.2.1, hF.2.2.1, hF.2.2.2.1, fun _ => rfl, hF.2.2.2.2.2.1, hF.2.2.2.2.2.2.1, hF.2.2.2.2.2.2.2.1, hF.2.2.2.2.2.2.2.2.1, hF.2.2.2.2.2.2.2.2.2.1, hF.2.2.2.2.2.2.2.2.2.2.1, hF.2.2.2.2.2.2.2.2.2.2.2.1, hF.2.2.2.2.2.2.2.2.2.2.2.2.1, hF.2.2.2.2.2.2.2.2.2.2.2.2.2⟩, hW⟩
  refine StepsI.cons rfl ?_ ?_
  ·rintro L zA vv8 ⟨zB, zS, Aq, gq, Aw, lw, hw, qw, rfl, rfl, hF, hW⟩ hL hm K hK
   have hb5 : zB 5 = false := by simpa using hL
   have hb4 : zB 4 = true := mt 4 hm (by kernel_rfl)
   have e4 : zS 38 = .agg #[.int .i64 z, .slice a l.length c] := hF.2.2.2.2.1 hb4
   clear hL hm
   rw [hb5] at hW
   simp only [pE]
   simp only [e4]
   go_simp
   refine (Q.toFacts_any z l a c _ HLN.out (LF.out.below hW.1)).mono ?_
   rintro e vv82 ⟨gq9, rfl, ho, hb⟩
   go_wp2_with fail
   exact hK.out _ _ ⟨fun zj => if zj = 4 then true else if zj = 5 then true else zB zj, fun zd => if zd = 39 then .agg #[.int .i64 z, .slice (some ⟨gq9, 0, none⟩) l.length l.length] else if zd = 38 then .agg #[.int .i64 z, .slice a l.length c] else zS zd, Aq, gq9, Aw, lw, hw, qw, by simp [hb4], by kernel_rfl, ⟨hF.1, hF.2.1, hF.2.2.1, hF.2.2.2.1, fun _ => rfl, fun _ => rfl, hF.2.2.2.2.2.2.1, hF.2.2.2.2.2.2.2.1, hF.2.2.2.2.2.2.2.2.1, hF.2.2.2.2.2.2.2.2.2.1, hF.2.2.2.2.2.2.2.2.2.2.1, hF.2.2.2.2.2.2.2.2.2.2.2.1, hF.2.2.2.2.2.2.2.2.2.2.2.2.1, hF.2.2.2.2.2.2.2.2.2.2.2.2.2⟩, ⟨below_step hW.1 hb, fun e r => (hW.2.1 e r).below hb, fun _ _ => ho.at, fun e => ⟨(hW.2.2.2.1 e).1.below hb, (hW.2.2.2.1 e).2.1, Nat.le_trans (hW.2.2.2.1 e).2.2 hb.size⟩, fun e => ⟨(hW.2.2.2.2.1 e).1, Nat.lt_of_lt_of_le (hW.2.2.2.2.1 e).2 hb.size⟩, fun e r => (hW.2.2.2.2.2.1 e r).below hb, hW.2.2.2.2.2.2.1, fun e => ⟨(hW.2.2.2.2.2.2.2 e).1, (hW.2.2.2.2.2.2.2 e).2.1, (hW.2.2.2.2.2.2.2 e).2.2.below hb⟩⟩⟩
  refine StepsI.cons rfl ?_ ?_
  ·rintro L zA vv8 ⟨zB, zS, Aq, gq, Aw, lw, hw, qw, rfl, rfl, hF, hW⟩ hL hm K hK
   have hb6 : zB 6 = false := by simpa using hL
   clear hL hm
   simp only [pE]
   obtain ⟨k0, k1, _, _⟩ := cFYx _ hW.1
   go_simp
   exact hK.out _ _ ⟨fun zj => if zj = 6 then true else zB zj, fun zd => if zd = 40 then .agg #[.int .i64 x.1, .int .i64 x.2] else zS zd, Aq, gq, Aw, lw, hw, qw, rfl, by kernel_rfl, ⟨hF.1, hF.2.1, hF.2.2.1, hF.2.2.2.1, hF.2.2.2.2.1, hF.2.2.2.2.2.1, fun _ => rfl, hF.2.2.2.2.2.2.2.1, hF.2.2.2.2.2.2.2.2.1, hF.2.2.2.2.2.2.2.2.2.1, hF.2.2.2.2.2.2.2.2.2.2.1, hF.2.2.2.2.2.2.2.2.2.2.2.1, hF.2.2.2.2.2.2.2.2.2.2.2.2.1, hF.2.2.2.2.2.2.2.2.2.2.2.2.2⟩, hW⟩
  refine StepsI.cons rfl ?_ ?_
  ·rintro L zA vv8 ⟨zB, zS, Aq, gq, Aw, lw, hw, qw, rfl, rfl, hF, hW⟩ hL hm K hK
   have hb7 : zB 7 = false := by simpa using hL
   have hb6 : zB 6 = true := mt 6 hm (by kernel_rfl)
   have e6 : zS 40 = .agg #[.int .i64 x.1, .int .i64 x.2] := hF.2.2.2.2.2.2.1 hb6
   clear hL hm
   simp only [pE]
   simp only [e6]
   go_simp
   refine (toSym_any x.1 x.2 _).mono ?_
   rintro e vv82 ⟨rfl, hb⟩
   go_wp2_with fail
   exact hK.out _ _ ⟨fun zj => if zj = 6 then true else if zj = 7 then true else zB zj, fun zd => if zd = 41 then .agg #[.int .i64 x.1, .int .i64 x.2] else if zd = 40 then .agg #[.int .i64 x.1, .int .i64 x.2] else zS zd, Aq, gq, Aw, lw, hw, qw, by simp [hb6], by kernel_rfl, ⟨hF.1, hF.2.1, hF.2.2.1, hF.2.2.2.1, hF.2.2.2.2.1, hF.2.2.2.2.2.1, fun _ => rfl, fun _ => rfl, hF.2.2.2.2.2.2.2.2.1, hF.2.2.2.2.2.2.2.2.2.1, hF.2.2.2.2.2.2.2.2.2.2.1, hF.2.2.2.2.2.2.2.2.2.2.2.1, hF.2.2.2.2.2.2.2.2.2.2.2.2.1, hF.2.2.2.2.2.2.2.2.2.2.2.2.2⟩, ⟨below_step hW.1 hb, fun e r => (hW.2.1 e r).below hb, fun e r => (hW.2.2.1 e r).below hb, fun e => ⟨(hW.2.2.2.1 e).1.below hb, (hW.2.2.2.1 e).2.1, Nat.le_trans (hW.2.2.2.1 e).2.2 hb.size⟩, fun e => ⟨(hW.2.2.2.2.1 e).1, Nat.lt_of_lt_of_le (hW.2.2.2.2.1 e).2 hb.size⟩, fun e r => (hW.2.2.2.2.2.1 e r).below hb, hW.2.2.2.2.2.2.1, fun e => ⟨(hW.2.2.2.2.2.2.2 e).1, (hW.2.2.2.2.2.2.2 e).2.1, (hW.2.2.2.2.2.2.2 e).2.2.below hb⟩⟩⟩
  refine StepsI.cons rfl ?_ ?_
  ·rintro L zA vv8 ⟨zB, zS, Aq, gq, Aw, lw, hw, qw, rfl, rfl, hF, hW⟩ hL hm K hK
   have hb8 : zB 8 = false := by simpa using hL
   clear hL hm
   simp only [pE]
   obtain ⟨k0, k1, _, _⟩ := cFYy _ hW.1
   go_simp
   exact hK.out _ _ ⟨fun zj => if zj = 8 then true else zB zj, fun zd => if zd = 42 then .agg #[.int .i64 y.1, .int .i64 y.2] else zS zd, Aq, gq, Aw, lw, hw, qw, rfl, by kernel_rfl, ⟨hF.1, hF.2.1, hF.2.2.1, hF.2.2.2.1, hF.2.2.2.2.1, hF.2.2.2.2.2.1, hF.2.2.2.2.2.2.1, hF.2.2.2.2.2.2.2.1, fun _ => rfl, hF.2.2.2.2.2.2.2.2.2.1, hF.2.2.2.2.2.2.2.2.2.2.1, hF.2.2.2.2.2.2.2.2.2.2.2.1, hF.2.2.2.2.2.2.2.2.2.2.2.2.1, hF.2.2.2.2.2.2.2.2.2.2.2.2.2⟩, hW⟩
  refine StepsI.cons rfl ?_ ?_
  ·rintro L zA vv8 ⟨zB, zS, Aq, gq, Aw, lw, hw, qw, rfl, rfl, hF, hW⟩ hL hm K hK
   have hb9 : zB 9 = false := by simpa using hL
   have hb8 : zB 8 = true := mt 8 hm (by kernel_rfl)
   have e8 : zS 42 = .agg #[.int .i64 y.1, .int .i64 y.2] := hF.2.2.2.2.2.2.2.2.1 hb8
   clear hL hm
   simp only [pE]
   simp only [e8]
   go_simp
   refine (toSym_any y.1 y.2 _).mono ?_
   rintro e vv82 ⟨rfl, hb⟩
   go_wp2_with fail
   exact hK.out _ _ ⟨fun zj => if zj = 8 then true else if zj = 9 then true else zB zj, fun zd => if zd = 43 then .agg #[.int .i64 y.1, .int .i64 y.2] else if zd = 42 then .agg #[.int .i64 y.1, .int .i64 y.2] else zS zd, Aq, gq, Aw, lw, hw, qw, by simp [hb8], by kernel_rfl, ⟨hF.1, hF.2.1, hF.2.2.1, hF.2.2.2.1, hF.2.2.2.2.1, hF.2.2.2.2.2.1, hF.2.2.2.2.2.2.1, hF.2.2.2.2.2.2.2.1, fun _ => rfl, fun _ => rfl, hF.2.2.2.2.2.2.2.2.2.2.1, hF.2.2.2.2.2.2.2.2.2.2.2.1, hF.2.2.2.2.2.2.2.2.2.2.2.2.1, hF.2.2.2.2.2.2.2.2.2.2.2.2.2⟩, ⟨below_step hW.1 hb, fun e r => (hW.2.1 e r).below hb, fun e r => (hW.2.2.1 e r).below hb, fun e => ⟨(hW.2.2.2.1 e).1.below hb, (hW.2.2.2.1 e).2.1, Nat.le_trans (hW.2.2.2.1 e).2.2 hb.size⟩, fun e => ⟨(hW.2.2.2.2.1 e).1, Nat.lt_of_lt_of_le (hW.2.2.2.2.1 e).2 hb.size⟩, fun e r => (hW.2.2.2.2.2.1 e r).below hb, hW.2.2.2.2.2.2.1, fun e => ⟨(hW.2.2.2.2.2.2.2 e).1, (hW.2.2.2.2.2.2.2 e).2.1, (hW.2.2.2.2.2.2.2 e).2.2.below hb⟩⟩⟩
  refine StepsI.cons rfl ?_ ?_
  ·rintro L zA vv8 ⟨zB, zS, Aq, gq, Aw, lw, hw, qw, rfl, rfl, hF, hW⟩ hL hm K hK
   have hb10 : zB 10 = false := by simpa using hL
   clear hL hm
   simp only [pE]
   obtain ⟨k0, k1, _, _⟩ := cFR _ hW.1
   go_simp
   exact hK.out _ _ ⟨fun zj => if zj = 10 then true else zB zj, fun zd => if zd = 44 then .agg #[.int .i64 ra, .int .i64 rb] else zS zd, Aq, gq, Aw, lw, hw, qw, rfl, by kernel_rfl, ⟨hF.1, hF.2.1, hF.2.2.1, hF.2.2.2.1, hF.2.2.2.2.1, hF.2.2.2.2.2.1, hF.2.2.2.2.2.2.1, hF.2.2.2.2.2.2.2.1, hF.2.2.2.2.2.2.2.2.1, hF.2.2.2.2.2.2.2.2.2.1, fun _ => rfl, hF.2.2.2.2.2.2.2.2.2.2.2.1, hF.2.2.2.2.2.2.2.2.2.2.2.2.1, hF.2.2.2.2.2.2.2.2.2.2.2.2.2⟩, hW⟩
  refine StepsI.cons rfl ?_ ?_
  ·rintro L zA vv8 ⟨zB, zS, Aq, gq, Aw, lw, hw, qw, rfl, rfl, hF, hW⟩ hL hm K hK
   have hb11 : zB 11 = false := by simpa using hL
   have hb10 : zB 10 = true := mt 10 hm (by kernel_rfl)
   have e10 : zS 44 = .agg #[.int .i64 ra, .int .i64 rb] := hF.2.2.2.2.2.2.2.2.2.2.1 hb10
   clear hL hm
   simp only [pE]
   simp only [e10]
   go_simp
   refine (toRange_any ra rb _).mono ?_
   rintro e vv82 ⟨rfl, hb⟩
   go_wp2_with fail
   exact hK.out _ _ ⟨fun zj => if zj = 10 then true else if zj = 11 then true else zB zj, fun zd => if zd = 45 then .agg #[.int .i64 ra, .int .i64 rb] else if zd = 44 then .agg #[.int .i64 ra, .int .i64 rb] else zS zd, Aq, gq, Aw, lw, hw, qw, by simp [hb10], by kernel_rfl, ⟨hF.1, hF.2.1, hF.2.2.1, hF.2.2.2.1, hF.2.2.2.2.1, hF.2.2.2.2.2.1, hF.2.2.2.2.2.2.1, hF.2.2.2.2.2.2.2.1, hF.2.2.2.2.2.2.2.2.1, hF.2.2.2.2.2.2.2.2.2.1, fun _ => rfl, fun _ => rfl, hF.2.2.2.2.2.2.2.2.2.2.2.2.1, hF.2.2.2.2.2.2.2.2.2.2.2.2.2⟩, ⟨below_step hW.1 hb, fun e r => (hW.2.1 e r).below hb, fun e r => (hW.2.2.1 e r).below hb, fun e => ⟨(hW.2.2.2.1 e).1.below hb, (hW.2.2.2.1 e).2.1, Nat.le_trans (hW.2.2.2.1 e).2.2 hb.size⟩, fun e => ⟨(hW.2.2.2.2.1 e).1, Nat.lt_of_lt_of_le (hW.2.2.2.2.1 e).2 hb.size⟩, fun e r => (hW.2.2.2.2.2.1 e r).below hb, hW.2.2.2.2.2.2.1, fun e => ⟨(hW.2.2.2.2.2.2.2 e).1, (hW.2.2.2.2.2.2.2 e).2.1, (hW.2.2.2.2.2.2.2 e).2.2.below hb⟩⟩⟩
  refine StepsI.cons rfl ?_ ?_
  ·rintro L zA vv8 ⟨zB, zS, Aq, gq, Aw, lw, hw, qw, rfl, rfl, hF, hW⟩ hL hm K hK
   have hb12 : zB 12 = false := by simpa using hL
   have hb0 : zB 0 = true := mt 0 hm (by kernel_rfl)
   have hb1 : zB 1 = true := mt 1 hm (by kernel_rfl)
   have hb3 : zB 3 = true := mt 3 hm (by kernel_rfl)
   have hb5 : zB 5 = true := mt 5 hm (by kernel_rfl)
   have hb7 : zB 7 = true := mt 7 hm (by kernel_rfl)
   have hb9 : zB 9 = true := mt 9 hm (by kernel_rfl)
   have hb11 : zB 11 = true := mt 11 hm (by kernel_rfl)
   have e0 : zS 34 = .int .i64 size := hF.1 hb0
   have e1 : zS 35 = .int .i64 lv := hF.2.1 hb1
   have e3 : zS 37 = .agg #[.slice Aq.a0 S.B.length Aq.c0, .slice Aq.a1 S.V.length Aq.c1, .slice Aq.a2 S.M.length Aq.c2] := hF.2.2.2.1 hb3
   have e5 : zS 39 = .agg #[.int .i64 z, .slice (some ⟨gq, 0, none⟩) l.length l.length] := hF.2.2.2.2.2.1 hb5
   have e7 : zS 41 = .agg #[.int .i64 x.1, .int .i64 x.2] := hF.2.2.2.2.2.2.2.1 hb7
   have e9 : zS 43 = .agg #[.int .i64 y.1, .int .i64 y.2] := hF.2.2.2.2.2.2.2.2.2.1 hb9
   have e11 : zS 45 = .agg #[.int .i64 ra, .int .i64 rb] := hF.2.2.2.2.2.2.2.2.2.2.2.1 hb11
   clear hL hm
   rw [hb12] at hW
   rw [hb3] at hW
   rw [hb5] at hW
   simp only [pE]
   simp only [e0, e1, e3, e5, e7, e9, e11]
   go_simp
   refine (sSegWeak_any size lv S Aq z l (some ⟨gq, 0, none⟩) l.length x y ra rb _ HM.out (hW.2.1 (by first | rfl | trivial) rfl) (hW.2.2.1 (by first | rfl | trivial) rfl)).mono ?_
   rintro e vv82 ⟨Z', hZ', Aw9, rfl, ho, hb⟩
   have eZ : Z = Z' := HZ.out.one hZ'
   subst eZ
   clear hZ'
   go_wp2_with fail
   exact hK.out _ _ ⟨fun zj => if zj = 11 then true else if zj = 9 then true else if zj = 7 then true else if zj = 5 then true else if zj = 3 then true else if zj = 1 then true else if zj = 0 then true else if zj = 12 then true else zB zj, fun zd => if zd = 46 then .agg #[.slice Aw9.a0 Z.B.length Aw9.c0, .slice Aw9.a1 Z.V.length Aw9.c1, .slice Aw9.a2 Z.M.length Aw9.c2] else if zd = 45 then .agg #[.int .i64 ra, .int .i64 rb] else if zd = 43 then .agg #[.int .i64 y.1, .int .i64 y.2] else if zd = 41 then .agg #[.int .i64 x.1, .int .i64 x.2] else if zd = 39 then .agg #[.int .i64 z, .slice (some ⟨gq, 0, none⟩) l.length l.length] else if zd = 37 then .agg #[.slice Aq.a0 S.B.length Aq.c0, .slice Aq.a1 S.V.length Aq.c1, .slice Aq.a2 S.M.length Aq.c2] else if zd = 35 then .int .i64 lv else if zd = 34 then .int .i64 size else zS zd, Aq, gq, Aw9, vv8.heap.size, vv82.heap.size, qw, by simp [hb0, hb1, hb3, hb5, hb7, hb9, hb11], by kernel_rfl, ⟨fun _ => rfl, fun _ => rfl, hF.2.2.1, fun _ => rfl, hF.2.2.2.2.1, fun _ => rfl, hF.2.2.2.2.2.2.1, fun _ => rfl, hF.2.2.2.2.2.2.2.2.1, fun _ => rfl, hF.2.2.2.2.2.2.2.2.2.2.1, fun _ => rfl, fun _ => rfl, hF.2.2.2.2.2.2.2.2.2.2.2.2.2⟩, ⟨below_step hW.1 hb, fun _ e => tf e, fun _ e => tf e, fun _ => ⟨ho, hW.1.size, Nat.le_refl _⟩, fun e => ⟨(hW.2.2.2.2.1 e).1, Nat.lt_of_lt_of_le (hW.2.2.2.2.1 e).2 hb.size⟩, fun e r => (hW.2.2.2.2.2.1 e r).below hb, fun _ e => .inl (hW.2.2.2.2.1 e).2, fun e => ft (hW.2.2.2.2.2.2.2 e).2.1⟩⟩
  refine StepsI.cons rfl ?_ ?_
  ·rintro L zA vv8 ⟨zB, zS, Aq, gq, Aw, lw, hw, qw, rfl, rfl, hF, hW⟩ hL hm K hK
   have hb13 : zB 13 = false := by simpa using hL
   clear hL hm
   rw [hb13] at hW
   simp only [pE]
   go_simp
   exact hK.out _ _ ⟨fun zj => if zj = 13 then true else zB zj, fun zd => if zd = 16 then .pointer (some ⟨vv8.heap.size, 0, none⟩) else zS zd, Aq, gq, Aw, lw, hw, vv8.heap.size, rfl, by kernel_rfl, ⟨hF.1, hF.2.1, hF.2.2.1, hF.2.2.2.1, hF.2.2.2.2.1, hF.2.2.2.2.2.1, hF.2.2.2.2.2.2.1, hF.2.2.2.2.2.2.2.1, hF.2.2.2.2.2.2.2.2.1, hF.2.2.2.2.2.2.2.2.2.1, hF.2.2.2.2.2.2.2.2.2.2.1, hF.2.2.2.2.2.2.2.2.2.2.2.1, hF.2.2.2.2.2.2.2.2.2.2.2.2.1, fun _ => rfl⟩, ⟨bl_alloc hW.1 _, fun e r => (hW.2.1 e r).below (bl_alloc (Below.refl _ _) _), fun e r => (hW.2.2.1 e r).below (bl_alloc (Below.refl _ _) _), fun e => ⟨(hW.2.2.2.1 e).1.below (bl_alloc (Below.refl _ _) _), (hW.2.2.2.1 e).2.1, Nat.le_trans (hW.2.2.2.1 e).2.2 (bl_alloc (Below.refl vv8.heap.size vv8) (.cells #[.slice none 0 0, .slice none 0 0, .slice none 0 0] 35)).size⟩, fun _ => ⟨hW.1.size, by simp⟩, fun _ _ => G3.new _ _ _ _ _, fun e _ => .inr (hW.2.2.2.1 e).2.2, fun e => ft (hW.2.2.2.2.2.2.2 e).1⟩⟩
  refine StepsI.cons rfl ?_ ?_
  ·rintro L zA vv8 ⟨zB, zS, Aq, gq, Aw, lw, hw, qw, rfl, rfl, hF, hW⟩ hL hm K hK
   have hb14 : zB 14 = false := by simpa using hL
   have hb12 : zB 12 = true := mt 12 hm (by kernel_rfl)
   have hb13 : zB 13 = true := mt 13 hm (by kernel_rfl)
   have e12 : zS 46 = .agg #[.slice Aw.a0 Z.B.length Aw.c0, .slice Aw.a1 Z.V.length Aw.c1, .slice Aw.a2 Z.M.length Aw.c2] := hF.2.2.2.2.2.2.2.2.2.2.2.2.1 hb12
   have e13 : zS 16 = .pointer (some ⟨qw, 0, none⟩) := hF.2.2.2.2.2.2.2.2.2.2.2.2.2 hb13
   clear hL hm
   rw [hb14] at hW
   rw [hb12] at hW
   rw [hb13] at hW
   simp only [pE]
   simp only [e12, e13]
   have hz9 := mkHid (hW.2.2.2.2.2.1 rfl rfl)
   have ho9 := mkHid (hW.2.2.2.1 rfl)
   have hq9 := mkHid (hW.2.2.2.2.1 rfl)
   have hr8 := mkHid (hW.2.2.2.2.2.2.1 rfl rfl)
   have hr9 : Hid (hw ≤ qw ∨ qw + 1 ≤ lw) := mkHid (by rcases hr8.out with h | h; exact .inr h; exact .inl h)
   obtain ⟨k0, k1, k2, k3, k4, k5⟩ := hz9.out
   go_simp
   exact hK.out _ _ ⟨fun zj => if zj = 13 then true else if zj = 12 then true else if zj = 14 then true else zB zj, fun zd => if zd = 16 then .pointer (some ⟨qw, 0, none⟩) else if zd = 46 then .agg #[.slice Aw.a0 Z.B.length Aw.c0, .slice Aw.a1 Z.V.length Aw.c1, .slice Aw.a2 Z.M.length Aw.c2] else zS zd, Aq, gq, Aw, lw, hw, qw, by simp [hb12, hb13], by kernel_rfl, ⟨hF.1, hF.2.1, hF.2.2.1, hF.2.2.2.1, hF.2.2.2.2.1, hF.2.2.2.2.2.1, hF.2.2.2.2.2.2.1, hF.2.2.2.2.2.2.2.1, hF.2.2.2.2.2.2.2.2.1, hF.2.2.2.2.2.2.2.2.2.1, hF.2.2.2.2.2.2.2.2.2.2.1, hF.2.2.2.2.2.2.2.2.2.2.2.1, fun _ => rfl, fun _ => rfl⟩, ⟨((hW.1.setCell (p := ⟨qw, 0, none⟩) hq9.out.1 _).setCell (p := ⟨qw, 1, none⟩) hq9.out.1 _).setCell (p := ⟨qw, 2, none⟩) hq9.out.1 _, fun _ e => tf e, fun _ e => tf e, fun _ => ⟨((ho9.out.1.outs (outs_set _ _ _ _) hr9.out).outs (outs_set _ _ _ _) hr9.out).outs (outs_set _ _ _ _) hr9.out, ho9.out.2.1, by simpa [go_sem] using ho9.out.2.2⟩, fun _ => ⟨hq9.out.1, by simpa [go_sem] using hq9.out.2⟩, fun _ e => tf e, fun _ _ => hr8.out, fun _ => ⟨rfl, rfl, ((hz9.out.set0 _).set1 _).set2 _⟩⟩⟩
  exact StepsI.nil (by kernel_rfl)
 ·rintro L zA vv8 ⟨zB, zS, Aq, gq, Aw, lw, hw, qw, rfl, rfl, hF, hW⟩ hr
  have hu := all_up (by kernel_rfl) (N := 15) (by kernel_rfl) hr
  have hb0 : zB 0 = true := by simpa using hu 0 (by decide)
  have hb1 : zB 1 = true := by simpa using hu 1 (by decide)
  have hb2 : zB 2 = true := by simpa using hu 2 (by decide)
  have hb3 : zB 3 = true := by simpa using hu 3 (by decide)
  have hb4 : zB 4 = true := by simpa using hu 4 (by decide)
  have hb5 : zB 5 = true := by simpa using hu 5 (by decide)
  have hb6 : zB 6 = true := by simpa using hu 6 (by decide)
  have hb7 : zB 7 = true := by simpa using hu 7 (by decide)
  have hb8 : zB 8 = true := by simpa using hu 8 (by decide)
  have hb9 : zB 9 = true := by simpa using hu 9 (by decide)
  have hb10 : zB 10 = true := by simpa using hu 10 (by decide)
  have hb11 : zB 11 = true := by simpa using hu 11 (by decide)
  have hb12 : zB 12 = true := by simpa using hu 12 (by decide)
  have hb13 : zB 13 = true := by simpa using hu 13 (by decide)
  have hb14 : zB 14 = true := by simpa using hu 14 (by decide)
  have e0 : zS 34 = .int .i64 size := hF.1 hb0
  have e1 : zS 35 = .int .i64 lv := hF.2.1 hb1
  have e2 : zS 36 = .agg #[.slice A.a0 S.B.length A.c0, .slice A.a1 S.V.length A.c1, .slice A.a2 S.M.length A.c2] := hF.2.2.1 hb2
  have e3 : zS 37 = .agg #[.slice Aq.a0 S.B.length Aq.c0, .slice Aq.a1 S.V.length Aq.c1, .slice Aq.a2 S.M.length Aq.c2] := hF.2.2.2.1 hb3
  have e4 : zS 38 = .agg #[.int .i64 z, .slice a l.length c] := hF.2.2.2.2.1 hb4
  have e5 : zS 39 = .agg #[.int .i64 z, .slice (some ⟨gq, 0, none⟩) l.length l.length] := hF.2.2.2.2.2.1 hb5
  have e6 : zS 40 = .agg #[.int .i64 x.1, .int .i64 x.2] := hF.2.2.2.2.2.2.1 hb6
  have e7 : zS 41 = .agg #[.int .i64 x.1, .int .i64 x.2] := hF.2.2.2.2.2.2.2.1 hb7
  have e8 : zS 42 = .agg #[.int .i64 y.1, .int .i64 y.2] := hF.2.2.2.2.2.2.2.2.1 hb8
  have e9 : zS 43 = .agg #[.int .i64 y.1, .int .i64 y.2] := hF.2.2.2.2.2.2.2.2.2.1 hb9
  have e10 : zS 44 = .agg #[.int .i64 ra, .int .i64 rb] := hF.2.2.2.2.2.2.2.2.2.2.1 hb10
  have e11 : zS 45 = .agg #[.int .i64 ra, .int .i64 rb] := hF.2.2.2.2.2.2.2.2.2.2.2.1 hb11
  have e12 : zS 46 = .agg #[.slice Aw.a0 Z.B.length Aw.c0, .slice Aw.a1 Z.V.length Aw.c1, .slice Aw.a2 Z.M.length Aw.c2] := hF.2.2.2.2.2.2.2.2.2.2.2.2.1 hb12
  have e13 : zS 16 = .pointer (some ⟨qw, 0, none⟩) := hF.2.2.2.2.2.2.2.2.2.2.2.2.2 hb13
  rw [hb3] at hW
  rw [hb5] at hW
  rw [hb12] at hW
  rw [hb13] at hW
  rw [hb14] at hW
  clear hu hr hF
  simp only [pE]
  simp only [e0, e1, e2, e3, e4, e5, e6, e7, e8, e9, e10, e11, e12, e13]
  clear e0 e1 e2 e3 e4 e5 e6 e7 e8 e9 e10 e11 e12 e13
  clear hb0 hb1 hb2 hb3 hb4 hb5 hb6 hb7 hb8 hb9 hb10 hb11 hb12 hb13 hb14
  clear zB zS
  have hb := hW.1
  have Ow := mkHid (hW.2.2.2.1 (by first | rfl | trivial)).1
  have Swa := mkHid (hW.2.2.2.1 (by first | rfl | trivial)).2.1
  have Swb := mkHid (hW.2.2.2.1 (by first | rfl | trivial)).2.2
  have Swc := mkHid (hW.2.2.2.2.1 (by first | rfl | trivial)).1
  have Swd := mkHid (hW.2.2.2.2.1 (by first | rfl | trivial)).2
  have Rw := mkHid (hW.2.2.2.2.2.2.1 (by first | rfl | trivial) (by first | rfl | trivial))
  have Gw := mkHid (hW.2.2.2.2.2.2.2 (by first | rfl | trivial)).2.2
  have BE := mkHid (below_step BE.out hb)
  have BW := mkHid (below_step BW.out hb)
  have SZ3 := mkHid hb.size
  have FS0 := mkHid (FS0.out.below hb)
  have FF0 := mkHid (FF0.out.below hb)
  have FYx := mkHid (FYx.out.below hb)
  have FYy := mkHid (FYy.out.below hb)
  have FR := mkHid (FR.out.below hb)
  have LS := mkHid (LS.out.below hb)
  have LF := mkHid (LF.out.below hb)
  clear hb hW
  clear cFS0 cFF0 cFYx cFYy cFR
  obtain ⟨k0, k1, k2, _, _, _⟩ := FS0.out
  go_wp2_with fail
  refine (toSeg_any S A _ HM.out.b HM.out.t HM.out.v HM.out.m LS.out).mono ?_
  rintro e wa ⟨Ax, rfl, ho, hb⟩
  have Ox := mkHid ho
  obtain ⟨lx, hlx⟩ : ∃ q, vv8.heap.size = q := ⟨_, rfl⟩
  have Qlx : Hid (vv8.heap.size = lx) := mkHid hlx
  obtain ⟨hx, hhx⟩ : ∃ q, wa.heap.size = q := ⟨_, rfl⟩
  have Qhx : Hid (wa.heap.size = hx) := mkHid hhx
  rw [hlx, hhx] at Ox
  have BE := mkHid (below_step BE.out hb)
  have BW := mkHid (below_step BW.out hb)
  have SZ4 := mkHid hb.size
  have FS0 := mkHid (FS0.out.below hb)
  have FF0 := mkHid (FF0.out.below hb)
  have FYx := mkHid (FYx.out.below hb)
  have FYy := mkHid (FYy.out.below hb)
  have FR := mkHid (FR.out.below hb)
  have LS := mkHid (LS.out.below hb)
  have LF := mkHid (LF.out.below hb)
  have Ow := mkHid (Ow.out.below hb)
  have Gw := mkHid (Gw.out.below hb)
  clear ho hb k0 k1 k2 hlx hhx
  obtain ⟨X17, hX17⟩ : ∃ x, wa.heap.size = x := ⟨_, rfl⟩
  have QX17 : Hid (wa.heap.size = X17) := mkHid hX17
  obtain ⟨w3, hw3⟩ : ∃ x : World, wa.alloc (.cells #[.slice Ax.a0 S.B.length Ax.c0, .slice Ax.a1 S.V.length Ax.c1, .slice Ax.a2 S.M.length Ax.c2] 35) = x := ⟨_, rfl⟩
  have hb : Below wa.heap.size wa w3 := by rw [← hw3]; exact bl_alloc (Below.refl _ _) _
  have BE := mkHid (below_step BE.out hb)
  have BW := mkHid (below_step BW.out hb)
  have SZ5 := mkHid hb.size
  have FS0 := mkHid (FS0.out.below hb)
  have FF0 := mkHid (FF0.out.below hb)
  have FYx := mkHid (FYx.out.below hb)
  have FYy := mkHid (FYy.out.below hb)
  have FR := mkHid (FR.out.below hb)
  have LS := mkHid (LS.out.below hb)
  have LF := mkHid (LF.out.below hb)
  have Ow := mkHid (Ow.out.below hb)
  have Gw := mkHid (Gw.out.below hb)
  have Ox := mkHid (Ox.out.below hb)
  have FS17 : Hid (G3 w3 X17 (.slice Ax.a0 S.B.length Ax.c0) (.slice Ax.a1 S.V.length Ax.c1) (.slice Ax.a2 S.M.length Ax.c2)) := mkHid (by rw [← hw3, ← hX17]; exact G3.new _ _ _ _ 35)
  clear hb
  have SX17 : Hid (X17 < w3.heap.size) := mkHid FS17.out.lt
  obtain ⟨k0, k1⟩ := FF0.out
  go_wp2_with fail
  first | rw [hw3] | skip
  first | rw [hX17] | skip
  clear hw3 hX17
  refine (Q.toFacts_any z l a c _ HLN.out LF.out).mono ?_
  rintro e wb ⟨gx, rfl, ho, hb⟩
  have Ofx : Hid (Q.OwnI wb w3.heap.size (.slice (some ⟨gx, 0, none⟩) l.length l.length) l) := mkHid ho
  have Qg1 := mkHid (ho.lt (q := gx) rfl).1
  have Qg2 := mkHid (ho.lt (q := gx) rfl).2
  have BE := mkHid (below_step BE.out hb)
  have BW := mkHid (below_step BW.out hb)
  have SZ6 := mkHid hb.size
  have FS0 := mkHid (FS0.out.below hb)
  have FF0 := mkHid (FF0.out.below hb)
  have FYx := mkHid (FYx.out.below hb)
  have FYy := mkHid (FYy.out.below hb)
  have FR := mkHid (FR.out.below hb)
  have LS := mkHid (LS.out.below hb)
  have LF := mkHid (LF.out.below hb)
  have Ow := mkHid (Ow.out.below hb)
  have Gw := mkHid (Gw.out.below hb)
  have Ox := mkHid (Ox.out.below hb)
  have FS17 := mkHid (FS17.out.below hb)
  clear ho hb k0 k1
  obtain ⟨X18, hX18⟩ : ∃ x, wb.heap.size = x := ⟨_, rfl⟩
  have QX18 : Hid (wb.heap.size = X18) := mkHid hX18
  obtain ⟨w4, hw4⟩ : ∃ x : World, wb.alloc (.cells #[.int .i64 z, .slice (some ⟨gx, 0, none⟩) l.length l.length] 38) = x := ⟨_, rfl⟩
  have hb : Below wb.heap.size wb w4 := by rw [← hw4]; exact bl_alloc (Below.refl _ _) _
  have BE := mkHid (below_step BE.out hb)
  have BW := mkHid (below_step BW.out hb)
  have SZ7 := mkHid hb.size
  have FS0 := mkHid (FS0.out.below hb)
  have FF0 := mkHid (FF0.out.below hb)
  have FYx := mkHid (FYx.out.below hb)
  have FYy := mkHid (FYy.out.below hb)
  have FR := mkHid (FR.out.below hb)
  have LS := mkHid (LS.out.below hb)
  have LF := mkHid (LF.out.below hb)
  have Ow := mkHid (Ow.out.below hb)
  have Gw := mkHid (Gw.out.below hb)
  have Ox := mkHid (Ox.out.below hb)
  have FS17 := mkHid (FS17.out.below hb)
  have Ofx := mkHid (Ofx.out.below hb)
  have FF18 : Hid (Q.Fc w4 X18 z (some ⟨gx, 0, none⟩) l.length l.length) := mkHid (by rw [← hw4, ← hX18]; exact Q.Fc.new _ _ _ _ _ 38)
  clear hb
  have SX18 : Hid (X18 < w4.heap.size) := mkHid FF18.out.lt
  have cFS0 : ∀ v', Below w4.heap.size w4 v' → G3 v' (X) (.slice A.a0 S.B.length A.c0) (.slice A.a1 S.V.length A.c1) (.slice A.a2 S.M.length A.c2) := fun v' h => FS0.out.below h
  have cFF0 : ∀ v', Below w4.heap.size w4 v' → Q.Fc v' (X + 1) z a l.length (c) := fun v' h => FF0.out.below h
  have cFYx : ∀ v', Below w4.heap.size w4 v' → Box v' (X + 2) (x.1) (x.2) := fun v' h => FYx.out.below h
  have cFYy : ∀ v', Below w4.heap.size w4 v' → Box v' (X + 3) (y.1) (y.2) := fun v' h => FYy.out.below h
  have cFR : ∀ v', Below w4.heap.size w4 v' → Box v' (X + 4) (ra) (rb) := fun v' h => FR.out.below h
  have cGw : ∀ v', Below w4.heap.size w4 v' → G3 v' (qw) (.slice Aw.a0 Z.B.length Aw.c0) (.slice Aw.a1 Z.V.length Aw.c1) (.slice Aw.a2 Z.M.length Aw.c2) := fun v' h => Gw.out.below h
  have cFS17 : ∀ v', Below w4.heap.size w4 v' → G3 v' (X17) (.slice Ax.a0 S.B.length Ax.c0) (.slice Ax.a1 S.V.length Ax.c1) (.slice Ax.a2 S.M.length Ax.c2) := fun v' h => FS17.out.below h
  have cFF18 : ∀ v', Below w4.heap.size w4 v' → Q.Fc v' (X18) z (some ⟨gx, 0, none⟩) l.length (l.length) := fun v' h => FF18.out.below h
  go_wp2_with fail
  first | rw [hw4] | skip
  first | rw [hX18] | skip
  clear hw4 hX18
  refine wp_region_inv2 (fun zA0 L zA vv11 => ∃ (zB : Nat → Bool) (zS : Nat → Value) (Ag : SAd) (lg : Nat) (hg : Nat) (qg : Nat), L = #[zB 0, zB 1, zB 2, zB 3, zB 4, zB 5, zB 6, zB 7, zB 8, zB 9, zB 10, zB 11, zB 12] ∧ zA = puts zA0 [(51, zS 51), (52, zS 52), (53, zS 53), (54, zS 54), (55, zS 55), (56, zS 56), (57, zS 57), (58, zS 58), (59, zS 59), (60, zS 60), (61, zS 61), (19, zS 19)] ∧ ((zB 0 = true → zS 51 = .int .i64 size) ∧ (zB 1 = true → zS 52 = .int .i64 lv) ∧ (zB 2 = true → zS 53 = .agg #[.slice Ax.a0 S.B.length Ax.c0, .slice Ax.a1 S.V.length Ax.c1, .slice Ax.a2 S.M.length Ax.c2]) ∧ (zB 3 = true → zS 54 = .agg #[.int .i64 z, .slice (some ⟨gx, 0, none⟩) l.length l.length]) ∧ (zB 4 = true → zS 55 = .agg #[.int .i64 x.1, .int .i64 x.2]) ∧ (zB 5 = true → zS 56 = .agg #[.int .i64 x.1, .int .i64 x.2]) ∧ (zB 6 = true → zS 57 = .agg #[.int .i64 y.1, .int .i64 y.2]) ∧ (zB 7 = true → zS 58 = .agg #[.int .i64 y.1, .int .i64 y.2]) ∧ (zB 8 = true → zS 59 = .agg #[.int .i64 ra, .int .i64 rb]) ∧ (zB 9 = true → zS 60 = .agg #[.int .i64 ra, .int .i64 rb]) ∧ (zB 10 = true → zS 61 = .agg #[.slice Ag.a0 Z.B.length Ag.c0, .slice Ag.a1 Z.V.length Ag.c1, .slice Ag.a2 Z.M.length Ag.c2]) ∧ (zB 11 = true → zS 19 = .pointer (some ⟨qg, 0, none⟩))) ∧ Below w4.heap.size w4 vv11 ∧ ((zB 10) = true → OwnS vv11 lg hg Ag Z ∧ w4.heap.size ≤ lg ∧ hg ≤ vv11.heap.size) ∧ ((zB 11) = true → w4.heap.size ≤ qg ∧ qg < vv11.heap.size) ∧ ((zB 11) = true → (zB 12) = false → G3 vv11 qg (.slice none 0 0) (.slice none 0 0) (.slice none 0 0)) ∧ ((zB 10) = true → (zB 11) = true → qg < lg ∨ hg ≤ qg) ∧ ((zB 12) = true → (zB 11) = true ∧ (zB 10) = true ∧ G3 vv11 qg (.slice Ag.a0 Z.B.length Ag.c0) (.slice Ag.a1 Z.V.length Ag.c1) (.slice Ag.a2 Z.M.length Ag.c2))) (by kernel_rfl) ?_ ?_ ?_
  ·exact ⟨fun _ => false, fun _ => undef, zAd, 0, 0, 0, rfl, by kernel_rfl, ⟨fun e => ft e, fun e => ft e, fun e => ft e, fun e => ft e, fun e => ft e, fun e => ft e, fun e => ft e, fun e => ft e, fun e => ft e, fun e => ft e, fun e => ft e, fun e => ft e⟩, ⟨(Below.refl _ _).drew, fun e => ft e, fun e => ft e, fun e => ft e, fun e => ft e, fun e => ft e⟩⟩
  ·refine StepsI.cons rfl ?_ ?_
   ·rintro L zA vv11 ⟨zB, zS, Ag, lg, hg, qg, rfl, rfl, hF, hW⟩ hL hm K hK
    have hb0 : zB 0 = false := by simpa using hL
    clear hL hm
    simp only [pE]
    go_simp
    exact hK.out _ _ ⟨fun zj => if zj = 0 then true else zB zj, fun zd => if zd = 51 then .int .i64 size else zS zd, Ag, lg, hg, qg, rfl, by kernel_rfl, ⟨fun _ => rfl, hF.2.1, hF.2.2.1, hF.2.2.2.1, hF.2.2.2.2.1, hF.2.2.2.2.2.1, hF.2.2.2.2.2.2.1, hF.2.2.2.2.2.2.2.1, hF.2.2.2.2.2.2.2.2.1, hF.2.2.2.2.2.2.2.2.2.1, hF.2.2.2.2.2.2.2.2.2.2.1, hF.2.2.2.2.2.2.2.2.2.2.2⟩, hW⟩
   refine StepsI.cons rfl ?_ ?_
   ·rintro L zA vv11 ⟨zB, zS, Ag, lg, hg, qg, rfl, rfl, hF, hW⟩ hL hm K hK
    have hb1 : zB 1 = false := by simpa using hL
    clear hL hm
    simp only [pE]
    go_simp
    exact hK.out _ _ ⟨fun zj => if zj = 1 then true else zB zj, fun zd => if zd = 52 then .int .i64 lv else zS zd, Ag, lg, hg, qg, rfl, by kernel_rfl, ⟨hF.1, fun _ => rfl, hF.2.2.1, hF.2.2.2.1, hF.2.2.2.2.1, hF.2.2.2.2.2.1, hF.2.2.2.2.2.2.1, hF.2.2.2.2.2.2.2.1, hF.2.2.2.2.2.2.2.2.1, hF.2.2.2.2.2.2.2.2.2.1, hF.2.2.2.2.2.2.2.2.2.2.1, hF.2.2.2.2.2.2.2.2.2.2.2⟩, hW⟩
   refine StepsI.cons rfl ?_ ?_
   ·rintro L zA vv11 ⟨zB, zS, Ag, lg, hg, qg, rfl, rfl, hF, hW⟩ hL hm K hK
    have hb2 : zB 2 = false := by simpa using hL
    clear hL hm
    simp only [pE]
    obtain ⟨k0, k1, k2, _, _, _⟩ := cFS17 _ hW.1
    go_simp
    exact hK.out _ _ ⟨fun zj => if zj = 2 then true else zB zj, fun zd => if zd = 53 then .agg #[.slice Ax.a0 S.B.length Ax.c0, .slice Ax.a1 S.V.length Ax.c1, .slice Ax.a2 S.M.length Ax.c2] else zS zd, Ag, lg, hg, qg, rfl, by kernel_rfl, ⟨hF.1, hF.2.1, fun _ => rfl, hF.2.2.2.1, hF.2.2.2.2.1, hF.2.2.2.2.2.1, hF.2.2.2.2.2.2.1, hF.2.2.2.2.2.2.2.1, hF.2.2.2.2.2.2.2.2.1, hF.2.2.2.2.2.2.2.2.2.1, hF.2.2.2.2.2.2.2.2.2.2.1, hF.2.2.2.2.2.2.2.2.2.2.2⟩, hW⟩
   refine StepsI.cons rfl ?_ ?_
   ·rintro L zA vv11 ⟨zB, zS, Ag, lg, hg, qg, rfl, rfl, hF, hW⟩ hL hm K hK
    have hb3 : zB 3 = false := by simpa using hL
    clear hL hm
    simp only [pE]
    obtain ⟨k0, k1⟩ := cFF18 _ hW.1
    go_simp
    exact hK.out _ _ ⟨fun zj => if zj = 3 then true else zB zj, fun zd => if zd = 54 then .agg #[.int .i64 z, .slice (some ⟨gx, 0, none⟩) l.length l.length] else zS zd, Ag, lg, hg, qg, rfl, by kernel_rfl, ⟨hF.1, hF.2.1, hF.2.2.1, fun _ => rfl, hF.2.2.2.2.1, hF.2.2.2.2.2.1, hF.2.2.2.2.2.2.1, hF.2.2.2.2.2.2.2.1, hF.2.2.2.2.2.2.2.2.1, hF.2.2.2.2.2.2.2.2.2.1, hF.2.2.2.2.2.2.2.2.2.2.1, hF.2.2.2.2.2.2.2.2.2.2.2⟩, hW⟩
   refine StepsI.cons rfl ?_ ?_
   ·rintro L zA vv11 ⟨zB, zS, Ag, lg, hg, qg, rfl, rfl, hF, hW⟩ hL hm K hK
    have hb4 : zB 4 = false := by simpa using hL
    clear hL hm
    simp only [pE]
    obtain ⟨k0, k1, _, _⟩ := cFYx _ hW.1
    go_simp
    exact hK.out _ _ ⟨fun zj => if zj = 4 then true else zB zj, fun zd => if zd = 55 then .agg #[.int .i64 x.1, .int .i64 x.2] else zS zd, Ag, lg, hg, qg, rfl, by kernel_rfl, ⟨hF.1, hF.2.1, hF.2.2.1, hF.2.2.2.1, fun _ => rfl, hF.2.2.2.2.2.1, hF.2.2.2.2.2.2.1, hF.2.2.2.2.2.2.2.1, hF.2.2.2.2.2.2.2.2.1, hF.2.2.2.2.2.2.2.2.2.1, hF.2.2.2.2.2.2.2.2.2.2.1, hF.2.2.2.2.2.2.2.2.2.2.2⟩, hW⟩
   refine StepsI.cons rfl ?_ ?_
   ·rintro L zA vv11 ⟨zB, zS, Ag, lg, hg, qg, rfl, rfl, hF, hW⟩ hL hm K hK
    have hb5 : zB 5 = false := by simpa using hL
    have hb4 : zB 4 = true := mt 4 hm (by kernel_rfl)
    have e4 : zS 55 = .agg #[.int .i64 x.1, .int .i64 x.2] := hF.2.2.2.2.1 hb4
    clear hL hm
    simp only [pE]
    simp only [e4]
    go_simp
    refine (toSym_any x.1 x.2 _).mono ?_
    rintro e vv112 ⟨rfl, hb⟩
    go_wp2_with fail
    exact hK.out _ _ ⟨fun zj => if zj = 4 then true else if zj = 5 then true else zB zj, fun zd => if zd = 56 then .agg #[.int .i64 x.1, .int .i64 x.2] else if zd = 55 then .agg #[.int .i64 x.1, .int .i64 x.2] else zS zd, Ag, lg, hg, qg, by simp [hb4], by kernel_rfl, ⟨hF.1, hF.2.1, hF.2.2.1, hF.2.2.2.1, fun _ => rfl, fun _ => rfl, hF.2.2.2.2.2.2.1, hF.2.2.2.2.2.2.2.1, hF.2.2.2.2.2.2.2.2.1, hF.2.2.2.2.2.2.2.2.2.1, hF.2.2.2.2.2.2.2.2.2.2.1, hF.2.2.2.2.2.2.2.2.2.2.2⟩, ⟨below_step hW.1 hb, fun e => ⟨(hW.2.1 e).1.below hb, (hW.2.1 e).2.1, Nat.le_trans (hW.2.1 e).2.2 hb.size⟩, fun e => ⟨(hW.2.2.1 e).1, Nat.lt_of_lt_of_le (hW.2.2.1 e).2 hb.size⟩, fun e r => (hW.2.2.2.1 e r).below hb, hW.2.2.2.2.1, fun e => ⟨(hW.2.2.2.2.2 e).1, (hW.2.2.2.2.2 e).2.1, (hW.2.2.2.2.2 e).2.2.below hb⟩⟩⟩
   refine StepsI.cons rfl ?_ ?_
   ·rintro L zA vv11 ⟨zB, zS, Ag, lg, hg, qg, rfl, rfl, hF, hW⟩ hL hm K hK
    have hb6 : zB 6 = false := by simpa using hL
    clear hL hm
    simp only [pE]
    obtain ⟨k0, k1, _, _⟩ := cFYy _ hW.1
    go_simp
    exact hK.out _ _ ⟨fun zj => if zj = 6 then true else zB zj, fun zd => if zd = 57 then .agg #[.int .i64 y.1, .int .i64 y.2] else zS zd, Ag, lg, hg, qg, rfl, by kernel_rfl, ⟨hF.1, hF.2.1, hF.2.2.1, hF.2.2.2.1, hF.2.2.2.2.1, hF.2.2.2.2.2.1, fun _ => rfl, hF.2.2.2.2.2.2.2.1, hF.2.2.2.2.2.2.2.2.1, hF.2.2.2.2.2.2.2.2.2.1, hF.2.2.2.2.2.2.2.2.2.2.1, hF.2.2.2.2.2.2.2.2.2.2.2⟩, hW⟩
   refine StepsI.cons rfl ?_ ?_
   ·rintro L zA vv11 ⟨zB, zS, Ag, lg, hg, qg, rfl, rfl, hF, hW⟩ hL hm K hK
    have hb7 : zB 7 = false := by simpa using hL
    have hb6 : zB 6 = true := mt 6 hm (by kernel_rfl)
    have e6 : zS 57 = .agg #[.int .i64 y.1, .int .i64 y.2] := hF.2.2.2.2.2.2.1 hb6
    clear hL hm
    simp only [pE]
    simp only [e6]
    go_simp
    refine (toSym_any y.1 y.2 _).mono ?_
    rintro e vv112 ⟨rfl, hb⟩
    go_wp2_with fail
    exact hK.out _ _ ⟨fun zj => if zj = 6 then true else if zj = 7 then true else zB zj, fun zd => if zd = 58 then .agg #[.int .i64 y.1, .int .i64 y.2] else if zd = 57 then .agg #[.int .i64 y.1, .int .i64 y.2] else zS zd, Ag, lg, hg, qg, by simp [hb6], by kernel_rfl, ⟨hF.1, hF.2.1, hF.2.2.1, hF.2.2.2.1, hF.2.2.2.2.1, hF.2.2.2.2.2.1, fun _ => rfl, fun _ => rfl, hF.2.2.2.2.2.2.2.2.1, hF.2.2.2.2.2.2.2.2.2.1, hF.2.2.2.2.2.2.2.2.2.2.1, hF.2.2.2.2.2.2.2.2.2.2.2⟩, ⟨below_step hW.1 hb, fun e => ⟨(hW.2.1 e).1.below hb, (hW.2.1 e).2.1, Nat.le_trans (hW.2.1 e).2.2 hb.size⟩, fun e => ⟨(hW.2.2.1 e).1, Nat.lt_of_lt_of_le (hW.2.2.1 e).2 hb.size⟩, fun e r => (hW.2.2.2.1 e r).below hb, hW.2.2.2.2.1, fun e => ⟨(hW.2.2.2.2.2 e).1, (hW.2.2.2.2.2 e).2.1, (hW.2.2.2.2.2 e).2.2.below hb⟩⟩⟩
   refine StepsI.cons rfl ?_ ?_
   ·rintro L zA vv11 ⟨zB, zS, Ag, lg, hg, qg, rfl, rfl, hF, hW⟩ hL hm K hK
    have hb8 : zB 8 = false := by simpa using hL
    clear hL hm
    simp only [pE]
    obtain ⟨k0, k1, _, _⟩ := cFR _ hW.1
    go_simp
    exact hK.out _ _ ⟨fun zj => if zj = 8 then true else zB zj, fun zd => if zd = 59 then .agg #[.int .i64 ra, .int .i64 rb] else zS zd, Ag, lg, hg, qg, rfl, by kernel_rfl, ⟨hF.1, hF.2.1, hF.2.2.1, hF.2.2.2.1, hF.2.2.2.2.1, hF.2.2.2.2.2.1, hF.2.2.2.2.2.2.1, hF.2.2.2.2.2.2.2.1, fun _ => rfl, hF.2.2.2.2.2.2.2.2.2.1, hF.2.2.2.2.2.2.2.2.2.2.1, hF.2.2.2.2.2.2.2.2.2.2.2⟩, hW⟩
   refine StepsI.cons rfl ?_ ?_
   ·rintro L zA vv11 ⟨zB, zS, Ag, lg, hg, qg, rfl, rfl, hF, hW⟩ hL hm K hK
    have hb9 : zB 9 = false := by simpa using hL
    have hb8 : zB 8 = true := mt 8 hm (by kernel_rfl)
    have e8 : zS 59 = .agg #[.int .i64 ra, .int .i64 rb] := hF.2.2.2.2.2.2.2.2.1 hb8
    clear hL hm
    simp only [pE]
    simp only [e8]
    go_simp
    refine (toRange_any ra rb _).mono ?_
    rintro e vv112 ⟨rfl, hb⟩
    go_wp2_with fail
    exact hK.out _ _ ⟨fun zj => if zj = 8 then true else if zj = 9 then true else zB zj, fun zd => if zd = 60 then .agg #[.int .i64 ra, .int .i64 rb] else if zd = 59 then .agg #[.int .i64 ra, .int .i64 rb] else zS zd, Ag, lg, hg, qg, by simp [hb8], by kernel_rfl, ⟨hF.1, hF.2.1, hF.2.2.1, hF.2.2.2.1, hF.2.2.2.2.1, hF.2.2.2.2.2.1, hF.2.2.2.2.2.2.1, hF.2.2.2.2.2.2.2.1, fun _ => rfl, fun _ => rfl, hF.2.2.2.2.2.2.2.2.2.2.1, hF.2.2.2.2.2.2.2.2.2.2.2⟩, ⟨below_step hW.1 hb, fun e => ⟨(hW.2.1 e).1.below hb, (hW.2.1 e).2.1, Nat.le_trans (hW.2.1 e).2.2 hb.size⟩, fun e => ⟨(hW.2.2.1 e).1, Nat.lt_of_lt_of_le (hW.2.2.1 e).2 hb.size⟩, fun e r => (hW.2.2.2.1 e r).below hb, hW.2.2.2.2.1, fun e => ⟨(hW.2.2.2.2.2 e).1, (hW.2.2.2.2.2 e).2.1, (hW.2.2.2.2.2 e).2.2.below hb⟩⟩⟩
   refine StepsI.cons rfl ?_ ?_
   ·rintro L zA vv11 ⟨zB, zS, Ag, lg, hg, qg, rfl, rfl, hF, hW⟩ hL hm K hK
    have hb10 : zB 10 = false := by simpa using hL
    have hb0 : zB 0 = true := mt 0 hm (by kernel_rfl)
    have hb1 : zB 1 = true := mt 1 hm (by kernel_rfl)
    have hb2 : zB 2 = true := mt 2 hm (by kernel_rfl)
    have hb3 : zB 3 = true := mt 3 hm (by kernel_rfl)
    have hb5 : zB 5 = true := mt 5 hm (by kernel_rfl)
    have hb7 : zB 7 = true := mt 7 hm (by kernel_rfl)
    have hb9 : zB 9 = true := mt 9 hm (by kernel_rfl)
    have e0 : zS 51 = .int .i64 size := hF.1 hb0
    have e1 : zS 52 = .int .i64 lv := hF.2.1 hb1
    have e2 : zS 53 = .agg #[.slice Ax.a0 S.B.length Ax.c0, .slice Ax.a1 S.V.length Ax.c1, .slice Ax.a2 S.M.length Ax.c2] := hF.2.2.1 hb2
    have e3 : zS 54 = .agg #[.int .i64 z, .slice (some ⟨gx, 0, none⟩) l.length l.length] := hF.2.2.2.1 hb3
    have e5 : zS 56 = .agg #[.int .i64 x.1, .int .i64 x.2] := hF.2.2.2.2.2.1 hb5
    have e7 : zS 58 = .agg #[.int .i64 y.1, .int .i64 y.2] := hF.2.2.2.2.2.2.2.1 hb7
    have e9 : zS 60 = .agg #[.int .i64 ra, .int .i64 rb] := hF.2.2.2.2.2.2.2.2.2.1 hb9
    clear hL hm
    rw [hb10] at hW
    simp only [pE]
    simp only [e0, e1, e2, e3, e5, e7, e9]
    go_simp
    refine (iSegWeak_any size lv S Ax z l (some ⟨gx, 0, none⟩) l.length x y ra rb _ HM.out (Ox.out.at.below hW.1) (Nat.le_refl _) (Ofx.out.at.below hW.1)).mono ?_
    rintro e vv112 ⟨Z', hZ', Ag9, rfl, ho, hb⟩
    have eZ : Z = Z' := HZ.out.one hZ'
    subst eZ
    clear hZ'
    go_wp2_with fail
    exact hK.out _ _ ⟨fun zj => if zj = 9 then true else if zj = 7 then true else if zj = 5 then true else if zj = 3 then true else if zj = 2 then true else if zj = 1 then true else if zj = 0 then true else if zj = 10 then true else zB zj, fun zd => if zd = 61 then .agg #[.slice Ag9.a0 Z.B.length Ag9.c0, .slice Ag9.a1 Z.V.length Ag9.c1, .slice Ag9.a2 Z.M.length Ag9.c2] else if zd = 60 then .agg #[.int .i64 ra, .int .i64 rb] else if zd = 58 then .agg #[.int .i64 y.1, .int .i64 y.2] else if zd = 56 then .agg #[.int .i64 x.1, .int .i64 x.2] else if zd = 54 then .agg #[.int .i64 z, .slice (some ⟨gx, 0, none⟩) l.length l.length] else if zd = 53 then .agg #[.slice Ax.a0 S.B.length Ax.c0, .slice Ax.a1 S.V.length Ax.c1, .slice Ax.a2 S.M.length Ax.c2] else if zd = 52 then .int .i64 lv else if zd = 51 then .int .i64 size else zS zd, Ag9, vv11.heap.size, vv112.heap.size, qg, by simp [hb0, hb1, hb2, hb3, hb5, hb7, hb9], by kernel_rfl, ⟨fun _ => rfl, fun _ => rfl, fun _ => rfl, fun _ => rfl, hF.2.2.2.2.1, fun _ => rfl, hF.2.2.2.2.2.2.1, fun _ => rfl, hF.2.2.2.2.2.2.2.2.1, fun _ => rfl, fun _ => rfl, hF.2.2.2.2.2.2.2.2.2.2.2⟩, ⟨below_step hW.1 hb, fun _ => ⟨ho, hW.1.size, Nat.le_refl _⟩, fun e => ⟨(hW.2.2.1 e).1, Nat.lt_of_lt_of_le (hW.2.2.1 e).2 hb.size⟩, fun e r => (hW.2.2.2.1 e r).below hb, fun _ e => .inl (hW.2.2.1 e).2, fun e => ft (hW.2.2.2.2.2 e).2.1⟩⟩
   refine StepsI.cons rfl ?_ ?_
   ·rintro L zA vv11 ⟨zB, zS, Ag, lg, hg, qg, rfl, rfl, hF, hW⟩ hL hm K hK
    have hb11 : zB 11 = false := by simpa using hL
    clear hL hm
    rw [hb11] at hW
    simp only [pE]
    go_simp
    exact hK.out _ _ ⟨fun zj => if zj = 11 then true else zB zj, fun zd => if zd = 19 then .pointer (some ⟨vv11.heap.size, 0, none⟩) else zS zd, Ag, lg, hg, vv11.heap.size, rfl, by kernel_rfl, ⟨hF.1, hF.2.1, hF.2.2.1, hF.2.2.2.1, hF.2.2.2.2.1, hF.2.2.2.2.2.1, hF.2.2.2.2.2.2.1, hF.2.2.2.2.2.2.2.1, hF.2.2.2.2.2.2.2.2.1, hF.2.2.2.2.2.2.2.2.2.1, hF.2.2.2.2.2.2.2.2.2.2.1, fun _ => rfl⟩, ⟨bl_alloc hW.1 _, fun e => ⟨(hW.2.1 e).1.below (bl_alloc (Below.refl _ _) _), (hW.2.1 e).2.1, Nat.le_trans (hW.2.1 e).2.2 (bl_alloc (Below.refl vv11.heap.size vv11) (.cells #[.slice none 0 0, .slice none 0 0, .slice none 0 0] 35)).size⟩, fun _ => ⟨hW.1.size, by simp⟩, fun _ _ => G3.new _ _ _ _ _, fun e _ => .inr (hW.2.1 e).2.2, fun e => ft (hW.2.2.2.2.2 e).1⟩⟩
   refine StepsI.cons rfl ?_ ?_
   ·rintro L zA vv11 ⟨zB, zS, Ag, lg, hg, qg, rfl, rfl, hF, hW⟩ hL hm K hK
    have hb12 : zB 12 = false := by simpa using hL
    have hb10 : zB 10 = true := mt 10 hm (by kernel_rfl)
    have hb11 : zB 11 = true := mt 11 hm (by kernel_rfl)
    have e10 : zS 61 = .agg #[.slice Ag.a0 Z.B.length Ag.c0, .slice Ag.a1 Z.V.length Ag.c1, .slice Ag.a2 Z.M.length Ag.c2] := hF.2.2.2.2.2.2.2.2.2.2.1 hb10
    have e11 : zS 19 = .pointer (some ⟨qg, 0, none⟩) := hF.2.2.2.2.2.2.2.2.2.2.2 hb11
    clear hL hm
    rw [hb12] at hW
    rw [hb10] at hW
    rw [hb11] at hW
    simp only [pE]
    simp only [e10, e11]
    have hz9 := mkHid (hW.2.2.2.1 rfl rfl)
    have ho9 := mkHid (hW.2.1 rfl)
    have hq9 := mkHid (hW.2.2.1 rfl)
    have hr8 := mkHid (hW.2.2.2.2.1 rfl rfl)
    have hr9 : Hid (hg ≤ qg ∨ qg + 1 ≤ lg) := mkHid (by rcases hr8.out with h | h; exact .inr h; exact .inl h)
    obtain ⟨k0, k1, k2, k3, k4, k5⟩ := hz9.out
    go_simp
    exact hK.out _ _ ⟨fun zj => if zj = 11 then true else if zj = 10 then true else if zj = 12 then true else zB zj, fun zd => if zd = 19 then .pointer (some ⟨qg, 0, none⟩) else if zd = 61 then .agg #[.slice Ag.a0 Z.B.length Ag.c0, .slice Ag.a1 Z.V.length Ag.c1, .slice Ag.a2 Z.M.length Ag.c2] else zS zd, Ag, lg, hg, qg, by simp [hb10, hb11], by kernel_rfl, ⟨hF.1, hF.2.1, hF.2.2.1, hF.2.2.2.1, hF.2.2.2.2.1, hF.2.2.2.2.2.1, hF.2.2.2.2.2.2.1, hF.2.2.2.2.2.2.2.1, hF.2.2.2.2.2.2.2.2.1, hF.2.2.2.2.2.2.2.2.2.1, fun _ => rfl, fun _ => rfl⟩, ⟨((hW.1.setCell (p := ⟨qg, 0, none⟩) hq9.out.1 _).setCell (p := ⟨qg, 1, none⟩) hq9.out.1 _).setCell (p := ⟨qg, 2, none⟩) hq9.out.1 _, fun _ => ⟨((ho9.out.1.outs (outs_set _ _ _ _) hr9.out).outs (outs_set _ _ _ _) hr9.out).outs (outs_set _ _ _ _) hr9.out, ho9.out.2.1, by simpa [go_sem] using ho9.out.2.2⟩, fun _ => ⟨hq9.out.1, by simpa [go_sem] using hq9.out.2⟩, fun _ e => tf e, fun _ _ => hr8.out, fun _ => ⟨rfl, rfl, ((hz9.out.set0 _).set1 _).set2 _⟩⟩⟩
   exact StepsI.nil (by kernel_rfl)
  ·rintro L zA vv11 ⟨zB, zS, Ag, lg, hg, qg, rfl, rfl, hF, hW⟩ hr
   have hu := all_up (by kernel_rfl) (N := 13) (by kernel_rfl) hr
   have hb0 : zB 0 = true := by simpa using hu 0 (by decide)
   have hb1 : zB 1 = true := by simpa using hu 1 (by decide)
   have hb2 : zB 2 = true := by simpa using hu 2 (by decide)
   have hb3 : zB 3 = true := by simpa using hu 3 (by decide)
   have hb4 : zB 4 = true := by simpa using hu 4 (by decide)
   have hb5 : zB 5 = true := by simpa using hu 5 (by decide)
   have hb6 : zB 6 = true := by simpa using hu 6 (by decide)
   have hb7 : zB 7 = true := by simpa using hu 7 (by decide)
   have hb8 : zB 8 = true := by simpa using hu 8 (by decide)
   have hb9 : zB 9 = true := by simpa using hu 9 (by decide)
   have hb10 : zB 10 = true := by simpa using hu 10 (by decide)
   have hb11 : zB 11 = true := by simpa using hu 11 (by decide)
   have hb12 : zB 12 = true := by simpa using hu 12 (by decide)
   have e0 : zS 51 = .int .i64 size := hF.1 hb0
   have e1 : zS 52 = .int .i64 lv := hF.2.1 hb1
   have e2 : zS 53 = .agg #[.slice Ax.a0 S.B.length Ax.c0, .slice Ax.a1 S.V.length Ax.c1, .slice Ax.a2 S.M.length Ax.c2] := hF.2.2.1 hb2
   have e3 : zS 54 = .agg #[.int .i64 z, .slice (some ⟨gx, 0, none⟩) l.length l.length] := hF.2.2.2.1 hb3
   have e4 : zS 55 = .agg #[.int .i64 x.1, .int .i64 x.2] := hF.2.2.2.2.1 hb4
   have e5 : zS 56 = .agg #[.int .i64 x.1, .int .i64 x.2] := hF.2.2.2.2.2.1 hb5
   have e6 : zS 57 = .agg #[.int .i64 y.1, .int .i64 y.2] := hF.2.2.2.2.2.2.1 hb6
   have e7 : zS 58 = .agg #[.int .i64 y.1, .int .i64 y.2] := hF.2.2.2.2.2.2.2.1 hb7
   have e8 : zS 59 = .agg #[.int .i64 ra, .int .i64 rb] := hF.2.2.2.2.2.2.2.2.1 hb8
   have e9 : zS 60 = .agg #[.int .i64 ra, .int .i64 rb] := hF.2.2.2.2.2.2.2.2.2.1 hb9
   have e10 : zS 61 = .agg #[.slice Ag.a0 Z.B.length Ag.c0, .slice Ag.a1 Z.V.length Ag.c1, .slice Ag.a2 Z.M.length Ag.c2] := hF.2.2.2.2.2.2.2.2.2.2.1 hb10
   have e11 : zS 19 = .pointer (some ⟨qg, 0, none⟩) := hF.2.2.2.2.2.2.2.2.2.2.2 hb11
   rw [hb10] at hW
   rw [hb11] at hW
   rw [hb12] at hW
   clear hu hr hF
   simp only [pE]
   simp only [e0, e1, e2, e3, e4, e5, e6, e7, e8, e9, e10, e11]
   clear e0 e1 e2 e3 e4 e5 e6 e7 e8 e9 e10 e11
   clear hb0 hb1 hb2 hb3 hb4 hb5 hb6 hb7 hb8 hb9 hb10 hb11 hb12
   clear zB zS
   have hb := hW.1
   have Og := mkHid (hW.2.1 (by first | rfl | trivial)).1
   have Sga := mkHid (hW.2.1 (by first | rfl | trivial)).2.1
   have Sgb := mkHid (hW.2.1 (by first | rfl | trivial)).2.2
   have Sgc := mkHid (hW.2.2.1 (by first | rfl | trivial)).1
   have Sgd := mkHid (hW.2.2.1 (by first | rfl | trivial)).2
   have Rg := mkHid (hW.2.2.2.2.1 (by first | rfl | trivial) (by first | rfl | trivial))
   have Gg := mkHid (hW.2.2.2.2.2 (by first | rfl | trivial)).2.2
   have BE := mkHid (below_step BE.out hb)
   have BW := mkHid (below_step BW.out hb)
   have SZ8 := mkHid hb.size
   have FS0 := mkHid (FS0.out.below hb)
   have FF0 := mkHid (FF0.out.below hb)
   have FYx := mkHid (FYx.out.below hb)
   have FYy := mkHid (FYy.out.below hb)
   have FR := mkHid (FR.out.below hb)
   have LS := mkHid (LS.out.below hb)
   have LF := mkHid (LF.out.below hb)
   have Ow := mkHid (Ow.out.below hb)
   have Gw := mkHid (Gw.out.below hb)
   have Ox := mkHid (Ox.out.below hb)
   have FS17 := mkHid (FS17.out.below hb)
   have Ofx := mkHid (Ofx.out.below hb)
   have FF18 := mkHid (FF18.out.below hb)
   clear hb hW
   clear cFS0 cFF0 cFYx cFYy cFR cGw cFS17 cFF18
   obtain ⟨k0, k1, k2, _, _, _⟩ := Gg.out
   obtain ⟨j0, j1, j2, _, _, _⟩ := Gw.out
   go_wp2_with fail
   refine (eqSeg_same Z Ag Aw _ HSZ.out Og.out.at Ow.out.at).mono ?_
   rintro e wc1 ⟨rfl, hb⟩
   have BE := mkHid (below_step BE.out hb)
   have BW := mkHid (below_step BW.out hb)
   have SZ9 := mkHid hb.size
   have FS0 := mkHid (FS0.out.below hb)
   have FF0 := mkHid (FF0.out.below hb)
   have FYx := mkHid (FYx.out.below hb)
   have FYy := mkHid (FYy.out.below hb)
   have FR := mkHid (FR.out.below hb)
   have LS := mkHid (LS.out.below hb)
   have LF := mkHid (LF.out.below hb)
   have Ow := mkHid (Ow.out.below hb)
   have Gw := mkHid (Gw.out.below hb)
   have Ox := mkHid (Ox.out.below hb)
   have FS17 := mkHid (FS17.out.below hb)
   have Ofx := mkHid (Ofx.out.below hb)
   have FF18 := mkHid (FF18.out.below hb)
   have Og := mkHid (Og.out.below hb)
   have Gg := mkHid (Gg.out.below hb)
   clear hb k0 k1 k2 j0 j1 j2
   have cFS0 : ∀ v', Below wc1.heap.size wc1 v' → G3 v' (X) (.slice A.a0 S.B.length A.c0) (.slice A.a1 S.V.length A.c1) (.slice A.a2 S.M.length A.c2) := fun v' h => FS0.out.below h
   have cFF0 : ∀ v', Below wc1.heap.size wc1 v' → Q.Fc v' (X + 1) z a l.length (c) := fun v' h => FF0.out.below h
   have cFYx : ∀ v', Below wc1.heap.size wc1 v' → Box v' (X + 2) (x.1) (x.2) := fun v' h => FYx.out.below h
   have cFYy : ∀ v', Below wc1.heap.size wc1 v' → Box v' (X + 3) (y.1) (y.2) := fun v' h => FYy.out.below h
   have cFR : ∀ v', Below wc1.heap.size wc1 v' → Box v' (X + 4) (ra) (rb) := fun v' h => FR.out.below h
   have cGw : ∀ v', Below wc1.heap.size wc1 v' → G3 v' (qw) (.slice Aw.a0 Z.B.length Aw.c0) (.slice Aw.a1 Z.V.length Aw.c1) (.slice Aw.a2 Z.M.length Aw.c2) := fun v' h => Gw.out.below h
   have cFS17 : ∀ v', Below wc1.heap.size wc1 v' → G3 v' (X17) (.slice Ax.a0 S.B.length Ax.c0) (.slice Ax.a1 S.V.length Ax.c1) (.slice Ax.a2 S.M.length Ax.c2) := fun v' h => FS17.out.below h
   have cFF18 : ∀ v', Below wc1.heap.size wc1 v' → Q.Fc v' (X18) z (some ⟨gx, 0, none⟩) l.length (l.length) := fun v' h => FF18.out.below h
   have cGg : ∀ v', Below wc1.heap.size wc1 v' → G3 v' (qg) (.slice Ag.a0 Z.B.length Ag.c0) (.slice Ag.a1 Z.V.length Ag.c1) (.slice Ag.a2 Z.M.length Ag.c2) := fun v' h => Gg.out.below h
   go_wp2_with fail
   refine wp_region_inv2 (fun zA0 L zA vv14 => ∃ (zB : Nat → Bool) (zS : Nat → Value) (Aq : SAd), L = #[zB 0, zB 1, zB 2, zB 3, zB 4] ∧ zA = puts zA0 [(66, zS 66), (67, zS 67), (68, zS 68), (69, zS 69), (70, zS 70)] ∧ ((zB 0 = true → zS 66 = .agg #[.slice Ax.a0 S.B.length Ax.c0, .slice Ax.a1 S.V.length Ax.c1, .slice Ax.a2 S.M.length Ax.c2]) ∧ (zB 1 = true → zS 67 = .agg #[.slice A.a0 S.B.length A.c0, .slice A.a1 S.V.length A.c1, .slice A.a2 S.M.length A.c2]) ∧ (zB 2 = true → zS 68 = .agg #[.slice Aq.a0 S.B.length Aq.c0, .slice Aq.a1 S.V.length Aq.c1, .slice Aq.a2 S.M.length Aq.c2]) ∧ (zB 3 = true → zS 69 = .bool true) ∧ (zB 4 = true → zS 70 = .bool false)) ∧ Below wc1.heap.size wc1 vv14 ∧ ((zB 2) = true → SegAt vv14 Aq S)) (by kernel_rfl) ?_ ?_ ?_
   ·exact ⟨fun _ => false, fun _ => undef, zAd, rfl, by kernel_rfl, ⟨fun e => ft e, fun e => ft e, fun e => ft e, fun e => ft e, fun e => ft e⟩, ⟨(Below.refl _ _).drew, fun e => ft e⟩⟩
   ·refine StepsI.cons rfl ?_ ?_
    ·rintro L zA vv14 ⟨zB, zS, Aq, rfl, rfl, hF, hW⟩ hL hm K hK
     have hb0 : zB 0 = false := by simpa using hL
     clear hL hm
     simp only [pE]
     obtain ⟨k0, k1, k2, _, _, _⟩ := cFS17 _ hW.1
     go_simp
     exact hK.out _ _ ⟨fun zj => if zj = 0 then true else zB zj, fun zd => if zd = 66 then .agg #[.slice Ax.a0 S.B.length Ax.c0, .slice Ax.a1 S.V.length Ax.c1, .slice Ax.a2 S.M.length Ax.c2] else zS zd, Aq, rfl, by kernel_rfl, ⟨fun _ => rfl, hF.2.1, hF.2.2.1, hF.2.2.2.1, hF.2.2.2.2⟩, hW⟩
    refine StepsI.cons rfl ?_ ?_
    ·rintro L zA vv14 ⟨zB, zS, Aq, rfl, rfl, hF, hW⟩ hL hm K hK
     have hb1 : zB 1 = false := by simpa using hL
     clear hL hm
     simp only [pE]
     obtain ⟨k0, k1, k2, _, _, _⟩ := cFS0 _ hW.1
     go_simp
     exact hK.out _ _ ⟨fun zj => if zj = 1 then true else zB zj, fun zd => if zd = 67 then .agg #[.slice A.a0 S.B.length A.c0, .slice A.a1 S.V.length A.c1, .slice A.a2 S.M.length A.c2] else zS zd, Aq, rfl, by kernel_rfl, ⟨hF.1, fun _ => rfl, hF.2.2.1, hF.2.2.2.1, hF.2.2.2.2⟩, hW⟩
    refine StepsI.cons rfl ?_ ?_
    ·rintro L zA vv14 ⟨zB, zS, Aq, rfl, rfl, hF, hW⟩ hL hm K hK
     have hb2 : zB 2 = false := by simpa using hL
     have hb1 : zB 1 = true := mt 1 hm (by kernel_rfl)
     have e1 : zS 67 = .agg #[.slice A.a0 S.B.length A.c0, .slice A.a1 S.V.length A.c1, .slice A.a2 S.M.length A.c2] := hF.2.1 hb1
     clear hL hm
     rw [hb2] at hW
     simp only [pE]
     simp only [e1]
     go_simp
     refine (toSeg_any S A _ HM.out.b HM.out.t HM.out.v HM.out.m (LS.out.below hW.1)).mono ?_
     rintro e vv142 ⟨Aq9, rfl, ho, hb⟩
     go_wp2_with fail
     exact hK.out _ _ ⟨fun zj => if zj = 1 then true else if zj = 2 then true else zB zj, fun zd => if zd = 68 then .agg #[.slice Aq9.a0 S.B.length Aq9.c0, .slice Aq9.a1 S.V.length Aq9.c1, .slice Aq9.a2 S.M.length Aq9.c2] else if zd = 67 then .agg #[.slice A.a0 S.B.length A.c0, .slice A.a1 S.V.length A.c1, .slice A.a2 S.M.length A.c2] else zS zd, Aq9, by simp [hb1], by kernel_rfl, ⟨hF.1, fun _ => rfl, fun _ => rfl, hF.2.2.2.1, hF.2.2.2.2⟩, ⟨below_step hW.1 hb, fun _ => ho.at⟩⟩
    refine StepsI.cons rfl ?_ ?_
    ·rintro L zA vv14 ⟨zB, zS, Aq, rfl, rfl, hF, hW⟩ hL hm K hK
     have hb3 : zB 3 = false := by simpa using hL
     have hb0 : zB 0 = true := mt 0 hm (by kernel_rfl)
     have hb2 : zB 2 = true := mt 2 hm (by kernel_rfl)
     have e0 : zS 66 = .agg #[.slice Ax.a0 S.B.length Ax.c0, .slice Ax.a1 S.V.length Ax.c1, .slice Ax.a2 S.M.length Ax.c2] := hF.1 hb0
     have e2 : zS 68 = .agg #[.slice Aq.a0 S.B.length Aq.c0, .slice Aq.a1 S.V.length Aq.c1, .slice Aq.a2 S.M.length Aq.c2] := hF.2.2.1 hb2
     clear hL hm
     rw [hb2] at hW
     simp only [pE]
     simp only [e0, e2]
     go_simp
     refine (eqSeg_same S Ax Aq _ HM.out (Ox.out.at.below hW.1) (hW.2 (by first | rfl | trivial))).mono ?_
     rintro e vv142 ⟨rfl, hb⟩
     go_wp2_with fail
     exact hK.out _ _ ⟨fun zj => if zj = 2 then true else if zj = 0 then true else if zj = 3 then true else zB zj, fun zd => if zd = 69 then .bool true else if zd = 68 then .agg #[.slice Aq.a0 S.B.length Aq.c0, .slice Aq.a1 S.V.length Aq.c1, .slice Aq.a2 S.M.length Aq.c2] else if zd = 66 then .agg #[.slice Ax.a0 S.B.length Ax.c0, .slice Ax.a1 S.V.length Ax.c1, .slice Ax.a2 S.M.length Ax.c2] else zS zd, Aq, by simp [hb0, hb2], by kernel_rfl, ⟨fun _ => rfl, hF.2.1, fun _ => rfl, fun _ => rfl, hF.2.2.2.2⟩, ⟨below_step hW.1 hb, fun _ => (hW.2 (by first | rfl | trivial)).below hb⟩⟩
    refine StepsI.cons rfl ?_ ?_
    ·rintro L zA vv14 ⟨zB, zS, Aq, rfl, rfl, hF, hW⟩ hL hm K hK
     have hb4 : zB 4 = false := by simpa using hL
     have hb3 : zB 3 = true := mt 3 hm (by kernel_rfl)
     have e3 : zS 69 = .bool true := hF.2.2.2.1 hb3
     clear hL hm
     simp only [pE]
     simp only [e3]
     go_simp
     exact hK.out _ _ ⟨fun zj => if zj = 3 then true else if zj = 4 then true else zB zj, fun zd => if zd = 70 then .bool false else if zd = 69 then .bool true else zS zd, Aq, by simp [hb3], by kernel_rfl, ⟨hF.1, hF.2.1, hF.2.2.1, fun _ => rfl, fun _ => rfl⟩, hW⟩
    exact StepsI.nil (by kernel_rfl)
   ·rintro L zA vv14 ⟨zB, zS, Aq, rfl, rfl, hF, hW⟩ hr
    have hu := all_up (by kernel_rfl) (N := 5) (by kernel_rfl) hr
    have hb0 : zB 0 = true := by simpa using hu 0 (by decide)
    have hb1 : zB 1 = true := by simpa using hu 1 (by decide)
    have hb2 : zB 2 = true := by simpa using hu 2 (by decide)
    have hb3 : zB 3 = true := by simpa using hu 3 (by decide)
    have hb4 : zB 4 = true := by simpa using hu 4 (by decide)
    have e0 : zS 66 = .agg #[.slice Ax.a0 S.B.length Ax.c0, .slice Ax.a1 S.V.length Ax.c1, .slice Ax.a2 S.M.length Ax.c2] := hF.1 hb0
    have e1 : zS 67 = .agg #[.slice A.a0 S.B.length A.c0, .slice A.a1 S.V.length A.c1, .slice A.a2 S.M.length A.c2] := hF.2.1 hb1
    have e2 : zS 68 = .agg #[.slice Aq.a0 S.B.length Aq.c0, .slice Aq.a1 S.V.length Aq.c1, .slice Aq.a2 S.M.length Aq.c2] := hF.2.2.1 hb2
    have e3 : zS 69 = .bool true := hF.2.2.2.1 hb3
    have e4 : zS 70 = .bool false := hF.2.2.2.2 hb4
    rw [hb2] at hW
    clear hu hr hF
    simp only [pE]
    simp only [e0, e1, e2, e3, e4]
    clear e0 e1 e2 e3 e4
    clear hb0 hb1 hb2 hb3 hb4
    clear zB zS
    have hb := hW.1
    have n0 := mkHid (hW.2 (by first | rfl | trivial))
    have BE := mkHid (below_step BE.out hb)
    have BW := mkHid (below_step BW.out hb)
    have SZ10 := mkHid hb.size
    have FS0 := mkHid (FS0.out.below hb)
    have FF0 := mkHid (FF0.out.below hb)
    have FYx := mkHid (FYx.out.below hb)
    have FYy := mkHid (FYy.out.below hb)
    have FR := mkHid (FR.out.below hb)
    have LS := mkHid (LS.out.below hb)
    have LF := mkHid (LF.out.below hb)
    have Ow := mkHid (Ow.out.below hb)
    have Gw := mkHid (Gw.out.below hb)
    have Ox := mkHid (Ox.out.below hb)
    have FS17 := mkHid (FS17.out.below hb)
    have Ofx := mkHid (Ofx.out.below hb)
    have FF18 := mkHid (FF18.out.below hb)
    have Og := mkHid (Og.out.below hb)
    have Gg := mkHid (Gg.out.below hb)
    clear hb hW
    clear cFS0 cFF0 cFYx cFYy cFR cGw cFS17 cFF18 cGg
    clear n0
    have cFS0 : ∀ v', Below vv14.heap.size vv14 v' → G3 v' (X) (.slice A.a0 S.B.length A.c0) (.slice A.a1 S.V.length A.c1) (.slice A.a2 S.M.length A.c2) := fun v' h => FS0.out.below h
    have cFF0 : ∀ v', Below vv14.heap.size vv14 v' → Q.Fc v' (X + 1) z a l.length (c) := fun v' h => FF0.out.below h
    have cFYx : ∀ v', Below vv14.heap.size vv14 v' → Box v' (X + 2) (x.1) (x.2) := fun v' h => FYx.out.below h
    have cFYy : ∀ v', Below vv14.heap.size vv14 v' → Box v' (X + 3) (y.1) (y.2) := fun v' h => FYy.out.below h
    have cFR : ∀ v', Below vv14.heap.size vv14 v' → Box v' (X + 4) (ra) (rb) := fun v' h => FR.out.below h
    have cGw : ∀ v', Below vv14.heap.size vv14 v' → G3 v' (qw) (.slice Aw.a0 Z.B.length Aw.c0) (.slice Aw.a1 Z.V.length Aw.c1) (.slice Aw.a2 Z.M.length Aw.c2) := fun v' h => Gw.out.below h
    have cFS17 : ∀ v', Below vv14.heap.size vv14 v' → G3 v' (X17) (.slice Ax.a0 S.B.length Ax.c0) (.slice Ax.a1 S.V.length Ax.c1) (.slice Ax.a2 S.M.length Ax.c2) := fun v' h => FS17.out.below h
    have cFF18 : ∀ v', Below vv14.heap.size vv14 v' → Q.Fc v' (X18) z (some ⟨gx, 0, none⟩) l.length (l.length) := fun v' h => FF18.out.below h
    have cGg : ∀ v', Below vv14.heap.size vv14 v' → G3 v' (qg) (.slice Ag.a0 Z.B.length Ag.c0) (.slice Ag.a1 Z.V.length Ag.c1) (.slice Ag.a2 Z.M.length Ag.c2) := fun v' h => Gg.out.below h
    go_wp2_with fail
    refine wp_region_inv2 (fun zA0 L zA vv16 => ∃ (zB : Nat → Bool) (zS : Nat → Value) (gq : Nat), L = #[zB 0, zB 1, zB 2, zB 3, zB 4] ∧ zA = puts zA0 [(71, zS 71), (72, zS 72), (73, zS 73), (74, zS 74), (75, zS 75)] ∧ ((zB 0 = true → zS 71 = .agg #[.int .i64 z, .slice (some ⟨gx, 0, none⟩) l.length l.length]) ∧ (zB 1 = true → zS 72 = .agg #[.int .i64 z, .slice a l.length c]) ∧ (zB 2 = true → zS 73 = .agg #[.int .i64 z, .slice (some ⟨gq, 0, none⟩) l.length l.length]) ∧ (zB 3 = true → zS 74 = .bool true) ∧ (zB 4 = true → zS 75 = .bool false)) ∧ Below vv14.heap.size vv14 vv16 ∧ ((zB 2) = true → Q.IntsAt vv16 (some ⟨gq, 0, none⟩) l)) (by kernel_rfl) ?_ ?_ ?_
    ·exact ⟨fun _ => false, fun _ => undef, 0, rfl, by kernel_rfl, ⟨fun e => ft e, fun e => ft e, fun e => ft e, fun e => ft e, fun e => ft e⟩, ⟨(Below.refl _ _).drew, fun e => ft e⟩⟩
    ·refine StepsI.cons rfl ?_ ?_
     ·rintro L zA vv16 ⟨zB, zS, gq, rfl, rfl, hF, hW⟩ hL hm K hK
      have hb0 : zB 0 = false := by simpa using hL
      clear hL hm
      simp only [pE]
      obtain ⟨k0, k1⟩ := cFF18 _ hW.1
      go_simp
      exact hK.out _ _ ⟨fun zj => if zj = 0 then true else zB zj, fun zd => if zd = 71 then .agg #[.int .i64 z, .slice (some ⟨gx, 0, none⟩) l.length l.length] else zS zd, gq, rfl, by kernel_rfl, ⟨fun _ => rfl, hF.2.1, hF.2.2.1, hF.2.2.2.1, hF.2.2.2.2⟩, hW⟩
     refine StepsI.cons rfl ?_ ?_
     ·rintro L zA vv16 ⟨zB, zS, gq, rfl, rfl, hF, hW⟩ hL hm K hK
      have hb1 : zB 1 = false := by simpa using hL
      clear hL hm
      simp only [pE]
      obtain ⟨k0, k1⟩ := cFF0 _ hW.1
      go_simp
      exact hK.out _ _ ⟨fun zj => if zj = 1 then true else zB zj, fun zd => if zd = 72 then .agg #[.int .i64 z, .slice a l.length c] else zS zd, gq, rfl, by kernel_rfl, ⟨hF.1, fun _ => rfl, hF.2.2.1, hF.2.2.2.1, hF.2.2.2.2⟩, hW⟩
     refine StepsI.cons rfl ?_ ?_
     ·rintro L zA vv16 ⟨zB, zS, gq, rfl, rfl, hF, hW⟩ hL hm K hK
      have hb2 : zB 2 = false := by simpa using hL
      have hb1 : zB 1 = true := mt 1 hm (by kernel_rfl)
      have e1 : zS 72 = .agg #[.int .i64 z, .slice a l.length c] := hF.2.1 hb1
      clear hL hm
      rw [hb2] at hW
      simp only [pE]
      simp only [e1]
      go_simp
      refine (Q.toFacts_any z l a c _ HLN.out (LF.out.below hW.1)).mono ?_
      rintro e vv162 ⟨gq9, rfl, ho, hb⟩
      go_wp2_with fail
      exact hK.out _ _ ⟨fun zj => if zj = 1 then true else if zj = 2 then true else zB zj, fun zd => if zd = 73 then .agg #[.int .i64 z, .slice (some ⟨gq9, 0, none⟩) l.length l.length] else if zd = 72 then .agg #[.int .i64 z, .slice a l.length c] else zS zd, gq9, by simp [hb1], by kernel_rfl, ⟨hF.1, fun _ => rfl, fun _ => rfl, hF.2.2.2.1, hF.2.2.2.2⟩, ⟨below_step hW.1 hb, fun _ => ho.at⟩⟩
     refine StepsI.cons rfl ?_ ?_
     ·rintro L zA vv16 ⟨zB, zS, gq, rfl, rfl, hF, hW⟩ hL hm K hK
      have hb3 : zB 3 = false := by simpa using hL
      have hb0 : zB 0 = true := mt 0 hm (by kernel_rfl)
      have hb2 : zB 2 = true := mt 2 hm (by kernel_rfl)
      have e0 : zS 71 = .agg #[.int .i64 z, .slice (some ⟨gx, 0, none⟩) l.length l.length] := hF.1 hb0
      have e2 : zS 73 = .agg #[.int .i64 z, .slice (some ⟨gq, 0, none⟩) l.length l.length] := hF.2.2.1 hb2
      clear hL hm
      rw [hb2] at hW
      simp only [pE]
      simp only [e0, e2]
      go_simp
      refine (Q.eqFacts_ok z l (some ⟨gx, 0, none⟩) (some ⟨gq, 0, none⟩) l.length l.length _ HN.out (Ofx.out.at.below hW.1) (hW.2 (by first | rfl | trivial))).mono ?_
      rintro e vv162 ⟨rfl, hb⟩
      go_wp2_with fail
      exact hK.out _ _ ⟨fun zj => if zj = 2 then true else if zj = 0 then true else if zj = 3 then true else zB zj, fun zd => if zd = 74 then .bool true else if zd = 73 then .agg #[.int .i64 z, .slice (some ⟨gq, 0, none⟩) l.length l.length] else if zd = 71 then .agg #[.int .i64 z, .slice (some ⟨gx, 0, none⟩) l.length l.length] else zS zd, gq, by simp [hb0, hb2], by kernel_rfl, ⟨fun _ => rfl, hF.2.1, fun _ => rfl, fun _ => rfl, hF.2.2.2.2⟩, ⟨below_step hW.1 hb, fun _ => (hW.2 (by first | rfl | trivial)).below hb⟩⟩
     refine StepsI.cons rfl ?_ ?_
     ·rintro L zA vv16 ⟨zB, zS, gq, rfl, rfl, hF, hW⟩ hL hm K hK
      have hb4 : zB 4 = false := by simpa using hL
      have hb3 : zB 3 = true := mt 3 hm (by kernel_rfl)
      have e3 : zS 74 = .bool true := hF.2.2.2.1 hb3
      clear hL hm
      simp only [pE]
      simp only [e3]
      go_simp
      exact hK.out _ _ ⟨fun zj => if zj = 3 then true else if zj = 4 then true else zB zj, fun zd => if zd = 75 then .bool false else if zd = 74 then .bool true else zS zd, gq, by simp [hb3], by kernel_rfl, ⟨hF.1, hF.2.1, hF.2.2.1, fun _ => rfl, fun _ => rfl⟩, hW⟩
     exact StepsI.nil (by kernel_rfl)
    ·rintro L zA vv16 ⟨zB, zS, gq, rfl, rfl, hF, hW⟩ hr
     have hu := all_up (by kernel_rfl) (N := 5) (by kernel_rfl) hr
     have hb0 : zB 0 = true := by simpa using hu 0 (by decide)
     have hb1 : zB 1 = true := by simpa using hu 1 (by decide)
     have hb2 : zB 2 = true := by simpa using hu 2 (by decide)
     have hb3 : zB 3 = true := by simpa using hu 3 (by decide)
     have hb4 : zB 4 = true := by simpa using hu 4 (by decide)
     have e0 : zS 71 = .agg #[.int .i64 z, .slice (some ⟨gx, 0, none⟩) l.length l.length] := hF.1 hb0
     have e1 : zS 72 = .agg #[.int .i64 z, .slice a l.length c] := hF.2.1 hb1
     have e2 : zS 73 = .agg #[.int .i64 z, .slice (some ⟨gq, 0, none⟩) l.length l.length] := hF.2.2.1 hb2
     have e3 : zS 74 = .bool true := hF.2.2.2.1 hb3
     have e4 : zS 75 = .bool false := hF.2.2.2.2 hb4
     rw [hb2] at hW
     clear hu hr hF
     simp only [pE]
     simp only [e0, e1, e2, e3, e4]
     clear e0 e1 e2 e3 e4
     clear hb0 hb1 hb2 hb3 hb4
     clear zB zS
     have hb := hW.1
     have n0 := mkHid (hW.2 (by first | rfl | trivial))
     have BE := mkHid (below_step BE.out hb)
     have BW := mkHid (below_step BW.out hb)
     have SZ11 := mkHid hb.size
     have FS0 := mkHid (FS0.out.below hb)
     have FF0 := mkHid (FF0.out.below hb)
     have FYx := mkHid (FYx.out.below hb)
     have FYy := mkHid (FYy.out.below hb)
     have FR := mkHid (FR.out.below hb)
     have LS := mkHid (LS.out.below hb)
     have LF := mkHid (LF.out.below hb)
     have Ow := mkHid (Ow.out.below hb)
     have Gw := mkHid (Gw.out.below hb)
     have Ox := mkHid (Ox.out.below hb)
     have FS17 := mkHid (FS17.out.below hb)
     have Ofx := mkHid (Ofx.out.below hb)
     have FF18 := mkHid (FF18.out.below hb)
     have Og := mkHid (Og.out.below hb)
     have Gg := mkHid (Gg.out.below hb)
     clear hb hW
     clear cFS0 cFF0 cFYx cFYy cFR cGw cFS17 cFF18 cGg
     clear n0
     obtain ⟨k0, k1, k2, _, _, _⟩ := FS17.out
     go_wp2_with fail
     refine (markSeg_ok S Ax lx hx 1 _ HM.out (by omega) (by omega) (by have := SZ0.out; have := SZ1.out; have := SZ2.out; have := SZ3.out; have := Swa.out; have := Swb.out; have := Swc.out; have := Swd.out; have := SZ4.out; have := Qlx.out; have := Qhx.out; have := SZ5.out; have := QX17.out; have := SX17.out; have := SZ6.out; have := Qg1.out; have := Qg2.out; have := SZ7.out; have := QX18.out; have := SX18.out; have := SZ8.out; have := Sga.out; have := Sgb.out; have := Sgc.out; have := Sgd.out; have := SZ9.out; have := SZ10.out; have := SZ11.out; omega) Ox.out).mono ?_
     rintro e wm1 ⟨rfl, og, ho⟩
     have SZ12 := mkHid ho.size
     have BW := mkHid (Outs.below BW.out ho (by have := SZ0.out; have := SZ1.out; have := SZ2.out; have := SZ3.out; have := Swa.out; have := Swb.out; have := Swc.out; have := Swd.out; have := SZ4.out; have := Qlx.out; have := Qhx.out; have := SZ5.out; have := QX17.out; have := SX17.out; have := SZ6.out; have := Qg1.out; have := Qg2.out; have := SZ7.out; have := QX18.out; have := SX18.out; have := SZ8.out; have := Sga.out; have := Sgb.out; have := Sgc.out; have := Sgd.out; have := SZ9.out; have := SZ10.out; have := SZ11.out; omega) (Nat.le_refl _))
     have BE := mkHid (Outs.below BE.out ho (by have := SZ0.out; have := SZ1.out; have := SZ2.out; have := SZ3.out; have := Swa.out; have := Swb.out; have := Swc.out; have := Swd.out; have := SZ4.out; have := Qlx.out; have := Qhx.out; have := SZ5.out; have := QX17.out; have := SX17.out; have := SZ6.out; have := Qg1.out; have := Qg2.out; have := SZ7.out; have := QX18.out; have := SX18.out; have := SZ8.out; have := Sga.out; have := Sgb.out; have := Sgc.out; have := Sgd.out; have := SZ9.out; have := SZ10.out; have := SZ11.out; omega) (Nat.le_refl _))
     have FS0 := mkHid (KFS0.out.below BW.out)
     have FF0 := mkHid (KFF0.out.below BW.out)
     have FYx := mkHid (KFYx.out.below BW.out)
     have FYy := mkHid (KFYy.out.below BW.out)
     have FR := mkHid (KFR.out.below BW.out)
     have LS := mkHid (KLS.out.below BW.out)
     have LF := mkHid (KLF.out.below BW.out)
     have Ow := mkHid (Ow.out.outs ho (.inl (by have := SZ0.out; have := SZ1.out; have := SZ2.out; have := SZ3.out; have := Swa.out; have := Swb.out; have := Swc.out; have := Swd.out; have := SZ4.out; have := Qlx.out; have := Qhx.out; have := SZ5.out; have := QX17.out; have := SX17.out; have := SZ6.out; have := Qg1.out; have := Qg2.out; have := SZ7.out; have := QX18.out; have := SX18.out; have := SZ8.out; have := Sga.out; have := Sgb.out; have := Sgc.out; have := Sgd.out; have := SZ9.out; have := SZ10.out; have := SZ11.out; have := SZ12.out; omega)))
     have Gw := mkHid (Gw.out.outs ho (.inl (by have := SZ0.out; have := SZ1.out; have := SZ2.out; have := SZ3.out; have := Swa.out; have := Swb.out; have := Swc.out; have := Swd.out; have := SZ4.out; have := Qlx.out; have := Qhx.out; have := SZ5.out; have := QX17.out; have := SX17.out; have := SZ6.out; have := Qg1.out; have := Qg2.out; have := SZ7.out; have := QX18.out; have := SX18.out; have := SZ8.out; have := Sga.out; have := Sgb.out; have := Sgc.out; have := Sgd.out; have := SZ9.out; have := SZ10.out; have := SZ11.out; have := SZ12.out; omega)))
     have Ox := mkHid og
     have FS17 := mkHid (FS17.out.outs ho (.inr (by have := SZ0.out; have := SZ1.out; have := SZ2.out; have := SZ3.out; have := Swa.out; have := Swb.out; have := Swc.out; have := Swd.out; have := SZ4.out; have := Qlx.out; have := Qhx.out; have := SZ5.out; have := QX17.out; have := SX17.out; have := SZ6.out; have := Qg1.out; have := Qg2.out; have := SZ7.out; have := QX18.out; have := SX18.out; have := SZ8.out; have := Sga.out; have := Sgb.out; have := Sgc.out; have := Sgd.out; have := SZ9.out; have := SZ10.out; have := SZ11.out; have := SZ12.out; omega)))
     have Ofx := mkHid (owns_outs Ofx.out ho (fun q e => by cases e; exact .inr (show hx ≤ gx from (by have := SZ0.out; have := SZ1.out; have := SZ2.out; have := SZ3.out; have := Swa.out; have := Swb.out; have := Swc.out; have := Swd.out; have := SZ4.out; have := Qlx.out; have := Qhx.out; have := SZ5.out; have := QX17.out; have := SX17.out; have := SZ6.out; have := Qg1.out; have := Qg2.out; have := SZ7.out; have := QX18.out; have := SX18.out; have := SZ8.out; have := Sga.out; have := Sgb.out; have := Sgc.out; have := Sgd.out; have := SZ9.out; have := SZ10.out; have := SZ11.out; have := SZ12.out; omega))))
     have FF18 := mkHid (fc_outs FF18.out ho (.inr (by have := SZ0.out; have := SZ1.out; have := SZ2.out; have := SZ3.out; have := Swa.out; have := Swb.out; have := Swc.out; have := Swd.out; have := SZ4.out; have := Qlx.out; have := Qhx.out; have := SZ5.out; have := QX17.out; have := SX17.out; have := SZ6.out; have := Qg1.out; have := Qg2.out; have := SZ7.out; have := QX18.out; have := SX18.out; have := SZ8.out; have := Sga.out; have := Sgb.out; have := Sgc.out; have := Sgd.out; have := SZ9.out; have := SZ10.out; have := SZ11.out; have := SZ12.out; omega)))
     have Og := mkHid (Og.out.outs ho (.inr (by have := SZ0.out; have := SZ1.out; have := SZ2.out; have := SZ3.out; have := Swa.out; have := Swb.out; have := Swc.out; have := Swd.out; have := SZ4.out; have := Qlx.out; have := Qhx.out; have := SZ5.out; have := QX17.out; have := SX17.out; have := SZ6.out; have := Qg1.out; have := Qg2.out; have := SZ7.out; have := QX18.out; have := SX18.out; have := SZ8.out; have := Sga.out; have := Sgb.out; have := Sgc.out; have := Sgd.out; have := SZ9.out; have := SZ10.out; have := SZ11.out; have := SZ12.out; omega)))
     have Gg := mkHid (Gg.out.outs ho (.inr (by have := SZ0.out; have := SZ1.out; have := SZ2.out; have := SZ3.out; have := Swa.out; have := Swb.out; have := Swc.out; have := Swd.out; have := SZ4.out; have := Qlx.out; have := Qhx.out; have := SZ5.out; have := QX17.out; have := SX17.out; have := SZ6.out; have := Qg1.out; have := Qg2.out; have := SZ7.out; have := QX18.out; have := SX18.out; have := SZ8.out; have := Sga.out; have := Sgb.out; have := Sgc.out; have := Sgd.out; have := SZ9.out; have := SZ10.out; have := SZ11.out; have := SZ12.out; omega)))
     clear ho og
     clear k0 k1 k2
     obtain ⟨m1, hm1⟩ : ∃ m, 1 + cntS S = m := ⟨_, rfl⟩
     have hm1a : 1 ≤ m1 ∧ m1 ≤ 6291457 := by have := cntS_nonneg S; have := HM.out.cnt; omega
     rw [hm1]
     clear hm1
     obtain ⟨k0, k1⟩ := FF18.out
     go_wp2_with fail
     refine (Q.markFacts_ok z l (some ⟨gx, 0, none⟩) l.length w3.heap.size m1 _ (by have := HLN.out; omega) (by omega) (by omega) Ofx.out).mono ?_
     rintro e wm2 ⟨rfl, og, hg⟩
     have ho : Outs gx (gx + 1) wm1 wm2 := (Outs.refl gx (gx + 1) wm1).grown hg (fun q e => by cases e; exact ⟨Nat.le_refl _, Nat.lt_succ_self _⟩)
     have SZ13 := mkHid ho.size
     have BW := mkHid (Outs.below BW.out ho (by have := SZ0.out; have := SZ1.out; have := SZ2.out; have := SZ3.out; have := Swa.out; have := Swb.out; have := Swc.out; have := Swd.out; have := SZ4.out; have := Qlx.out; have := Qhx.out; have := SZ5.out; have := QX17.out; have := SX17.out; have := SZ6.out; have := Qg1.out; have := Qg2.out; have := SZ7.out; have := QX18.out; have := SX18.out; have := SZ8.out; have := Sga.out; have := Sgb.out; have := Sgc.out; have := Sgd.out; have := SZ9.out; have := SZ10.out; have := SZ11.out; have := SZ12.out; omega) (Nat.le_refl _))
     have BE := mkHid (Outs.below BE.out ho (by have := SZ0.out; have := SZ1.out; have := SZ2.out; have := SZ3.out; have := Swa.out; have := Swb.out; have := Swc.out; have := Swd.out; have := SZ4.out; have := Qlx.out; have := Qhx.out; have := SZ5.out; have := QX17.out; have := SX17.out; have := SZ6.out; have := Qg1.out; have := Qg2.out; have := SZ7.out; have := QX18.out; have := SX18.out; have := SZ8.out; have := Sga.out; have := Sgb.out; have := Sgc.out; have := Sgd.out; have := SZ9.out; have := SZ10.out; have := SZ11.out; have := SZ12.out; omega) (Nat.le_refl _))
     have FS0 := mkHid (KFS0.out.below BW.out)
     have FF0 := mkHid (KFF0.out.below BW.out)
     have FYx := mkHid (KFYx.out.below BW.out)
     have FYy := mkHid (KFYy.out.below BW.out)
     have FR := mkHid (KFR.out.below BW.out)
     have LS := mkHid (KLS.out.below BW.out)
     have LF := mkHid (KLF.out.below BW.out)
     have Ow := mkHid (Ow.out.outs ho (.inl (by have := SZ0.out; have := SZ1.out; have := SZ2.out; have := SZ3.out; have := Swa.out; have := Swb.out; have := Swc.out; have := Swd.out; have := SZ4.out; have := Qlx.out; have := Qhx.out; have := SZ5.out; have := QX17.out; have := SX17.out; have := SZ6.out; have := Qg1.out; have := Qg2.out; have := SZ7.out; have := QX18.out; have := SX18.out; have := SZ8.out; have := Sga.out; have := Sgb.out; have := Sgc.out; have := Sgd.out; have := SZ9.out; have := SZ10.out; have := SZ11.out; have := SZ12.out; have := SZ13.out; omega)))
     have Gw := mkHid (Gw.out.outs ho (.inl (by have := SZ0.out; have := SZ1.out; have := SZ2.out; have := SZ3.out; have := Swa.out; have := Swb.out; have := Swc.out; have := Swd.out; have := SZ4.out; have := Qlx.out; have := Qhx.out; have := SZ5.out; have := QX17.out; have := SX17.out; have := SZ6.out; have := Qg1.out; have := Qg2.out; have := SZ7.out; have := QX18.out; have := SX18.out; have := SZ8.out; have := Sga.out; have := Sgb.out; have := Sgc.out; have := Sgd.out; have := SZ9.out; have := SZ10.out; have := SZ11.out; have := SZ12.out; have := SZ13.out; omega)))
     have Ox := mkHid (Ox.out.outs ho (.inl (by have := SZ0.out; have := SZ1.out; have := SZ2.out; have := SZ3.out; have := Swa.out; have := Swb.out; have := Swc.out; have := Swd.out; have := SZ4.out; have := Qlx.out; have := Qhx.out; have := SZ5.out; have := QX17.out; have := SX17.out; have := SZ6.out; have := Qg1.out; have := Qg2.out; have := SZ7.out; have := QX18.out; have := SX18.out; have := SZ8.out; have := Sga.out; have := Sgb.out; have := Sgc.out; have := Sgd.out; have := SZ9.out; have := SZ10.out; have := SZ11.out; have := SZ12.out; have := SZ13.out; omega)))
     have FS17 := mkHid (FS17.out.outs ho (.inl (by have := SZ0.out; have := SZ1.out; have := SZ2.out; have := SZ3.out; have := Swa.out; have := Swb.out; have := Swc.out; have := Swd.out; have := SZ4.out; have := Qlx.out; have := Qhx.out; have := SZ5.out; have := QX17.out; have := SX17.out; have := SZ6.out; have := Qg1.out; have := Qg2.out; have := SZ7.out; have := QX18.out; have := SX18.out; have := SZ8.out; have := Sga.out; have := Sgb.out; have := Sgc.out; have := Sgd.out; have := SZ9.out; have := SZ10.out; have := SZ11.out; have := SZ12.out; have := SZ13.out; omega)))
     have Ofx := mkHid og
     have FF18 := mkHid (fc_outs FF18.out ho (.inr (by have := SZ0.out; have := SZ1.out; have := SZ2.out; have := SZ3.out; have := Swa.out; have := Swb.out; have := Swc.out; have := Swd.out; have := SZ4.out; have := Qlx.out; have := Qhx.out; have := SZ5.out; have := QX17.out; have := SX17.out; have := SZ6.out; have := Qg1.out; have := Qg2.out; have := SZ7.out; have := QX18.out; have := SX18.out; have := SZ8.out; have := Sga.out; have := Sgb.out; have := Sgc.out; have := Sgd.out; have := SZ9.out; have := SZ10.out; have := SZ11.out; have := SZ12.out; have := SZ13.out; omega)))
     have Og := mkHid (Og.out.outs ho (.inr (by have := SZ0.out; have := SZ1.out; have := SZ2.out; have := SZ3.out; have := Swa.out; have := Swb.out; have := Swc.out; have := Swd.out; have := SZ4.out; have := Qlx.out; have := Qhx.out; have := SZ5.out; have := QX17.out; have := SX17.out; have := SZ6.out; have := Qg1.out; have := Qg2.out; have := SZ7.out; have := QX18.out; have := SX18.out; have := SZ8.out; have := Sga.out; have := Sgb.out; have := Sgc.out; have := Sgd.out; have := SZ9.out; have := SZ10.out; have := SZ11.out; have := SZ12.out; have := SZ13.out; omega)))
     have Gg := mkHid (Gg.out.outs ho (.inr (by have := SZ0.out; have := SZ1.out; have := SZ2.out; have := SZ3.out; have := Swa.out; have := Swb.out; have := Swc.out; have := Swd.out; have := SZ4.out; have := Qlx.out; have := Qhx.out; have := SZ5.out; have := QX17.out; have := SX17.out; have := SZ6.out; have := Qg1.out; have := Qg2.out; have := SZ7.out; have := QX18.out; have := SX18.out; have := SZ8.out; have := Sga.out; have := Sgb.out; have := Sgc.out; have := Sgd.out; have := SZ9.out; have := SZ10.out; have := SZ11.out; have := SZ12.out; have := SZ13.out; omega)))
     clear ho og
     clear k0 k1 hg
     obtain ⟨m2, hm2⟩ : ∃ m, m1 + (l.length : Int) = m := ⟨_, rfl⟩
     have hm2a : ¬ m2 < 0 := by omega
     rw [hm2]
     clear hm2
     obtain ⟨k0, k1, k2, _, _, _⟩ := Gg.out
     obtain ⟨j0, j1, j2, _, _, _⟩ := Gw.out
     go_wp2_with fail
     refine (eqSeg_same Z Ag Aw _ HSZ.out Og.out.at Ow.out.at).mono ?_
     rintro e wc2 ⟨rfl, hb⟩
     have BE := mkHid (below_step BE.out hb)
     have BW := mkHid (below_step BW.out hb)
     have SZ14 := mkHid hb.size
     have FS0 := mkHid (FS0.out.below hb)
     have FF0 := mkHid (FF0.out.below hb)
     have FYx := mkHid (FYx.out.below hb)
     have FYy := mkHid (FYy.out.below hb)
     have FR := mkHid (FR.out.below hb)
     have LS := mkHid (LS.out.below hb)
     have LF := mkHid (LF.out.below hb)
     have Ow := mkHid (Ow.out.below hb)
     have Gw := mkHid (Gw.out.below hb)
     have Ox := mkHid (Ox.out.below hb)
     have FS17 := mkHid (FS17.out.below hb)
     have Ofx := mkHid (Ofx.out.below hb)
     have FF18 := mkHid (FF18.out.below hb)
     have Og := mkHid (Og.out.below hb)
     have Gg := mkHid (Gg.out.below hb)
     clear hb k0 k1 k2 j0 j1 j2
     clear Ox
     clear FS17
     clear Ofx
     clear FF18
     obtain ⟨k0, k1, k2, _, _, _⟩ := Gg.out
     go_wp2_with fail
     refine (markSeg_ok Z Ag lg hg 1 _ HSZ.out (by omega) (by omega) (by have := SZ0.out; have := SZ1.out; have := SZ2.out; have := SZ3.out; have := Swa.out; have := Swb.out; have := Swc.out; have := Swd.out; have := SZ4.out; have := Qlx.out; have := Qhx.out; have := SZ5.out; have := QX17.out; have := SX17.out; have := SZ6.out; have := Qg1.out; have := Qg2.out; have := SZ7.out; have := QX18.out; have := SX18.out; have := SZ8.out; have := Sga.out; have := Sgb.out; have := Sgc.out; have := Sgd.out; have := SZ9.out; have := SZ10.out; have := SZ11.out; have := SZ12.out; have := SZ13.out; have := SZ14.out; omega) Og.out).mono ?_
     rintro e wm3 ⟨rfl, og, ho⟩
     have SZ15 := mkHid ho.size
     have BW := mkHid (Outs.below BW.out ho (by have := SZ0.out; have := SZ1.out; have := SZ2.out; have := SZ3.out; have := Swa.out; have := Swb.out; have := Swc.out; have := Swd.out; have := SZ4.out; have := Qlx.out; have := Qhx.out; have := SZ5.out; have := QX17.out; have := SX17.out; have := SZ6.out; have := Qg1.out; have := Qg2.out; have := SZ7.out; have := QX18.out; have := SX18.out; have := SZ8.out; have := Sga.out; have := Sgb.out; have := Sgc.out; have := Sgd.out; have := SZ9.out; have := SZ10.out; have := SZ11.out; have := SZ12.out; have := SZ13.out; have := SZ14.out; omega) (Nat.le_refl _))
     have BE := mkHid (Outs.below BE.out ho (by have := SZ0.out; have := SZ1.out; have := SZ2.out; have := SZ3.out; have := Swa.out; have := Swb.out; have := Swc.out; have := Swd.out; have := SZ4.out; have := Qlx.out; have := Qhx.out; have := SZ5.out; have := QX17.out; have := SX17.out; have := SZ6.out; have := Qg1.out; have := Qg2.out; have := SZ7.out; have := QX18.out; have := SX18.out; have := SZ8.out; have := Sga.out; have := Sgb.out; have := Sgc.out; have := Sgd.out; have := SZ9.out; have := SZ10.out; have := SZ11.out; have := SZ12.out; have := SZ13.out; have := SZ14.out; omega) (Nat.le_refl _))
     have FS0 := mkHid (KFS0.out.below BW.out)
     have FF0 := mkHid (KFF0.out.below BW.out)
     have FYx := mkHid (KFYx.out.below BW.out)
     have FYy := mkHid (KFYy.out.below BW.out)
     have FR := mkHid (KFR.out.below BW.out)
     have LS := mkHid (KLS.out.below BW.out)
     have LF := mkHid (KLF.out.below BW.out)
     have Ow := mkHid (Ow.out.outs ho (.inl (by have := SZ0.out; have := SZ1.out; have := SZ2.out; have := SZ3.out; have := Swa.out; have := Swb.out; have := Swc.out; have := Swd.out; have := SZ4.out; have := Qlx.out; have := Qhx.out; have := SZ5.out; have := QX17.out; have := SX17.out; have := SZ6.out; have := Qg1.out; have := Qg2.out; have := SZ7.out; have := QX18.out; have := SX18.out; have := SZ8.out; have := Sga.out; have := Sgb.out; have := Sgc.out; have := Sgd.out; have := SZ9.out; have := SZ10.out; have := SZ11.out; have := SZ12.out; have := SZ13.out; have := SZ14.out; have := SZ15.out; omega)))
     have Gw := mkHid (Gw.out.outs ho (.inl (by have := SZ0.out; have := SZ1.out; have := SZ2.out; have := SZ3.out; have := Swa.out; have := Swb.out; have := Swc.out; have := Swd.out; have := SZ4.out; have := Qlx.out; have := Qhx.out; have := SZ5.out; have := QX17.out; have := SX17.out; have := SZ6.out; have := Qg1.out; have := Qg2.out; have := SZ7.out; have := QX18.out; have := SX18.out; have := SZ8.out; have := Sga.out; have := Sgb.out; have := Sgc.out; have := Sgd.out; have := SZ9.out; have := SZ10.out; have := SZ11.out; have := SZ12.out; have := SZ13.out; have := SZ14.out; have := SZ15.out; omega)))
     have Og := mkHid og
     have Gg := mkHid (Gg.out.outs ho Rg.out)
     clear ho og
     clear k0 k1 k2
     obtain ⟨m, hm⟩ : ∃ m, 1 + cntS Z = m := ⟨_, rfl⟩
     have hm0 : ¬ m < 0 := by have := cntS_nonneg Z; omega
     have hmm : (m != m) = false := by simp
     have HMm := mkHid hm
     rw [hm]
     clear hm
     obtain ⟨k0, k1, k2, _, _, _⟩ := Gg.out
     go_wp2_with fail
     refine (heldSeg_ok Z Ag 1 _ HSZ.out (by omega) (by omega) Og.out.at).mono ?_
     rintro e wh1 ⟨rfl, hb⟩
     have BE := mkHid (below_step BE.out hb)
     have BW := mkHid (below_step BW.out hb)
     have SZ16 := mkHid hb.size
     have FS0 := mkHid (FS0.out.below hb)
     have FF0 := mkHid (FF0.out.below hb)
     have FYx := mkHid (FYx.out.below hb)
     have FYy := mkHid (FYy.out.below hb)
     have FR := mkHid (FR.out.below hb)
     have LS := mkHid (LS.out.below hb)
     have LF := mkHid (LF.out.below hb)
     have Ow := mkHid (Ow.out.below hb)
     have Gw := mkHid (Gw.out.below hb)
     have Og := mkHid (Og.out.below hb)
     have Gg := mkHid (Gg.out.below hb)
     clear hb k0 k1 k2
     rw [HMm.out]
     have cFS0 : ∀ v', Below wh1.heap.size wh1 v' → G3 v' (X) (.slice A.a0 S.B.length A.c0) (.slice A.a1 S.V.length A.c1) (.slice A.a2 S.M.length A.c2) := fun v' h => FS0.out.below h
     have cFF0 : ∀ v', Below wh1.heap.size wh1 v' → Q.Fc v' (X + 1) z a l.length (c) := fun v' h => FF0.out.below h
     have cFYx : ∀ v', Below wh1.heap.size wh1 v' → Box v' (X + 2) (x.1) (x.2) := fun v' h => FYx.out.below h
     have cFYy : ∀ v', Below wh1.heap.size wh1 v' → Box v' (X + 3) (y.1) (y.2) := fun v' h => FYy.out.below h
     have cFR : ∀ v', Below wh1.heap.size wh1 v' → Box v' (X + 4) (ra) (rb) := fun v' h => FR.out.below h
     have cGw : ∀ v', Below wh1.heap.size wh1 v' → G3 v' (qw) (.slice Aw.a0 Z.B.length Aw.c0) (.slice Aw.a1 Z.V.length Aw.c1) (.slice Aw.a2 Z.M.length Aw.c2) := fun v' h => Gw.out.below h
     have cGg : ∀ v', Below wh1.heap.size wh1 v' → G3 v' (qg) (.slice Ag.a0 Z.B.length Ag.c0) (.slice Ag.a1 Z.V.length Ag.c1) (.slice Ag.a2 Z.M.length Ag.c2) := fun v' h => Gg.out.below h
     go_wp2_with fail
     refine wp_region_inv2 (fun zA0 L zA vv31 => ∃ (zB : Nat → Bool) (zS : Nat → Value) (Aq : SAd) (gq : Nat) (Ah : SAd) (lh : Nat) (hh : Nat) (qh : Nat), L = #[zB 0, zB 1, zB 2, zB 3, zB 4, zB 5, zB 6, zB 7, zB 8, zB 9, zB 10, zB 11, zB 12, zB 13, zB 14] ∧ zA = puts zA0 [(101, zS 101), (102, zS 102), (103, zS 103), (104, zS 104), (105, zS 105), (106, zS 106), (107, zS 107), (108, zS 108), (109, zS 109), (110, zS 110), (111, zS 111), (112, zS 112), (113, zS 113), (23, zS 23)] ∧ ((zB 0 = true → zS 101 = .int .i64 size) ∧ (zB 1 = true → zS 102 = .int .i64 lv) ∧ (zB 2 = true → zS 103 = .agg #[.slice A.a0 S.B.length A.c0, .slice A.a1 S.V.length A.c1, .slice A.a2 S.M.length A.c2]) ∧ (zB 3 = true → zS 104 = .agg #[.slice Aq.a0 S.B.length Aq.c0, .slice Aq.a1 S.V.length Aq.c1, .slice Aq.a2 S.M.length Aq.c2]) ∧ (zB 4 = true → zS 105 = .agg #[.int .i64 z, .slice a l.length c]) ∧ (zB 5 = true → zS 106 = .agg #[.int .i64 z, .slice (some ⟨gq, 0, none⟩) l.length l.length]) ∧ (zB 6 = true → zS 107 = .agg #[.int .i64 x.1, .int .i64 x.2]) ∧ (zB 7 = true → zS 108 = .agg #[.int .i64 x.1, .int .i64 x.2]) ∧ (zB 8 = true → zS 109 = .agg #[.int .i64 y.1, .int .i64 y.2]) ∧ (zB 9 = true → zS 110 = .agg #[.int .i64 y.1, .int .i64 y.2]) ∧ (zB 10 = true → zS 111 = .agg #[.int .i64 ra, .int .i64 rb]) ∧ (zB 11 = true → zS 112 = .agg #[.int .i64 ra, .int .i64 rb]) ∧ (zB 12 = true → zS 113 = .agg #[.slice Ah.a0 Z.B.length Ah.c0, .slice Ah.a1 Z.V.length Ah.c1, .slice Ah.a2 Z.M.length Ah.c2]) ∧ (zB 13 = true → zS 23 = .pointer (some ⟨qh, 0, none⟩))) ∧ Below wh1.heap.size wh1 vv31 ∧ ((zB 3) = true → (zB 12) = false → SegAt vv31 Aq S) ∧ ((zB 5) = true → (zB 12) = false → Q.IntsAt vv31 (some ⟨gq, 0, none⟩) l) ∧ ((zB 12) = true → OwnS vv31 lh hh Ah Z ∧ wh1.heap.size ≤ lh ∧ hh ≤ vv31.heap.size) ∧ ((zB 13) = true → wh1.heap.size ≤ qh ∧ qh < vv31.heap.size) ∧ ((zB 13) = true → (zB 14) = false → G3 vv31 qh (.slice none 0 0) (.slice none 0 0) (.slice none 0 0)) ∧ ((zB 12) = true → (zB 13) = true → qh < lh ∨ hh ≤ qh) ∧ ((zB 14) = true → (zB 13) = true ∧ (zB 12) = true ∧ G3 vv31 qh (.slice Ah.a0 Z.B.length Ah.c0) (.slice Ah.a1 Z.V.length Ah.c1) (.slice Ah.a2 Z.M.length Ah.c2))) (by kernel_rfl) ?_ ?_ ?_
     ·exact ⟨fun _ => false, fun _ => undef, zAd, 0, zAd, 0, 0, 0, rfl, by kernel_rfl, ⟨fun e => ft e, fun e => ft e, fun e => ft e, fun e => ft e, fun e => ft e, fun e => ft e, fun e => ft e, fun e => ft e, fun e => ft e, fun e => ft e, fun e => ft e, fun e => ft e, fun e => ft e, fun e => ft e⟩, ⟨(Below.refl _ _).drew, fun e => ft e, fun e => ft e, fun e => ft e, fun e => ft e, fun e => ft e, fun e => ft e, fun e => ft e⟩⟩
     ·refine StepsI.cons rfl ?_ ?_
      ·rintro L zA vv31 ⟨zB, zS, Aq, gq, Ah, lh, hh, qh, rfl, rfl, hF, hW⟩ hL hm K hK
       have hb0 : zB 0 = false := by simpa using hL
       clear hL hm
       simp only [pE]
       go_simp
       exact hK.out _ _ ⟨fun zj => if zj = 0 then true else zB zj, fun zd => if zd = 101 then .int .i64 size else zS zd, Aq, gq, Ah, lh, hh, qh, rfl, by kernel_rfl, ⟨fun _ => rfl, hF.2.1, hF.2.2.1, hF.2.2.2.1, hF.2.2.2.2.1, hF.2.2.2.2.2.1, hF.2.2.2.2.2.2.1, hF.2.2.2.2.2.2.2.1, hF.2.2.2.2.2.2.2.2.1, hF.2.2.2.2.2.2.2.2.2.1, hF.2.2.2.2.2.2.2.2.2.2.1, hF.2.2.2.2.2.2.2.2.2.2.2.1, hF.2.2.2.2.2.2.2.2.2.2.2.2.1, hF.2.2.2.2.2.2.2.2.2.2.2.2.2⟩, hW⟩
      refine StepsI.cons rfl ?_ ?_
      ·rintro L zA vv31 ⟨zB, zS, Aq, gq, Ah, lh, hh, qh, rfl, rfl, hF, hW⟩ hL hm K hK
       have hb1 : zB 1 = false := by simpa using hL
       clear hL hm
       simp only [pE]
       go_simp
       exact hK.out _ _ ⟨fun zj => if zj = 1 then true else zB zj, fun zd => if zd = 102 then .int .i64 lv else zS zd, Aq, gq, Ah, lh, hh, qh, rfl, by kernel_rfl, ⟨hF.1, fun _ => rfl, hF.2.2.1, hF.2.2.2.1, hF.2.2.2.2.1, hF.2.2.2.2.2.1, hF.2.2.2.2.2.2.1, hF.2.2.2.2.2.2.2.1, hF.2.2.2.2.2.2.2.2.1, hF.2.2.2.2.2.2.2.2.2.1, hF.2.2.2.2.2.2.2.2.2.2.1, hF.2.2.2.2.2.2.2.2.2.2.2.1, hF.2.2.2.2.2.2.2.2.2.2.2.2.1, hF.2.2.2.2.2.2.2.2.2.2.2.2.2⟩, hW⟩
      refine StepsI.cons rfl ?_ ?_
      ·rintro L zA vv31 ⟨zB, zS, Aq, gq, Ah, lh, hh, qh, rfl, rfl, hF, hW⟩ hL hm K hK
       have hb2 : zB 2 = false := by simpa using hL
       clear hL hm
       simp only [pE]
       obtain ⟨k0, k1, k2, _, _, _⟩ := cFS0 _ hW.1
       go_simp
       exact hK.out _ _ ⟨fun zj => if zj = 2 then true else zB zj, fun zd => if zd = 103 then .agg #[.slice A.a0 S.B.length A.c0, .slice A.a1 S.V.length A.c1, .slice A.a2 S.M.length A.c2] else zS zd, Aq, gq, Ah, lh, hh, qh, rfl, by kernel_rfl, ⟨hF.1, hF.2.1, fun _ => rfl, hF.2.2.2.1, hF.2.2.2.2.1, hF.2.2.2.2.2.1, hF.2.2.2.2.2.2.1, hF.2.2.2.2.2.2.2.1, hF.2.2.2.2.2.2.2.2.1, hF.2.2.2.2.2.2.2.2.2.1, hF.2.2.2.2.2.2.2.2.2.2.1, hF.2.2.2.2.2.2.2.2.2.2.2.1, hF.2.2.2.2.2.2.2.2.2.2.2.2.1, hF.2.2.2.2.2.2.2.2.2.2.2.2.2⟩, hW⟩
      refine StepsI.cons rfl ?_ ?_
      ·rintro L zA vv31 ⟨zB, zS, Aq, gq, Ah, lh, hh, qh, rfl, rfl, hF, hW⟩ hL hm K hK
       have hb3 : zB 3 = false := by simpa using hL
       have hb2 : zB 2 = true := mt 2 hm (by kernel_rfl)
       have e2 : zS 103 = .agg #[.slice A.a0 S.B.length A.c0, .slice A.a1 S.V.length A.c1, .slice A.a2 S.M.length A.c2] := hF.2.2.1 hb2
       clear hL hm
       rw [hb3] at hW
       simp only [pE]
       simp only [e2]
       go_simp
       refine (toSeg_any S A _ HM.out.b HM.out.t HM.out.v HM.out.m (LS.out.below hW.1)).mono ?_
       rintro e vv312 ⟨Aq9, rfl, ho, hb⟩
       go_wp2_with fail
       exact hK.out _ _ ⟨fun zj => if zj = 2 then true else if zj = 3 then true else zB zj, fun zd => if zd = 104 then .agg #[.slice Aq9.a0 S.B.length Aq9.c0, .slice Aq9.a1 S.V.length Aq9.c1, .slice Aq9.a2 S.M.length Aq9.c2] else if zd = 103 then .agg #[.slice A.a0 S.B.length A.c0, .slice A.a1 S.V.length A.c1, .slice A.a2 S.M.length A.c2] else zS zd, Aq9, gq, Ah, lh, hh, qh, by simp [hb2], by kernel_rfl, ⟨hF.1, hF.2.1, fun _ => rfl, fun _ => rfl, hF.2.2.2.2.1, hF.2.2.2.2.2.1, hF.2.2.2.2.2.2.1, hF.2.2.2.2.2.2.2.1, hF.2.2.2.2.2.2.2.2.1, hF.2.2.2.2.2.2.2.2.2.1, hF.2.2.2.2.2.2.2.2.2.2.1, hF.2.2.2.2.2.2.2.2.2.2.2.1, hF.2.2.2.2.2.2.2.2.2.2.2.2.1, hF.2.2.2.2.2.2.2.2.2.2.2.2.2⟩, ⟨below_step hW.1 hb, fun _ _ => ho.at, fun e r => (hW.2.2.1 e r).below hb, fun e => ⟨(hW.2.2.2.1 e).1.below hb, (hW.2.2.2.1 e).2.1, Nat.le_trans (hW.2.2.2.1 e).2.2 hb.size⟩, fun e => ⟨(hW.2.2.2.2.1 e).1, Nat.lt_of_lt_of_le (hW.2.2.2.2.1 e).2 hb.size⟩, fun e r => (hW.2.2.2.2.2.1 e r).below hb, hW.2.2.2.2.2.2.1, fun e => ⟨(hW.2.2.2.2.2.2.2 e).1, (hW.2.2.2.2.2.2.2 e).2.1, (hW.2.2.2.2.2.2.2 e).2.2.below hb⟩⟩⟩
      refine StepsI.cons rfl ?_ ?_
      ·rintro L zA vv31 ⟨zB, zS, Aq, gq, Ah, lh, hh, qh, rfl, rfl, hF, hW⟩ hL hm K hK
       have hb4 : zB 4 = false := by simpa using hL
       clear hL hm
       simp only [pE]
       obtain ⟨k0, k1⟩ := cFF0 _ hW.1
       go_simp
       exact hK.out _ _ ⟨fun zj => if zj = 4 then true else zB zj, fun zd => if zd = 105 then .agg #[.int .i64 z, .slice a l.length c] else zS zd, Aq, gq, Ah, lh, hh, qh, rfl, by kernel_rfl, ⟨hF.1, hF.2.1, hF.2.2.1, hF.2.2.2.1, fun _ => rfl, hF.2.2.2.2.2.1, hF.2.2.2.2.2.2.1, hF.2.2.2.2.2.2.2.1, hF.2.2.2.2.2.2.2.2.1, hF.2.2.2.2.2.2.2.2.2.1, hF.2.2.2.2.2.2.2.2.2.2.1, hF.2.2.2.2.2.2.2.2.2.2.2.1, hF.2.2.2.2.2.2.2.2.2.2.2.2.1, hF.2.2.2.2.2.2.2.2.2.2.2.2.2⟩, hW⟩
      refine StepsI.cons rfl ?_ ?_
      ·rintro L zA vv31 ⟨zB, zS, Aq, gq, Ah, lh, hh, qh, rfl, rfl, hF, hW⟩ hL hm K hK
       have hb5 : zB 5 = false := by simpa using hL
       have hb4 : zB 4 = true := mt 4 hm (by kernel_rfl)
       have e4 : zS 105 = .agg #[.int .i64 z, .slice a l.length c] := hF.2.2.2.2.1 hb4
       clear hL hm
       rw [hb5] at hW
       simp only [pE]
       simp only [e4]
       go_simp
       refine (Q.toFacts_any z l a c _ HLN.out (LF.out.below hW.1)).mono ?_
       rintro e vv312 ⟨gq9, rfl, ho, hb⟩
       go_wp2_with fail
       exact hK.out _ _ ⟨fun zj => if zj = 4 then true else if zj = 5 then true else zB zj, fun zd => if zd = 106 then .agg #[.int .i64 z, .slice (some ⟨gq9, 0, none⟩) l.length l.length] else if zd = 105 then .agg #[.int .i64 z, .slice a l.length c] else zS zd, Aq, gq9, Ah, lh, hh, qh, by simp [hb4], by kernel_rfl, ⟨hF.1, hF.2.1, hF.2.2.1, hF.2.2.2.1, fun _ => rfl, fun _ => rfl, hF.2.2.2.2.2.2.1, hF.2.2.2.2.2.2.2.1, hF.2.2.2.2.2.2.2.2.1, hF.2.2.2.2.2.2.2.2.2.1, hF.2.2.2.2.2.2.2.2.2.2.1, hF.2.2.2.2.2.2.2.2.2.2.2.1, hF.2.2.2.2.2.2.2.2.2.2.2.2.1, hF.2.2.2.2.2.2.2.2.2.2.2.2.2⟩, ⟨below_step hW.1 hb, fun e r => (hW.2.1 e r).below hb, fun _ _ => ho.at, fun e => ⟨(hW.2.2.2.1 e).1.below hb, (hW.2.2.2.1 e).2.1, Nat.le_trans (hW.2.2.2.1 e).2.2 hb.size⟩, fun e => ⟨(hW.2.2.2.2.1 e).1, Nat.lt_of_lt_of_le (hW.2.2.2.2.1 e).2 hb.size⟩, fun e r => (hW.2.2.2.2.2.1 e r).below hb, hW.2.2.2.2.2.2.1, fun e => ⟨(hW.2.2.2.2.2.2.2 e).1, (hW.2.2.2.2.2.2.2 e).2.1, (hW.2.2.2.2.2.2.2 e).2.2.below hb⟩⟩⟩
      refine StepsI.cons rfl ?_ ?_
      ·rintro L zA vv31 ⟨zB, zS, Aq, gq, Ah, lh, hh, qh, rfl, rfl, hF, hW⟩ hL hm K hK
       have hb6 : zB 6 = false := by simpa using hL
       clear hL hm
       simp only [pE]
       obtain ⟨k0, k1, _, _⟩ := cFYx _ hW.1
       go_simp
       exact hK.out _ _ ⟨fun zj => if zj = 6 then true else zB zj, fun zd => if zd = 107 then .agg #[.int .i64 x.1, .int .i64 x.2] else zS zd, Aq, gq, Ah, lh, hh, qh, rfl, by kernel_rfl, ⟨hF.1, hF.2.1, hF.2.2.1, hF.2.2.2.1, hF.2.2.2.2.1, hF.2.2.2.2.2.1, fun _ => rfl, hF.2.2.2.2.2.2.2.1, hF.2.2.2.2.2.2.2.2.1, hF.2.2.2.2.2.2.2.2.2.1, hF.2.2.2.2.2.2.2.2.2.2.1, hF.2.2.2.2.2.2.2.2.2.2.2.1, hF.2.2.2.2.2.2.2.2.2.2.2.2.1, hF.2.2.2.2.2.2.2.2.2.2.2.2.2⟩, hW⟩
      refine StepsI.cons rfl ?_ ?_
      ·rintro L zA vv31 ⟨zB, zS, Aq, gq, Ah, lh, hh, qh, rfl, rfl, hF, hW⟩ hL hm K hK
       have hb7 : zB 7 = false := by simpa using hL
       have hb6 : zB 6 = true := mt 6 hm (by kernel_rfl)
       have e6 : zS 107 = .agg #[.int .i64 x.1, .int .i64 x.2] := hF.2.2.2.2.2.2.1 hb6
       clear hL hm
       simp only [pE]
       simp only [e6]
       go_simp
       refine (toSym_any x.1 x.2 _).mono ?_
       rintro e vv312 ⟨rfl, hb⟩
       go_wp2_with fail
       exact hK.out _ _ ⟨fun zj => if zj = 6 then true else if zj = 7 then true else zB zj, fun zd => if zd = 108 then .agg #[.int .i64 x.1, .int .i64 x.2] else if zd = 107 then .agg #[.int .i64 x.1, .int .i64 x.2] else zS zd, Aq, gq, Ah, lh, hh, qh, by simp [hb6], by kernel_rfl, ⟨hF.1, hF.2.1, hF.2.2.1, hF.2.2.2.1, hF.2.2.2.2.1, hF.2.2.2.2.2.1, fun _ => rfl, fun _ => rfl, hF.2.2.2.2.2.2.2.2.1, hF.2.2.2.2.2.2.2.2.2.1, hF.2.2.2.2.2.2.2.2.2.2.1, hF.2.2.2.2.2.2.2.2.2.2.2.1, hF.2.2.2.2.2.2.2.2.2.2.2.2.1, hF.2.2.2.2.2.2.2.2.2.2.2.2.2⟩, ⟨below_step hW.1 hb, fun e r => (hW.2.1 e r).below hb, fun e r => (hW.2.2.1 e r).below hb, fun e => ⟨(hW.2.2.2.1 e).1.below hb, (hW.2.2.2.1 e).2.1, Nat.le_trans (hW.2.2.2.1 e).2.2 hb.size⟩, fun e => ⟨(hW.2.2.2.2.1 e).1, Nat.lt_of_lt_of_le (hW.2.2.2.2.1 e).2 hb.size⟩, fun e r => (hW.2.2.2.2.2.1 e r).below hb, hW.2.2.2.2.2.2.1, fun e => ⟨(hW.2.2.2.2.2.2.2 e).1, (hW.2.2.2.2.2.2.2 e).2.1, (hW.2.2.2.2.2.2.2 e).2.2.below hb⟩⟩⟩
      refine StepsI.cons rfl ?_ ?_
      ·rintro L zA vv31 ⟨zB, zS, Aq, gq, Ah, lh, hh, qh, rfl, rfl, hF, hW⟩ hL hm K hK
       have hb8 : zB 8 = false := by simpa using hL
       clear hL hm
       simp only [pE]
       obtain ⟨k0, k1, _, _⟩ := cFYy _ hW.1
       go_simp
       exact hK.out _ _ ⟨fun zj => if zj = 8 then true else zB zj, fun zd => if zd = 109 then .agg #[.int .i64 y.1, .int .i64 y.2] else zS zd, Aq, gq, Ah, lh, hh, qh, rfl, by kernel_rfl, ⟨hF.1, hF.2.1, hF.2.2.1, hF.2.2.2.1, hF.2.2.2.2.1, hF.2.2.2.2.2.1, hF.2.2.2.2.2.2.1, hF.2.2.2.2.2.2.2.1, fun _ => rfl, hF.2.2.2.2.2.2.2.2.2.1, hF.2.2.2.2.2.2.2.2.2.2.1, hF.2.2.2.2.2.2.2.2.2.2.2.1, hF.2.2.2.2.2.2.2.2.2.2.2.2.1, hF.2.2.2.2.2.2.2.2.2.2.2.2.2⟩, hW⟩
      refine StepsI.cons rfl ?_ ?_
      ·rintro L zA vv31 ⟨zB, zS, Aq, gq, Ah, lh, hh, qh, rfl, rfl, hF, hW⟩ hL hm K hK
       have hb9 : zB 9 = false := by simpa using hL
       have hb8 : zB 8 = true := mt 8 hm (by kernel_rfl)
       have e8 : zS 109 = .agg #[.int .i64 y.1, .int .i64 y.2] := hF.2.2.2.2.2.2.2.2.1 hb8
       clear hL hm
       simp only [pE]
       simp only [e8]
       go_simp
       refine (toSym_any y.1 y.2 _).mono ?_
       rintro e vv312 ⟨rfl, hb⟩
       go_wp2_with fail
       exact hK.out _ _ ⟨fun zj => if zj = 8 then true else if zj = 9 then true else zB zj, fun zd => if zd = 110 then .agg #[.int .i64 y.1, .int .i64 y.2] else if zd = 109 then .agg #[.int .i64 y.1, .int .i64 y.2] else zS zd, Aq, gq, Ah, lh, hh, qh, by simp [hb8], by kernel_rfl, ⟨hF.1, hF.2.1, hF.2.2.1, hF.2.2.2.1, hF.2.2.2.2.1, hF.2.2.2.2.2.1, hF.2.2.2.2.2.2.1, hF.2.2.2.2.2.2.2.1, fun _ => rfl, fun _ => rfl, hF.2.2.2.2.2.2.2.2.2.2.1, hF.2.2.2.2.2.2.2.2.2.2.2.1, hF.2.2.2.2.2.2.2.2.2.2.2.2.1, hF.2.2.2.2.2.2.2.2.2.2.2.2.2⟩, ⟨below_step hW.1 hb, fun e r => (hW.2.1 e r).below hb, fun e r => (hW.2.2.1 e r).below hb, fun e => ⟨(hW.2.2.2.1 e).1.below hb, (hW.2.2.2.1 e).2.1, Nat.le_trans (hW.2.2.2.1 e).2.2 hb.size⟩, fun e => ⟨(hW.2.2.2.2.1 e).1, Nat.lt_of_lt_of_le (hW.2.2.2.2.1 e).2 hb.size⟩, fun e r => (hW.2.2.2.2.2.1 e r).below hb, hW.2.2.2.2.2.2.1, fun e => ⟨(hW.2.2.2.2.2.2.2 e).1, (hW.2.2.2.2.2.2.2 e).2.1, (hW.2.2.2.2.2.2.2 e).2.2.below hb⟩⟩⟩
      refine StepsI.cons rfl ?_ ?_
      ·rintro L zA vv31 ⟨zB, zS, Aq, gq, Ah, lh, hh, qh, rfl, rfl, hF, hW⟩ hL hm K hK
       have hb10 : zB 10 = false := by simpa using hL
       clear hL hm
       simp only [pE]
       obtain ⟨k0, k1, _, _⟩ := cFR _ hW.1
       go_simp
       exact hK.out _ _ ⟨fun zj => if zj = 10 then true else zB zj, fun zd => if zd = 111 then .agg #[.int .i64 ra, .int .i64 rb] else zS zd, Aq, gq, Ah, lh, hh, qh, rfl, by kernel_rfl, ⟨hF.1, hF.2.1, hF.2.2.1, hF.2.2.2.1, hF.2.2.2.2.1, hF.2.2.2.2.2.1, hF.2.2.2.2.2.2.1, hF.2.2.2.2.2.2.2.1, hF.2.2.2.2.2.2.2.2.1, hF.2.2.2.2.2.2.2.2.2.1, fun _ => rfl, hF.2.2.2.2.2.2.2.2.2.2.2.1, hF.2.2.2.2.2.2.2.2.2.2.2.2.1, hF.2.2.2.2.2.2.2.2.2.2.2.2.2⟩, hW⟩
      refine StepsI.cons rfl ?_ ?_
      ·rintro L zA vv31 ⟨zB, zS, Aq, gq, Ah, lh, hh, qh, rfl, rfl, hF, hW⟩ hL hm K hK
       have hb11 : zB 11 = false := by simpa using hL
       have hb10 : zB 10 = true := mt 10 hm (by kernel_rfl)
       have e10 : zS 111 = .agg #[.int .i64 ra, .int .i64 rb] := hF.2.2.2.2.2.2.2.2.2.2.1 hb10
       clear hL hm
       simp only [pE]
       simp only [e10]
       go_simp
       refine (toRange_any ra rb _).mono ?_
       rintro e vv312 ⟨rfl, hb⟩
       go_wp2_with fail
       exact hK.out _ _ ⟨fun zj => if zj = 10 then true else if zj = 11 then true else zB zj, fun zd => if zd = 112 then .agg #[.int .i64 ra, .int .i64 rb] else if zd = 111 then .agg #[.int .i64 ra, .int .i64 rb] else zS zd, Aq, gq, Ah, lh, hh, qh, by simp [hb10], by kernel_rfl, ⟨hF.1, hF.2.1, hF.2.2.1, hF.2.2.2.1, hF.2.2.2.2.1, hF.2.2.2.2.2.1, hF.2.2.2.2.2.2.1, hF.2.2.2.2.2.2.2.1, hF.2.2.2.2.2.2.2.2.1, hF.2.2.2.2.2.2.2.2.2.1, fun _ => rfl, fun _ => rfl, hF.2.2.2.2.2.2.2.2.2.2.2.2.1, hF.2.2.2.2.2.2.2.2.2.2.2.2.2⟩, ⟨below_step hW.1 hb, fun e r => (hW.2.1 e r).below hb, fun e r => (hW.2.2.1 e r).below hb, fun e => ⟨(hW.2.2.2.1 e).1.below hb, (hW.2.2.2.1 e).2.1, Nat.le_trans (hW.2.2.2.1 e).2.2 hb.size⟩, fun e => ⟨(hW.2.2.2.2.1 e).1, Nat.lt_of_lt_of_le (hW.2.2.2.2.1 e).2 hb.size⟩, fun e r => (hW.2.2.2.2.2.1 e r).below hb, hW.2.2.2.2.2.2.1, fun e => ⟨(hW.2.2.2.2.2.2.2 e).1, (hW.2.2.2.2.2.2.2 e).2.1, (hW.2.2.2.2.2.2.2 e).2.2.below hb⟩⟩⟩
      refine StepsI.cons rfl ?_ ?_
      ·rintro L zA vv31 ⟨zB, zS, Aq, gq, Ah, lh, hh, qh, rfl, rfl, hF, hW⟩ hL hm K hK
       have hb12 : zB 12 = false := by simpa using hL
       have hb0 : zB 0 = true := mt 0 hm (by kernel_rfl)
       have hb1 : zB 1 = true := mt 1 hm (by kernel_rfl)
       have hb3 : zB 3 = true := mt 3 hm (by kernel_rfl)
       have hb5 : zB 5 = true := mt 5 hm (by kernel_rfl)
       have hb7 : zB 7 = true := mt 7 hm (by kernel_rfl)
       have hb9 : zB 9 = true := mt 9 hm (by kernel_rfl)
       have hb11 : zB 11 = true := mt 11 hm (by kernel_rfl)
       have e0 : zS 101 = .int .i64 size := hF.1 hb0
       have e1 : zS 102 = .int .i64 lv := hF.2.1 hb1
       have e3 : zS 104 = .agg #[.slice Aq.a0 S.B.length Aq.c0, .slice Aq.a1 S.V.length Aq.c1, .slice Aq.a2 S.M.length Aq.c2] := hF.2.2.2.1 hb3
       have e5 : zS 106 = .agg #[.int .i64 z, .slice (some ⟨gq, 0, none⟩) l.length l.length] := hF.2.2.2.2.2.1 hb5
       have e7 : zS 108 = .agg #[.int .i64 x.1, .int .i64 x.2] := hF.2.2.2.2.2.2.2.1 hb7
       have e9 : zS 110 = .agg #[.int .i64 y.1, .int .i64 y.2] := hF.2.2.2.2.2.2.2.2.2.1 hb9
       have e11 : zS 112 = .agg #[.int .i64 ra, .int .i64 rb] := hF.2.2.2.2.2.2.2.2.2.2.2.1 hb11
       clear hL hm
       rw [hb12] at hW
       rw [hb3] at hW
       rw [hb5] at hW
       simp only [pE]
       simp only [e0, e1, e3, e5, e7, e9, e11]
       go_simp
       refine (iSegWeak_any size lv S Aq z l (some ⟨gq, 0, none⟩) l.length x y ra rb _ HM.out (hW.2.1 (by first | rfl | trivial) rfl) (Nat.le_refl _) (hW.2.2.1 (by first | rfl | trivial) rfl)).mono ?_
       rintro e vv312 ⟨Z', hZ', Ah9, rfl, ho, hb⟩
       have eZ : Z = Z' := HZ.out.one hZ'
       subst eZ
       clear hZ'
       go_wp2_with fail
       exact hK.out _ _ ⟨fun zj => if zj = 11 then true else if zj = 9 then true else if zj = 7 then true else if zj = 5 then true else if zj = 3 then true else if zj = 1 then true else if zj = 0 then true else if zj = 12 then true else zB zj, fun zd => if zd = 113 then .agg #[.slice Ah9.a0 Z.B.length Ah9.c0, .slice Ah9.a1 Z.V.length Ah9.c1, .slice Ah9.a2 Z.M.length Ah9.c2] else if zd = 112 then .agg #[.int .i64 ra, .int .i64 rb] else if zd = 110 then .agg #[.int .i64 y.1, .int .i64 y.2] else if zd = 108 then .agg #[.int .i64 x.1, .int .i64 x.2] else if zd = 106 then .agg #[.int .i64 z, .slice (some ⟨gq, 0, none⟩) l.length l.length] else if zd = 104 then .agg #[.slice Aq.a0 S.B.length Aq.c0, .slice Aq.a1 S.V.length Aq.c1, .slice Aq.a2 S.M.length Aq.c2] else if zd = 102 then .int .i64 lv else if zd = 101 then .int .i64 size else zS zd, Aq, gq, Ah9, vv31.heap.size, vv312.heap.size, qh, by simp [hb0, hb1, hb3, hb5, hb7, hb9, hb11], by kernel_rfl, ⟨fun _ => rfl, fun _ => rfl, hF.2.2.1, fun _ => rfl, hF.2.2.2.2.1, fun _ => rfl, hF.2.2.2.2.2.2.1, fun _ => rfl, hF.2.2.2.2.2.2.2.2.1, fun _ => rfl, hF.2.2.2.2.2.2.2.2.2.2.1, fun _ => rfl, fun _ => rfl, hF.2.2.2.2.2.2.2.2.2.2.2.2.2⟩, ⟨below_step hW.1 hb, fun _ e => tf e, fun _ e => tf e, fun _ => ⟨ho, hW.1.size, Nat.le_refl _⟩, fun e => ⟨(hW.2.2.2.2.1 e).1, Nat.lt_of_lt_of_le (hW.2.2.2.2.1 e).2 hb.size⟩, fun e r => (hW.2.2.2.2.2.1 e r).below hb, fun _ e => .inl (hW.2.2.2.2.1 e).2, fun e => ft (hW.2.2.2.2.2.2.2 e).2.1⟩⟩
      refine StepsI.cons rfl ?_ ?_
      ·rintro L zA vv31 ⟨zB, zS, Aq, gq, Ah, lh, hh, qh, rfl, rfl, hF, hW⟩ hL hm K hK
       have hb13 : zB 13 = false := by simpa using hL
       clear hL hm
       rw [hb13] at hW
       simp only [pE]
       go_simp
       exact hK.out _ _ ⟨fun zj => if zj = 13 then true else zB zj, fun zd => if zd = 23 then .pointer (some ⟨vv31.heap.size, 0, none⟩) else zS zd, Aq, gq, Ah, lh, hh, vv31.heap.size, rfl, by kernel_rfl, ⟨hF.1, hF.2.1, hF.2.2.1, hF.2.2.2.1, hF.2.2.2.2.1, hF.2.2.2.2.2.1, hF.2.2.2.2.2.2.1, hF.2.2.2.2.2.2.2.1, hF.2.2.2.2.2.2.2.2.1, hF.2.2.2.2.2.2.2.2.2.1, hF.2.2.2.2.2.2.2.2.2.2.1, hF.2.2.2.2.2.2.2.2.2.2.2.1, hF.2.2.2.2.2.2.2.2.2.2.2.2.1, fun _ => rfl⟩, ⟨bl_alloc hW.1 _, fun e r => (hW.2.1 e r).below (bl_alloc (Below.refl _ _) _), fun e r => (hW.2.2.1 e r).below (bl_alloc (Below.refl _ _) _), fun e => ⟨(hW.2.2.2.1 e).1.below (bl_alloc (Below.refl _ _) _), (hW.2.2.2.1 e).2.1, Nat.le_trans (hW.2.2.2.1 e).2.2 (bl_alloc (Below.refl vv31.heap.size vv31) (.cells #[.slice none 0 0, .slice none 0 0, .slice none 0 0] 35)).size⟩, fun _ => ⟨hW.1.size, by simp⟩, fun _ _ => G3.new _ _ _ _ _, fun e _ => .inr (hW.2.2.2.1 e).2.2, fun e => ft (hW.2.2.2.2.2.2.2 e).1⟩⟩
      refine StepsI.cons rfl ?_ ?_
      ·rintro L zA vv31 ⟨zB, zS, Aq, gq, Ah, lh, hh, qh, rfl, rfl, hF, hW⟩ hL hm K hK
       have hb14 : zB 14 = false := by simpa using hL
       have hb12 : zB 12 = true := mt 12 hm (by kernel_rfl)
       have hb13 : zB 13 = true := mt 13 hm (by kernel_rfl)
       have e12 : zS 113 = .agg #[.slice Ah.a0 Z.B.length Ah.c0, .slice Ah.a1 Z.V.length Ah.c1, .slice Ah.a2 Z.M.length Ah.c2] := hF.2.2.2.2.2.2.2.2.2.2.2.2.1 hb12
       have e13 : zS 23 = .pointer (some ⟨qh, 0, none⟩) := hF.2.2.2.2.2.2.2.2.2.2.2.2.2 hb13
       clear hL hm
       rw [hb14] at hW
       rw [hb12] at hW
       rw [hb13] at hW
       simp only [pE]
       simp only [e12, e13]
       have hz9 := mkHid (hW.2.2.2.2.2.1 rfl rfl)
       have ho9 := mkHid (hW.2.2.2.1 rfl)
       have hq9 := mkHid (hW.2.2.2.2.1 rfl)
       have hr8 := mkHid (hW.2.2.2.2.2.2.1 rfl rfl)
       have hr9 : Hid (hh ≤ qh ∨ qh + 1 ≤ lh) := mkHid (by rcases hr8.out with h | h; exact .inr h; exact .inl h)
       obtain ⟨k0, k1, k2, k3, k4, k5⟩ := hz9.out
       go_simp
       exact hK.out _ _ ⟨fun zj => if zj = 13 then true else if zj = 12 then true else if zj = 14 then true else zB zj, fun zd => if zd = 23 then .pointer (some ⟨qh, 0, none⟩) else if zd = 113 then .agg #[.slice Ah.a0 Z.B.length Ah.c0, .slice Ah.a1 Z.V.length Ah.c1, .slice Ah.a2 Z.M.length Ah.c2] else zS zd, Aq, gq, Ah, lh, hh, qh, by simp [hb12, hb13], by kernel_rfl, ⟨hF.1, hF.2.1, hF.2.2.1, hF.2.2.2.1, hF.2.2.2.2.1, hF.2.2.2.2.2.1, hF.2.2.2.2.2.2.1, hF.2.2.2.2.2.2.2.1, hF.2.2.2.2.2.2.2.2.1, hF.2.2.2.2.2.2.2.2.2.1, hF.2.2.2.2.2.2.2.2.2.2.1, hF.2.2.2.2.2.2.2.2.2.2.2.1, fun _ => rfl, fun _ => rfl⟩, ⟨((hW.1.setCell (p := ⟨qh, 0, none⟩) hq9.out.1 _).setCell (p := ⟨qh, 1, none⟩) hq9.out.1 _).setCell (p := ⟨qh, 2, none⟩) hq9.out.1 _, fun _ e => tf e, fun _ e => tf e, fun _ => ⟨((ho9.out.1.outs (outs_set _ _ _ _) hr9.out).outs (outs_set _ _ _ _) hr9.out).outs (outs_set _ _ _ _) hr9.out, ho9.out.2.1, by simpa [go_sem] using ho9.out.2.2⟩, fun _ => ⟨hq9.out.1, by simpa [go_sem] using hq9.out.2⟩, fun _ e => tf e, fun _ _ => hr8.out, fun _ => ⟨rfl, rfl, ((hz9.out.set0 _).set1 _).set2 _⟩⟩⟩
      exact StepsI.nil (by kernel_rfl)
     ·rintro L zA vv31 ⟨zB, zS, Aq, gq, Ah, lh, hh, qh, rfl, rfl, hF, hW⟩ hr
      have hu := all_up (by kernel_rfl) (N := 15) (by kernel_rfl) hr
      have hb0 : zB 0 = true := by simpa using hu 0 (by decide)
      have hb1 : zB 1 = true := by simpa using hu 1 (by decide)
      have hb2 : zB 2 = true := by simpa using hu 2 (by decide)
      have hb3 : zB 3 = true := by simpa using hu 3 (by decide)
      have hb4 : zB 4 = true := by simpa using hu 4 (by decide)
      have hb5 : zB 5 = true := by simpa using hu 5 (by decide)
      have hb6 : zB 6 = true := by simpa using hu 6 (by decide)
      have hb7 : zB 7 = true := by simpa using hu 7 (by decide)
      have hb8 : zB 8 = true := by simpa using hu 8 (by decide)
      have hb9 : zB 9 = true := by simpa using hu 9 (by decide)
      have hb10 : zB 10 = true := by simpa using hu 10 (by decide)
      have hb11 : zB 11 = true := by simpa using hu 11 (by decide)
      have hb12 : zB 12 = true := by simpa using hu 12 (by decide)
      have hb13 : zB 13 = true := by simpa using hu 13 (by decide)
      have hb14 : zB 14 = true := by simpa using hu 14 (by decide)
      have e0 : zS 101 = .int .i64 size := hF.1 hb0
      have e1 : zS 102 = .int .i64 lv := hF.2.1 hb1
      have e2 : zS 103 = .agg #[.slice A.a0 S.B.length A.c0, .slice A.a1 S.V.length A.c1, .slice A.a2 S.M.length A.c2] := hF.2.2.1 hb2
      have e3 : zS 104 = .agg #[.slice Aq.a0 S.B.length Aq.c0, .slice Aq.a1 S.V.length Aq.c1, .slice Aq.a2 S.M.length Aq.c2] := hF.2.2.2.1 hb3
      have e4 : zS 105 = .agg #[.int .i64 z, .slice a l.length c] := hF.2.2.2.2.1 hb4
      have e5 : zS 106 = .agg #[.int .i64 z, .slice (some ⟨gq, 0, none⟩) l.length l.length] := hF.2.2.2.2.2.1 hb5
      have e6 : zS 107 = .agg #[.int .i64 x.1, .int .i64 x.2] := hF.2.2.2.2.2.2.1 hb6
      have e7 : zS 108 = .agg #[.int .i64 x.1, .int .i64 x.2] := hF.2.2.2.2.2.2.2.1 hb7
      have e8 : zS 109 = .agg #[.int .i64 y.1, .int .i64 y.2] := hF.2.2.2.2.2.2.2.2.1 hb8
      have e9 : zS 110 = .agg #[.int .i64 y.1, .int .i64 y.2] := hF.2.2.2.2.2.2.2.2.2.1 hb9
      have e10 : zS 111 = .agg #[.int .i64 ra, .int .i64 rb] := hF.2.2.2.2.2.2.2.2.2.2.1 hb10
      have e11 : zS 112 = .agg #[.int .i64 ra, .int .i64 rb] := hF.2.2.2.2.2.2.2.2.2.2.2.1 hb11
      have e12 : zS 113 = .agg #[.slice Ah.a0 Z.B.length Ah.c0, .slice Ah.a1 Z.V.length Ah.c1, .slice Ah.a2 Z.M.length Ah.c2] := hF.2.2.2.2.2.2.2.2.2.2.2.2.1 hb12
      have e13 : zS 23 = .pointer (some ⟨qh, 0, none⟩) := hF.2.2.2.2.2.2.2.2.2.2.2.2.2 hb13
      rw [hb3] at hW
      rw [hb5] at hW
      rw [hb12] at hW
      rw [hb13] at hW
      rw [hb14] at hW
      clear hu hr hF
      simp only [pE]
      simp only [e0, e1, e2, e3, e4, e5, e6, e7, e8, e9, e10, e11, e12, e13]
      clear e0 e1 e2 e3 e4 e5 e6 e7 e8 e9 e10 e11 e12 e13
      clear hb0 hb1 hb2 hb3 hb4 hb5 hb6 hb7 hb8 hb9 hb10 hb11 hb12 hb13 hb14
      clear zB zS
      have hb := hW.1
      have Oh := mkHid (hW.2.2.2.1 (by first | rfl | trivial)).1
      have Sha := mkHid (hW.2.2.2.1 (by first | rfl | trivial)).2.1
      have Shb := mkHid (hW.2.2.2.1 (by first | rfl | trivial)).2.2
      have Shc := mkHid (hW.2.2.2.2.1 (by first | rfl | trivial)).1
      have Shd := mkHid (hW.2.2.2.2.1 (by first | rfl | trivial)).2
      have Rh := mkHid (hW.2.2.2.2.2.2.1 (by first | rfl | trivial) (by first | rfl | trivial))
      have Gh := mkHid (hW.2.2.2.2.2.2.2 (by first | rfl | trivial)).2.2
      have BE := mkHid (below_step BE.out hb)
      have BW := mkHid (below_step BW.out hb)
      have SZ17 := mkHid hb.size
      have FS0 := mkHid (FS0.out.below hb)
      have FF0 := mkHid (FF0.out.below hb)
      have FYx := mkHid (FYx.out.below hb)
      have FYy := mkHid (FYy.out.below hb)
      have FR := mkHid (FR.out.below hb)
      have LS := mkHid (LS.out.below hb)
      have LF := mkHid (LF.out.below hb)
      have Ow := mkHid (Ow.out.below hb)
      have Gw := mkHid (Gw.out.below hb)
      have Og := mkHid (Og.out.below hb)
      have Gg := mkHid (Gg.out.below hb)
      clear hb hW
      clear cFS0 cFF0 cFYx cFYy cFR cGw cGg
      obtain ⟨k0, k1, k2, _, _, _⟩ := Gh.out
      obtain ⟨j0, j1, j2, _, _, _⟩ := Gw.out
      go_wp2_with fail
      refine (eqSeg_same Z Ah Aw _ HSZ.out Oh.out.at Ow.out.at).mono ?_
      rintro e wc3 ⟨rfl, hb⟩
      have BE := mkHid (below_step BE.out hb)
      have BW := mkHid (below_step BW.out hb)
      have SZ18 := mkHid hb.size
      have FS0 := mkHid (FS0.out.below hb)
      have FF0 := mkHid (FF0.out.below hb)
      have FYx := mkHid (FYx.out.below hb)
      have FYy := mkHid (FYy.out.below hb)
      have FR := mkHid (FR.out.below hb)
      have LS := mkHid (LS.out.below hb)
      have LF := mkHid (LF.out.below hb)
      have Ow := mkHid (Ow.out.below hb)
      have Gw := mkHid (Gw.out.below hb)
      have Og := mkHid (Og.out.below hb)
      have Gg := mkHid (Gg.out.below hb)
      have Oh := mkHid (Oh.out.below hb)
      have Gh := mkHid (Gh.out.below hb)
      clear hb k0 k1 k2 j0 j1 j2
      obtain ⟨k0, k1, k2, _, _, _⟩ := Gg.out
      go_wp2_with fail
      refine (heldSeg_ok Z Ag 1 _ HSZ.out (by omega) (by omega) Og.out.at).mono ?_
      rintro e wh2 ⟨rfl, hb⟩
      have BE := mkHid (below_step BE.out hb)
      have BW := mkHid (below_step BW.out hb)
      have SZ19 := mkHid hb.size
      have FS0 := mkHid (FS0.out.below hb)
      have FF0 := mkHid (FF0.out.below hb)
      have FYx := mkHid (FYx.out.below hb)
      have FYy := mkHid (FYy.out.below hb)
      have FR := mkHid (FR.out.below hb)
      have LS := mkHid (LS.out.below hb)
      have LF := mkHid (LF.out.below hb)
      have Ow := mkHid (Ow.out.below hb)
      have Gw := mkHid (Gw.out.below hb)
      have Og := mkHid (Og.out.below hb)
      have Gg := mkHid (Gg.out.below hb)
      have Oh := mkHid (Oh.out.below hb)
      have Gh := mkHid (Gh.out.below hb)
      clear hb k0 k1 k2
      rw [HMm.out]
      go_wp2
      go_ret
      exact ⟨rfl, BE.out⟩

theorem cellsF : Tryz.prog.cellsOf 29 = 2 := by kernel_rfl
set_option maxRecDepth 100000 in
theorem law_lifted (os : Os) (started : os.Started) (H : Type) (enc : TypeId × Value → H) :
  ReturnsInHanded {} Tryz.checked os 7 .any (Rows.fnExactSegWeakSpec.pre6 enc Tryz.prog Tryz.f7 Rows.fnExactSegWeakRow.domain false) (Rows.fnExactSegWeakSpec.post enc Tryz.prog Tryz.f7 false true false false) := by
 refine returnsInHanded_of_change (C := Tryz.checked) Tryz.own started (by kernel_rfl) Tryz.func7
  (ChangeSpec.witness6 (enc := enc) (C := Tryz.checked) false ⟨#[], #[.int .i64 0, .int .i64 0, .agg #[.slice none 0 0, .slice none 0 0, .slice none 0 0], .agg #[.int .i64 0, .slice none 0 0], .agg #[.int .i64 0, .int .i64 0], .agg #[.int .i64 0, .int .i64 0], .agg #[.int .i64 0, .int .i64 0]], []⟩ 8 (by kernel_rfl) (by kernel_rfl) (by kernel_rfl) (by kernel_rfl)) ?_
 intro W base args ds gs before hval0 hW hcnd _
 have hval : ∀ (j : Nat) t v, Tryz.f7.params[j]? = some t → args[j]? = some v → Value.okWide Tryz.prog W .any base t v := hval0
 have hW' := hW
 obtain ⟨p, q, hA0, hV, rfl, hfz, hnd⟩ := hW
 have hA : DataW.TrodAll enc Tryz.prog W 0 (fun _ => true) true Tryz.f7.params.toList args.toList ds p := hA0
 rw [Tryz.params7] at hA hval
 obtain ⟨v0, vs0, d0, ds0, p0, q0, hargs, rfl, rfl, h0, r0⟩ := trodAll_cons hA
 obtain ⟨v1, vs1, d1, ds1, p1, q1, rfl, rfl, rfl, h1, r1⟩ := trodAll_cons r0
 obtain ⟨v2, vs2, d2, ds2, p2, q2, rfl, rfl, rfl, h2, r2⟩ := trodAll_cons r1
 obtain ⟨v3, vs3, d3, ds3, p3, q3, rfl, rfl, rfl, h3, r3⟩ := trodAll_cons r2
 obtain ⟨v4, vs4, d4, ds4, p4, q4, rfl, rfl, rfl, h4, r4⟩ := trodAll_cons r3
 obtain ⟨v5, vs5, d5, ds5, p5, q5, rfl, rfl, rfl, h5, r5⟩ := trodAll_cons r4
 obtain ⟨v6, vs6, d6, ds6, p6, q6, rfl, rfl, rfl, h6, r6⟩ := trodAll_cons r5
 obtain ⟨rfl, rfl, rfl⟩ := trodAll_nil r6
 obtain rfl : args = #[v0, v1, v2, v3, v4, v5, v6] := by cases args; simp_all
 obtain ⟨rfl, rfl⟩ := trodVars_none hV
 have k0 := h0
 have lt0 : ∀ x ∈ p0, x.block < W.heap.size := by obtain ⟨m, hm⟩ := k0; exact DataW.trod_lt m _ _ _ hm
 have k1 := h1
 have lt1 : ∀ x ∈ p1, x.block < W.heap.size := by obtain ⟨m, hm⟩ := k1; exact DataW.trod_lt m _ _ _ hm
 have k2 := h2
 have lt2 : ∀ x ∈ p2, x.block < W.heap.size := by obtain ⟨m, hm⟩ := k2; exact DataW.trod_lt m _ _ _ hm
 have k3 := h3
 have lt3 : ∀ x ∈ p3, x.block < W.heap.size := by obtain ⟨m, hm⟩ := k3; exact DataW.trod_lt m _ _ _ hm
 have k4 := h4
 have lt4 : ∀ x ∈ p4, x.block < W.heap.size := by obtain ⟨m, hm⟩ := k4; exact DataW.trod_lt m _ _ _ hm
 have k5 := h5
 have lt5 : ∀ x ∈ p5, x.block < W.heap.size := by obtain ⟨m, hm⟩ := k5; exact DataW.trod_lt m _ _ _ hm
 have k6 := h6
 have lt6 : ∀ x ∈ p6, x.block < W.heap.size := by obtain ⟨m, hm⟩ := k6; exact DataW.trod_lt m _ _ _ hm
 obtain ⟨x0, hv0, _, _, _⟩ := open_int Tryz.underlying3 (hval 0 3 v0 rfl rfl) h0
 subst hv0
 obtain ⟨x1, hv1, _, _, _⟩ := open_int Tryz.underlying3 (hval 1 3 v1 rfl rfl) h1
 subst hv1
 obtain ⟨S2, A2, hv2, hg2, hl2⟩ := open_seg (hval 2 26 v2 rfl rfl) h2
 subst hv2
 obtain ⟨u30, u31, y30, y31, m3, hv3, _, _, hy30, hy31⟩ := open_agg2 Tryz.underlying29 (by kernel_rfl) cellsF (hval 3 29 v3 rfl rfl) h3
 obtain ⟨z3, e30, _, _⟩ := DataW.trod_int Tryz.underlying3 hy30
 obtain ⟨a3, c3, l3, e31, hn3, hk3⟩ := Q.open_intsv hy31
 simp at e30
 subst e30 e31 hv3
 obtain ⟨u40, u41, y40, y41, m4, hv4, _, _, hy40, hy41⟩ := open_agg2 Tryz.underlying46 (by kernel_rfl) Tryz.cells46 (hval 4 46 v4 rfl rfl) h4
 obtain ⟨s4, e40, _, _⟩ := DataW.trod_int Tryz.underlying3 hy40
 obtain ⟨t4, e41, _, _⟩ := DataW.trod_int Tryz.underlying3 hy41
 simp at e40 e41
 subst e40 e41 hv4
 obtain ⟨u50, u51, y50, y51, m5, hv5, _, _, hy50, hy51⟩ := open_agg2 Tryz.underlying46 (by kernel_rfl) Tryz.cells46 (hval 5 46 v5 rfl rfl) h5
 obtain ⟨s5, e50, _, _⟩ := DataW.trod_int Tryz.underlying3 hy50
 obtain ⟨t5, e51, _, _⟩ := DataW.trod_int Tryz.underlying3 hy51
 simp at e50 e51
 subst e50 e51 hv5
 obtain ⟨u60, u61, y60, y61, m6, hv6, _, _, hy60, hy61⟩ := open_agg2 Tryz.underlying58 (by kernel_rfl) Tryz.cells58 (hval 6 58 v6 rfl rfl) h6
 obtain ⟨s6, e60, _, _⟩ := DataW.trod_int Tryz.underlying3 hy60
 obtain ⟨t6, e61, _, _⟩ := DataW.trod_int Tryz.underlying3 hy61
 simp at e60 e61
 subst e60 e61 hv6
 clear hA0 hval0
 refine (law_walk x0 x1 S2 A2 z3 l3 a3 c3 (s4, t4) (s5, t5) s6 t6 W hg2 hl2 hn3 hk3).mono fun e W' ⟨he, bel⟩ => ?_
 subst he
 exact ⟨_, rfl, _, _, _, [], _, [], hW', trodAll_mk1 (shut_bool Tryz.underlying4 _), (trodAll_cons_mk (Below.trod Tryz.laidOut (by kernel_rfl) (of_decide_eq_true (by kernel_rfl)) k0 bel lt0) (trodAll_cons_mk (Below.trod Tryz.laidOut (by kernel_rfl) (of_decide_eq_true (by kernel_rfl)) k1 bel lt1) (trodAll_cons_mk (Below.trod Tryz.laidOut (by kernel_rfl) (of_decide_eq_true (by kernel_rfl)) k2 bel lt2) (trodAll_cons_mk (Below.trod Tryz.laidOut (by kernel_rfl) (of_decide_eq_true (by kernel_rfl)) k3 bel lt3) (trodAll_cons_mk (Below.trod Tryz.laidOut (by kernel_rfl) (of_decide_eq_true (by kernel_rfl)) k4 bel lt4) (trodAll_cons_mk (Below.trod Tryz.laidOut (by kernel_rfl) (of_decide_eq_true (by kernel_rfl)) k5 bel lt5) (trodAll_cons_mk (Below.trod Tryz.laidOut (by kernel_rfl) (of_decide_eq_true (by kernel_rfl)) k6 bel lt6) trodAll_mk0))))))), rfl, bel.frame _, fun h => by cases h⟩

theorem law_holds : Rows.FnExactSegWeakSaid :=
 OpenClaim.holds_of_wide 7 Tryz.f7 rfl rfl rfl rfl rfl rfl rfl ⟨rfl, rfl, rfl, rfl, rfl⟩ rfl rfl rfl rfl rfl (by kernel_rfl) Tryz.func7 (by kernel_rfl)
  (of_decide_eq_true (by kernel_rfl)) (by unfold Func.isWrapper; first | (rw [if_pos (by decide +kernel)]; kernel_rfl) | (rw [if_neg (by decide +kernel)]; exact ⟨rfl, rfl⟩))
  (fun os started H enc _ => law_lifted os started H enc)

#print axioms law_holds
end Go.Proofs.YtihpajiololfoaaGreat
