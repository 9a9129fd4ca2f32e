/-
  CONTRACTS of both ValJoins and of what brings two flagged pairs together.
-/
import Derived.Test.YtihpajiololfoaaGreatCc07
import Derived.Test.YtihpajiololfoaaGreatCc01
namespace Go.Proofs.YtihpajiololfoaaGreat
open Go.RowKit

def joinV (a b : Int) (s : Bool) (c d : Int) (t : Bool) : Int × Int × Bool := if okB a b && okB c d then ((joinM a b c d).1, (joinM a b c d).2, s && t) else (1, 0, true)
theorem ret_v {p : Int × Int × Bool} {x y : Int} {z : Bool} (h : p = (x, y, z)) : Ending.returned (.agg #[.int .i64 x, .int .i64 y, .bool z]) = .returned (.agg #[.int .i64 p.1, .int .i64 p.2.1, .bool p.2.2]) := by rw [h]
set_option maxRecDepth 100000 in
set_option maxHeartbeats 800000 in
theorem sVjoin_any (a b : Int) (s : Bool) (c d : Int) (t : Bool) (w : World) : Calls Tryz.prog 102 #[.agg #[.int .i64 a, .int .i64 b, .bool s], .agg #[.int .i64 c, .int .i64 d, .bool t]] w fun e w' => e = .returned (.agg #[.int .i64 (joinV a b s c d t).1, .int .i64 (joinV a b s c d t).2.1, .bool (joinV a b s c d t).2.2]) ∧ Below w.heap.size w w' := by
 cases h1 : okB a b
 ·have E : Hid (joinV a b s c d t = (1, 0, true)) := mkHid (by unfold joinV; rw [h1]; simp)
  go_enter Tryz.func102, Tryz.ntmps102
  go_wp2_with fail
  obtain ⟨w0, hw0⟩ : ∃ x : World, ((w.alloc (.cells #[.int .i64 a, .int .i64 b, .bool s] 55)).alloc (.cells #[.int .i64 c, .int .i64 d, .bool t] 55)).alloc (.cells #[.int .i64 0, .int .i64 0, .bool false] 55) = x := ⟨_, rfl⟩
  have HB0 : Hid (Below w.heap.size w w0) := mkHid (by rw [← hw0]; exact bl_alloc (bl_alloc (bl_alloc (Below.refl _ _) _) _) _)
  have HX0 : Hid (V3 w0 w.heap.size a b s) := mkHid (by rw [← hw0]; constructor <;> simp [go_sem])
  have HY0 : Hid (V3 w0 (w.heap.size + 1) c d t) := mkHid (by rw [← hw0]; constructor <;> simp [go_sem])
  have HZ0 : Hid (V3 w0 (w.heap.size + 1 + 1) 0 0 false) := mkHid (by rw [← hw0]; constructor <;> simp [go_sem])
  rw [hw0]
  clear hw0
  refine (sVok_any a b s _).mono ?_
  rintro e w1 ⟨rfl, hb⟩
  have HB1 := mkHid (below_step HB0.out hb)
  have HX1 := mkHid (HX0.out.below hb)
  have HY1 := mkHid (HY0.out.below hb)
  have HZ1 := mkHid (HZ0.out.below hb)
  clear hb HB0 HX0 HY0 HZ0
  go_wp2_with fail
  refine (sVnone_any _).mono ?_
  rintro e w2 ⟨rfl, hb⟩
  have HB2 := mkHid (below_step HB1.out hb)
  have HX2 := mkHid (HX1.out.below hb)
  have HY2 := mkHid (HY1.out.below hb)
  have HZ2 := mkHid (HZ1.out.below hb)
  clear hb HB1 HX1 HY1 HZ1
  obtain ⟨q0, q1, q2, q3, q4, q5⟩ := HZ2.out
  go_wp2
  exact bodyPost_ret (v := .agg #[.int .i64 1, .int .i64 0, .bool true]) (by simp [results, Tryz.results102, go_sem, *]) rfl ⟨ret_v E.out, bl_set (bl_set (bl_set HB2.out (by show w.heap.size ≤ (w.heap.size + 1 + 1); omega) _) (by show w.heap.size ≤ (w.heap.size + 1 + 1); omega) _) (by show w.heap.size ≤ (w.heap.size + 1 + 1); omega) _⟩
 ·cases h2 : okB c d
  ·have E : Hid (joinV a b s c d t = (1, 0, true)) := mkHid (by unfold joinV; rw [h2]; simp)
   go_enter Tryz.func102, Tryz.ntmps102
   go_wp2_with fail
   obtain ⟨w0, hw0⟩ : ∃ x : World, ((w.alloc (.cells #[.int .i64 a, .int .i64 b, .bool s] 55)).alloc (.cells #[.int .i64 c, .int .i64 d, .bool t] 55)).alloc (.cells #[.int .i64 0, .int .i64 0, .bool false] 55) = x := ⟨_, rfl⟩
   have HB0 : Hid (Below w.heap.size w w0) := mkHid (by rw [← hw0]; exact bl_alloc (bl_alloc (bl_alloc (Below.refl _ _) _) _) _)
   have HX0 : Hid (V3 w0 w.heap.size a b s) := mkHid (by rw [← hw0]; constructor <;> simp [go_sem])
   have HY0 : Hid (V3 w0 (w.heap.size + 1) c d t) := mkHid (by rw [← hw0]; constructor <;> simp [go_sem])
   have HZ0 : Hid (V3 w0 (w.heap.size + 1 + 1) 0 0 false) := mkHid (by rw [← hw0]; constructor <;> simp [go_sem])
   rw [hw0]
   clear hw0
   refine (sVok_any a b s _).mono ?_
   rintro e w1 ⟨rfl, hb⟩
   have HB1 := mkHid (below_step HB0.out hb)
   have HX1 := mkHid (HX0.out.below hb)
   have HY1 := mkHid (HY0.out.below hb)
   have HZ1 := mkHid (HZ0.out.below hb)
   clear hb HB0 HX0 HY0 HZ0
   obtain ⟨q0, q1, q2, q3, q4, q5⟩ := HY1.out
   go_wp2_with fail
   clear q0 q1 q2 q3 q4 q5
   refine (sVok_any c d t _).mono ?_
   rintro e w2 ⟨rfl, hb⟩
   have HB2 := mkHid (below_step HB1.out hb)
   have HX2 := mkHid (HX1.out.below hb)
   have HY2 := mkHid (HY1.out.below hb)
   have HZ2 := mkHid (HZ1.out.below hb)
   clear hb HB1 HX1 HY1 HZ1
   go_wp2_with fail
   refine (sVnone_any _).mono ?_
   rintro e w3 ⟨rfl, hb⟩
   have HB3 := mkHid (below_step HB2.out hb)
   have HX3 := mkHid (HX2.out.below hb)
   have HY3 := mkHid (HY2.out.below hb)
   have HZ3 := mkHid (HZ2.out.below hb)
   clear hb HB2 HX2 HY2 HZ2
   obtain ⟨q0, q1, q2, q3, q4, q5⟩ := HZ3.out
   go_wp2
   exact bodyPost_ret (v := .agg #[.int .i64 1, .int .i64 0, .bool true]) (by simp [results, Tryz.results102, go_sem, *]) rfl ⟨ret_v E.out, bl_set (bl_set (bl_set HB3.out (by show w.heap.size ≤ (w.heap.size + 1 + 1); omega) _) (by show w.heap.size ≤ (w.heap.size + 1 + 1); omega) _) (by show w.heap.size ≤ (w.heap.size + 1 + 1); omega) _⟩
  ·cases s
   ·have E : Hid (joinV a b false c d t = ((joinM a b c d).1, (joinM a b c d).2, false)) := mkHid (by unfold joinV; rw [h1, h2]; simp)
    obtain ⟨r1, hr1⟩ : ∃ x, (joinM a b c d).1 = x := ⟨_, rfl⟩
    obtain ⟨r2, hr2⟩ : ∃ x, (joinM a b c d).2 = x := ⟨_, rfl⟩
    rw [hr1, hr2] at E
    have HR1 := mkHid hr1
    have HR2 := mkHid hr2
    clear hr1 hr2
    go_enter Tryz.func102, Tryz.ntmps102
    go_wp2_with fail
    obtain ⟨w0, hw0⟩ : ∃ x : World, ((w.alloc (.cells #[.int .i64 a, .int .i64 b, .bool false] 55)).alloc (.cells #[.int .i64 c, .int .i64 d, .bool t] 55)).alloc (.cells #[.int .i64 0, .int .i64 0, .bool false] 55) = x := ⟨_, rfl⟩
    have HB0 : Hid (Below w.heap.size w w0) := mkHid (by rw [← hw0]; exact bl_alloc (bl_alloc (bl_alloc (Below.refl _ _) _) _) _)
    have HX0 : Hid (V3 w0 w.heap.size a b false) := mkHid (by rw [← hw0]; constructor <;> simp [go_sem])
    have HY0 : Hid (V3 w0 (w.heap.size + 1) c d t) := mkHid (by rw [← hw0]; constructor <;> simp [go_sem])
    have HZ0 : Hid (V3 w0 (w.heap.size + 1 + 1) 0 0 false) := mkHid (by rw [← hw0]; constructor <;> simp [go_sem])
    rw [hw0]
    clear hw0
    refine (sVok_any a b false _).mono ?_
    rintro e w1 ⟨rfl, hb⟩
    have HB1 := mkHid (below_step HB0.out hb)
    have HX1 := mkHid (HX0.out.below hb)
    have HY1 := mkHid (HY0.out.below hb)
    have HZ1 := mkHid (HZ0.out.below hb)
    clear hb HB0 HX0 HY0 HZ0
    obtain ⟨q0, q1, q2, q3, q4, q5⟩ := HY1.out
    go_wp2_with fail
    clear q0 q1 q2 q3 q4 q5
    refine (sVok_any c d t _).mono ?_
    rintro e w2 ⟨rfl, hb⟩
    have HB2 := mkHid (below_step HB1.out hb)
    have HX2 := mkHid (HX1.out.below hb)
    have HY2 := mkHid (HY1.out.below hb)
    have HZ2 := mkHid (HZ1.out.below hb)
    clear hb HB1 HX1 HY1 HZ1
    go_wp2_with fail
    have HB := mkHid HB2.out.drew
    have HX := mkHid HX2.out.drew
    have HY := mkHid HY2.out.drew
    have HZ := mkHid HZ2.out.drew
    have hsz0 : w.heap.size + 1 + 1 < w2.heap.size := HZ2.out.lt
    refine wp_region_inv2 (fun zA0 L zA v => ∃ (zB : Nat → Bool) (zS : Nat → Value), L = #[zB 0, zB 1, zB 2, zB 3, zB 4, zB 5, zB 6, zB 7, zB 8, zB 9, zB 10, zB 11, zB 12] ∧ zA = puts zA0 [(14, zS 14), (15, zS 15), (16, zS 16), (17, zS 17), (18, zS 18), (19, zS 19), (20, zS 20), (21, zS 21), (22, zS 22), (23, zS 23), (24, zS 24), (25, zS 25)] ∧ FF 14 [.pointer (some ⟨w.heap.size, 0, none⟩), .agg #[.int .i64 a, .int .i64 b], .pointer (some ⟨(w.heap.size + 1), 0, none⟩), .agg #[.int .i64 c, .int .i64 d], .agg #[.int .i64 r1, .int .i64 r2], .pointer (some ⟨w.heap.size, 2, none⟩), .bool false, .bool false, undef, undef, .bool false, .agg #[.int .i64 r1, .int .i64 r2, .bool false]] zB zS ∧ (Below w.heap.size w v ∧ V3 v w.heap.size a b false ∧ V3 v (w.heap.size + 1) c d t ∧ ((zB 12) = false → V3 v (w.heap.size + 1 + 1) 0 0 false) ∧ ((zB 12) = true → V3 v (w.heap.size + 1 + 1) r1 r2 false))) (by kernel_rfl) ?_ ?_ ?_
    ·exact ⟨fun _ => false, fun _ => undef, rfl, by kernel_rfl, ff0, ⟨HB.out, HX.out, HY.out, fun _ => HZ.out, fun e => ft e⟩⟩
    ·refine StepsI.cons rfl ?_ ?_
     ·rintro L zA v ⟨zB, zS, rfl, rfl, hF, hW⟩ hL hm K hK
      have hb0 : zB 0 = false := by simpa using hL
      clear hL hm
      simp only [pE]
      go_simp
      exact hK.out _ _ ⟨ups zB [0], upv _ _ zS [0], rfl, by kernel_rfl, rk hF rfl, hW⟩
     refine StepsI.cons rfl ?_ ?_
     ·rintro L zA v ⟨zB, zS, rfl, rfl, hF, hW⟩ hL hm K hK
      have hb1 : zB 1 = false := by simpa using hL
      have hb0 : zB 0 = true := mt 0 hm (by kernel_rfl)
      have e0 : zS 14 = .pointer (some ⟨w.heap.size, 0, none⟩) := hF 0 _ rfl hb0
      clear hL hm
      simp only [pE]
      simp only [e0]
      obtain ⟨q0, q1, q2, _, _, _⟩ := hW.2.1
      go_simp
      exact hK.out _ _ ⟨ups zB [1], upv _ _ zS [1, 0], rfl, by kernel_rfl, rk hF rfl, hW⟩
     refine StepsI.cons rfl ?_ ?_
     ·rintro L zA v ⟨zB, zS, rfl, rfl, hF, hW⟩ hL hm K hK
      have hb2 : zB 2 = false := by simpa using hL
      clear hL hm
      simp only [pE]
      go_simp
      exact hK.out _ _ ⟨ups zB [2], upv _ _ zS [2], rfl, by kernel_rfl, rk hF rfl, hW⟩
     refine StepsI.cons rfl ?_ ?_
     ·rintro L zA v ⟨zB, zS, rfl, rfl, hF, hW⟩ hL hm K hK
      have hb3 : zB 3 = false := by simpa using hL
      have hb2 : zB 2 = true := mt 2 hm (by kernel_rfl)
      have e2 : zS 16 = .pointer (some ⟨(w.heap.size + 1), 0, none⟩) := hF 2 _ rfl hb2
      clear hL hm
      simp only [pE]
      simp only [e2]
      obtain ⟨q0, q1, q2, _, _, _⟩ := hW.2.2.1
      go_simp
      exact hK.out _ _ ⟨ups zB [3], upv _ _ zS [3, 2], rfl, by kernel_rfl, rk hF rfl, hW⟩
     refine StepsI.cons rfl ?_ ?_
     ·rintro L zA v ⟨zB, zS, rfl, rfl, hF, hW⟩ hL hm K hK
      have hb4 : zB 4 = false := by simpa using hL
      have hb1 : zB 1 = true := mt 1 hm (by kernel_rfl)
      have hb3 : zB 3 = true := mt 3 hm (by kernel_rfl)
      have e1 : zS 15 = .agg #[.int .i64 a, .int .i64 b] := hF 1 _ rfl hb1
      have e3 : zS 17 = .agg #[.int .i64 c, .int .i64 d] := hF 3 _ rfl hb3
      clear hL hm
      simp only [pE]
      simp only [e1, e3]
      go_simp
      refine (sJoin_any a b c d _).mono ?_
      rintro e v2 ⟨rfl, hb⟩
      rw [HR1.out, HR2.out]
      go_wp2_with fail
      exact hK.out _ _ ⟨ups zB [4], upv _ _ zS [4, 3, 1], rfl, by kernel_rfl, rk hF rfl, ⟨below_step hW.1 hb, hW.2.1.below hb, hW.2.2.1.below hb, fun e => (hW.2.2.2.1 e).below hb, fun e => (hW.2.2.2.2 e).below hb⟩⟩
     refine StepsI.cons rfl ?_ ?_
     ·rintro L zA v ⟨zB, zS, rfl, rfl, hF, hW⟩ hL hm K hK
      have hb5 : zB 5 = false := by simpa using hL
      clear hL hm
      simp only [pE]
      go_simp
      exact hK.out _ _ ⟨ups zB [5], upv _ _ zS [5], rfl, by kernel_rfl, rk hF rfl, hW⟩
     refine StepsI.cons rfl ?_ ?_
     ·rintro L zA v ⟨zB, zS, rfl, rfl, hF, hW⟩ hL hm K hK
      have hb6 : zB 6 = false := by simpa using hL
      have hb5 : zB 5 = true := mt 5 hm (by kernel_rfl)
      have e5 : zS 19 = .pointer (some ⟨w.heap.size, 2, none⟩) := hF 5 _ rfl hb5
      clear hL hm
      simp only [pE]
      simp only [e5]
      obtain ⟨q0, q1, q2, _, _, _⟩ := hW.2.1
      go_simp
      exact hK.out _ _ ⟨ups zB [6], upv _ _ zS [6, 5], rfl, by kernel_rfl, rk hF rfl, hW⟩
     refine StepsI.cons rfl ?_ ?_
     ·rintro L zA v ⟨zB, zS, rfl, rfl, hF, hW⟩ hL hm K hK
      have hb7 : zB 7 = false := by simpa using hL
      have hb6 : zB 6 = true := mt 6 hm (by kernel_rfl)
      have e6 : zS 20 = .bool false := hF 6 _ rfl hb6
      clear hL hm
      simp only [pE]
      simp only [e6]
      go_simp
      exact hK.out _ _ ⟨ups zB [7], upv _ _ zS [7, 6], rfl, by kernel_rfl, rk hF rfl, hW⟩
     refine StepsI.cons rfl ?_ ?_
     ·rintro L zA v ⟨zB, zS, rfl, rfl, hF, hW⟩ hL hm K hK
      have hb8 : zB 8 = false := by simpa using hL
      have hb7 : zB 7 = true := mt 7 hm (by kernel_rfl)
      have e7 : zS 21 = .bool false := hF 7 _ rfl hb7
      clear hL hm
      simp only [pE]
      simp only [e7]
      rw [if_neg (by exact Bool.false_ne_true)]
      exact hK.out _ _ ⟨ups zB [8], upv _ _ zS [8, 7], rfl, by kernel_rfl, rk hF rfl, hW⟩
     refine StepsI.cons rfl ?_ ?_
     ·rintro L zA v ⟨zB, zS, rfl, rfl, hF, hW⟩ hL hm K hK
      have hb9 : zB 9 = false := by simpa using hL
      have hb7 : zB 7 = true := mt 7 hm (by kernel_rfl)
      have hb8 : zB 8 = true := mt 8 hm (by kernel_rfl)
      have e7 : zS 21 = .bool false := hF 7 _ rfl hb7
      have e8 : zS 22 = undef := hF 8 _ rfl hb8
      clear hL hm
      simp only [pE]
      simp only [e7, e8]
      rw [if_neg (by exact Bool.false_ne_true)]
      exact hK.out _ _ ⟨ups zB [9], upv _ _ zS [9, 8, 7], rfl, by kernel_rfl, rk hF rfl, hW⟩
     refine StepsI.cons rfl ?_ ?_
     ·rintro L zA v ⟨zB, zS, rfl, rfl, hF, hW⟩ hL hm K hK
      have hb10 : zB 10 = false := by simpa using hL
      have hb7 : zB 7 = true := mt 7 hm (by kernel_rfl)
      have hb9 : zB 9 = true := mt 9 hm (by kernel_rfl)
      have e7 : zS 21 = .bool false := hF 7 _ rfl hb7
      have e9 : zS 23 = undef := hF 9 _ rfl hb9
      clear hL hm
      simp only [pE]
      simp only [e7, e9]
      go_simp
      exact hK.out _ _ ⟨ups zB [10], upv _ _ zS [10, 9, 7], rfl, by kernel_rfl, rk hF rfl, hW⟩
     refine StepsI.cons rfl ?_ ?_
     ·rintro L zA v ⟨zB, zS, rfl, rfl, hF, hW⟩ hL hm K hK
      have hb11 : zB 11 = false := by simpa using hL
      have hb4 : zB 4 = true := mt 4 hm (by kernel_rfl)
      have hb10 : zB 10 = true := mt 10 hm (by kernel_rfl)
      have e4 : zS 18 = .agg #[.int .i64 r1, .int .i64 r2] := hF 4 _ rfl hb4
      have e10 : zS 24 = .bool false := hF 10 _ rfl hb10
      clear hL hm
      simp only [pE]
      simp only [e4, e10]
      go_simp
      exact hK.out _ _ ⟨ups zB [11], upv _ _ zS [11, 10, 4], rfl, by kernel_rfl, rk hF rfl, hW⟩
     refine StepsI.cons rfl ?_ ?_
     ·rintro L zA v ⟨zB, zS, rfl, rfl, hF, hW⟩ hL hm K hK
      have hb12 : zB 12 = false := by simpa using hL
      have hb11 : zB 11 = true := mt 11 hm (by kernel_rfl)
      have e11 : zS 25 = .agg #[.int .i64 r1, .int .i64 r2, .bool false] := hF 11 _ rfl hb11
      clear hL hm
      rw [hb12] at hW
      simp only [pE]
      simp only [e11]
      obtain ⟨hB, hX, hY, hZ0, hZ1⟩ := hW
      have hZ := hZ0 rfl
      have ⟨q0, q1, q2, q3, q4, q5⟩ := hZ
      go_simp
      exact hK.out _ _ ⟨ups zB [12], upv _ _ zS [11], rfl, by kernel_rfl, rk hF rfl, ⟨bl_set (bl_set (bl_set hB (by show w.heap.size ≤ (w.heap.size + 1 + 1); omega) _) (by show w.heap.size ≤ (w.heap.size + 1 + 1); omega) _) (by show w.heap.size ≤ (w.heap.size + 1 + 1); omega) _, hX.other (by omega) _ _ _, hY.other (by omega) _ _ _, fun e => tf e, fun _ => hZ.set _ _ _⟩⟩
     exact StepsI.nil (by kernel_rfl)
    ·rintro L zA v ⟨zB, zS, rfl, rfl, hF, hW⟩ hr
     have hu := all_up (by kernel_rfl) (N := 13) (by kernel_rfl) hr
     have hb0 : zB 0 = true := by simpa using hu 0 (by decide)
     have hb1 : zB 1 = true := by simpa using hu 1 (by decide)
     have hb2 : zB 2 = true := by simpa using hu 2 (by decide)
     have hb3 : zB 3 = true := by simpa using hu 3 (by decide)
     have hb4 : zB 4 = true := by simpa using hu 4 (by decide)
     have hb5 : zB 5 = true := by simpa using hu 5 (by decide)
     have hb6 : zB 6 = true := by simpa using hu 6 (by decide)
     have hb7 : zB 7 = true := by simpa using hu 7 (by decide)
     have hb8 : zB 8 = true := by simpa using hu 8 (by decide)
     have hb9 : zB 9 = true := by simpa using hu 9 (by decide)
     have hb10 : zB 10 = true := by simpa using hu 10 (by decide)
     have hb11 : zB 11 = true := by simpa using hu 11 (by decide)
     have hb12 : zB 12 = true := by simpa using hu 12 (by decide)
     have e0 : zS 14 = .pointer (some ⟨w.heap.size, 0, none⟩) := hF 0 _ rfl hb0
     have e1 : zS 15 = .agg #[.int .i64 a, .int .i64 b] := hF 1 _ rfl hb1
     have e2 : zS 16 = .pointer (some ⟨(w.heap.size + 1), 0, none⟩) := hF 2 _ rfl hb2
     have e3 : zS 17 = .agg #[.int .i64 c, .int .i64 d] := hF 3 _ rfl hb3
     have e4 : zS 18 = .agg #[.int .i64 r1, .int .i64 r2] := hF 4 _ rfl hb4
     have e5 : zS 19 = .pointer (some ⟨w.heap.size, 2, none⟩) := hF 5 _ rfl hb5
     have e6 : zS 20 = .bool false := hF 6 _ rfl hb6
     have e7 : zS 21 = .bool false := hF 7 _ rfl hb7
     have e8 : zS 22 = undef := hF 8 _ rfl hb8
     have e9 : zS 23 = undef := hF 9 _ rfl hb9
     have e10 : zS 24 = .bool false := hF 10 _ rfl hb10
     have e11 : zS 25 = .agg #[.int .i64 r1, .int .i64 r2, .bool false] := hF 11 _ rfl hb11
     rw [hb12] at hW
     clear hu hr hF
     simp only [pE]
     simp only [e0, e1, e2, e3, e4, e5, e6, e7, e8, e9, e10, e11]
     clear e0 e1 e2 e3 e4 e5 e6 e7 e8 e9 e10 e11
     clear hb0 hb1 hb2 hb3 hb4 hb5 hb6 hb7 hb8 hb9 hb10 hb11 hb12
     clear zB zS
     obtain ⟨hB, hX, hY, hZ0, hZ1⟩ := hW
     obtain ⟨q0, q1, q2, _, _, _⟩ := hZ1 rfl
     clear hX hY hZ0 hZ1
     go_wp2
     exact bodyPost_ret (v := .agg #[.int .i64 r1, .int .i64 r2, .bool false]) (by simp [results, Tryz.results102, go_sem, *]) rfl ⟨ret_v E.out, hB⟩
   ·have E : Hid (joinV a b true c d t = ((joinM a b c d).1, (joinM a b c d).2, t)) := mkHid (by unfold joinV; rw [h1, h2]; simp)
    obtain ⟨r1, hr1⟩ : ∃ x, (joinM a b c d).1 = x := ⟨_, rfl⟩
    obtain ⟨r2, hr2⟩ : ∃ x, (joinM a b c d).2 = x := ⟨_, rfl⟩
    rw [hr1, hr2] at E
    have HR1 := mkHid hr1
    have HR2 := mkHid hr2
    clear hr1 hr2
    go_enter Tryz.func102, Tryz.ntmps102
    go_wp2_with fail
    obtain ⟨w0, hw0⟩ : ∃ x : World, ((w.alloc (.cells #[.int .i64 a, .int .i64 b, .bool true] 55)).alloc (.cells #[.int .i64 c, .int .i64 d, .bool t] 55)).alloc (.cells #[.int .i64 0, .int .i64 0, .bool false] 55) = x := ⟨_, rfl⟩
    have HB0 : Hid (Below w.heap.size w w0) := mkHid (by rw [← hw0]; exact bl_alloc (bl_alloc (bl_alloc (Below.refl _ _) _) _) _)
    have HX0 : Hid (V3 w0 w.heap.size a b true) := mkHid (by rw [← hw0]; constructor <;> simp [go_sem])
    have HY0 : Hid (V3 w0 (w.heap.size + 1) c d t) := mkHid (by rw [← hw0]; constructor <;> simp [go_sem])
    have HZ0 : Hid (V3 w0 (w.heap.size + 1 + 1) 0 0 false) := mkHid (by rw [← hw0]; constructor <;> simp [go_sem])
    rw [hw0]
    clear hw0
    refine (sVok_any a b true _).mono ?_
    rintro e w1 ⟨rfl, hb⟩
    have HB1 := mkHid (below_step HB0.out hb)
    have HX1 := mkHid (HX0.out.below hb)
    have HY1 := mkHid (HY0.out.below hb)
    have HZ1 := mkHid (HZ0.out.below hb)
    clear hb HB0 HX0 HY0 HZ0
    obtain ⟨q0, q1, q2, q3, q4, q5⟩ := HY1.out
    go_wp2_with fail
    clear q0 q1 q2 q3 q4 q5
    refine (sVok_any c d t _).mono ?_
    rintro e w2 ⟨rfl, hb⟩
    have HB2 := mkHid (below_step HB1.out hb)
    have HX2 := mkHid (HX1.out.below hb)
    have HY2 := mkHid (HY1.out.below hb)
    have HZ2 := mkHid (HZ1.out.below hb)
    clear hb HB1 HX1 HY1 HZ1
    go_wp2_with fail
    have HB := mkHid HB2.out.drew
    have HX := mkHid HX2.out.drew
    have HY := mkHid HY2.out.drew
    have HZ := mkHid HZ2.out.drew
    have hsz0 : w.heap.size + 1 + 1 < w2.heap.size := HZ2.out.lt
    refine wp_region_inv2 (fun zA0 L zA v => ∃ (zB : Nat → Bool) (zS : Nat → Value), L = #[zB 0, zB 1, zB 2, zB 3, zB 4, zB 5, zB 6, zB 7, zB 8, zB 9, zB 10, zB 11, zB 12] ∧ zA = puts zA0 [(14, zS 14), (15, zS 15), (16, zS 16), (17, zS 17), (18, zS 18), (19, zS 19), (20, zS 20), (21, zS 21), (22, zS 22), (23, zS 23), (24, zS 24), (25, zS 25)] ∧ FF 14 [.pointer (some ⟨w.heap.size, 0, none⟩), .agg #[.int .i64 a, .int .i64 b], .pointer (some ⟨(w.heap.size + 1), 0, none⟩), .agg #[.int .i64 c, .int .i64 d], .agg #[.int .i64 r1, .int .i64 r2], .pointer (some ⟨w.heap.size, 2, none⟩), .bool true, .bool true, .pointer (some ⟨(w.heap.size + 1), 2, none⟩), .bool t, .bool t, .agg #[.int .i64 r1, .int .i64 r2, .bool t]] zB zS ∧ (Below w.heap.size w v ∧ V3 v w.heap.size a b true ∧ V3 v (w.heap.size + 1) c d t ∧ ((zB 12) = false → V3 v (w.heap.size + 1 + 1) 0 0 false) ∧ ((zB 12) = true → V3 v (w.heap.size + 1 + 1) r1 r2 t))) (by kernel_rfl) ?_ ?_ ?_
    ·exact ⟨fun _ => false, fun _ => undef, rfl, by kernel_rfl, ff0, ⟨HB.out, HX.out, HY.out, fun _ => HZ.out, fun e => ft e⟩⟩
    ·refine StepsI.cons rfl ?_ ?_
     ·rintro L zA v ⟨zB, zS, rfl, rfl, hF, hW⟩ hL hm K hK
      have hb0 : zB 0 = false := by simpa using hL
      clear hL hm
      simp only [pE]
      go_simp
      exact hK.out _ _ ⟨ups zB [0], upv _ _ zS [0], rfl, by kernel_rfl, rk hF rfl, hW⟩
     refine StepsI.cons rfl ?_ ?_
     ·rintro L zA v ⟨zB, zS, rfl, rfl, hF, hW⟩ hL hm K hK
      have hb1 : zB 1 = false := by simpa using hL
      have hb0 : zB 0 = true := mt 0 hm (by kernel_rfl)
      have e0 : zS 14 = .pointer (some ⟨w.heap.size, 0, none⟩) := hF 0 _ rfl hb0
      clear hL hm
      simp only [pE]
      simp only [e0]
      obtain ⟨q0, q1, q2, _, _, _⟩ := hW.2.1
      go_simp
      exact hK.out _ _ ⟨ups zB [1], upv _ _ zS [1, 0], rfl, by kernel_rfl, rk hF rfl, hW⟩
     refine StepsI.cons rfl ?_ ?_
     ·rintro L zA v ⟨zB, zS, rfl, rfl, hF, hW⟩ hL hm K hK
      have hb2 : zB 2 = false := by simpa using hL
      clear hL hm
      simp only [pE]
      go_simp
      exact hK.out _ _ ⟨ups zB [2], upv _ _ zS [2], rfl, by kernel_rfl, rk hF rfl, hW⟩
     refine StepsI.cons rfl ?_ ?_
     ·rintro L zA v ⟨zB, zS, rfl, rfl, hF, hW⟩ hL hm K hK
      have hb3 : zB 3 = false := by simpa using hL
      have hb2 : zB 2 = true := mt 2 hm (by kernel_rfl)
      have e2 : zS 16 = .pointer (some ⟨(w.heap.size + 1), 0, none⟩) := hF 2 _ rfl hb2
      clear hL hm
      simp only [pE]
      simp only [e2]
      obtain ⟨q0, q1, q2, _, _, _⟩ := hW.2.2.1
      go_simp
      exact hK.out _ _ ⟨ups zB [3], upv _ _ zS [3, 2], rfl, by kernel_rfl, rk hF rfl, hW⟩
     refine StepsI.cons rfl ?_ ?_
     ·rintro L zA v ⟨zB, zS, rfl, rfl, hF, hW⟩ hL hm K hK
      have hb4 : zB 4 = false := by simpa using hL
      have hb1 : zB 1 = true := mt 1 hm (by kernel_rfl)
      have hb3 : zB 3 = true := mt 3 hm (by kernel_rfl)
      have e1 : zS 15 = .agg #[.int .i64 a, .int .i64 b] := hF 1 _ rfl hb1
      have e3 : zS 17 = .agg #[.int .i64 c, .int .i64 d] := hF 3 _ rfl hb3
      clear hL hm
      simp only [pE]
      simp only [e1, e3]
      go_simp
      refine (sJoin_any a b c d _).mono ?_
      rintro e v2 ⟨rfl, hb⟩
      rw [HR1.out, HR2.out]
      go_wp2_with fail
      exact hK.out _ _ ⟨ups zB [4], upv _ _ zS [4, 3, 1], rfl, by kernel_rfl, rk hF rfl, ⟨below_step hW.1 hb, hW.2.1.below hb, hW.2.2.1.below hb, fun e => (hW.2.2.2.1 e).below hb, fun e => (hW.2.2.2.2 e).below hb⟩⟩
     refine StepsI.cons rfl ?_ ?_
     ·rintro L zA v ⟨zB, zS, rfl, rfl, hF, hW⟩ hL hm K hK
      have hb5 : zB 5 = false := by simpa using hL
      clear hL hm
      simp only [pE]
      go_simp
      exact hK.out _ _ ⟨ups zB [5], upv _ _ zS [5], rfl, by kernel_rfl, rk hF rfl, hW⟩
     refine StepsI.cons rfl ?_ ?_
     ·rintro L zA v ⟨zB, zS, rfl, rfl, hF, hW⟩ hL hm K hK
      have hb6 : zB 6 = false := by simpa using hL
      have hb5 : zB 5 = true := mt 5 hm (by kernel_rfl)
      have e5 : zS 19 = .pointer (some ⟨w.heap.size, 2, none⟩) := hF 5 _ rfl hb5
      clear hL hm
      simp only [pE]
      simp only [e5]
      obtain ⟨q0, q1, q2, _, _, _⟩ := hW.2.1
      go_simp
      exact hK.out _ _ ⟨ups zB [6], upv _ _ zS [6, 5], rfl, by kernel_rfl, rk hF rfl, hW⟩
     refine StepsI.cons rfl ?_ ?_
     ·rintro L zA v ⟨zB, zS, rfl, rfl, hF, hW⟩ hL hm K hK
      have hb7 : zB 7 = false := by simpa using hL
      have hb6 : zB 6 = true := mt 6 hm (by kernel_rfl)
      have e6 : zS 20 = .bool true := hF 6 _ rfl hb6
      clear hL hm
      simp only [pE]
      simp only [e6]
      go_simp
      exact hK.out _ _ ⟨ups zB [7], upv _ _ zS [7, 6], rfl, by kernel_rfl, rk hF rfl, hW⟩
     refine StepsI.cons rfl ?_ ?_
     ·rintro L zA v ⟨zB, zS, rfl, rfl, hF, hW⟩ hL hm K hK
      have hb8 : zB 8 = false := by simpa using hL
      have hb7 : zB 7 = true := mt 7 hm (by kernel_rfl)
      have e7 : zS 21 = .bool true := hF 7 _ rfl hb7
      clear hL hm
      simp only [pE]
      simp only [e7]
      go_simp
      exact hK.out _ _ ⟨ups zB [8], upv _ _ zS [8, 7], rfl, by kernel_rfl, rk hF rfl, hW⟩
     refine StepsI.cons rfl ?_ ?_
     ·rintro L zA v ⟨zB, zS, rfl, rfl, hF, hW⟩ hL hm K hK
      have hb9 : zB 9 = false := by simpa using hL
      have hb7 : zB 7 = true := mt 7 hm (by kernel_rfl)
      have hb8 : zB 8 = true := mt 8 hm (by kernel_rfl)
      have e7 : zS 21 = .bool true := hF 7 _ rfl hb7
      have e8 : zS 22 = .pointer (some ⟨(w.heap.size + 1), 2, none⟩) := hF 8 _ rfl hb8
      clear hL hm
      simp only [pE]
      simp only [e7, e8]
      obtain ⟨q0, q1, q2, _, _, _⟩ := hW.2.2.1
      go_simp
      exact hK.out _ _ ⟨ups zB [9], upv _ _ zS [9, 8, 7], rfl, by kernel_rfl, rk hF rfl, hW⟩
     refine StepsI.cons rfl ?_ ?_
     ·rintro L zA v ⟨zB, zS, rfl, rfl, hF, hW⟩ hL hm K hK
      have hb10 : zB 10 = false := by simpa using hL
      have hb7 : zB 7 = true := mt 7 hm (by kernel_rfl)
      have hb9 : zB 9 = true := mt 9 hm (by kernel_rfl)
      have e7 : zS 21 = .bool true := hF 7 _ rfl hb7
      have e9 : zS 23 = .bool t := hF 9 _ rfl hb9
      clear hL hm
      simp only [pE]
      simp only [e7, e9]
      go_simp
      exact hK.out _ _ ⟨ups zB [10], upv _ _ zS [10, 9, 7], rfl, by kernel_rfl, rk hF rfl, hW⟩
     refine StepsI.cons rfl ?_ ?_
     ·rintro L zA v ⟨zB, zS, rfl, rfl, hF, hW⟩ hL hm K hK
      have hb11 : zB 11 = false := by simpa using hL
      have hb4 : zB 4 = true := mt 4 hm (by kernel_rfl)
      have hb10 : zB 10 = true := mt 10 hm (by kernel_rfl)
      have e4 : zS 18 = .agg #[.int .i64 r1, .int .i64 r2] := hF 4 _ rfl hb4
      have e10 : zS 24 = .bool t := hF 10 _ rfl hb10
      clear hL hm
      simp only [pE]
      simp only [e4, e10]
      go_simp
      exact hK.out _ _ ⟨ups zB [11], upv _ _ zS [11, 10, 4], rfl, by kernel_rfl, rk hF rfl, hW⟩
     refine StepsI.cons rfl ?_ ?_
     ·rintro L zA v ⟨zB, zS, rfl, rfl, hF, hW⟩ hL hm K hK
      have hb12 : zB 12 = false := by simpa using hL
      have hb11 : zB 11 = true := mt 11 hm (by kernel_rfl)
      have e11 : zS 25 = .agg #[.int .i64 r1, .int .i64 r2, .bool t] := hF 11 _ rfl hb11
      clear hL hm
      rw [hb12] at hW
      simp only [pE]
      simp only [e11]
      obtain ⟨hB, hX, hY, hZ0, hZ1⟩ := hW
      have hZ := hZ0 rfl
      have ⟨q0, q1, q2, q3, q4, q5⟩ := hZ
      go_simp
      exact hK.out _ _ ⟨ups zB [12], upv _ _ zS [11], rfl, by kernel_rfl, rk hF rfl, ⟨bl_set (bl_set (bl_set hB (by show w.heap.size ≤ (w.heap.size + 1 + 1); omega) _) (by show w.heap.size ≤ (w.heap.size + 1 + 1); omega) _) (by show w.heap.size ≤ (w.heap.size + 1 + 1); omega) _, hX.other (by omega) _ _ _, hY.other (by omega) _ _ _, fun e => tf e, fun _ => hZ.set _ _ _⟩⟩
     exact StepsI.nil (by kernel_rfl)
    ·rintro L zA v ⟨zB, zS, rfl, rfl, hF, hW⟩ hr
     have hu := all_up (by kernel_rfl) (N := 13) (by kernel_rfl) hr
     have hb0 : zB 0 = true := by simpa using hu 0 (by decide)
     have hb1 : zB 1 = true := by simpa using hu 1 (by decide)
     have hb2 : zB 2 = true := by simpa using hu 2 (by decide)
     have hb3 : zB 3 = true := by simpa using hu 3 (by decide)
     have hb4 : zB 4 = true := by simpa using hu 4 (by decide)
     have hb5 : zB 5 = true := by simpa using hu 5 (by decide)
     have hb6 : zB 6 = true := by simpa using hu 6 (by decide)
     have hb7 : zB 7 = true := by simpa using hu 7 (by decide)
     have hb8 : zB 8 = true := by simpa using hu 8 (by decide)
     have hb9 : zB 9 = true := by simpa using hu 9 (by decide)
     have hb10 : zB 10 = true := by simpa using hu 10 (by decide)
     have hb11 : zB 11 = true := by simpa using hu 11 (by decide)
     have hb12 : zB 12 = true := by simpa using hu 12 (by decide)
     have e0 : zS 14 = .pointer (some ⟨w.heap.size, 0, none⟩) := hF 0 _ rfl hb0
     have e1 : zS 15 = .agg #[.int .i64 a, .int .i64 b] := hF 1 _ rfl hb1
     have e2 : zS 16 = .pointer (some ⟨(w.heap.size + 1), 0, none⟩) := hF 2 _ rfl hb2
     have e3 : zS 17 = .agg #[.int .i64 c, .int .i64 d] := hF 3 _ rfl hb3
     have e4 : zS 18 = .agg #[.int .i64 r1, .int .i64 r2] := hF 4 _ rfl hb4
     have e5 : zS 19 = .pointer (some ⟨w.heap.size, 2, none⟩) := hF 5 _ rfl hb5
     have e6 : zS 20 = .bool true := hF 6 _ rfl hb6
     have e7 : zS 21 = .bool true := hF 7 _ rfl hb7
     have e8 : zS 22 = .pointer (some ⟨(w.heap.size + 1), 2, none⟩) := hF 8 _ rfl hb8
     have e9 : zS 23 = .bool t := hF 9 _ rfl hb9
     have e10 : zS 24 = .bool t := hF 10 _ rfl hb10
     have e11 : zS 25 = .agg #[.int .i64 r1, .int .i64 r2, .bool t] := hF 11 _ rfl hb11
     rw [hb12] at hW
     clear hu hr hF
     simp only [pE]
     simp only [e0, e1, e2, e3, e4, e5, e6, e7, e8, e9, e10, e11]
     clear e0 e1 e2 e3 e4 e5 e6 e7 e8 e9 e10 e11
     clear hb0 hb1 hb2 hb3 hb4 hb5 hb6 hb7 hb8 hb9 hb10 hb11 hb12
     clear zB zS
     obtain ⟨hB, hX, hY, hZ0, hZ1⟩ := hW
     obtain ⟨q0, q1, q2, _, _, _⟩ := hZ1 rfl
     clear hX hY hZ0 hZ1
     go_wp2
     exact bodyPost_ret (v := .agg #[.int .i64 r1, .int .i64 r2, .bool t]) (by simp [results, Tryz.results102, go_sem, *]) rfl ⟨ret_v E.out, hB⟩
end Go.Proofs.YtihpajiololfoaaGreat
