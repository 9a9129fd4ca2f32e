/-
  ONE REGION of the specification's SegOk (a term asked of, in every order), case b.
-/
import Derived.Test.YtihpajiololfoaaGreatSh14
namespace Go.Proofs.YtihpajiololfoaaGreat
open Go.RowKit

set_option maxRecDepth 1000000 in
set_option maxHeartbeats 6400000 in
theorem reg15_b (Q : Exit → Act → World → Prop) (wr : World) (n : Int) (x : Y) (X b off cp i j : Nat) (l : List Y) (HSO : Hid (symOkB n x.1 x.2 = true)) (hcell : ∀ v, Below wr.heap.size wr v → v.cell? ⟨b, off + j * 2, none⟩ = some (.int .i64 x.1) ∧ v.cell? ⟨b, off + j * 2 + 1, none⟩ = some (.int .i64 x.2)) (j0 : (0 : Int) ≤ (j : Int)) (j1 : (j : Int) < (l.length : Int)) (jm : Nat) (y : Y) (hwj : IntKind.i64.wrap ((j : Int) - 1) = (jm : Int)) (hj2 : decide (0 < j) = true) (m0 : (0 : Int) ≤ (jm : Int)) (m1 : (jm : Int) < (l.length : Int)) (hcelm : ∀ v, Below wr.heap.size wr v → v.cell? ⟨b, off + jm * 2, none⟩ = some (.int .i64 y.1) ∧ v.cell? ⟨b, off + jm * 2 + 1, none⟩ = some (.int .i64 y.2)) (HLE : Hid (lessB y.1 y.2 x.1 x.2 = false)) (u1 u2 u3 u4 u6 u7 u8 u12 u13 u14 u15 u16 u17 u18 u19 u20 u21 u22 u23 u24 u25 u26 u27 u28 u29 u30 u31 u32 u33 u34 u35 u36 u37 u38 u39 u40 u41 u42 u43 u44 u45 u46 u47 u48 u49 u50 u51 u52 u53 u54 u55 u56 u57 u58 u59 u60 u61 u62 u63 u64 u65 u66 u67 u68 u69 u70 u71 u72 u73 u74 u75 u76 u77 u78 u79 u80 u81 u82 u83 u84 u85 u86 u87 u88 u89 u90 u91 u92 u93 u94 u95 u96 u97 u98 u99 u100 u101 u102 u103 u104 u105 u106 u107 u108 u109 u110 u111 u112 u113 u114 u115 u116 u117 u118 u119 u120 u121 u122 u123 u124 u125 u126 u127 u128 u129 u130 : Value) (hend : ∀ va, Below wr.heap.size wr va → Q .normal ⟨#[.int .i64 n, u1, u2, u3, u4, .pointer (some ⟨X, 0, none⟩), u6, u7, u8, .int .i64 (i : Int), .slice (some ⟨b, off, none⟩) l.length cp, .int .i64 (j : Int), u12, u13, u14, u15, u16, u17, u18, u19, u20, u21, u22, u23, u24, u25, u26, u27, u28, u29, u30, u31, u32, u33, u34, u35, u36, u37, u38, u39, u40, u41, u42, u43, u44, u45, u46, u47, u48, u49, u50, u51, u52, u53, u54, u55, u56, u57, u58, u59, u60, u61, u62, u63, u64, u65, u66, u67, u68, u69, u70, .int .i64 n, .slice (some ⟨b, off, none⟩) l.length cp, .int .i64 (j : Int), .pointer (some ⟨b, off + j * 2, none⟩), .agg #[.int .i64 x.1, .int .i64 x.2], .bool true, .bool false, .bool false, .int .i64 (j : Int), .bool true, .bool true, .slice (some ⟨b, off, none⟩) l.length cp, .int .i64 (j : Int), .int .i64 (jm : Int), .pointer (some ⟨b, off + jm * 2, none⟩), .agg #[.int .i64 y.1, .int .i64 y.2], .slice (some ⟨b, off, none⟩) l.length cp, .int .i64 (j : Int), .pointer (some ⟨b, off + j * 2, none⟩), .agg #[.int .i64 x.1, .int .i64 x.2], .bool false, .bool true, .bool true, .bool true, .bool true, undef, undef, undef, undef, undef, undef, undef, undef, .bool true, u105, u106, u107, u108, u109, u110, u111, u112, u113, u114, u115, u116, u117, u118, u119, u120, u121, u122, u123, u124, u125, u126, u127, u128, u129, u130], []⟩ va) :
  Code.wp Tryz.prog reg15 Q ⟨#[.int .i64 n, u1, u2, u3, u4, .pointer (some ⟨X, 0, none⟩), u6, u7, u8, .int .i64 (i : Int), .slice (some ⟨b, off, none⟩) l.length cp, .int .i64 (j : Int), u12, u13, u14, u15, u16, u17, u18, u19, u20, u21, u22, u23, u24, u25, u26, u27, u28, u29, u30, u31, u32, u33, u34, u35, u36, u37, u38, u39, u40, u41, u42, u43, u44, u45, u46, u47, u48, u49, u50, u51, u52, u53, u54, u55, u56, u57, u58, u59, u60, u61, u62, u63, u64, u65, u66, u67, u68, u69, u70, u71, u72, u73, u74, u75, u76, u77, u78, u79, u80, u81, u82, u83, u84, u85, u86, u87, u88, u89, u90, u91, u92, u93, u94, u95, u96, u97, u98, u99, u100, u101, u102, u103, u104, u105, u106, u107, u108, u109, u110, u111, u112, u113, u114, u115, u116, u117, u118, u119, u120, u121, u122, u123, u124, u125, u126, u127, u128, u129, u130], []⟩ wr := by
 conv => arg 2; whnf
 refine wp_region_inv2 (fun zA0 L zA va => ∃ (zB : Nat → Bool) (zS : Nat → Value), L = #[zB 0, zB 1, zB 2, zB 3, zB 4, zB 5, zB 6, zB 7, zB 8, zB 9, zB 10, zB 11, zB 12, zB 13, zB 14, zB 15, zB 16, zB 17, zB 18, zB 19, zB 20, zB 21, zB 22, zB 23, zB 24, zB 25, zB 26, zB 27, zB 28, zB 29, zB 30, zB 31, zB 32, zB 33] ∧ zA = puts zA0 [(71, zS 71), (72, zS 72), (73, zS 73), (74, zS 74), (75, zS 75), (76, zS 76), (77, zS 77), (78, zS 78), (79, zS 79), (80, zS 80), (81, zS 81), (82, zS 82), (83, zS 83), (84, zS 84), (85, zS 85), (86, zS 86), (87, zS 87), (88, zS 88), (89, zS 89), (90, zS 90), (91, zS 91), (92, zS 92), (93, zS 93), (94, zS 94), (95, zS 95), (96, zS 96), (97, zS 97), (98, zS 98), (99, zS 99), (100, zS 100), (101, zS 101), (102, zS 102), (103, zS 103), (104, zS 104)] ∧ FF 71 [.int .i64 n, .slice (some ⟨b, off, none⟩) l.length cp, .int .i64 (j : Int), .pointer (some ⟨b, off + j * 2, none⟩), .agg #[.int .i64 x.1, .int .i64 x.2], .bool true, .bool false, .bool false, .int .i64 (j : Int), .bool true, .bool true, .slice (some ⟨b, off, none⟩) l.length cp, .int .i64 (j : Int), .int .i64 (jm : Int), .pointer (some ⟨b, off + jm * 2, none⟩), .agg #[.int .i64 y.1, .int .i64 y.2], .slice (some ⟨b, off, none⟩) l.length cp, .int .i64 (j : Int), .pointer (some ⟨b, off + j * 2, none⟩), .agg #[.int .i64 x.1, .int .i64 x.2], .bool false, .bool true, .bool true, .bool true, .bool true, undef, undef, undef, undef, undef, undef, undef, undef, .bool true] zB zS ∧ Below wr.heap.size wr va) (by kernel_rfl) ?_ ?_ ?_
 ·exact ⟨fun _ => false, fun zd => [u71, u72, u73, u74, u75, u76, u77, u78, u79, u80, u81, u82, u83, u84, u85, u86, u87, u88, u89, u90, u91, u92, u93, u94, u95, u96, u97, u98, u99, u100, u101, u102, u103, u104].getD (zd - 71) undef, rfl, by kernel_rfl, ff0, (Below.refl _ _).drew⟩
 ·refine StepsI.cons rfl ?_ ?_
  ·rintro L zA va ⟨zB, zS, rfl, rfl, hF, hW⟩ hL hm K hK
   have hb0 : zB 0 = false := by simpa using hL
   clear hL hm
   simp only [pE]
   go_simp
   exact hK.out _ _ ⟨ups zB [0], upv _ _ zS [0], rfl, by kernel_rfl, rk hF rfl, hW⟩
  refine StepsI.cons rfl ?_ ?_
  ·rintro L zA va ⟨zB, zS, rfl, rfl, hF, hW⟩ hL hm K hK
   have hb1 : zB 1 = false := by simpa using hL
   clear hL hm
   simp only [pE]
   go_simp
   exact hK.out _ _ ⟨ups zB [1], upv _ _ zS [1], rfl, by kernel_rfl, rk hF rfl, hW⟩
  refine StepsI.cons rfl ?_ ?_
  ·rintro L zA va ⟨zB, zS, rfl, rfl, hF, hW⟩ hL hm K hK
   have hb2 : zB 2 = false := by simpa using hL
   clear hL hm
   simp only [pE]
   go_simp
   exact hK.out _ _ ⟨ups zB [2], upv _ _ zS [2], rfl, by kernel_rfl, rk hF rfl, hW⟩
  refine StepsI.cons rfl ?_ ?_
  ·rintro L zA va ⟨zB, zS, rfl, rfl, hF, hW⟩ hL hm K hK
   have hb3 : zB 3 = false := by simpa using hL
   have hb1 : zB 1 = true := mt 1 hm (by kernel_rfl)
   have hb2 : zB 2 = true := mt 2 hm (by kernel_rfl)
   have e1 : zS 72 = .slice (some ⟨b, off, none⟩) l.length cp := hF 1 _ rfl hb1
   have e2 : zS 73 = .int .i64 (j : Int) := hF 2 _ rfl hb2
   clear hL hm
   simp only [pE]
   simp only [e1, e2]
   go_simp
   exact hK.out _ _ ⟨ups zB [3], upv _ _ zS [3, 2, 1], rfl, by kernel_rfl, rk hF rfl, hW⟩
  refine StepsI.cons rfl ?_ ?_
  ·rintro L zA va ⟨zB, zS, rfl, rfl, hF, hW⟩ hL hm K hK
   have hb4 : zB 4 = false := by simpa using hL
   have hb3 : zB 3 = true := mt 3 hm (by kernel_rfl)
   have e3 : zS 74 = .pointer (some ⟨b, off + j * 2, none⟩) := hF 3 _ rfl hb3
   clear hL hm
   simp only [pE]
   simp only [e3]
   have hC := hcell _ hW
   have d0 := hC.1
   have d1 := hC.2
   clear hC
   go_simp
   exact hK.out _ _ ⟨ups zB [4], upv _ _ zS [4, 3], rfl, by kernel_rfl, rk hF rfl, hW⟩
  refine StepsI.cons rfl ?_ ?_
  ·rintro L zA va ⟨zB, zS, rfl, rfl, hF, hW⟩ hL hm K hK
   have hb5 : zB 5 = false := by simpa using hL
   have hb0 : zB 0 = true := mt 0 hm (by kernel_rfl)
   have hb4 : zB 4 = true := mt 4 hm (by kernel_rfl)
   have e0 : zS 71 = .int .i64 n := hF 0 _ rfl hb0
   have e4 : zS 75 = .agg #[.int .i64 x.1, .int .i64 x.2] := hF 4 _ rfl hb4
   clear hL hm
   simp only [pE]
   simp only [e0, e4]
   go_simp
   refine (sSymOk_any n x.1 x.2 _).mono ?_
   rintro e va2 ⟨rfl, hb⟩
   rw [HSO.out]
   go_wp2_with fail
   exact hK.out _ _ ⟨ups zB [5], upv _ _ zS [5, 4, 0], rfl, by kernel_rfl, rk hF rfl, below_step hW hb⟩
  refine StepsI.cons rfl ?_ ?_
  ·rintro L zA va ⟨zB, zS, rfl, rfl, hF, hW⟩ hL hm K hK
   have hb6 : zB 6 = false := by simpa using hL
   have hb5 : zB 5 = true := mt 5 hm (by kernel_rfl)
   have e5 : zS 76 = .bool true := hF 5 _ rfl hb5
   clear hL hm
   simp only [pE]
   simp only [e5]
   go_simp
   exact hK.out _ _ ⟨ups zB [6], upv _ _ zS [6, 5], rfl, by kernel_rfl, rk hF rfl, hW⟩
  refine StepsI.cons rfl ?_ ?_
  ·rintro L zA va ⟨zB, zS, rfl, rfl, hF, hW⟩ hL hm K hK
   have hb7 : zB 7 = false := by simpa using hL
   have hb6 : zB 6 = true := mt 6 hm (by kernel_rfl)
   have e6 : zS 77 = .bool false := hF 6 _ rfl hb6
   clear hL hm
   simp only [pE]
   simp only [e6]
   go_simp
   exact hK.out _ _ ⟨ups zB [7], upv _ _ zS [7, 6], rfl, by kernel_rfl, rk hF rfl, hW⟩
  refine StepsI.cons rfl ?_ ?_
  ·rintro L zA va ⟨zB, zS, rfl, rfl, hF, hW⟩ hL hm K hK
   have hb8 : zB 8 = false := by simpa using hL
   have hb7 : zB 7 = true := mt 7 hm (by kernel_rfl)
   have e7 : zS 78 = .bool false := hF 7 _ rfl hb7
   clear hL hm
   simp only [pE]
   simp only [e7]
   go_simp
   exact hK.out _ _ ⟨ups zB [8], upv _ _ zS [8, 7], rfl, by kernel_rfl, rk hF rfl, hW⟩
  refine StepsI.cons rfl ?_ ?_
  ·rintro L zA va ⟨zB, zS, rfl, rfl, hF, hW⟩ hL hm K hK
   have hb9 : zB 9 = false := by simpa using hL
   have hb7 : zB 7 = true := mt 7 hm (by kernel_rfl)
   have hb8 : zB 8 = true := mt 8 hm (by kernel_rfl)
   have e7 : zS 78 = .bool false := hF 7 _ rfl hb7
   have e8 : zS 79 = .int .i64 (j : Int) := hF 8 _ rfl hb8
   clear hL hm
   simp only [pE]
   simp only [e7, e8]
   go_simp
   exact hK.out _ _ ⟨ups zB [9], upv _ _ zS [9, 8, 7], rfl, by kernel_rfl, rk hF rfl, hW⟩
  refine StepsI.cons rfl ?_ ?_
  ·rintro L zA va ⟨zB, zS, rfl, rfl, hF, hW⟩ hL hm K hK
   have hb10 : zB 10 = false := by simpa using hL
   have hb7 : zB 7 = true := mt 7 hm (by kernel_rfl)
   have hb9 : zB 9 = true := mt 9 hm (by kernel_rfl)
   have e7 : zS 78 = .bool false := hF 7 _ rfl hb7
   have e9 : zS 80 = .bool true := hF 9 _ rfl hb9
   clear hL hm
   simp only [pE]
   simp only [e7, e9]
   go_simp
   exact hK.out _ _ ⟨ups zB [10], upv _ _ zS [10, 9, 7], rfl, by kernel_rfl, rk hF rfl, hW⟩
  refine StepsI.cons rfl ?_ ?_
  ·rintro L zA va ⟨zB, zS, rfl, rfl, hF, hW⟩ hL hm K hK
   have hb11 : zB 11 = false := by simpa using hL
   have hb10 : zB 10 = true := mt 10 hm (by kernel_rfl)
   have e10 : zS 81 = .bool true := hF 10 _ rfl hb10
   clear hL hm
   simp only [pE]
   simp only [e10]
   go_simp
   exact hK.out _ _ ⟨ups zB [11], upv _ _ zS [11, 10], rfl, by kernel_rfl, rk hF rfl, hW⟩
  refine StepsI.cons rfl ?_ ?_
  ·rintro L zA va ⟨zB, zS, rfl, rfl, hF, hW⟩ hL hm K hK
   have hb12 : zB 12 = false := by simpa using hL
   have hb10 : zB 10 = true := mt 10 hm (by kernel_rfl)
   have e10 : zS 81 = .bool true := hF 10 _ rfl hb10
   clear hL hm
   simp only [pE]
   simp only [e10]
   go_simp
   exact hK.out _ _ ⟨ups zB [12], upv _ _ zS [12, 10], rfl, by kernel_rfl, rk hF rfl, hW⟩
  refine StepsI.cons rfl ?_ ?_
  ·rintro L zA va ⟨zB, zS, rfl, rfl, hF, hW⟩ hL hm K hK
   have hb13 : zB 13 = false := by simpa using hL
   have hb10 : zB 10 = true := mt 10 hm (by kernel_rfl)
   have hb12 : zB 12 = true := mt 12 hm (by kernel_rfl)
   have e10 : zS 81 = .bool true := hF 10 _ rfl hb10
   have e12 : zS 83 = .int .i64 (j : Int) := hF 12 _ rfl hb12
   clear hL hm
   simp only [pE]
   simp only [e10, e12]
   go_simp
   exact hK.out _ _ ⟨ups zB [13], upv _ _ zS [13, 12, 10], rfl, by kernel_rfl, rk hF rfl, hW⟩
  refine StepsI.cons rfl ?_ ?_
  ·rintro L zA va ⟨zB, zS, rfl, rfl, hF, hW⟩ hL hm K hK
   have hb14 : zB 14 = false := by simpa using hL
   have hb10 : zB 10 = true := mt 10 hm (by kernel_rfl)
   have hb11 : zB 11 = true := mt 11 hm (by kernel_rfl)
   have hb13 : zB 13 = true := mt 13 hm (by kernel_rfl)
   have e10 : zS 81 = .bool true := hF 10 _ rfl hb10
   have e11 : zS 82 = .slice (some ⟨b, off, none⟩) l.length cp := hF 11 _ rfl hb11
   have e13 : zS 84 = .int .i64 (jm : Int) := hF 13 _ rfl hb13
   clear hL hm
   simp only [pE]
   simp only [e10, e11, e13]
   go_simp
   exact hK.out _ _ ⟨ups zB [14], upv _ _ zS [14, 13, 11, 10], rfl, by kernel_rfl, rk hF rfl, hW⟩
  refine StepsI.cons rfl ?_ ?_
  ·rintro L zA va ⟨zB, zS, rfl, rfl, hF, hW⟩ hL hm K hK
   have hb15 : zB 15 = false := by simpa using hL
   have hb10 : zB 10 = true := mt 10 hm (by kernel_rfl)
   have hb14 : zB 14 = true := mt 14 hm (by kernel_rfl)
   have e10 : zS 81 = .bool true := hF 10 _ rfl hb10
   have e14 : zS 85 = .pointer (some ⟨b, off + jm * 2, none⟩) := hF 14 _ rfl hb14
   clear hL hm
   simp only [pE]
   simp only [e10, e14]
   have hC := hcelm _ hW
   have d0 := hC.1
   have d1 := hC.2
   clear hC
   go_simp
   exact hK.out _ _ ⟨ups zB [15], upv _ _ zS [15, 14, 10], rfl, by kernel_rfl, rk hF rfl, hW⟩
  refine StepsI.cons rfl ?_ ?_
  ·rintro L zA va ⟨zB, zS, rfl, rfl, hF, hW⟩ hL hm K hK
   have hb16 : zB 16 = false := by simpa using hL
   have hb10 : zB 10 = true := mt 10 hm (by kernel_rfl)
   have e10 : zS 81 = .bool true := hF 10 _ rfl hb10
   clear hL hm
   simp only [pE]
   simp only [e10]
   go_simp
   exact hK.out _ _ ⟨ups zB [16], upv _ _ zS [16, 10], rfl, by kernel_rfl, rk hF rfl, hW⟩
  refine StepsI.cons rfl ?_ ?_
  ·rintro L zA va ⟨zB, zS, rfl, rfl, hF, hW⟩ hL hm K hK
   have hb17 : zB 17 = false := by simpa using hL
   have hb10 : zB 10 = true := mt 10 hm (by kernel_rfl)
   have e10 : zS 81 = .bool true := hF 10 _ rfl hb10
   clear hL hm
   simp only [pE]
   simp only [e10]
   go_simp
   exact hK.out _ _ ⟨ups zB [17], upv _ _ zS [17, 10], rfl, by kernel_rfl, rk hF rfl, hW⟩
  refine StepsI.cons rfl ?_ ?_
  ·rintro L zA va ⟨zB, zS, rfl, rfl, hF, hW⟩ hL hm K hK
   have hb18 : zB 18 = false := by simpa using hL
   have hb10 : zB 10 = true := mt 10 hm (by kernel_rfl)
   have hb16 : zB 16 = true := mt 16 hm (by kernel_rfl)
   have hb17 : zB 17 = true := mt 17 hm (by kernel_rfl)
   have e10 : zS 81 = .bool true := hF 10 _ rfl hb10
   have e16 : zS 87 = .slice (some ⟨b, off, none⟩) l.length cp := hF 16 _ rfl hb16
   have e17 : zS 88 = .int .i64 (j : Int) := hF 17 _ rfl hb17
   clear hL hm
   simp only [pE]
   simp only [e10, e16, e17]
   go_simp
   exact hK.out _ _ ⟨ups zB [18], upv _ _ zS [18, 17, 16, 10], rfl, by kernel_rfl, rk hF rfl, hW⟩
  refine StepsI.cons rfl ?_ ?_
  ·rintro L zA va ⟨zB, zS, rfl, rfl, hF, hW⟩ hL hm K hK
   have hb19 : zB 19 = false := by simpa using hL
   have hb10 : zB 10 = true := mt 10 hm (by kernel_rfl)
   have hb18 : zB 18 = true := mt 18 hm (by kernel_rfl)
   have e10 : zS 81 = .bool true := hF 10 _ rfl hb10
   have e18 : zS 89 = .pointer (some ⟨b, off + j * 2, none⟩) := hF 18 _ rfl hb18
   clear hL hm
   simp only [pE]
   simp only [e10, e18]
   have hC := hcell _ hW
   have d0 := hC.1
   have d1 := hC.2
   clear hC
   go_simp
   exact hK.out _ _ ⟨ups zB [19], upv _ _ zS [19, 18, 10], rfl, by kernel_rfl, rk hF rfl, hW⟩
  refine StepsI.cons rfl ?_ ?_
  ·rintro L zA va ⟨zB, zS, rfl, rfl, hF, hW⟩ hL hm K hK
   have hb20 : zB 20 = false := by simpa using hL
   have hb10 : zB 10 = true := mt 10 hm (by kernel_rfl)
   have hb15 : zB 15 = true := mt 15 hm (by kernel_rfl)
   have hb19 : zB 19 = true := mt 19 hm (by kernel_rfl)
   have e10 : zS 81 = .bool true := hF 10 _ rfl hb10
   have e15 : zS 86 = .agg #[.int .i64 y.1, .int .i64 y.2] := hF 15 _ rfl hb15
   have e19 : zS 90 = .agg #[.int .i64 x.1, .int .i64 x.2] := hF 19 _ rfl hb19
   clear hL hm
   simp only [pE]
   simp only [e10, e15, e19]
   go_simp
   refine (sSymLess_any y.1 y.2 x.1 x.2 _).mono ?_
   rintro e va2 ⟨rfl, hb⟩
   rw [HLE.out]
   go_wp2_with fail
   exact hK.out _ _ ⟨ups zB [20], upv _ _ zS [20, 19, 15, 10], rfl, by kernel_rfl, rk hF rfl, below_step hW hb⟩
  refine StepsI.cons rfl ?_ ?_
  ·rintro L zA va ⟨zB, zS, rfl, rfl, hF, hW⟩ hL hm K hK
   have hb21 : zB 21 = false := by simpa using hL
   have hb10 : zB 10 = true := mt 10 hm (by kernel_rfl)
   have hb20 : zB 20 = true := mt 20 hm (by kernel_rfl)
   have e10 : zS 81 = .bool true := hF 10 _ rfl hb10
   have e20 : zS 91 = .bool false := hF 20 _ rfl hb20
   clear hL hm
   simp only [pE]
   simp only [e10, e20]
   go_simp
   exact hK.out _ _ ⟨ups zB [21], upv _ _ zS [21, 20, 10], rfl, by kernel_rfl, rk hF rfl, hW⟩
  refine StepsI.cons rfl ?_ ?_
  ·rintro L zA va ⟨zB, zS, rfl, rfl, hF, hW⟩ hL hm K hK
   have hb22 : zB 22 = false := by simpa using hL
   have hb7 : zB 7 = true := mt 7 hm (by kernel_rfl)
   have hb10 : zB 10 = true := mt 10 hm (by kernel_rfl)
   have hb21 : zB 21 = true := mt 21 hm (by kernel_rfl)
   have e7 : zS 78 = .bool false := hF 7 _ rfl hb7
   have e10 : zS 81 = .bool true := hF 10 _ rfl hb10
   have e21 : zS 92 = .bool true := hF 21 _ rfl hb21
   clear hL hm
   simp only [pE]
   simp only [e7, e10, e21]
   go_simp
   exact hK.out _ _ ⟨ups zB [22], upv _ _ zS [22, 21, 10, 7], rfl, by kernel_rfl, rk hF rfl, hW⟩
  refine StepsI.cons rfl ?_ ?_
  ·rintro L zA va ⟨zB, zS, rfl, rfl, hF, hW⟩ hL hm K hK
   have hb23 : zB 23 = false := by simpa using hL
   have hb7 : zB 7 = true := mt 7 hm (by kernel_rfl)
   have hb22 : zB 22 = true := mt 22 hm (by kernel_rfl)
   have e7 : zS 78 = .bool false := hF 7 _ rfl hb7
   have e22 : zS 93 = .bool true := hF 22 _ rfl hb22
   clear hL hm
   simp only [pE]
   simp only [e7, e22]
   go_simp
   exact hK.out _ _ ⟨ups zB [23], upv _ _ zS [23, 22, 7], rfl, by kernel_rfl, rk hF rfl, hW⟩
  refine StepsI.cons rfl ?_ ?_
  ·rintro L zA va ⟨zB, zS, rfl, rfl, hF, hW⟩ hL hm K hK
   have hb24 : zB 24 = false := by simpa using hL
   have hb23 : zB 23 = true := mt 23 hm (by kernel_rfl)
   have e23 : zS 94 = .bool true := hF 23 _ rfl hb23
   clear hL hm
   simp only [pE]
   simp only [e23]
   go_simp
   exact hK.out _ _ ⟨ups zB [24], upv _ _ zS [24, 23], rfl, by kernel_rfl, rk hF rfl, hW⟩
  refine StepsI.cons rfl ?_ ?_
  ·rintro L zA va ⟨zB, zS, rfl, rfl, hF, hW⟩ hL hm K hK
   have hb25 : zB 25 = false := by simpa using hL
   have hb24 : zB 24 = true := mt 24 hm (by kernel_rfl)
   have e24 : zS 95 = .bool true := hF 24 _ rfl hb24
   clear hL hm
   simp only [pE]
   simp only [e24]
   rw [if_neg (by exact Bool.false_ne_true)]
   exact hK.out _ _ ⟨ups zB [25], upv _ _ zS [25, 24], rfl, by kernel_rfl, rk hF rfl, hW⟩
  refine StepsI.cons rfl ?_ ?_
  ·rintro L zA va ⟨zB, zS, rfl, rfl, hF, hW⟩ hL hm K hK
   have hb26 : zB 26 = false := by simpa using hL
   have hb24 : zB 24 = true := mt 24 hm (by kernel_rfl)
   have e24 : zS 95 = .bool true := hF 24 _ rfl hb24
   clear hL hm
   simp only [pE]
   simp only [e24]
   rw [if_neg (by exact Bool.false_ne_true)]
   exact hK.out _ _ ⟨ups zB [26], upv _ _ zS [26, 24], rfl, by kernel_rfl, rk hF rfl, hW⟩
  refine StepsI.cons rfl ?_ ?_
  ·rintro L zA va ⟨zB, zS, rfl, rfl, hF, hW⟩ hL hm K hK
   have hb27 : zB 27 = false := by simpa using hL
   have hb24 : zB 24 = true := mt 24 hm (by kernel_rfl)
   have e24 : zS 95 = .bool true := hF 24 _ rfl hb24
   clear hL hm
   simp only [pE]
   simp only [e24]
   rw [if_neg (by exact Bool.false_ne_true)]
   exact hK.out _ _ ⟨ups zB [27], upv _ _ zS [27, 24], rfl, by kernel_rfl, rk hF rfl, hW⟩
  refine StepsI.cons rfl ?_ ?_
  ·rintro L zA va ⟨zB, zS, rfl, rfl, hF, hW⟩ hL hm K hK
   have hb28 : zB 28 = false := by simpa using hL
   have hb24 : zB 24 = true := mt 24 hm (by kernel_rfl)
   have e24 : zS 95 = .bool true := hF 24 _ rfl hb24
   clear hL hm
   simp only [pE]
   simp only [e24]
   rw [if_neg (by exact Bool.false_ne_true)]
   exact hK.out _ _ ⟨ups zB [28], upv _ _ zS [28, 24], rfl, by kernel_rfl, rk hF rfl, hW⟩
  refine StepsI.cons rfl ?_ ?_
  ·rintro L zA va ⟨zB, zS, rfl, rfl, hF, hW⟩ hL hm K hK
   have hb29 : zB 29 = false := by simpa using hL
   have hb24 : zB 24 = true := mt 24 hm (by kernel_rfl)
   have e24 : zS 95 = .bool true := hF 24 _ rfl hb24
   clear hL hm
   simp only [pE]
   simp only [e24]
   rw [if_neg (by exact Bool.false_ne_true)]
   exact hK.out _ _ ⟨ups zB [29], upv _ _ zS [29, 24], rfl, by kernel_rfl, rk hF rfl, hW⟩
  refine StepsI.cons rfl ?_ ?_
  ·rintro L zA va ⟨zB, zS, rfl, rfl, hF, hW⟩ hL hm K hK
   have hb30 : zB 30 = false := by simpa using hL
   have hb24 : zB 24 = true := mt 24 hm (by kernel_rfl)
   have e24 : zS 95 = .bool true := hF 24 _ rfl hb24
   clear hL hm
   simp only [pE]
   simp only [e24]
   rw [if_neg (by exact Bool.false_ne_true)]
   exact hK.out _ _ ⟨ups zB [30], upv _ _ zS [30, 24], rfl, by kernel_rfl, rk hF rfl, hW⟩
  refine StepsI.cons rfl ?_ ?_
  ·rintro L zA va ⟨zB, zS, rfl, rfl, hF, hW⟩ hL hm K hK
   have hb31 : zB 31 = false := by simpa using hL
   have hb24 : zB 24 = true := mt 24 hm (by kernel_rfl)
   have e24 : zS 95 = .bool true := hF 24 _ rfl hb24
   clear hL hm
   simp only [pE]
   simp only [e24]
   rw [if_neg (by exact Bool.false_ne_true)]
   exact hK.out _ _ ⟨ups zB [31], upv _ _ zS [31, 24], rfl, by kernel_rfl, rk hF rfl, hW⟩
  refine StepsI.cons rfl ?_ ?_
  ·rintro L zA va ⟨zB, zS, rfl, rfl, hF, hW⟩ hL hm K hK
   have hb32 : zB 32 = false := by simpa using hL
   have hb24 : zB 24 = true := mt 24 hm (by kernel_rfl)
   have e24 : zS 95 = .bool true := hF 24 _ rfl hb24
   clear hL hm
   simp only [pE]
   simp only [e24]
   rw [if_neg (by exact Bool.false_ne_true)]
   exact hK.out _ _ ⟨ups zB [32], upv _ _ zS [32, 24], rfl, by kernel_rfl, rk hF rfl, hW⟩
  refine StepsI.cons rfl ?_ ?_
  ·rintro L zA va ⟨zB, zS, rfl, rfl, hF, hW⟩ hL hm K hK
   have hb33 : zB 33 = false := by simpa using hL
   have hb24 : zB 24 = true := mt 24 hm (by kernel_rfl)
   have hb32 : zB 32 = true := mt 32 hm (by kernel_rfl)
   have e24 : zS 95 = .bool true := hF 24 _ rfl hb24
   have e32 : zS 103 = undef := hF 32 _ rfl hb32
   clear hL hm
   simp only [pE]
   simp only [e24, e32]
   go_simp
   exact hK.out _ _ ⟨ups zB [33], upv _ _ zS [33, 32, 24], rfl, by kernel_rfl, rk hF rfl, hW⟩
  exact StepsI.nil (by kernel_rfl)
 ·rintro L zA va ⟨zB, zS, rfl, rfl, hF, hW⟩ hr
  have hu := all_up (by kernel_rfl) (N := 34) (by kernel_rfl) hr
  have hb0 : zB 0 = true := by simpa using hu 0 (by decide)
  have hb1 : zB 1 = true := by simpa using hu 1 (by decide)
  have hb2 : zB 2 = true := by simpa using hu 2 (by decide)
  have hb3 : zB 3 = true := by simpa using hu 3 (by decide)
  have hb4 : zB 4 = true := by simpa using hu 4 (by decide)
  have hb5 : zB 5 = true := by simpa using hu 5 (by decide)
  have hb6 : zB 6 = true := by simpa using hu 6 (by decide)
  have hb7 : zB 7 = true := by simpa using hu 7 (by decide)
  have hb8 : zB 8 = true := by simpa using hu 8 (by decide)
  have hb9 : zB 9 = true := by simpa using hu 9 (by decide)
  have hb10 : zB 10 = true := by simpa using hu 10 (by decide)
  have hb11 : zB 11 = true := by simpa using hu 11 (by decide)
  have hb12 : zB 12 = true := by simpa using hu 12 (by decide)
  have hb13 : zB 13 = true := by simpa using hu 13 (by decide)
  have hb14 : zB 14 = true := by simpa using hu 14 (by decide)
  have hb15 : zB 15 = true := by simpa using hu 15 (by decide)
  have hb16 : zB 16 = true := by simpa using hu 16 (by decide)
  have hb17 : zB 17 = true := by simpa using hu 17 (by decide)
  have hb18 : zB 18 = true := by simpa using hu 18 (by decide)
  have hb19 : zB 19 = true := by simpa using hu 19 (by decide)
  have hb20 : zB 20 = true := by simpa using hu 20 (by decide)
  have hb21 : zB 21 = true := by simpa using hu 21 (by decide)
  have hb22 : zB 22 = true := by simpa using hu 22 (by decide)
  have hb23 : zB 23 = true := by simpa using hu 23 (by decide)
  have hb24 : zB 24 = true := by simpa using hu 24 (by decide)
  have hb25 : zB 25 = true := by simpa using hu 25 (by decide)
  have hb26 : zB 26 = true := by simpa using hu 26 (by decide)
  have hb27 : zB 27 = true := by simpa using hu 27 (by decide)
  have hb28 : zB 28 = true := by simpa using hu 28 (by decide)
  have hb29 : zB 29 = true := by simpa using hu 29 (by decide)
  have hb30 : zB 30 = true := by simpa using hu 30 (by decide)
  have hb31 : zB 31 = true := by simpa using hu 31 (by decide)
  have hb32 : zB 32 = true := by simpa using hu 32 (by decide)
  have hb33 : zB 33 = true := by simpa using hu 33 (by decide)
  have e0 : zS 71 = .int .i64 n := hF 0 _ rfl hb0
  have e1 : zS 72 = .slice (some ⟨b, off, none⟩) l.length cp := hF 1 _ rfl hb1
  have e2 : zS 73 = .int .i64 (j : Int) := hF 2 _ rfl hb2
  have e3 : zS 74 = .pointer (some ⟨b, off + j * 2, none⟩) := hF 3 _ rfl hb3
  have e4 : zS 75 = .agg #[.int .i64 x.1, .int .i64 x.2] := hF 4 _ rfl hb4
  have e5 : zS 76 = .bool true := hF 5 _ rfl hb5
  have e6 : zS 77 = .bool false := hF 6 _ rfl hb6
  have e7 : zS 78 = .bool false := hF 7 _ rfl hb7
  have e8 : zS 79 = .int .i64 (j : Int) := hF 8 _ rfl hb8
  have e9 : zS 80 = .bool true := hF 9 _ rfl hb9
  have e10 : zS 81 = .bool true := hF 10 _ rfl hb10
  have e11 : zS 82 = .slice (some ⟨b, off, none⟩) l.length cp := hF 11 _ rfl hb11
  have e12 : zS 83 = .int .i64 (j : Int) := hF 12 _ rfl hb12
  have e13 : zS 84 = .int .i64 (jm : Int) := hF 13 _ rfl hb13
  have e14 : zS 85 = .pointer (some ⟨b, off + jm * 2, none⟩) := hF 14 _ rfl hb14
  have e15 : zS 86 = .agg #[.int .i64 y.1, .int .i64 y.2] := hF 15 _ rfl hb15
  have e16 : zS 87 = .slice (some ⟨b, off, none⟩) l.length cp := hF 16 _ rfl hb16
  have e17 : zS 88 = .int .i64 (j : Int) := hF 17 _ rfl hb17
  have e18 : zS 89 = .pointer (some ⟨b, off + j * 2, none⟩) := hF 18 _ rfl hb18
  have e19 : zS 90 = .agg #[.int .i64 x.1, .int .i64 x.2] := hF 19 _ rfl hb19
  have e20 : zS 91 = .bool false := hF 20 _ rfl hb20
  have e21 : zS 92 = .bool true := hF 21 _ rfl hb21
  have e22 : zS 93 = .bool true := hF 22 _ rfl hb22
  have e23 : zS 94 = .bool true := hF 23 _ rfl hb23
  have e24 : zS 95 = .bool true := hF 24 _ rfl hb24
  have e25 : zS 96 = undef := hF 25 _ rfl hb25
  have e26 : zS 97 = undef := hF 26 _ rfl hb26
  have e27 : zS 98 = undef := hF 27 _ rfl hb27
  have e28 : zS 99 = undef := hF 28 _ rfl hb28
  have e29 : zS 100 = undef := hF 29 _ rfl hb29
  have e30 : zS 101 = undef := hF 30 _ rfl hb30
  have e31 : zS 102 = undef := hF 31 _ rfl hb31
  have e32 : zS 103 = undef := hF 32 _ rfl hb32
  have e33 : zS 104 = .bool true := hF 33 _ rfl hb33
  clear hu hr hF
  simp only [pE]
  simp only [e0, e1, e2, e3, e4, e5, e6, e7, e8, e9, e10, e11, e12, e13, e14, e15, e16, e17, e18, e19, e20, e21, e22, e23, e24, e25, e26, e27, e28, e29, e30, e31, e32, e33]
  clear e0 e1 e2 e3 e4 e5 e6 e7 e8 e9 e10 e11 e12 e13 e14 e15 e16 e17 e18 e19 e20 e21 e22 e23 e24 e25 e26 e27 e28 e29 e30 e31 e32 e33
  clear hb0 hb1 hb2 hb3 hb4 hb5 hb6 hb7 hb8 hb9 hb10 hb11 hb12 hb13 hb14 hb15 hb16 hb17 hb18 hb19 hb20 hb21 hb22 hb23 hb24 hb25 hb26 hb27 hb28 hb29 hb30 hb31 hb32 hb33
  clear zB zS
  exact hend va hW
end Go.Proofs.YtihpajiololfoaaGreat
