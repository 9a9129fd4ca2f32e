/-
  l02DrawExpr at every depth.
  CONTRACTS of size and l02DrawCond.
-/
import Derived.Test.YtjmjmdmnejnlbaaGreatDoorMDr
namespace Go.Proofs.YtjmjmdmnejnlbaaGreatDoor
open Go.RowKit
open Pl
set_option maxRecDepth 100000 in
set_option maxHeartbeats 16000000 in
theorem expr_succ (d : Nat) (hd : d + 1 ≤ 1000) (IH : ExprOkS d) : ExprOkS (d + 1) := by
 intro cb n cap bud a w hC
 have IH1 : ∀ (cb n cap bud : Nat) (a : Option Addr) (w : World), Cur w cb a n cap (bud + FB d) → Calls Tryz.prog 14 #[.pointer (some ⟨cb, 0, none⟩), .int .i64 d] w (DPost cb n cap bud (KB d) a w) := IH
 clear IH
 have hC : Cur w cb a n cap (bud + (2 * FB d + 2)) := hC
 show Calls Tryz.prog 14 #[.pointer (some ⟨cb, 0, none⟩), .int .i64 ((d + 1 : Nat) : Int)] w (DPost cb n cap bud (2 * KB d + 1) a w)
 have hF := FB_le d
 have hK := KB_le d
 generalize FB d = F at IH1 hC hF
 generalize KB d = K at IH1 hK ⊢
 obtain ⟨D, hD⟩ : ∃ D : Int, ((d + 1 : Nat) : Int) = D := ⟨_, rfl⟩
 rw [hD]
 have hdd : decide (D ≤ 0) = false := by simp; omega
 have hd1 : IntKind.i64.wrap (D - 1) = (d : Int) := by rw [IntWalk.i64_in _ (by omega)]; omega
 have HIH := mkHid IH1
 clear hD hd IH1
 have HA := mkHid (Dat.start hC)
 obtain ⟨w1, hw1⟩ : ∃ q, w.alloc (.cells #[.int .i64 0, .string ⟨#[]⟩, .int .i64 0, .slice none 0 0] 26) = q := ⟨_, rfl⟩
 obtain ⟨P, hP⟩ : ∃ q, w.heap.size = q := ⟨_, rfl⟩
 rw [hw1, hP] at HA
 clear hC
 go_enter Tryz.func14, Tryz.ntmps14
 go_wp2_with fail
 first | rw [hw1] | skip
 first | rw [hP] | skip
 clear hw1
 have HPS := mkHid hP
 clear hP
 refine (pick_any 12 cb n cap (bud + (2 * F + 1)) a _ (by omega) (HA.out.less (by omega)).cur).mono ?_
 rintro e w2 ⟨r, rfl, r0, r1, hC2, hG2⟩
 have HB := mkHid (HA.out.next hC2 hG2)
 clear hC2 hG2 HA
 have r2 : 0 ≤ r ∧ r < 12 := by omega
 clear r0 r1
 rcases (by omega : r = 0 ∨ r = 1 ∨ r = 2 ∨ r = 3 ∨ r = 4 ∨ r = 5 ∨ r = 6 ∨ r = 7 ∨ r = 8 ∨ r = 9 ∨ r = 10 ∨ r = 11) with rfl | rfl | rfl | rfl | rfl | rfl | rfl | rfl | rfl | rfl | rfl | rfl
 ·go_wp2_with fail
  refine (pick_any 8 cb n cap (bud + 2 * F) a _ (by omega) ((HB.out.less (by omega)).cur.alloc _)).mono ?_
  rintro e w3 ⟨q, rfl, q0, q1, hC3, hG3⟩
  have hne : w2.heap.size ≠ cb := by have := HB.out.cur.lt; omega
  have HKK := mkHid (fun i => grown_cell (b := w2.heap.size) (i := i) hG3 (by simp) hne)
  have HD := mkHid ((HB.out.below (below_one w2 _)).next hC3 hG3)
  clear hC3 hG3 HB
  obtain ⟨m, rfl⟩ : ∃ m : Nat, q = m := ⟨q.toNat, by omega⟩
  have c0 := HKK.out m
  have hm : m < 8 := by omega
  clear q1 HKK
  rcases (by omega : m = 0 ∨ m = 1 ∨ m = 2 ∨ m = 3 ∨ m = 4 ∨ m = 5 ∨ m = 6 ∨ m = 7) with rfl | rfl | rfl | rfl | rfl | rfl | rfl | rfl
  all_goals
   simp [go_sem] at c0
   go_wp2_with fail
   refine (sNum_any _ _ (by omega)).mono ?_
   rintro e w4 ⟨rfl, hb4⟩
   have HE := mkHid (HD.out.below hb4)
   clear hb4 HD c0
   simp only [A.val]
   obtain ⟨d0, d1, d2, d3, e0, e1, e2, e3⟩ := four_of HE.out.res
   go_wp2
  ·obtain ⟨q0, q1, q2, q3⟩ := put4_cells0 HE.out.res (.int .i64 1) (.string ⟨#[]⟩) (.int .i64 0) (.slice none 0 0)
   exact bodyPost_ret (v := (A.node 1 ⟨#[]⟩ 0 none 0 []).val) (by simp [results, Tryz.results14, go_sem, q0, q1, q2, q3, A.val]) rfl ((HE.out.less (by omega)).fin (leaf_mine _ _ (by decide)) (by simp [A.erase, erases, cnt, cnts] <;> omega) _ _ _ _)
  ·obtain ⟨q0, q1, q2, q3⟩ := put4_cells0 HE.out.res (.int .i64 1) (.string ⟨#[]⟩) (.int .i64 1) (.slice none 0 0)
   exact bodyPost_ret (v := (A.node 1 ⟨#[]⟩ 1 none 0 []).val) (by simp [results, Tryz.results14, go_sem, q0, q1, q2, q3, A.val]) rfl ((HE.out.less (by omega)).fin (leaf_mine _ _ (by decide)) (by simp [A.erase, erases, cnt, cnts] <;> omega) _ _ _ _)
  ·obtain ⟨q0, q1, q2, q3⟩ := put4_cells0 HE.out.res (.int .i64 1) (.string ⟨#[]⟩) (.int .i64 2) (.slice none 0 0)
   exact bodyPost_ret (v := (A.node 1 ⟨#[]⟩ 2 none 0 []).val) (by simp [results, Tryz.results14, go_sem, q0, q1, q2, q3, A.val]) rfl ((HE.out.less (by omega)).fin (leaf_mine _ _ (by decide)) (by simp [A.erase, erases, cnt, cnts] <;> omega) _ _ _ _)
  ·obtain ⟨q0, q1, q2, q3⟩ := put4_cells0 HE.out.res (.int .i64 1) (.string ⟨#[]⟩) (.int .i64 5) (.slice none 0 0)
   exact bodyPost_ret (v := (A.node 1 ⟨#[]⟩ 5 none 0 []).val) (by simp [results, Tryz.results14, go_sem, q0, q1, q2, q3, A.val]) rfl ((HE.out.less (by omega)).fin (leaf_mine _ _ (by decide)) (by simp [A.erase, erases, cnt, cnts] <;> omega) _ _ _ _)
  ·obtain ⟨q0, q1, q2, q3⟩ := put4_cells0 HE.out.res (.int .i64 1) (.string ⟨#[]⟩) (.int .i64 10) (.slice none 0 0)
   exact bodyPost_ret (v := (A.node 1 ⟨#[]⟩ 10 none 0 []).val) (by simp [results, Tryz.results14, go_sem, q0, q1, q2, q3, A.val]) rfl ((HE.out.less (by omega)).fin (leaf_mine _ _ (by decide)) (by simp [A.erase, erases, cnt, cnts] <;> omega) _ _ _ _)
  ·obtain ⟨q0, q1, q2, q3⟩ := put4_cells0 HE.out.res (.int .i64 1) (.string ⟨#[]⟩) (.int .i64 100) (.slice none 0 0)
   exact bodyPost_ret (v := (A.node 1 ⟨#[]⟩ 100 none 0 []).val) (by simp [results, Tryz.results14, go_sem, q0, q1, q2, q3, A.val]) rfl ((HE.out.less (by omega)).fin (leaf_mine _ _ (by decide)) (by simp [A.erase, erases, cnt, cnts] <;> omega) _ _ _ _)
  ·obtain ⟨q0, q1, q2, q3⟩ := put4_cells0 HE.out.res (.int .i64 1) (.string ⟨#[]⟩) (.int .i64 1000) (.slice none 0 0)
   exact bodyPost_ret (v := (A.node 1 ⟨#[]⟩ 1000 none 0 []).val) (by simp [results, Tryz.results14, go_sem, q0, q1, q2, q3, A.val]) rfl ((HE.out.less (by omega)).fin (leaf_mine _ _ (by decide)) (by simp [A.erase, erases, cnt, cnts] <;> omega) _ _ _ _)
  ·obtain ⟨q0, q1, q2, q3⟩ := put4_cells0 HE.out.res (.int .i64 1) (.string ⟨#[]⟩) (.int .i64 1000000) (.slice none 0 0)
   exact bodyPost_ret (v := (A.node 1 ⟨#[]⟩ 1000000 none 0 []).val) (by simp [results, Tryz.results14, go_sem, q0, q1, q2, q3, A.val]) rfl ((HE.out.less (by omega)).fin (leaf_mine _ _ (by decide)) (by simp [A.erase, erases, cnt, cnts] <;> omega) _ _ _ _)
 ·go_wp2_with fail
  refine (pick_any 8 cb n cap (bud + 2 * F) a _ (by omega) ((HB.out.less (by omega)).cur.alloc _)).mono ?_
  rintro e w3 ⟨q, rfl, q0, q1, hC3, hG3⟩
  have hne : w2.heap.size ≠ cb := by have := HB.out.cur.lt; omega
  have HKK := mkHid (fun i => grown_cell (b := w2.heap.size) (i := i) hG3 (by simp) hne)
  have HD := mkHid ((HB.out.below (below_one w2 _)).next hC3 hG3)
  clear hC3 hG3 HB
  obtain ⟨m, rfl⟩ : ∃ m : Nat, q = m := ⟨q.toNat, by omega⟩
  have c0 := HKK.out m
  have hm : m < 8 := by omega
  clear q1 HKK
  rcases (by omega : m = 0 ∨ m = 1 ∨ m = 2 ∨ m = 3 ∨ m = 4 ∨ m = 5 ∨ m = 6 ∨ m = 7) with rfl | rfl | rfl | rfl | rfl | rfl | rfl | rfl
  all_goals
   simp [go_sem] at c0
   go_wp2_with fail
   refine (sNum_any _ _ (by omega)).mono ?_
   rintro e w4 ⟨rfl, hb4⟩
   have HE := mkHid (HD.out.below hb4)
   clear hb4 HD c0
   simp only [A.val]
   obtain ⟨d0, d1, d2, d3, e0, e1, e2, e3⟩ := four_of HE.out.res
   go_wp2
  ·obtain ⟨q0, q1, q2, q3⟩ := put4_cells0 HE.out.res (.int .i64 1) (.string ⟨#[]⟩) (.int .i64 0) (.slice none 0 0)
   exact bodyPost_ret (v := (A.node 1 ⟨#[]⟩ 0 none 0 []).val) (by simp [results, Tryz.results14, go_sem, q0, q1, q2, q3, A.val]) rfl ((HE.out.less (by omega)).fin (leaf_mine _ _ (by decide)) (by simp [A.erase, erases, cnt, cnts] <;> omega) _ _ _ _)
  ·obtain ⟨q0, q1, q2, q3⟩ := put4_cells0 HE.out.res (.int .i64 1) (.string ⟨#[]⟩) (.int .i64 1) (.slice none 0 0)
   exact bodyPost_ret (v := (A.node 1 ⟨#[]⟩ 1 none 0 []).val) (by simp [results, Tryz.results14, go_sem, q0, q1, q2, q3, A.val]) rfl ((HE.out.less (by omega)).fin (leaf_mine _ _ (by decide)) (by simp [A.erase, erases, cnt, cnts] <;> omega) _ _ _ _)
  ·obtain ⟨q0, q1, q2, q3⟩ := put4_cells0 HE.out.res (.int .i64 1) (.string ⟨#[]⟩) (.int .i64 2) (.slice none 0 0)
   exact bodyPost_ret (v := (A.node 1 ⟨#[]⟩ 2 none 0 []).val) (by simp [results, Tryz.results14, go_sem, q0, q1, q2, q3, A.val]) rfl ((HE.out.less (by omega)).fin (leaf_mine _ _ (by decide)) (by simp [A.erase, erases, cnt, cnts] <;> omega) _ _ _ _)
  ·obtain ⟨q0, q1, q2, q3⟩ := put4_cells0 HE.out.res (.int .i64 1) (.string ⟨#[]⟩) (.int .i64 5) (.slice none 0 0)
   exact bodyPost_ret (v := (A.node 1 ⟨#[]⟩ 5 none 0 []).val) (by simp [results, Tryz.results14, go_sem, q0, q1, q2, q3, A.val]) rfl ((HE.out.less (by omega)).fin (leaf_mine _ _ (by decide)) (by simp [A.erase, erases, cnt, cnts] <;> omega) _ _ _ _)
  ·obtain ⟨q0, q1, q2, q3⟩ := put4_cells0 HE.out.res (.int .i64 1) (.string ⟨#[]⟩) (.int .i64 10) (.slice none 0 0)
   exact bodyPost_ret (v := (A.node 1 ⟨#[]⟩ 10 none 0 []).val) (by simp [results, Tryz.results14, go_sem, q0, q1, q2, q3, A.val]) rfl ((HE.out.less (by omega)).fin (leaf_mine _ _ (by decide)) (by simp [A.erase, erases, cnt, cnts] <;> omega) _ _ _ _)
  ·obtain ⟨q0, q1, q2, q3⟩ := put4_cells0 HE.out.res (.int .i64 1) (.string ⟨#[]⟩) (.int .i64 100) (.slice none 0 0)
   exact bodyPost_ret (v := (A.node 1 ⟨#[]⟩ 100 none 0 []).val) (by simp [results, Tryz.results14, go_sem, q0, q1, q2, q3, A.val]) rfl ((HE.out.less (by omega)).fin (leaf_mine _ _ (by decide)) (by simp [A.erase, erases, cnt, cnts] <;> omega) _ _ _ _)
  ·obtain ⟨q0, q1, q2, q3⟩ := put4_cells0 HE.out.res (.int .i64 1) (.string ⟨#[]⟩) (.int .i64 1000) (.slice none 0 0)
   exact bodyPost_ret (v := (A.node 1 ⟨#[]⟩ 1000 none 0 []).val) (by simp [results, Tryz.results14, go_sem, q0, q1, q2, q3, A.val]) rfl ((HE.out.less (by omega)).fin (leaf_mine _ _ (by decide)) (by simp [A.erase, erases, cnt, cnts] <;> omega) _ _ _ _)
  ·obtain ⟨q0, q1, q2, q3⟩ := put4_cells0 HE.out.res (.int .i64 1) (.string ⟨#[]⟩) (.int .i64 1000000) (.slice none 0 0)
   exact bodyPost_ret (v := (A.node 1 ⟨#[]⟩ 1000000 none 0 []).val) (by simp [results, Tryz.results14, go_sem, q0, q1, q2, q3, A.val]) rfl ((HE.out.less (by omega)).fin (leaf_mine _ _ (by decide)) (by simp [A.erase, erases, cnt, cnts] <;> omega) _ _ _ _)
 ·go_wp2_with fail
  refine (sDrawVar_any cb n cap (bud + F) a _ (HB.out.less (by omega)).cur).mono ?_
  rintro e w3 ⟨s, rfl, hs, hCn, hGn⟩
  have HD := mkHid (HB.out.next hCn hGn)
  clear hCn hGn HB
  go_wp2_with fail
  refine (sVar_any s _).mono ?_
  rintro e w4 ⟨rfl, hb4⟩
  have HE := mkHid (HD.out.below hb4)
  clear hb4 HD
  simp only [A.val]
  obtain ⟨d0, d1, d2, d3, e0, e1, e2, e3⟩ := four_of HE.out.res
  go_wp2
  obtain ⟨q0, q1, q2, q3⟩ := put4_cells0 HE.out.res (.int .i64 2) (.string s) (.int .i64 0) (.slice none 0 0)
  exact bodyPost_ret (v := (A.node 2 s 0 none 0 []).val) (by simp [results, Tryz.results14, go_sem, q0, q1, q2, q3, A.val]) rfl ((HE.out.less (by omega)).fin (leaf_mine _ _ (by unfold maxLen; omega)) (by simp [A.erase, erases, cnt, cnts] <;> omega) _ _ _ _)
 ·go_wp2_with fail
  refine (sDrawVar_any cb n cap (bud + F) a _ (HB.out.less (by omega)).cur).mono ?_
  rintro e w3 ⟨s, rfl, hs, hCn, hGn⟩
  have HD := mkHid (HB.out.next hCn hGn)
  clear hCn hGn HB
  go_wp2_with fail
  refine (sVar_any s _).mono ?_
  rintro e w4 ⟨rfl, hb4⟩
  have HE := mkHid (HD.out.below hb4)
  clear hb4 HD
  simp only [A.val]
  obtain ⟨d0, d1, d2, d3, e0, e1, e2, e3⟩ := four_of HE.out.res
  go_wp2
  obtain ⟨q0, q1, q2, q3⟩ := put4_cells0 HE.out.res (.int .i64 2) (.string s) (.int .i64 0) (.slice none 0 0)
  exact bodyPost_ret (v := (A.node 2 s 0 none 0 []).val) (by simp [results, Tryz.results14, go_sem, q0, q1, q2, q3, A.val]) rfl ((HE.out.less (by omega)).fin (leaf_mine _ _ (by unfold maxLen; omega)) (by simp [A.erase, erases, cnt, cnts] <;> omega) _ _ _ _)
 ·go_wp2_with fail
  refine (sDrawVar_any cb n cap (bud + F) a _ (HB.out.less (by omega)).cur).mono ?_
  rintro e w3 ⟨s, rfl, hs, hCn, hGn⟩
  have HD := mkHid (HB.out.next hCn hGn)
  clear hCn hGn HB
  go_wp2_with fail
  refine (sVar_any s _).mono ?_
  rintro e w4 ⟨rfl, hb4⟩
  have HE := mkHid (HD.out.below hb4)
  clear hb4 HD
  simp only [A.val]
  obtain ⟨d0, d1, d2, d3, e0, e1, e2, e3⟩ := four_of HE.out.res
  go_wp2
  obtain ⟨q0, q1, q2, q3⟩ := put4_cells0 HE.out.res (.int .i64 2) (.string s) (.int .i64 0) (.slice none 0 0)
  exact bodyPost_ret (v := (A.node 2 s 0 none 0 []).val) (by simp [results, Tryz.results14, go_sem, q0, q1, q2, q3, A.val]) rfl ((HE.out.less (by omega)).fin (leaf_mine _ _ (by unfold maxLen; omega)) (by simp [A.erase, erases, cnt, cnts] <;> omega) _ _ _ _)
 ·go_wp2_with fail
  refine (sDrawArr_any cb n cap (bud + F) a _ (HB.out.less (by omega)).cur).mono ?_
  rintro e w3 ⟨s, rfl, hs, hCn, hGn⟩
  have HD := mkHid (HB.out.next hCn hGn)
  clear hCn hGn HB
  obtain ⟨d0, d1, d2, d3, e0, e1, e2, e3⟩ := four_of HD.out.res
  go_wp2
  obtain ⟨q0, q1, q2, q3⟩ := put4_cells0 HD.out.res (.int .i64 4) (.string s) (.int .i64 0) (.slice none 0 0)
  exact bodyPost_ret (v := (A.node 4 s 0 none 0 []).val) (by simp [results, Tryz.results14, go_sem, q0, q1, q2, q3, A.val]) rfl ((HD.out.less (by omega)).fin (leaf_mine _ _ (by unfold maxLen; omega)) (by simp [A.erase, erases, cnt, cnts] <;> omega) _ _ _ _)
 ·go_wp2_with fail
  refine (sDrawIndex_any cb n cap (bud + 2) a _ (HB.out.less (by omega)).cur).mono ?_
  rintro e w3 ⟨x, rfl, hx, hk, hCn, hGn⟩
  have HX := mkHid (hx.mono HB.out.lt)
  have HK := mkHid hk
  clear hx hk
  have HD := mkHid (HB.out.next hCn hGn)
  clear hCn hGn HB
  obtain ⟨xk, xs, xm, xa, xc, xkk⟩ := x
  simp only [A.val]
  go_wp2_with fail
  refine (one_mine 3 (A.node xk xs xm xa xc xkk) _ (P + 1) HX.out HD.out.lt).mono ?_
  rintro e w4 ⟨b, c, rfl, hm, hb4⟩
  have HE := mkHid (HD.out.below hb4)
  have HL := mkHid hm
  clear hm hb4 HD HX
  simp only [A.val]
  have HY := mkHid (HE.out.below (below_one w4 (.cells #[.int .i64 3, .string ⟨#[]⟩, .int .i64 0, .slice (some ⟨b, 0, none⟩) 1 c] 26)))
  go_wp2_with fail
  refine (sDrawArr_any cb n cap bud a _ HY.out.cur).mono ?_
  rintro e w6 ⟨s, rfl, hs, hC6, hG6⟩
  have hne : w4.heap.size ≠ cb := by have := HE.out.cur.lt; omega
  have K6 := (hG6.block w4.heap.size (by simp) (fun e => hne (by cases e; rfl))).trans (heap_alloc_new w4 _)
  have HF := mkHid (HY.out.next hC6 hG6)
  have hcP : cb < P + 1 := by have := HE.out.hc; have := HE.out.hP; omega
  have HM6 := mkHid ((HL.out.below (below_one w4 _)).grown hG6 (fun p e => by cases e; exact hcP))
  clear hC6 hG6 HY
  have K7 := heap_setCell_same w6 w4.heap.size 1 _ 26 (.string s) K6
  have HG := mkHid (HF.out.set (Q := w4.heap.size) HE.out.lt 1 (.string s))
  have HM7 := mkHid (HM6.out.kept (p := w4.heap.size) (grown_set w6 w4.heap.size 1 (.string s)) (fun hq => by have := (HL.out.lt hq).2; omega))
  clear HM6 HF HE HL
  obtain ⟨f0, f1, f2, f3, g0, g1, g2, g3⟩ := four_of K6
  obtain ⟨h0, h1, h2, h3, i0, i1, i2, i3⟩ := four_of (v0 := .int .i64 3) (v1 := .string s) (v2 := .int .i64 0) (v3 := .slice (some ⟨b, 0, none⟩) 1 c) K7
  clear K6 K7
  obtain ⟨d0, d1, d2, d3, e0, e1, e2, e3⟩ := four_of HG.out.res
  go_wp2
  obtain ⟨q0, q1, q2, q3⟩ := put4_cells0 HG.out.res (.int .i64 3) (.string s) (.int .i64 0) (.slice (some ⟨b, 0, none⟩) 1 c)
  exact bodyPost_ret (v := (A.node 3 s 0 (some ⟨b, 0, none⟩) c [A.node xk xs xm xa xc xkk]).val) (by simp [results, Tryz.results14, go_sem, q0, q1, q2, q3, A.val]) rfl ((HG.out.less (by omega)).fin (show (A.node 3 s 0 (some ⟨b, 0, none⟩) c [A.node xk xs xm xa xc xkk]).mine _ _ from ⟨HM7.out.1, by unfold maxLen; omega, HM7.out.2.2⟩) (by have := HK.out; simp [A.erase, erases, cnt, cnts] at this ⊢; omega) _ _ _ _)
 ·go_wp2_with fail
  refine (sDrawIndex_any cb n cap (bud + 2) a _ (HB.out.less (by omega)).cur).mono ?_
  rintro e w3 ⟨x, rfl, hx, hk, hCn, hGn⟩
  have HX := mkHid (hx.mono HB.out.lt)
  have HK := mkHid hk
  clear hx hk
  have HD := mkHid (HB.out.next hCn hGn)
  clear hCn hGn HB
  obtain ⟨xk, xs, xm, xa, xc, xkk⟩ := x
  simp only [A.val]
  go_wp2_with fail
  refine (one_mine 3 (A.node xk xs xm xa xc xkk) _ (P + 1) HX.out HD.out.lt).mono ?_
  rintro e w4 ⟨b, c, rfl, hm, hb4⟩
  have HE := mkHid (HD.out.below hb4)
  have HL := mkHid hm
  clear hm hb4 HD HX
  simp only [A.val]
  have HY := mkHid (HE.out.below (below_one w4 (.cells #[.int .i64 3, .string ⟨#[]⟩, .int .i64 0, .slice (some ⟨b, 0, none⟩) 1 c] 26)))
  go_wp2_with fail
  refine (sDrawArr_any cb n cap bud a _ HY.out.cur).mono ?_
  rintro e w6 ⟨s, rfl, hs, hC6, hG6⟩
  have hne : w4.heap.size ≠ cb := by have := HE.out.cur.lt; omega
  have K6 := (hG6.block w4.heap.size (by simp) (fun e => hne (by cases e; rfl))).trans (heap_alloc_new w4 _)
  have HF := mkHid (HY.out.next hC6 hG6)
  have hcP : cb < P + 1 := by have := HE.out.hc; have := HE.out.hP; omega
  have HM6 := mkHid ((HL.out.below (below_one w4 _)).grown hG6 (fun p e => by cases e; exact hcP))
  clear hC6 hG6 HY
  have K7 := heap_setCell_same w6 w4.heap.size 1 _ 26 (.string s) K6
  have HG := mkHid (HF.out.set (Q := w4.heap.size) HE.out.lt 1 (.string s))
  have HM7 := mkHid (HM6.out.kept (p := w4.heap.size) (grown_set w6 w4.heap.size 1 (.string s)) (fun hq => by have := (HL.out.lt hq).2; omega))
  clear HM6 HF HE HL
  obtain ⟨f0, f1, f2, f3, g0, g1, g2, g3⟩ := four_of K6
  obtain ⟨h0, h1, h2, h3, i0, i1, i2, i3⟩ := four_of (v0 := .int .i64 3) (v1 := .string s) (v2 := .int .i64 0) (v3 := .slice (some ⟨b, 0, none⟩) 1 c) K7
  clear K6 K7
  obtain ⟨d0, d1, d2, d3, e0, e1, e2, e3⟩ := four_of HG.out.res
  go_wp2
  obtain ⟨q0, q1, q2, q3⟩ := put4_cells0 HG.out.res (.int .i64 3) (.string s) (.int .i64 0) (.slice (some ⟨b, 0, none⟩) 1 c)
  exact bodyPost_ret (v := (A.node 3 s 0 (some ⟨b, 0, none⟩) c [A.node xk xs xm xa xc xkk]).val) (by simp [results, Tryz.results14, go_sem, q0, q1, q2, q3, A.val]) rfl ((HG.out.less (by omega)).fin (show (A.node 3 s 0 (some ⟨b, 0, none⟩) c [A.node xk xs xm xa xc xkk]).mine _ _ from ⟨HM7.out.1, by unfold maxLen; omega, HM7.out.2.2⟩) (by have := HK.out; simp [A.erase, erases, cnt, cnts] at this ⊢; omega) _ _ _ _)
 ·go_wp2_with fail
  refine (HIH.out cb n cap (bud + F) a _ (HB.out.less (by omega)).cur).mono ?_
  rintro e w3 ⟨x, rfl, hx, hkx, hCn, hGn⟩
  have HX := mkHid (hx.mono HB.out.lt)
  have HKx := mkHid hkx
  clear hx hkx
  have HD := mkHid (HB.out.next hCn hGn)
  clear hCn hGn HB
  obtain ⟨xk, xs, xm, xa, xc, xkk⟩ := x
  simp only [A.val]
  go_wp2_with fail
  refine (one_mine 5 (A.node xk xs xm xa xc xkk) _ (P + 1) HX.out HD.out.lt).mono ?_
  rintro e w4 ⟨b, c, rfl, hm, hb4⟩
  have HE := mkHid (HD.out.below hb4)
  have HM := mkHid hm
  clear hm hb4 HD HX
  simp only [A.val]
  obtain ⟨d0, d1, d2, d3, e0, e1, e2, e3⟩ := four_of HE.out.res
  go_wp2
  obtain ⟨q0, q1, q2, q3⟩ := put4_cells0 HE.out.res (.int .i64 5) (.string ⟨#[]⟩) (.int .i64 0) (.slice (some ⟨b, 0, none⟩) 1 c)
  exact bodyPost_ret (v := (A.node 5 ⟨#[]⟩ 0 (some ⟨b, 0, none⟩) c [A.node xk xs xm xa xc xkk]).val) (by simp [results, Tryz.results14, go_sem, q0, q1, q2, q3, A.val]) rfl ((HE.out.less (by omega)).fin HM.out (by have := HKx.out; simp [A.erase, erases, cnt, cnts] at this ⊢; omega) _ _ _ _)
 ·go_wp2_with fail
  refine (HIH.out cb n cap (bud + F + 1) a _ (HB.out.less (by omega)).cur).mono ?_
  rintro e w3 ⟨x, rfl, hx, hkx, hCn, hGn⟩
  have HX := mkHid (hx.mono HB.out.lt)
  have HKx := mkHid hkx
  clear hx hkx
  have HD := mkHid (HB.out.next hCn hGn)
  clear hCn hGn HB
  obtain ⟨xk, xs, xm, xa, xc, xkk⟩ := x
  simp only [A.val]
  have hXF : ∀ b ∈ (A.node xk xs xm xa xc xkk).foot, b < w3.heap.size := fun b hb => (HX.out.lt (HX.out.foot hb)).2
  have HXF := mkHid hXF
  have HD4 := mkHid (HD.out.below (below_one w3 (.cells #[.int .i64 xk, .string xs, .int .i64 xm, .slice xa xkk.length xc] 26))).drew
  have HX4 := mkHid (mine_drew (HX.out.below (below_one w3 (.cells #[.int .i64 xk, .string xs, .int .i64 xm, .slice xa xkk.length xc] 26))))
  have HK4 := mkHid (show (w3.alloc (.cells #[.int .i64 xk, .string xs, .int .i64 xm, .slice xa xkk.length xc] 26)).drew.heap[w3.heap.size]? = _ from heap_alloc_new w3 (.cells #[.int .i64 xk, .string xs, .int .i64 xm, .slice xa xkk.length xc] 26))
  have hcP : cb < P + 1 := by have := HD.out.hc; have := HD.out.hP; omega
  have hcQ : cb < w3.heap.size := HD.out.cur.lt
  have hPQ : P + 1 ≤ w3.heap.size := HD.out.lt
  have HU := mkHid (show w3.heap.size + 1 = (w3.alloc (.cells #[.int .i64 xk, .string xs, .int .i64 xm, .slice xa xkk.length xc] 26)).heap.size by simp)
  clear HD HX hXF
  go_wp2
  obtain ⟨u0, hu0⟩ : ∃ u, w3.alloc (.cells #[.int .i64 xk, .string xs, .int .i64 xm, .slice xa xkk.length xc] 26) = u := ⟨_, rfl⟩
  obtain ⟨Q, hQ⟩ : ∃ q, w3.heap.size = q := ⟨_, rfl⟩
  rw [hu0] at HD4 HX4 HK4 HU ⊢
  rw [hQ] at HK4 HXF hcQ hPQ HU ⊢
  clear hu0 hQ
  obtain ⟨f0, f1, f2, f3, g0, g1, g2, g3⟩ := four_of (w := u0.drew) HK4.out
  go_region_law (first | (go_simp; go_at_call 14; refine (HIH.out cb n cap (bud + 1) a _ (HD4.out.less (by omega)).cur).mono ?_; rintro e w6 ⟨y, rfl, hy, hky, hC6, hG6⟩; have hlt6 := HD4.out.lt; have K6 := (hG6.block Q (by show Q < u0.heap.size; have := HU.out; omega) (fun e => by cases e; omega)).trans HK4.out; have HE := mkHid (HD4.out.next hC6 hG6); have HX6 := mkHid (HX4.out.grown hG6 (fun p e => by cases e; exact hcP)); have HY6 := mkHid hy; have HLU := mkHid hG6.size; have HKy := mkHid hky; clear hC6 hG6 hy hky; obtain ⟨f0, f1, f2, f3, g0, g1, g2, g3⟩ := four_of K6; clear K6; obtain ⟨yk, ys, ym, ya, yc, ykk⟩ := y; simp only [A.val]) | (go_simp; go_at_call 44; refine (two_mine 8 (A.node xk xs xm xa xc xkk) (A.node yk ys ym ya yc ykk) _ (P + 1) (Q + 1) HX6.out (fun b hb => Nat.lt_succ_of_lt (HXF.out b hb)) (HY6.out.mono (by show Q + 1 ≤ u0.heap.size; have := HU.out; omega)) (by omega) (by have := HLU.out; have := HU.out; have h0 : u0.drew.heap.size = u0.heap.size := rfl; omega)).mono ?_; rintro e w7 ⟨b, c, rfl, hm, hb7⟩; have HF := mkHid (HE.out.below hb7); have HZ := mkHid hm; clear hm hb7; obtain ⟨d0, d1, d2, d3, e0, e1, e2, e3⟩ := four_of HF.out.res; simp only [A.val]))
  all_goals
   go_wp2
   obtain ⟨q0, q1, q2, q3⟩ := put4_cells0 HF.out.res (.int .i64 8) (.string ⟨#[]⟩) (.int .i64 0) (.slice (some ⟨b, 0, none⟩) 2 c)
   exact bodyPost_ret (v := (A.node 8 ⟨#[]⟩ 0 (some ⟨b, 0, none⟩) c [A.node xk xs xm xa xc xkk, A.node yk ys ym ya yc ykk]).val) (by simp [results, Tryz.results14, go_sem, q0, q1, q2, q3, A.val]) rfl ((HF.out.less (by omega)).fin HZ.out (by have h1 := HKx.out; have h2 := HKy.out; simp [A.erase, erases, cnt, cnts] at h1 h2 ⊢; omega) _ _ _ _)
 ·go_wp2_with fail
  refine (HIH.out cb n cap (bud + F + 1) a _ (HB.out.less (by omega)).cur).mono ?_
  rintro e w3 ⟨x, rfl, hx, hkx, hCn, hGn⟩
  have HX := mkHid (hx.mono HB.out.lt)
  have HKx := mkHid hkx
  clear hx hkx
  have HD := mkHid (HB.out.next hCn hGn)
  clear hCn hGn HB
  obtain ⟨xk, xs, xm, xa, xc, xkk⟩ := x
  simp only [A.val]
  have hXF : ∀ b ∈ (A.node xk xs xm xa xc xkk).foot, b < w3.heap.size := fun b hb => (HX.out.lt (HX.out.foot hb)).2
  have HXF := mkHid hXF
  have HD4 := mkHid (HD.out.below (below_one w3 (.cells #[.int .i64 xk, .string xs, .int .i64 xm, .slice xa xkk.length xc] 26))).drew
  have HX4 := mkHid (mine_drew (HX.out.below (below_one w3 (.cells #[.int .i64 xk, .string xs, .int .i64 xm, .slice xa xkk.length xc] 26))))
  have HK4 := mkHid (show (w3.alloc (.cells #[.int .i64 xk, .string xs, .int .i64 xm, .slice xa xkk.length xc] 26)).drew.heap[w3.heap.size]? = _ from heap_alloc_new w3 (.cells #[.int .i64 xk, .string xs, .int .i64 xm, .slice xa xkk.length xc] 26))
  have hcP : cb < P + 1 := by have := HD.out.hc; have := HD.out.hP; omega
  have hcQ : cb < w3.heap.size := HD.out.cur.lt
  have hPQ : P + 1 ≤ w3.heap.size := HD.out.lt
  have HU := mkHid (show w3.heap.size + 1 = (w3.alloc (.cells #[.int .i64 xk, .string xs, .int .i64 xm, .slice xa xkk.length xc] 26)).heap.size by simp)
  clear HD HX hXF
  go_wp2
  obtain ⟨u0, hu0⟩ : ∃ u, w3.alloc (.cells #[.int .i64 xk, .string xs, .int .i64 xm, .slice xa xkk.length xc] 26) = u := ⟨_, rfl⟩
  obtain ⟨Q, hQ⟩ : ∃ q, w3.heap.size = q := ⟨_, rfl⟩
  rw [hu0] at HD4 HX4 HK4 HU ⊢
  rw [hQ] at HK4 HXF hcQ hPQ HU ⊢
  clear hu0 hQ
  obtain ⟨f0, f1, f2, f3, g0, g1, g2, g3⟩ := four_of (w := u0.drew) HK4.out
  go_region_law (first | (go_simp; go_at_call 38; refine (pick_any 2 cb n cap (bud + F) a _ (by omega) (HD4.out.less (by omega)).cur).mono ?_; rintro e w5 ⟨q, rfl, q0, q1, hC5, hG5⟩; have hlt5 := HD4.out.lt; have K5 := (hG5.block Q (by show Q < u0.heap.size; have := HU.out; omega) (fun e => by cases e; omega)).trans HK4.out; have HD5 := mkHid (HD4.out.next hC5 hG5); have HX5 := mkHid (HX4.out.grown hG5 (fun p e => by cases e; exact hcP)); have HLE := mkHid hG5.size; have hw : IntKind.i64.wrap (6 + q) = 6 + q := IntWalk.i64_in _ (by omega); have HK5 := mkHid K5; clear hC5 hG5 K5; obtain ⟨f0, f1, f2, f3, g0, g1, g2, g3⟩ := four_of HK5.out) | (go_simp; go_at_call 14; refine (HIH.out cb n cap bud a _ (HD5.out.less (by omega)).cur).mono ?_; rintro e w6 ⟨y, rfl, hy, hky, hC6, hG6⟩; have hlt6 := HD5.out.lt; have K6 := (hG6.block Q (by have := HLE.out; have := HU.out; have h0 : u0.drew.heap.size = u0.heap.size := rfl; omega) (fun e => by cases e; omega)).trans HK5.out; have HE := mkHid (HD5.out.next hC6 hG6); have HX6 := mkHid (HX5.out.grown hG6 (fun p e => by cases e; exact hcP)); have HY6 := mkHid hy; have HLU := mkHid hG6.size; have HKy := mkHid hky; clear hC6 hG6 hy hky; obtain ⟨f0, f1, f2, f3, g0, g1, g2, g3⟩ := four_of K6; clear K6; obtain ⟨yk, ys, ym, ya, yc, ykk⟩ := y; simp only [A.val]) | (go_simp; go_at_call 44; refine (two_mine (6 + q) (A.node xk xs xm xa xc xkk) (A.node yk ys ym ya yc ykk) _ (P + 1) (Q + 1) HX6.out (fun b hb => Nat.lt_succ_of_lt (HXF.out b hb)) (HY6.out.mono (by have := HLE.out; have := HU.out; have h0 : u0.drew.heap.size = u0.heap.size := rfl; omega)) (by omega) (by have := HLU.out; have := HLE.out; have := HU.out; have h0 : u0.drew.heap.size = u0.heap.size := rfl; omega)).mono ?_; rintro e w7 ⟨b, c, rfl, hm, hb7⟩; have HF := mkHid (HE.out.below hb7); have HZ := mkHid hm; clear hm hb7; obtain ⟨d0, d1, d2, d3, e0, e1, e2, e3⟩ := four_of HF.out.res; simp only [A.val]))
  all_goals
   go_wp2
   obtain ⟨q0, q1, q2, q3⟩ := put4_cells0 HF.out.res (.int .i64 (6 + q)) (.string ⟨#[]⟩) (.int .i64 0) (.slice (some ⟨b, 0, none⟩) 2 c)
   exact bodyPost_ret (v := (A.node (6 + q) ⟨#[]⟩ 0 (some ⟨b, 0, none⟩) c [A.node xk xs xm xa xc xkk, A.node yk ys ym ya yc ykk]).val) (by simp [results, Tryz.results14, go_sem, q0, q1, q2, q3, A.val]) rfl ((HF.out.less (by omega)).fin HZ.out (by have h1 := HKx.out; have h2 := HKy.out; simp [A.erase, erases, cnt, cnts] at h1 h2 ⊢; omega) _ _ _ _)
 ·go_wp2_with fail
  refine (HIH.out cb n cap (bud + F + 1) a _ (HB.out.less (by omega)).cur).mono ?_
  rintro e w3 ⟨x, rfl, hx, hkx, hCn, hGn⟩
  have HX := mkHid (hx.mono HB.out.lt)
  have HKx := mkHid hkx
  clear hx hkx
  have HD := mkHid (HB.out.next hCn hGn)
  clear hCn hGn HB
  obtain ⟨xk, xs, xm, xa, xc, xkk⟩ := x
  simp only [A.val]
  have hXF : ∀ b ∈ (A.node xk xs xm xa xc xkk).foot, b < w3.heap.size := fun b hb => (HX.out.lt (HX.out.foot hb)).2
  have HXF := mkHid hXF
  have HD4 := mkHid (HD.out.below (below_one w3 (.cells #[.int .i64 xk, .string xs, .int .i64 xm, .slice xa xkk.length xc] 26))).drew
  have HX4 := mkHid (mine_drew (HX.out.below (below_one w3 (.cells #[.int .i64 xk, .string xs, .int .i64 xm, .slice xa xkk.length xc] 26))))
  have HK4 := mkHid (show (w3.alloc (.cells #[.int .i64 xk, .string xs, .int .i64 xm, .slice xa xkk.length xc] 26)).drew.heap[w3.heap.size]? = _ from heap_alloc_new w3 (.cells #[.int .i64 xk, .string xs, .int .i64 xm, .slice xa xkk.length xc] 26))
  have hcP : cb < P + 1 := by have := HD.out.hc; have := HD.out.hP; omega
  have hcQ : cb < w3.heap.size := HD.out.cur.lt
  have hPQ : P + 1 ≤ w3.heap.size := HD.out.lt
  have HU := mkHid (show w3.heap.size + 1 = (w3.alloc (.cells #[.int .i64 xk, .string xs, .int .i64 xm, .slice xa xkk.length xc] 26)).heap.size by simp)
  clear HD HX hXF
  go_wp2
  obtain ⟨u0, hu0⟩ : ∃ u, w3.alloc (.cells #[.int .i64 xk, .string xs, .int .i64 xm, .slice xa xkk.length xc] 26) = u := ⟨_, rfl⟩
  obtain ⟨Q, hQ⟩ : ∃ q, w3.heap.size = q := ⟨_, rfl⟩
  rw [hu0] at HD4 HX4 HK4 HU ⊢
  rw [hQ] at HK4 HXF hcQ hPQ HU ⊢
  clear hu0 hQ
  obtain ⟨f0, f1, f2, f3, g0, g1, g2, g3⟩ := four_of (w := u0.drew) HK4.out
  go_region_law (first | (go_simp; go_at_call 38; refine (pick_any 2 cb n cap (bud + F) a _ (by omega) (HD4.out.less (by omega)).cur).mono ?_; rintro e w5 ⟨q, rfl, q0, q1, hC5, hG5⟩; have hlt5 := HD4.out.lt; have K5 := (hG5.block Q (by show Q < u0.heap.size; have := HU.out; omega) (fun e => by cases e; omega)).trans HK4.out; have HD5 := mkHid (HD4.out.next hC5 hG5); have HX5 := mkHid (HX4.out.grown hG5 (fun p e => by cases e; exact hcP)); have HLE := mkHid hG5.size; have hw : IntKind.i64.wrap (6 + q) = 6 + q := IntWalk.i64_in _ (by omega); have HK5 := mkHid K5; clear hC5 hG5 K5; obtain ⟨f0, f1, f2, f3, g0, g1, g2, g3⟩ := four_of HK5.out) | (go_simp; go_at_call 14; refine (HIH.out cb n cap bud a _ (HD5.out.less (by omega)).cur).mono ?_; rintro e w6 ⟨y, rfl, hy, hky, hC6, hG6⟩; have hlt6 := HD5.out.lt; have K6 := (hG6.block Q (by have := HLE.out; have := HU.out; have h0 : u0.drew.heap.size = u0.heap.size := rfl; omega) (fun e => by cases e; omega)).trans HK5.out; have HE := mkHid (HD5.out.next hC6 hG6); have HX6 := mkHid (HX5.out.grown hG6 (fun p e => by cases e; exact hcP)); have HY6 := mkHid hy; have HLU := mkHid hG6.size; have HKy := mkHid hky; clear hC6 hG6 hy hky; obtain ⟨f0, f1, f2, f3, g0, g1, g2, g3⟩ := four_of K6; clear K6; obtain ⟨yk, ys, ym, ya, yc, ykk⟩ := y; simp only [A.val]) | (go_simp; go_at_call 44; refine (two_mine (6 + q) (A.node xk xs xm xa xc xkk) (A.node yk ys ym ya yc ykk) _ (P + 1) (Q + 1) HX6.out (fun b hb => Nat.lt_succ_of_lt (HXF.out b hb)) (HY6.out.mono (by have := HLE.out; have := HU.out; have h0 : u0.drew.heap.size = u0.heap.size := rfl; omega)) (by omega) (by have := HLU.out; have := HLE.out; have := HU.out; have h0 : u0.drew.heap.size = u0.heap.size := rfl; omega)).mono ?_; rintro e w7 ⟨b, c, rfl, hm, hb7⟩; have HF := mkHid (HE.out.below hb7); have HZ := mkHid hm; clear hm hb7; obtain ⟨d0, d1, d2, d3, e0, e1, e2, e3⟩ := four_of HF.out.res; simp only [A.val]))
  all_goals
   go_wp2
   obtain ⟨q0, q1, q2, q3⟩ := put4_cells0 HF.out.res (.int .i64 (6 + q)) (.string ⟨#[]⟩) (.int .i64 0) (.slice (some ⟨b, 0, none⟩) 2 c)
   exact bodyPost_ret (v := (A.node (6 + q) ⟨#[]⟩ 0 (some ⟨b, 0, none⟩) c [A.node xk xs xm xa xc xkk, A.node yk ys ym ya yc ykk]).val) (by simp [results, Tryz.results14, go_sem, q0, q1, q2, q3, A.val]) rfl ((HF.out.less (by omega)).fin HZ.out (by have h1 := HKx.out; have h2 := HKy.out; simp [A.erase, erases, cnt, cnts] at h1 h2 ⊢; omega) _ _ _ _)
theorem sDrawExpr_any : ∀ d, d ≤ 1000 → ExprOkS d
 | 0, _ => expr_zero
 | d + 1, h => expr_succ d h (sDrawExpr_any d (by omega))
end Go.Proofs.YtjmjmdmnejnlbaaGreatDoor
namespace Go.Proofs.YtjmjmdmnejnlbaaGreatDoor
open Go.RowKit
open Pl
set_option maxHeartbeats 800000 in
theorem size_any (m : Int) (cb n cap bud : Nat) (a : Option Addr) (w : World) (hm0 : 1 ≤ m) (hm : m ≤ 1000) (hC : Cur w cb a n cap (bud + 1)) :
    Calls Tryz.prog 15 #[.pointer (some ⟨cb, 0, none⟩), .int .i64 m] w fun e w' => ∃ r : Int, e = .returned (.int .i64 r) ∧ 0 ≤ r ∧ r ≤ m ∧ Cur w' cb a n cap bud ∧ w.grownBy w' (some cb) := by
 have HC := mkHid hC
 obtain ⟨x, seed, hh, _, _, _, hn, _⟩ := hC
 have c0 : w.cell? ⟨cb, 0, none⟩ = some (.slice a n cap) := by rw [Lib.cell_of_heap hh]; rfl
 clear hh
 by_cases hb : m < 1 + (n : Int) / 12
 ·go_enter Tryz.func15, Tryz.ntmps15
  go_wp2_with fail
  refine (pick_any _ cb n cap bud a _ (by omega) HC.out).mono ?_
  rintro e w1 ⟨r, rfl, h1, h2, h3, h4⟩
  have H2 := mkHid (show 0 ≤ r ∧ r ≤ m by omega)
  have H3 := mkHid h3
  have H4 := mkHid h4
  clear h1 h2 h3 h4
  go_wp2
  go_ret
  exact ⟨_, rfl, H2.out.1, H2.out.2, H3.out, H4.out⟩
 ·go_enter Tryz.func15, Tryz.ntmps15
  go_wp2_with fail
  refine (pick_any _ cb n cap bud a _ (by omega) HC.out).mono ?_
  rintro e w1 ⟨r, rfl, h1, h2, h3, h4⟩
  have H2 := mkHid (show 0 ≤ r ∧ r ≤ m by omega)
  have H3 := mkHid h3
  have H4 := mkHid h4
  clear h1 h2 h3 h4
  go_wp2
  go_ret
  exact ⟨_, rfl, H2.out.1, H2.out.2, H3.out, H4.out⟩
set_option maxRecDepth 100000 in
set_option maxHeartbeats 8000000 in
theorem sDrawCond_any (cb n cap bud : Nat) (a : Option Addr) (w : World) (hC : Cur w cb a n cap (bud + 30)) : Calls Tryz.prog 17 #[.pointer (some ⟨cb, 0, none⟩)] w (DPost cb n cap bud 19 a w) := by
 have HIH : Hid (∀ (cb n cap bud : Nat) (a : Option Addr) (w : World), Cur w cb a n cap (bud + 14) → Calls Tryz.prog 14 #[.pointer (some ⟨cb, 0, none⟩), .int .i64 1] w (DPost cb n cap bud 9 a w)) := mkHid (sDrawExpr_any 1 (by omega))
 have HI0 : Hid (∀ (cb n cap bud : Nat) (a : Option Addr) (w : World), Cur w cb a n cap (bud + 6) → Calls Tryz.prog 14 #[.pointer (some ⟨cb, 0, none⟩), .int .i64 0] w (DPost cb n cap bud 4 a w)) := mkHid (sDrawExpr_any 0 (by omega))
 have HA := mkHid (Dat.start hC)
 obtain ⟨w1, hw1⟩ : ∃ q, w.alloc (.cells #[.int .i64 0, .string ⟨#[]⟩, .int .i64 0, .slice none 0 0] 26) = q := ⟨_, rfl⟩
 obtain ⟨P, hP⟩ : ∃ q, w.heap.size = q := ⟨_, rfl⟩
 rw [hw1, hP] at HA
 clear hC
 go_enter Tryz.func17, Tryz.ntmps17
 go_wp2_with fail
 first | rw [hw1] | skip
 first | rw [hP] | skip
 clear hw1
 have HPS := mkHid hP
 clear hP
 refine (pick_any 6 cb n cap (bud + 29) a _ (by omega) (HA.out.less (by omega)).cur).mono ?_
 rintro e w2 ⟨q, rfl, q0, q1, hC2, hG2⟩
 have HB := mkHid (HA.out.next hC2 hG2)
 clear hC2 hG2 HA
 have hw : IntKind.i64.wrap (11 + q) = 11 + q := IntWalk.i64_in _ (by omega)
 clear q0 q1
 go_wp2_with fail
 refine (once_any 3 cb n cap (bud + 28) a _ (by omega) (by omega) HB.out.cur).mono ?_
 rintro e w3 ⟨r, rfl, hCn, hGn⟩
 have HB := mkHid (HB.out.next hCn hGn)
 clear hCn hGn
 cases r
 ·go_wp2_with fail
  refine (once_any 2 cb n cap (bud + 27) a _ (by omega) (by omega) HB.out.cur).mono ?_
  rintro e w4 ⟨r2, rfl, hCn, hGn⟩
  have HB := mkHid (HB.out.next hCn hGn)
  clear hCn hGn
  cases r2
  ·go_wp2_with fail
   refine (sDrawVar_any cb n cap (bud + 6) a _ (HB.out.less (by omega)).cur).mono ?_
   rintro e w5 ⟨s, rfl, hs, hCn, hGn⟩
   have HD := mkHid (HB.out.next hCn hGn)
   clear hCn hGn HB
   go_wp2_with fail
   refine (sVar_any s _).mono ?_
   rintro e w6 ⟨rfl, hb6⟩
   have HE := mkHid (HD.out.below hb6)
   clear hb6 HD
   simp only [A.val]
   go_wp2_with fail
   refine (HI0.out cb n cap bud a _ (HE.out.less (by omega)).cur).mono ?_
   rintro e w7 ⟨y, rfl, hy, hky, hCn, hGn⟩
   have HY := mkHid (hy.mono HE.out.lt)
   have HKy := mkHid hky
   clear hy hky
   have HF := mkHid (HE.out.next hCn hGn)
   clear hCn hGn HE
   obtain ⟨yk, ys, ym, ya, yc, ykk⟩ := y
   simp only [A.val]
   go_wp2_with fail
   refine (two_mine (11 + q) (.node 2 s 0 none 0 []) (.node yk ys ym ya yc ykk) _ (P + 1) (P + 1) (leaf_mine _ _ (by unfold maxLen; omega)) (leaf_foot _ _ _ _) HY.out (Nat.le_refl _) HF.out.lt).mono ?_
   rintro e w8 ⟨b, c, rfl, hm, hb8⟩
   have HG := mkHid (HF.out.below hb8)
   have HM := mkHid hm
   clear hm hb8 HF HY
   simp only [A.val]
   obtain ⟨d0, d1, d2, d3, e0, e1, e2, e3⟩ := four_of HG.out.res
   go_wp2
   obtain ⟨q0, q1, q2, q3⟩ := put4_cells0 HG.out.res (.int .i64 (11 + q)) (.string ⟨#[]⟩) (.int .i64 0) (.slice (some ⟨b, 0, none⟩) 2 c)
   exact bodyPost_ret (v := (A.node (11 + q) ⟨#[]⟩ 0 (some ⟨b, 0, none⟩) c [.node 2 s 0 none 0 [], .node yk ys ym ya yc ykk]).val) (by simp [results, Tryz.results17, go_sem, q0, q1, q2, q3, A.val]) rfl ((HG.out.less (by omega)).fin HM.out (by have := HKy.out; simp [A.erase, erases, cnt, cnts] at this ⊢; omega) _ _ _ _)
  ·go_wp2_with fail
   refine (sDrawVar_any cb n cap (bud + 6) a _ (HB.out.less (by omega)).cur).mono ?_
   rintro e w5 ⟨s, rfl, hs, hCn, hGn⟩
   have HD := mkHid (HB.out.next hCn hGn)
   clear hCn hGn HB
   go_wp2_with fail
   refine (sVar_any s _).mono ?_
   rintro e w6 ⟨rfl, hb6⟩
   have HE := mkHid (HD.out.below hb6)
   clear hb6 HD
   simp only [A.val]
   go_wp2_with fail
   refine (sDrawArr_any cb n cap bud a _ (HE.out.less (by omega)).cur).mono ?_
   rintro e w7 ⟨s2, rfl, hs2, hCn, hGn⟩
   have HF := mkHid (HE.out.next hCn hGn)
   clear hCn hGn HE
   go_wp2_with fail
   refine (two_mine (11 + q) (.node 2 s 0 none 0 []) (.node 4 s2 0 none 0 []) _ (P + 1) (P + 1) (leaf_mine _ _ (by unfold maxLen; omega)) (leaf_foot _ _ _ _) (leaf_mine _ _ (by unfold maxLen; omega)) (Nat.le_refl _) HF.out.lt).mono ?_
   rintro e w8 ⟨b, c, rfl, hm, hb8⟩
   have HG := mkHid (HF.out.below hb8)
   have HM := mkHid hm
   clear hm hb8 HF
   simp only [A.val]
   obtain ⟨d0, d1, d2, d3, e0, e1, e2, e3⟩ := four_of HG.out.res
   go_wp2
   obtain ⟨q0, q1, q2, q3⟩ := put4_cells0 HG.out.res (.int .i64 (11 + q)) (.string ⟨#[]⟩) (.int .i64 0) (.slice (some ⟨b, 0, none⟩) 2 c)
   exact bodyPost_ret (v := (A.node (11 + q) ⟨#[]⟩ 0 (some ⟨b, 0, none⟩) c [.node 2 s 0 none 0 [], .node 4 s2 0 none 0 []]).val) (by simp [results, Tryz.results17, go_sem, q0, q1, q2, q3, A.val]) rfl ((HG.out.less (by omega)).fin HM.out (by simp [A.erase, erases, cnt, cnts] <;> omega) _ _ _ _)
 ·go_wp2_with fail
  refine (HIH.out cb n cap (bud + 14) a _ (HB.out.less (by omega)).cur).mono ?_
  rintro e w4 ⟨x, rfl, hx, hkx, hCn, hGn⟩
  have HX := mkHid (hx.mono HB.out.lt)
  have HKx := mkHid hkx
  clear hx hkx
  have HD := mkHid (HB.out.next hCn hGn)
  clear hCn hGn HB
  obtain ⟨xk, xs, xm, xa, xc, xkk⟩ := x
  simp only [A.val]
  have hXF : ∀ b ∈ (A.node xk xs xm xa xc xkk).foot, b < w4.heap.size := fun b hb => (HX.out.lt (HX.out.foot hb)).2
  have HXF := mkHid hXF
  have HD4 := mkHid (HD.out.below (below_one w4 (.cells #[.int .i64 xk, .string xs, .int .i64 xm, .slice xa xkk.length xc] 26))).drew
  have HX4 := mkHid (mine_drew (HX.out.below (below_one w4 (.cells #[.int .i64 xk, .string xs, .int .i64 xm, .slice xa xkk.length xc] 26))))
  have HK4 := mkHid (show (w4.alloc (.cells #[.int .i64 xk, .string xs, .int .i64 xm, .slice xa xkk.length xc] 26)).drew.heap[w4.heap.size]? = _ from heap_alloc_new w4 (.cells #[.int .i64 xk, .string xs, .int .i64 xm, .slice xa xkk.length xc] 26))
  have hcP : cb < P + 1 := by have := HD.out.hc; have := HD.out.hP; omega
  have hcQ : cb < w4.heap.size := HD.out.cur.lt
  have hPQ : P + 1 ≤ w4.heap.size := HD.out.lt
  have HU := mkHid (show w4.heap.size + 1 = (w4.alloc (.cells #[.int .i64 xk, .string xs, .int .i64 xm, .slice xa xkk.length xc] 26)).heap.size by simp)
  clear HD HX hXF
  go_wp2
  obtain ⟨u0, hu0⟩ : ∃ u, w4.alloc (.cells #[.int .i64 xk, .string xs, .int .i64 xm, .slice xa xkk.length xc] 26) = u := ⟨_, rfl⟩
  obtain ⟨Q, hQ⟩ : ∃ q, w4.heap.size = q := ⟨_, rfl⟩
  rw [hu0] at HD4 HX4 HK4 HU ⊢
  rw [hQ] at HK4 HXF hcQ hPQ HU ⊢
  clear hu0 hQ
  obtain ⟨f0, f1, f2, f3, g0, g1, g2, g3⟩ := four_of (w := u0.drew) HK4.out
  go_region_law (first | (go_simp; go_at_call 14; refine (HIH.out cb n cap bud a _ (HD4.out.less (by omega)).cur).mono ?_; rintro e w6 ⟨y, rfl, hy, hky, hC6, hG6⟩; have hlt6 := HD4.out.lt; have K6 := (hG6.block Q (by show Q < u0.heap.size; have := HU.out; omega) (fun e => by cases e; omega)).trans HK4.out; have HE := mkHid (HD4.out.next hC6 hG6); have HX6 := mkHid (HX4.out.grown hG6 (fun p e => by cases e; exact hcP)); have HY6 := mkHid hy; have HLU := mkHid hG6.size; have HKy := mkHid hky; clear hC6 hG6 hy hky; obtain ⟨f0, f1, f2, f3, g0, g1, g2, g3⟩ := four_of K6; clear K6; obtain ⟨yk, ys, ym, ya, yc, ykk⟩ := y; simp only [A.val]) | (go_simp; go_at_call 44; refine (two_mine (11 + q) (A.node xk xs xm xa xc xkk) (A.node yk ys ym ya yc ykk) _ (P + 1) (Q + 1) HX6.out (fun b hb => Nat.lt_succ_of_lt (HXF.out b hb)) (HY6.out.mono (by show Q + 1 ≤ u0.heap.size; have := HU.out; omega)) (by omega) (by have := HLU.out; have := HU.out; have h0 : u0.drew.heap.size = u0.heap.size := rfl; omega)).mono ?_; rintro e w7 ⟨b, c, rfl, hm, hb7⟩; have HF := mkHid (HE.out.below hb7); have HZ := mkHid hm; clear hm hb7; obtain ⟨d0, d1, d2, d3, e0, e1, e2, e3⟩ := four_of HF.out.res; simp only [A.val]))
  all_goals
   go_wp2
   obtain ⟨q0, q1, q2, q3⟩ := put4_cells0 HF.out.res (.int .i64 (11 + q)) (.string ⟨#[]⟩) (.int .i64 0) (.slice (some ⟨b, 0, none⟩) 2 c)
   exact bodyPost_ret (v := (A.node (11 + q) ⟨#[]⟩ 0 (some ⟨b, 0, none⟩) c [A.node xk xs xm xa xc xkk, A.node yk ys ym ya yc ykk]).val) (by simp [results, Tryz.results17, go_sem, q0, q1, q2, q3, A.val]) rfl ((HF.out.less (by omega)).fin HZ.out (by have h1 := HKx.out; have h2 := HKy.out; simp [A.erase, erases, cnt, cnts] at h1 h2 ⊢; omega) _ _ _ _)
end Go.Proofs.YtjmjmdmnejnlbaaGreatDoor
