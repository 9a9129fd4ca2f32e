/-
  CONTRACT of the specification's reader's stmt: check, read, skip, stop.
  CONTRACT of the specification's reader's stmt: a name, or a cell, gets a value.
  CONTRACT of the specification's reader's stmt and block.
  PLAIN FACTS: the specification's reader against the plain reading, at declarations and at programs.
-/
import Derived.Test.YtedfnadgmhjojaaGreatDoorMSfor
namespace Go.Proofs.YtedfnadgmhjojaaGreatDoor
open Go.RowKit
open Pl

set_option maxRecDepth 100000 in
set_option maxHeartbeats 4000000 in
theorem sstmt_skip {rb : Nat} {a : Option Addr} {cap : Nat} {ws : List W3} {F f : Nat}  (i : Nat) (w : World) (h : Sd w rb a cap ws (i, false)) (n0 : isW ws i ⟨#[105, 102]⟩ = false) (n1 : isW ws i ⟨#[119, 104, 105, 108, 101]⟩ = false) (n2 : isW ws i ⟨#[102, 111, 114]⟩ = false) (n3 : isW ws i ⟨#[99, 104, 101, 99, 107]⟩ = false) (n4 : isW ws i ⟨#[114, 101, 97, 100]⟩ = false) (h1 : isW ws i ⟨#[115, 107, 105, 112]⟩ = true) :
    Calls Tryz.prog 116 #[.pointer (some ⟨rb, 0, none⟩)] w (SPost rb a cap ws w (mStmt ws F (f + 1) i) (i, false)) := by
 have H1 := mkHid h1
 have HA := mkHid h
 have hrb := h.lt
 have HSR := mkHid (fun (x : T) (st1 : St2) h => sr_semi (F := F) (f := f) (x := x) (st1 := st1) n0 n1 n2 h)
 have C0 := mkHid (fun w h => sTake_no rb a cap ws (i, false) ⟨#[105, 102]⟩ (by decide) w h (by rw [tk_good]; exact n0))
 have C1 := mkHid (fun w h => sTake_no rb a cap ws (i, false) ⟨#[119, 104, 105, 108, 101]⟩ (by decide) w h (by rw [tk_good]; exact n1))
 have C2 := mkHid (fun w h => sTake_no rb a cap ws (i, false) ⟨#[102, 111, 114]⟩ (by decide) w h (by rw [tk_good]; exact n2))
 have C3 := mkHid (fun w h => sTake_no rb a cap ws (i, false) ⟨#[99, 104, 101, 99, 107]⟩ (by decide) w h (by rw [tk_good]; exact n3))
 have C4 := mkHid (fun w h => sTake_no rb a cap ws (i, false) ⟨#[114, 101, 97, 100]⟩ (by decide) w h (by rw [tk_good]; exact n4))
 have C5 := mkHid (fun w h => sTake_yes rb a cap ws (i, false) ⟨#[115, 107, 105, 112]⟩ (by decide) w h (by rw [tk_good]; exact h1))
 have CS := mkHid (fun st w h => sNeed_any rb a cap ws st ⟨#[59]⟩ (by decide) w h)
 clear h h1 n0 n1 n2 n3 n4
 go_enter Tryz.func116, Tryz.ntmps116
 go_wp2_with fail
 refine (C0.out _ ((HA.out.alloc _).alloc _)).mono ?_
 rintro e w1 ⟨rfl, r, s⟩
 have G1 := mkHid (SGrown.zero hrb s r)
 clear r s
 go_wp2_with fail
 refine (C1.out _ G1.out.sd).mono ?_
 rintro e w2 ⟨rfl, r, s⟩
 have G2 := mkHid (G1.out.on s r)
 clear r s G1
 go_wp2_with fail
 refine (C2.out _ G2.out.sd).mono ?_
 rintro e w3 ⟨rfl, r, s⟩
 have G3 := mkHid (G2.out.on s r)
 clear r s G2
 go_wp2_with fail
 refine (C3.out _ G3.out.sd).mono ?_
 rintro e w4 ⟨rfl, r, s⟩
 have G4 := mkHid (G3.out.on s r)
 clear r s G3
 go_wp2_with fail
 refine (C4.out _ G4.out.sd).mono ?_
 rintro e w5 ⟨rfl, r, s⟩
 have G5 := mkHid (G4.out.on s r)
 clear r s G4
 go_wp2_with fail
 refine (C5.out _ G5.out.sd).mono ?_
 rintro e w6 ⟨rfl, r, s⟩
 have G6 := mkHid (G5.out.on s r)
 clear r s G5
 clear C0 C1 C2 C3 C4 C5
 have GB := G6
 clear G6
 have GC := mkHid (GB.out.set (y := (A.node 28 ⟨#[]⟩ 0 none 0 [])) (Sits.leaf _ _ _ (by decide)) (New.leaf _ _ _ _ _ _) (by rw [foot_leaf]; simp) (.int .i64 28) (.string ⟨#[]⟩) (.int .i64 0) (.slice none 0 0) rfl)
 obtain ⟨e0, e1, e2, e3, g0, g1, g2, g3⟩ := four_of GB.out.here
 clear GB
 go_wp2_with fail
 refine (CS.out (i + 1, false) _ GC.out.sd).mono ?_
 rintro e wz ⟨rfl, r, s⟩
 have GZ := mkHid (GC.out.on s r)
 clear r s GC CS e0 e1 e2 e3 g0 g1 g2 g3
 obtain ⟨d0, d1, d2, d3, _⟩ := four_of (show wz.heap[w.heap.size + 1]? = some (.cells #[.int .i64 28, .string ⟨#[]⟩, .int .i64 0, .slice none 0 0] 38 (0, 0)) from GZ.out.here)
 obtain ⟨c0, c1, c2, c3, f0, f1, f2, f3⟩ := four_of GZ.out.res
 go_wp2
 obtain ⟨q0, q1, q2, q3⟩ := put4_cells0 GZ.out.res (.int .i64 28) (.string ⟨#[]⟩) (.int .i64 0) (.slice none 0 0)
 exact bodyPost_ret (v := (A.node 28 ⟨#[]⟩ 0 none 0 []).val) (by simp [results, Tryz.results116, go_sem, q0, q1, q2, q3, A.val]) rfl (sp_tree _ _ _ _ _ GZ.out.sd hrb GZ.out.step GZ.out.sits GZ.out.new (by omega) (by rw [erase0]; exact HSR.out _ _ (sr_skip H1.out)))
set_option maxRecDepth 100000 in
set_option maxHeartbeats 4000000 in
theorem sstmt_stop {rb : Nat} {a : Option Addr} {cap : Nat} {ws : List W3} {F f : Nat}  (i : Nat) (w : World) (h : Sd w rb a cap ws (i, false)) (n0 : isW ws i ⟨#[105, 102]⟩ = false) (n1 : isW ws i ⟨#[119, 104, 105, 108, 101]⟩ = false) (n2 : isW ws i ⟨#[102, 111, 114]⟩ = false) (n3 : isW ws i ⟨#[99, 104, 101, 99, 107]⟩ = false) (n4 : isW ws i ⟨#[114, 101, 97, 100]⟩ = false) (n5 : isW ws i ⟨#[115, 107, 105, 112]⟩ = false) (h1 : isW ws i ⟨#[115, 116, 111, 112]⟩ = true) :
    Calls Tryz.prog 116 #[.pointer (some ⟨rb, 0, none⟩)] w (SPost rb a cap ws w (mStmt ws F (f + 1) i) (i, false)) := by
 have H1 := mkHid h1
 have HA := mkHid h
 have hrb := h.lt
 have HSR := mkHid (fun (x : T) (st1 : St2) h => sr_semi (F := F) (f := f) (x := x) (st1 := st1) n0 n1 n2 h)
 have C0 := mkHid (fun w h => sTake_no rb a cap ws (i, false) ⟨#[105, 102]⟩ (by decide) w h (by rw [tk_good]; exact n0))
 have C1 := mkHid (fun w h => sTake_no rb a cap ws (i, false) ⟨#[119, 104, 105, 108, 101]⟩ (by decide) w h (by rw [tk_good]; exact n1))
 have C2 := mkHid (fun w h => sTake_no rb a cap ws (i, false) ⟨#[102, 111, 114]⟩ (by decide) w h (by rw [tk_good]; exact n2))
 have C3 := mkHid (fun w h => sTake_no rb a cap ws (i, false) ⟨#[99, 104, 101, 99, 107]⟩ (by decide) w h (by rw [tk_good]; exact n3))
 have C4 := mkHid (fun w h => sTake_no rb a cap ws (i, false) ⟨#[114, 101, 97, 100]⟩ (by decide) w h (by rw [tk_good]; exact n4))
 have C5 := mkHid (fun w h => sTake_no rb a cap ws (i, false) ⟨#[115, 107, 105, 112]⟩ (by decide) w h (by rw [tk_good]; exact n5))
 have C6 := mkHid (fun w h => sTake_yes rb a cap ws (i, false) ⟨#[115, 116, 111, 112]⟩ (by decide) w h (by rw [tk_good]; exact h1))
 have CS := mkHid (fun st w h => sNeed_any rb a cap ws st ⟨#[59]⟩ (by decide) w h)
 clear h h1 n0 n1 n2 n3 n4 n5
 go_enter Tryz.func116, Tryz.ntmps116
 go_wp2_with fail
 refine (C0.out _ ((HA.out.alloc _).alloc _)).mono ?_
 rintro e w1 ⟨rfl, r, s⟩
 have G1 := mkHid (SGrown.zero hrb s r)
 clear r s
 go_wp2_with fail
 refine (C1.out _ G1.out.sd).mono ?_
 rintro e w2 ⟨rfl, r, s⟩
 have G2 := mkHid (G1.out.on s r)
 clear r s G1
 go_wp2_with fail
 refine (C2.out _ G2.out.sd).mono ?_
 rintro e w3 ⟨rfl, r, s⟩
 have G3 := mkHid (G2.out.on s r)
 clear r s G2
 go_wp2_with fail
 refine (C3.out _ G3.out.sd).mono ?_
 rintro e w4 ⟨rfl, r, s⟩
 have G4 := mkHid (G3.out.on s r)
 clear r s G3
 go_wp2_with fail
 refine (C4.out _ G4.out.sd).mono ?_
 rintro e w5 ⟨rfl, r, s⟩
 have G5 := mkHid (G4.out.on s r)
 clear r s G4
 go_wp2_with fail
 refine (C5.out _ G5.out.sd).mono ?_
 rintro e w6 ⟨rfl, r, s⟩
 have G6 := mkHid (G5.out.on s r)
 clear r s G5
 go_wp2_with fail
 refine (C6.out _ G6.out.sd).mono ?_
 rintro e w7 ⟨rfl, r, s⟩
 have G7 := mkHid (G6.out.on s r)
 clear r s G6
 clear C0 C1 C2 C3 C4 C5 C6
 have GB := G7
 clear G7
 have GC := mkHid (GB.out.set (y := (A.node 29 ⟨#[]⟩ 0 none 0 [])) (Sits.leaf _ _ _ (by decide)) (New.leaf _ _ _ _ _ _) (by rw [foot_leaf]; simp) (.int .i64 29) (.string ⟨#[]⟩) (.int .i64 0) (.slice none 0 0) rfl)
 obtain ⟨e0, e1, e2, e3, g0, g1, g2, g3⟩ := four_of GB.out.here
 clear GB
 go_wp2_with fail
 refine (CS.out (i + 1, false) _ GC.out.sd).mono ?_
 rintro e wz ⟨rfl, r, s⟩
 have GZ := mkHid (GC.out.on s r)
 clear r s GC CS e0 e1 e2 e3 g0 g1 g2 g3
 obtain ⟨d0, d1, d2, d3, _⟩ := four_of (show wz.heap[w.heap.size + 1]? = some (.cells #[.int .i64 29, .string ⟨#[]⟩, .int .i64 0, .slice none 0 0] 38 (0, 0)) from GZ.out.here)
 obtain ⟨c0, c1, c2, c3, f0, f1, f2, f3⟩ := four_of GZ.out.res
 go_wp2
 obtain ⟨q0, q1, q2, q3⟩ := put4_cells0 GZ.out.res (.int .i64 29) (.string ⟨#[]⟩) (.int .i64 0) (.slice none 0 0)
 exact bodyPost_ret (v := (A.node 29 ⟨#[]⟩ 0 none 0 []).val) (by simp [results, Tryz.results116, go_sem, q0, q1, q2, q3, A.val]) rfl (sp_tree _ _ _ _ _ GZ.out.sd hrb GZ.out.step GZ.out.sits GZ.out.new (by omega) (by rw [erase0]; exact HSR.out _ _ (sr_stop H1.out)))
set_option maxRecDepth 100000 in
set_option maxHeartbeats 4000000 in
theorem sstmt_read {rb : Nat} {a : Option Addr} {cap : Nat} {ws : List W3} {F f : Nat} (he : Env ws) (i : Nat) (w : World) (h : Sd w rb a cap ws (i, false)) (n0 : isW ws i ⟨#[105, 102]⟩ = false) (n1 : isW ws i ⟨#[119, 104, 105, 108, 101]⟩ = false) (n2 : isW ws i ⟨#[102, 111, 114]⟩ = false) (n3 : isW ws i ⟨#[99, 104, 101, 99, 107]⟩ = false) (h1 : isW ws i ⟨#[114, 101, 97, 100]⟩ = true) :
    Calls Tryz.prog 116 #[.pointer (some ⟨rb, 0, none⟩)] w (SPost rb a cap ws w (mStmt ws F (f + 1) i) (i, false)) := by
 have H1 := mkHid h1
 have HA := mkHid h
 have hrb := h.lt
 have HSR := mkHid (fun (x : T) (st1 : St2) h => sr_semi (F := F) (f := f) (x := x) (st1 := st1) n0 n1 n2 h)
 have C0 := mkHid (fun w h => sTake_no rb a cap ws (i, false) ⟨#[105, 102]⟩ (by decide) w h (by rw [tk_good]; exact n0))
 have C1 := mkHid (fun w h => sTake_no rb a cap ws (i, false) ⟨#[119, 104, 105, 108, 101]⟩ (by decide) w h (by rw [tk_good]; exact n1))
 have C2 := mkHid (fun w h => sTake_no rb a cap ws (i, false) ⟨#[102, 111, 114]⟩ (by decide) w h (by rw [tk_good]; exact n2))
 have C3 := mkHid (fun w h => sTake_no rb a cap ws (i, false) ⟨#[99, 104, 101, 99, 107]⟩ (by decide) w h (by rw [tk_good]; exact n3))
 have C4 := mkHid (fun w h => sTake_yes rb a cap ws (i, false) ⟨#[114, 101, 97, 100]⟩ (by decide) w h (by rw [tk_good]; exact h1))
 have CS := mkHid (fun st w h => sNeed_any rb a cap ws st ⟨#[59]⟩ (by decide) w h)
 have hnm := name_len he (i + 1, false)
 have CN := mkHid (fun w h => sNm_any rb a cap ws (i + 1, false) w h)
 have HRD := mkHid (sr_read (F := F) h1)
 generalize nmT ws (i + 1, false) = nm at CN HRD hnm
 generalize nmS ws (i + 1, false) = sA at CN HRD
 clear h h1 n0 n1 n2 n3 he
 go_enter Tryz.func116, Tryz.ntmps116
 go_wp2_with fail
 refine (C0.out _ ((HA.out.alloc _).alloc _)).mono ?_
 rintro e w1 ⟨rfl, r, s⟩
 have G1 := mkHid (SGrown.zero hrb s r)
 clear r s
 go_wp2_with fail
 refine (C1.out _ G1.out.sd).mono ?_
 rintro e w2 ⟨rfl, r, s⟩
 have G2 := mkHid (G1.out.on s r)
 clear r s G1
 go_wp2_with fail
 refine (C2.out _ G2.out.sd).mono ?_
 rintro e w3 ⟨rfl, r, s⟩
 have G3 := mkHid (G2.out.on s r)
 clear r s G2
 go_wp2_with fail
 refine (C3.out _ G3.out.sd).mono ?_
 rintro e w4 ⟨rfl, r, s⟩
 have G4 := mkHid (G3.out.on s r)
 clear r s G3
 go_wp2_with fail
 refine (C4.out _ G4.out.sd).mono ?_
 rintro e w5 ⟨rfl, r, s⟩
 have G5 := mkHid (G4.out.on s r)
 clear r s G4
 clear C0 C1 C2 C3 C4
 go_wp2_with fail
 refine (CN.out _ G5.out.sd).mono ?_
 rintro e w6 ⟨rfl, r, s⟩
 have G6 := mkHid (G5.out.on s r)
 clear r s G5
 have GB := G6
 clear G6
 have GC := mkHid (GB.out.set (y := (A.node 23 nm 0 none 0 [])) (Sits.leaf _ _ _ hnm) (New.leaf _ _ _ _ _ _) (by rw [foot_leaf]; simp) (.int .i64 23) (.string nm) (.int .i64 0) (.slice none 0 0) rfl)
 obtain ⟨e0, e1, e2, e3, g0, g1, g2, g3⟩ := four_of GB.out.here
 clear GB
 go_wp2_with fail
 refine (CS.out sA _ GC.out.sd).mono ?_
 rintro e wz ⟨rfl, r, s⟩
 have GZ := mkHid (GC.out.on s r)
 clear r s GC CS e0 e1 e2 e3 g0 g1 g2 g3
 obtain ⟨d0, d1, d2, d3, _⟩ := four_of (show wz.heap[w.heap.size + 1]? = some (.cells #[.int .i64 23, .string nm, .int .i64 0, .slice none 0 0] 38 (0, 0)) from GZ.out.here)
 obtain ⟨c0, c1, c2, c3, f0, f1, f2, f3⟩ := four_of GZ.out.res
 go_wp2
 obtain ⟨q0, q1, q2, q3⟩ := put4_cells0 GZ.out.res (.int .i64 23) (.string nm) (.int .i64 0) (.slice none 0 0)
 exact bodyPost_ret (v := (A.node 23 nm 0 none 0 []).val) (by simp [results, Tryz.results116, go_sem, q0, q1, q2, q3, A.val]) rfl (sp_tree _ _ _ _ _ GZ.out.sd hrb GZ.out.step GZ.out.sits GZ.out.new (by omega) (by rw [erase0]; exact HSR.out _ _ HRD.out))
set_option maxRecDepth 100000 in
set_option maxHeartbeats 4000000 in
theorem sstmt_check {rb : Nat} {a : Option Addr} {cap : Nat} {ws : List W3} {F f : Nat} (hC : SCond rb a cap ws F) (i : Nat) (w : World) (h : Sd w rb a cap ws (i, false)) (n0 : isW ws i ⟨#[105, 102]⟩ = false) (n1 : isW ws i ⟨#[119, 104, 105, 108, 101]⟩ = false) (n2 : isW ws i ⟨#[102, 111, 114]⟩ = false) (h1 : isW ws i ⟨#[99, 104, 101, 99, 107]⟩ = true) :
    Calls Tryz.prog 116 #[.pointer (some ⟨rb, 0, none⟩)] w (SPost rb a cap ws w (mStmt ws F (f + 1) i) (i, false)) := by
 have H1 := mkHid h1
 have HA := mkHid h
 have hrb := h.lt
 have HSR := mkHid (fun (x : T) (st1 : St2) h => sr_semi (F := F) (f := f) (x := x) (st1 := st1) n0 n1 n2 h)
 have C0 := mkHid (fun w h => sTake_no rb a cap ws (i, false) ⟨#[105, 102]⟩ (by decide) w h (by rw [tk_good]; exact n0))
 have C1 := mkHid (fun w h => sTake_no rb a cap ws (i, false) ⟨#[119, 104, 105, 108, 101]⟩ (by decide) w h (by rw [tk_good]; exact n1))
 have C2 := mkHid (fun w h => sTake_no rb a cap ws (i, false) ⟨#[102, 111, 114]⟩ (by decide) w h (by rw [tk_good]; exact n2))
 have C3 := mkHid (fun w h => sTake_yes rb a cap ws (i, false) ⟨#[99, 104, 101, 99, 107]⟩ (by decide) w h (by rw [tk_good]; exact h1))
 have CS := mkHid (fun st w h => sNeed_any rb a cap ws st ⟨#[59]⟩ (by decide) w h)
 have HC := mkHid (fun w h => hC (i + 1, false) w h)
 clear h h1 n0 n1 n2 hC
 go_enter Tryz.func116, Tryz.ntmps116
 go_wp2_with fail
 refine (C0.out _ ((HA.out.alloc _).alloc _)).mono ?_
 rintro e w1 ⟨rfl, r, s⟩
 have G1 := mkHid (SGrown.zero hrb s r)
 clear r s
 go_wp2_with fail
 refine (C1.out _ G1.out.sd).mono ?_
 rintro e w2 ⟨rfl, r, s⟩
 have G2 := mkHid (G1.out.on s r)
 clear r s G1
 go_wp2_with fail
 refine (C2.out _ G2.out.sd).mono ?_
 rintro e w3 ⟨rfl, r, s⟩
 have G3 := mkHid (G2.out.on s r)
 clear r s G2
 go_wp2_with fail
 refine (C3.out _ G3.out.sd).mono ?_
 rintro e w4 ⟨rfl, r, s⟩
 have G4 := mkHid (G3.out.on s r)
 clear r s G3
 clear C0 C1 C2 C3
 go_wp2_with fail
 refine (HC.out _ G4.out.sd).mono ?_
 rintro e w5 ⟨x, st1, rfl, hsx, hnx, r, s, hr⟩
 have zz := G4.out.plt
 have GA := mkHid (G4.out.on s r)
 have HX := mkHid hsx
 have HN := mkHid hnx
 have HR := mkHid hr
 clear hsx hnx r s hr G4 HC
 obtain ⟨xk, xs, xm, xa, xc, xkk⟩ := x
 simp only [A.val]
 go_wp2_with fail
 refine (one_new 27 (A.node xk xs xm xa xc xkk) _).mono ?_
 rintro e w6 ⟨bb, rfl, hB, hge, hb⟩
 obtain ⟨t1, t2⟩ := made (n := w.heap.size + 2) (k := 27) (m := 0) (s := ⟨#[]⟩) (c := 1) (sitsL_one HX.out) hb hB hge (NewL.one (HN.out.mono (by omega))) (by have := GA.out.plt; omega) (by decide) (by simp [maxLen])
 have GB := mkHid (GA.out.below hb)
 have T2 := mkHid t2
 have T1 := mkHid t1
 clear t1 t2 hB hge hb GA HX HN
 have GC := mkHid (GB.out.set T1.out (T2.out.mono (by omega)) (fun q => by have := T2.out.2 _ q; omega) (.int .i64 27) (.string ⟨#[]⟩) (.int .i64 0) (.slice (some ⟨bb, 0, none⟩) 1 1) rfl)
 obtain ⟨e0, e1, e2, e3, g0, g1, g2, g3⟩ := four_of GB.out.here
 clear GB
 simp only [A.val]
 go_wp2_with fail
 refine (CS.out st1 _ GC.out.sd).mono ?_
 rintro e wz ⟨rfl, r, s⟩
 have GZ := mkHid (GC.out.on s r)
 clear r s GC CS e0 e1 e2 e3 g0 g1 g2 g3
 obtain ⟨d0, d1, d2, d3, _⟩ := four_of (show wz.heap[w.heap.size + 1]? = some (.cells #[.int .i64 27, .string ⟨#[]⟩, .int .i64 0, .slice (some ⟨bb, 0, none⟩) 1 1] 38 (0, 0)) from GZ.out.here)
 obtain ⟨c0, c1, c2, c3, f0, f1, f2, f3⟩ := four_of GZ.out.res
 go_wp2
 obtain ⟨q0, q1, q2, q3⟩ := put4_cells0 GZ.out.res (.int .i64 27) (.string ⟨#[]⟩) (.int .i64 0) (.slice (some ⟨bb, 0, none⟩) 1 1)
 exact bodyPost_ret (v := (A.node 27 ⟨#[]⟩ 0 (some ⟨bb, 0, none⟩) 1 [(A.node xk xs xm xa xc xkk)]).val) (by simp [results, Tryz.results116, go_sem, q0, q1, q2, q3, A.val]) rfl (sp_tree _ _ _ _ _ GZ.out.sd hrb GZ.out.step GZ.out.sits GZ.out.new (by omega) (by rw [erase1]; exact HSR.out _ _ (sr_check H1.out HR.out)))
end Go.Proofs.YtedfnadgmhjojaaGreatDoor
namespace Go.Proofs.YtedfnadgmhjojaaGreatDoor
open Go.RowKit
open Pl

theorem SGrown.name {rb : Nat} {a : Option Addr} {cap : Nat} {ws : List W3} {w : World} {p1 : Nat} {w' : World} {st : St2} {k m : Int} {s u : ByteArray} {xa : Option Addr} {xc : Nat} {xkk : List A} (h : SGrown rb a cap ws w p1 w' (.node k s m xa xc xkk) st) (hu : u.size ≤ maxLen) :
    SGrown rb a cap ws w p1 (w'.setCell ⟨p1, 1, none⟩ (.string u)) (.node k u m xa xc xkk) st := by
 have hr := h.rlt
 have hl := h.lt
 have ho := h.off
 have hs := h.sits
 have set : ∀ q, q ≠ p1 → (w'.setCell ⟨p1, 1, none⟩ (.string u)).heap[q]? = w'.heap[q]? := fun q hq => Below.heap_setCell _ _ _ _ hq
 have hf : (A.node k u m xa xc xkk).foot = (A.node k s m xa xc xkk).foot := by simp only [A.foot]
 refine ⟨?_, (set _ (by omega)).trans h.res, ?_, ⟨by rw [hf]; exact h.new.1, by rw [hf]; exact h.new.2⟩, by rw [hf]; exact ho, h.sd.setCell (show rb < p1 by omega) _, h.step.setCell (.inl (show w.heap.size ≤ p1 by omega)) _, hl, hr⟩
 ·have := heap_setCell_same w' p1 1 _ 38 (.string u) h.here
  rw [this]; rfl
 ·refine Sits.stay _ (fun q hq => set q (fun e => ?_)) ?_
  ·rw [hf] at hq; exact ho (e ▸ hq)
  ·simp only [Sits] at hs ⊢
   exact ⟨hu, hs.2⟩
set_option maxRecDepth 100000 in
set_option maxHeartbeats 4000000 in
theorem sstmt_set {rb : Nat} {a : Option Addr} {cap : Nat} {ws : List W3} {F f : Nat} (he : Env ws) (hF : 5 * ws.length + 3 ≤ F) (hE : SExpr rb a cap ws F) (st : St2) (w : World) (h : Sd w rb a cap ws st) (t0 : tk ws st ⟨#[105, 102]⟩ = false) (t1 : tk ws st ⟨#[119, 104, 105, 108, 101]⟩ = false) (t2 : tk ws st ⟨#[102, 111, 114]⟩ = false) (t3 : tk ws st ⟨#[99, 104, 101, 99, 107]⟩ = false) (t4 : tk ws st ⟨#[114, 101, 97, 100]⟩ = false) (t5 : tk ws st ⟨#[115, 107, 105, 112]⟩ = false) (t6 : tk ws st ⟨#[115, 116, 111, 112]⟩ = false) (t7 : tk ws (nmS ws st) ⟨#[91]⟩ = false)
    (hSR : ∀ (y : T) (st3 : St2), SR (mExpr ws F (nd ws (nmS ws st) ⟨#[61]⟩).1) (nd ws (nmS ws st) ⟨#[61]⟩) y st3 → SR (mStmt ws F (f + 1) st.1) st (.node 21 (nmT ws st) 0 [y]) (nd ws st3 ⟨#[59]⟩)) :
    Calls Tryz.prog 116 #[.pointer (some ⟨rb, 0, none⟩)] w (SPost rb a cap ws w (mStmt ws F (f + 1) st.1) st) := by
 have HA := mkHid h
 have hrb := h.lt
 have hnm := name_len he st
 have HSR := mkHid hSR
 have C0 := mkHid (fun w h => sTake_no rb a cap ws st ⟨#[105, 102]⟩ (by decide) w h t0)
 have C1 := mkHid (fun w h => sTake_no rb a cap ws st ⟨#[119, 104, 105, 108, 101]⟩ (by decide) w h t1)
 have C2 := mkHid (fun w h => sTake_no rb a cap ws st ⟨#[102, 111, 114]⟩ (by decide) w h t2)
 have C3 := mkHid (fun w h => sTake_no rb a cap ws st ⟨#[99, 104, 101, 99, 107]⟩ (by decide) w h t3)
 have C4 := mkHid (fun w h => sTake_no rb a cap ws st ⟨#[114, 101, 97, 100]⟩ (by decide) w h t4)
 have C5 := mkHid (fun w h => sTake_no rb a cap ws st ⟨#[115, 107, 105, 112]⟩ (by decide) w h t5)
 have C6 := mkHid (fun w h => sTake_no rb a cap ws st ⟨#[115, 116, 111, 112]⟩ (by decide) w h t6)
 have C7 := mkHid (fun w h => sNm_any rb a cap ws st w h)
 have C8 := mkHid (fun w h => sTake_no rb a cap ws (nmS ws st) ⟨#[91]⟩ (by decide) w h t7)
 have C9 := mkHid (fun w h => sNeed_any rb a cap ws (nmS ws st) ⟨#[61]⟩ (by decide) w h)
 have CS := mkHid (fun st w h => sNeed_any rb a cap ws st ⟨#[59]⟩ (by decide) w h)
 have HE := mkHid (fun st w h => hE st w (by omega) h)
 generalize nmT ws st = nm at C7 HSR hnm
 generalize nd ws (nmS ws st) ⟨#[61]⟩ = sB at C9 HSR
 generalize nmS ws st = sA at C7 C8 C9
 clear h hE he hSR t0 t1 t2 t3 t4 t5 t6 t7
 generalize mStmt ws F (f + 1) st.1 = M at HSR ⊢
 go_enter Tryz.func116, Tryz.ntmps116
 go_wp2_with fail
 refine (C0.out _ ((HA.out.alloc _).alloc _)).mono ?_
 rintro e w1 ⟨rfl, r, s⟩
 have G1 := mkHid (SGrown.zero hrb s r)
 clear r s
 go_wp2_with fail
 refine (C1.out _ G1.out.sd).mono ?_
 rintro e w2 ⟨rfl, r, s⟩
 have G2 := mkHid (G1.out.on s r)
 clear r s G1
 go_wp2_with fail
 refine (C2.out _ G2.out.sd).mono ?_
 rintro e w3 ⟨rfl, r, s⟩
 have G3 := mkHid (G2.out.on s r)
 clear r s G2
 go_wp2_with fail
 refine (C3.out _ G3.out.sd).mono ?_
 rintro e w4 ⟨rfl, r, s⟩
 have G4 := mkHid (G3.out.on s r)
 clear r s G3
 go_wp2_with fail
 refine (C4.out _ G4.out.sd).mono ?_
 rintro e w5 ⟨rfl, r, s⟩
 have G5 := mkHid (G4.out.on s r)
 clear r s G4
 go_wp2_with fail
 refine (C5.out _ G5.out.sd).mono ?_
 rintro e w6 ⟨rfl, r, s⟩
 have G6 := mkHid (G5.out.on s r)
 clear r s G5
 go_wp2_with fail
 refine (C6.out _ G6.out.sd).mono ?_
 rintro e w7 ⟨rfl, r, s⟩
 have G7 := mkHid (G6.out.on s r)
 clear r s G6
 go_wp2_with fail
 refine (C7.out _ G7.out.sd).mono ?_
 rintro e w8 ⟨rfl, r, s⟩
 have G8 := mkHid (G7.out.on s r)
 clear r s G7
 go_wp2_with fail
 refine (C8.out _ G8.out.sd).mono ?_
 rintro e w9 ⟨rfl, r, s⟩
 have G9 := mkHid (G8.out.on s r)
 clear r s G8
 go_wp2_with fail
 refine (C9.out _ G9.out.sd).mono ?_
 rintro e w10 ⟨rfl, r, s⟩
 have G10 := mkHid (G9.out.on s r)
 clear r s G9
 clear C0 C1 C2 C3 C4 C5 C6 C7 C8 C9
 go_wp2_with fail
 refine (HE.out sB _ G10.out.sd).mono ?_
 rintro e w11 ⟨x, st3, rfl, hsx, hnx, r, s, hr⟩
 have zz := G10.out.plt
 have GA := mkHid (G10.out.on s r)
 have HX := mkHid hsx
 have HN := mkHid hnx
 have HR := mkHid hr
 clear hsx hnx r s hr G10 HE
 obtain ⟨xk, xs, xm, xa, xc, xkk⟩ := x
 simp only [A.val]
 go_wp2_with fail
 refine (one_new 21 (A.node xk xs xm xa xc xkk) _).mono ?_
 rintro e w12 ⟨bb, rfl, hB, hge, hb⟩
 obtain ⟨t1, t2⟩ := made (n := w.heap.size + 2) (k := 21) (m := 0) (s := ⟨#[]⟩) (c := 1) (sitsL_one HX.out) hb hB hge (NewL.one (HN.out.mono (by omega))) (by have := GA.out.plt; omega) (by decide) (by simp [maxLen])
 have GB := mkHid (GA.out.below hb)
 have T2 := mkHid t2
 have T1 := mkHid t1
 clear t1 t2 hB hge hb GA HX HN
 have GC := mkHid (GB.out.set T1.out (T2.out.mono (by omega)) (fun q => by have := T2.out.2 _ q; omega) (.int .i64 21) (.string ⟨#[]⟩) (.int .i64 0) (.slice (some ⟨bb, 0, none⟩) 1 1) rfl)
 have GN := mkHid (GC.out.name hnm)
 obtain ⟨e0, e1, e2, e3, g0, g1, g2, g3⟩ := four_of GB.out.here
 clear GB GC
 simp only [A.val]
 go_wp2_with fail
 refine (CS.out st3 _ GN.out.sd).mono ?_
 rintro e wz ⟨rfl, r, s⟩
 have GZ := mkHid (GN.out.on s r)
 clear r s GN CS e0 e1 e2 e3 g0 g1 g2 g3
 obtain ⟨d0, d1, d2, d3, _⟩ := four_of (show wz.heap[w.heap.size + 1]? = some (.cells #[.int .i64 21, .string nm, .int .i64 0, .slice (some ⟨bb, 0, none⟩) 1 1] 38 (0, 0)) from GZ.out.here)
 obtain ⟨c0, c1, c2, c3, f0, f1, f2, f3⟩ := four_of GZ.out.res
 go_wp2
 obtain ⟨q0, q1, q2, q3⟩ := put4_cells0 GZ.out.res (.int .i64 21) (.string nm) (.int .i64 0) (.slice (some ⟨bb, 0, none⟩) 1 1)
 exact bodyPost_ret (v := (A.node 21 nm 0 (some ⟨bb, 0, none⟩) 1 [(A.node xk xs xm xa xc xkk)]).val) (by simp [results, Tryz.results116, go_sem, q0, q1, q2, q3, A.val]) rfl (sp_tree _ _ _ _ _ GZ.out.sd hrb GZ.out.step GZ.out.sits GZ.out.new (by omega) (by rw [erase1]; exact HSR.out _ _ HR.out))
set_option maxRecDepth 100000 in
set_option maxHeartbeats 4000000 in
theorem sstmt_put {rb : Nat} {a : Option Addr} {cap : Nat} {ws : List W3} {F f : Nat} (he : Env ws) (hF : 5 * ws.length + 3 ≤ F) (hE : SExpr rb a cap ws F) (i : Nat) (w : World) (h : Sd w rb a cap ws (i, false)) (n0 : isW ws i ⟨#[105, 102]⟩ = false) (n1 : isW ws i ⟨#[119, 104, 105, 108, 101]⟩ = false) (n2 : isW ws i ⟨#[102, 111, 114]⟩ = false) (n3 : isW ws i ⟨#[99, 104, 101, 99, 107]⟩ = false) (n4 : isW ws i ⟨#[114, 101, 97, 100]⟩ = false) (n5 : isW ws i ⟨#[115, 107, 105, 112]⟩ = false) (n6 : isW ws i ⟨#[115, 116, 111, 112]⟩ = false) (k1 : kindW ws i = 1) (h1 : isW ws (i + 1) ⟨#[91]⟩ = true) :
    Calls Tryz.prog 116 #[.pointer (some ⟨rb, 0, none⟩)] w (SPost rb a cap ws w (mStmt ws F (f + 1) i) (i, false)) := by
 have HA := mkHid h
 have hrb := h.lt
 have hnm := name_len he (i, false)
 have HSR := mkHid (fun (x y : T) (st2 st4 : St2) h h2 => sr_semi (f := f) n0 n1 n2 (sr_put (F := F) (x := x) (y := y) (st2 := st2) (st4 := st4) n4 n3 n5 n6 k1 h1 h h2))
 have C0 := mkHid (fun w h => sTake_no rb a cap ws (i, false) ⟨#[105, 102]⟩ (by decide) w h (by rw [tk_good]; exact n0))
 have C1 := mkHid (fun w h => sTake_no rb a cap ws (i, false) ⟨#[119, 104, 105, 108, 101]⟩ (by decide) w h (by rw [tk_good]; exact n1))
 have C2 := mkHid (fun w h => sTake_no rb a cap ws (i, false) ⟨#[102, 111, 114]⟩ (by decide) w h (by rw [tk_good]; exact n2))
 have C3 := mkHid (fun w h => sTake_no rb a cap ws (i, false) ⟨#[99, 104, 101, 99, 107]⟩ (by decide) w h (by rw [tk_good]; exact n3))
 have C4 := mkHid (fun w h => sTake_no rb a cap ws (i, false) ⟨#[114, 101, 97, 100]⟩ (by decide) w h (by rw [tk_good]; exact n4))
 have C5 := mkHid (fun w h => sTake_no rb a cap ws (i, false) ⟨#[115, 107, 105, 112]⟩ (by decide) w h (by rw [tk_good]; exact n5))
 have C6 := mkHid (fun w h => sTake_no rb a cap ws (i, false) ⟨#[115, 116, 111, 112]⟩ (by decide) w h (by rw [tk_good]; exact n6))
 have C7 := mkHid (fun w h => sNm_any rb a cap ws (i, false) w h)
 rw [(nm_good k1).1, (nm_good k1).2] at C7
 rw [(nm_good k1).2] at hnm
 have C8 := mkHid (fun w h => sTake_yes rb a cap ws (i + 1, false) ⟨#[91]⟩ (by decide) w h (by rw [tk_good]; exact h1))
 have C9 := mkHid (fun st w h => sNeed_any rb a cap ws st ⟨#[93]⟩ (by decide) w h)
 have C10 := mkHid (fun st w h => sNeed_any rb a cap ws st ⟨#[61]⟩ (by decide) w h)
 have CS := mkHid (fun st w h => sNeed_any rb a cap ws st ⟨#[59]⟩ (by decide) w h)
 have HE := mkHid (fun st w h => hE st w (by omega) h)
 generalize textW ws i = nm at C7 HSR hnm
 clear h hE he n0 n1 n2 n3 n4 n5 n6 h1 k1
 generalize mStmt ws F (f + 1) i = M at HSR ⊢
 go_enter Tryz.func116, Tryz.ntmps116
 go_wp2_with fail
 refine (C0.out _ ((HA.out.alloc _).alloc _)).mono ?_
 rintro e w1 ⟨rfl, r, s⟩
 have G1 := mkHid (SGrown.zero hrb s r)
 clear r s
 go_wp2_with fail
 refine (C1.out _ G1.out.sd).mono ?_
 rintro e w2 ⟨rfl, r, s⟩
 have G2 := mkHid (G1.out.on s r)
 clear r s G1
 go_wp2_with fail
 refine (C2.out _ G2.out.sd).mono ?_
 rintro e w3 ⟨rfl, r, s⟩
 have G3 := mkHid (G2.out.on s r)
 clear r s G2
 go_wp2_with fail
 refine (C3.out _ G3.out.sd).mono ?_
 rintro e w4 ⟨rfl, r, s⟩
 have G4 := mkHid (G3.out.on s r)
 clear r s G3
 go_wp2_with fail
 refine (C4.out _ G4.out.sd).mono ?_
 rintro e w5 ⟨rfl, r, s⟩
 have G5 := mkHid (G4.out.on s r)
 clear r s G4
 go_wp2_with fail
 refine (C5.out _ G5.out.sd).mono ?_
 rintro e w6 ⟨rfl, r, s⟩
 have G6 := mkHid (G5.out.on s r)
 clear r s G5
 go_wp2_with fail
 refine (C6.out _ G6.out.sd).mono ?_
 rintro e w7 ⟨rfl, r, s⟩
 have G7 := mkHid (G6.out.on s r)
 clear r s G6
 go_wp2_with fail
 refine (C7.out _ G7.out.sd).mono ?_
 rintro e w8 ⟨rfl, r, s⟩
 have G8 := mkHid (G7.out.on s r)
 clear r s G7
 go_wp2_with fail
 refine (C8.out _ G8.out.sd).mono ?_
 rintro e w9 ⟨rfl, r, s⟩
 have G9 := mkHid (G8.out.on s r)
 clear r s G8
 clear C0 C1 C2 C3 C4 C5 C6 C7 C8
 have K9 := mkHid (Hold.nil G9.out)
 clear G9
 go_wp2_with fail
 refine (HE.out (i + 2, false) _ K9.out.g.sd).mono ?_
 rintro e w10 ⟨x, st2, rfl, hsx, hnx, r, s, hr⟩
 have K10 := mkHid (K9.out.add hsx hnx r s _ rfl)
 have D := K9.out.on s r
 have zP := D.room
 have H_hr := mkHid hr
 obtain ⟨xk, xs, xm, xa, xc, xkk⟩ := x
 clear D hsx hnx r s hr K9
 simp only [A.val]
 go_wp2_with fail
 refine (C9.out st2 _ K10.out.g.sd).mono ?_
 rintro e w11 ⟨rfl, r, s⟩
 have K11 := mkHid (K10.out.on s r)
 clear r s K10
 go_wp2_with fail
 refine (C10.out (nd ws st2 ⟨#[93]⟩) _ K11.out.g.sd).mono ?_
 rintro e w12 ⟨rfl, r, s⟩
 have K12 := mkHid (K11.out.on s r)
 clear r s K11
 go_wp2_with fail
 refine (HE.out (nd ws (nd ws st2 ⟨#[93]⟩) ⟨#[61]⟩) _ K12.out.g.sd).mono ?_
 rintro e w13 ⟨y, st4, rfl, hsx, hnx, r, s, hr2⟩
 have K13 := mkHid (K12.out.add hsx hnx r s _ rfl)
 have D := K12.out.on s r
 have zP := D.room
 obtain ⟨d0, d1, d2, d3, _⟩ := four_of (show w13.heap[w10.heap.size]? = some (.cells #[.int .i64 xk, .string xs, .int .i64 xm, .slice xa xkk.length xc] 38 (0, 0)) from (D.here (w10.heap.size, (A.node xk xs xm xa xc xkk)) (by simp)).2)
 have zx := (Array.getElem?_eq_some_iff.1 (D.here (w10.heap.size, (A.node xk xs xm xa xc xkk)) (by simp)).2).1
 simp only at zx
 have H_hr2 := mkHid hr2
 obtain ⟨yk, ys, ym, ya, yc, ykk⟩ := y
 clear D hsx hnx r s hr2 K12
 clear HE C9 C10
 simp only [A.val]
 go_wp2_with fail
 refine (two_new 22 (A.node xk xs xm xa xc xkk) (A.node yk ys ym ya yc ykk) _).mono ?_
 rintro e w14 ⟨bb, rfl, hB, hge, hb⟩
 obtain ⟨t1, t2⟩ := made (n := w.heap.size + 2) (k := 22) (m := 0) (s := ⟨#[]⟩) (c := 2) (xs := [(A.node xk xs xm xa xc xkk), (A.node yk ys ym ya yc ykk)]) K13.out.sits hb hB hge K13.out.new K13.out.room (by decide) (by simp [maxLen])
 have GB := mkHid (K13.out.below hb).g
 have T1 := mkHid t1
 have T2 := mkHid t2
 clear hB hge hb t1 t2 d0 d1 d2 d3 K13
 have GC := mkHid (GB.out.set T1.out (T2.out.mono (by omega)) (fun q => by have := T2.out.2 _ q; omega) (.int .i64 22) (.string ⟨#[]⟩) (.int .i64 0) (.slice (some ⟨bb, 0, none⟩) 2 2) rfl)
 have GN := mkHid (GC.out.name hnm)
 obtain ⟨e0, e1, e2, e3, g0, g1, g2, g3⟩ := four_of GB.out.here
 clear GB GC
 simp only [A.val]
 go_wp2_with fail
 refine (CS.out st4 _ GN.out.sd).mono ?_
 rintro e wz ⟨rfl, r, s⟩
 have GZ := mkHid (GN.out.on s r)
 clear r s GN CS e0 e1 e2 e3 g0 g1 g2 g3
 obtain ⟨d0, d1, d2, d3, _⟩ := four_of (show wz.heap[w.heap.size + 1]? = some (.cells #[.int .i64 22, .string nm, .int .i64 0, .slice (some ⟨bb, 0, none⟩) 2 2] 38 (0, 0)) from GZ.out.here)
 obtain ⟨c0, c1, c2, c3, f0, f1, f2, f3⟩ := four_of GZ.out.res
 go_wp2
 obtain ⟨q0, q1, q2, q3⟩ := put4_cells0 GZ.out.res (.int .i64 22) (.string nm) (.int .i64 0) (.slice (some ⟨bb, 0, none⟩) 2 2)
 exact bodyPost_ret (v := (A.node 22 nm 0 (some ⟨bb, 0, none⟩) 2 [(A.node xk xs xm xa xc xkk), (A.node yk ys ym ya yc ykk)]).val) (by simp [results, Tryz.results116, go_sem, q0, q1, q2, q3, A.val]) rfl (sp_tree _ _ _ _ _ GZ.out.sd hrb GZ.out.step GZ.out.sits GZ.out.new (by omega) (by rw [erase2]; exact HSR.out _ _ _ _ H_hr.out H_hr2.out))
end Go.Proofs.YtedfnadgmhjojaaGreatDoor
namespace Go.Proofs.YtedfnadgmhjojaaGreatDoor
open Go.RowKit
open Pl

theorem tk_off {ws : List W3} {i : Nat} {s : ByteArray} (h : isW ws i s = false) : tk ws (i, false) s = false := by rw [tk_good]; exact h
theorem tk_bad (ws : List W3) (i : Nat) (s : ByteArray) : tk ws (i, true) s = false := by simp [tk]
theorem nm_bad (ws : List W3) (i : Nat) : nmS ws (i, true) = (i, true) := by simp [nmS, nmB]
theorem sstmt_step {rb : Nat} {a : Option Addr} {cap : Nat} {ws : List W3} {F f : Nat} (he : Env ws) (hF : 5 * ws.length + 3 ≤ F) (hE : SExpr rb a cap ws F) (hC : SCond rb a cap ws F) (hB : SBlock rb a cap ws F f) : SStmt rb a cap ws F (f + 1) := by
 rintro ⟨i, b⟩ w hf h
 simp only at hf
 cases b with
 | true =>
   refine sstmt_set he hF hE (i, true) w h (tk_bad _ _ _) (tk_bad _ _ _) (tk_bad _ _ _) (tk_bad _ _ _) (tk_bad _ _ _) (tk_bad _ _ _) (tk_bad _ _ _) (by rw [nm_bad]; exact tk_bad _ _ _) (fun y st3 hs => ?_)
   rw [nm_bad, nd_bad] at hs
   rw [hs.bad, nd_bad]
   exact SR.mk_bad _ _ _
 | false =>
   by_cases q0 : isW ws i ⟨#[105, 102]⟩ = true
   ·exact sstmt_if hC hB i w hf h  q0
   have n0 : isW ws i ⟨#[105, 102]⟩ = false := by simpa using q0
   by_cases q1 : isW ws i ⟨#[119, 104, 105, 108, 101]⟩ = true
   ·exact sstmt_while hC hB i w hf h n0 q1
   have n1 : isW ws i ⟨#[119, 104, 105, 108, 101]⟩ = false := by simpa using q1
   by_cases q2 : isW ws i ⟨#[102, 111, 114]⟩ = true
   ·exact sstmt_for he hF hE hB i w hf h n0 n1 q2
   have n2 : isW ws i ⟨#[102, 111, 114]⟩ = false := by simpa using q2
   by_cases q3 : isW ws i ⟨#[99, 104, 101, 99, 107]⟩ = true
   ·exact sstmt_check hC i w h n0 n1 n2 q3
   have n3 : isW ws i ⟨#[99, 104, 101, 99, 107]⟩ = false := by simpa using q3
   by_cases q4 : isW ws i ⟨#[114, 101, 97, 100]⟩ = true
   ·exact sstmt_read he i w h n0 n1 n2 n3 q4
   have n4 : isW ws i ⟨#[114, 101, 97, 100]⟩ = false := by simpa using q4
   by_cases q5 : isW ws i ⟨#[115, 107, 105, 112]⟩ = true
   ·exact sstmt_skip i w h n0 n1 n2 n3 n4 q5
   have n5 : isW ws i ⟨#[115, 107, 105, 112]⟩ = false := by simpa using q5
   by_cases q6 : isW ws i ⟨#[115, 116, 111, 112]⟩ = true
   ·exact sstmt_stop i w h n0 n1 n2 n3 n4 n5 q6
   have n6 : isW ws i ⟨#[115, 116, 111, 112]⟩ = false := by simpa using q6
   by_cases ht : tk ws (nmS ws (i, false)) ⟨#[91]⟩ = true
   ·by_cases hk : kindW ws i = 1
    ·rw [(nm_good hk).1, tk_good] at ht
     exact sstmt_put he hF hE i w h n0 n1 n2 n3 n4 n5 n6 hk ht
    ·rw [nm_none hk, tk_bad] at ht; cases ht
   ·have ht' : tk ws (nmS ws (i, false)) ⟨#[91]⟩ = false := by simpa using ht
    exact sstmt_set he hF hE (i, false) w h (tk_off n0) (tk_off n1) (tk_off n2) (tk_off n3) (tk_off n4) (tk_off n5) (tk_off n6) ht' (fun y st3 hs => sr_semi n0 n1 n2 (sr_set n4 n3 n5 n6 ht' hs))
theorem sstmt_all {rb : Nat} {a : Option Addr} {cap : Nat} {ws : List W3} {F : Nat} (he : Env ws) (hF : 5 * ws.length + 3 ≤ F) (hE : SExpr rb a cap ws F) (f : Nat) : ∀ g, g ≤ f → SStmt rb a cap ws F g ∧ SBlock rb a cap ws F g := by
 have hC : SCond rb a cap ws F := scond_all hF he.few hE
 induction f with
 | zero =>
   intro g hg
   have : g = 0 := by omega
   subst this
   exact ⟨fun i w h => by omega, fun i w h => by omega⟩
 | succ f ih =>
   intro g hg
   by_cases q : g ≤ f
   ·exact ih g q
   ·have : g = f + 1 := by omega
    subst this
    exact ⟨sstmt_step he hF hE hC (ih f (Nat.le_refl _)).2, sblock_step he.few fun g hg => (ih g hg).1⟩
end Go.Proofs.YtedfnadgmhjojaaGreatDoor
namespace Go.Proofs.YtedfnadgmhjojaaGreatDoor
open Go.RowKit
open Pl

theorem brace_no {ws : List W3} (hw : WsOk ws) {F f j : Nat} (h : isW ws j ⟨#[125]⟩ = true) : mStmt ws F (f + 1) j = .no j := by
 have hk : kindW ws j ≠ 1 := by rw [isW_kind hw h]; exact not_name (by decide)
 have e1 := isW_other (t := ⟨#[105, 102]⟩) h (by decide)
 have e2 := isW_other (t := ⟨#[119, 104, 105, 108, 101]⟩) h (by decide)
 have e3 := isW_other (t := ⟨#[102, 111, 114]⟩) h (by decide)
 have e4 := isW_other (t := ⟨#[114, 101, 97, 100]⟩) h (by decide)
 have e5 := isW_other (t := ⟨#[99, 104, 101, 99, 107]⟩) h (by decide)
 have e6 := isW_other (t := ⟨#[115, 107, 105, 112]⟩) h (by decide)
 have e7 := isW_other (t := ⟨#[115, 116, 111, 112]⟩) h (by decide)
 rw [stmt_short_eq e1 e2 e3]
 unfold mShort wantK
 rw [e4, e5, e6, e7, if_neg hk]
 rfl
/-- Statements one behind another, against the rest of a program. -/
theorem seq_all {ws : List W3} (hw : WsOk ws) {F : Nat} (hF : 1 ≤ F) (ds : List T) (g : Nat) : ∀ (acc : List T) (i : Nat), 3 * (ws.length - i) + 2 ≤ g →
    mAll ws F ds g acc i = if (seqM ws (fun _ => mStmt ws F F) g acc i).2.2 = true then .no (seqM ws (fun _ => mStmt ws F F) g acc i).2.1 else
     if (seqM ws (fun _ => mStmt ws F F) g acc i).2.1 < ws.length then .no (seqM ws (fun _ => mStmt ws F F) g acc i).2.1 else .ok (.node 40 nil_ 0 (ds ++ [.node 30 nil_ 0 (seqM ws (fun _ => mStmt ws F F) g acc i).1])) (seqM ws (fun _ => mStmt ws F F) g acc i).2.1 := by
 induction g with
 | zero => intro acc i h; omega
 | succ g ih =>
   intro acc i h
   by_cases hl : i < ws.length
   ·by_cases hb : isW ws i ⟨#[125]⟩ = true
    ·rw [seq_stop (fun q => by rw [hb] at q; cases q.2)]
     obtain ⟨F1, rfl⟩ : ∃ F1, F = F1 + 1 := ⟨F - 1, by omega⟩
     simp only [mAll]
     rw [if_pos hl, brace_no hw hb, if_neg (by decide), if_pos hl]
     rfl
    ·have hb' : isW ws i ⟨#[125]⟩ = false := by simpa using hb
     rw [seq_go ⟨hl, hb'⟩]
     simp only [mAll]
     rw [if_pos hl]
     have ha := (advS ws F F).1 i
     generalize mStmt ws F F i = r at ha ⊢
     cases r with
     | no p => simp [Res.then_]
     | ok t j =>
       have := ha t j rfl
       simp only [Res.then_]
       exact ih _ _ (by omega)
   ·rw [seq_stop (fun q => hl q.1)]
    simp only [mAll]
    rw [if_neg hl, if_neg (by decide), if_neg hl]
theorem sr_dvar {ws : List W3} {i : Nat} (h1 : isW ws i ⟨#[118, 97, 114]⟩ = true) : SR (mDecl ws i) (i, false) (.node 31 (nmT ws (i + 1, false)) 0 []) (nd ws (nmS ws (i + 1, false)) ⟨#[59]⟩) := by
 unfold mDecl wantK want
 rw [if_pos h1]
 by_cases k : kindW ws (i + 1) = 1
 ·rw [if_pos k, (nm_good k).1, (nm_good k).2, nd_good]
  by_cases k2 : isW ws (i + 2) ⟨#[59]⟩ = true
  ·rw [if_pos k2, if_pos k2]; exact SR.mk_ok _ _ _
  ·rw [if_neg k2, if_neg k2]; exact SR.mk_no _ _ _
 ·rw [if_neg k, nm_none k, nd_bad]; exact SR.mk_no _ _ _
theorem sr_dnum {ws : List W3} (hw : WsOk ws) {i j : Nat} (h1 : isW ws i ⟨#[97, 114, 114, 97, 121]⟩ = true) (hb : nd ws (nmS ws (i + 1, false)) ⟨#[91]⟩ = (j, false)) (k2 : kindW ws j = 2) :
    SR (mDecl ws i) (i, false) (.node 32 (nmT ws (i + 1, false)) (numV (textW ws j)) []) (nd ws (nd ws (j + 1, false) ⟨#[93]⟩) ⟨#[59]⟩) := by
 unfold mDecl wantK want
 rw [if_neg (by rw [isW_other h1 (by decide)]; decide), if_pos h1]
 by_cases k : kindW ws (i + 1) = 1
 ·rw [(nm_good k).1, nd_good] at hb
  by_cases k1 : isW ws (i + 1 + 1) ⟨#[91]⟩ = true
  ·rw [if_pos k1] at hb
   have hj : j = i + 3 := by injection hb with q; omega
   subst hj
   have k1' : isW ws (i + 2) ⟨#[91]⟩ = true := k1
   rw [if_pos k, if_pos k1', if_neg (by rw [num_words hw k2 (by decide)]; decide), if_pos k2, (nm_good k).2, nd_good]
   by_cases k3 : isW ws (i + 3 + 1) ⟨#[93]⟩ = true
   ·have k3' : isW ws (i + 4) ⟨#[93]⟩ = true := k3
    rw [if_pos k3, if_pos k3', nd_good]
    by_cases k4 : isW ws (i + 3 + 1 + 1) ⟨#[59]⟩ = true
    ·have k4' : isW ws (i + 5) ⟨#[59]⟩ = true := k4
     rw [if_pos k4, if_pos k4']; exact SR.mk_ok _ _ _
    ·have k4' : ¬ isW ws (i + 5) ⟨#[59]⟩ = true := k4
     rw [if_neg k4, if_neg k4']; exact SR.mk_no _ _ _
   ·have k3' : ¬ isW ws (i + 4) ⟨#[93]⟩ = true := k3
    rw [if_neg k3, if_neg k3', nd_bad]; exact SR.mk_no _ _ _
  ·rw [if_neg k1] at hb; injection hb with _ q; cases q
 ·rw [nm_none k, nd_bad] at hb; injection hb with _ q; cases q
theorem sr_dany {ws : List W3} {i : Nat} (h1 : isW ws i ⟨#[97, 114, 114, 97, 121]⟩ = true) (hk : ∀ j, nd ws (nmS ws (i + 1, false)) ⟨#[91]⟩ = (j, false) → kindW ws j ≠ 2) :
    SR (mDecl ws i) (i, false) (.node 32 (nmT ws (i + 1, false)) (-1) []) (nd ws (nd ws (nd ws (nd ws (nmS ws (i + 1, false)) ⟨#[91]⟩) ⟨#[63]⟩) ⟨#[93]⟩) ⟨#[59]⟩) := by
 unfold mDecl wantK want
 rw [if_neg (by rw [isW_other h1 (by decide)]; decide), if_pos h1]
 by_cases k : kindW ws (i + 1) = 1
 ·rw [(nm_good k).1, nd_good] at hk ⊢
  rw [if_pos k, (nm_good k).2]
  by_cases k1 : isW ws (i + 1 + 1) ⟨#[91]⟩ = true
  ·have k1' : isW ws (i + 2) ⟨#[91]⟩ = true := k1
   rw [if_pos k1] at hk ⊢
   have hk' : kindW ws (i + 3) ≠ 2 := hk _ rfl
   rw [if_pos k1', nd_good]
   by_cases k2 : isW ws (i + 1 + 1 + 1) ⟨#[63]⟩ = true
   ·have k2' : isW ws (i + 3) ⟨#[63]⟩ = true := k2
    rw [if_pos k2, if_pos k2', nd_good]
    by_cases k3 : isW ws (i + 1 + 1 + 1 + 1) ⟨#[93]⟩ = true
    ·have k3' : isW ws (i + 4) ⟨#[93]⟩ = true := k3
     rw [if_pos k3, if_pos k3', nd_good]
     by_cases k4 : isW ws (i + 1 + 1 + 1 + 1 + 1) ⟨#[59]⟩ = true
     ·have k4' : isW ws (i + 5) ⟨#[59]⟩ = true := k4
      rw [if_pos k4, if_pos k4']; exact SR.mk_ok _ _ _
     ·have k4' : ¬ isW ws (i + 5) ⟨#[59]⟩ = true := k4
      rw [if_neg k4, if_neg k4']; exact SR.mk_no _ _ _
    ·have k3' : ¬ isW ws (i + 4) ⟨#[93]⟩ = true := k3
     rw [if_neg k3, if_neg k3', nd_bad]; exact SR.mk_no _ _ _
   ·have k2' : ¬ isW ws (i + 3) ⟨#[63]⟩ = true := k2
    rw [if_neg k2, if_neg k2', if_neg hk', nd_bad, nd_bad]; exact SR.mk_no _ _ _
  ·have k1' : ¬ isW ws (i + 2) ⟨#[91]⟩ = true := k1
   rw [if_neg k1, if_neg k1', nd_bad, nd_bad, nd_bad]; exact SR.mk_no _ _ _
 ·rw [if_neg k, nm_none k, nd_bad, nd_bad, nd_bad, nd_bad]; exact SR.mk_no _ _ _
/-- What the loop over declarations holds on to. -/
def DInv (ws : List W3) (F : Nat) (R : Res) (els : List T) (st : St2) : Prop :=
 (st.2 = true ∧ R = .no st.1) ∨ (st.2 = false ∧ ∃ g, ws.length - st.1 < g ∧ mProg ws F g els st.1 = R)
theorem advN_decl {ws : List W3} {i p : Nat} (h : mDecl ws i = .no p) : i ≤ p := by
 unfold mDecl at h
 split at h
 ·rcases wantK_no h with h | h
  ·omega
  ·rcases want_no h with h | h
   ·omega
   ·cases h
 ·rcases want_no h with h | h
  ·omega
  ·rcases wantK_no h with h | h
   ·omega
   ·rcases want_no h with h | h
    ·omega
    ·split at h
     ·rcases want_no h with h | h
      ·omega
      ·rcases want_no h with h | h
       ·omega
       ·cases h
     ·rcases wantK_no h with h | h
      ·omega
      ·rcases want_no h with h | h
       ·omega
       ·rcases want_no h with h | h
        ·omega
        ·cases h
theorem dinv_step {ws : List W3} {F : Nat} {R : Res} {els : List T} {j : Nat} {d : T} {st' : St2} (h : DInv ws F R els (j, false)) (hj : isW ws j ⟨#[118, 97, 114]⟩ = true ∨ isW ws j ⟨#[97, 114, 114, 97, 121]⟩ = true) (hs : SR (mDecl ws j) (j, false) d st') :
    DInv ws F R (els ++ [d]) st' ∧ (j ≤ st'.1 ∧ (st'.2 = false → j < st'.1 ∧ st'.1 ≤ ws.length)) := by
 rcases h with ⟨h1, _⟩ | ⟨_, g, h2, h3⟩
 ·cases h1
 obtain ⟨g1, rfl⟩ : ∃ g1, g = g1 + 1 := ⟨g - 1, by omega⟩
 simp only [mProg] at h3
 rw [if_pos (by rcases hj with q | q <;> simp [q])] at h3
 rcases hs.parts with ⟨k, e, rfl⟩ | ⟨p, e, rfl⟩
 ·have := adv_decl e
  rw [e] at h3
  exact ⟨.inr ⟨rfl, g1, by simp only at h2 ⊢; omega, h3⟩, by simp only; omega, fun _ => by simp only; omega⟩
 ·have := advN_decl e
  rw [e] at h3
  exact ⟨.inl ⟨rfl, h3.symm⟩, this, fun q => by cases q⟩
theorem dinv_end {ws : List W3} (hw : WsOk ws) {F : Nat} (hF : 3 * ws.length + 2 ≤ F) {R : Res} {els : List T} {st : St2} {x : T} {st1 : St2} (h : DInv ws F R els st)
    (hn : st.2 = false → isW ws st.1 ⟨#[118, 97, 114]⟩ = false ∧ isW ws st.1 ⟨#[97, 114, 114, 97, 121]⟩ = false)
    (h1 : st.2 = true → st1 = st) (h2 : st.2 = false → st1 = (seqM ws (fun _ => mStmt ws F F) F [] st.1).2 ∧ ((seqM ws (fun _ => mStmt ws F F) F [] st.1).2.2 = false → x = .node 30 nil_ 0 (seqM ws (fun _ => mStmt ws F F) F [] st.1).1)) :
    SR R (0, false) (.node 40 nil_ 0 (els ++ [x])) (if st1.1 < ws.length then (st1.1, true) else st1) := by
 rcases h with ⟨hb, hR⟩ | ⟨hb, g, hg, hR⟩
 ·rw [h1 hb, hR]
  have : (if st.1 < ws.length then (st.1, true) else st) = (st.1, true) := by
   split
   ·rfl
   ·obtain ⟨i, b⟩ := st; simp only at hb; rw [hb]
  rw [this]; exact SR.mk_no _ _ _
 ·obtain ⟨n1, n2⟩ := hn hb
  obtain ⟨e1, e2⟩ := h2 hb
  obtain ⟨g1, rfl⟩ : ∃ g1, g = g1 + 1 := ⟨g - 1, by omega⟩
  simp only [mProg] at hR
  rw [if_neg (by rw [n1, n2]; decide), seq_all hw (by omega) els F [] st.1 (by omega)] at hR
  generalize seqM ws (fun _ => mStmt ws F F) F [] st.1 = S at e1 e2 hR
  obtain ⟨els2, j, c⟩ := S
  simp only at e1 e2 hR
  subst e1
  subst hR
  cases c with
  | true =>
    simp only [if_true]
    rw [show (if j < ws.length then (j, true) else (j, true)) = (j, true) by split <;> rfl]
    exact SR.mk_no _ _ _
  | false =>
    rw [e2 rfl, if_neg (by decide)]
    simp only
    by_cases hj : j < ws.length
    ·rw [if_pos hj, if_pos hj]; exact SR.mk_no _ _ _
    ·rw [if_neg hj, if_neg hj]; exact SR.mk_ok _ _ _
end Go.Proofs.YtedfnadgmhjojaaGreatDoor
