/-
  CONTRACT of the specification's reader's stmt: check, read, skip, stop.
-/
import Derived.Test.YthccohemcagkcaaGreatDoorGp
namespace Go.Proofs.YthccohemcagkcaaGreatDoor
open Go.RowKit
open Pl

set_option maxRecDepth 100000 in
set_option maxHeartbeats 4000000 in
theorem sstmt_skip {rb : Nat} {a : Option Addr} {cap : Nat} {ws : List W3} {F f : Nat}  (i : Nat) (w : World) (h : Sd w rb a cap ws (i, false)) (n0 : isW ws i ⟨#[105, 102]⟩ = false) (n1 : isW ws i ⟨#[119, 104, 105, 108, 101]⟩ = false) (n2 : isW ws i ⟨#[102, 111, 114]⟩ = false) (n3 : isW ws i ⟨#[99, 104, 101, 99, 107]⟩ = false) (n4 : isW ws i ⟨#[114, 101, 97, 100]⟩ = false) (h1 : isW ws i ⟨#[115, 107, 105, 112]⟩ = true) :
    Calls Tryz.prog 139 #[.pointer (some ⟨rb, 0, none⟩)] w (SPost rb a cap ws w (mStmt ws F (f + 1) i) (i, false)) := by
  have H1 := mkHid h1
  have HA := mkHid h
  have hrb := h.lt
  have HSR := mkHid (fun (x : T) (st1 : St2) h => sr_semi (F := F) (f := f) (x := x) (st1 := st1) n0 n1 n2 h)
  have C0 := mkHid (fun w h => sTake_no rb a cap ws (i, false) ⟨#[105, 102]⟩ (by decide) w h (by rw [tk_good]; exact n0))
  have C1 := mkHid (fun w h => sTake_no rb a cap ws (i, false) ⟨#[119, 104, 105, 108, 101]⟩ (by decide) w h (by rw [tk_good]; exact n1))
  have C2 := mkHid (fun w h => sTake_no rb a cap ws (i, false) ⟨#[102, 111, 114]⟩ (by decide) w h (by rw [tk_good]; exact n2))
  have C3 := mkHid (fun w h => sTake_no rb a cap ws (i, false) ⟨#[99, 104, 101, 99, 107]⟩ (by decide) w h (by rw [tk_good]; exact n3))
  have C4 := mkHid (fun w h => sTake_no rb a cap ws (i, false) ⟨#[114, 101, 97, 100]⟩ (by decide) w h (by rw [tk_good]; exact n4))
  have C5 := mkHid (fun w h => sTake_yes rb a cap ws (i, false) ⟨#[115, 107, 105, 112]⟩ (by decide) w h (by rw [tk_good]; exact h1))
  have CS := mkHid (fun st w h => sNeed_any rb a cap ws st ⟨#[59]⟩ (by decide) w h)
  clear h h1 n0 n1 n2 n3 n4
  go_enter Tryz.func139, Tryz.ntmps139
  go_wp2_with fail
  refine (C0.out _ ((HA.out.alloc _).alloc _)).mono ?_
  rintro e w1 ⟨rfl, r, s⟩
  have G1 := mkHid (SGrown.zero hrb s r)
  clear r s
  go_wp2_with fail
  refine (C1.out _ G1.out.sd).mono ?_
  rintro e w2 ⟨rfl, r, s⟩
  have G2 := mkHid (G1.out.on s r)
  clear r s G1
  go_wp2_with fail
  refine (C2.out _ G2.out.sd).mono ?_
  rintro e w3 ⟨rfl, r, s⟩
  have G3 := mkHid (G2.out.on s r)
  clear r s G2
  go_wp2_with fail
  refine (C3.out _ G3.out.sd).mono ?_
  rintro e w4 ⟨rfl, r, s⟩
  have G4 := mkHid (G3.out.on s r)
  clear r s G3
  go_wp2_with fail
  refine (C4.out _ G4.out.sd).mono ?_
  rintro e w5 ⟨rfl, r, s⟩
  have G5 := mkHid (G4.out.on s r)
  clear r s G4
  go_wp2_with fail
  refine (C5.out _ G5.out.sd).mono ?_
  rintro e w6 ⟨rfl, r, s⟩
  have G6 := mkHid (G5.out.on s r)
  clear r s G5
  clear C0 C1 C2 C3 C4 C5
  have GB := G6
  clear G6
  have GC := mkHid (GB.out.set (y := (A.node 28 ⟨#[]⟩ 0 none 0 [])) (Sits.leaf _ _ _ (by decide)) (New.leaf _ _ _ _ _ _) (by rw [foot_leaf]; simp) (.int .i64 28) (.string ⟨#[]⟩) (.int .i64 0) (.slice none 0 0) rfl)
  obtain ⟨e0, e1, e2, e3, g0, g1, g2, g3⟩ := four_of GB.out.here
  clear GB
  go_wp2_with fail
  refine (CS.out (i + 1, false) _ GC.out.sd).mono ?_
  rintro e wz ⟨rfl, r, s⟩
  have GZ := mkHid (GC.out.on s r)
  clear r s GC CS e0 e1 e2 e3 g0 g1 g2 g3
  obtain ⟨d0, d1, d2, d3, _⟩ := four_of (show wz.heap[w.heap.size + 1]? = some (.cells #[.int .i64 28, .string ⟨#[]⟩, .int .i64 0, .slice none 0 0] 26 (0, 0)) from GZ.out.here)
  obtain ⟨c0, c1, c2, c3, f0, f1, f2, f3⟩ := four_of GZ.out.res
  go_wp2
  obtain ⟨q0, q1, q2, q3⟩ := put4_cells0 GZ.out.res (.int .i64 28) (.string ⟨#[]⟩) (.int .i64 0) (.slice none 0 0)
  exact bodyPost_ret (v := (A.node 28 ⟨#[]⟩ 0 none 0 []).val) (by simp [results, Tryz.results139, go_sem, q0, q1, q2, q3, A.val]) rfl (sp_tree _ _ _ _ _ GZ.out.sd hrb GZ.out.step GZ.out.sits GZ.out.new (by omega) (by rw [erase0]; exact HSR.out _ _ (sr_skip H1.out)))
set_option maxRecDepth 100000 in
set_option maxHeartbeats 4000000 in
theorem sstmt_stop {rb : Nat} {a : Option Addr} {cap : Nat} {ws : List W3} {F f : Nat}  (i : Nat) (w : World) (h : Sd w rb a cap ws (i, false)) (n0 : isW ws i ⟨#[105, 102]⟩ = false) (n1 : isW ws i ⟨#[119, 104, 105, 108, 101]⟩ = false) (n2 : isW ws i ⟨#[102, 111, 114]⟩ = false) (n3 : isW ws i ⟨#[99, 104, 101, 99, 107]⟩ = false) (n4 : isW ws i ⟨#[114, 101, 97, 100]⟩ = false) (n5 : isW ws i ⟨#[115, 107, 105, 112]⟩ = false) (h1 : isW ws i ⟨#[115, 116, 111, 112]⟩ = true) :
    Calls Tryz.prog 139 #[.pointer (some ⟨rb, 0, none⟩)] w (SPost rb a cap ws w (mStmt ws F (f + 1) i) (i, false)) := by
  have H1 := mkHid h1
  have HA := mkHid h
  have hrb := h.lt
  have HSR := mkHid (fun (x : T) (st1 : St2) h => sr_semi (F := F) (f := f) (x := x) (st1 := st1) n0 n1 n2 h)
  have C0 := mkHid (fun w h => sTake_no rb a cap ws (i, false) ⟨#[105, 102]⟩ (by decide) w h (by rw [tk_good]; exact n0))
  have C1 := mkHid (fun w h => sTake_no rb a cap ws (i, false) ⟨#[119, 104, 105, 108, 101]⟩ (by decide) w h (by rw [tk_good]; exact n1))
  have C2 := mkHid (fun w h => sTake_no rb a cap ws (i, false) ⟨#[102, 111, 114]⟩ (by decide) w h (by rw [tk_good]; exact n2))
  have C3 := mkHid (fun w h => sTake_no rb a cap ws (i, false) ⟨#[99, 104, 101, 99, 107]⟩ (by decide) w h (by rw [tk_good]; exact n3))
  have C4 := mkHid (fun w h => sTake_no rb a cap ws (i, false) ⟨#[114, 101, 97, 100]⟩ (by decide) w h (by rw [tk_good]; exact n4))
  have C5 := mkHid (fun w h => sTake_no rb a cap ws (i, false) ⟨#[115, 107, 105, 112]⟩ (by decide) w h (by rw [tk_good]; exact n5))
  have C6 := mkHid (fun w h => sTake_yes rb a cap ws (i, false) ⟨#[115, 116, 111, 112]⟩ (by decide) w h (by rw [tk_good]; exact h1))
  have CS := mkHid (fun st w h => sNeed_any rb a cap ws st ⟨#[59]⟩ (by decide) w h)
  clear h h1 n0 n1 n2 n3 n4 n5
  go_enter Tryz.func139, Tryz.ntmps139
  go_wp2_with fail
  refine (C0.out _ ((HA.out.alloc _).alloc _)).mono ?_
  rintro e w1 ⟨rfl, r, s⟩
  have G1 := mkHid (SGrown.zero hrb s r)
  clear r s
  go_wp2_with fail
  refine (C1.out _ G1.out.sd).mono ?_
  rintro e w2 ⟨rfl, r, s⟩
  have G2 := mkHid (G1.out.on s r)
  clear r s G1
  go_wp2_with fail
  refine (C2.out _ G2.out.sd).mono ?_
  rintro e w3 ⟨rfl, r, s⟩
  have G3 := mkHid (G2.out.on s r)
  clear r s G2
  go_wp2_with fail
  refine (C3.out _ G3.out.sd).mono ?_
  rintro e w4 ⟨rfl, r, s⟩
  have G4 := mkHid (G3.out.on s r)
  clear r s G3
  go_wp2_with fail
  refine (C4.out _ G4.out.sd).mono ?_
  rintro e w5 ⟨rfl, r, s⟩
  have G5 := mkHid (G4.out.on s r)
  clear r s G4
  go_wp2_with fail
  refine (C5.out _ G5.out.sd).mono ?_
  rintro e w6 ⟨rfl, r, s⟩
  have G6 := mkHid (G5.out.on s r)
  clear r s G5
  go_wp2_with fail
  refine (C6.out _ G6.out.sd).mono ?_
  rintro e w7 ⟨rfl, r, s⟩
  have G7 := mkHid (G6.out.on s r)
  clear r s G6
  clear C0 C1 C2 C3 C4 C5 C6
  have GB := G7
  clear G7
  have GC := mkHid (GB.out.set (y := (A.node 29 ⟨#[]⟩ 0 none 0 [])) (Sits.leaf _ _ _ (by decide)) (New.leaf _ _ _ _ _ _) (by rw [foot_leaf]; simp) (.int .i64 29) (.string ⟨#[]⟩) (.int .i64 0) (.slice none 0 0) rfl)
  obtain ⟨e0, e1, e2, e3, g0, g1, g2, g3⟩ := four_of GB.out.here
  clear GB
  go_wp2_with fail
  refine (CS.out (i + 1, false) _ GC.out.sd).mono ?_
  rintro e wz ⟨rfl, r, s⟩
  have GZ := mkHid (GC.out.on s r)
  clear r s GC CS e0 e1 e2 e3 g0 g1 g2 g3
  obtain ⟨d0, d1, d2, d3, _⟩ := four_of (show wz.heap[w.heap.size + 1]? = some (.cells #[.int .i64 29, .string ⟨#[]⟩, .int .i64 0, .slice none 0 0] 26 (0, 0)) from GZ.out.here)
  obtain ⟨c0, c1, c2, c3, f0, f1, f2, f3⟩ := four_of GZ.out.res
  go_wp2
  obtain ⟨q0, q1, q2, q3⟩ := put4_cells0 GZ.out.res (.int .i64 29) (.string ⟨#[]⟩) (.int .i64 0) (.slice none 0 0)
  exact bodyPost_ret (v := (A.node 29 ⟨#[]⟩ 0 none 0 []).val) (by simp [results, Tryz.results139, go_sem, q0, q1, q2, q3, A.val]) rfl (sp_tree _ _ _ _ _ GZ.out.sd hrb GZ.out.step GZ.out.sits GZ.out.new (by omega) (by rw [erase0]; exact HSR.out _ _ (sr_stop H1.out)))
set_option maxRecDepth 100000 in
set_option maxHeartbeats 4000000 in
theorem sstmt_read {rb : Nat} {a : Option Addr} {cap : Nat} {ws : List W3} {F f : Nat} (he : Env ws) (i : Nat) (w : World) (h : Sd w rb a cap ws (i, false)) (n0 : isW ws i ⟨#[105, 102]⟩ = false) (n1 : isW ws i ⟨#[119, 104, 105, 108, 101]⟩ = false) (n2 : isW ws i ⟨#[102, 111, 114]⟩ = false) (n3 : isW ws i ⟨#[99, 104, 101, 99, 107]⟩ = false) (h1 : isW ws i ⟨#[114, 101, 97, 100]⟩ = true) :
    Calls Tryz.prog 139 #[.pointer (some ⟨rb, 0, none⟩)] w (SPost rb a cap ws w (mStmt ws F (f + 1) i) (i, false)) := by
  have H1 := mkHid h1
  have HA := mkHid h
  have hrb := h.lt
  have HSR := mkHid (fun (x : T) (st1 : St2) h => sr_semi (F := F) (f := f) (x := x) (st1 := st1) n0 n1 n2 h)
  have C0 := mkHid (fun w h => sTake_no rb a cap ws (i, false) ⟨#[105, 102]⟩ (by decide) w h (by rw [tk_good]; exact n0))
  have C1 := mkHid (fun w h => sTake_no rb a cap ws (i, false) ⟨#[119, 104, 105, 108, 101]⟩ (by decide) w h (by rw [tk_good]; exact n1))
  have C2 := mkHid (fun w h => sTake_no rb a cap ws (i, false) ⟨#[102, 111, 114]⟩ (by decide) w h (by rw [tk_good]; exact n2))
  have C3 := mkHid (fun w h => sTake_no rb a cap ws (i, false) ⟨#[99, 104, 101, 99, 107]⟩ (by decide) w h (by rw [tk_good]; exact n3))
  have C4 := mkHid (fun w h => sTake_yes rb a cap ws (i, false) ⟨#[114, 101, 97, 100]⟩ (by decide) w h (by rw [tk_good]; exact h1))
  have CS := mkHid (fun st w h => sNeed_any rb a cap ws st ⟨#[59]⟩ (by decide) w h)
  have hnm := name_len he (i + 1, false)
  have CN := mkHid (fun w h => sNm_any rb a cap ws (i + 1, false) w h)
  have HRD := mkHid (sr_read (F := F) h1)
  generalize nmT ws (i + 1, false) = nm at CN HRD hnm
  generalize nmS ws (i + 1, false) = sA at CN HRD
  clear h h1 n0 n1 n2 n3 he
  go_enter Tryz.func139, Tryz.ntmps139
  go_wp2_with fail
  refine (C0.out _ ((HA.out.alloc _).alloc _)).mono ?_
  rintro e w1 ⟨rfl, r, s⟩
  have G1 := mkHid (SGrown.zero hrb s r)
  clear r s
  go_wp2_with fail
  refine (C1.out _ G1.out.sd).mono ?_
  rintro e w2 ⟨rfl, r, s⟩
  have G2 := mkHid (G1.out.on s r)
  clear r s G1
  go_wp2_with fail
  refine (C2.out _ G2.out.sd).mono ?_
  rintro e w3 ⟨rfl, r, s⟩
  have G3 := mkHid (G2.out.on s r)
  clear r s G2
  go_wp2_with fail
  refine (C3.out _ G3.out.sd).mono ?_
  rintro e w4 ⟨rfl, r, s⟩
  have G4 := mkHid (G3.out.on s r)
  clear r s G3
  go_wp2_with fail
  refine (C4.out _ G4.out.sd).mono ?_
  rintro e w5 ⟨rfl, r, s⟩
  have G5 := mkHid (G4.out.on s r)
  clear r s G4
  clear C0 C1 C2 C3 C4
  go_wp2_with fail
  refine (CN.out _ G5.out.sd).mono ?_
  rintro e w6 ⟨rfl, r, s⟩
  have G6 := mkHid (G5.out.on s r)
  clear r s G5
  have GB := G6
  clear G6
  have GC := mkHid (GB.out.set (y := (A.node 23 nm 0 none 0 [])) (Sits.leaf _ _ _ hnm) (New.leaf _ _ _ _ _ _) (by rw [foot_leaf]; simp) (.int .i64 23) (.string nm) (.int .i64 0) (.slice none 0 0) rfl)
  obtain ⟨e0, e1, e2, e3, g0, g1, g2, g3⟩ := four_of GB.out.here
  clear GB
  go_wp2_with fail
  refine (CS.out sA _ GC.out.sd).mono ?_
  rintro e wz ⟨rfl, r, s⟩
  have GZ := mkHid (GC.out.on s r)
  clear r s GC CS e0 e1 e2 e3 g0 g1 g2 g3
  obtain ⟨d0, d1, d2, d3, _⟩ := four_of (show wz.heap[w.heap.size + 1]? = some (.cells #[.int .i64 23, .string nm, .int .i64 0, .slice none 0 0] 26 (0, 0)) from GZ.out.here)
  obtain ⟨c0, c1, c2, c3, f0, f1, f2, f3⟩ := four_of GZ.out.res
  go_wp2
  obtain ⟨q0, q1, q2, q3⟩ := put4_cells0 GZ.out.res (.int .i64 23) (.string nm) (.int .i64 0) (.slice none 0 0)
  exact bodyPost_ret (v := (A.node 23 nm 0 none 0 []).val) (by simp [results, Tryz.results139, go_sem, q0, q1, q2, q3, A.val]) rfl (sp_tree _ _ _ _ _ GZ.out.sd hrb GZ.out.step GZ.out.sits GZ.out.new (by omega) (by rw [erase0]; exact HSR.out _ _ HRD.out))
set_option maxRecDepth 100000 in
set_option maxHeartbeats 4000000 in
theorem sstmt_check {rb : Nat} {a : Option Addr} {cap : Nat} {ws : List W3} {F f : Nat} (hC : SCond rb a cap ws F) (i : Nat) (w : World) (h : Sd w rb a cap ws (i, false)) (n0 : isW ws i ⟨#[105, 102]⟩ = false) (n1 : isW ws i ⟨#[119, 104, 105, 108, 101]⟩ = false) (n2 : isW ws i ⟨#[102, 111, 114]⟩ = false) (h1 : isW ws i ⟨#[99, 104, 101, 99, 107]⟩ = true) :
    Calls Tryz.prog 139 #[.pointer (some ⟨rb, 0, none⟩)] w (SPost rb a cap ws w (mStmt ws F (f + 1) i) (i, false)) := by
  have H1 := mkHid h1
  have HA := mkHid h
  have hrb := h.lt
  have HSR := mkHid (fun (x : T) (st1 : St2) h => sr_semi (F := F) (f := f) (x := x) (st1 := st1) n0 n1 n2 h)
  have C0 := mkHid (fun w h => sTake_no rb a cap ws (i, false) ⟨#[105, 102]⟩ (by decide) w h (by rw [tk_good]; exact n0))
  have C1 := mkHid (fun w h => sTake_no rb a cap ws (i, false) ⟨#[119, 104, 105, 108, 101]⟩ (by decide) w h (by rw [tk_good]; exact n1))
  have C2 := mkHid (fun w h => sTake_no rb a cap ws (i, false) ⟨#[102, 111, 114]⟩ (by decide) w h (by rw [tk_good]; exact n2))
  have C3 := mkHid (fun w h => sTake_yes rb a cap ws (i, false) ⟨#[99, 104, 101, 99, 107]⟩ (by decide) w h (by rw [tk_good]; exact h1))
  have CS := mkHid (fun st w h => sNeed_any rb a cap ws st ⟨#[59]⟩ (by decide) w h)
  have HC := mkHid (fun w h => hC (i + 1, false) w h)
  clear h h1 n0 n1 n2 hC
  go_enter Tryz.func139, Tryz.ntmps139
  go_wp2_with fail
  refine (C0.out _ ((HA.out.alloc _).alloc _)).mono ?_
  rintro e w1 ⟨rfl, r, s⟩
  have G1 := mkHid (SGrown.zero hrb s r)
  clear r s
  go_wp2_with fail
  refine (C1.out _ G1.out.sd).mono ?_
  rintro e w2 ⟨rfl, r, s⟩
  have G2 := mkHid (G1.out.on s r)
  clear r s G1
  go_wp2_with fail
  refine (C2.out _ G2.out.sd).mono ?_
  rintro e w3 ⟨rfl, r, s⟩
  have G3 := mkHid (G2.out.on s r)
  clear r s G2
  go_wp2_with fail
  refine (C3.out _ G3.out.sd).mono ?_
  rintro e w4 ⟨rfl, r, s⟩
  have G4 := mkHid (G3.out.on s r)
  clear r s G3
  clear C0 C1 C2 C3
  go_wp2_with fail
  refine (HC.out _ G4.out.sd).mono ?_
  rintro e w5 ⟨x, st1, rfl, hsx, hnx, r, s, hr⟩
  have zz := G4.out.plt
  have GA := mkHid (G4.out.on s r)
  have HX := mkHid hsx
  have HN := mkHid hnx
  have HR := mkHid hr
  clear hsx hnx r s hr G4 HC
  obtain ⟨xk, xs, xm, xa, xc, xkk⟩ := x
  simp only [A.val]
  go_wp2_with fail
  refine (one_new 27 (A.node xk xs xm xa xc xkk) _).mono ?_
  rintro e w6 ⟨bb, rfl, hB, hge, hb⟩
  obtain ⟨t1, t2⟩ := made (n := w.heap.size + 2) (k := 27) (m := 0) (s := ⟨#[]⟩) (c := 1) (sitsL_one HX.out) hb hB hge (NewL.one (HN.out.mono (by omega))) (by have := GA.out.plt; omega) (by decide) (by simp [maxLen])
  have GB := mkHid (GA.out.below hb)
  have T2 := mkHid t2
  have T1 := mkHid t1
  clear t1 t2 hB hge hb GA HX HN
  have GC := mkHid (GB.out.set T1.out (T2.out.mono (by omega)) (fun q => by have := T2.out.2 _ q; omega) (.int .i64 27) (.string ⟨#[]⟩) (.int .i64 0) (.slice (some ⟨bb, 0, none⟩) 1 1) rfl)
  obtain ⟨e0, e1, e2, e3, g0, g1, g2, g3⟩ := four_of GB.out.here
  clear GB
  simp only [A.val]
  go_wp2_with fail
  refine (CS.out st1 _ GC.out.sd).mono ?_
  rintro e wz ⟨rfl, r, s⟩
  have GZ := mkHid (GC.out.on s r)
  clear r s GC CS e0 e1 e2 e3 g0 g1 g2 g3
  obtain ⟨d0, d1, d2, d3, _⟩ := four_of (show wz.heap[w.heap.size + 1]? = some (.cells #[.int .i64 27, .string ⟨#[]⟩, .int .i64 0, .slice (some ⟨bb, 0, none⟩) 1 1] 26 (0, 0)) from GZ.out.here)
  obtain ⟨c0, c1, c2, c3, f0, f1, f2, f3⟩ := four_of GZ.out.res
  go_wp2
  obtain ⟨q0, q1, q2, q3⟩ := put4_cells0 GZ.out.res (.int .i64 27) (.string ⟨#[]⟩) (.int .i64 0) (.slice (some ⟨bb, 0, none⟩) 1 1)
  exact bodyPost_ret (v := (A.node 27 ⟨#[]⟩ 0 (some ⟨bb, 0, none⟩) 1 [(A.node xk xs xm xa xc xkk)]).val) (by simp [results, Tryz.results139, go_sem, q0, q1, q2, q3, A.val]) rfl (sp_tree _ _ _ _ _ GZ.out.sd hrb GZ.out.step GZ.out.sits GZ.out.new (by omega) (by rw [erase1]; exact HSR.out _ _ (sr_check H1.out HR.out)))
end Go.Proofs.YthccohemcagkcaaGreatDoor
