/-
  CONTRACT of the specification's reader's stmt: while.
-/
import Derived.Test.YthccohemcagkcaaGreatDoorGp
namespace Go.Proofs.YthccohemcagkcaaGreatDoor
open Go.RowKit
open Pl

set_option maxRecDepth 100000 in
set_option maxHeartbeats 4000000 in
theorem sstmt_while {rb : Nat} {a : Option Addr} {cap : Nat} {ws : List W3} {F f : Nat} (hC : SCond rb a cap ws F) (hB : SBlock rb a cap ws F f) (i : Nat) (w : World) (hf : 3 * (ws.length - i) + 1 ≤ f + 1) (h : Sd w rb a cap ws (i, false)) (n0 : isW ws i ⟨#[105, 102]⟩ = false) (h1 : isW ws i ⟨#[119, 104, 105, 108, 101]⟩ = true) :
    Calls Tryz.prog 139 #[.pointer (some ⟨rb, 0, none⟩)] w (SPost rb a cap ws w (mStmt ws F (f + 1) i) (i, false)) := by
  have hil := isW_lt h1
  have HC := mkHid (fun w h => hC (i + 1, false) w h)
  have HB := mkHid hB
  have H1 := mkHid h1
  have HA := mkHid h
  have hrb := h.lt
  have C0 := mkHid (fun w h => sTake_no rb a cap ws (i, false) ⟨#[105, 102]⟩ (by decide) w h (by rw [tk_good]; exact n0))
  have C1 := mkHid (fun w h => sTake_yes rb a cap ws (i, false) ⟨#[119, 104, 105, 108, 101]⟩ (by decide) w h (by rw [tk_good]; exact h1))
  clear h hC hB h1 n0
  go_enter Tryz.func139, Tryz.ntmps139
  go_wp2_with fail
  refine (C0.out _ ((HA.out.alloc _).alloc _)).mono ?_
  rintro e w1 ⟨rfl, r, s⟩
  have G1 := mkHid (SGrown.zero hrb s r)
  clear r s
  go_wp2_with fail
  refine (C1.out _ G1.out.sd).mono ?_
  rintro e w2 ⟨rfl, r, s⟩
  have G2 := mkHid (G1.out.on s r)
  clear r s G1
  have K2 := mkHid (Hold.nil G2.out)
  clear G2
  go_wp2_with fail
  refine (HC.out _ K2.out.g.sd).mono ?_
  rintro e w3 ⟨x, st1, rfl, hsx, hnx, r, s, hr⟩
  have K3 := mkHid (K2.out.add hsx hnx r s _ rfl)
  have D := K2.out.on s r
  have zP := D.room
  have H_hr := mkHid hr
  obtain ⟨xk, xs, xm, xa, xc, xkk⟩ := x
  clear D hsx hnx r s hr K2
  have H2 := mkHid (fun w h => HB.out st1 w (by have := sr_cond_pos H_hr.out; omega) h)
  clear HB HC C0 C1
  simp only [A.val]
  go_wp2_with fail
  refine (H2.out _ K3.out.g.sd).mono ?_
  rintro e w4 ⟨y, st2, rfl, hsx, hnx, r, s, hr2⟩
  have K4 := mkHid (K3.out.add hsx hnx r s _ rfl)
  have D := K3.out.on s r
  have zP := D.room
  obtain ⟨d0, d1, d2, d3, _⟩ := four_of (show w4.heap[w3.heap.size]? = some (.cells #[.int .i64 xk, .string xs, .int .i64 xm, .slice xa xkk.length xc] 26 (0, 0)) from (D.here (w3.heap.size, (A.node xk xs xm xa xc xkk)) (by simp)).2)
  have zx := (Array.getElem?_eq_some_iff.1 (D.here (w3.heap.size, (A.node xk xs xm xa xc xkk)) (by simp)).2).1
  simp only at zx
  have H_hr2 := mkHid hr2
  obtain ⟨yk, ys, ym, ya, yc, ykk⟩ := y
  clear D hsx hnx r s hr2 K3
  clear H2
  simp only [A.val]
  go_wp2_with fail
  refine (two_new 25 (A.node xk xs xm xa xc xkk) (A.node yk ys ym ya yc ykk) _).mono ?_
  rintro e w5 ⟨bb, rfl, hB, hge, hb⟩
  obtain ⟨t1, t2⟩ := made (n := w.heap.size + 2) (k := 25) (m := 0) (s := ⟨#[]⟩) (c := 2) (xs := [(A.node xk xs xm xa xc xkk), (A.node yk ys ym ya yc ykk)]) K4.out.sits hb hB hge K4.out.new K4.out.room (by decide) (by simp [maxLen])
  have K5 := mkHid (K4.out.below hb)
  have HT1 := mkHid t1
  have HT2 := mkHid t2
  clear hB hge hb t1 t2 d0 d1 d2 d3 K4
  obtain ⟨c0, c1, c2, c3, f0, f1, f2, f3⟩ := four_of K5.out.g.res
  simp only [A.val]
  go_wp2
  obtain ⟨q0, q1, q2, q3⟩ := put4_cells0 K5.out.g.res (.int .i64 25) (.string ⟨#[]⟩) (.int .i64 0) (.slice (some ⟨bb, 0, none⟩) 2 2)
  exact bodyPost_ret (v := (A.node 25 ⟨#[]⟩ 0 (some ⟨bb, 0, none⟩) 2 [(A.node xk xs xm xa xc xkk), (A.node yk ys ym ya yc ykk)]).val) (by simp [results, Tryz.results139, go_sem, q0, q1, q2, q3, A.val]) rfl (sp_tree _ _ _ _ _ K5.out.g.sd hrb K5.out.g.step HT1.out HT2.out (by omega) (by rw [erase2]; exact sr_while H1.out H_hr.out H_hr2.out))
end Go.Proofs.YthccohemcagkcaaGreatDoor
