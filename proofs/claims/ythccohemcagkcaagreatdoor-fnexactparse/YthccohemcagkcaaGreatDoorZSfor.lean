/-
  CONTRACT of the specification's reader's stmt: for.
-/
import Derived.Test.YthccohemcagkcaaGreatDoorGp
namespace Go.Proofs.YthccohemcagkcaaGreatDoor
open Go.RowKit
open Pl

set_option maxRecDepth 100000 in
set_option maxHeartbeats 4000000 in
theorem sstmt_for {rb : Nat} {a : Option Addr} {cap : Nat} {ws : List W3} {F f : Nat} (he : Env ws) (hF : 5 * ws.length + 3 ≤ F) (hE : SExpr rb a cap ws F) (hB : SBlock rb a cap ws F f) (i : Nat) (w : World) (hf : 3 * (ws.length - i) + 1 ≤ f + 1) (h : Sd w rb a cap ws (i, false)) (n0 : isW ws i ⟨#[105, 102]⟩ = false) (n1 : isW ws i ⟨#[119, 104, 105, 108, 101]⟩ = false) (h1 : isW ws i ⟨#[102, 111, 114]⟩ = true) :
    Calls Tryz.prog 139 #[.pointer (some ⟨rb, 0, none⟩)] w (SPost rb a cap ws w (mStmt ws F (f + 1) i) (i, false)) := by
  have hil := isW_lt h1
  have hnm := name_len he (i + 1, false)
  have HSR := mkHid (fun (x y z : T) (st2 st4 st5 : St2) h h2 h3 => sr_for (F := F) (f := f) (x := x) (y := y) (z := z) (st2 := st2) (st4 := st4) (st5 := st5) h1 h h2 h3)
  have C3 := mkHid (fun w h => sNm_any rb a cap ws (i + 1, false) w h)
  have p0 := nmS_pos ws (i + 1, false)
  generalize nmT ws (i + 1, false) = nm at C3 HSR hnm
  generalize nmS ws (i + 1, false) = sA at C3 HSR p0
  have C4 := mkHid (fun w h => sNeed_any rb a cap ws sA ⟨#[102, 114, 111, 109]⟩ (by decide) w h)
  have p1 := nd_pos ws sA ⟨#[102, 114, 111, 109]⟩
  generalize nd ws sA ⟨#[102, 114, 111, 109]⟩ = sB at C4 HSR p1
  have C6 := mkHid (fun st w h => sNeed_any rb a cap ws st ⟨#[116, 111]⟩ (by decide) w h)
  have HE := mkHid (fun st w h => hE st w (by omega) h)
  have HB := mkHid hB
  have HA := mkHid h
  have hrb := h.lt
  have C0 := mkHid (fun w h => sTake_no rb a cap ws (i, false) ⟨#[105, 102]⟩ (by decide) w h (by rw [tk_good]; exact n0))
  have C1 := mkHid (fun w h => sTake_no rb a cap ws (i, false) ⟨#[119, 104, 105, 108, 101]⟩ (by decide) w h (by rw [tk_good]; exact n1))
  have C2 := mkHid (fun w h => sTake_yes rb a cap ws (i, false) ⟨#[102, 111, 114]⟩ (by decide) w h (by rw [tk_good]; exact h1))
  clear h hE hB h1 n0 n1 he
  simp only at p0
  go_enter Tryz.func139, Tryz.ntmps139
  go_wp2_with fail
  refine (C0.out _ ((HA.out.alloc _).alloc _)).mono ?_
  rintro e w1 ⟨rfl, r, s⟩
  have G1 := mkHid (SGrown.zero hrb s r)
  clear r s
  go_wp2_with fail
  refine (C1.out _ G1.out.sd).mono ?_
  rintro e w2 ⟨rfl, r, s⟩
  have G2 := mkHid (G1.out.on s r)
  clear r s G1
  go_wp2_with fail
  refine (C2.out _ G2.out.sd).mono ?_
  rintro e w3 ⟨rfl, r, s⟩
  have G3 := mkHid (G2.out.on s r)
  clear r s G2
  go_wp2_with fail
  refine (C3.out _ G3.out.sd).mono ?_
  rintro e w4 ⟨rfl, r, s⟩
  have G4 := mkHid (G3.out.on s r)
  clear r s G3
  go_wp2_with fail
  refine (C4.out _ G4.out.sd).mono ?_
  rintro e w5 ⟨rfl, r, s⟩
  have G5 := mkHid (G4.out.on s r)
  clear r s G4
  have K5 := mkHid (Hold.nil G5.out)
  clear G5
  go_wp2_with fail
  refine (HE.out sB _ K5.out.g.sd).mono ?_
  rintro e w6 ⟨x, st2, rfl, hsx, hnx, r, s, hr⟩
  have K6 := mkHid (K5.out.add hsx hnx r s _ rfl)
  have D := K5.out.on s r
  have zP := D.room
  have H_hr := mkHid hr
  obtain ⟨xk, xs, xm, xa, xc, xkk⟩ := x
  clear D hsx hnx r s hr K5
  clear C0 C1 C2 C3 C4
  simp only [A.val]
  go_wp2_with fail
  refine (C6.out st2 _ K6.out.g.sd).mono ?_
  rintro e w7 ⟨rfl, r, s⟩
  have K7 := mkHid (K6.out.on s r)
  clear r s K6
  have p2 := nd_pos ws st2 ⟨#[116, 111]⟩
  go_wp2_with fail
  refine (HE.out (nd ws st2 ⟨#[116, 111]⟩) _ K7.out.g.sd).mono ?_
  rintro e w8 ⟨y, st4, rfl, hsx, hnx, r, s, hr2⟩
  have K8 := mkHid (K7.out.add hsx hnx r s _ rfl)
  have D := K7.out.on s r
  have zP := D.room
  have H_hr2 := mkHid hr2
  obtain ⟨yk, ys, ym, ya, yc, ykk⟩ := y
  clear D hsx hnx r s hr2 K7
  have H2 := mkHid (fun w h => HB.out st4 w (by have := sr_expr_pos H_hr.out; have := sr_expr_pos H_hr2.out; omega) h)
  clear HB HE C6
  simp only [A.val]
  go_wp2_with fail
  refine (H2.out _ K8.out.g.sd).mono ?_
  rintro e w9 ⟨z, st5, rfl, hsx, hnx, r, s, hr3⟩
  have K9 := mkHid (K8.out.add hsx hnx r s _ rfl)
  have D := K8.out.on s r
  have zP := D.room
  obtain ⟨d0, d1, d2, d3, _⟩ := four_of (show w9.heap[w6.heap.size]? = some (.cells #[.int .i64 xk, .string xs, .int .i64 xm, .slice xa xkk.length xc] 26 (0, 0)) from (D.here (w6.heap.size, (A.node xk xs xm xa xc xkk)) (by simp)).2)
  have zx := (Array.getElem?_eq_some_iff.1 (D.here (w6.heap.size, (A.node xk xs xm xa xc xkk)) (by simp)).2).1
  simp only at zx
  obtain ⟨e0, e1, e2, e3, _⟩ := four_of (show w9.heap[w8.heap.size]? = some (.cells #[.int .i64 yk, .string ys, .int .i64 ym, .slice ya ykk.length yc] 26 (0, 0)) from (D.here (w8.heap.size, (A.node yk ys ym ya yc ykk)) (by simp)).2)
  have zy := (Array.getElem?_eq_some_iff.1 (D.here (w8.heap.size, (A.node yk ys ym ya yc ykk)) (by simp)).2).1
  simp only at zy
  have HS9 := mkHid (sitsL_snoc D.sits hsx)
  have HP9 := mkHid D.g.res
  have HSD9 := mkHid r
  have HST9 := mkHid D.g.step
  obtain ⟨c0, c1, c2, c3, f0, f1, f2, f3⟩ := four_of D.g.res
  have zp : w.heap.size < w9.heap.size := by omega
  have H_hr3 := mkHid hr3
  obtain ⟨zk, zs, zm, za, zc, zkk⟩ := z
  clear D hsx hnx r s hr3 K8
  have HT := mkHid (made_row (w0 := ((put4 w9 w.heap.size (.int .i64 26) (.string nm) (.int .i64 0) (.slice (some ⟨w9.heap.size + 1, 0, none⟩) 3 3)).alloc (.cells #[.int .i64 zk, .string zs, .int .i64 zm, .slice za zkk.length zc] 26))) (b := w9.heap.size + 1) (n := w.heap.size + 2) (k := 26) (m := 0) (s := nm) (c := 3) (xs := [(A.node xk xs xm xa xc xkk), (A.node yk ys ym ya yc ykk), (A.node zk zs zm za zc zkk)]) (cells3 _ _ _ _ _ _ _ _ _ _ _ _ _ _ _ _ _ _) (by simp [World.setCell]) (alloc_sits (put_sits HS9.out K9.out.new (by omega) _ _ _ _) _) K9.out.new (by omega) hnm (by simp [maxLen]))
  have HQ := mkHid ((Lib.alloc_old ((put4 w9 w.heap.size (.int .i64 26) (.string nm) (.int .i64 0) (.slice (some ⟨w9.heap.size + 1, 0, none⟩) 3 3)).alloc (.cells #[.int .i64 zk, .string zs, .int .i64 zm, .slice za zkk.length zc] 26)) (.cells #[.int .i64 xk, .string xs, .int .i64 xm, .slice xa xkk.length xc, .int .i64 yk, .string ys, .int .i64 ym, .slice ya ykk.length yc, .int .i64 zk, .string zs, .int .i64 zm, .slice za zkk.length zc] 26) w.heap.size (by simp [World.setCell]; omega)).trans ((Lib.alloc_old (put4 w9 w.heap.size (.int .i64 26) (.string nm) (.int .i64 0) (.slice (some ⟨w9.heap.size + 1, 0, none⟩) 3 3)) (.cells #[.int .i64 zk, .string zs, .int .i64 zm, .slice za zkk.length zc] 26) w.heap.size (by rw [put4_size]; exact zp)).trans (put4_at HP9.out (.int .i64 26) (.string nm) (.int .i64 0) (.slice (some ⟨w9.heap.size + 1, 0, none⟩) 3 3))))
  have HSD := mkHid (((put4_sd HSD9.out hrb (.int .i64 26) (.string nm) (.int .i64 0) (.slice (some ⟨w9.heap.size + 1, 0, none⟩) 3 3)).alloc (.cells #[.int .i64 zk, .string zs, .int .i64 zm, .slice za zkk.length zc] 26)).alloc (.cells #[.int .i64 xk, .string xs, .int .i64 xm, .slice xa xkk.length xc, .int .i64 yk, .string ys, .int .i64 ym, .slice ya ykk.length yc, .int .i64 zk, .string zs, .int .i64 zm, .slice za zkk.length zc] 26))
  have HST := mkHid (((put4_step HST9.out (Nat.le_refl _) (.int .i64 26) (.string nm) (.int .i64 0) (.slice (some ⟨w9.heap.size + 1, 0, none⟩) 3 3)).alloc (.cells #[.int .i64 zk, .string zs, .int .i64 zm, .slice za zkk.length zc] 26)).alloc (.cells #[.int .i64 xk, .string xs, .int .i64 xm, .slice xa xkk.length xc, .int .i64 yk, .string ys, .int .i64 ym, .slice ya ykk.length yc, .int .i64 zk, .string zs, .int .i64 zm, .slice za zkk.length zc] 26))
  clear H2 K9 HS9 HP9 HSD9 HST9
  simp only [A.val]
  go_wp2
  obtain ⟨q0, q1, q2, q3, _⟩ := four_of HQ.out
  exact bodyPost_ret (v := (A.node 26 nm 0 (some ⟨w9.heap.size + 1, 0, none⟩) 3 [(A.node xk xs xm xa xc xkk), (A.node yk ys ym ya yc ykk), (A.node zk zs zm za zc zkk)]).val) (by simp [results, Tryz.results139, go_sem, q0, q1, q2, q3, A.val]) rfl (sp_any _ HSD.out HST.out HT.out (by omega) (by rw [erase3]; exact HSR.out _ _ _ _ _ _ H_hr.out H_hr2.out H_hr3.out))
end Go.Proofs.YthccohemcagkcaaGreatDoor
