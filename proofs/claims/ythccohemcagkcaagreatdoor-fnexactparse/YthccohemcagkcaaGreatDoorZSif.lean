/-
  CONTRACT of the specification's reader's stmt: if.
-/
import Derived.Test.YthccohemcagkcaaGreatDoorGp
namespace Go.Proofs.YthccohemcagkcaaGreatDoor
open Go.RowKit
open Pl

set_option maxRecDepth 100000 in
set_option maxHeartbeats 4000000 in
theorem sstmt_if {rb : Nat} {a : Option Addr} {cap : Nat} {ws : List W3} {F f : Nat} (hC : SCond rb a cap ws F) (hB : SBlock rb a cap ws F f) (i : Nat) (w : World) (hf : 3 * (ws.length - i) + 1 ≤ f + 1) (h : Sd w rb a cap ws (i, false)) (h1 : isW ws i ⟨#[105, 102]⟩ = true) :
    Calls Tryz.prog 139 #[.pointer (some ⟨rb, 0, none⟩)] w (SPost rb a cap ws w (mStmt ws F (f + 1) i) (i, false)) := by
  have hil := isW_lt h1
  have HC := mkHid (fun w h => hC (i + 1, false) w h)
  have HB := mkHid hB
  have H1 := mkHid h1
  have HA := mkHid h
  have hrb := h.lt
  have C0 := mkHid (fun w h => sTake_yes rb a cap ws (i, false) ⟨#[105, 102]⟩ (by decide) w h (by rw [tk_good]; exact h1))
  clear h hC hB h1
  go_enter Tryz.func139, Tryz.ntmps139
  go_wp2_with fail
  refine (C0.out _ ((HA.out.alloc _).alloc _)).mono ?_
  rintro e w1 ⟨rfl, r, s⟩
  have G1 := mkHid (SGrown.zero hrb s r)
  clear r s
  have K1 := mkHid (Hold.nil G1.out)
  clear G1
  go_wp2_with fail
  refine (HC.out _ K1.out.g.sd).mono ?_
  rintro e w2 ⟨x, st1, rfl, hsx, hnx, r, s, hr⟩
  have K2 := mkHid (K1.out.add hsx hnx r s _ rfl)
  have D := K1.out.on s r
  have zP := D.room
  have H_hr := mkHid hr
  obtain ⟨xk, xs, xm, xa, xc, xkk⟩ := x
  clear D hsx hnx r s hr K1
  have H2 := mkHid (fun w h => HB.out st1 w (by have := sr_cond_pos H_hr.out; omega) h)
  clear HC C0
  simp only [A.val]
  go_wp2_with fail
  refine (H2.out _ K2.out.g.sd).mono ?_
  rintro e w3 ⟨y, st2, rfl, hsx, hnx, r, s, hr2⟩
  have K3 := mkHid (K2.out.add hsx hnx r s _ rfl)
  have D := K2.out.on s r
  have zP := D.room
  have H_hr2 := mkHid hr2
  obtain ⟨yk, ys, ym, ya, yc, ykk⟩ := y
  clear hsx hnx r s hr2 K2
  have HZ23 := mkHid (show w2.heap.size < w3.heap.size from (Array.getElem?_eq_some_iff.1 (D.here (w2.heap.size, (A.node xk xs xm xa xc xkk)) (by simp)).2).1)
  have HF := mkHid (show ∀ q ∈ feet [(A.node xk xs xm xa xc xkk), (A.node yk ys ym ya yc ykk)], q < w3.heap.size + 1 from fun q hq => by have := SitsL.lt K3.out.sits q hq; simp at this; omega)
  clear D
  have KD := mkHid (K3.out.on ((Step.refl rb _).alloc (.cells #[.int .i64 30, .string ⟨#[]⟩, .int .i64 0, .slice none 0 0] 26)) (K3.out.g.sd.alloc _))
  have HD := mkHid (heap_alloc_new (w3.alloc (.cells #[.int .i64 yk, .string ys, .int .i64 ym, .slice ya ykk.length yc] 26)) (.cells #[.int .i64 30, .string ⟨#[]⟩, .int .i64 0, .slice none 0 0] 26))
  have hsz : (w3.alloc (.cells #[.int .i64 yk, .string ys, .int .i64 ym, .slice ya ykk.length yc] 26)).heap.size = w3.heap.size + 1 := by simp
  rw [hsz] at HD
  clear H2 K3 hsz
  simp only [A.val]
  by_cases ht : tk ws st2 ⟨#[101, 108, 115, 101]⟩ = true
  · have CE := mkHid (fun w h => sTake_yes rb a cap ws st2 ⟨#[101, 108, 115, 101]⟩ (by decide) w h ht)
    have HT0 := mkHid ht
    clear ht
    go_wp2_with fail
    refine (CE.out _ KD.out.g.sd).mono ?_
    rintro e w4 ⟨rfl, r, s⟩
    have K4 := mkHid (KD.out.on s r)
    have D4 := mkHid (s.at HD.out (by have := KD.out.g.rlt; have := KD.out.room; omega))
    clear r s KD HD CE
    have H3 := mkHid (fun w h => HB.out (st2.1 + 1, false) w (by have := sr_cond_pos H_hr.out; have := sr_block_pos H_hr2.out; simp only; omega) h)
    clear HB
    go_wp2_with fail
    refine (H3.out _ K4.out.g.sd).mono ?_
    rintro e w5 ⟨z, st3, rfl, hsz, hnz, r, s, hr3⟩
    obtain ⟨zk, zs, zm, za, zc, zkk⟩ := z
    have K5 := K4.out.on s r
    have lx := SitsL.lt K4.out.sits
    have lz := fun q hq => hnz.2 q hq
    have hdl : w3.heap.size + 1 < w4.heap.size := (Array.getElem?_eq_some_iff.1 D4.out).1
    have h23 := (K4.out.here (w2.heap.size, (A.node xk xs xm xa xc xkk)) (by simp)).1
    have D5 := s.at D4.out (by have := K4.out.g.rlt; have := K4.out.room; omega)
    have hq2 : w2.heap.size < w3.heap.size := HZ23.out
    have hx5 := (K5.here (w2.heap.size, (A.node xk xs xm xa xc xkk)) (by simp)).2
    have hy5 := (K5.here (w3.heap.size, (A.node yk ys ym ya yc ykk)) (by simp)).2
    have hrm := K5.room
    have h0 := K4.out.room
    have hw3 : w.heap.size + 1 < w3.heap.size := (K4.out.here (w3.heap.size, (A.node yk ys ym ya yc ykk)) (by simp)).1
    have ho : w3.heap.size + 1 ∉ feet [(A.node xk xs xm xa xc xkk), (A.node yk ys ym ya yc ykk)] := fun q => by have := HF.out _ q; omega
    have HK := K5.put (r := w3.heap.size + 1) (by omega) (fun q hq => by simp at hq; rcases hq with rfl | rfl <;> simp only <;> omega) ho (.int .i64 zk) (.string zs) (.int .i64 zm) (.slice za zkk.length zc)
    have HN := mkHid (NewL.snoc K4.out.new lx hnz h0)
    have HT := mkHid (made_row (w0 := put4 (put4 w5 (w3.heap.size + 1) (.int .i64 zk) (.string zs) (.int .i64 zm) (.slice za zkk.length zc)) w.heap.size (.int .i64 24) (.string ⟨#[]⟩) (.int .i64 0) (.slice (some ⟨w5.heap.size, 0, none⟩) 3 3)) (b := w5.heap.size) (n := w.heap.size + 2) (k := 24) (m := 0) (s := ⟨#[]⟩) (c := 3) (xs := [(A.node xk xs xm xa xc xkk), (A.node yk ys ym ya yc ykk), (A.node zk zs zm za zc zkk)]) (cells3 _ _ _ _ _ _ _ _ _ _ _ _ _ _ _ _ _ _) (by rw [put4_size, put4_size]) (put_sits (sitsL_snoc (xs := [(A.node xk xs xm xa xc xkk), (A.node yk ys ym ya yc ykk)]) HK.sits (Sits.stay _ (fun q hq => put4_other _ _ _ _ (by have := hnz.2 q hq; omega)) hsz)) HN.out (by omega) _ _ _ _) HN.out hrm (by decide) (by simp [maxLen]))
    have HQ := mkHid ((Lib.alloc_old (put4 (put4 w5 (w3.heap.size + 1) (.int .i64 zk) (.string zs) (.int .i64 zm) (.slice za zkk.length zc)) w.heap.size (.int .i64 24) (.string ⟨#[]⟩) (.int .i64 0) (.slice (some ⟨w5.heap.size, 0, none⟩) 3 3)) (.cells #[.int .i64 xk, .string xs, .int .i64 xm, .slice xa xkk.length xc, .int .i64 yk, .string ys, .int .i64 ym, .slice ya ykk.length yc, .int .i64 zk, .string zs, .int .i64 zm, .slice za zkk.length zc] 26) w.heap.size (by rw [put4_size, put4_size]; omega)).trans (put4_at HK.g.res (.int .i64 24) (.string ⟨#[]⟩) (.int .i64 0) (.slice (some ⟨w5.heap.size, 0, none⟩) 3 3)))
    have HSD := mkHid ((put4_sd HK.g.sd hrb (.int .i64 24) (.string ⟨#[]⟩) (.int .i64 0) (.slice (some ⟨w5.heap.size, 0, none⟩) 3 3)).alloc (.cells #[.int .i64 xk, .string xs, .int .i64 xm, .slice xa xkk.length xc, .int .i64 yk, .string ys, .int .i64 ym, .slice ya ykk.length yc, .int .i64 zk, .string zs, .int .i64 zm, .slice za zkk.length zc] 26))
    have HST := mkHid ((put4_step HK.g.step (Nat.le_refl _) (.int .i64 24) (.string ⟨#[]⟩) (.int .i64 0) (.slice (some ⟨w5.heap.size, 0, none⟩) 3 3)).alloc (.cells #[.int .i64 xk, .string xs, .int .i64 xm, .slice xa xkk.length xc, .int .i64 yk, .string ys, .int .i64 ym, .slice ya ykk.length yc, .int .i64 zk, .string zs, .int .i64 zm, .slice za zkk.length zc] 26))
    obtain ⟨x0, x1, x2, x3, _⟩ := four_of (show w5.heap[w2.heap.size]? = some (.cells #[.int .i64 xk, .string xs, .int .i64 xm, .slice xa xkk.length xc] 26 (0, 0)) from hx5)
    obtain ⟨y0, y1, y2, y3, _⟩ := four_of (show w5.heap[w3.heap.size]? = some (.cells #[.int .i64 yk, .string ys, .int .i64 ym, .slice ya ykk.length yc] 26 (0, 0)) from hy5)
    obtain ⟨e0, e1, e2, e3, g0, g1, g2, g3⟩ := four_of D5
    obtain ⟨c0, c1, c2, c3, f0, f1, f2, f3⟩ := four_of K5.g.res
    have ne1 : ¬ (w3.heap.size + 1 = w2.heap.size) := by omega
    have ne2 : ¬ (w2.heap.size = w3.heap.size + 1) := by omega
    have ne3 : ¬ (w3.heap.size + 1 = w.heap.size) := by omega
    have ne4 : ¬ (w.heap.size = w3.heap.size + 1) := by omega
    have zx : w2.heap.size < w5.heap.size := (Array.getElem?_eq_some_iff.1 hx5).1
    have zy : w3.heap.size < w5.heap.size := (Array.getElem?_eq_some_iff.1 hy5).1
    have zd : w3.heap.size + 1 < w5.heap.size := (Array.getElem?_eq_some_iff.1 D5).1
    have zp : w.heap.size < w5.heap.size := by omega
    have H_hr3 := mkHid hr3
    clear HK K5 lx lz hx5 hy5 D5 ho hsz hnz r s hr3 K4 D4 H3 HN hdl h23 hq2 hrm h0 hw3
    simp only [A.val]
    go_wp2
    obtain ⟨q0, q1, q2, q3, _⟩ := four_of HQ.out
    exact bodyPost_ret (v := (A.node 24 ⟨#[]⟩ 0 (some ⟨w5.heap.size, 0, none⟩) 3 [(A.node xk xs xm xa xc xkk), (A.node yk ys ym ya yc ykk), (A.node zk zs zm za zc zkk)]).val) (by simp [results, Tryz.results139, go_sem, q0, q1, q2, q3, A.val]) rfl (sp_any _ HSD.out HST.out HT.out (by omega) (by rw [erase3]; exact sr_else H1.out H_hr.out H_hr2.out HT0.out H_hr3.out))
  · simp only [Bool.not_eq_true] at ht
    have CE := mkHid (fun w h => sTake_no rb a cap ws st2 ⟨#[101, 108, 115, 101]⟩ (by decide) w h ht)
    have HT0 := mkHid ht
    clear ht HB
    go_wp2_with fail
    refine (CE.out _ KD.out.g.sd).mono ?_
    rintro e w4 ⟨rfl, r, s⟩
    have K4 := KD.out.on s r
    have D4 := s.at HD.out (by have := KD.out.g.rlt; have := KD.out.room; omega)
    have hx4 := (K4.here (w2.heap.size, (A.node xk xs xm xa xc xkk)) (by simp)).2
    have hy4 := (K4.here (w3.heap.size, (A.node yk ys ym ya yc ykk)) (by simp)).2
    have HN := mkHid (NewL.snoc K4.new (SitsL.lt K4.sits) (New.leaf w4.heap.size 30 0 ⟨#[]⟩ none 0) K4.room)
    have HT := mkHid (made_row (cs := #[.int .i64 xk, .string xs, .int .i64 xm, .slice xa xkk.length xc, .int .i64 yk, .string ys, .int .i64 ym, .slice ya ykk.length yc, .int .i64 30, .string ⟨#[]⟩, .int .i64 0, .slice none 0 0]) (w0 := put4 w4 w.heap.size (.int .i64 24) (.string ⟨#[]⟩) (.int .i64 0) (.slice (some ⟨w4.heap.size, 0, none⟩) 3 3)) (b := w4.heap.size) (n := w.heap.size + 2) (k := 24) (m := 0) (s := ⟨#[]⟩) (c := 3) (xs := [(A.node xk xs xm xa xc xkk), (A.node yk ys ym ya yc ykk), (A.node 30 ⟨#[]⟩ 0 none 0 [])]) rfl (by rw [put4_size]) (put_sits (sitsL_snoc (xs := [(A.node xk xs xm xa xc xkk), (A.node yk ys ym ya yc ykk)]) K4.sits (Sits.leaf _ _ _ (by decide))) HN.out (by omega) _ _ _ _) HN.out K4.room (by decide) (by simp [maxLen]))
    have HQ := mkHid ((Lib.alloc_old (put4 w4 w.heap.size (.int .i64 24) (.string ⟨#[]⟩) (.int .i64 0) (.slice (some ⟨w4.heap.size, 0, none⟩) 3 3)) (.cells #[.int .i64 xk, .string xs, .int .i64 xm, .slice xa xkk.length xc, .int .i64 yk, .string ys, .int .i64 ym, .slice ya ykk.length yc, .int .i64 30, .string ⟨#[]⟩, .int .i64 0, .slice none 0 0] 26) w.heap.size (by rw [put4_size]; have := K4.room; omega)).trans (put4_at K4.g.res (.int .i64 24) (.string ⟨#[]⟩) (.int .i64 0) (.slice (some ⟨w4.heap.size, 0, none⟩) 3 3)))
    have HSD := mkHid ((put4_sd K4.g.sd hrb (.int .i64 24) (.string ⟨#[]⟩) (.int .i64 0) (.slice (some ⟨w4.heap.size, 0, none⟩) 3 3)).alloc (.cells #[.int .i64 xk, .string xs, .int .i64 xm, .slice xa xkk.length xc, .int .i64 yk, .string ys, .int .i64 ym, .slice ya ykk.length yc, .int .i64 30, .string ⟨#[]⟩, .int .i64 0, .slice none 0 0] 26))
    have HST := mkHid ((put4_step K4.g.step (Nat.le_refl _) (.int .i64 24) (.string ⟨#[]⟩) (.int .i64 0) (.slice (some ⟨w4.heap.size, 0, none⟩) 3 3)).alloc (.cells #[.int .i64 xk, .string xs, .int .i64 xm, .slice xa xkk.length xc, .int .i64 yk, .string ys, .int .i64 ym, .slice ya ykk.length yc, .int .i64 30, .string ⟨#[]⟩, .int .i64 0, .slice none 0 0] 26))
    obtain ⟨x0, x1, x2, x3, _⟩ := four_of (show w4.heap[w2.heap.size]? = some (.cells #[.int .i64 xk, .string xs, .int .i64 xm, .slice xa xkk.length xc] 26 (0, 0)) from hx4)
    obtain ⟨y0, y1, y2, y3, _⟩ := four_of (show w4.heap[w3.heap.size]? = some (.cells #[.int .i64 yk, .string ys, .int .i64 ym, .slice ya ykk.length yc] 26 (0, 0)) from hy4)
    obtain ⟨e0, e1, e2, e3, _⟩ := four_of D4
    obtain ⟨c0, c1, c2, c3, f0, f1, f2, f3⟩ := four_of K4.g.res
    have zp : w.heap.size < w4.heap.size := by have := K4.room; omega
    clear K4 hx4 hy4 D4 r s KD HD CE HN HZ23 HF
    go_wp2
    obtain ⟨q0, q1, q2, q3, _⟩ := four_of HQ.out
    exact bodyPost_ret (v := (A.node 24 ⟨#[]⟩ 0 (some ⟨w4.heap.size, 0, none⟩) 3 [(A.node xk xs xm xa xc xkk), (A.node yk ys ym ya yc ykk), (A.node 30 ⟨#[]⟩ 0 none 0 [])]).val) (by simp [results, Tryz.results139, go_sem, q0, q1, q2, q3, A.val]) rfl (sp_any _ HSD.out HST.out HT.out (by omega) (by rw [erase3, erase0]; exact sr_noelse H1.out H_hr.out H_hr2.out HT0.out))
end Go.Proofs.YthccohemcagkcaaGreatDoor
