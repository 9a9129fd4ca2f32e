/-
  CONTRACT of the specification's reader's one: cells.
-/
import Derived.Test.YthccohemcagkcaaGreatDoorZSone
namespace Go.Proofs.YthccohemcagkcaaGreatDoor
open Go.RowKit
open Pl

set_option maxRecDepth 100000 in
set_option maxHeartbeats 4000000 in
theorem sone_cell {rb : Nat} {a : Option Addr} {cap : Nat} {ws : List W3} {f : Nat} (he : Env ws) (hE : SExpr rb a cap ws f) (i : Nat) (w : World) (hf : 5 * (ws.length - i) + 1 ≤ f + 1) (h : Sd w rb a cap ws (i, false)) (n0 : isW ws i ⟨#[45]⟩ = false) (n1 : isW ws i ⟨#[40]⟩ = false) (n2 : (kindW ws i == 2) = false) (n3 : isW ws i ⟨#[108, 101, 110]⟩ = false) (h1 : kindW ws i = 1) (h2 : isW ws (i + 1) ⟨#[91]⟩ = true) :
    Calls Tryz.prog 169 #[.pointer (some ⟨rb, 0, none⟩)] w (SPost rb a cap ws w (mOne ws (f + 1) i) (i, false)) := by
  obtain ⟨_, _, cb, _, _⟩ := h.cells
  simp only at cb
  have e1 : nmS ws (i, false) = (i + 1, false) := by simp [nmS, nmB, h1]
  have e2 : nmT ws (i, false) = textW ws i := by simp [nmT, nmB, h1]
  have ht := he.text i
  have hlt := isW_lt h2
  have HSR := mkHid (fun x st' h => sr_cell (f := f) (x := x) (st' := st') n0 n1 n3 (by simpa using n2) h1 h2 h)
  have HE := mkHid (fun w h => hE (i + 2, false) w (by simp only; omega) h)
  have HA := mkHid h
  have hrb := h.lt
  have C0 := mkHid (fun w h => sTake_no rb a cap ws (i, false) ⟨#[45]⟩ (by decide) w h (by rw [tk_good]; exact n0))
  have C1 := mkHid (fun w h => sKind_st rb a cap ws (i, false) w h)
  have C2 := mkHid (fun w h => sTake_no rb a cap ws (i, false) ⟨#[40]⟩ (by decide) w h (by rw [tk_good]; exact n1))
  have C3 := mkHid (fun w h => sTake_no rb a cap ws (i, false) ⟨#[108, 101, 110]⟩ (by decide) w h (by rw [tk_good]; exact n3))
  have C4 := mkHid (fun w h => sNm_any rb a cap ws (i, false) w h)
  rw [e1, e2] at C4
  have C5 := mkHid (fun w h => sTake_yes rb a cap ws (i + 1, false) ⟨#[91]⟩ (by decide) w h (by rw [tk_good]; exact h2))
  have C6 := mkHid (fun st' w h => sNeed_any rb a cap ws st' ⟨#[93]⟩ (by decide) w h)
  clear h n0 n1 n3 h1 h2 he hE e1 e2
  go_enter Tryz.func169, Tryz.ntmps169
  go_wp2_with fail
  refine (C0.out _ (HA.out.alloc _)).mono ?_
  rintro e w1 ⟨rfl, r, s⟩
  have R1 := mkHid r
  have S1 := mkHid (((Step.refl rb w).alloc _).trans s)
  have P1 := mkHid (s.at (heap_alloc_new w _) (by omega))
  clear r s
  go_wp2_with fail
  refine (C1.out _ R1.out).mono ?_
  rintro e w2 ⟨rfl, r, s⟩
  have R2 := mkHid r
  have S2 := mkHid (S1.out.trans s)
  have P2 := mkHid (s.at P1.out (by omega))
  clear r s
  go_wp2_with fail
  refine (C2.out _ R2.out).mono ?_
  rintro e w3 ⟨rfl, r, s⟩
  have R3 := mkHid r
  have S3 := mkHid (S2.out.trans s)
  have P3 := mkHid (s.at P2.out (by omega))
  clear r s
  go_wp2_with fail
  refine (C3.out _ R3.out).mono ?_
  rintro e w4 ⟨rfl, r, s⟩
  have R4 := mkHid r
  have S4 := mkHid (S3.out.trans s)
  have P4 := mkHid (s.at P3.out (by omega))
  clear r s
  go_wp2_with fail
  refine (C4.out _ R4.out).mono ?_
  rintro e w5 ⟨rfl, r, s⟩
  have R5 := mkHid r
  have S5 := mkHid (S4.out.trans s)
  have P5 := mkHid (s.at P4.out (by omega))
  clear r s
  go_wp2_with fail
  refine (C5.out _ R5.out).mono ?_
  rintro e w6 ⟨rfl, r, s⟩
  have R6 := mkHid r
  have S6 := mkHid (S5.out.trans s)
  have P6 := mkHid (s.at P5.out (by omega))
  clear r s
  have z6 : w.heap.size < w6.heap.size := (Array.getElem?_eq_some_iff.1 P6.out).1
  go_wp2_with fail
  refine (HE.out _ R6.out).mono ?_
  rintro e w7 ⟨x, st', rfl, hsx, hnx, r, s, hr⟩
  have R7 := mkHid r
  have S7 := mkHid (S6.out.trans s)
  have P7 := mkHid (s.at P6.out (by omega))
  have HS := mkHid hsx
  have HN := mkHid hnx
  have HR := mkHid hr
  have Z := mkHid s.size
  clear r s hsx hnx hr
  obtain ⟨xk, xs, xm, xa, xc, xkk⟩ := x
  simp only [A.val]
  go_wp2_with fail
  refine (one_new 3 (.node xk xs xm xa xc xkk) _).mono ?_
  rintro e w8 ⟨bb, rfl, hB, hge, hb⟩
  have P8 := mkHid ((hb.block _ (Array.getElem?_eq_some_iff.1 P7.out).1).trans P7.out)
  have R8 := mkHid (R7.out.keep (hb.mono R7.out.lt))
  have S8 := mkHid (S7.out.trans (Step.of_below hb))
  obtain ⟨t1, t2⟩ := made (k := 3) (m := 0) (s := textW ws i) (c := 1) (sitsL_one HS.out) hb hB hge (NewL.one HN.out) Z.out ht (by simp [maxLen])
  have HT1 := mkHid t1
  have HT2 := mkHid t2
  have z8 : w.heap.size < w8.heap.size := (Array.getElem?_eq_some_iff.1 P8.out).1
  have g8 : rb < w8.heap.size := R8.out.lt
  clear hB hge hb t1 t2
  simp only [A.val]
  go_wp2_with fail
  refine (C6.out st' _ (R8.out.alloc _)).mono ?_
  rintro e w9 ⟨rfl, r, s⟩
  have P9 := mkHid (s.at ((Lib.alloc_old w8 _ _ z8).trans P8.out) (by omega))
  have L9 : w9.heap[w8.heap.size]? = some (.cells #[.int .i64 3, .string (textW ws i), .int .i64 0, .slice (some ⟨bb, 0, none⟩) 1 1] 26 (0, 0)) := s.at (heap_alloc_new w8 _) (by omega)
  have HS9 := mkHid (s.sits (Sits.stay _ (fun q hq => Lib.alloc_old _ _ _ (Sits.lt _ HT1.out q hq)) HT1.out) (fun q hq => by have := HT2.out.2 q hq; have := R6.out.lt; omega))
  have S9 := mkHid ((S8.out.alloc _).trans s)
  have R9 := mkHid r
  clear r s
  obtain ⟨d0, d1, d2, d3, _⟩ := four_of L9
  obtain ⟨c0, c1, c2, c3, f0, f1, f2, f3⟩ := four_of P9.out
  clear L9
  go_wp2
  obtain ⟨q0, q1, q2, q3⟩ := put4_cells0 P9.out (.int .i64 3) (.string (textW ws i)) (.int .i64 0) (.slice (some ⟨bb, 0, none⟩) 1 1)
  exact bodyPost_ret (v := (A.node 3 (textW ws i) 0 (some ⟨bb, 0, none⟩) 1 [.node xk xs xm xa xc xkk]).val) (by simp [results, Tryz.results169, go_sem, q0, q1, q2, q3, A.val]) rfl (sp_tree _ _ _ _ _ R9.out hrb S9.out HS9.out HT2.out z6 (by rw [erase1]; exact HSR.out _ _ HR.out))
end Go.Proofs.YthccohemcagkcaaGreatDoor
