/-
  WHERE A DRAWING STANDS: cursor, the answer's cells, what has grown. CONTRACT of l02DrawIndex.
  l02DrawExpr at depth 0: once 2, a number or a name.
-/
import Derived.Test.YtjmjmdmnejnlbaaGreatDoorMDx
namespace Go.Proofs.YtjmjmdmnejnlbaaGreatDoor
open Go.RowKit
open Pl
theorem dpost_end {w v : World} {cb n cap bud K P : Nat} {a : Option Addr} {x : A} (hC : Cur v cb a n cap bud) (hlt : cb < w.heap.size) (hP : w.heap.size = P) (hx : x.mine v (P + 1)) (hk : cnt x.erase ≤ K) (hg : w.grownBy v (some cb)) (v0 v1 v2 v3 : Value) :
 DPost cb n cap bud K a w (.returned x.val) (put4 v P v0 v1 v2 v3) := ⟨x, rfl, (hx.put4 (by omega) _ _ _ _).mono (by omega), hk, hC.put4 (by omega) _ _ _ _, grown_put4 hg (by omega) _ _ _ _⟩
structure Dat (w v : World) (cb n cap bud P : Nat) (a : Option Addr) : Prop where
 cur : Cur v cb a n cap bud
 res : v.heap[P]? = some (.cells #[.int .i64 0, .string ⟨#[]⟩, .int .i64 0, .slice none 0 0] 26 (0, 0))
 gr : w.grownBy v (some cb)
 hP : w.heap.size = P
 hc : cb < w.heap.size
theorem Dat.start {w : World} {cb n cap bud : Nat} {a : Option Addr} (hC : Cur w cb a n cap bud) : Dat w (w.alloc (.cells #[.int .i64 0, .string ⟨#[]⟩, .int .i64 0, .slice none 0 0] 26)) cb n cap bud w.heap.size a :=
 ⟨hC.alloc _, heap_alloc_new w _, below_grown (below_one w _) _, rfl, hC.lt⟩
theorem Dat.lt {w v : World} {cb n cap bud P : Nat} {a : Option Addr} (h : Dat w v cb n cap bud P a) : P + 1 ≤ v.heap.size := (Array.getElem?_eq_some_iff.1 h.res).1
theorem Dat.next {w v v' : World} {cb n cap bud bud' P : Nat} {a : Option Addr} (h : Dat w v cb n cap bud P a) (hC : Cur v' cb a n cap bud') (hg : v.grownBy v' (some cb)) : Dat w v' cb n cap bud' P a :=
 ⟨hC, (hg.block P h.lt (fun e => by have := h.hc; have := h.hP; cases e; omega)).trans h.res, grown_trans h.gr hg, h.hP, h.hc⟩
theorem Dat.below {w v v' : World} {cb n cap bud P : Nat} {a : Option Addr} (h : Dat w v cb n cap bud P a) (hb : Below v.heap.size v v') : Dat w v' cb n cap bud P a := h.next (h.cur.below hb) (below_grown hb _)
theorem Dat.less {w v : World} {cb n cap bud bud' P : Nat} {a : Option Addr} (h : Dat w v cb n cap bud P a) (hb : bud' ≤ bud) : Dat w v cb n cap bud' P a := ⟨h.cur.less hb, h.res, h.gr, h.hP, h.hc⟩
theorem Dat.drew {w v : World} {cb n cap bud P : Nat} {a : Option Addr} (h : Dat w v cb n cap bud P a) : Dat w v.drew cb n cap bud P a := ⟨h.cur, h.res, ⟨h.gr.os, h.gr.tape, h.gr.output, h.gr.size, h.gr.block⟩, h.hP, h.hc⟩
theorem Dat.fin {w v : World} {cb n cap bud K P : Nat} {a : Option Addr} {x : A} (h : Dat w v cb n cap bud P a) (hx : x.mine v (P + 1)) (hk : cnt x.erase ≤ K) (v0 v1 v2 v3 : Value) : DPost cb n cap bud K a w (.returned x.val) (put4 v P v0 v1 v2 v3) := dpost_end h.cur h.hc h.hP hx hk h.gr _ _ _ _
set_option maxRecDepth 100000 in
set_option maxHeartbeats 8000000 in
theorem sDrawIndex_any (cb n cap bud : Nat) (a : Option Addr) (w : World) (hC : Cur w cb a n cap (bud + 3)) : Calls Tryz.prog 43 #[.pointer (some ⟨cb, 0, none⟩)] w (DPost cb n cap bud 3 a w) := by
 have HA := mkHid (Dat.start hC)
 obtain ⟨w1, hw1⟩ : ∃ q, w.alloc (.cells #[.int .i64 0, .string ⟨#[]⟩, .int .i64 0, .slice none 0 0] 26) = q := ⟨_, rfl⟩
 obtain ⟨P, hP⟩ : ∃ q, w.heap.size = q := ⟨_, rfl⟩
 rw [hw1, hP] at HA
 clear hC
 go_enter Tryz.func43, Tryz.ntmps43
 go_wp2_with fail
 first | rw [hw1] | skip
 first | rw [hP] | skip
 clear hw1
 have HPS := mkHid hP
 clear hP
 refine (pick_any 6 cb n cap (bud + 2) a _ (by omega) HA.out.cur).mono ?_
 rintro e w2 ⟨r, rfl, r0, r1, hC2, hG2⟩
 have HB := mkHid (HA.out.next hC2 hG2)
 clear hC2 hG2 HA
 by_cases c0 : r = 0
 ·subst c0
  go_wp2_with fail
  refine (pick_any 5 cb n cap (bud + 1) a _ (by omega) HB.out.cur).mono ?_
  rintro e w3 ⟨q, rfl, q0, q1, hC3, hG3⟩
  have HD := mkHid (HB.out.next hC3 hG3)
  clear hC3 hG3 HB
  go_wp2_with fail
  refine (sNum_any q _ q0).mono ?_
  rintro e w4 ⟨rfl, hb4⟩
  have HE := mkHid (HD.out.below hb4)
  clear hb4 HD
  have q2 : q ≤ 5 := by omega
  simp only [A.val]
  obtain ⟨d0, d1, d2, d3, e0, e1, e2, e3⟩ := four_of HE.out.res
  go_wp2
  obtain ⟨q0, q1, q2, q3⟩ := put4_cells0 HE.out.res (.int .i64 1) (.string ⟨#[]⟩) (.int .i64 q) (.slice none 0 0)
  exact bodyPost_ret (v := (A.node 1 ⟨#[]⟩ q none 0 []).val) (by simp [results, Tryz.results43, go_sem, q0, q1, q2, q3, A.val]) rfl ((HE.out.less (by omega)).fin (leaf_mine _ _ (by decide)) (by simp [A.erase, erases, cnt, cnts] <;> omega) _ _ _ _)
 ·by_cases c1 : r = 1
  ·subst c1
   go_wp2_with fail
   refine (sDrawVar_any cb n cap bud a _ HB.out.cur).mono ?_
   rintro e w3 ⟨s, rfl, hs, hC3, hG3⟩
   have HD := mkHid (HB.out.next hC3 hG3)
   clear hC3 hG3 HB
   go_wp2_with fail
   refine (sVar_any s _).mono ?_
   rintro e w4 ⟨rfl, hb4⟩
   have HE := mkHid (HD.out.below hb4)
   clear hb4 HD
   simp only [A.val]
   go_wp2_with fail
   refine (sNum_any 1 _ (by omega)).mono ?_
   rintro e w5 ⟨rfl, hb5⟩
   have HF := mkHid (HE.out.below hb5)
   clear hb5 HE
   simp only [A.val]
   go_wp2_with fail
   refine (two_mine 7 (.node 2 s 0 none 0 []) (.node 1 ⟨#[]⟩ 1 none 0 []) _ (P + 1) (P + 1) (leaf_mine _ _ (by unfold maxLen; omega)) (leaf_foot _ _ _ _) (leaf_mine _ _ (by decide)) (Nat.le_refl _) HF.out.lt).mono ?_
   rintro e w6 ⟨b, c, rfl, hm, hb6⟩
   have HG := mkHid (HF.out.below hb6)
   clear hb6 HF
   simp only [A.val]
   obtain ⟨d0, d1, d2, d3, e0, e1, e2, e3⟩ := four_of HG.out.res
   go_wp2
   obtain ⟨q0, q1, q2, q3⟩ := put4_cells0 HG.out.res (.int .i64 7) (.string ⟨#[]⟩) (.int .i64 0) (.slice (some ⟨b, 0, none⟩) 2 c)
   exact bodyPost_ret (v := (A.node 7 ⟨#[]⟩ 0 (some ⟨b, 0, none⟩) c [(.node 2 s 0 none 0 []), .node 1 ⟨#[]⟩ 1 none 0 []]).val) (by simp [results, Tryz.results43, go_sem, q0, q1, q2, q3, A.val]) rfl ((HG.out.less (by omega)).fin hm (by simp [A.erase, erases, cnt, cnts] <;> omega) _ _ _ _)
  ·by_cases c2 : r = 2
   ·subst c2
    go_wp2_with fail
    refine (sDrawVar_any cb n cap bud a _ HB.out.cur).mono ?_
    rintro e w3 ⟨s, rfl, hs, hC3, hG3⟩
    have HD := mkHid (HB.out.next hC3 hG3)
    clear hC3 hG3 HB
    go_wp2_with fail
    refine (sVar_any s _).mono ?_
    rintro e w4 ⟨rfl, hb4⟩
    have HE := mkHid (HD.out.below hb4)
    clear hb4 HD
    simp only [A.val]
    go_wp2_with fail
    refine (sNum_any 1 _ (by omega)).mono ?_
    rintro e w5 ⟨rfl, hb5⟩
    have HF := mkHid (HE.out.below hb5)
    clear hb5 HE
    simp only [A.val]
    go_wp2_with fail
    refine (two_mine 6 (.node 2 s 0 none 0 []) (.node 1 ⟨#[]⟩ 1 none 0 []) _ (P + 1) (P + 1) (leaf_mine _ _ (by unfold maxLen; omega)) (leaf_foot _ _ _ _) (leaf_mine _ _ (by decide)) (Nat.le_refl _) HF.out.lt).mono ?_
    rintro e w6 ⟨b, c, rfl, hm, hb6⟩
    have HG := mkHid (HF.out.below hb6)
    clear hb6 HF
    simp only [A.val]
    obtain ⟨d0, d1, d2, d3, e0, e1, e2, e3⟩ := four_of HG.out.res
    go_wp2
    obtain ⟨q0, q1, q2, q3⟩ := put4_cells0 HG.out.res (.int .i64 6) (.string ⟨#[]⟩) (.int .i64 0) (.slice (some ⟨b, 0, none⟩) 2 c)
    exact bodyPost_ret (v := (A.node 6 ⟨#[]⟩ 0 (some ⟨b, 0, none⟩) c [(.node 2 s 0 none 0 []), .node 1 ⟨#[]⟩ 1 none 0 []]).val) (by simp [results, Tryz.results43, go_sem, q0, q1, q2, q3, A.val]) rfl ((HG.out.less (by omega)).fin hm (by simp [A.erase, erases, cnt, cnts] <;> omega) _ _ _ _)
   ·by_cases c3 : r = 3
    ·subst c3
     go_wp2_with fail
     refine (sDrawArr_any cb n cap bud a _ HB.out.cur).mono ?_
     rintro e w3 ⟨s, rfl, hs, hC3, hG3⟩
     have HD := mkHid (HB.out.next hC3 hG3)
     clear hC3 hG3 HB
     have HE := HD
     clear HD
     go_wp2_with fail
     refine (sNum_any 1 _ (by omega)).mono ?_
     rintro e w5 ⟨rfl, hb5⟩
     have HF := mkHid (HE.out.below hb5)
     clear hb5 HE
     simp only [A.val]
     go_wp2_with fail
     refine (two_mine 7 (.node 4 s 0 none 0 []) (.node 1 ⟨#[]⟩ 1 none 0 []) _ (P + 1) (P + 1) (leaf_mine _ _ (by unfold maxLen; omega)) (leaf_foot _ _ _ _) (leaf_mine _ _ (by decide)) (Nat.le_refl _) HF.out.lt).mono ?_
     rintro e w6 ⟨b, c, rfl, hm, hb6⟩
     have HG := mkHid (HF.out.below hb6)
     clear hb6 HF
     simp only [A.val]
     obtain ⟨d0, d1, d2, d3, e0, e1, e2, e3⟩ := four_of HG.out.res
     go_wp2
     obtain ⟨q0, q1, q2, q3⟩ := put4_cells0 HG.out.res (.int .i64 7) (.string ⟨#[]⟩) (.int .i64 0) (.slice (some ⟨b, 0, none⟩) 2 c)
     exact bodyPost_ret (v := (A.node 7 ⟨#[]⟩ 0 (some ⟨b, 0, none⟩) c [(.node 4 s 0 none 0 []), .node 1 ⟨#[]⟩ 1 none 0 []]).val) (by simp [results, Tryz.results43, go_sem, q0, q1, q2, q3, A.val]) rfl ((HG.out.less (by omega)).fin hm (by simp [A.erase, erases, cnt, cnts] <;> omega) _ _ _ _)
    ·have k0 : (r == 0) = false := by simpa using c0
     have k1 : (r == 1) = false := by simpa using c1
     have k2 : (r == 2) = false := by simpa using c2
     have k3 : (r == 3) = false := by simpa using c3
     go_wp2_with fail
     refine (sDrawVar_any cb n cap bud a _ HB.out.cur).mono ?_
     rintro e w3 ⟨s, rfl, hs, hC3, hG3⟩
     have HD := mkHid (HB.out.next hC3 hG3)
     clear hC3 hG3 HB
     go_wp2_with fail
     refine (sVar_any s _).mono ?_
     rintro e w4 ⟨rfl, hb4⟩
     have HE := mkHid (HD.out.below hb4)
     clear hb4 HD
     simp only [A.val]
     obtain ⟨d0, d1, d2, d3, e0, e1, e2, e3⟩ := four_of HE.out.res
     go_wp2
     obtain ⟨q0, q1, q2, q3⟩ := put4_cells0 HE.out.res (.int .i64 2) (.string s) (.int .i64 0) (.slice none 0 0)
     exact bodyPost_ret (v := (A.node 2 s 0 none 0 []).val) (by simp [results, Tryz.results43, go_sem, q0, q1, q2, q3, A.val]) rfl ((HE.out.less (by omega)).fin (leaf_mine _ _ (by unfold maxLen; omega)) (by simp [A.erase, erases, cnt, cnts] <;> omega) _ _ _ _)
end Go.Proofs.YtjmjmdmnejnlbaaGreatDoor
namespace Go.Proofs.YtjmjmdmnejnlbaaGreatDoor
open Go.RowKit
open Pl
def FB : Nat → Nat
 | 0 => 6
 | d + 1 => 2 * FB d + 2
def KB : Nat → Nat
 | 0 => 4
 | d + 1 => 2 * KB d + 1
theorem FB_le : ∀ d, 6 ≤ FB d
 | 0 => Nat.le_refl _
 | d + 1 => by have := FB_le d; unfold FB; omega
theorem KB_le : ∀ d, 4 ≤ KB d
 | 0 => Nat.le_refl _
 | d + 1 => by have := KB_le d; unfold KB; omega
theorem Dat.set {w v : World} {cb n cap bud P Q : Nat} {a : Option Addr} (h : Dat w v cb n cap bud P a) (hQ : P < Q) (i : Nat) (x : Value) : Dat w (v.setCell ⟨Q, i, none⟩ x) cb n cap bud P a := by
 have hcP : cb < P := by have := h.hc; have := h.hP; omega
 refine ⟨?_, (Below.heap_setCell _ _ _ _ (by show P ≠ Q; omega)).trans h.res, ⟨h.gr.os, h.gr.tape, h.gr.output, by simp [World.setCell]; exact h.gr.size, fun k hk hne => (Below.heap_setCell _ _ _ _ (by have := h.hP; show k ≠ Q; omega)).trans (h.gr.block k hk hne)⟩, h.hP, h.hc⟩
 obtain ⟨y, seed, hh, h1, h2, h3, h4, hby⟩ := h.cur
 refine ⟨y, seed, (Below.heap_setCell _ _ _ _ (by show cb ≠ Q; omega)).trans hh, h1, h2, h3, h4, ?_⟩
 rcases hby with hb | ⟨b, off, e, hbl, hc⟩
 ·exact .inl hb
 ·refine .inr ⟨b, off, e, hbl, fun j hj => ?_⟩
  obtain ⟨z, z0, z1, hz⟩ := hc j hj
  exact ⟨z, z0, z1, (World.cell?_of_block (w := v) (Below.heap_setCell _ _ _ _ (by show b ≠ Q; omega))).trans hz⟩
theorem Dat.put4 {w v : World} {cb n cap bud P Q : Nat} {a : Option Addr} (h : Dat w v cb n cap bud P a) (hQ : P < Q) (v0 v1 v2 v3 : Value) : Dat w (put4 v Q v0 v1 v2 v3) cb n cap bud P a := (((h.set hQ 0 v0).set hQ 1 v1).set hQ 2 v2).set hQ 3 v3
theorem mine_drew {w : World} {x : A} {B : Nat} (h : x.mine w B) : x.mine w.drew B := h.grown (row := none) ⟨rfl, rfl, rfl, Nat.le_refl _, fun _ _ _ => rfl⟩ (fun p e => by cases e)
def ExprOkS (d : Nat) : Prop := ∀ (cb n cap bud : Nat) (a : Option Addr) (w : World), Cur w cb a n cap (bud + FB d) → Calls Tryz.prog 14 #[.pointer (some ⟨cb, 0, none⟩), .int .i64 d] w (DPost cb n cap bud (KB d) a w)
set_option maxRecDepth 100000 in
set_option maxHeartbeats 8000000 in
theorem expr_zero : ExprOkS 0 := by
 intro cb n cap bud a w hC
 have hC : Cur w cb a n cap (bud + 6) := hC
 have hd0 : decide (((0 : Nat) : Int) ≤ 0) = true := rfl
 show Calls Tryz.prog 14 #[.pointer (some ⟨cb, 0, none⟩), .int .i64 0] w (DPost cb n cap bud 4 a w)
 have HA := mkHid (Dat.start hC)
 obtain ⟨w1, hw1⟩ : ∃ q, w.alloc (.cells #[.int .i64 0, .string ⟨#[]⟩, .int .i64 0, .slice none 0 0] 26) = q := ⟨_, rfl⟩
 obtain ⟨P, hP⟩ : ∃ q, w.heap.size = q := ⟨_, rfl⟩
 rw [hw1, hP] at HA
 clear hC
 go_enter Tryz.func14, Tryz.ntmps14
 go_wp2_with fail
 first | rw [hw1] | skip
 first | rw [hP] | skip
 clear hw1
 have HPS := mkHid hP
 clear hP
 refine (once_any 2 cb n cap (bud + 5) a _ (by omega) (by omega) HA.out.cur).mono ?_
 rintro e w2 ⟨r, rfl, hC2, hG2⟩
 have HB := mkHid (HA.out.next hC2 hG2)
 clear hC2 hG2 HA
 cases r
 ·go_wp2_with fail
  refine (sDrawVar_any cb n cap (bud + 3) a _ HB.out.cur).mono ?_
  rintro e w3 ⟨s, rfl, hs, hC3, hG3⟩
  have HD := mkHid (HB.out.next hC3 hG3)
  clear hC3 hG3 HB
  go_wp2_with fail
  refine (sVar_any s _).mono ?_
  rintro e w4 ⟨rfl, hb4⟩
  have HE := mkHid (HD.out.below hb4)
  clear hb4 HD
  simp only [A.val]
  obtain ⟨d0, d1, d2, d3, e0, e1, e2, e3⟩ := four_of HE.out.res
  go_wp2
  obtain ⟨q0, q1, q2, q3⟩ := put4_cells0 HE.out.res (.int .i64 2) (.string s) (.int .i64 0) (.slice none 0 0)
  exact bodyPost_ret (v := (A.node 2 s 0 none 0 []).val) (by simp [results, Tryz.results14, go_sem, q0, q1, q2, q3, A.val]) rfl ((HE.out.less (by omega)).fin (leaf_mine _ _ (by unfold maxLen; omega)) (by simp [A.erase, erases, cnt, cnts] <;> omega) _ _ _ _)
 ·go_wp2_with fail
  refine (pick_any 12 cb n cap (bud + 4) a _ (by omega) HB.out.cur).mono ?_
  rintro e w3 ⟨q, rfl, q0, q1, hC3, hG3⟩
  have HD := mkHid (HB.out.next hC3 hG3)
  clear hC3 hG3 HB
  go_wp2_with fail
  refine (sNum_any q _ q0).mono ?_
  rintro e w4 ⟨rfl, hb4⟩
  have HE := mkHid (HD.out.below hb4)
  clear hb4 HD
  simp only [A.val]
  obtain ⟨d0, d1, d2, d3, e0, e1, e2, e3⟩ := four_of HE.out.res
  go_wp2
  obtain ⟨q0, q1, q2, q3⟩ := put4_cells0 HE.out.res (.int .i64 1) (.string ⟨#[]⟩) (.int .i64 q) (.slice none 0 0)
  exact bodyPost_ret (v := (A.node 1 ⟨#[]⟩ q none 0 []).val) (by simp [results, Tryz.results14, go_sem, q0, q1, q2, q3, A.val]) rfl ((HE.out.less (by omega)).fin (leaf_mine _ _ (by decide)) (by simp [A.erase, erases, cnt, cnts] <;> omega) _ _ _ _)
end Go.Proofs.YtjmjmdmnejnlbaaGreatDoor
