/-
  CONTRACT of the specification's reader's one: numbers.
-/
import Derived.Test.YthccohemcagkcaaGreatDoorZSone
import Derived.Deep.RegionHeld3
namespace Go.Proofs.YthccohemcagkcaaGreatDoor
open Go.RowKit
open Pl

set_option maxRecDepth 100000 in
set_option maxHeartbeats 4000000 in
theorem sone_num {rb : Nat} {a : Option Addr} {cap : Nat} {ws : List W3} {f : Nat} (he : Env ws) (i : Nat) (w : World) (h : Sd w rb a cap ws (i, false)) (n0 : isW ws i ⟨#[45]⟩ = false) (h1 : kindW ws i = 2) :
    Calls Tryz.prog 169 #[.pointer (some ⟨rb, 0, none⟩)] w (SPost rb a cap ws w (mOne ws (f + 1) i) (i, false)) := by
  obtain ⟨_, _, cb, _, _⟩ := h.cells
  simp only at cb
  have hil := kindW_lt h1 (by decide)
  have hfew := he.few
  have HSR := mkHid (sr_num (f := f) he.ok h1)
  have hns := num_short (word_num he.ok h1)
  have n2 : (kindW ws i == 2) = true := by rw [h1]; rfl
  have HNB := mkHid (word_num he.ok h1)
  obtain ⟨x, hx⟩ : ∃ x, ws[i]? = some x := ⟨_, List.getElem?_eq_getElem hil⟩
  have HX := mkHid hx
  have HTX := mkHid (show textW ws i = x.s by unfold textW; rw [hx])
  have HA := mkHid h
  have hrb := h.lt
  have C0 := mkHid (fun w h => sTake_no rb a cap ws (i, false) ⟨#[45]⟩ (by decide) w h (by rw [tk_good]; exact n0))
  have C1 := mkHid (fun w h => sKind_st rb a cap ws (i, false) w h)
  clear h h1 n0 he hx
  go_enter Tryz.func169, Tryz.ntmps169
  go_wp2_with fail
  refine (C0.out _ (HA.out.alloc _)).mono ?_
  rintro e w1 ⟨rfl, r, s⟩
  have R1 := mkHid r
  have S1 := mkHid (((Step.refl rb w).alloc _).trans s)
  have P1 := mkHid (s.at (heap_alloc_new w _) (by omega))
  clear r s
  go_wp2_with fail
  refine (C1.out _ R1.out).mono ?_
  rintro e w2 ⟨rfl, r, s⟩
  have R2 := mkHid r
  have S2 := mkHid (S1.out.trans s)
  have P2 := mkHid (s.at P1.out (by omega))
  clear r s
  obtain ⟨x0, x1, _, x3, _⟩ := R2.out.cells
  simp only at x1
  have h3 := R2.out.next (i + 1)
  have S3 := S2.out.setCell (p := ⟨rb, 1, none⟩) (.inr rfl) (.int .i64 ((i + 1 : Nat) : Int))
  have P3 : (w2.setCell ⟨rb, 1, none⟩ (.int .i64 ((i + 1 : Nat) : Int))).heap[w.heap.size]? = _ := (Below.heap_setCell w2 ⟨rb, 1, none⟩ _ _ (by show w.heap.size ≠ rb; omega)).trans P2.out
  have hcast : ((i + 1 : Nat) : Int) = (i : Int) + 1 := by omega
  rw [hcast] at h3 S3 P3
  go_wp2
  generalize w2.setCell ⟨rb, 1, none⟩ (.int .i64 ((i : Int) + 1)) = W at h3 S3 P3 ⊢
  obtain ⟨e0, e1, _, _⟩ := h3.cells
  simp only at e1
  push_cast at e1
  obtain ⟨g, hg, _, d1, _⟩ := h3.word HX.out
  subst hg
  obtain ⟨c0, c1, c2, c3, f0, f1, f2, f3⟩ := four_of P3
  have hgr : g < rb := by
    rcases h3.wds with h | ⟨g1, h1, h2, _⟩
    · rw [h] at hil; simp at hil
    · simp at h1; omega
  have hrW := h3.lt
  have HP3 := mkHid P3
  have R3 := mkHid h3
  have HS3 := mkHid S3
  have i0 : (0 : Int) ≤ (i : Int) := by omega
  have i1 : (i : Int) < (ws.length : Int) := by omega
  obtain ⟨z, hz⟩ : ∃ z : Int, (i : Int) + 1 = z := ⟨_, rfl⟩
  have hwr : IntKind.i64.wrap (z - 1) = (i : Int) := by rw [← hz, IntKind.wrap_i64]; omega
  rw [hz] at e1
  have HZZ := mkHid hz
  clear hz
  rw [HTX.out] at hns HNB HSR
  clear P3 h3 S3 hcast x0 x1 x3
  go_region_with (first | (go_at_call 97; refine (sNumber_any _ _ (by unfold maxLen; omega)).mono ?_; rintro e w9 ⟨rfl, rfl⟩))
  all_goals
    go_wp2
    obtain ⟨q0, q1, q2, q3⟩ := put4_cells0 (w := W) HP3.out (.int .i64 1) (.string ⟨#[]⟩) (.int .i64 (numV x.s)) (.slice none 0 0)
    exact bodyPost_ret (v := (A.node 1 ⟨#[]⟩ (numV x.s) none 0 []).val) (by simp [results, Tryz.results169, go_sem, q0, q1, q2, q3, A.val]) rfl (sp_leaf 1 (numV x.s) ⟨#[]⟩ R3.out.drew hrb HS3.out.drew (by decide) HSR.out)
end Go.Proofs.YthccohemcagkcaaGreatDoor
