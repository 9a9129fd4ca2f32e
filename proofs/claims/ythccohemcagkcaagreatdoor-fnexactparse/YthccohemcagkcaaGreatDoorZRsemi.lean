/-
  CONTRACT of the program's reader's stmt: a short statement and its sign.
-/
import Derived.Test.YthccohemcagkcaaGreatDoorZRput
import Derived.Deep.RegionLaw
import Derived.Deep.AppendLies
namespace Go.Proofs.YthccohemcagkcaaGreatDoor
open Go.RowKit
open Pl

set_option maxRecDepth 100000 in
set_option maxHeartbeats 8000000 in
theorem stmt_short {rb : Nat} {a : Option Addr} {cap : Nat} {ws : List W3} {sz F f : Nat} (hS : IShort rb a cap ws sz F) (i : Nat) (w : World) (h : Rd w rb a cap ws i sz) (n0 : isW ws i ⟨#[105, 102]⟩ = false) (n1 : isW ws i ⟨#[119, 104, 105, 108, 101]⟩ = false) (n2 : isW ws i ⟨#[102, 111, 114]⟩ = false) :
    Calls Tryz.prog 80 #[.pointer (some ⟨rb, 0, none⟩)] w (Post rb a cap ws sz w (mStmt ws F (f + 1) i)) := by
  rw [show mStmt ws F (f + 1) i = (mShort ws F i).then_ (fun x j => want ws j ⟨#[59]⟩ (.ok x (j + 1))) by simp only [mStmt]; rw [if_neg (by rw [n0]; decide), if_neg (by rw [n1]; decide), if_neg (by rw [n2]; decide)]]
  have HA := mkHid h
  have hrb := h.lt
  have hO1 := fun w h => hS i w h
  generalize mShort ws F i = r at hO1 ⊢
  have H1 := mkHid hO1
  generalize hR : r.then_ (fun x j => want ws j ⟨#[59]⟩ (.ok x (j + 1))) = R
  have HR := mkHid hR
  clear hR hO1 hS
  have C0 := mkHid (fun w h => has_no rb a cap ws i sz ⟨#[105, 102]⟩ w h n0)
  have C1 := mkHid (fun w h => has_no rb a cap ws i sz ⟨#[119, 104, 105, 108, 101]⟩ w h n1)
  have C2 := mkHid (fun w h => has_no rb a cap ws i sz ⟨#[102, 111, 114]⟩ w h n2)
  clear h n0 n1 n2
  go_enter Tryz.func80, Tryz.ntmps80
  go_wp2_with fail
  refine (C0.out _ (HA.out.alloc _)).mono ?_
  rintro e w1 ⟨rfl, r, s⟩
  have R1 := mkHid r
  have S1 := mkHid (((Step.refl rb w).alloc _).trans s)
  have P1 := mkHid (s.at (heap_alloc_new w _) (by omega))
  clear r s
  go_wp2_with fail
  refine (C1.out _ R1.out).mono ?_
  rintro e w2 ⟨rfl, r, s⟩
  have R2 := mkHid r
  have S2 := mkHid (S1.out.trans s)
  have P2 := mkHid (s.at P1.out (by omega))
  clear r s
  go_wp2_with fail
  refine (C2.out _ R2.out).mono ?_
  rintro e w3 ⟨rfl, r, s⟩
  have R3 := mkHid r
  have S3 := mkHid (S2.out.trans s)
  have P3 := mkHid (s.at P2.out (by omega))
  clear r s
  go_wp2_with fail
  refine (H1.out _ R3.out).mono ?_
  intro e w4 hp
  cases r with
  | no p =>
    obtain ⟨⟨m, rfl⟩, r2, s2⟩ := hp
    exact ⟨rfl, by rw [← HR.out]; exact ⟨⟨m, rfl⟩, r2, S3.out.trans s2⟩⟩
  | ok t j =>
    obtain ⟨x, rfl, ht, hsx, hnx, r, s⟩ := hp
    have R4 := mkHid r
    have S4 := mkHid (S3.out.trans s)
    have P4 := mkHid (s.at P3.out (by omega))
    clear r s
    have z2 : w.heap.size < w3.heap.size := (Array.getElem?_eq_some_iff.1 P3.out).1
    have z3 : w.heap.size < w4.heap.size := (Array.getElem?_eq_some_iff.1 P4.out).1
    have hsx' := ((Step.refl rb w4).alloc (.cells x.cells.toArray 26)).sits hsx (fun q hq => by have := hnx.2 q hq; have := R3.out.lt; omega)
    obtain ⟨xk, xs, xm, xa, xc, xkk⟩ := x
    simp only [A.cells] at hsx'
    have HS := mkHid hsx'
    have HN := mkHid hnx
    have HT := mkHid ht
    clear hsx' hsx hnx ht
    simp only [A.val]
    by_cases hw : isW ws j ⟨#[59]⟩ = true
    · have HQ := mkHid (fun w h => take_yes rb a cap ws j sz ⟨#[59]⟩ w h hw)
      have HM : Hid (R = .ok t (j + 1)) := by
        show _ = _
        rw [← HR.out]
        simp only [Res.then_, want]
        rw [if_pos hw]
      clear hw HR
      go_wp2_with fail
      refine (HQ.out _ (R4.out.alloc _)).mono ?_
      rintro e w5 ⟨rfl, r, s⟩
      have P5 := mkHid (s.at ((Lib.alloc_old w4 _ _ z3).trans P4.out) (by omega))
      have L5 := s.at (heap_alloc_new w4 _) (by have := R4.out.lt; omega)
      have HS5 := mkHid (s.sits HS.out (fun q hq => by have := HN.out.2 q hq; have := R3.out.lt; omega))
      have S5 := mkHid ((S4.out.alloc _).trans s)
      have R5 := mkHid r
      clear r s
      obtain ⟨d0, d1, d2, d3, _⟩ := four_of L5
      obtain ⟨c0, c1, c2, c3, f0, f1, f2, f3⟩ := four_of P5.out
      clear L5
      go_wp2
      obtain ⟨q0, q1, q2, q3⟩ := put4_cells0 P5.out (.int .i64 xk) (.string xs) (.int .i64 xm) (.slice xa xkk.length xc)
      exact bodyPost_ret (v := (A.node xk xs xm xa xc xkk).val) (by simp [results, Tryz.results80, go_sem, q0, q1, q2, q3, A.val]) rfl (by rw [HM.out]; exact end_tree _ _ _ _ _ R5.out hrb S5.out HT.out HS5.out HN.out z2)
    · have HQ := mkHid (fun w h => take_no rb a cap ws j sz ⟨#[59]⟩ w h (by simpa using hw))
      have HM : Hid (R = .no j) := by
        show _ = _
        rw [← HR.out]
        simp only [Res.then_, want]
        rw [if_neg hw]
      clear hw HR
      go_wp2_with fail
      refine (HQ.out _ (R4.out.alloc _)).mono ?_
      rintro e w5 ⟨⟨m, rfl⟩, r, s⟩
      exact ⟨rfl, by rw [HM.out]; exact ⟨⟨m, rfl⟩, r, (S4.out.alloc _).trans s⟩⟩
end Go.Proofs.YthccohemcagkcaaGreatDoor
