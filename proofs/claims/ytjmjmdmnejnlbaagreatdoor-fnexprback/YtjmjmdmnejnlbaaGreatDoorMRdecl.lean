/-
  CONTRACT of the program's reader's decl.
-/
import Derived.Test.YtjmjmdmnejnlbaaGreatDoorMRonec
import Derived.Deep.RegionLaw
import Derived.Deep.AppendLies
namespace Go.Proofs.YtjmjmdmnejnlbaaGreatDoor
open Go.RowKit
open Pl

set_option maxRecDepth 100000 in
set_option maxHeartbeats 8000000 in
theorem decl_var {rb : Nat} {a : Option Addr} {cap : Nat} {ws : List W3} {sz : Nat} (he : Env ws) (i : Nat) (w : World) (h : Rd w rb a cap ws i sz) (h1 : isW ws i ⟨#[118, 97, 114]⟩ = true) :
    Calls Tryz.prog 72 #[.pointer (some ⟨rb, 0, none⟩)] w (Post rb a cap ws sz w (mDecl ws i)) := by
 rw [show mDecl ws i = wantK ws (i + 1) 1 (want ws (i + 2) ⟨#[59]⟩ (.ok (.node 31 (textW ws (i + 1)) 0 []) (i + 3))) by unfold mDecl; rw [if_pos h1]]
 have ht := he.text (i + 1)
 by_cases h2 : kindW ws (i + 1) = 1
 ·by_cases h3 : isW ws (i + 2) ⟨#[59]⟩ = true
  ·rw [show wantK ws (i + 1) 1 (want ws (i + 2) ⟨#[59]⟩ (.ok (.node 31 (textW ws (i + 1)) 0 []) (i + 3))) = .ok (.node 31 (textW ws (i + 1)) 0 []) (i + 3) by unfold wantK want; rw [if_pos h2, if_pos h3]]
   have HA := mkHid h
   have hrb := h.lt
   have C0 := mkHid (fun w h => has_yes rb a cap ws i sz ⟨#[118, 97, 114]⟩ w h h1)
   have C1 := mkHid (fun w h => name_yes rb a cap ws (i + 1) sz w h h2)
   have C2 := mkHid (fun w h => take_yes rb a cap ws (i + 2) sz ⟨#[59]⟩ w h h3)
   clear h he h1 h2 h3
   go_enter Tryz.func72, Tryz.ntmps72
   go_wp2_with fail
   refine (C0.out _ (HA.out.alloc _)).mono ?_
   rintro e w1 ⟨rfl, r, s⟩
   have R1 := mkHid r
   have S1 := mkHid (((Step.refl rb w).alloc _).trans s)
   have P1 := mkHid (s.at (heap_alloc_new w _) (by omega))
   clear r s
   go_wp2_with fail
   refine (C1.out _ R1.out).mono ?_
   rintro e w2 ⟨rfl, r, s⟩
   have R2 := mkHid r
   have S2 := mkHid (S1.out.trans s)
   have P2 := mkHid (s.at P1.out (by omega))
   clear r s
   go_wp2_with fail
   refine (C2.out _ (R2.out.alloc _)).mono ?_
   rintro e w3 ⟨rfl, r, s⟩
   have R3 := mkHid r
   have S3 := mkHid ((S2.out.alloc _).trans s)
   have P3 := mkHid (s.at ((Lib.alloc_old w2 _ _ (Array.getElem?_eq_some_iff.1 P2.out).1).trans P2.out) (by omega))
   have L3 := mkHid (s.at (heap_alloc_new w2 _) (by have := R2.out.lt; omega))
   have gl : rb < w2.heap.size := R2.out.lt
   clear r s
   obtain ⟨c0, c1, c2, c3, f0, f1, f2, f3⟩ := four_of P3.out
   obtain ⟨d0, d1, d2, d3, _⟩ := four_of L3.out
   go_wp2
   obtain ⟨q0, q1, q2, q3⟩ := put4_cells0 P3.out (.int .i64 31) (.string (textW ws (i + 1))) (.int .i64 0) (.slice none 0 0)
   exact bodyPost_ret (v := (A.node 31 (textW ws (i + 1)) 0 none 0 []).val) (by simp [results, Tryz.results72, go_sem, q0, q1, q2, q3, A.val]) rfl (end_leaf 31 0 (textW ws (i + 1)) R3.out hrb S3.out ht)
  ·rw [show wantK ws (i + 1) 1 (want ws (i + 2) ⟨#[59]⟩ (.ok (.node 31 (textW ws (i + 1)) 0 []) (i + 3))) = .no (i + 2) by unfold wantK want; rw [if_pos h2, if_neg h3]]
   have HA := mkHid h
   have hrb := h.lt
   have C0 := mkHid (fun w h => has_yes rb a cap ws i sz ⟨#[118, 97, 114]⟩ w h h1)
   have C1 := mkHid (fun w h => name_yes rb a cap ws (i + 1) sz w h h2)
   have C2 := mkHid (fun w h => take_no rb a cap ws (i + 2) sz ⟨#[59]⟩ w h (by simpa using h3))
   clear h he h1 h2 h3
   go_enter Tryz.func72, Tryz.ntmps72
   go_wp2_with fail
   refine (C0.out _ (HA.out.alloc _)).mono ?_
   rintro e w1 ⟨rfl, r, s⟩
   have R1 := mkHid r
   have S1 := mkHid (((Step.refl rb w).alloc _).trans s)
   have P1 := mkHid (s.at (heap_alloc_new w _) (by omega))
   clear r s
   go_wp2_with fail
   refine (C1.out _ R1.out).mono ?_
   rintro e w2 ⟨rfl, r, s⟩
   have R2 := mkHid r
   have S2 := mkHid (S1.out.trans s)
   have P2 := mkHid (s.at P1.out (by omega))
   clear r s
   go_wp2_with fail
   refine (C2.out _ (R2.out.alloc _)).mono ?_
   rintro e w3 ⟨⟨m, rfl⟩, r, s⟩
   exact ⟨rfl, ⟨m, rfl⟩, r, (S2.out.alloc _).trans s⟩
 ·rw [show wantK ws (i + 1) 1 (want ws (i + 2) ⟨#[59]⟩ (.ok (.node 31 (textW ws (i + 1)) 0 []) (i + 3))) = .no (i + 1) by unfold wantK; rw [if_neg h2]]
  have HA := mkHid h
  have hrb := h.lt
  have C0 := mkHid (fun w h => has_yes rb a cap ws i sz ⟨#[118, 97, 114]⟩ w h h1)
  have C1 := mkHid (fun w h => name_no rb a cap ws (i + 1) sz w h h2)
  clear h he h1 h2
  go_enter Tryz.func72, Tryz.ntmps72
  go_wp2_with fail
  refine (C0.out _ (HA.out.alloc _)).mono ?_
  rintro e w1 ⟨rfl, r, s⟩
  have R1 := mkHid r
  have S1 := mkHid (((Step.refl rb w).alloc _).trans s)
  have P1 := mkHid (s.at (heap_alloc_new w _) (by omega))
  clear r s
  go_wp2_with fail
  refine (C1.out _ R1.out).mono ?_
  rintro e w2 ⟨⟨m, rfl⟩, r, s⟩
  exact ⟨rfl, ⟨m, rfl⟩, r, S1.out.trans s⟩
set_option maxRecDepth 100000 in
set_option maxHeartbeats 8000000 in
theorem decl_arr {rb : Nat} {a : Option Addr} {cap : Nat} {ws : List W3} {sz : Nat} (he : Env ws) (i : Nat) (w : World) (h : Rd w rb a cap ws i sz) (n0 : isW ws i ⟨#[118, 97, 114]⟩ = false) :
    Calls Tryz.prog 72 #[.pointer (some ⟨rb, 0, none⟩)] w (Post rb a cap ws sz w (mDecl ws i)) := by
 rw [show mDecl ws i = want ws i ⟨#[97, 114, 114, 97, 121]⟩ (wantK ws (i + 1) 1 (want ws (i + 2) ⟨#[91]⟩ (if isW ws (i + 3) ⟨#[63]⟩ then want ws (i + 4) ⟨#[93]⟩ (want ws (i + 5) ⟨#[59]⟩ (.ok (.node 32 (textW ws (i + 1)) (-1) []) (i + 6))) else wantK ws (i + 3) 2 (want ws (i + 4) ⟨#[93]⟩ (want ws (i + 5) ⟨#[59]⟩ (.ok (.node 32 (textW ws (i + 1)) (numV (textW ws (i + 3))) []) (i + 6))))))) by unfold mDecl; rw [if_neg (by rw [n0]; decide)]]
 have ht := he.text (i + 1)
 by_cases h1 : isW ws i ⟨#[97, 114, 114, 97, 121]⟩ = true
 ·by_cases h2 : kindW ws (i + 1) = 1
  ·by_cases h3 : isW ws (i + 2) ⟨#[91]⟩ = true
   ·by_cases h4 : isW ws (i + 3) ⟨#[63]⟩ = true
    ·by_cases h5 : isW ws (i + 4) ⟨#[93]⟩ = true
     ·by_cases h6 : isW ws (i + 5) ⟨#[59]⟩ = true
      ·rw [show want ws i ⟨#[97, 114, 114, 97, 121]⟩ (wantK ws (i + 1) 1 (want ws (i + 2) ⟨#[91]⟩ (if isW ws (i + 3) ⟨#[63]⟩ then want ws (i + 4) ⟨#[93]⟩ (want ws (i + 5) ⟨#[59]⟩ (.ok (.node 32 (textW ws (i + 1)) (-1) []) (i + 6))) else wantK ws (i + 3) 2 (want ws (i + 4) ⟨#[93]⟩ (want ws (i + 5) ⟨#[59]⟩ (.ok (.node 32 (textW ws (i + 1)) (numV (textW ws (i + 3))) []) (i + 6))))))) = .ok (.node 32 (textW ws (i + 1)) (-1) []) (i + 6) by unfold want wantK; rw [if_pos h1, if_pos h2, if_pos h3, if_pos h4, if_pos h5, if_pos h6]]
       have HA := mkHid h
       have hrb := h.lt
       have C0 := mkHid (fun w h => has_no rb a cap ws i sz ⟨#[118, 97, 114]⟩ w h n0)
       have C1 := mkHid (fun w h => take_yes rb a cap ws i sz ⟨#[97, 114, 114, 97, 121]⟩ w h h1)
       have C2 := mkHid (fun w h => name_yes rb a cap ws (i + 1) sz w h h2)
       have C3 := mkHid (fun w h => take_yes rb a cap ws (i + 2) sz ⟨#[91]⟩ w h h3)
       have C4 := mkHid (fun w h => has_yes rb a cap ws (i + 3) sz ⟨#[63]⟩ w h h4)
       have C5 := mkHid (fun w h => take_yes rb a cap ws (i + 4) sz ⟨#[93]⟩ w h h5)
       have C6 := mkHid (fun w h => take_yes rb a cap ws (i + 5) sz ⟨#[59]⟩ w h h6)
       clear h he n0 h1 h2 h3 h4 h5 h6
       go_enter Tryz.func72, Tryz.ntmps72
       go_wp2_with fail
       refine (C0.out _ (HA.out.alloc _)).mono ?_
       rintro e w1 ⟨rfl, r, s⟩
       have R1 := mkHid r
       have S1 := mkHid (((Step.refl rb w).alloc _).trans s)
       have P1 := mkHid (s.at (heap_alloc_new w _) (by omega))
       clear r s
       go_wp2_with fail
       refine (C1.out _ R1.out).mono ?_
       rintro e w2 ⟨rfl, r, s⟩
       have R2 := mkHid r
       have S2 := mkHid (S1.out.trans s)
       have P2 := mkHid (s.at P1.out (by omega))
       clear r s
       go_wp2_with fail
       refine (C2.out _ R2.out).mono ?_
       rintro e w3 ⟨rfl, r, s⟩
       have R3 := mkHid r
       have S3 := mkHid (S2.out.trans s)
       have P3 := mkHid (s.at P2.out (by omega))
       clear r s
       go_wp2_with fail
       refine (C3.out _ (R3.out.alloc _)).mono ?_
       rintro e w4 ⟨rfl, r, s⟩
       have R4 := mkHid r
       have S4 := mkHid ((S3.out.alloc _).trans s)
       have P4 := mkHid (s.at ((Lib.alloc_old w3 _ _ (Array.getElem?_eq_some_iff.1 P3.out).1).trans P3.out) (by omega))
       have L4 := mkHid (s.at (heap_alloc_new w3 _) (by have := R3.out.lt; omega))
       have gl : rb < w3.heap.size := R3.out.lt
       clear r s
       go_wp2_with fail
       refine (C4.out _ R4.out).mono ?_
       rintro e w5 ⟨rfl, r, s⟩
       have R5 := mkHid r
       have S5 := mkHid (S4.out.trans s)
       have P5 := mkHid (s.at P4.out (by omega))
       have L5 := mkHid (s.at L4.out (by omega))
       clear r s
       go_wp2_with fail
       refine (C5.out _ R5.out).mono ?_
       rintro e w6 ⟨rfl, r, s⟩
       have R6 := mkHid r
       have S6 := mkHid (S5.out.trans s)
       have P6 := mkHid (s.at P5.out (by omega))
       have L6 := mkHid (s.at L5.out (by omega))
       clear r s
       go_wp2_with fail
       refine (C6.out _ R6.out).mono ?_
       rintro e w7 ⟨rfl, r, s⟩
       have R7 := mkHid r
       have S7 := mkHid (S6.out.trans s)
       have P7 := mkHid (s.at P6.out (by omega))
       have L7 := mkHid (s.at L6.out (by omega))
       clear r s
       obtain ⟨c0, c1, c2, c3, f0, f1, f2, f3⟩ := four_of P7.out
       obtain ⟨d0, d1, d2, d3, _⟩ := four_of L7.out
       go_wp2
       obtain ⟨q0, q1, q2, q3⟩ := put4_cells0 P7.out (.int .i64 32) (.string (textW ws (i + 1))) (.int .i64 (-1)) (.slice none 0 0)
       exact bodyPost_ret (v := (A.node 32 (textW ws (i + 1)) (-1) none 0 []).val) (by simp [results, Tryz.results72, go_sem, q0, q1, q2, q3, A.val]) rfl (end_leaf 32 (-1) (textW ws (i + 1)) R7.out hrb S7.out ht)
      ·rw [show want ws i ⟨#[97, 114, 114, 97, 121]⟩ (wantK ws (i + 1) 1 (want ws (i + 2) ⟨#[91]⟩ (if isW ws (i + 3) ⟨#[63]⟩ then want ws (i + 4) ⟨#[93]⟩ (want ws (i + 5) ⟨#[59]⟩ (.ok (.node 32 (textW ws (i + 1)) (-1) []) (i + 6))) else wantK ws (i + 3) 2 (want ws (i + 4) ⟨#[93]⟩ (want ws (i + 5) ⟨#[59]⟩ (.ok (.node 32 (textW ws (i + 1)) (numV (textW ws (i + 3))) []) (i + 6))))))) = .no (i + 5) by unfold want wantK; rw [if_pos h1, if_pos h2, if_pos h3, if_pos h4, if_pos h5, if_neg h6]]
       have HA := mkHid h
       have hrb := h.lt
       have C0 := mkHid (fun w h => has_no rb a cap ws i sz ⟨#[118, 97, 114]⟩ w h n0)
       have C1 := mkHid (fun w h => take_yes rb a cap ws i sz ⟨#[97, 114, 114, 97, 121]⟩ w h h1)
       have C2 := mkHid (fun w h => name_yes rb a cap ws (i + 1) sz w h h2)
       have C3 := mkHid (fun w h => take_yes rb a cap ws (i + 2) sz ⟨#[91]⟩ w h h3)
       have C4 := mkHid (fun w h => has_yes rb a cap ws (i + 3) sz ⟨#[63]⟩ w h h4)
       have C5 := mkHid (fun w h => take_yes rb a cap ws (i + 4) sz ⟨#[93]⟩ w h h5)
       have C6 := mkHid (fun w h => take_no rb a cap ws (i + 5) sz ⟨#[59]⟩ w h (by simpa using h6))
       clear h he n0 h1 h2 h3 h4 h5 h6
       go_enter Tryz.func72, Tryz.ntmps72
       go_wp2_with fail
       refine (C0.out _ (HA.out.alloc _)).mono ?_
       rintro e w1 ⟨rfl, r, s⟩
       have R1 := mkHid r
       have S1 := mkHid (((Step.refl rb w).alloc _).trans s)
       have P1 := mkHid (s.at (heap_alloc_new w _) (by omega))
       clear r s
       go_wp2_with fail
       refine (C1.out _ R1.out).mono ?_
       rintro e w2 ⟨rfl, r, s⟩
       have R2 := mkHid r
       have S2 := mkHid (S1.out.trans s)
       have P2 := mkHid (s.at P1.out (by omega))
       clear r s
       go_wp2_with fail
       refine (C2.out _ R2.out).mono ?_
       rintro e w3 ⟨rfl, r, s⟩
       have R3 := mkHid r
       have S3 := mkHid (S2.out.trans s)
       have P3 := mkHid (s.at P2.out (by omega))
       clear r s
       go_wp2_with fail
       refine (C3.out _ (R3.out.alloc _)).mono ?_
       rintro e w4 ⟨rfl, r, s⟩
       have R4 := mkHid r
       have S4 := mkHid ((S3.out.alloc _).trans s)
       have P4 := mkHid (s.at ((Lib.alloc_old w3 _ _ (Array.getElem?_eq_some_iff.1 P3.out).1).trans P3.out) (by omega))
       have L4 := mkHid (s.at (heap_alloc_new w3 _) (by have := R3.out.lt; omega))
       have gl : rb < w3.heap.size := R3.out.lt
       clear r s
       go_wp2_with fail
       refine (C4.out _ R4.out).mono ?_
       rintro e w5 ⟨rfl, r, s⟩
       have R5 := mkHid r
       have S5 := mkHid (S4.out.trans s)
       have P5 := mkHid (s.at P4.out (by omega))
       have L5 := mkHid (s.at L4.out (by omega))
       clear r s
       go_wp2_with fail
       refine (C5.out _ R5.out).mono ?_
       rintro e w6 ⟨rfl, r, s⟩
       have R6 := mkHid r
       have S6 := mkHid (S5.out.trans s)
       have P6 := mkHid (s.at P5.out (by omega))
       have L6 := mkHid (s.at L5.out (by omega))
       clear r s
       go_wp2_with fail
       refine (C6.out _ R6.out).mono ?_
       rintro e w7 ⟨⟨m, rfl⟩, r, s⟩
       exact ⟨rfl, ⟨m, rfl⟩, r, S6.out.trans s⟩
     ·rw [show want ws i ⟨#[97, 114, 114, 97, 121]⟩ (wantK ws (i + 1) 1 (want ws (i + 2) ⟨#[91]⟩ (if isW ws (i + 3) ⟨#[63]⟩ then want ws (i + 4) ⟨#[93]⟩ (want ws (i + 5) ⟨#[59]⟩ (.ok (.node 32 (textW ws (i + 1)) (-1) []) (i + 6))) else wantK ws (i + 3) 2 (want ws (i + 4) ⟨#[93]⟩ (want ws (i + 5) ⟨#[59]⟩ (.ok (.node 32 (textW ws (i + 1)) (numV (textW ws (i + 3))) []) (i + 6))))))) = .no (i + 4) by unfold want wantK; rw [if_pos h1, if_pos h2, if_pos h3, if_pos h4, if_neg h5]]
      have HA := mkHid h
      have hrb := h.lt
      have C0 := mkHid (fun w h => has_no rb a cap ws i sz ⟨#[118, 97, 114]⟩ w h n0)
      have C1 := mkHid (fun w h => take_yes rb a cap ws i sz ⟨#[97, 114, 114, 97, 121]⟩ w h h1)
      have C2 := mkHid (fun w h => name_yes rb a cap ws (i + 1) sz w h h2)
      have C3 := mkHid (fun w h => take_yes rb a cap ws (i + 2) sz ⟨#[91]⟩ w h h3)
      have C4 := mkHid (fun w h => has_yes rb a cap ws (i + 3) sz ⟨#[63]⟩ w h h4)
      have C5 := mkHid (fun w h => take_no rb a cap ws (i + 4) sz ⟨#[93]⟩ w h (by simpa using h5))
      clear h he n0 h1 h2 h3 h4 h5
      go_enter Tryz.func72, Tryz.ntmps72
      go_wp2_with fail
      refine (C0.out _ (HA.out.alloc _)).mono ?_
      rintro e w1 ⟨rfl, r, s⟩
      have R1 := mkHid r
      have S1 := mkHid (((Step.refl rb w).alloc _).trans s)
      have P1 := mkHid (s.at (heap_alloc_new w _) (by omega))
      clear r s
      go_wp2_with fail
      refine (C1.out _ R1.out).mono ?_
      rintro e w2 ⟨rfl, r, s⟩
      have R2 := mkHid r
      have S2 := mkHid (S1.out.trans s)
      have P2 := mkHid (s.at P1.out (by omega))
      clear r s
      go_wp2_with fail
      refine (C2.out _ R2.out).mono ?_
      rintro e w3 ⟨rfl, r, s⟩
      have R3 := mkHid r
      have S3 := mkHid (S2.out.trans s)
      have P3 := mkHid (s.at P2.out (by omega))
      clear r s
      go_wp2_with fail
      refine (C3.out _ (R3.out.alloc _)).mono ?_
      rintro e w4 ⟨rfl, r, s⟩
      have R4 := mkHid r
      have S4 := mkHid ((S3.out.alloc _).trans s)
      have P4 := mkHid (s.at ((Lib.alloc_old w3 _ _ (Array.getElem?_eq_some_iff.1 P3.out).1).trans P3.out) (by omega))
      have L4 := mkHid (s.at (heap_alloc_new w3 _) (by have := R3.out.lt; omega))
      have gl : rb < w3.heap.size := R3.out.lt
      clear r s
      go_wp2_with fail
      refine (C4.out _ R4.out).mono ?_
      rintro e w5 ⟨rfl, r, s⟩
      have R5 := mkHid r
      have S5 := mkHid (S4.out.trans s)
      have P5 := mkHid (s.at P4.out (by omega))
      have L5 := mkHid (s.at L4.out (by omega))
      clear r s
      go_wp2_with fail
      refine (C5.out _ R5.out).mono ?_
      rintro e w6 ⟨⟨m, rfl⟩, r, s⟩
      exact ⟨rfl, ⟨m, rfl⟩, r, S5.out.trans s⟩
    ·by_cases h5 : kindW ws (i + 3) = 2
     ·by_cases h6 : isW ws (i + 4) ⟨#[93]⟩ = true
      ·by_cases h7 : isW ws (i + 5) ⟨#[59]⟩ = true
       ·rw [show want ws i ⟨#[97, 114, 114, 97, 121]⟩ (wantK ws (i + 1) 1 (want ws (i + 2) ⟨#[91]⟩ (if isW ws (i + 3) ⟨#[63]⟩ then want ws (i + 4) ⟨#[93]⟩ (want ws (i + 5) ⟨#[59]⟩ (.ok (.node 32 (textW ws (i + 1)) (-1) []) (i + 6))) else wantK ws (i + 3) 2 (want ws (i + 4) ⟨#[93]⟩ (want ws (i + 5) ⟨#[59]⟩ (.ok (.node 32 (textW ws (i + 1)) (numV (textW ws (i + 3))) []) (i + 6))))))) = .ok (.node 32 (textW ws (i + 1)) (numV (textW ws (i + 3))) []) (i + 6) by unfold want wantK; rw [if_pos h1, if_pos h2, if_pos h3, if_neg h4, if_pos h5, if_pos h6, if_pos h7]]
        have HA := mkHid h
        have hrb := h.lt
        have C0 := mkHid (fun w h => has_no rb a cap ws i sz ⟨#[118, 97, 114]⟩ w h n0)
        have C1 := mkHid (fun w h => take_yes rb a cap ws i sz ⟨#[97, 114, 114, 97, 121]⟩ w h h1)
        have C2 := mkHid (fun w h => name_yes rb a cap ws (i + 1) sz w h h2)
        have C3 := mkHid (fun w h => take_yes rb a cap ws (i + 2) sz ⟨#[91]⟩ w h h3)
        have C4 := mkHid (fun w h => has_no rb a cap ws (i + 3) sz ⟨#[63]⟩ w h (by simpa using h4))
        have C5 := mkHid (fun w h => num_yes rb a cap ws (i + 3) sz w h he.ok h5)
        have C6 := mkHid (fun w h => take_yes rb a cap ws (i + 4) sz ⟨#[93]⟩ w h h6)
        have C7 := mkHid (fun w h => take_yes rb a cap ws (i + 5) sz ⟨#[59]⟩ w h h7)
        clear h he n0 h1 h2 h3 h4 h5 h6 h7
        go_enter Tryz.func72, Tryz.ntmps72
        go_wp2_with fail
        refine (C0.out _ (HA.out.alloc _)).mono ?_
        rintro e w1 ⟨rfl, r, s⟩
        have R1 := mkHid r
        have S1 := mkHid (((Step.refl rb w).alloc _).trans s)
        have P1 := mkHid (s.at (heap_alloc_new w _) (by omega))
        clear r s
        go_wp2_with fail
        refine (C1.out _ R1.out).mono ?_
        rintro e w2 ⟨rfl, r, s⟩
        have R2 := mkHid r
        have S2 := mkHid (S1.out.trans s)
        have P2 := mkHid (s.at P1.out (by omega))
        clear r s
        go_wp2_with fail
        refine (C2.out _ R2.out).mono ?_
        rintro e w3 ⟨rfl, r, s⟩
        have R3 := mkHid r
        have S3 := mkHid (S2.out.trans s)
        have P3 := mkHid (s.at P2.out (by omega))
        clear r s
        go_wp2_with fail
        refine (C3.out _ (R3.out.alloc _)).mono ?_
        rintro e w4 ⟨rfl, r, s⟩
        have R4 := mkHid r
        have S4 := mkHid ((S3.out.alloc _).trans s)
        have P4 := mkHid (s.at ((Lib.alloc_old w3 _ _ (Array.getElem?_eq_some_iff.1 P3.out).1).trans P3.out) (by omega))
        have L4 := mkHid (s.at (heap_alloc_new w3 _) (by have := R3.out.lt; omega))
        have gl : rb < w3.heap.size := R3.out.lt
        clear r s
        go_wp2_with fail
        refine (C4.out _ R4.out).mono ?_
        rintro e w5 ⟨rfl, r, s⟩
        have R5 := mkHid r
        have S5 := mkHid (S4.out.trans s)
        have P5 := mkHid (s.at P4.out (by omega))
        have L5 := mkHid (s.at L4.out (by omega))
        clear r s
        go_wp2_with fail
        refine (C5.out _ R5.out).mono ?_
        rintro e w6 ⟨rfl, r, s⟩
        have R6 := mkHid r
        have S6 := mkHid (S5.out.trans s)
        have P6 := mkHid (s.at P5.out (by omega))
        have L6 := mkHid (s.at L5.out (by omega))
        clear r s
        have z3 : w.heap.size < w3.heap.size := (Array.getElem?_eq_some_iff.1 P3.out).1
        obtain ⟨d0, d1, d2, d3, e0, e1, e2, e3⟩ := four_of L6.out
        go_wp2_with fail
        refine (C6.out _ (R6.out.setCell (p := ⟨w3.heap.size, 2, none⟩) gl _)).mono ?_
        rintro e w7 ⟨rfl, r, s⟩
        have R7 := mkHid r
        have S7 := mkHid ((S6.out.setCell (p := ⟨w3.heap.size, 2, none⟩) (.inl (by show w.heap.size ≤ w3.heap.size; omega)) _).trans s)
        have P7 := mkHid (s.at ((Below.heap_setCell w6 ⟨w3.heap.size, 2, none⟩ _ _ (by show w.heap.size ≠ w3.heap.size; omega)).trans P6.out) (by omega))
        have L7 : Hid (w7.heap[w3.heap.size]? = some (.cells #[.int .i64 32, .string (textW ws (i + 1)), .int .i64 (numV (textW ws (i + 3))), .slice none 0 0] 26 (0, 0))) := s.at (heap_setCell_same w6 w3.heap.size 2 _ 26 _ L6.out) (by omega)
        clear r s d0 d1 d2 d3 e0 e1 e2 e3
        go_wp2_with fail
        refine (C7.out _ R7.out).mono ?_
        rintro e w8 ⟨rfl, r, s⟩
        have R8 := mkHid r
        have S8 := mkHid (S7.out.trans s)
        have P8 := mkHid (s.at P7.out (by omega))
        have L8 := mkHid (s.at L7.out (by omega))
        clear r s
        obtain ⟨c0, c1, c2, c3, f0, f1, f2, f3⟩ := four_of P8.out
        obtain ⟨d0, d1, d2, d3, _⟩ := four_of L8.out
        go_wp2
        obtain ⟨q0, q1, q2, q3⟩ := put4_cells0 P8.out (.int .i64 32) (.string (textW ws (i + 1))) (.int .i64 (numV (textW ws (i + 3)))) (.slice none 0 0)
        exact bodyPost_ret (v := (A.node 32 (textW ws (i + 1)) (numV (textW ws (i + 3))) none 0 []).val) (by simp [results, Tryz.results72, go_sem, q0, q1, q2, q3, A.val]) rfl (end_leaf 32 (numV (textW ws (i + 3))) (textW ws (i + 1)) R8.out hrb S8.out ht)
       ·rw [show want ws i ⟨#[97, 114, 114, 97, 121]⟩ (wantK ws (i + 1) 1 (want ws (i + 2) ⟨#[91]⟩ (if isW ws (i + 3) ⟨#[63]⟩ then want ws (i + 4) ⟨#[93]⟩ (want ws (i + 5) ⟨#[59]⟩ (.ok (.node 32 (textW ws (i + 1)) (-1) []) (i + 6))) else wantK ws (i + 3) 2 (want ws (i + 4) ⟨#[93]⟩ (want ws (i + 5) ⟨#[59]⟩ (.ok (.node 32 (textW ws (i + 1)) (numV (textW ws (i + 3))) []) (i + 6))))))) = .no (i + 5) by unfold want wantK; rw [if_pos h1, if_pos h2, if_pos h3, if_neg h4, if_pos h5, if_pos h6, if_neg h7]]
        have HA := mkHid h
        have hrb := h.lt
        have C0 := mkHid (fun w h => has_no rb a cap ws i sz ⟨#[118, 97, 114]⟩ w h n0)
        have C1 := mkHid (fun w h => take_yes rb a cap ws i sz ⟨#[97, 114, 114, 97, 121]⟩ w h h1)
        have C2 := mkHid (fun w h => name_yes rb a cap ws (i + 1) sz w h h2)
        have C3 := mkHid (fun w h => take_yes rb a cap ws (i + 2) sz ⟨#[91]⟩ w h h3)
        have C4 := mkHid (fun w h => has_no rb a cap ws (i + 3) sz ⟨#[63]⟩ w h (by simpa using h4))
        have C5 := mkHid (fun w h => num_yes rb a cap ws (i + 3) sz w h he.ok h5)
        have C6 := mkHid (fun w h => take_yes rb a cap ws (i + 4) sz ⟨#[93]⟩ w h h6)
        have C7 := mkHid (fun w h => take_no rb a cap ws (i + 5) sz ⟨#[59]⟩ w h (by simpa using h7))
        clear h he n0 h1 h2 h3 h4 h5 h6 h7
        go_enter Tryz.func72, Tryz.ntmps72
        go_wp2_with fail
        refine (C0.out _ (HA.out.alloc _)).mono ?_
        rintro e w1 ⟨rfl, r, s⟩
        have R1 := mkHid r
        have S1 := mkHid (((Step.refl rb w).alloc _).trans s)
        have P1 := mkHid (s.at (heap_alloc_new w _) (by omega))
        clear r s
        go_wp2_with fail
        refine (C1.out _ R1.out).mono ?_
        rintro e w2 ⟨rfl, r, s⟩
        have R2 := mkHid r
        have S2 := mkHid (S1.out.trans s)
        have P2 := mkHid (s.at P1.out (by omega))
        clear r s
        go_wp2_with fail
        refine (C2.out _ R2.out).mono ?_
        rintro e w3 ⟨rfl, r, s⟩
        have R3 := mkHid r
        have S3 := mkHid (S2.out.trans s)
        have P3 := mkHid (s.at P2.out (by omega))
        clear r s
        go_wp2_with fail
        refine (C3.out _ (R3.out.alloc _)).mono ?_
        rintro e w4 ⟨rfl, r, s⟩
        have R4 := mkHid r
        have S4 := mkHid ((S3.out.alloc _).trans s)
        have P4 := mkHid (s.at ((Lib.alloc_old w3 _ _ (Array.getElem?_eq_some_iff.1 P3.out).1).trans P3.out) (by omega))
        have L4 := mkHid (s.at (heap_alloc_new w3 _) (by have := R3.out.lt; omega))
        have gl : rb < w3.heap.size := R3.out.lt
        clear r s
        go_wp2_with fail
        refine (C4.out _ R4.out).mono ?_
        rintro e w5 ⟨rfl, r, s⟩
        have R5 := mkHid r
        have S5 := mkHid (S4.out.trans s)
        have P5 := mkHid (s.at P4.out (by omega))
        have L5 := mkHid (s.at L4.out (by omega))
        clear r s
        go_wp2_with fail
        refine (C5.out _ R5.out).mono ?_
        rintro e w6 ⟨rfl, r, s⟩
        have R6 := mkHid r
        have S6 := mkHid (S5.out.trans s)
        have P6 := mkHid (s.at P5.out (by omega))
        have L6 := mkHid (s.at L5.out (by omega))
        clear r s
        have z3 : w.heap.size < w3.heap.size := (Array.getElem?_eq_some_iff.1 P3.out).1
        obtain ⟨d0, d1, d2, d3, e0, e1, e2, e3⟩ := four_of L6.out
        go_wp2_with fail
        refine (C6.out _ (R6.out.setCell (p := ⟨w3.heap.size, 2, none⟩) gl _)).mono ?_
        rintro e w7 ⟨rfl, r, s⟩
        have R7 := mkHid r
        have S7 := mkHid ((S6.out.setCell (p := ⟨w3.heap.size, 2, none⟩) (.inl (by show w.heap.size ≤ w3.heap.size; omega)) _).trans s)
        have P7 := mkHid (s.at ((Below.heap_setCell w6 ⟨w3.heap.size, 2, none⟩ _ _ (by show w.heap.size ≠ w3.heap.size; omega)).trans P6.out) (by omega))
        have L7 : Hid (w7.heap[w3.heap.size]? = some (.cells #[.int .i64 32, .string (textW ws (i + 1)), .int .i64 (numV (textW ws (i + 3))), .slice none 0 0] 26 (0, 0))) := s.at (heap_setCell_same w6 w3.heap.size 2 _ 26 _ L6.out) (by omega)
        clear r s d0 d1 d2 d3 e0 e1 e2 e3
        go_wp2_with fail
        refine (C7.out _ R7.out).mono ?_
        rintro e w8 ⟨⟨m, rfl⟩, r, s⟩
        exact ⟨rfl, ⟨m, rfl⟩, r, S7.out.trans s⟩
      ·rw [show want ws i ⟨#[97, 114, 114, 97, 121]⟩ (wantK ws (i + 1) 1 (want ws (i + 2) ⟨#[91]⟩ (if isW ws (i + 3) ⟨#[63]⟩ then want ws (i + 4) ⟨#[93]⟩ (want ws (i + 5) ⟨#[59]⟩ (.ok (.node 32 (textW ws (i + 1)) (-1) []) (i + 6))) else wantK ws (i + 3) 2 (want ws (i + 4) ⟨#[93]⟩ (want ws (i + 5) ⟨#[59]⟩ (.ok (.node 32 (textW ws (i + 1)) (numV (textW ws (i + 3))) []) (i + 6))))))) = .no (i + 4) by unfold want wantK; rw [if_pos h1, if_pos h2, if_pos h3, if_neg h4, if_pos h5, if_neg h6]]
       have HA := mkHid h
       have hrb := h.lt
       have C0 := mkHid (fun w h => has_no rb a cap ws i sz ⟨#[118, 97, 114]⟩ w h n0)
       have C1 := mkHid (fun w h => take_yes rb a cap ws i sz ⟨#[97, 114, 114, 97, 121]⟩ w h h1)
       have C2 := mkHid (fun w h => name_yes rb a cap ws (i + 1) sz w h h2)
       have C3 := mkHid (fun w h => take_yes rb a cap ws (i + 2) sz ⟨#[91]⟩ w h h3)
       have C4 := mkHid (fun w h => has_no rb a cap ws (i + 3) sz ⟨#[63]⟩ w h (by simpa using h4))
       have C5 := mkHid (fun w h => num_yes rb a cap ws (i + 3) sz w h he.ok h5)
       have C6 := mkHid (fun w h => take_no rb a cap ws (i + 4) sz ⟨#[93]⟩ w h (by simpa using h6))
       clear h he n0 h1 h2 h3 h4 h5 h6
       go_enter Tryz.func72, Tryz.ntmps72
       go_wp2_with fail
       refine (C0.out _ (HA.out.alloc _)).mono ?_
       rintro e w1 ⟨rfl, r, s⟩
       have R1 := mkHid r
       have S1 := mkHid (((Step.refl rb w).alloc _).trans s)
       have P1 := mkHid (s.at (heap_alloc_new w _) (by omega))
       clear r s
       go_wp2_with fail
       refine (C1.out _ R1.out).mono ?_
       rintro e w2 ⟨rfl, r, s⟩
       have R2 := mkHid r
       have S2 := mkHid (S1.out.trans s)
       have P2 := mkHid (s.at P1.out (by omega))
       clear r s
       go_wp2_with fail
       refine (C2.out _ R2.out).mono ?_
       rintro e w3 ⟨rfl, r, s⟩
       have R3 := mkHid r
       have S3 := mkHid (S2.out.trans s)
       have P3 := mkHid (s.at P2.out (by omega))
       clear r s
       go_wp2_with fail
       refine (C3.out _ (R3.out.alloc _)).mono ?_
       rintro e w4 ⟨rfl, r, s⟩
       have R4 := mkHid r
       have S4 := mkHid ((S3.out.alloc _).trans s)
       have P4 := mkHid (s.at ((Lib.alloc_old w3 _ _ (Array.getElem?_eq_some_iff.1 P3.out).1).trans P3.out) (by omega))
       have L4 := mkHid (s.at (heap_alloc_new w3 _) (by have := R3.out.lt; omega))
       have gl : rb < w3.heap.size := R3.out.lt
       clear r s
       go_wp2_with fail
       refine (C4.out _ R4.out).mono ?_
       rintro e w5 ⟨rfl, r, s⟩
       have R5 := mkHid r
       have S5 := mkHid (S4.out.trans s)
       have P5 := mkHid (s.at P4.out (by omega))
       have L5 := mkHid (s.at L4.out (by omega))
       clear r s
       go_wp2_with fail
       refine (C5.out _ R5.out).mono ?_
       rintro e w6 ⟨rfl, r, s⟩
       have R6 := mkHid r
       have S6 := mkHid (S5.out.trans s)
       have P6 := mkHid (s.at P5.out (by omega))
       have L6 := mkHid (s.at L5.out (by omega))
       clear r s
       have z3 : w.heap.size < w3.heap.size := (Array.getElem?_eq_some_iff.1 P3.out).1
       obtain ⟨d0, d1, d2, d3, e0, e1, e2, e3⟩ := four_of L6.out
       go_wp2_with fail
       refine (C6.out _ (R6.out.setCell (p := ⟨w3.heap.size, 2, none⟩) gl _)).mono ?_
       rintro e w7 ⟨⟨m, rfl⟩, r, s⟩
       exact ⟨rfl, ⟨m, rfl⟩, r, (S6.out.setCell (p := ⟨w3.heap.size, 2, none⟩) (.inl (by show w.heap.size ≤ w3.heap.size; omega)) _).trans s⟩
     ·rw [show want ws i ⟨#[97, 114, 114, 97, 121]⟩ (wantK ws (i + 1) 1 (want ws (i + 2) ⟨#[91]⟩ (if isW ws (i + 3) ⟨#[63]⟩ then want ws (i + 4) ⟨#[93]⟩ (want ws (i + 5) ⟨#[59]⟩ (.ok (.node 32 (textW ws (i + 1)) (-1) []) (i + 6))) else wantK ws (i + 3) 2 (want ws (i + 4) ⟨#[93]⟩ (want ws (i + 5) ⟨#[59]⟩ (.ok (.node 32 (textW ws (i + 1)) (numV (textW ws (i + 3))) []) (i + 6))))))) = .no (i + 3) by unfold want wantK; rw [if_pos h1, if_pos h2, if_pos h3, if_neg h4, if_neg h5]]
      have HA := mkHid h
      have hrb := h.lt
      have C0 := mkHid (fun w h => has_no rb a cap ws i sz ⟨#[118, 97, 114]⟩ w h n0)
      have C1 := mkHid (fun w h => take_yes rb a cap ws i sz ⟨#[97, 114, 114, 97, 121]⟩ w h h1)
      have C2 := mkHid (fun w h => name_yes rb a cap ws (i + 1) sz w h h2)
      have C3 := mkHid (fun w h => take_yes rb a cap ws (i + 2) sz ⟨#[91]⟩ w h h3)
      have C4 := mkHid (fun w h => has_no rb a cap ws (i + 3) sz ⟨#[63]⟩ w h (by simpa using h4))
      have C5 := mkHid (fun w h => num_no rb a cap ws (i + 3) sz w h h5)
      clear h he n0 h1 h2 h3 h4 h5
      go_enter Tryz.func72, Tryz.ntmps72
      go_wp2_with fail
      refine (C0.out _ (HA.out.alloc _)).mono ?_
      rintro e w1 ⟨rfl, r, s⟩
      have R1 := mkHid r
      have S1 := mkHid (((Step.refl rb w).alloc _).trans s)
      have P1 := mkHid (s.at (heap_alloc_new w _) (by omega))
      clear r s
      go_wp2_with fail
      refine (C1.out _ R1.out).mono ?_
      rintro e w2 ⟨rfl, r, s⟩
      have R2 := mkHid r
      have S2 := mkHid (S1.out.trans s)
      have P2 := mkHid (s.at P1.out (by omega))
      clear r s
      go_wp2_with fail
      refine (C2.out _ R2.out).mono ?_
      rintro e w3 ⟨rfl, r, s⟩
      have R3 := mkHid r
      have S3 := mkHid (S2.out.trans s)
      have P3 := mkHid (s.at P2.out (by omega))
      clear r s
      go_wp2_with fail
      refine (C3.out _ (R3.out.alloc _)).mono ?_
      rintro e w4 ⟨rfl, r, s⟩
      have R4 := mkHid r
      have S4 := mkHid ((S3.out.alloc _).trans s)
      have P4 := mkHid (s.at ((Lib.alloc_old w3 _ _ (Array.getElem?_eq_some_iff.1 P3.out).1).trans P3.out) (by omega))
      have L4 := mkHid (s.at (heap_alloc_new w3 _) (by have := R3.out.lt; omega))
      have gl : rb < w3.heap.size := R3.out.lt
      clear r s
      go_wp2_with fail
      refine (C4.out _ R4.out).mono ?_
      rintro e w5 ⟨rfl, r, s⟩
      have R5 := mkHid r
      have S5 := mkHid (S4.out.trans s)
      have P5 := mkHid (s.at P4.out (by omega))
      have L5 := mkHid (s.at L4.out (by omega))
      clear r s
      go_wp2_with fail
      refine (C5.out _ R5.out).mono ?_
      rintro e w6 ⟨⟨m, rfl⟩, r, s⟩
      exact ⟨rfl, ⟨m, rfl⟩, r, S5.out.trans s⟩
   ·rw [show want ws i ⟨#[97, 114, 114, 97, 121]⟩ (wantK ws (i + 1) 1 (want ws (i + 2) ⟨#[91]⟩ (if isW ws (i + 3) ⟨#[63]⟩ then want ws (i + 4) ⟨#[93]⟩ (want ws (i + 5) ⟨#[59]⟩ (.ok (.node 32 (textW ws (i + 1)) (-1) []) (i + 6))) else wantK ws (i + 3) 2 (want ws (i + 4) ⟨#[93]⟩ (want ws (i + 5) ⟨#[59]⟩ (.ok (.node 32 (textW ws (i + 1)) (numV (textW ws (i + 3))) []) (i + 6))))))) = .no (i + 2) by unfold want wantK; rw [if_pos h1, if_pos h2, if_neg h3]]
    have HA := mkHid h
    have hrb := h.lt
    have C0 := mkHid (fun w h => has_no rb a cap ws i sz ⟨#[118, 97, 114]⟩ w h n0)
    have C1 := mkHid (fun w h => take_yes rb a cap ws i sz ⟨#[97, 114, 114, 97, 121]⟩ w h h1)
    have C2 := mkHid (fun w h => name_yes rb a cap ws (i + 1) sz w h h2)
    have C3 := mkHid (fun w h => take_no rb a cap ws (i + 2) sz ⟨#[91]⟩ w h (by simpa using h3))
    clear h he n0 h1 h2 h3
    go_enter Tryz.func72, Tryz.ntmps72
    go_wp2_with fail
    refine (C0.out _ (HA.out.alloc _)).mono ?_
    rintro e w1 ⟨rfl, r, s⟩
    have R1 := mkHid r
    have S1 := mkHid (((Step.refl rb w).alloc _).trans s)
    have P1 := mkHid (s.at (heap_alloc_new w _) (by omega))
    clear r s
    go_wp2_with fail
    refine (C1.out _ R1.out).mono ?_
    rintro e w2 ⟨rfl, r, s⟩
    have R2 := mkHid r
    have S2 := mkHid (S1.out.trans s)
    have P2 := mkHid (s.at P1.out (by omega))
    clear r s
    go_wp2_with fail
    refine (C2.out _ R2.out).mono ?_
    rintro e w3 ⟨rfl, r, s⟩
    have R3 := mkHid r
    have S3 := mkHid (S2.out.trans s)
    have P3 := mkHid (s.at P2.out (by omega))
    clear r s
    go_wp2_with fail
    refine (C3.out _ (R3.out.alloc _)).mono ?_
    rintro e w4 ⟨⟨m, rfl⟩, r, s⟩
    exact ⟨rfl, ⟨m, rfl⟩, r, (S3.out.alloc _).trans s⟩
  ·rw [show want ws i ⟨#[97, 114, 114, 97, 121]⟩ (wantK ws (i + 1) 1 (want ws (i + 2) ⟨#[91]⟩ (if isW ws (i + 3) ⟨#[63]⟩ then want ws (i + 4) ⟨#[93]⟩ (want ws (i + 5) ⟨#[59]⟩ (.ok (.node 32 (textW ws (i + 1)) (-1) []) (i + 6))) else wantK ws (i + 3) 2 (want ws (i + 4) ⟨#[93]⟩ (want ws (i + 5) ⟨#[59]⟩ (.ok (.node 32 (textW ws (i + 1)) (numV (textW ws (i + 3))) []) (i + 6))))))) = .no (i + 1) by unfold want wantK; rw [if_pos h1, if_neg h2]]
   have HA := mkHid h
   have hrb := h.lt
   have C0 := mkHid (fun w h => has_no rb a cap ws i sz ⟨#[118, 97, 114]⟩ w h n0)
   have C1 := mkHid (fun w h => take_yes rb a cap ws i sz ⟨#[97, 114, 114, 97, 121]⟩ w h h1)
   have C2 := mkHid (fun w h => name_no rb a cap ws (i + 1) sz w h h2)
   clear h he n0 h1 h2
   go_enter Tryz.func72, Tryz.ntmps72
   go_wp2_with fail
   refine (C0.out _ (HA.out.alloc _)).mono ?_
   rintro e w1 ⟨rfl, r, s⟩
   have R1 := mkHid r
   have S1 := mkHid (((Step.refl rb w).alloc _).trans s)
   have P1 := mkHid (s.at (heap_alloc_new w _) (by omega))
   clear r s
   go_wp2_with fail
   refine (C1.out _ R1.out).mono ?_
   rintro e w2 ⟨rfl, r, s⟩
   have R2 := mkHid r
   have S2 := mkHid (S1.out.trans s)
   have P2 := mkHid (s.at P1.out (by omega))
   clear r s
   go_wp2_with fail
   refine (C2.out _ R2.out).mono ?_
   rintro e w3 ⟨⟨m, rfl⟩, r, s⟩
   exact ⟨rfl, ⟨m, rfl⟩, r, S2.out.trans s⟩
 ·rw [show want ws i ⟨#[97, 114, 114, 97, 121]⟩ (wantK ws (i + 1) 1 (want ws (i + 2) ⟨#[91]⟩ (if isW ws (i + 3) ⟨#[63]⟩ then want ws (i + 4) ⟨#[93]⟩ (want ws (i + 5) ⟨#[59]⟩ (.ok (.node 32 (textW ws (i + 1)) (-1) []) (i + 6))) else wantK ws (i + 3) 2 (want ws (i + 4) ⟨#[93]⟩ (want ws (i + 5) ⟨#[59]⟩ (.ok (.node 32 (textW ws (i + 1)) (numV (textW ws (i + 3))) []) (i + 6))))))) = .no i by unfold want; rw [if_neg h1]]
  have HA := mkHid h
  have hrb := h.lt
  have C0 := mkHid (fun w h => has_no rb a cap ws i sz ⟨#[118, 97, 114]⟩ w h n0)
  have C1 := mkHid (fun w h => take_no rb a cap ws i sz ⟨#[97, 114, 114, 97, 121]⟩ w h (by simpa using h1))
  clear h he n0 h1
  go_enter Tryz.func72, Tryz.ntmps72
  go_wp2_with fail
  refine (C0.out _ (HA.out.alloc _)).mono ?_
  rintro e w1 ⟨rfl, r, s⟩
  have R1 := mkHid r
  have S1 := mkHid (((Step.refl rb w).alloc _).trans s)
  have P1 := mkHid (s.at (heap_alloc_new w _) (by omega))
  clear r s
  go_wp2_with fail
  refine (C1.out _ R1.out).mono ?_
  rintro e w2 ⟨⟨m, rfl⟩, r, s⟩
  exact ⟨rfl, ⟨m, rfl⟩, r, S1.out.trans s⟩
def IDecl (rb : Nat) (a : Option Addr) (cap : Nat) (ws : List W3) (sz : Nat) : Prop := ∀ (i : Nat) (w : World), Rd w rb a cap ws i sz →
 Calls Tryz.prog 72 #[.pointer (some ⟨rb, 0, none⟩)] w (Post rb a cap ws sz w (mDecl ws i))
theorem decl_all {rb : Nat} {a : Option Addr} {cap : Nat} {ws : List W3} {sz : Nat} (he : Env ws) : IDecl rb a cap ws sz := by
 intro i w h
 by_cases n0 : isW ws i ⟨#[118, 97, 114]⟩ = true
 ·exact decl_var he i w h n0
 ·exact decl_arr he i w h (by simpa using n0)
end Go.Proofs.YtjmjmdmnejnlbaaGreatDoor
