/-
  CONTRACT of the program's reader's shortStmt: all but assignments.
-/
import Derived.Test.YthccohemcagkcaaGreatDoorGi
import Derived.Test.YthccohemcagkcaaGreatDoorZRcond
namespace Go.Proofs.YthccohemcagkcaaGreatDoor
open Go.RowKit
open Pl

set_option maxRecDepth 100000 in
set_option maxHeartbeats 8000000 in
theorem short_read {rb : Nat} {a : Option Addr} {cap : Nat} {ws : List W3} {sz F : Nat} (he : Env ws) (i : Nat) (w : World) (h : Rd w rb a cap ws i sz) (h1 : isW ws i ⟨#[114, 101, 97, 100]⟩ = true) :
    Calls Tryz.prog 132 #[.pointer (some ⟨rb, 0, none⟩)] w (Post rb a cap ws sz w (mShort ws F i)) := by
  have hm : mShort ws F i = wantK ws (i + 1) 1 (.ok (.node 23 (textW ws (i + 1)) 0 []) (i + 2)) := by unfold mShort; rw [if_pos h1]
  rw [hm]
  clear hm
  have ht := he.text (i + 1)
  by_cases h2 : kindW ws (i + 1) = 1
  · rw [show wantK ws (i + 1) 1 (.ok (.node 23 (textW ws (i + 1)) 0 []) (i + 2)) = .ok (.node 23 (textW ws (i + 1)) 0 []) (i + 2) by unfold wantK; rw [if_pos h2]]
    have HA := mkHid h
    have hrb := h.lt
    have C0 := mkHid (fun w h => has_yes rb a cap ws i sz ⟨#[114, 101, 97, 100]⟩ w h h1)
    have C1 := mkHid (fun w h => name_yes rb a cap ws (i + 1) sz w h h2)
    clear h h1 h2 he
    go_enter Tryz.func132, Tryz.ntmps132
    go_wp2_with fail
    refine (C0.out _ (HA.out.alloc _)).mono ?_
    rintro e w1 ⟨rfl, r, s⟩
    have R1 := mkHid r
    have S1 := mkHid (((Step.refl rb w).alloc _).trans s)
    have P1 := mkHid (s.at (heap_alloc_new w _) (by omega))
    clear r s
    go_wp2_with fail
    refine (C1.out _ R1.out).mono ?_
    rintro e w2 ⟨rfl, r, s⟩
    have R2 := mkHid r
    have S2 := mkHid (S1.out.trans s)
    have P2 := mkHid (s.at P1.out (by omega))
    clear r s
    obtain ⟨c0, c1, c2, c3, f0, f1, f2, f3⟩ := four_of P2.out
    go_wp2
    obtain ⟨q0, q1, q2, q3⟩ := put4_cells0 P2.out (.int .i64 23) (.string (textW ws (i + 1))) (.int .i64 0) (.slice none 0 0)
    exact bodyPost_ret (v := (A.node 23 (textW ws (i + 1)) 0 none 0 []).val) (by simp [results, Tryz.results132, go_sem, q0, q1, q2, q3, A.val]) rfl (end_leaf 23 0 (textW ws (i + 1)) R2.out hrb S2.out ht)
  · rw [show wantK ws (i + 1) 1 (.ok (.node 23 (textW ws (i + 1)) 0 []) (i + 2)) = .no (i + 1) by unfold wantK; rw [if_neg h2]]
    have HA := mkHid h
    have hrb := h.lt
    have C0 := mkHid (fun w h => has_yes rb a cap ws i sz ⟨#[114, 101, 97, 100]⟩ w h h1)
    have C1 := mkHid (fun w h => name_no rb a cap ws (i + 1) sz w h h2)
    clear h h1 h2 he
    go_enter Tryz.func132, Tryz.ntmps132
    go_wp2_with fail
    refine (C0.out _ (HA.out.alloc _)).mono ?_
    rintro e w1 ⟨rfl, r, s⟩
    have R1 := mkHid r
    have S1 := mkHid (((Step.refl rb w).alloc _).trans s)
    have P1 := mkHid (s.at (heap_alloc_new w _) (by omega))
    clear r s
    go_wp2_with fail
    refine (C1.out _ R1.out).mono ?_
    rintro e w2 ⟨⟨m, rfl⟩, r, s⟩
    exact ⟨rfl, ⟨m, rfl⟩, r, S1.out.trans s⟩
set_option maxRecDepth 100000 in
set_option maxHeartbeats 8000000 in
theorem short_check {rb : Nat} {a : Option Addr} {cap : Nat} {ws : List W3} {sz F : Nat} (hC : ICond rb a cap ws sz F) (i : Nat) (w : World) (h : Rd w rb a cap ws i sz) (n0 : isW ws i ⟨#[114, 101, 97, 100]⟩ = false) (h1 : isW ws i ⟨#[99, 104, 101, 99, 107]⟩ = true) :
    Calls Tryz.prog 132 #[.pointer (some ⟨rb, 0, none⟩)] w (Post rb a cap ws sz w (mShort ws F i)) := by
  have hm : mShort ws F i = (mCond ws F (i + 1)).then_ fun x j => .ok (.node 27 nil_ 0 [x]) j := by unfold mShort; rw [if_neg (by rw [n0]; decide), if_pos h1]
  rw [hm]
  have hO1 := fun w h => hC (i + 1) w h
  generalize mCond ws F (i + 1) = r at hO1 ⊢
  have HO := mkHid hO1
  have HA := mkHid h
  have hrb := h.lt
  have C0 := mkHid (fun w h => has_no rb a cap ws i sz ⟨#[114, 101, 97, 100]⟩ w h n0)
  have C1 := mkHid (fun w h => has_yes rb a cap ws i sz ⟨#[99, 104, 101, 99, 107]⟩ w h h1)
  clear hm hC h h1 n0 hO1
  go_enter Tryz.func132, Tryz.ntmps132
  go_wp2_with fail
  refine (C0.out _ (HA.out.alloc _)).mono ?_
  rintro e w1 ⟨rfl, r, s⟩
  have R1 := mkHid r
  have S1 := mkHid (((Step.refl rb w).alloc _).trans s)
  have P1 := mkHid (s.at (heap_alloc_new w _) (by omega))
  clear r s
  go_wp2_with fail
  refine (C1.out _ R1.out).mono ?_
  rintro e w2 ⟨rfl, r, s⟩
  have R2 := mkHid r
  have S2 := mkHid (S1.out.trans s)
  have P2 := mkHid (s.at P1.out (by omega))
  clear r s
  go_wp2_with fail
  refine (HO.out w2 R2.out).mono ?_
  intro e w3 hp
  cases r with
  | no p =>
    obtain ⟨⟨m, rfl⟩, r2, s2⟩ := hp
    exact ⟨rfl, ⟨m, rfl⟩, r2, S2.out.trans s2⟩
  | ok t j =>
    obtain ⟨x, rfl, ht, hsx, hnx, r, s⟩ := hp
    have R3 := mkHid r
    have S3 := mkHid (S2.out.trans s)
    have P3 := mkHid (s.at P2.out (by omega))
    clear r s
    have z2 : w.heap.size < w2.heap.size := (Array.getElem?_eq_some_iff.1 P2.out).1
    have z3 : w.heap.size < w3.heap.size := (Array.getElem?_eq_some_iff.1 P3.out).1
    obtain ⟨k, s, m, xa, xc, xk⟩ := x
    have HS := mkHid hsx
    have HN := mkHid hnx
    have HE := mkHid ht
    obtain ⟨c0, c1, c2, c3, f0, f1, f2, f3⟩ := four_of P3.out
    clear hsx hnx ht
    simp only [A.val]
    go_wp2
    obtain ⟨q0, q1, q2, q3⟩ := put4_cells P3.out (.int .i64 27) (.string ⟨#[]⟩) (.int .i64 0) (.slice (some ⟨w3.heap.size, 0, none⟩) 1 1) (.cells #[.int .i64 k, .string s, .int .i64 m, .slice xa xk.length xc] 26)
    refine bodyPost_ret (v := (A.node 27 ⟨#[]⟩ 0 (some ⟨w3.heap.size, 0, none⟩) 1 [.node k s m xa xc xk]).val) (by simp [results, Tryz.results132, go_sem, q0, q1, q2, q3, A.val]) rfl ?_
    have hE := end_list 27 0 ⟨#[]⟩ [.node k s m xa xc xk] #[.int .i64 k, .string s, .int .i64 m, .slice xa xk.length xc] 1 P3.out R3.out hrb S3.out (sitsL_one HS.out) (NewL.one HN.out) z2 (by simp [maxLen]) rfl (by decide)
    have he : erases [A.node k s m xa xc xk] = [t] := by simp only [erases]; rw [HE.out]
    rw [he] at hE
    exact hE
set_option maxRecDepth 100000 in
set_option maxHeartbeats 8000000 in
theorem short_skip {rb : Nat} {a : Option Addr} {cap : Nat} {ws : List W3} {sz F : Nat} (i : Nat) (w : World) (h : Rd w rb a cap ws i sz) (n0 : isW ws i ⟨#[114, 101, 97, 100]⟩ = false) (n1 : isW ws i ⟨#[99, 104, 101, 99, 107]⟩ = false) (h1 : isW ws i ⟨#[115, 107, 105, 112]⟩ = true) :
    Calls Tryz.prog 132 #[.pointer (some ⟨rb, 0, none⟩)] w (Post rb a cap ws sz w (mShort ws F i)) := by
  rw [show mShort ws F i = .ok (.node 28 nil_ 0 []) (i + 1) by unfold mShort; rw [if_neg (by rw [n0]; decide), if_neg (by rw [n1]; decide), if_pos h1]]
  have HA := mkHid h
  have hrb := h.lt
  have C0 := mkHid (fun w h => has_no rb a cap ws i sz ⟨#[114, 101, 97, 100]⟩ w h n0)
  have C1 := mkHid (fun w h => has_no rb a cap ws i sz ⟨#[99, 104, 101, 99, 107]⟩ w h n1)
  have C2 := mkHid (fun w h => has_yes rb a cap ws i sz ⟨#[115, 107, 105, 112]⟩ w h h1)
  clear h h1 n0 n1
  go_enter Tryz.func132, Tryz.ntmps132
  go_wp2_with fail
  refine (C0.out _ (HA.out.alloc _)).mono ?_
  rintro e w1 ⟨rfl, r, s⟩
  have R1 := mkHid r
  have S1 := mkHid (((Step.refl rb w).alloc _).trans s)
  have P1 := mkHid (s.at (heap_alloc_new w _) (by omega))
  clear r s
  go_wp2_with fail
  refine (C1.out _ R1.out).mono ?_
  rintro e w2 ⟨rfl, r, s⟩
  have R2 := mkHid r
  have S2 := mkHid (S1.out.trans s)
  have P2 := mkHid (s.at P1.out (by omega))
  clear r s
  go_wp2_with fail
  refine (C2.out _ R2.out).mono ?_
  rintro e w3 ⟨rfl, r, s⟩
  have R3 := mkHid r
  have S3 := mkHid (S2.out.trans s)
  have P3 := mkHid (s.at P2.out (by omega))
  clear r s
  obtain ⟨c0, c1, c2, c3, f0, f1, f2, f3⟩ := four_of P3.out
  go_wp2
  obtain ⟨q0, q1, q2, q3⟩ := put4_cells0 P3.out (.int .i64 28) (.string ⟨#[]⟩) (.int .i64 0) (.slice none 0 0)
  exact bodyPost_ret (v := (A.node 28 ⟨#[]⟩ 0 none 0 []).val) (by simp [results, Tryz.results132, go_sem, q0, q1, q2, q3, A.val]) rfl (end_leaf 28 0 ⟨#[]⟩ R3.out hrb S3.out (by decide))
set_option maxRecDepth 100000 in
set_option maxHeartbeats 8000000 in
theorem short_stop {rb : Nat} {a : Option Addr} {cap : Nat} {ws : List W3} {sz F : Nat} (i : Nat) (w : World) (h : Rd w rb a cap ws i sz) (n0 : isW ws i ⟨#[114, 101, 97, 100]⟩ = false) (n1 : isW ws i ⟨#[99, 104, 101, 99, 107]⟩ = false) (n2 : isW ws i ⟨#[115, 107, 105, 112]⟩ = false) (h1 : isW ws i ⟨#[115, 116, 111, 112]⟩ = true) :
    Calls Tryz.prog 132 #[.pointer (some ⟨rb, 0, none⟩)] w (Post rb a cap ws sz w (mShort ws F i)) := by
  rw [show mShort ws F i = .ok (.node 29 nil_ 0 []) (i + 1) by unfold mShort; rw [if_neg (by rw [n0]; decide), if_neg (by rw [n1]; decide), if_neg (by rw [n2]; decide), if_pos h1]]
  have HA := mkHid h
  have hrb := h.lt
  have C0 := mkHid (fun w h => has_no rb a cap ws i sz ⟨#[114, 101, 97, 100]⟩ w h n0)
  have C1 := mkHid (fun w h => has_no rb a cap ws i sz ⟨#[99, 104, 101, 99, 107]⟩ w h n1)
  have C2 := mkHid (fun w h => has_no rb a cap ws i sz ⟨#[115, 107, 105, 112]⟩ w h n2)
  have C3 := mkHid (fun w h => has_yes rb a cap ws i sz ⟨#[115, 116, 111, 112]⟩ w h h1)
  clear h h1 n0 n1 n2
  go_enter Tryz.func132, Tryz.ntmps132
  go_wp2_with fail
  refine (C0.out _ (HA.out.alloc _)).mono ?_
  rintro e w1 ⟨rfl, r, s⟩
  have R1 := mkHid r
  have S1 := mkHid (((Step.refl rb w).alloc _).trans s)
  have P1 := mkHid (s.at (heap_alloc_new w _) (by omega))
  clear r s
  go_wp2_with fail
  refine (C1.out _ R1.out).mono ?_
  rintro e w2 ⟨rfl, r, s⟩
  have R2 := mkHid r
  have S2 := mkHid (S1.out.trans s)
  have P2 := mkHid (s.at P1.out (by omega))
  clear r s
  go_wp2_with fail
  refine (C2.out _ R2.out).mono ?_
  rintro e w3 ⟨rfl, r, s⟩
  have R3 := mkHid r
  have S3 := mkHid (S2.out.trans s)
  have P3 := mkHid (s.at P2.out (by omega))
  clear r s
  go_wp2_with fail
  refine (C3.out _ R3.out).mono ?_
  rintro e w4 ⟨rfl, r, s⟩
  have R4 := mkHid r
  have S4 := mkHid (S3.out.trans s)
  have P4 := mkHid (s.at P3.out (by omega))
  clear r s
  obtain ⟨c0, c1, c2, c3, f0, f1, f2, f3⟩ := four_of P4.out
  go_wp2
  obtain ⟨q0, q1, q2, q3⟩ := put4_cells0 P4.out (.int .i64 29) (.string ⟨#[]⟩) (.int .i64 0) (.slice none 0 0)
  exact bodyPost_ret (v := (A.node 29 ⟨#[]⟩ 0 none 0 []).val) (by simp [results, Tryz.results132, go_sem, q0, q1, q2, q3, A.val]) rfl (end_leaf 29 0 ⟨#[]⟩ R4.out hrb S4.out (by decide))
set_option maxRecDepth 100000 in
set_option maxHeartbeats 8000000 in
theorem short_none {rb : Nat} {a : Option Addr} {cap : Nat} {ws : List W3} {sz F : Nat} (i : Nat) (w : World) (h : Rd w rb a cap ws i sz) (n0 : isW ws i ⟨#[114, 101, 97, 100]⟩ = false) (n1 : isW ws i ⟨#[99, 104, 101, 99, 107]⟩ = false) (n2 : isW ws i ⟨#[115, 107, 105, 112]⟩ = false) (n3 : isW ws i ⟨#[115, 116, 111, 112]⟩ = false) (h1 : kindW ws i ≠ 1) :
    Calls Tryz.prog 132 #[.pointer (some ⟨rb, 0, none⟩)] w (Post rb a cap ws sz w (mShort ws F i)) := by
  rw [show mShort ws F i = .no i by unfold mShort; rw [if_neg (by rw [n0]; decide), if_neg (by rw [n1]; decide), if_neg (by rw [n2]; decide), if_neg (by rw [n3]; decide)]; unfold wantK; rw [if_neg h1]]
  have HA := mkHid h
  have hrb := h.lt
  have C0 := mkHid (fun w h => has_no rb a cap ws i sz ⟨#[114, 101, 97, 100]⟩ w h n0)
  have C1 := mkHid (fun w h => has_no rb a cap ws i sz ⟨#[99, 104, 101, 99, 107]⟩ w h n1)
  have C2 := mkHid (fun w h => has_no rb a cap ws i sz ⟨#[115, 107, 105, 112]⟩ w h n2)
  have C3 := mkHid (fun w h => has_no rb a cap ws i sz ⟨#[115, 116, 111, 112]⟩ w h n3)
  have C4 := mkHid (fun w h => name_no rb a cap ws i sz w h h1)
  clear h h1 n0 n1 n2 n3
  go_enter Tryz.func132, Tryz.ntmps132
  go_wp2_with fail
  refine (C0.out _ (HA.out.alloc _)).mono ?_
  rintro e w1 ⟨rfl, r, s⟩
  have R1 := mkHid r
  have S1 := mkHid (((Step.refl rb w).alloc _).trans s)
  have P1 := mkHid (s.at (heap_alloc_new w _) (by omega))
  clear r s
  go_wp2_with fail
  refine (C1.out _ R1.out).mono ?_
  rintro e w2 ⟨rfl, r, s⟩
  have R2 := mkHid r
  have S2 := mkHid (S1.out.trans s)
  have P2 := mkHid (s.at P1.out (by omega))
  clear r s
  go_wp2_with fail
  refine (C2.out _ R2.out).mono ?_
  rintro e w3 ⟨rfl, r, s⟩
  have R3 := mkHid r
  have S3 := mkHid (S2.out.trans s)
  have P3 := mkHid (s.at P2.out (by omega))
  clear r s
  go_wp2_with fail
  refine (C3.out _ R3.out).mono ?_
  rintro e w4 ⟨rfl, r, s⟩
  have R4 := mkHid r
  have S4 := mkHid (S3.out.trans s)
  have P4 := mkHid (s.at P3.out (by omega))
  clear r s
  go_wp2_with fail
  refine (C4.out _ R4.out).mono ?_
  rintro e w5 ⟨⟨m, rfl⟩, r, s⟩
  exact ⟨rfl, ⟨m, rfl⟩, r, S4.out.trans s⟩
end Go.Proofs.YthccohemcagkcaaGreatDoor
