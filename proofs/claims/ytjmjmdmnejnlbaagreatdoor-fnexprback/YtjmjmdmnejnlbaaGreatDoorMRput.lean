/-
  CONTRACT of the program's reader's shortStmt: all but assignments.
  CONTRACT of the program's reader's shortStmt: an assignment to a name.
  CONTRACT of the program's reader's shortStmt: an assignment to a cell; all together.
-/
import Derived.Test.YtjmjmdmnejnlbaaGreatDoorMRonec
import Derived.Test.YtjmjmdmnejnlbaaGreatDoorMRcond
import Derived.Deep.RegionLaw
import Derived.Deep.AppendLies
namespace Go.Proofs.YtjmjmdmnejnlbaaGreatDoor
open Go.RowKit
open Pl

set_option maxRecDepth 100000 in
set_option maxHeartbeats 8000000 in
theorem short_read {rb : Nat} {a : Option Addr} {cap : Nat} {ws : List W3} {sz F : Nat} (he : Env ws) (i : Nat) (w : World) (h : Rd w rb a cap ws i sz) (h1 : isW ws i ⟨#[114, 101, 97, 100]⟩ = true) :
    Calls Tryz.prog 104 #[.pointer (some ⟨rb, 0, none⟩)] w (Post rb a cap ws sz w (mShort ws F i)) := by
 have hm : mShort ws F i = wantK ws (i + 1) 1 (.ok (.node 23 (textW ws (i + 1)) 0 []) (i + 2)) := by unfold mShort; rw [if_pos h1]
 rw [hm]
 clear hm
 have ht := he.text (i + 1)
 by_cases h2 : kindW ws (i + 1) = 1
 ·rw [show wantK ws (i + 1) 1 (.ok (.node 23 (textW ws (i + 1)) 0 []) (i + 2)) = .ok (.node 23 (textW ws (i + 1)) 0 []) (i + 2) by unfold wantK; rw [if_pos h2]]
  have HA := mkHid h
  have hrb := h.lt
  have C0 := mkHid (fun w h => has_yes rb a cap ws i sz ⟨#[114, 101, 97, 100]⟩ w h h1)
  have C1 := mkHid (fun w h => name_yes rb a cap ws (i + 1) sz w h h2)
  clear h h1 h2 he
  go_enter Tryz.func104, Tryz.ntmps104
  go_wp2_with fail
  refine (C0.out _ (HA.out.alloc _)).mono ?_
  rintro e w1 ⟨rfl, r, s⟩
  have R1 := mkHid r
  have S1 := mkHid (((Step.refl rb w).alloc _).trans s)
  have P1 := mkHid (s.at (heap_alloc_new w _) (by omega))
  clear r s
  go_wp2_with fail
  refine (C1.out _ R1.out).mono ?_
  rintro e w2 ⟨rfl, r, s⟩
  have R2 := mkHid r
  have S2 := mkHid (S1.out.trans s)
  have P2 := mkHid (s.at P1.out (by omega))
  clear r s
  obtain ⟨c0, c1, c2, c3, f0, f1, f2, f3⟩ := four_of P2.out
  go_wp2
  obtain ⟨q0, q1, q2, q3⟩ := put4_cells0 P2.out (.int .i64 23) (.string (textW ws (i + 1))) (.int .i64 0) (.slice none 0 0)
  exact bodyPost_ret (v := (A.node 23 (textW ws (i + 1)) 0 none 0 []).val) (by simp [results, Tryz.results104, go_sem, q0, q1, q2, q3, A.val]) rfl (end_leaf 23 0 (textW ws (i + 1)) R2.out hrb S2.out ht)
 ·rw [show wantK ws (i + 1) 1 (.ok (.node 23 (textW ws (i + 1)) 0 []) (i + 2)) = .no (i + 1) by unfold wantK; rw [if_neg h2]]
  have HA := mkHid h
  have hrb := h.lt
  have C0 := mkHid (fun w h => has_yes rb a cap ws i sz ⟨#[114, 101, 97, 100]⟩ w h h1)
  have C1 := mkHid (fun w h => name_no rb a cap ws (i + 1) sz w h h2)
  clear h h1 h2 he
  go_enter Tryz.func104, Tryz.ntmps104
  go_wp2_with fail
  refine (C0.out _ (HA.out.alloc _)).mono ?_
  rintro e w1 ⟨rfl, r, s⟩
  have R1 := mkHid r
  have S1 := mkHid (((Step.refl rb w).alloc _).trans s)
  have P1 := mkHid (s.at (heap_alloc_new w _) (by omega))
  clear r s
  go_wp2_with fail
  refine (C1.out _ R1.out).mono ?_
  rintro e w2 ⟨⟨m, rfl⟩, r, s⟩
  exact ⟨rfl, ⟨m, rfl⟩, r, S1.out.trans s⟩
set_option maxRecDepth 100000 in
set_option maxHeartbeats 8000000 in
theorem short_check {rb : Nat} {a : Option Addr} {cap : Nat} {ws : List W3} {sz F : Nat} (hC : ICond rb a cap ws sz F) (i : Nat) (w : World) (h : Rd w rb a cap ws i sz) (n0 : isW ws i ⟨#[114, 101, 97, 100]⟩ = false) (h1 : isW ws i ⟨#[99, 104, 101, 99, 107]⟩ = true) :
    Calls Tryz.prog 104 #[.pointer (some ⟨rb, 0, none⟩)] w (Post rb a cap ws sz w (mShort ws F i)) := by
 have hm : mShort ws F i = (mCond ws F (i + 1)).then_ fun x j => .ok (.node 27 nil_ 0 [x]) j := by unfold mShort; rw [if_neg (by rw [n0]; decide), if_pos h1]
 rw [hm]
 have hO1 := fun w h => hC (i + 1) w h
 generalize mCond ws F (i + 1) = r at hO1 ⊢
 have HO := mkHid hO1
 have HA := mkHid h
 have hrb := h.lt
 have C0 := mkHid (fun w h => has_no rb a cap ws i sz ⟨#[114, 101, 97, 100]⟩ w h n0)
 have C1 := mkHid (fun w h => has_yes rb a cap ws i sz ⟨#[99, 104, 101, 99, 107]⟩ w h h1)
 clear hm hC h h1 n0 hO1
 go_enter Tryz.func104, Tryz.ntmps104
 go_wp2_with fail
 refine (C0.out _ (HA.out.alloc _)).mono ?_
 rintro e w1 ⟨rfl, r, s⟩
 have R1 := mkHid r
 have S1 := mkHid (((Step.refl rb w).alloc _).trans s)
 have P1 := mkHid (s.at (heap_alloc_new w _) (by omega))
 clear r s
 go_wp2_with fail
 refine (C1.out _ R1.out).mono ?_
 rintro e w2 ⟨rfl, r, s⟩
 have R2 := mkHid r
 have S2 := mkHid (S1.out.trans s)
 have P2 := mkHid (s.at P1.out (by omega))
 clear r s
 go_wp2_with fail
 refine (HO.out w2 R2.out).mono ?_
 intro e w3 hp
 cases r with
 | no p =>
   obtain ⟨⟨m, rfl⟩, r2, s2⟩ := hp
   exact ⟨rfl, ⟨m, rfl⟩, r2, S2.out.trans s2⟩
 | ok t j =>
   obtain ⟨x, rfl, ht, hsx, hnx, r, s⟩ := hp
   have R3 := mkHid r
   have S3 := mkHid (S2.out.trans s)
   have P3 := mkHid (s.at P2.out (by omega))
   clear r s
   have z2 : w.heap.size < w2.heap.size := (Array.getElem?_eq_some_iff.1 P2.out).1
   have z3 : w.heap.size < w3.heap.size := (Array.getElem?_eq_some_iff.1 P3.out).1
   obtain ⟨k, s, m, xa, xc, xk⟩ := x
   have HS := mkHid hsx
   have HN := mkHid hnx
   have HE := mkHid ht
   obtain ⟨c0, c1, c2, c3, f0, f1, f2, f3⟩ := four_of P3.out
   clear hsx hnx ht
   simp only [A.val]
   go_wp2
   obtain ⟨q0, q1, q2, q3⟩ := put4_cells P3.out (.int .i64 27) (.string ⟨#[]⟩) (.int .i64 0) (.slice (some ⟨w3.heap.size, 0, none⟩) 1 1) (.cells #[.int .i64 k, .string s, .int .i64 m, .slice xa xk.length xc] 26)
   refine bodyPost_ret (v := (A.node 27 ⟨#[]⟩ 0 (some ⟨w3.heap.size, 0, none⟩) 1 [.node k s m xa xc xk]).val) (by simp [results, Tryz.results104, go_sem, q0, q1, q2, q3, A.val]) rfl ?_
   have hE := end_list 27 0 ⟨#[]⟩ [.node k s m xa xc xk] #[.int .i64 k, .string s, .int .i64 m, .slice xa xk.length xc] 1 P3.out R3.out hrb S3.out (sitsL_one HS.out) (NewL.one HN.out) z2 (by simp [maxLen]) rfl (by decide)
   have he : erases [A.node k s m xa xc xk] = [t] := by simp only [erases]; rw [HE.out]
   rw [he] at hE
   exact hE
set_option maxRecDepth 100000 in
set_option maxHeartbeats 8000000 in
theorem short_skip {rb : Nat} {a : Option Addr} {cap : Nat} {ws : List W3} {sz F : Nat} (i : Nat) (w : World) (h : Rd w rb a cap ws i sz) (n0 : isW ws i ⟨#[114, 101, 97, 100]⟩ = false) (n1 : isW ws i ⟨#[99, 104, 101, 99, 107]⟩ = false) (h1 : isW ws i ⟨#[115, 107, 105, 112]⟩ = true) :
    Calls Tryz.prog 104 #[.pointer (some ⟨rb, 0, none⟩)] w (Post rb a cap ws sz w (mShort ws F i)) := by
 rw [show mShort ws F i = .ok (.node 28 nil_ 0 []) (i + 1) by unfold mShort; rw [if_neg (by rw [n0]; decide), if_neg (by rw [n1]; decide), if_pos h1]]
 have HA := mkHid h
 have hrb := h.lt
 have C0 := mkHid (fun w h => has_no rb a cap ws i sz ⟨#[114, 101, 97, 100]⟩ w h n0)
 have C1 := mkHid (fun w h => has_no rb a cap ws i sz ⟨#[99, 104, 101, 99, 107]⟩ w h n1)
 have C2 := mkHid (fun w h => has_yes rb a cap ws i sz ⟨#[115, 107, 105, 112]⟩ w h h1)
 clear h h1 n0 n1
 go_enter Tryz.func104, Tryz.ntmps104
 go_wp2_with fail
 refine (C0.out _ (HA.out.alloc _)).mono ?_
 rintro e w1 ⟨rfl, r, s⟩
 have R1 := mkHid r
 have S1 := mkHid (((Step.refl rb w).alloc _).trans s)
 have P1 := mkHid (s.at (heap_alloc_new w _) (by omega))
 clear r s
 go_wp2_with fail
 refine (C1.out _ R1.out).mono ?_
 rintro e w2 ⟨rfl, r, s⟩
 have R2 := mkHid r
 have S2 := mkHid (S1.out.trans s)
 have P2 := mkHid (s.at P1.out (by omega))
 clear r s
 go_wp2_with fail
 refine (C2.out _ R2.out).mono ?_
 rintro e w3 ⟨rfl, r, s⟩
 have R3 := mkHid r
 have S3 := mkHid (S2.out.trans s)
 have P3 := mkHid (s.at P2.out (by omega))
 clear r s
 obtain ⟨c0, c1, c2, c3, f0, f1, f2, f3⟩ := four_of P3.out
 go_wp2
 obtain ⟨q0, q1, q2, q3⟩ := put4_cells0 P3.out (.int .i64 28) (.string ⟨#[]⟩) (.int .i64 0) (.slice none 0 0)
 exact bodyPost_ret (v := (A.node 28 ⟨#[]⟩ 0 none 0 []).val) (by simp [results, Tryz.results104, go_sem, q0, q1, q2, q3, A.val]) rfl (end_leaf 28 0 ⟨#[]⟩ R3.out hrb S3.out (by decide))
set_option maxRecDepth 100000 in
set_option maxHeartbeats 8000000 in
theorem short_stop {rb : Nat} {a : Option Addr} {cap : Nat} {ws : List W3} {sz F : Nat} (i : Nat) (w : World) (h : Rd w rb a cap ws i sz) (n0 : isW ws i ⟨#[114, 101, 97, 100]⟩ = false) (n1 : isW ws i ⟨#[99, 104, 101, 99, 107]⟩ = false) (n2 : isW ws i ⟨#[115, 107, 105, 112]⟩ = false) (h1 : isW ws i ⟨#[115, 116, 111, 112]⟩ = true) :
    Calls Tryz.prog 104 #[.pointer (some ⟨rb, 0, none⟩)] w (Post rb a cap ws sz w (mShort ws F i)) := by
 rw [show mShort ws F i = .ok (.node 29 nil_ 0 []) (i + 1) by unfold mShort; rw [if_neg (by rw [n0]; decide), if_neg (by rw [n1]; decide), if_neg (by rw [n2]; decide), if_pos h1]]
 have HA := mkHid h
 have hrb := h.lt
 have C0 := mkHid (fun w h => has_no rb a cap ws i sz ⟨#[114, 101, 97, 100]⟩ w h n0)
 have C1 := mkHid (fun w h => has_no rb a cap ws i sz ⟨#[99, 104, 101, 99, 107]⟩ w h n1)
 have C2 := mkHid (fun w h => has_no rb a cap ws i sz ⟨#[115, 107, 105, 112]⟩ w h n2)
 have C3 := mkHid (fun w h => has_yes rb a cap ws i sz ⟨#[115, 116, 111, 112]⟩ w h h1)
 clear h h1 n0 n1 n2
 go_enter Tryz.func104, Tryz.ntmps104
 go_wp2_with fail
 refine (C0.out _ (HA.out.alloc _)).mono ?_
 rintro e w1 ⟨rfl, r, s⟩
 have R1 := mkHid r
 have S1 := mkHid (((Step.refl rb w).alloc _).trans s)
 have P1 := mkHid (s.at (heap_alloc_new w _) (by omega))
 clear r s
 go_wp2_with fail
 refine (C1.out _ R1.out).mono ?_
 rintro e w2 ⟨rfl, r, s⟩
 have R2 := mkHid r
 have S2 := mkHid (S1.out.trans s)
 have P2 := mkHid (s.at P1.out (by omega))
 clear r s
 go_wp2_with fail
 refine (C2.out _ R2.out).mono ?_
 rintro e w3 ⟨rfl, r, s⟩
 have R3 := mkHid r
 have S3 := mkHid (S2.out.trans s)
 have P3 := mkHid (s.at P2.out (by omega))
 clear r s
 go_wp2_with fail
 refine (C3.out _ R3.out).mono ?_
 rintro e w4 ⟨rfl, r, s⟩
 have R4 := mkHid r
 have S4 := mkHid (S3.out.trans s)
 have P4 := mkHid (s.at P3.out (by omega))
 clear r s
 obtain ⟨c0, c1, c2, c3, f0, f1, f2, f3⟩ := four_of P4.out
 go_wp2
 obtain ⟨q0, q1, q2, q3⟩ := put4_cells0 P4.out (.int .i64 29) (.string ⟨#[]⟩) (.int .i64 0) (.slice none 0 0)
 exact bodyPost_ret (v := (A.node 29 ⟨#[]⟩ 0 none 0 []).val) (by simp [results, Tryz.results104, go_sem, q0, q1, q2, q3, A.val]) rfl (end_leaf 29 0 ⟨#[]⟩ R4.out hrb S4.out (by decide))
set_option maxRecDepth 100000 in
set_option maxHeartbeats 8000000 in
theorem short_none {rb : Nat} {a : Option Addr} {cap : Nat} {ws : List W3} {sz F : Nat} (i : Nat) (w : World) (h : Rd w rb a cap ws i sz) (n0 : isW ws i ⟨#[114, 101, 97, 100]⟩ = false) (n1 : isW ws i ⟨#[99, 104, 101, 99, 107]⟩ = false) (n2 : isW ws i ⟨#[115, 107, 105, 112]⟩ = false) (n3 : isW ws i ⟨#[115, 116, 111, 112]⟩ = false) (h1 : kindW ws i ≠ 1) :
    Calls Tryz.prog 104 #[.pointer (some ⟨rb, 0, none⟩)] w (Post rb a cap ws sz w (mShort ws F i)) := by
 rw [show mShort ws F i = .no i by unfold mShort; rw [if_neg (by rw [n0]; decide), if_neg (by rw [n1]; decide), if_neg (by rw [n2]; decide), if_neg (by rw [n3]; decide)]; unfold wantK; rw [if_neg h1]]
 have HA := mkHid h
 have hrb := h.lt
 have C0 := mkHid (fun w h => has_no rb a cap ws i sz ⟨#[114, 101, 97, 100]⟩ w h n0)
 have C1 := mkHid (fun w h => has_no rb a cap ws i sz ⟨#[99, 104, 101, 99, 107]⟩ w h n1)
 have C2 := mkHid (fun w h => has_no rb a cap ws i sz ⟨#[115, 107, 105, 112]⟩ w h n2)
 have C3 := mkHid (fun w h => has_no rb a cap ws i sz ⟨#[115, 116, 111, 112]⟩ w h n3)
 have C4 := mkHid (fun w h => name_no rb a cap ws i sz w h h1)
 clear h h1 n0 n1 n2 n3
 go_enter Tryz.func104, Tryz.ntmps104
 go_wp2_with fail
 refine (C0.out _ (HA.out.alloc _)).mono ?_
 rintro e w1 ⟨rfl, r, s⟩
 have R1 := mkHid r
 have S1 := mkHid (((Step.refl rb w).alloc _).trans s)
 have P1 := mkHid (s.at (heap_alloc_new w _) (by omega))
 clear r s
 go_wp2_with fail
 refine (C1.out _ R1.out).mono ?_
 rintro e w2 ⟨rfl, r, s⟩
 have R2 := mkHid r
 have S2 := mkHid (S1.out.trans s)
 have P2 := mkHid (s.at P1.out (by omega))
 clear r s
 go_wp2_with fail
 refine (C2.out _ R2.out).mono ?_
 rintro e w3 ⟨rfl, r, s⟩
 have R3 := mkHid r
 have S3 := mkHid (S2.out.trans s)
 have P3 := mkHid (s.at P2.out (by omega))
 clear r s
 go_wp2_with fail
 refine (C3.out _ R3.out).mono ?_
 rintro e w4 ⟨rfl, r, s⟩
 have R4 := mkHid r
 have S4 := mkHid (S3.out.trans s)
 have P4 := mkHid (s.at P3.out (by omega))
 clear r s
 go_wp2_with fail
 refine (C4.out _ R4.out).mono ?_
 rintro e w5 ⟨⟨m, rfl⟩, r, s⟩
 exact ⟨rfl, ⟨m, rfl⟩, r, S4.out.trans s⟩
end Go.Proofs.YtjmjmdmnejnlbaaGreatDoor
namespace Go.Proofs.YtjmjmdmnejnlbaaGreatDoor
open Go.RowKit
open Pl

theorem Stem.base {rb : Nat} {a : Option Addr} {cap : Nat} {ws : List W3} {sz : Nat} {w : World} {p1 : Nat} {k : Int} {s : ByteArray} {w' : World} {j : Nat} (hL : w'.heap[p1]? = some (.cells #[.int .i64 k, .string s, .int .i64 0, .slice none 0 0] 26 (0, 0)))
    (hP : w'.heap[w.heap.size]? = some (.cells #[.int .i64 0, .string ⟨#[]⟩, .int .i64 0, .slice none 0 0] 26 (0, 0))) (r : Rd w' rb a cap ws j sz) (st : Step rb w w') (hl : w.heap.size < p1) (hr : rb < w.heap.size) : Stem rb a cap ws sz w p1 k s w' [] none 0 j :=
 ⟨hL, hP, World.ownsRow_nil _ _ _ _, trivial, ⟨List.nodup_nil, fun b hb => (by cases hb)⟩, fun g e => (by cases e), r, st, hl, hr⟩
theorem Stem.rest {rb : Nat} {a : Option Addr} {cap : Nat} {ws : List W3} {sz : Nat} {w : World} {p1 : Nat} {k : Int} {s : ByteArray} {w4 : World} {els : List A} {sa : Option Addr} {sc j : Nat} {v : Value} (h : Stem rb a cap ws sz w p1 k s (w4.setCell ⟨p1, 3, none⟩ v) els sa sc j) :
    w4.heap[w.heap.size]? = some (.cells #[.int .i64 0, .string ⟨#[]⟩, .int .i64 0, .slice none 0 0] 26 (0, 0)) :=
 (Below.heap_setCell w4 ⟨p1, 3, none⟩ v w.heap.size (by have := h.lt; show w.heap.size ≠ p1; omega)).symm.trans h.res
set_option maxRecDepth 100000 in
set_option maxHeartbeats 8000000 in
theorem short_set {rb : Nat} {a : Option Addr} {cap : Nat} {ws : List W3} {sz F : Nat} (he : Env ws) (hE : IExpr rb a cap ws sz F) (hF : 5 * ws.length + 3 ≤ F) (i : Nat) (w : World) (h : Rd w rb a cap ws i sz) (n0 : isW ws i ⟨#[114, 101, 97, 100]⟩ = false) (n1 : isW ws i ⟨#[99, 104, 101, 99, 107]⟩ = false) (n2 : isW ws i ⟨#[115, 107, 105, 112]⟩ = false) (n3 : isW ws i ⟨#[115, 116, 111, 112]⟩ = false) (h1 : kindW ws i = 1) (h2 : isW ws (i + 1) ⟨#[91]⟩ = false) :
    Calls Tryz.prog 104 #[.pointer (some ⟨rb, 0, none⟩)] w (Post rb a cap ws sz w (mShort ws F i)) := by
 have hm : mShort ws F i = want ws (i + 1) ⟨#[61]⟩ ((mExpr ws F (i + 2)).then_ fun y j => .ok (.node 21 (textW ws i) 0 [y]) j) := by unfold mShort; rw [if_neg (by rw [n0]; decide), if_neg (by rw [n1]; decide), if_neg (by rw [n2]; decide), if_neg (by rw [n3]; decide)]; unfold wantK; rw [if_pos h1, if_neg (by rw [h2]; decide)]
 rw [hm]
 clear hm
 have ht := he.text i
 have hfew := he.few
 have hil := kindW_lt h1 (by decide)
 by_cases h3 : isW ws (i + 1) ⟨#[61]⟩ = true
 ·rw [show want ws (i + 1) ⟨#[61]⟩ ((mExpr ws F (i + 2)).then_ fun y j => .ok (.node 21 (textW ws i) 0 [y]) j) = (mExpr ws F (i + 2)).then_ fun y j => .ok (.node 21 (textW ws i) 0 [y]) j by unfold want; rw [if_pos h3]]
  have HA := mkHid h
  have hrb := h.lt
  have hO1 := fun w h => hE (i + 2) w (by omega) h
  generalize mExpr ws F (i + 2) = r at hO1 ⊢
  have H1 := mkHid hO1
  obtain ⟨i0, hi0, hz0⟩ := Option.map_eq_some_iff.1 Tryz.info26
  simp only [Prod.mk.injEq] at hz0
  obtain ⟨hz1, hz2, hz3⟩ := hz0
  have HI := mkHid (show Tryz.prog.info? 26 = some i0 ∧ i0.zero = some (.agg #[.int .i64 0, .string ByteArray.empty, .int .i64 0, .slice none 0 0]) ∧ i0.size = 4 ∧ i0.bytes = 56 from ⟨hi0, hz1, hz2, hz3⟩)
  clear hi0 hz1 hz2 hz3
  have C0 := mkHid (fun w h => has_no rb a cap ws i sz ⟨#[114, 101, 97, 100]⟩ w h n0)
  have C1 := mkHid (fun w h => has_no rb a cap ws i sz ⟨#[99, 104, 101, 99, 107]⟩ w h n1)
  have C2 := mkHid (fun w h => has_no rb a cap ws i sz ⟨#[115, 107, 105, 112]⟩ w h n2)
  have C3 := mkHid (fun w h => has_no rb a cap ws i sz ⟨#[115, 116, 111, 112]⟩ w h n3)
  have C4 := mkHid (fun w h => name_yes rb a cap ws i sz w h h1)
  have C5 := mkHid (fun w h => has_no rb a cap ws (i + 1) sz ⟨#[91]⟩ w h h2)
  have C6 := mkHid (fun w h => take_yes rb a cap ws (i + 1) sz ⟨#[61]⟩ w h h3)
  clear h h1 h2 h3 he hE hO1 n0 n1 n2 n3
  go_enter Tryz.func104, Tryz.ntmps104
  go_wp2_with fail
  refine (C0.out _ (HA.out.alloc _)).mono ?_
  rintro e w1 ⟨rfl, r, s⟩
  have R1 := mkHid r
  have S1 := mkHid (((Step.refl rb w).alloc _).trans s)
  have P1 := mkHid (s.at (heap_alloc_new w _) (by omega))
  clear r s
  go_wp2_with fail
  refine (C1.out _ R1.out).mono ?_
  rintro e w2 ⟨rfl, r, s⟩
  have R2 := mkHid r
  have S2 := mkHid (S1.out.trans s)
  have P2 := mkHid (s.at P1.out (by omega))
  clear r s
  go_wp2_with fail
  refine (C2.out _ R2.out).mono ?_
  rintro e w3 ⟨rfl, r, s⟩
  have R3 := mkHid r
  have S3 := mkHid (S2.out.trans s)
  have P3 := mkHid (s.at P2.out (by omega))
  clear r s
  go_wp2_with fail
  refine (C3.out _ R3.out).mono ?_
  rintro e w4 ⟨rfl, r, s⟩
  have R4 := mkHid r
  have S4 := mkHid (S3.out.trans s)
  have P4 := mkHid (s.at P3.out (by omega))
  clear r s
  go_wp2_with fail
  refine (C4.out _ R4.out).mono ?_
  rintro e w5 ⟨rfl, r, s⟩
  have R5 := mkHid r
  have S5 := mkHid (S4.out.trans s)
  have P5 := mkHid (s.at P4.out (by omega))
  clear r s
  go_wp2_with fail
  refine (C5.out _ (R5.out.alloc _)).mono ?_
  rintro e w6 ⟨rfl, r, s⟩
  have R6 := mkHid r
  have S6 := mkHid ((S5.out.alloc _).trans s)
  have P6 := mkHid (s.at ((Lib.alloc_old w5 _ _ (Array.getElem?_eq_some_iff.1 P5.out).1).trans P5.out) (by omega))
  have L6 := mkHid (s.at (heap_alloc_new w5 _) (by have := R5.out.lt; omega))
  have gl : rb < w5.heap.size := R5.out.lt
  clear r s
  go_wp2_with fail
  refine (C6.out _ R6.out).mono ?_
  rintro e w7 ⟨rfl, r, s⟩
  have R7 := mkHid r
  have S7 := mkHid (S6.out.trans s)
  have P7 := mkHid (s.at P6.out (by omega))
  have L7 := mkHid (s.at L6.out (by omega))
  clear r s
  have z5 : w.heap.size < w5.heap.size := (Array.getElem?_eq_some_iff.1 P5.out).1
  obtain ⟨els, sa, sc, hels, hG⟩ : ∃ (els : List A) (sa : Option Addr) (sc : Nat), els = [] ∧ Stem rb a cap ws sz w w5.heap.size 21 (textW ws i) w7 els sa sc (i + 2) := ⟨[], none, 0, rfl, Stem.base L7.out P7.out R7.out S7.out z5 hrb⟩
  have hle : els.length ≤ 1 := by rw [hels]; decide
  have G2 := mkHid hG
  have HEL := mkHid hels
  clear hG hels
  obtain ⟨d0, d1, d2, d3, e0, e1, e2, e3⟩ := four_of G2.out.here
  have hp2 := G2.out.plt
  cases r with
  | no p =>
    go_wp2
    refine wp_region_any (by kernel_rfl) ?_
    change wpAny _ _ _ _ _ _ _ (World.drew _)
    refine wpAny_take (i := 0) (v := ?v1) rfl (by kernel_rfl) (by kernel_rfl) (by kernel_rfl) (fun _ _ _ h => h) (Or.inl ⟨by rfl, ?hy1⟩) ?rest1
    case hy1 => intro w; go_simp; try with_reducible rfl
    refine wpAny_take (i := 2) (v := ?v2) rfl (by kernel_rfl) (by kernel_rfl) (by kernel_rfl) (fun _ _ _ h => h) (Or.inl ⟨by rfl, ?hy2⟩) ?rest2
    case hy2 => intro w; go_simp; try with_reducible rfl
    refine wpAny_ready (rs := [1, 3]) (by kernel_rfl) (by simp) ?_
    refine AllReady.cons rfl (fun K hK => ?_) ?_
    ·go_simp
     refine hK _ _ ?_
     clear hK K
     refine wpAny_ready (rs := [3]) (by kernel_rfl) (by simp) ?_
     refine AllReady.cons rfl (fun K hK => ?_) AllReady.nil
     go_simp
     refine (H1.out _ G2.out.rd.drew).mono ?_
     rintro e w3 ⟨⟨m, rfl⟩, r3, s3⟩
     exact ⟨rfl, ⟨m, rfl⟩, r3, G2.out.step.drew.trans s3⟩
    ·refine AllReady.cons rfl (fun K hK => ?_) AllReady.nil
     go_simp
     refine (H1.out _ G2.out.rd.drew).mono ?_
     rintro e w3 ⟨⟨m, rfl⟩, r3, s3⟩
     exact ⟨rfl, ⟨m, rfl⟩, r3, G2.out.step.drew.trans s3⟩
  | ok y j3 =>
    go_wp2
    go_region_law (first | (go_simp; go_at_call 103; refine (H1.out _ G2.out.rd.drew).mono ?_; rintro e w3 ⟨z, rfl, hz3, hsz, hnz, r3, s3⟩; obtain ⟨zk, zs, zm, za, zc, zkk⟩ := z; simp only [A.val]; have T3 := G2.out.drew.on s3 r3; obtain ⟨b0, b1, b2, b3, g0, g1, g2, g3⟩ := four_of T3.here; have hp3 := T3.plt; have OW := mkHid (T3.own.alloc (.cells #[.int .i64 zk, .string zs, .int .i64 zm, .slice za zkk.length zc] 26)); have HT3 := mkHid T3; have HS3 := mkHid s3; have HZ := mkHid hz3; have HSZ := mkHid hsz; have HNZ := mkHid hnz; have HR3 := mkHid r3; clear T3 s3 hz3 hsz hnz r3) | (refine step_append_lies _ (by rfl) _ _ _ (by rfl) (w5.heap.size + 1) 26 i0 _ 4 56 Tryz.underlying24 HI.out.1 HI.out.2.1 HI.out.2.2.1 HI.out.2.2.2 rfl (by decide) _ _ _ (by rfl) OW.out ⟨w3.heap.size, 0, none⟩ 1 1 [.int .i64 zk, .string zs, .int .i64 zm, .slice za zkk.length zc] (by rfl) (by rfl) (World.news_of_block (heap_alloc_new w3 _)) (fun u hu => by simp at hu; rcases hu with rfl | rfl | rfl | rfl <;> rfl) (by decide) (by unfold maxLen; omega) (by omega) (by simp; omega) (w3.heap.size + 1) (by simp) ?_; intro g cq w4 hown hgrow hat hlt4; have GP := mkHid (Stem.push (x := .node zk zs zm za zc zkk) G2.out.drew HS3.out HR3.out HSZ.out HNZ.out _ hown hgrow hat); have K4 := (hgrow.block w5.heap.size (by simp; omega) (fun e => absurd (OW.out.lt _ e.symm).1 (Nat.not_succ_le_self _))).trans ((Lib.alloc_old w3 _ _ hp3).trans HT3.out.here); clear b0 b1 b2 b3 g0 g1 g2 g3; obtain ⟨l0, l1, l2, l3, m0, m1, m2, m3⟩ := four_of K4; clear K4 hown hgrow hat OW HS3 HSZ HNZ HR3))
    all_goals
     have PR := GP.out.rest
     obtain ⟨c0, c1, c2, c3, f0, f1, f2, f3⟩ := four_of PR
     have hpp := HT3.out.lt
     go_wp2
     obtain ⟨q0, q1, q2, q3⟩ := put4_cells0 GP.out.res (.int .i64 21) (.string (textW ws i)) (.int .i64 0) (.slice (some ⟨g, 0, none⟩) (els.length + 1) cq)
     obtain ⟨t1, t2⟩ := GP.out.tree ht (by simp; unfold maxLen; omega)
     refine bodyPost_ret (v := (A.node 21 (textW ws i) 0 (some ⟨g, 0, none⟩) cq (els ++ [.node zk zs zm za zc zkk])).val) (by simp [results, Tryz.results104, go_sem, q0, q1, q2, q3, A.val]) rfl ?_
     rw [show ((Res.ok y j3).then_ fun y j => .ok (.node 21 (textW ws i) 0 [y]) j) = .ok (.node 21 (textW ws i) 0 [y]) j3 from rfl]
     exact end_tree _ _ _ _ _ GP.out.rd hrb GP.out.step (by simp only [A.erase]; rw [HEL.out]; simp only [List.nil_append, erases]; rw [HZ.out]) t1 t2 (by omega)
 ·rw [show want ws (i + 1) ⟨#[61]⟩ ((mExpr ws F (i + 2)).then_ fun y j => .ok (.node 21 (textW ws i) 0 [y]) j) = .no (i + 1) by unfold want; rw [if_neg h3]]
  have HA := mkHid h
  have hrb := h.lt
  have C0 := mkHid (fun w h => has_no rb a cap ws i sz ⟨#[114, 101, 97, 100]⟩ w h n0)
  have C1 := mkHid (fun w h => has_no rb a cap ws i sz ⟨#[99, 104, 101, 99, 107]⟩ w h n1)
  have C2 := mkHid (fun w h => has_no rb a cap ws i sz ⟨#[115, 107, 105, 112]⟩ w h n2)
  have C3 := mkHid (fun w h => has_no rb a cap ws i sz ⟨#[115, 116, 111, 112]⟩ w h n3)
  have C4 := mkHid (fun w h => name_yes rb a cap ws i sz w h h1)
  have C5 := mkHid (fun w h => has_no rb a cap ws (i + 1) sz ⟨#[91]⟩ w h h2)
  have C6 := mkHid (fun w h => take_no rb a cap ws (i + 1) sz ⟨#[61]⟩ w h (by simpa using h3))
  clear h h1 h2 h3 he hE n0 n1 n2 n3
  go_enter Tryz.func104, Tryz.ntmps104
  go_wp2_with fail
  refine (C0.out _ (HA.out.alloc _)).mono ?_
  rintro e w1 ⟨rfl, r, s⟩
  have R1 := mkHid r
  have S1 := mkHid (((Step.refl rb w).alloc _).trans s)
  have P1 := mkHid (s.at (heap_alloc_new w _) (by omega))
  clear r s
  go_wp2_with fail
  refine (C1.out _ R1.out).mono ?_
  rintro e w2 ⟨rfl, r, s⟩
  have R2 := mkHid r
  have S2 := mkHid (S1.out.trans s)
  have P2 := mkHid (s.at P1.out (by omega))
  clear r s
  go_wp2_with fail
  refine (C2.out _ R2.out).mono ?_
  rintro e w3 ⟨rfl, r, s⟩
  have R3 := mkHid r
  have S3 := mkHid (S2.out.trans s)
  have P3 := mkHid (s.at P2.out (by omega))
  clear r s
  go_wp2_with fail
  refine (C3.out _ R3.out).mono ?_
  rintro e w4 ⟨rfl, r, s⟩
  have R4 := mkHid r
  have S4 := mkHid (S3.out.trans s)
  have P4 := mkHid (s.at P3.out (by omega))
  clear r s
  go_wp2_with fail
  refine (C4.out _ R4.out).mono ?_
  rintro e w5 ⟨rfl, r, s⟩
  have R5 := mkHid r
  have S5 := mkHid (S4.out.trans s)
  have P5 := mkHid (s.at P4.out (by omega))
  clear r s
  go_wp2_with fail
  refine (C5.out _ (R5.out.alloc _)).mono ?_
  rintro e w6 ⟨rfl, r, s⟩
  have R6 := mkHid r
  have S6 := mkHid ((S5.out.alloc _).trans s)
  have P6 := mkHid (s.at ((Lib.alloc_old w5 _ _ (Array.getElem?_eq_some_iff.1 P5.out).1).trans P5.out) (by omega))
  have L6 := mkHid (s.at (heap_alloc_new w5 _) (by have := R5.out.lt; omega))
  have gl : rb < w5.heap.size := R5.out.lt
  clear r s
  go_wp2_with fail
  refine (C6.out _ R6.out).mono ?_
  rintro e w7 ⟨⟨m, rfl⟩, r, s⟩
  exact ⟨rfl, ⟨m, rfl⟩, r, S6.out.trans s⟩
end Go.Proofs.YtjmjmdmnejnlbaaGreatDoor
namespace Go.Proofs.YtjmjmdmnejnlbaaGreatDoor
open Go.RowKit
open Pl

set_option maxRecDepth 100000 in
set_option maxHeartbeats 8000000 in
theorem short_put {rb : Nat} {a : Option Addr} {cap : Nat} {ws : List W3} {sz F : Nat} (he : Env ws) (hE : IExpr rb a cap ws sz F) (hF : 5 * ws.length + 3 ≤ F) (i : Nat) (w : World) (h : Rd w rb a cap ws i sz) (n0 : isW ws i ⟨#[114, 101, 97, 100]⟩ = false) (n1 : isW ws i ⟨#[99, 104, 101, 99, 107]⟩ = false) (n2 : isW ws i ⟨#[115, 107, 105, 112]⟩ = false) (n3 : isW ws i ⟨#[115, 116, 111, 112]⟩ = false) (h1 : kindW ws i = 1) (h2 : isW ws (i + 1) ⟨#[91]⟩ = true) :
    Calls Tryz.prog 104 #[.pointer (some ⟨rb, 0, none⟩)] w (Post rb a cap ws sz w (mShort ws F i)) := by
 have hm : mShort ws F i = (mExpr ws F (i + 2)).then_ (fun x j => want ws j ⟨#[93]⟩ (want ws (j + 1) ⟨#[61]⟩ ((mExpr ws F (j + 2)).then_ fun y j2 => .ok (.node 22 (textW ws i) 0 [x, y]) j2))) := by unfold mShort; rw [if_neg (by rw [n0]; decide), if_neg (by rw [n1]; decide), if_neg (by rw [n2]; decide), if_neg (by rw [n3]; decide)]; unfold wantK; rw [if_pos h1, if_pos h2]
 rw [hm]
 clear hm
 have ht := he.text i
 have hfew := he.few
 have hil := kindW_lt h1 (by decide)
 have HA := mkHid h
 have hrb := h.lt
 have hO1 := fun w h => hE (i + 2) w (by omega) h
 have ha := (adv ws F).2.2.2.1 (i + 2)
 generalize mExpr ws F (i + 2) = r at hO1 ha ⊢
 have H1 := mkHid hO1
 have HE := mkHid hE
 generalize hR : r.then_ (fun x j => want ws j ⟨#[93]⟩ (want ws (j + 1) ⟨#[61]⟩ ((mExpr ws F (j + 2)).then_ fun y j2 => .ok (.node 22 (textW ws i) 0 [x, y]) j2))) = R
 have HR := mkHid hR
 clear hR hO1 hE
 obtain ⟨i0, hi0, hz0⟩ := Option.map_eq_some_iff.1 Tryz.info26
 simp only [Prod.mk.injEq] at hz0
 obtain ⟨hz1, hz2, hz3⟩ := hz0
 have HI := mkHid (show Tryz.prog.info? 26 = some i0 ∧ i0.zero = some (.agg #[.int .i64 0, .string ByteArray.empty, .int .i64 0, .slice none 0 0]) ∧ i0.size = 4 ∧ i0.bytes = 56 from ⟨hi0, hz1, hz2, hz3⟩)
 clear hi0 hz1 hz2 hz3
 have C0 := mkHid (fun w h => has_no rb a cap ws i sz ⟨#[114, 101, 97, 100]⟩ w h n0)
 have C1 := mkHid (fun w h => has_no rb a cap ws i sz ⟨#[99, 104, 101, 99, 107]⟩ w h n1)
 have C2 := mkHid (fun w h => has_no rb a cap ws i sz ⟨#[115, 107, 105, 112]⟩ w h n2)
 have C3 := mkHid (fun w h => has_no rb a cap ws i sz ⟨#[115, 116, 111, 112]⟩ w h n3)
 have C4 := mkHid (fun w h => name_yes rb a cap ws i sz w h h1)
 have C5 := mkHid (fun w h => has_yes rb a cap ws (i + 1) sz ⟨#[91]⟩ w h h2)
 clear h h1 h2 he n0 n1 n2 n3
 go_enter Tryz.func104, Tryz.ntmps104
 go_wp2_with fail
 refine (C0.out _ (HA.out.alloc _)).mono ?_
 rintro e w1 ⟨rfl, r, s⟩
 have R1 := mkHid r
 have S1 := mkHid (((Step.refl rb w).alloc _).trans s)
 have P1 := mkHid (s.at (heap_alloc_new w _) (by omega))
 clear r s
 go_wp2_with fail
 refine (C1.out _ R1.out).mono ?_
 rintro e w2 ⟨rfl, r, s⟩
 have R2 := mkHid r
 have S2 := mkHid (S1.out.trans s)
 have P2 := mkHid (s.at P1.out (by omega))
 clear r s
 go_wp2_with fail
 refine (C2.out _ R2.out).mono ?_
 rintro e w3 ⟨rfl, r, s⟩
 have R3 := mkHid r
 have S3 := mkHid (S2.out.trans s)
 have P3 := mkHid (s.at P2.out (by omega))
 clear r s
 go_wp2_with fail
 refine (C3.out _ R3.out).mono ?_
 rintro e w4 ⟨rfl, r, s⟩
 have R4 := mkHid r
 have S4 := mkHid (S3.out.trans s)
 have P4 := mkHid (s.at P3.out (by omega))
 clear r s
 go_wp2_with fail
 refine (C4.out _ R4.out).mono ?_
 rintro e w5 ⟨rfl, r, s⟩
 have R5 := mkHid r
 have S5 := mkHid (S4.out.trans s)
 have P5 := mkHid (s.at P4.out (by omega))
 clear r s
 go_wp2_with fail
 refine (C5.out _ (R5.out.alloc _)).mono ?_
 rintro e w6 ⟨rfl, r, s⟩
 have R6 := mkHid r
 have S6 := mkHid ((S5.out.alloc _).trans s)
 have P6 := mkHid (s.at ((Lib.alloc_old w5 _ _ (Array.getElem?_eq_some_iff.1 P5.out).1).trans P5.out) (by omega))
 have L6 := mkHid (s.at (heap_alloc_new w5 _) (by have := R5.out.lt; omega))
 have gl : rb < w5.heap.size := R5.out.lt
 clear r s
 have z5 : w.heap.size < w5.heap.size := (Array.getElem?_eq_some_iff.1 P5.out).1
 obtain ⟨d0, d1, d2, d3, e0, e1, e2, e3⟩ := four_of L6.out
 go_wp2
 clear d0 d1 d2 d3 e0 e1 e2 e3
 have hG0 := (Stem.base L6.out P6.out R6.out S6.out z5 hrb).kind 22
 generalize w6.setCell ⟨w5.heap.size, 0, none⟩ (.int .i64 22) = W at hG0 ⊢
 obtain ⟨els, sa, sc, hels, hG⟩ : ∃ (els : List A) (sa : Option Addr) (sc : Nat), els = [] ∧ Stem rb a cap ws sz w w5.heap.size 22 (textW ws i) W els sa sc (i + 2) := ⟨[], none, 0, rfl, hG0⟩
 have hle : els.length ≤ 1 := by rw [hels]; decide
 have G2 := mkHid hG
 have HEL := mkHid hels
 clear hG hels hG0
 obtain ⟨d0, d1, d2, d3, e0, e1, e2, e3⟩ := four_of G2.out.here
 have hp2 := G2.out.plt
 cases r with
 | no p =>
   refine wp_region_any (by kernel_rfl) ?_
   change wpAny _ _ _ _ _ _ _ (World.drew _)
   refine wpAny_take (i := 0) (v := ?_) rfl (by kernel_rfl) (by kernel_rfl) (by kernel_rfl) (fun _ _ _ h => h) (Or.inl ⟨by rfl, ?_⟩) ?_
   rotate_left 1
   ·intro w; go_simp; try with_reducible rfl
   refine wpAny_take (i := 2) (v := ?_) rfl (by kernel_rfl) (by kernel_rfl) (by kernel_rfl) (fun _ _ _ h => h) (Or.inl ⟨by rfl, ?_⟩) ?_
   rotate_left 1
   ·intro w; go_simp; try with_reducible rfl
   refine wpAny_ready (rs := [1, 3]) (by kernel_rfl) (by simp) ?_
   refine AllReady.cons rfl (fun K hK => ?_) ?_
   ·go_simp
    refine hK _ _ ?_
    clear hK K
    refine wpAny_ready (rs := [3]) (by kernel_rfl) (by simp) ?_
    refine AllReady.cons rfl (fun K hK => ?_) AllReady.nil
    go_simp
    refine (H1.out _ G2.out.rd.drew).mono ?_
    rintro e w3 ⟨⟨m, rfl⟩, r3, s3⟩
    exact ⟨rfl, by rw [← HR.out]; exact ⟨⟨m, rfl⟩, r3, G2.out.step.drew.trans s3⟩⟩
   ·refine AllReady.cons rfl (fun K hK => ?_) AllReady.nil
    go_simp
    refine (H1.out _ G2.out.rd.drew).mono ?_
    rintro e w3 ⟨⟨m, rfl⟩, r3, s3⟩
    exact ⟨rfl, by rw [← HR.out]; exact ⟨⟨m, rfl⟩, r3, G2.out.step.drew.trans s3⟩⟩
 | ok y j3 =>
   obtain ⟨hj3, hj3l⟩ := ha y j3 rfl
   clear ha
   go_region_law (first | (go_simp; go_at_call 103; refine (H1.out _ G2.out.rd.drew).mono ?_; rintro e w3 ⟨z, rfl, hz3, hsz, hnz, r3, s3⟩; obtain ⟨zk, zs, zm, za, zc, zkk⟩ := z; simp only [A.val]; have T3 := G2.out.drew.on s3 r3; obtain ⟨b0, b1, b2, b3, g0, g1, g2, g3⟩ := four_of T3.here; have hp3 := T3.plt; have OW := mkHid (T3.own.alloc (.cells #[.int .i64 zk, .string zs, .int .i64 zm, .slice za zkk.length zc] 26)); have HT3 := mkHid T3; have HS3 := mkHid s3; have HZ := mkHid hz3; have HSZ := mkHid hsz; have HNZ := mkHid hnz; have HR3 := mkHid r3; clear T3 s3 hz3 hsz hnz r3) | (refine step_append_lies _ (by rfl) _ _ _ (by rfl) (w5.heap.size + 1) 26 i0 _ 4 56 Tryz.underlying24 HI.out.1 HI.out.2.1 HI.out.2.2.1 HI.out.2.2.2 rfl (by decide) _ _ _ (by rfl) OW.out ⟨w3.heap.size, 0, none⟩ 1 1 [.int .i64 zk, .string zs, .int .i64 zm, .slice za zkk.length zc] (by rfl) (by rfl) (World.news_of_block (heap_alloc_new w3 _)) (fun u hu => by simp at hu; rcases hu with rfl | rfl | rfl | rfl <;> rfl) (by decide) (by unfold maxLen; omega) (by omega) (by simp; omega) (w3.heap.size + 1) (by simp) ?_; intro g cq w4 hown hgrow hat hlt4; have GP := mkHid (Stem.push (x := .node zk zs zm za zc zkk) G2.out.drew HS3.out HR3.out HSZ.out HNZ.out _ hown hgrow hat); have K4 := (hgrow.block w5.heap.size (by simp; omega) (fun e => absurd (OW.out.lt _ e.symm).1 (Nat.not_succ_le_self _))).trans ((Lib.alloc_old w3 _ _ hp3).trans HT3.out.here); clear b0 b1 b2 b3 g0 g1 g2 g3; obtain ⟨l0, l1, l2, l3, m0, m1, m2, m3⟩ := four_of K4; clear K4 hown hgrow hat OW HS3 HSZ HNZ HR3))
   all_goals
       clear HT3
       by_cases h3 : isW ws j3 ⟨#[93]⟩ = true
       ·have T8 := mkHid (fun w h => take_yes rb a cap ws j3 sz ⟨#[93]⟩ w h h3)
        go_wp2_with fail
        refine (T8.out _ GP.out.rd).mono ?_
        rintro e w8 ⟨rfl, r8, s8⟩
        have G8 := mkHid (GP.out.on s8 r8)
        clear r8 s8 l0 l1 l2 l3 m0 m1 m2 m3
        by_cases h4 : isW ws (j3 + 1) ⟨#[61]⟩ = true
        ·have T9 := mkHid (fun w h => take_yes rb a cap ws (j3 + 1) sz ⟨#[61]⟩ w h h4)
         have hj4 := isW_lt h4
         have hO2 := fun w h => HE.out (j3 + 2) w (by omega) h
         have HR2 : Hid ((mExpr ws F (j3 + 2)).then_ (fun z j2 => .ok (.node 22 (textW ws i) 0 [y, z]) j2) = R) := by
          show _ = _
          rw [← HR.out]
          simp only [Res.then_, want]
          rw [if_pos h3, if_pos h4]
         clear HR h3 h4
         generalize mExpr ws F (j3 + 2) = r2 at hO2 HR2
         have H2 := mkHid hO2
         clear hO2
         go_wp2_with fail
         refine (T9.out _ G8.out.rd).mono ?_
         rintro e w9 ⟨rfl, r9, s9⟩
         have G9 := mkHid (G8.out.on s9 r9)
         clear r9 s9 G8
         obtain ⟨els9, sa9, sc9, hel9, hG9⟩ : ∃ (els9 : List A) (sa9 : Option Addr) (sc9 : Nat), els9 = els ++ [.node zk zs zm za zc zkk] ∧ Stem rb a cap ws sz w w5.heap.size 22 (textW ws i) w9 els9 sa9 sc9 (j3 + 2) := ⟨_, _, _, rfl, G9.out⟩
         have hle9 : els9.length ≤ 2 := by rw [hel9]; simp; omega
         have HEL9 := mkHid hel9
         have GA := mkHid hG9
         clear hel9 hG9 G9 GP H1 T8 T9 HE d0 d1 d2 d3 e0 e1 e2 e3
         obtain ⟨d0, d1, d2, d3, e0, e1, e2, e3⟩ := four_of GA.out.here
         have hp9 := GA.out.plt
         cases r2 with
         | no p =>
           go_wp2
           refine wp_region_any (by kernel_rfl) ?_
           change wpAny _ _ _ _ _ _ _ (World.drew _)
           refine wpAny_take (i := 0) (v := ?_) rfl (by kernel_rfl) (by kernel_rfl) (by kernel_rfl) (fun _ _ _ h => h) (Or.inl ⟨by rfl, ?_⟩) ?_
           rotate_left 1
           ·intro w; go_simp; try with_reducible rfl
           refine wpAny_take (i := 2) (v := ?_) rfl (by kernel_rfl) (by kernel_rfl) (by kernel_rfl) (fun _ _ _ h => h) (Or.inl ⟨by rfl, ?_⟩) ?_
           rotate_left 1
           ·intro w; go_simp; try with_reducible rfl
           refine wpAny_ready (rs := [1, 3]) (by kernel_rfl) (by simp) ?_
           refine AllReady.cons rfl (fun K hK => ?_) ?_
           ·go_simp
            refine hK _ _ ?_
            clear hK K
            refine wpAny_ready (rs := [3]) (by kernel_rfl) (by simp) ?_
            refine AllReady.cons rfl (fun K hK => ?_) AllReady.nil
            go_simp
            refine (H2.out _ GA.out.rd.drew).mono ?_
            rintro e w3 ⟨⟨m, rfl⟩, r3, s3⟩
            exact ⟨rfl, by rw [← HR2.out]; exact ⟨⟨m, rfl⟩, r3, GA.out.step.drew.trans s3⟩⟩
           ·refine AllReady.cons rfl (fun K hK => ?_) AllReady.nil
            go_simp
            refine (H2.out _ GA.out.rd.drew).mono ?_
            rintro e w3 ⟨⟨m, rfl⟩, r3, s3⟩
            exact ⟨rfl, by rw [← HR2.out]; exact ⟨⟨m, rfl⟩, r3, GA.out.step.drew.trans s3⟩⟩
         | ok y9 j9 =>
           go_wp2
           go_region_law (first | (go_simp; go_at_call 103; refine (H2.out _ GA.out.rd.drew).mono ?_; rintro e w39 ⟨z, rfl, hz3, hsz, hnz, r3, s3⟩; obtain ⟨zk9, zs9, zm9, za9, zc9, zkk9⟩ := z; simp only [A.val]; have T3 := GA.out.drew.on s3 r3; obtain ⟨b0, b1, b2, b3, g0, g1, g2, g3⟩ := four_of T3.here; have hp39 := T3.plt; have OW := mkHid (T3.own.alloc (.cells #[.int .i64 zk9, .string zs9, .int .i64 zm9, .slice za9 zkk9.length zc9] 26)); have HT3 := mkHid T3; have HS3 := mkHid s3; have HZ9 := mkHid hz3; have HSZ := mkHid hsz; have HNZ := mkHid hnz; have HR3 := mkHid r3; clear T3 s3 hz3 hsz hnz r3) | (refine step_append_lies _ (by rfl) _ _ _ (by rfl) (w5.heap.size + 1) 26 i0 _ 4 56 Tryz.underlying24 HI.out.1 HI.out.2.1 HI.out.2.2.1 HI.out.2.2.2 rfl (by decide) _ _ _ (by rfl) OW.out ⟨w39.heap.size, 0, none⟩ 1 1 [.int .i64 zk9, .string zs9, .int .i64 zm9, .slice za9 zkk9.length zc9] (by rfl) (by rfl) (World.news_of_block (heap_alloc_new w39 _)) (fun u hu => by simp at hu; rcases hu with rfl | rfl | rfl | rfl <;> rfl) (by decide) (by unfold maxLen; omega) (by omega) (by simp; omega) (w39.heap.size + 1) (by simp) ?_; intro g9 cq9 w49 hown hgrow hat hlt4; have GP9 := mkHid (Stem.push (x := .node zk9 zs9 zm9 za9 zc9 zkk9) GA.out.drew HS3.out HR3.out HSZ.out HNZ.out _ hown hgrow hat); have K4 := (hgrow.block w5.heap.size (by simp; omega) (fun e => absurd (OW.out.lt _ e.symm).1 (Nat.not_succ_le_self _))).trans ((Lib.alloc_old w39 _ _ hp39).trans HT3.out.here); clear b0 b1 b2 b3 g0 g1 g2 g3; obtain ⟨l0, l1, l2, l3, m0, m1, m2, m3⟩ := four_of K4; clear K4 hown hgrow hat OW HS3 HSZ HNZ HR3))
           all_goals
               have PR := GP9.out.rest
               obtain ⟨c0, c1, c2, c3, f0, f1, f2, f3⟩ := four_of PR
               have hpp := HT3.out.lt
               go_wp2
               obtain ⟨q0, q1, q2, q3⟩ := put4_cells0 GP9.out.res (.int .i64 22) (.string (textW ws i)) (.int .i64 0) (.slice (some ⟨g9, 0, none⟩) (els9.length + 1) cq9)
               obtain ⟨t1, t2⟩ := GP9.out.tree ht (by simp; unfold maxLen; omega)
               refine bodyPost_ret (v := (A.node 22 (textW ws i) 0 (some ⟨g9, 0, none⟩) cq9 (els9 ++ [.node zk9 zs9 zm9 za9 zc9 zkk9])).val) (by simp [results, Tryz.results104, go_sem, q0, q1, q2, q3, A.val]) rfl ?_
               rw [← HR2.out]
               exact end_tree _ _ _ _ _ GP9.out.rd hrb GP9.out.step (by simp only [A.erase]; rw [HEL9.out, HEL.out]; simp only [List.nil_append, List.cons_append, erases]; rw [HZ.out, HZ9.out]) t1 t2 (by omega)
        ·have T9 := mkHid (fun w h => take_no rb a cap ws (j3 + 1) sz ⟨#[61]⟩ w h (by simpa using h4))
         have HR2 : Hid (R = .no (j3 + 1)) := by
          show _ = _
          rw [← HR.out]
          simp only [Res.then_, want]
          rw [if_pos h3, if_neg h4]
         clear HR h3 h4
         go_wp2_with fail
         refine (T9.out _ G8.out.rd).mono ?_
         rintro e w9 ⟨⟨m, rfl⟩, r9, s9⟩
         exact ⟨rfl, by rw [HR2.out]; exact ⟨⟨m, rfl⟩, r9, G8.out.step.trans s9⟩⟩
       ·have T8 := mkHid (fun w h => take_no rb a cap ws j3 sz ⟨#[93]⟩ w h (by simpa using h3))
        have HR2 : Hid (R = .no j3) := by
         show _ = _
         rw [← HR.out]
         simp only [Res.then_, want]
         rw [if_neg h3]
        clear HR h3
        go_wp2_with fail
        refine (T8.out _ GP.out.rd).mono ?_
        rintro e w8 ⟨⟨m, rfl⟩, r8, s8⟩
        exact ⟨rfl, by rw [HR2.out]; exact ⟨⟨m, rfl⟩, r8, GP.out.step.trans s8⟩⟩
def IShort (rb : Nat) (a : Option Addr) (cap : Nat) (ws : List W3) (sz : Nat) (F : Nat) : Prop := ∀ (i : Nat) (w : World), Rd w rb a cap ws i sz →
 Calls Tryz.prog 104 #[.pointer (some ⟨rb, 0, none⟩)] w (Post rb a cap ws sz w (mShort ws F i))
theorem short_all {rb : Nat} {a : Option Addr} {cap : Nat} {ws : List W3} {sz F : Nat} (he : Env ws) (hE : IExpr rb a cap ws sz F) (hF : 5 * ws.length + 3 ≤ F) (hC : ICond rb a cap ws sz F) : IShort rb a cap ws sz F := by
 intro i w h
 by_cases n0 : isW ws i ⟨#[114, 101, 97, 100]⟩ = true
 ·exact short_read he i w h n0
 ·simp only [Bool.not_eq_true] at n0
  by_cases n1 : isW ws i ⟨#[99, 104, 101, 99, 107]⟩ = true
  ·exact short_check hC i w h n0 n1
  ·simp only [Bool.not_eq_true] at n1
   by_cases n2 : isW ws i ⟨#[115, 107, 105, 112]⟩ = true
   ·exact short_skip i w h n0 n1 n2
   ·simp only [Bool.not_eq_true] at n2
    by_cases n3 : isW ws i ⟨#[115, 116, 111, 112]⟩ = true
    ·exact short_stop i w h n0 n1 n2 n3
    ·simp only [Bool.not_eq_true] at n3
     by_cases h1 : kindW ws i = 1
     ·by_cases h2 : isW ws (i + 1) ⟨#[91]⟩ = true
      ·exact short_put he hE hF i w h n0 n1 n2 n3 h1 h2
      ·exact short_set he hE hF i w h n0 n1 n2 n3 h1 (by simpa using h2)
     ·exact short_none i w h n0 n1 n2 n3 h1
end Go.Proofs.YtjmjmdmnejnlbaaGreatDoor
