/-
  CONTRACT of the program's reader's one.
  CONTRACT of the program's reader's one: its other cases.
  CONTRACT of the program's reader's one: cells; all together.
-/
import Derived.Test.YtjmjmdmnejnlbaaGreatDoorMGroveb
namespace Go.Proofs.YtjmjmdmnejnlbaaGreatDoor
open Go.RowKit
open Pl

/-- What is the same in all parts of a reading. -/
structure Env (ws : List W3) : Prop where
 ok : WsOk ws
 few : ws.length ≤ 1500
 short : ∀ x ∈ ws, x.s.size ≤ 4000
theorem Env.text {ws : List W3} (h : Env ws) (i : Nat) : (textW ws i).size ≤ maxLen := by
 unfold textW maxLen
 by_cases q : i < ws.length
 ·rw [List.getElem?_eq_getElem q]
  have := h.short _ (List.getElem_mem q)
  simp only
  omega
 ·rw [List.getElem?_eq_none (by omega)]
  exact Nat.zero_le _
def IOne (rb : Nat) (a : Option Addr) (cap : Nat) (ws : List W3) (sz : Nat) (f : Nat) : Prop := ∀ (i : Nat) (w : World), 5 * (ws.length - i) + 1 ≤ f → Rd w rb a cap ws i sz →
 Calls Tryz.prog 127 #[.pointer (some ⟨rb, 0, none⟩)] w (Post rb a cap ws sz w (mOne ws f i))
def IExpr (rb : Nat) (a : Option Addr) (cap : Nat) (ws : List W3) (sz : Nat) (f : Nat) : Prop := ∀ (i : Nat) (w : World), 5 * (ws.length - i) + 3 ≤ f → Rd w rb a cap ws i sz →
 Calls Tryz.prog 103 #[.pointer (some ⟨rb, 0, none⟩)] w (Post rb a cap ws sz w (mExpr ws f i))
set_option maxRecDepth 100000 in
set_option maxHeartbeats 1000000 in
theorem one_neg {rb : Nat} {a : Option Addr} {cap : Nat} {ws : List W3} {sz f : Nat} (hO : IOne rb a cap ws sz f) (i : Nat) (w : World) (hf : 5 * (ws.length - i) + 1 ≤ f + 1) (h : Rd w rb a cap ws i sz) (h1 : isW ws i ⟨#[45]⟩ = true) :
    Calls Tryz.prog 127 #[.pointer (some ⟨rb, 0, none⟩)] w (Post rb a cap ws sz w (mOne ws (f + 1) i)) := by
 have hlt := isW_lt h1
 have HM := mkHid (show mOne ws (f + 1) i = (mOne ws f (i + 1)).then_ fun x j => .ok (.node 5 nil_ 0 [x]) j by simp only [mOne]; rw [if_pos h1])
 rw [HM.out]
 have hO1 := fun w h => hO (i + 1) w (by omega) h
 generalize mOne ws f (i + 1) = r at hO1 ⊢
 have HO := mkHid hO1
 have HA := mkHid h
 have hrb := h.lt
 have HT := mkHid (fun w h => has_yes rb a cap ws i sz ⟨#[45]⟩ w h h1)
 clear HM hO h h1 hO1
 go_enter Tryz.func127, Tryz.ntmps127
 go_wp2_with fail
 refine (HT.out _ (HA.out.alloc _)).mono ?_
 rintro e w1 ⟨rfl, r1, s1⟩
 have R1 := mkHid r1
 have S1 := mkHid (((Step.refl rb w).alloc _).trans s1)
 have P1 := mkHid (s1.at (heap_alloc_new w _) (by omega))
 clear r1 s1
 go_wp2_with fail
 refine (HO.out w1 R1.out).mono ?_
 intro e w2 hp
 cases r with
 | no p =>
   obtain ⟨⟨m, rfl⟩, r2, s2⟩ := hp
   exact ⟨rfl, ⟨m, rfl⟩, r2, S1.out.trans s2⟩
 | ok t j =>
   obtain ⟨x, rfl, ht, hsx, hnx, r2, s2⟩ := hp
   have P2 := s2.at P1.out (by omega)
   have z1 : w.heap.size < w1.heap.size := (Array.getElem?_eq_some_iff.1 P1.out).1
   have z2 : w.heap.size < w2.heap.size := (Array.getElem?_eq_some_iff.1 P2).1
   have HL := mkHid (Sits.lt x hsx)
   obtain ⟨k, s, m, xa, xc, xk⟩ := x
   have R2 := mkHid r2
   have S2 := mkHid (S1.out.trans s2)
   have HS := mkHid hsx
   have HN := mkHid hnx
   have HE := mkHid ht
   obtain ⟨c0, c1, c2, c3, f0, f1, f2, f3⟩ := four_of P2
   have HP := mkHid P2
   clear P2 r2 s2 hsx hnx ht
   simp only [A.val]
   go_wp2
   obtain ⟨q0, q1, q2, q3⟩ := put4_cells HP.out (.int .i64 5) (.string ⟨#[]⟩) (.int .i64 0) (.slice (some ⟨w2.heap.size, 0, none⟩) 1 1) (.cells #[.int .i64 k, .string s, .int .i64 m, .slice xa xk.length xc] 26)
   refine bodyPost_ret (v := (A.node 5 ⟨#[]⟩ 0 (some ⟨w2.heap.size, 0, none⟩) 1 [.node k s m xa xc xk]).val) (by simp [results, Tryz.results127, go_sem, q0, q1, q2, q3, A.val]) rfl ?_
   have hE := end_list 5 0 ⟨#[]⟩ [.node k s m xa xc xk] #[.int .i64 k, .string s, .int .i64 m, .slice xa xk.length xc] 1 HP.out R2.out hrb S2.out (sitsL_one HS.out) (NewL.one HN.out) z1 (by simp [maxLen]) rfl (by decide)
   have he : erases [A.node k s m xa xc xk] = [t] := by simp only [erases]; rw [HE.out]
   rw [he] at hE
   exact hE
end Go.Proofs.YtjmjmdmnejnlbaaGreatDoor
namespace Go.Proofs.YtjmjmdmnejnlbaaGreatDoor
open Go.RowKit
open Pl

set_option maxRecDepth 100000 in
set_option maxHeartbeats 1000000 in
theorem one_par {rb : Nat} {a : Option Addr} {cap : Nat} {ws : List W3} {sz f : Nat} (hE : IExpr rb a cap ws sz f) (i : Nat) (w : World) (hf : 5 * (ws.length - i) + 1 ≤ f + 1) (h : Rd w rb a cap ws i sz) (n0 : isW ws i ⟨#[45]⟩ = false) (h1 : isW ws i ⟨#[40]⟩ = true) :
    Calls Tryz.prog 127 #[.pointer (some ⟨rb, 0, none⟩)] w (Post rb a cap ws sz w (mOne ws (f + 1) i)) := by
 have hlt := isW_lt h1
 have HM := mkHid (show mOne ws (f + 1) i = (mExpr ws f (i + 1)).then_ fun x j => want ws j ⟨#[41]⟩ (.ok x (j + 1)) by simp only [mOne]; rw [if_neg (by rw [n0]; decide), if_pos h1])
 rw [HM.out]
 have hE1 := fun w h => hE (i + 1) w (by omega) h
 generalize mExpr ws f (i + 1) = r at hE1 ⊢
 have HE := mkHid hE1
 have HA := mkHid h
 have hrb := h.lt
 have N0 := mkHid (fun w h => has_no rb a cap ws i sz ⟨#[45]⟩ w h n0)
 have Y1 := mkHid (fun w h => has_yes rb a cap ws i sz ⟨#[40]⟩ w h h1)
 clear HM hE h h1 hE1 n0
 go_enter Tryz.func127, Tryz.ntmps127
 go_wp2_with fail
 refine (N0.out _ (HA.out.alloc _)).mono ?_
 rintro e w1 ⟨rfl, r, s⟩
 have R1 := mkHid r
 have S1 := mkHid (((Step.refl rb w).alloc _).trans s)
 have P1 := mkHid (s.at (heap_alloc_new w _) (by omega))
 clear r s
 go_wp2_with fail
 refine (Y1.out _ R1.out).mono ?_
 rintro e w2 ⟨rfl, r, s⟩
 have R2 := mkHid r
 have S2 := mkHid (S1.out.trans s)
 have P2 := mkHid (s.at P1.out (by omega))
 clear r s
 go_wp2_with fail
 refine (HE.out w2 R2.out).mono ?_
 intro e w3 hp
 cases r with
 | no p =>
   obtain ⟨⟨m, rfl⟩, r2, s2⟩ := hp
   exact ⟨rfl, ⟨m, rfl⟩, r2, S2.out.trans s2⟩
 | ok t j =>
   obtain ⟨x, rfl, ht, hsx, hnx, r, s⟩ := hp
   have R3 := mkHid r
   have S3 := mkHid (S2.out.trans s)
   have P3 := mkHid (s.at P2.out (by omega))
   clear r s
   have z2 : w.heap.size < w2.heap.size := (Array.getElem?_eq_some_iff.1 P2.out).1
   have z3 : w.heap.size < w3.heap.size := (Array.getElem?_eq_some_iff.1 P3.out).1
   have hsx' := ((Step.refl rb w3).alloc (.cells x.cells.toArray 26)).sits hsx (fun q hq => by have := hnx.2 q hq; have := R2.out.lt; omega)
   obtain ⟨xk, xs, xm, xa, xc, xkk⟩ := x
   simp only [A.cells] at hsx'
   have HS := mkHid hsx'
   have HN := mkHid hnx
   have HT := mkHid ht
   clear hsx' hsx hnx ht
   simp only [A.val]
   by_cases hw : isW ws j ⟨#[41]⟩ = true
   ·have HQ := mkHid (fun w h => take_yes rb a cap ws j sz ⟨#[41]⟩ w h hw)
    have HM := mkHid (show ((Res.ok t j).then_ fun x j => want ws j ⟨#[41]⟩ (.ok x (j + 1))) = .ok t (j + 1) by simp only [Res.then_, want]; rw [if_pos hw])
    clear hw
    go_wp2_with fail
    refine (HQ.out _ (R3.out.alloc _)).mono ?_
    rintro e w4 ⟨rfl, r, s⟩
    have P4 := mkHid (s.at ((Lib.alloc_old w3 _ _ z3).trans P3.out) (by omega))
    have L4 := s.at (heap_alloc_new w3 _) (by have := R3.out.lt; omega)
    have HS4 := mkHid (s.sits HS.out (fun q hq => by have := HN.out.2 q hq; have := R2.out.lt; omega))
    have S4 := mkHid ((S3.out.alloc _).trans s)
    have R4 := mkHid r
    clear r s
    obtain ⟨d0, d1, d2, d3, _⟩ := four_of L4
    obtain ⟨c0, c1, c2, c3, f0, f1, f2, f3⟩ := four_of P4.out
    clear L4
    go_wp2
    obtain ⟨q0, q1, q2, q3⟩ := put4_cells0 P4.out (.int .i64 xk) (.string xs) (.int .i64 xm) (.slice xa xkk.length xc)
    exact bodyPost_ret (v := (A.node xk xs xm xa xc xkk).val) (by simp [results, Tryz.results127, go_sem, q0, q1, q2, q3, A.val]) rfl (by rw [HM.out]; exact end_tree _ _ _ _ _ R4.out hrb S4.out HT.out HS4.out HN.out z2)
   ·have HQ := mkHid (fun w h => take_no rb a cap ws j sz ⟨#[41]⟩ w h (by simpa using hw))
    have HM := mkHid (show ((Res.ok t j).then_ fun x j => want ws j ⟨#[41]⟩ (.ok x (j + 1))) = .no j by simp only [Res.then_, want]; rw [if_neg hw])
    clear hw
    go_wp2_with fail
    refine (HQ.out _ (R3.out.alloc _)).mono ?_
    rintro e w4 ⟨⟨m, rfl⟩, r, s⟩
    exact ⟨rfl, by rw [HM.out]; exact ⟨⟨m, rfl⟩, r, (S3.out.alloc _).trans s⟩⟩
theorem seesKind_yes (rb : Nat) (a : Option Addr) (cap : Nat) (ws : List W3) (i sz : Nat) (k : Int) (w : World) (h : Rd w rb a cap ws i sz) (hk : kindW ws i = k ∧ k ≠ 0) :
    Calls Tryz.prog 124 #[.pointer (some ⟨rb, 0, none⟩), .int .i64 k] w fun e w' => e = .returned (.bool true) ∧ Rd w' rb a cap ws i sz ∧ Step rb w w' := by
 refine (seesKind_any rb a cap ws i sz k hk.2 w h).mono ?_
 rintro e w1 ⟨rfl, n, rfl⟩
 exact ⟨ret_bool (by simpa using hk.1), h.drewN n, (Step.refl rb w).drewN n⟩
theorem seesKind_no (rb : Nat) (a : Option Addr) (cap : Nat) (ws : List W3) (i sz : Nat) (k : Int) (hk : k ≠ 0) (w : World) (h : Rd w rb a cap ws i sz) (hn : kindW ws i ≠ k) :
    Calls Tryz.prog 124 #[.pointer (some ⟨rb, 0, none⟩), .int .i64 k] w fun e w' => e = .returned (.bool false) ∧ Rd w' rb a cap ws i sz ∧ Step rb w w' := by
 refine (seesKind_any rb a cap ws i sz k hk w h).mono ?_
 rintro e w1 ⟨rfl, n, rfl⟩
 exact ⟨ret_bool (by simpa using hn), h.drewN n, (Step.refl rb w).drewN n⟩
set_option maxRecDepth 100000 in
set_option maxHeartbeats 1000000 in
theorem one_len {rb : Nat} {a : Option Addr} {cap : Nat} {ws : List W3} {sz f : Nat} (he : Env ws) (i : Nat) (w : World) (h : Rd w rb a cap ws i sz) (n0 : isW ws i ⟨#[45]⟩ = false) (n1 : isW ws i ⟨#[40]⟩ = false) (h1 : isW ws i ⟨#[108, 101, 110]⟩ = true) :
    Calls Tryz.prog 127 #[.pointer (some ⟨rb, 0, none⟩)] w (Post rb a cap ws sz w (mOne ws (f + 1) i)) := by
 have hm : mOne ws (f + 1) i = want ws (i + 1) ⟨#[40]⟩ (wantK ws (i + 2) 1 (want ws (i + 3) ⟨#[41]⟩ (.ok (.node 4 (textW ws (i + 2)) 0 []) (i + 4)))) := by simp only [mOne]; rw [if_neg (by rw [n0]; decide), if_neg (by rw [n1]; decide), if_pos h1]
 rw [hm]
 clear hm
 have ht := he.text (i + 2)
 by_cases h2 : isW ws (i + 1) ⟨#[40]⟩ = true
 ·by_cases h3 : kindW ws (i + 2) = 1
  ·by_cases h4 : isW ws (i + 3) ⟨#[41]⟩ = true
   ·rw [show want ws (i + 1) ⟨#[40]⟩ (wantK ws (i + 2) 1 (want ws (i + 3) ⟨#[41]⟩ (.ok (.node 4 (textW ws (i + 2)) 0 []) (i + 4)))) = .ok (.node 4 (textW ws (i + 2)) 0 []) (i + 4) by unfold want wantK; rw [if_pos h2, if_pos h3, if_pos h4]]
    have HA := mkHid h
    have hrb := h.lt
    have C0 := mkHid (fun w h => has_no rb a cap ws i sz ⟨#[45]⟩ w h n0)
    have C1 := mkHid (fun w h => has_no rb a cap ws i sz ⟨#[40]⟩ w h n1)
    have C2 := mkHid (fun w h => has_yes rb a cap ws i sz ⟨#[108, 101, 110]⟩ w h h1)
    have C3 := mkHid (fun w h => take_yes rb a cap ws (i + 1) sz ⟨#[40]⟩ w h h2)
    have C4 := mkHid (fun w h => name_yes rb a cap ws (i + 2) sz w h h3)
    have C5 := mkHid (fun w h => take_yes rb a cap ws (i + 3) sz ⟨#[41]⟩ w h h4)
    clear h n0 n1 h1 h2 h3 h4
    go_enter Tryz.func127, Tryz.ntmps127
    go_wp2_with fail
    refine (C0.out _ (HA.out.alloc _)).mono ?_
    rintro e w1 ⟨rfl, r, s⟩
    have R1 := mkHid r
    have S1 := mkHid (((Step.refl rb w).alloc _).trans s)
    have P1 := mkHid (s.at (heap_alloc_new w _) (by omega))
    clear r s
    go_wp2_with fail
    refine (C1.out _ R1.out).mono ?_
    rintro e w2 ⟨rfl, r, s⟩
    have R2 := mkHid r
    have S2 := mkHid (S1.out.trans s)
    have P2 := mkHid (s.at P1.out (by omega))
    clear r s
    go_wp2_with fail
    refine (C2.out _ R2.out).mono ?_
    rintro e w3 ⟨rfl, r, s⟩
    have R3 := mkHid r
    have S3 := mkHid (S2.out.trans s)
    have P3 := mkHid (s.at P2.out (by omega))
    clear r s
    go_wp2_with fail
    refine (C3.out _ R3.out).mono ?_
    rintro e w4 ⟨rfl, r, s⟩
    have R4 := mkHid r
    have S4 := mkHid (S3.out.trans s)
    have P4 := mkHid (s.at P3.out (by omega))
    clear r s
    go_wp2_with fail
    refine (C4.out _ R4.out).mono ?_
    rintro e w5 ⟨rfl, r, s⟩
    have R5 := mkHid r
    have S5 := mkHid (S4.out.trans s)
    have P5 := mkHid (s.at P4.out (by omega))
    clear r s
    go_wp2_with fail
    refine (C5.out _ (R5.out.alloc _)).mono ?_
    rintro e w6 ⟨rfl, r, s⟩
    have R6 := mkHid r
    have S6 := mkHid ((S5.out.alloc _).trans s)
    have P6 := mkHid (s.at ((Lib.alloc_old w5 _ _ (Array.getElem?_eq_some_iff.1 P5.out).1).trans P5.out) (by omega))
    have L6 := mkHid (s.at (heap_alloc_new w5 _) (by have := R5.out.lt; omega))
    clear r s
    obtain ⟨c0, c1, c2, c3, f0, f1, f2, f3⟩ := four_of P6.out
    obtain ⟨d0, d1, d2, d3, _⟩ := four_of L6.out
    go_wp2
    obtain ⟨q0, q1, q2, q3⟩ := put4_cells0 P6.out (.int .i64 4) (.string (textW ws (i + 2))) (.int .i64 0) (.slice none 0 0)
    exact bodyPost_ret (v := (A.node 4 (textW ws (i + 2)) 0 none 0 []).val) (by simp [results, Tryz.results127, go_sem, q0, q1, q2, q3, A.val]) rfl (end_leaf 4 0 (textW ws (i + 2)) R6.out hrb S6.out ht)
   ·rw [show want ws (i + 1) ⟨#[40]⟩ (wantK ws (i + 2) 1 (want ws (i + 3) ⟨#[41]⟩ (.ok (.node 4 (textW ws (i + 2)) 0 []) (i + 4)))) = .no (i + 3) by unfold want wantK; rw [if_pos h2, if_pos h3, if_neg h4]]
    have HA := mkHid h
    have hrb := h.lt
    have C0 := mkHid (fun w h => has_no rb a cap ws i sz ⟨#[45]⟩ w h n0)
    have C1 := mkHid (fun w h => has_no rb a cap ws i sz ⟨#[40]⟩ w h n1)
    have C2 := mkHid (fun w h => has_yes rb a cap ws i sz ⟨#[108, 101, 110]⟩ w h h1)
    have C3 := mkHid (fun w h => take_yes rb a cap ws (i + 1) sz ⟨#[40]⟩ w h h2)
    have C4 := mkHid (fun w h => name_yes rb a cap ws (i + 2) sz w h h3)
    have C5 := mkHid (fun w h => take_no rb a cap ws (i + 3) sz ⟨#[41]⟩ w h (by simpa using h4))
    clear h n0 n1 h1 h2 h3 h4
    go_enter Tryz.func127, Tryz.ntmps127
    go_wp2_with fail
    refine (C0.out _ (HA.out.alloc _)).mono ?_
    rintro e w1 ⟨rfl, r, s⟩
    have R1 := mkHid r
    have S1 := mkHid (((Step.refl rb w).alloc _).trans s)
    have P1 := mkHid (s.at (heap_alloc_new w _) (by omega))
    clear r s
    go_wp2_with fail
    refine (C1.out _ R1.out).mono ?_
    rintro e w2 ⟨rfl, r, s⟩
    have R2 := mkHid r
    have S2 := mkHid (S1.out.trans s)
    have P2 := mkHid (s.at P1.out (by omega))
    clear r s
    go_wp2_with fail
    refine (C2.out _ R2.out).mono ?_
    rintro e w3 ⟨rfl, r, s⟩
    have R3 := mkHid r
    have S3 := mkHid (S2.out.trans s)
    have P3 := mkHid (s.at P2.out (by omega))
    clear r s
    go_wp2_with fail
    refine (C3.out _ R3.out).mono ?_
    rintro e w4 ⟨rfl, r, s⟩
    have R4 := mkHid r
    have S4 := mkHid (S3.out.trans s)
    have P4 := mkHid (s.at P3.out (by omega))
    clear r s
    go_wp2_with fail
    refine (C4.out _ R4.out).mono ?_
    rintro e w5 ⟨rfl, r, s⟩
    have R5 := mkHid r
    have S5 := mkHid (S4.out.trans s)
    have P5 := mkHid (s.at P4.out (by omega))
    clear r s
    go_wp2_with fail
    refine (C5.out _ (R5.out.alloc _)).mono ?_
    rintro e w6 ⟨⟨m, rfl⟩, r, s⟩
    exact ⟨rfl, ⟨m, rfl⟩, r, (S5.out.alloc _).trans s⟩
  ·rw [show want ws (i + 1) ⟨#[40]⟩ (wantK ws (i + 2) 1 (want ws (i + 3) ⟨#[41]⟩ (.ok (.node 4 (textW ws (i + 2)) 0 []) (i + 4)))) = .no (i + 2) by unfold want wantK; rw [if_pos h2, if_neg h3]]
   have HA := mkHid h
   have hrb := h.lt
   have C0 := mkHid (fun w h => has_no rb a cap ws i sz ⟨#[45]⟩ w h n0)
   have C1 := mkHid (fun w h => has_no rb a cap ws i sz ⟨#[40]⟩ w h n1)
   have C2 := mkHid (fun w h => has_yes rb a cap ws i sz ⟨#[108, 101, 110]⟩ w h h1)
   have C3 := mkHid (fun w h => take_yes rb a cap ws (i + 1) sz ⟨#[40]⟩ w h h2)
   have C4 := mkHid (fun w h => name_no rb a cap ws (i + 2) sz w h h3)
   clear h n0 n1 h1 h2 h3
   go_enter Tryz.func127, Tryz.ntmps127
   go_wp2_with fail
   refine (C0.out _ (HA.out.alloc _)).mono ?_
   rintro e w1 ⟨rfl, r, s⟩
   have R1 := mkHid r
   have S1 := mkHid (((Step.refl rb w).alloc _).trans s)
   have P1 := mkHid (s.at (heap_alloc_new w _) (by omega))
   clear r s
   go_wp2_with fail
   refine (C1.out _ R1.out).mono ?_
   rintro e w2 ⟨rfl, r, s⟩
   have R2 := mkHid r
   have S2 := mkHid (S1.out.trans s)
   have P2 := mkHid (s.at P1.out (by omega))
   clear r s
   go_wp2_with fail
   refine (C2.out _ R2.out).mono ?_
   rintro e w3 ⟨rfl, r, s⟩
   have R3 := mkHid r
   have S3 := mkHid (S2.out.trans s)
   have P3 := mkHid (s.at P2.out (by omega))
   clear r s
   go_wp2_with fail
   refine (C3.out _ R3.out).mono ?_
   rintro e w4 ⟨rfl, r, s⟩
   have R4 := mkHid r
   have S4 := mkHid (S3.out.trans s)
   have P4 := mkHid (s.at P3.out (by omega))
   clear r s
   go_wp2_with fail
   refine (C4.out _ R4.out).mono ?_
   rintro e w5 ⟨⟨m, rfl⟩, r, s⟩
   exact ⟨rfl, ⟨m, rfl⟩, r, S4.out.trans s⟩
 ·rw [show want ws (i + 1) ⟨#[40]⟩ (wantK ws (i + 2) 1 (want ws (i + 3) ⟨#[41]⟩ (.ok (.node 4 (textW ws (i + 2)) 0 []) (i + 4)))) = .no (i + 1) by unfold want; rw [if_neg h2]]
  have HA := mkHid h
  have hrb := h.lt
  have C0 := mkHid (fun w h => has_no rb a cap ws i sz ⟨#[45]⟩ w h n0)
  have C1 := mkHid (fun w h => has_no rb a cap ws i sz ⟨#[40]⟩ w h n1)
  have C2 := mkHid (fun w h => has_yes rb a cap ws i sz ⟨#[108, 101, 110]⟩ w h h1)
  have C3 := mkHid (fun w h => take_no rb a cap ws (i + 1) sz ⟨#[40]⟩ w h (by simpa using h2))
  clear h n0 n1 h1 h2
  go_enter Tryz.func127, Tryz.ntmps127
  go_wp2_with fail
  refine (C0.out _ (HA.out.alloc _)).mono ?_
  rintro e w1 ⟨rfl, r, s⟩
  have R1 := mkHid r
  have S1 := mkHid (((Step.refl rb w).alloc _).trans s)
  have P1 := mkHid (s.at (heap_alloc_new w _) (by omega))
  clear r s
  go_wp2_with fail
  refine (C1.out _ R1.out).mono ?_
  rintro e w2 ⟨rfl, r, s⟩
  have R2 := mkHid r
  have S2 := mkHid (S1.out.trans s)
  have P2 := mkHid (s.at P1.out (by omega))
  clear r s
  go_wp2_with fail
  refine (C2.out _ R2.out).mono ?_
  rintro e w3 ⟨rfl, r, s⟩
  have R3 := mkHid r
  have S3 := mkHid (S2.out.trans s)
  have P3 := mkHid (s.at P2.out (by omega))
  clear r s
  go_wp2_with fail
  refine (C3.out _ R3.out).mono ?_
  rintro e w4 ⟨⟨m, rfl⟩, r, s⟩
  exact ⟨rfl, ⟨m, rfl⟩, r, S3.out.trans s⟩
set_option maxRecDepth 100000 in
set_option maxHeartbeats 1000000 in
theorem one_num {rb : Nat} {a : Option Addr} {cap : Nat} {ws : List W3} {sz f : Nat} (he : Env ws) (i : Nat) (w : World) (h : Rd w rb a cap ws i sz) (n0 : isW ws i ⟨#[45]⟩ = false) (n1 : isW ws i ⟨#[40]⟩ = false) (n2 : isW ws i ⟨#[108, 101, 110]⟩ = false) (h1 : kindW ws i = 2) :
    Calls Tryz.prog 127 #[.pointer (some ⟨rb, 0, none⟩)] w (Post rb a cap ws sz w (mOne ws (f + 1) i)) := by
 rw [show mOne ws (f + 1) i = .ok (.node 1 nil_ (numV (textW ws i)) []) (i + 1) by simp only [mOne]; rw [if_neg (by rw [n0]; decide), if_neg (by rw [n1]; decide), if_neg (by rw [n2]; decide), if_pos h1]]
 have HA := mkHid h
 have hrb := h.lt
 have C0 := mkHid (fun w h => has_no rb a cap ws i sz ⟨#[45]⟩ w h n0)
 have C1 := mkHid (fun w h => has_no rb a cap ws i sz ⟨#[40]⟩ w h n1)
 have C2 := mkHid (fun w h => has_no rb a cap ws i sz ⟨#[108, 101, 110]⟩ w h n2)
 have C3 := mkHid (fun w h => seesKind_yes rb a cap ws i sz 2 w h ⟨h1, by decide⟩)
 have C4 := mkHid (fun w h => num_yes rb a cap ws i sz w h he.ok h1)
 clear h n0 n1 n2 h1 he
 go_enter Tryz.func127, Tryz.ntmps127
 go_wp2_with fail
 refine (C0.out _ (HA.out.alloc _)).mono ?_
 rintro e w1 ⟨rfl, r, s⟩
 have R1 := mkHid r
 have S1 := mkHid (((Step.refl rb w).alloc _).trans s)
 have P1 := mkHid (s.at (heap_alloc_new w _) (by omega))
 clear r s
 go_wp2_with fail
 refine (C1.out _ R1.out).mono ?_
 rintro e w2 ⟨rfl, r, s⟩
 have R2 := mkHid r
 have S2 := mkHid (S1.out.trans s)
 have P2 := mkHid (s.at P1.out (by omega))
 clear r s
 go_wp2_with fail
 refine (C2.out _ R2.out).mono ?_
 rintro e w3 ⟨rfl, r, s⟩
 have R3 := mkHid r
 have S3 := mkHid (S2.out.trans s)
 have P3 := mkHid (s.at P2.out (by omega))
 clear r s
 go_wp2_with fail
 refine (C3.out _ R3.out).mono ?_
 rintro e w4 ⟨rfl, r, s⟩
 have R4 := mkHid r
 have S4 := mkHid (S3.out.trans s)
 have P4 := mkHid (s.at P3.out (by omega))
 clear r s
 go_wp2_with fail
 refine (C4.out _ R4.out).mono ?_
 rintro e w5 ⟨rfl, r, s⟩
 have R5 := mkHid r
 have S5 := mkHid (S4.out.trans s)
 have P5 := mkHid (s.at P4.out (by omega))
 clear r s
 obtain ⟨c0, c1, c2, c3, f0, f1, f2, f3⟩ := four_of P5.out
 go_wp2
 obtain ⟨q0, q1, q2, q3⟩ := put4_cells0 P5.out (.int .i64 1) (.string ⟨#[]⟩) (.int .i64 (numV (textW ws i))) (.slice none 0 0)
 exact bodyPost_ret (v := (A.node 1 ⟨#[]⟩ (numV (textW ws i)) none 0 []).val) (by simp [results, Tryz.results127, go_sem, q0, q1, q2, q3, A.val]) rfl (end_leaf 1 (numV (textW ws i)) ⟨#[]⟩ R5.out hrb S5.out (by decide))
set_option maxRecDepth 100000 in
set_option maxHeartbeats 1000000 in
theorem one_var {rb : Nat} {a : Option Addr} {cap : Nat} {ws : List W3} {sz f : Nat} (he : Env ws) (i : Nat) (w : World) (h : Rd w rb a cap ws i sz) (n0 : isW ws i ⟨#[45]⟩ = false) (n1 : isW ws i ⟨#[40]⟩ = false) (n2 : isW ws i ⟨#[108, 101, 110]⟩ = false) (n3 : kindW ws i ≠ 2) (hv : kindW ws i = 1 → isW ws (i + 1) ⟨#[91]⟩ = false) :
    Calls Tryz.prog 127 #[.pointer (some ⟨rb, 0, none⟩)] w (Post rb a cap ws sz w (mOne ws (f + 1) i)) := by
 have hm : mOne ws (f + 1) i = wantK ws i 1 (if isW ws (i + 1) ⟨#[91]⟩ then (mExpr ws f (i + 2)).then_ fun x j => want ws j ⟨#[93]⟩ (.ok (.node 3 (textW ws i) 0 [x]) (j + 1)) else .ok (.node 2 (textW ws i) 0 []) (i + 1)) := by simp only [mOne]; rw [if_neg (by rw [n0]; decide), if_neg (by rw [n1]; decide), if_neg (by rw [n2]; decide), if_neg n3]
 rw [hm]
 clear hm
 have ht := he.text i
 by_cases h1 : kindW ws i = 1
 ·rw [show wantK ws i 1 (if isW ws (i + 1) ⟨#[91]⟩ then (mExpr ws f (i + 2)).then_ fun x j => want ws j ⟨#[93]⟩ (.ok (.node 3 (textW ws i) 0 [x]) (j + 1)) else .ok (.node 2 (textW ws i) 0 []) (i + 1)) = .ok (.node 2 (textW ws i) 0 []) (i + 1) by unfold wantK; rw [if_pos h1, if_neg (by rw [hv h1]; decide)]]
  have HA := mkHid h
  have hrb := h.lt
  have C0 := mkHid (fun w h => has_no rb a cap ws i sz ⟨#[45]⟩ w h n0)
  have C1 := mkHid (fun w h => has_no rb a cap ws i sz ⟨#[40]⟩ w h n1)
  have C2 := mkHid (fun w h => has_no rb a cap ws i sz ⟨#[108, 101, 110]⟩ w h n2)
  have C3 := mkHid (fun w h => seesKind_no rb a cap ws i sz 2 (by decide) w h n3)
  have C4 := mkHid (fun w h => name_yes rb a cap ws i sz w h h1)
  have C5 := mkHid (fun w h => has_no rb a cap ws (i + 1) sz ⟨#[91]⟩ w h (hv h1))
  clear h n0 n1 n2 n3 h1 hv he
  go_enter Tryz.func127, Tryz.ntmps127
  go_wp2_with fail
  refine (C0.out _ (HA.out.alloc _)).mono ?_
  rintro e w1 ⟨rfl, r, s⟩
  have R1 := mkHid r
  have S1 := mkHid (((Step.refl rb w).alloc _).trans s)
  have P1 := mkHid (s.at (heap_alloc_new w _) (by omega))
  clear r s
  go_wp2_with fail
  refine (C1.out _ R1.out).mono ?_
  rintro e w2 ⟨rfl, r, s⟩
  have R2 := mkHid r
  have S2 := mkHid (S1.out.trans s)
  have P2 := mkHid (s.at P1.out (by omega))
  clear r s
  go_wp2_with fail
  refine (C2.out _ R2.out).mono ?_
  rintro e w3 ⟨rfl, r, s⟩
  have R3 := mkHid r
  have S3 := mkHid (S2.out.trans s)
  have P3 := mkHid (s.at P2.out (by omega))
  clear r s
  go_wp2_with fail
  refine (C3.out _ R3.out).mono ?_
  rintro e w4 ⟨rfl, r, s⟩
  have R4 := mkHid r
  have S4 := mkHid (S3.out.trans s)
  have P4 := mkHid (s.at P3.out (by omega))
  clear r s
  go_wp2_with fail
  refine (C4.out _ R4.out).mono ?_
  rintro e w5 ⟨rfl, r, s⟩
  have R5 := mkHid r
  have S5 := mkHid (S4.out.trans s)
  have P5 := mkHid (s.at P4.out (by omega))
  clear r s
  go_wp2_with fail
  refine (C5.out _ (R5.out.alloc _)).mono ?_
  rintro e w6 ⟨rfl, r, s⟩
  have R6 := mkHid r
  have S6 := mkHid ((S5.out.alloc _).trans s)
  have P6 := mkHid (s.at ((Lib.alloc_old w5 _ _ (Array.getElem?_eq_some_iff.1 P5.out).1).trans P5.out) (by omega))
  have L6 := mkHid (s.at (heap_alloc_new w5 _) (by have := R5.out.lt; omega))
  clear r s
  obtain ⟨c0, c1, c2, c3, f0, f1, f2, f3⟩ := four_of P6.out
  obtain ⟨d0, d1, d2, d3, _⟩ := four_of L6.out
  go_wp2
  obtain ⟨q0, q1, q2, q3⟩ := put4_cells0 P6.out (.int .i64 2) (.string (textW ws i)) (.int .i64 0) (.slice none 0 0)
  exact bodyPost_ret (v := (A.node 2 (textW ws i) 0 none 0 []).val) (by simp [results, Tryz.results127, go_sem, q0, q1, q2, q3, A.val]) rfl (end_leaf 2 0 (textW ws i) R6.out hrb S6.out ht)
 ·rw [show wantK ws i 1 (if isW ws (i + 1) ⟨#[91]⟩ then (mExpr ws f (i + 2)).then_ fun x j => want ws j ⟨#[93]⟩ (.ok (.node 3 (textW ws i) 0 [x]) (j + 1)) else .ok (.node 2 (textW ws i) 0 []) (i + 1)) = .no i by unfold wantK; rw [if_neg h1]]
  have HA := mkHid h
  have hrb := h.lt
  have C0 := mkHid (fun w h => has_no rb a cap ws i sz ⟨#[45]⟩ w h n0)
  have C1 := mkHid (fun w h => has_no rb a cap ws i sz ⟨#[40]⟩ w h n1)
  have C2 := mkHid (fun w h => has_no rb a cap ws i sz ⟨#[108, 101, 110]⟩ w h n2)
  have C3 := mkHid (fun w h => seesKind_no rb a cap ws i sz 2 (by decide) w h n3)
  have C4 := mkHid (fun w h => name_no rb a cap ws i sz w h h1)
  clear h n0 n1 n2 n3 h1 hv he
  go_enter Tryz.func127, Tryz.ntmps127
  go_wp2_with fail
  refine (C0.out _ (HA.out.alloc _)).mono ?_
  rintro e w1 ⟨rfl, r, s⟩
  have R1 := mkHid r
  have S1 := mkHid (((Step.refl rb w).alloc _).trans s)
  have P1 := mkHid (s.at (heap_alloc_new w _) (by omega))
  clear r s
  go_wp2_with fail
  refine (C1.out _ R1.out).mono ?_
  rintro e w2 ⟨rfl, r, s⟩
  have R2 := mkHid r
  have S2 := mkHid (S1.out.trans s)
  have P2 := mkHid (s.at P1.out (by omega))
  clear r s
  go_wp2_with fail
  refine (C2.out _ R2.out).mono ?_
  rintro e w3 ⟨rfl, r, s⟩
  have R3 := mkHid r
  have S3 := mkHid (S2.out.trans s)
  have P3 := mkHid (s.at P2.out (by omega))
  clear r s
  go_wp2_with fail
  refine (C3.out _ R3.out).mono ?_
  rintro e w4 ⟨rfl, r, s⟩
  have R4 := mkHid r
  have S4 := mkHid (S3.out.trans s)
  have P4 := mkHid (s.at P3.out (by omega))
  clear r s
  go_wp2_with fail
  refine (C4.out _ R4.out).mono ?_
  rintro e w5 ⟨⟨m, rfl⟩, r, s⟩
  exact ⟨rfl, ⟨m, rfl⟩, r, S4.out.trans s⟩
end Go.Proofs.YtjmjmdmnejnlbaaGreatDoor
namespace Go.Proofs.YtjmjmdmnejnlbaaGreatDoor
open Go.RowKit
open Pl

/-- A list of one tree, laid behind a store: the worlds ahead and behind. -/
theorem sits_over {rb : Nat} {w w8 : World} {p : Nat} {v : Value} {x : A} {n : Nat} (hp : p < n) (hx : Sits w x) (hn : New n x) (hr : rb < n) {o : Obj} (s : Step rb ((w.setCell ⟨p, 3, none⟩ v).alloc o) w8) : Sits w8 x := by
 have hl := Sits.lt x hx
 refine s.sits (Sits.stay x (fun q hq => ?_) hx) (fun q hq => by have := hn.2 q hq; omega)
 rw [Lib.alloc_old _ _ _ (by simp only [World.setCell, Array.size_modify]; exact hl q hq), Below.heap_setCell _ _ _ _ (by have := hn.2 q hq; show q ≠ p; omega)]
set_option maxRecDepth 100000 in
set_option maxHeartbeats 1000000 in
theorem one_cell {rb : Nat} {a : Option Addr} {cap : Nat} {ws : List W3} {sz f : Nat} (he : Env ws) (hE : IExpr rb a cap ws sz f) (i : Nat) (w : World) (hf : 5 * (ws.length - i) + 1 ≤ f + 1) (h : Rd w rb a cap ws i sz) (n0 : isW ws i ⟨#[45]⟩ = false) (n1 : isW ws i ⟨#[40]⟩ = false) (n2 : isW ws i ⟨#[108, 101, 110]⟩ = false) (n3 : kindW ws i ≠ 2) (h1 : kindW ws i = 1) (h2 : isW ws (i + 1) ⟨#[91]⟩ = true) :
    Calls Tryz.prog 127 #[.pointer (some ⟨rb, 0, none⟩)] w (Post rb a cap ws sz w (mOne ws (f + 1) i)) := by
 have hm : mOne ws (f + 1) i = (mExpr ws f (i + 2)).then_ fun x j => want ws j ⟨#[93]⟩ (.ok (.node 3 (textW ws i) 0 [x]) (j + 1)) := by
  simp only [mOne]; rw [if_neg (by rw [n0]; decide), if_neg (by rw [n1]; decide), if_neg (by rw [n2]; decide), if_neg n3, show ∀ r, wantK ws i 1 r = r from fun r => by unfold wantK; rw [if_pos h1], if_pos h2]
 rw [hm]
 clear hm
 have ht := he.text i
 have hlt := isW_lt h2
 have hE1 := fun w h => hE (i + 2) w (by omega) h
 generalize mExpr ws f (i + 2) = r at hE1 ⊢
 have HE := mkHid hE1
 have HA := mkHid h
 have hrb := h.lt
 have C0 := mkHid (fun w h => has_no rb a cap ws i sz ⟨#[45]⟩ w h n0)
 have C1 := mkHid (fun w h => has_no rb a cap ws i sz ⟨#[40]⟩ w h n1)
 have C2 := mkHid (fun w h => has_no rb a cap ws i sz ⟨#[108, 101, 110]⟩ w h n2)
 have C3 := mkHid (fun w h => seesKind_no rb a cap ws i sz 2 (by decide) w h n3)
 have C4 := mkHid (fun w h => name_yes rb a cap ws i sz w h h1)
 have C5 := mkHid (fun w h => has_yes rb a cap ws (i + 1) sz ⟨#[91]⟩ w h h2)
 clear h n0 n1 n2 n3 h1 h2 hE hE1 he
 go_enter Tryz.func127, Tryz.ntmps127
 go_wp2_with fail
 refine (C0.out _ (HA.out.alloc _)).mono ?_
 rintro e w1 ⟨rfl, r, s⟩
 have R1 := mkHid r
 have S1 := mkHid (((Step.refl rb w).alloc _).trans s)
 have P1 := mkHid (s.at (heap_alloc_new w _) (by omega))
 clear r s
 go_wp2_with fail
 refine (C1.out _ R1.out).mono ?_
 rintro e w2 ⟨rfl, r, s⟩
 have R2 := mkHid r
 have S2 := mkHid (S1.out.trans s)
 have P2 := mkHid (s.at P1.out (by omega))
 clear r s
 go_wp2_with fail
 refine (C2.out _ R2.out).mono ?_
 rintro e w3 ⟨rfl, r, s⟩
 have R3 := mkHid r
 have S3 := mkHid (S2.out.trans s)
 have P3 := mkHid (s.at P2.out (by omega))
 clear r s
 go_wp2_with fail
 refine (C3.out _ R3.out).mono ?_
 rintro e w4 ⟨rfl, r, s⟩
 have R4 := mkHid r
 have S4 := mkHid (S3.out.trans s)
 have P4 := mkHid (s.at P3.out (by omega))
 clear r s
 go_wp2_with fail
 refine (C4.out _ R4.out).mono ?_
 rintro e w5 ⟨rfl, r, s⟩
 have R5 := mkHid r
 have S5 := mkHid (S4.out.trans s)
 have P5 := mkHid (s.at P4.out (by omega))
 clear r s
 go_wp2_with fail
 refine (C5.out _ (R5.out.alloc _)).mono ?_
 rintro e w6 ⟨rfl, r, s⟩
 have R6 := mkHid r
 have S6 := mkHid ((S5.out.alloc _).trans s)
 have P6 := mkHid (s.at ((Lib.alloc_old w5 _ _ (Array.getElem?_eq_some_iff.1 P5.out).1).trans P5.out) (by omega))
 have L6 := mkHid (s.at (heap_alloc_new w5 _) (by have := R5.out.lt; omega))
 clear r s
 have z5 : w.heap.size < w5.heap.size := (Array.getElem?_eq_some_iff.1 P5.out).1
 have z6 : w5.heap.size < w6.heap.size := (Array.getElem?_eq_some_iff.1 L6.out).1
 have g5 : rb < w5.heap.size := by omega
 obtain ⟨d0, d1, d2, d3, e0, e1, e2, e3⟩ := four_of L6.out
 go_wp2_with fail
 refine (HE.out _ (R6.out.setCell (p := ⟨w5.heap.size, 0, none⟩) g5 _)).mono ?_
 intro e w7 hp
 clear d0 d1 d2 d3 e0 e1 e2 e3
 cases r with
 | no p =>
   obtain ⟨⟨m, rfl⟩, r2, s2⟩ := hp
   exact ⟨rfl, ⟨m, rfl⟩, r2, (S6.out.setCell (p := ⟨w5.heap.size, 0, none⟩) (.inl (by show w.heap.size ≤ w5.heap.size; omega)) _).trans s2⟩
 | ok t j =>
   obtain ⟨x, rfl, hx, hsx, hnx, r7, s7⟩ := hp
   have P7 := mkHid (s7.at ((Below.heap_setCell w6 ⟨w5.heap.size, 0, none⟩ _ _ (by show w.heap.size ≠ w5.heap.size; omega)).trans P6.out) (by omega))
   have L7 := mkHid (s7.at (heap_setCell_same w6 w5.heap.size 0 _ 26 (.int .i64 3) L6.out) (by omega))
   have S7 := mkHid ((S6.out.setCell (p := ⟨w5.heap.size, 0, none⟩) (.inl (by show w.heap.size ≤ w5.heap.size; omega)) (.int .i64 3)).trans s7)
   have R7 := mkHid r7
   have hn6 : New w6.heap.size x := hnx.mono (by simp [World.setCell])
   have z7 : w6.heap.size ≤ w7.heap.size := by have := s7.size; simpa [World.setCell] using this
   have HX := mkHid hx
   have HS := mkHid hsx
   have HN := mkHid hn6
   clear r7 s7 hx hsx hn6 hnx
   obtain ⟨xk, xs, xm, xa, xc, xkk⟩ := x
   simp only [A.val]
   obtain ⟨d0, d1, d2, d3, e0, e1, e2, e3⟩ := four_of (v0 := .int .i64 3) (v1 := .string (textW ws i)) (v2 := .int .i64 0) (v3 := .slice none 0 0) L7.out
   have y7 : w5.heap.size < w7.heap.size := by omega
   by_cases hw : isW ws j ⟨#[93]⟩ = true
   ·have HQ := mkHid (fun w h => take_yes rb a cap ws j sz ⟨#[93]⟩ w h hw)
    have HM := mkHid (show ((Res.ok t j).then_ fun x j => want ws j ⟨#[93]⟩ (.ok (.node 3 (textW ws i) 0 [x]) (j + 1))) = .ok (.node 3 (textW ws i) 0 [t]) (j + 1) by simp only [Res.then_, want]; rw [if_pos hw])
    clear hw
    go_wp2_with fail
    refine (HQ.out _ ((R7.out.setCell (p := ⟨w5.heap.size, 3, none⟩) g5 _).alloc _)).mono ?_
    rintro e w8 ⟨rfl, r, s⟩
    have P8 := mkHid (s.at ((Lib.alloc_old _ _ _ (by simp only [World.setCell, Array.size_modify]; omega)).trans ((Below.heap_setCell w7 ⟨w5.heap.size, 3, none⟩ _ _ (by show w.heap.size ≠ w5.heap.size; omega)).trans P7.out)) (by omega))
    have L8 := s.at ((Lib.alloc_old _ _ _ (by simp only [World.setCell, Array.size_modify]; omega)).trans (heap_setCell_same w7 w5.heap.size 3 _ 26 _ L7.out)) (by omega)
    have B8 := s.at (k := w7.heap.size) (by have := heap_alloc_new (w7.setCell ⟨w5.heap.size, 3, none⟩ (.slice (some ⟨w7.heap.size, 0, none⟩) 1 1)) (.cells #[.int .i64 xk, .string xs, .int .i64 xm, .slice xa xkk.length xc] 26); simpa only [World.setCell, Array.size_modify] using this) (by omega)
    have HS8 := mkHid (sits_over (rb := rb) (n := w6.heap.size) z6 HS.out HN.out (by omega) s)
    have S8 := mkHid (((S7.out.setCell (p := ⟨w5.heap.size, 3, none⟩) (.inl (by show w.heap.size ≤ w5.heap.size; omega)) _).alloc _).trans s)
    have R8 := mkHid r
    have HB := mkHid B8
    clear r s B8 d0 d1 d2 d3 e0 e1 e2 e3
    obtain ⟨d0, d1, d2, d3, _⟩ := four_of (v0 := .int .i64 3) (v1 := .string (textW ws i)) (v2 := .int .i64 0) (v3 := .slice (some ⟨w7.heap.size, 0, none⟩) 1 1) L8
    obtain ⟨c0, c1, c2, c3, f0, f1, f2, f3⟩ := four_of P8.out
    clear L8
    go_wp2
    obtain ⟨q0, q1, q2, q3⟩ := put4_cells0 P8.out (.int .i64 3) (.string (textW ws i)) (.int .i64 0) (.slice (some ⟨w7.heap.size, 0, none⟩) 1 1)
    refine bodyPost_ret (v := (A.node 3 (textW ws i) 0 (some ⟨w7.heap.size, 0, none⟩) 1 [.node xk xs xm xa xc xkk]).val) (by simp [results, Tryz.results127, go_sem, q0, q1, q2, q3, A.val]) rfl ?_
    rw [HM.out]
    have hl := Sits.lt _ HS.out
    exact end_tree (n := w6.heap.size) _ _ _ _ _ R8.out hrb S8.out (by rw [erase1, HX.out]) (Sits.node ht (by simp [maxLen]) (sitsL_one HS8.out) HB.out (fun i v hv => by simpa [cellsL, A.cells] using hv)) (New.node (NewL.one HN.out) z7 (by rw [feet_one]; intro q; have := hl _ q; omega)) (by omega)
   ·have HQ := mkHid (fun w h => take_no rb a cap ws j sz ⟨#[93]⟩ w h (by simpa using hw))
    have HM := mkHid (show ((Res.ok t j).then_ fun x j => want ws j ⟨#[93]⟩ (.ok (.node 3 (textW ws i) 0 [x]) (j + 1))) = .no j by simp only [Res.then_, want]; rw [if_neg hw])
    clear hw
    go_wp2_with fail
    refine (HQ.out _ ((R7.out.setCell (p := ⟨w5.heap.size, 3, none⟩) g5 _).alloc _)).mono ?_
    rintro e w8 ⟨⟨m, rfl⟩, r, s⟩
    exact ⟨rfl, by rw [HM.out]; exact ⟨⟨m, rfl⟩, r, ((S7.out.setCell (p := ⟨w5.heap.size, 3, none⟩) (.inl (by show w.heap.size ≤ w5.heap.size; omega)) _).alloc _).trans s⟩⟩
theorem one_step {rb : Nat} {a : Option Addr} {cap : Nat} {ws : List W3} {sz f : Nat} (he : Env ws) (hO : IOne rb a cap ws sz f) (hE : IExpr rb a cap ws sz f) : IOne rb a cap ws sz (f + 1) := by
 intro i w hf h
 by_cases n0 : isW ws i ⟨#[45]⟩ = true
 ·exact one_neg hO i w hf h n0
 ·simp only [Bool.not_eq_true] at n0
  by_cases n1 : isW ws i ⟨#[40]⟩ = true
  ·exact one_par hE i w hf h n0 n1
  ·simp only [Bool.not_eq_true] at n1
   by_cases n2 : isW ws i ⟨#[108, 101, 110]⟩ = true
   ·exact one_len he i w h n0 n1 n2
   ·simp only [Bool.not_eq_true] at n2
    by_cases n3 : kindW ws i = 2
    ·exact one_num he i w h n0 n1 n2 n3
    ·by_cases hv : kindW ws i = 1 ∧ isW ws (i + 1) ⟨#[91]⟩ = true
     ·exact one_cell he hE i w hf h n0 n1 n2 n3 hv.1 hv.2
     ·refine one_var he i w h n0 n1 n2 n3 (fun q => ?_)
      cases q2 : isW ws (i + 1) ⟨#[91]⟩ with
      | false => rfl
      | true => exact absurd ⟨q, q2⟩ hv
end Go.Proofs.YtjmjmdmnejnlbaaGreatDoor
