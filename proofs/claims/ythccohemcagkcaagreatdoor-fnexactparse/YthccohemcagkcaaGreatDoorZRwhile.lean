/-
  CONTRACT of the program's reader's stmt: while.
-/
import Derived.Test.YthccohemcagkcaaGreatDoorZRput
import Derived.Test.YthccohemcagkcaaGreatDoorZRblock
import Derived.Deep.RegionLaw
import Derived.Deep.AppendLies
namespace Go.Proofs.YthccohemcagkcaaGreatDoor
open Go.RowKit
open Pl

set_option maxRecDepth 100000 in
set_option maxHeartbeats 8000000 in
theorem stmt_while {rb : Nat} {a : Option Addr} {cap : Nat} {ws : List W3} {sz F f : Nat} (hC : ICond rb a cap ws sz F) (hB : IBlock rb a cap ws sz F f) (i : Nat) (w : World) (hf : 3 * (ws.length - i) + 1 ≤ f + 1) (h : Rd w rb a cap ws i sz) (n0 : isW ws i ⟨#[105, 102]⟩ = false) (h1 : isW ws i ⟨#[119, 104, 105, 108, 101]⟩ = true) :
    Calls Tryz.prog 80 #[.pointer (some ⟨rb, 0, none⟩)] w (Post rb a cap ws sz w (mStmt ws F (f + 1) i)) := by
  have hil := isW_lt h1
  rw [show mStmt ws F (f + 1) i = (mCond ws F (i + 1)).then_ (fun x j => (mBlock ws F f j).then_ fun y j2 => .ok (.node 25 nil_ 0 [x, y]) j2) by simp only [mStmt]; rw [if_neg (by rw [n0]; decide), if_pos h1]]
  have HA := mkHid h
  have hrb := h.lt
  have hO1 := fun w h => hC (i + 1) w h
  have ha : ∀ t j, mCond ws F (i + 1) = .ok t j → i + 1 < j ∧ j ≤ ws.length := fun t j h => adv_cond h
  generalize mCond ws F (i + 1) = r at hO1 ha ⊢
  have H1 := mkHid hO1
  have HB := mkHid hB
  generalize hR : r.then_ (fun x j => (mBlock ws F f j).then_ fun y j2 => .ok (.node 25 nil_ 0 [x, y]) j2) = R
  have HR := mkHid hR
  clear hR hO1 hB hC
  have C0 := mkHid (fun w h => has_no rb a cap ws i sz ⟨#[105, 102]⟩ w h n0)
  have C1 := mkHid (fun w h => has_yes rb a cap ws i sz ⟨#[119, 104, 105, 108, 101]⟩ w h h1)
  clear h h1 n0
  go_enter Tryz.func80, Tryz.ntmps80
  go_wp2_with fail
  refine (C0.out _ (HA.out.alloc _)).mono ?_
  rintro e w1 ⟨rfl, r, s⟩
  have R1 := mkHid r
  have S1 := mkHid (((Step.refl rb w).alloc _).trans s)
  have P1 := mkHid (s.at (heap_alloc_new w _) (by omega))
  clear r s
  go_wp2_with fail
  refine (C1.out _ R1.out).mono ?_
  rintro e w2 ⟨rfl, r, s⟩
  have R2 := mkHid r
  have S2 := mkHid (S1.out.trans s)
  have P2 := mkHid (s.at P1.out (by omega))
  clear r s
  go_wp2_with fail
  refine (H1.out _ R2.out).mono ?_
  intro e w3 hp
  cases r with
  | no p =>
    obtain ⟨⟨m, rfl⟩, r2, s2⟩ := hp
    exact ⟨rfl, by rw [← HR.out]; exact ⟨⟨m, rfl⟩, r2, S2.out.trans s2⟩⟩
  | ok t j =>
    obtain ⟨hij, hjl⟩ := ha t j rfl
    obtain ⟨x, rfl, hx, hsx, hnx, r, s⟩ := hp
    have z2 : w.heap.size < w2.heap.size := (Array.getElem?_eq_some_iff.1 P2.out).1
    have HR2 : Hid ((mBlock ws F f j).then_ (fun y j2 => .ok (.node 25 nil_ 0 [t, y]) j2) = R) := HR.out
    have hO2 := fun w h => HB.out j w (by omega) h
    generalize mBlock ws F f j = r2 at hO2 HR2
    have H2 := mkHid hO2
    have Z23 := mkHid s.size
    have R3 := mkHid r
    have S3 := mkHid (S2.out.trans s)
    have P3 := mkHid (s.at P2.out (by omega))
    have HS := mkHid hsx
    have HN := mkHid hnx
    have HX := mkHid hx
    clear hO2 HR ha r s hsx hnx hx
    go_wp2_with fail
    refine (H2.out _ R3.out).mono ?_
    intro e w4 hp
    cases r2 with
    | no p =>
      obtain ⟨⟨m, rfl⟩, r2, s2⟩ := hp
      exact ⟨rfl, by rw [← HR2.out]; exact ⟨⟨m, rfl⟩, r2, S3.out.trans s2⟩⟩
    | ok t2 j2 =>
      obtain ⟨y, rfl, hy, hsy, hny, r, s⟩ := hp
      have lx := Sits.lt x HS.out
      have HSx := mkHid (s.sits HS.out (fun q hq => by have := HN.out.2 q hq; have := R2.out.lt; omega))
      have HN2 : Hid (NewL w2.heap.size [x, y]) := NewL.snoc (xs := [x]) (n1 := w3.heap.size) (NewL.one HN.out) (fun b hb => lx b (by rwa [feet_one] at hb)) hny (Z23.out)
      have R4 := mkHid r
      have S4 := mkHid (S3.out.trans s)
      have P4 := mkHid (s.at P3.out (by omega))
      have HSy := mkHid hsy
      have HY := mkHid hy
      clear r s hsy hny hy lx
      obtain ⟨xk, xs, xm, xa, xc, xkk⟩ := x
      obtain ⟨yk, ys, ym, ya, yc, ykk⟩ := y
      obtain ⟨c0, c1, c2, c3, f0, f1, f2, f3⟩ := four_of P4.out
      have z4 : w.heap.size < w4.heap.size := (Array.getElem?_eq_some_iff.1 P4.out).1
      simp only [A.val]
      go_wp2
      obtain ⟨q0, q1, q2, q3⟩ := put4_cells P4.out (.int .i64 25) (.string ⟨#[]⟩) (.int .i64 0) (.slice (some ⟨w4.heap.size, 0, none⟩) 2 2) (.cells #[.int .i64 xk, .string xs, .int .i64 xm, .slice xa xkk.length xc, .int .i64 yk, .string ys, .int .i64 ym, .slice ya ykk.length yc] 26)
      refine bodyPost_ret (v := (A.node 25 ⟨#[]⟩ 0 (some ⟨w4.heap.size, 0, none⟩) 2 [.node xk xs xm xa xc xkk, .node yk ys ym ya yc ykk]).val) (by simp [results, Tryz.results80, go_sem, q0, q1, q2, q3, A.val]) rfl ?_
      have hE := end_list 25 0 ⟨#[]⟩ [.node xk xs xm xa xc xkk, .node yk ys ym ya yc ykk] _ 2 P4.out R4.out hrb S4.out ⟨HSx.out, HSy.out, trivial⟩ HN2.out z2 (by simp [maxLen]) rfl (by decide)
      have he : erases [A.node xk xs xm xa xc xkk, .node yk ys ym ya yc ykk] = [t, t2] := by simp only [erases]; rw [HX.out, HY.out]
      rw [he] at hE
      rw [← HR2.out]
      exact hE
end Go.Proofs.YthccohemcagkcaaGreatDoor
