/-
  CONTRACTS of the program's reader's place, and of the function that Parse defers.
-/
import Derived.Test.YthccohemcagkcaaGreatDoorZRprog
import Derived.Defers
import Derived.Recover
namespace Go.Proofs.YthccohemcagkcaaGreatDoor
open Go.RowKit
open Pl

/-- Where a word stands, the text's length behind the last. -/
def placeI (ws : List W3) (p : Nat) (sz : Int) : Int := match ws[p]? with
  | some x => x.a
  | none => sz
set_option maxRecDepth 100000 in
set_option maxHeartbeats 1000000 in
theorem place_any (rb : Nat) (a : Option Addr) (cap : Nat) (ws : List W3) (i sz : Nat) (w : World) (h : Rd w rb a cap ws i sz) :
    Calls Tryz.prog 39 #[.pointer (some ⟨rb, 0, none⟩)] w fun e w' => e = .returned (.int .i64 (placeI ws i sz)) ∧ ∃ n, w' = w.drewN n := by
  obtain ⟨c0, c1, c2, _⟩ := h.cells
  have hf := h.few
  by_cases hlt : i < ws.length
  · obtain ⟨x, hx⟩ : ∃ x, ws[i]? = some x := ⟨_, List.getElem?_eq_getElem hlt⟩
    obtain ⟨g, rfl, d0, d1, d2⟩ := h.word hx
    have HW := mkHid (show placeI ws i sz = x.a by unfold placeI; rw [hx])
    have hl : decide ((i : Int) < (ws.length : Int)) = true := by simp; omega
    have i0 : (0 : Int) ≤ (i : Int) := by omega
    have i1 : (i : Int) < (ws.length : Int) := by omega
    clear hx h d0 d1 c2
    go_enter Tryz.func39, Tryz.ntmps39
    go_wp2
    go_quiet (fail)
    go_wp2
    go_quiet (fail)
    go_wp2
    go_ret
    exact ⟨ret_int (by rw [HW.out]), _, by first | exact World.drewN_drewN | exact World.drewN_drewN _ _ _⟩
  · have HW := mkHid (show placeI ws i sz = sz by unfold placeI; rw [List.getElem?_eq_none (by omega)])
    have hl : decide ((i : Int) < (ws.length : Int)) = false := by simp; omega
    clear h
    go_enter Tryz.func39, Tryz.ntmps39
    go_wp2
    go_quiet (fail)
    go_wp2
    go_ret
    exact ⟨ret_int (by rw [HW.out]), _, rfl⟩

/-- The deferred function where nothing has panicked. -/
theorem catch_idle (p q r : Addr) (w : World) :
    CallsD Tryz.prog 38 #[.pointer (some p), .pointer (some q), .pointer (some r)] .returning w fun e u' w' => e = .returned (.tuple #[]) ∧ u' = .returning ∧ w' = w := by
  refine callsD_of_wpS Tryz.func38 rfl fun c₀ cs hu => ?_
  apply wpS_seq
  apply wpS_region
  simp [wpOpsS, go_sem, recoverD, hu, Tryz.ntmps38, Exit.thenS]
  refine wpS_cond (t := false) (by simp [Act.eval, Array.replicate]) ?_
  simp only [Bool.false_eq_true, if_false]
  refine wpS_of_wp (wp_skip ?_)
  cases c₀
  simp_all [bodyPostS, results, Tryz.results38]

def six (w : World) (b c : Nat) (p0 p1 p2 p3 q0 q1 : Value) : World := ((put4 w b p0 p1 p2 p3).setCell ⟨c, 0, none⟩ q0).setCell ⟨c, 1, none⟩ q1
set_option maxRecDepth 100000 in
set_option maxHeartbeats 2000000 in
theorem catch_panicking (rb : Nat) (a : Option Addr) (cap : Nat) (ws : List W3) (i sz b c : Nat) (m : ByteArray) (w : World) (h : Rd w rb a cap ws i sz) {u0 u1 u2 u3 v0 v1 : Value}
    (hb : w.heap[b]? = some (.cells #[u0, u1, u2, u3] 26 (0, 0))) (hc : w.heap[c]? = some (.cells #[v0, v1] 31 (0, 0))) (hbc : b ≠ c) :
    CallsD Tryz.prog 38 #[.pointer (some ⟨rb, 0, none⟩), .pointer (some ⟨b, 0, none⟩), .pointer (some ⟨c, 0, none⟩)] (.panicking [{ v := .iface 9 (.string m), recovered := false }]) w fun e u' w' =>
      e = .returned (.tuple #[]) ∧ u' = .panicking [{ v := .iface 9 (.string m), recovered := true }] ∧ ∃ n, w' = six (w.drewN n) b c (.int .i64 0) (.string ⟨#[]⟩) (.int .i64 0) (.slice none 0 0) (.int .i64 4) (.int .i64 (placeI ws i sz)) := by
  have HP := mkHid (place_any rb a cap ws i sz w h)
  obtain ⟨c0, c1, c2, c3, f0, f1, f2, f3⟩ := four_of hb
  have d0 : w.cell? ⟨c, 0, none⟩ = some v0 := by rw [Lib.cell_of_heap hc]; rfl
  have d1 : w.cell? ⟨c, 1, none⟩ = some v1 := by rw [Lib.cell_of_heap hc]; rfl
  have e0 := Lib.frozen_of_heap hc 0
  have e1 := Lib.frozen_of_heap hc 1
  have hcb : c ≠ b := fun e => hbc e.symm
  clear h hb hc
  refine callsD_of_wpS Tryz.func38 rfl fun c₀ cs hu => ?_
  apply wpS_seq
  apply wpS_region
  simp [wpOpsS, go_sem, recoverD, hu, Tryz.ntmps38, Exit.thenS]
  refine wpS_cond (t := true) (by simp [Act.eval, Array.replicate]) ?_
  simp only [if_true]
  refine wpS_of_wp ?_
  simp only [Array.replicate, List.replicate]
  go_wp2_with fail
  refine HP.out.mono ?_
  rintro e w1 ⟨rfl, n, rfl⟩
  go_wp2
  exact ⟨rfl, _, rfl, .tuple #[], by simp [results, Tryz.results38], rfl, rfl, n, rfl⟩
end Go.Proofs.YthccohemcagkcaaGreatDoor
