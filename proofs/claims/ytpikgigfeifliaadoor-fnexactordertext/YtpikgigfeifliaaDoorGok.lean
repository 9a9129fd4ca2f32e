/-
  CONTRACTS of l01Between, isPoint and both GraphOks.
-/
import Derived.Test.YtpikgigfeifliaaDoorGr
namespace Go.Proofs.YtpikgigfeifliaaDoor
open Go.RowKit

def btw (a lo hi : Int) : Bool := decide (lo ≤ a ∧ a ≤ hi)
def edB (p : Int) (e : Ed) : Bool := btw e.f 0 (p - 1) && btw e.t 0 (p - 1) && btw e.k 1 7
def gokB (p : Int) (es : List Ed) : Bool := btw p 1 3000 && decide (es.length ≤ 6000) && es.all (edB p)
theorem btw_iff {a lo hi : Int} : btw a lo hi = true ↔ lo ≤ a ∧ a ≤ hi := by unfold btw; simp
theorem btw_not {a lo hi : Int} : btw a lo hi = false ↔ ¬ (lo ≤ a ∧ a ≤ hi) := by unfold btw; simp
theorem ret_bool {a b : Bool} (h : a = b) : Ending.returned (.bool a) = .returned (.bool b) := by rw [h]
theorem all_take {p : Int} {es : List Ed} {i : Nat} {x : Ed} (h : es[i]? = some x) (ht : (es.take i).all (edB p) = true) (hx : edB p x = true) : (es.take (i + 1)).all (edB p) = true := by
  rw [List.take_add_one, h, List.all_append, ht]; simp [hx]
theorem all_no {p : Int} {es : List Ed} {i : Nat} {x : Ed} (h : es[i]? = some x) (hx : edB p x = false) : es.all (edB p) = false := by
  cases hh : es.all (edB p)
  · rfl
  · rw [List.all_eq_true] at hh
    rw [hh x (List.mem_of_getElem? h)] at hx
    cases hx

set_option maxHeartbeats 400000 in
theorem between_any (a lo hi : Int) (w : World) : Calls Tryd.prog 23 #[.int .i64 a, .int .i64 lo, .int .i64 hi] w fun e w' => e = .returned (.bool (btw a lo hi)) ∧ w = w' := by
  by_cases h : a ≥ lo
  · by_cases h2 : a ≤ hi
    · go_enter Tryd.func23, Tryd.ntmps23
      go_wp2
      go_ret
      exact ⟨ret_bool (btw_iff.2 ⟨h, h2⟩).symm, rfl⟩
    · go_enter Tryd.func23, Tryd.ntmps23
      go_wp2
      go_ret
      exact ⟨ret_bool (btw_not.2 (by omega)).symm, rfl⟩
  · go_enter Tryd.func23, Tryd.ntmps23
    go_wp2
    go_ret
    exact ⟨ret_bool (btw_not.2 (by omega)).symm, rfl⟩

set_option maxHeartbeats 400000 in
theorem isPoint_any (p x : Int) (a : Option Addr) (n c : Nat) (w : World) : Calls Tryd.prog 32 #[.agg #[.int .i64 p, .slice a n c], .int .i64 x] w fun e w' => e = .returned (.bool (btw x 0 (p - 1))) ∧ Below w.heap.size w w' := by
  by_cases h : x ≥ 0
  · by_cases h2 : x < p
    · go_enter Tryd.func32, Tryd.ntmps32
      go_wp2
      go_ret
      exact ⟨ret_bool (btw_iff.2 ⟨h, by omega⟩).symm, (Below.refl _ _).alloc (Nat.le_refl _) _⟩
    · go_enter Tryd.func32, Tryd.ntmps32
      go_wp2
      go_ret
      exact ⟨ret_bool (btw_not.2 (by omega)).symm, (Below.refl _ _).alloc (Nat.le_refl _) _⟩
  · go_enter Tryd.func32, Tryd.ntmps32
    go_wp2
    go_ret
    exact ⟨ret_bool (btw_not.2 (by omega)).symm, (Below.refl _ _).alloc (Nat.le_refl _) _⟩

set_option maxHeartbeats 1000000 in
theorem sGraphOk_of (p : Int) (es : List Ed) (b off c : Nat) (w : World) (hp : btw p 1 3000 = true) (hn : es.length ≤ 6000) (hl : LiesG w 0 es b off) :
    Calls Tryd.prog 10 #[.agg #[.int .i64 p, .slice (some ⟨b, off, none⟩) es.length c]] w fun e w' => e = .returned (.bool (es.all (edB p))) ∧ Below w.heap.size w w' := by
  have HL := mkHid hl
  clear hl
  obtain ⟨p1, p2⟩ := btw_iff.1 hp
  have hn' : ¬ (es.length : Int) > 6000 := by omega
  go_enter Tryd.func10, Tryd.ntmps10
  go_wp2_with (go_at_call 23; refine (between_any _ _ _ _).mono ?_; rintro e w' ⟨rfl, rfl⟩)
  go_loopw [3] (fun i w' => ∃ (k : Nat), k ≤ es.length ∧ i = .int .i64 k ∧ (es.take k).all (edB p) = true ∧ Below (w.heap.size + 1) (w.alloc (.cells #[.int .i64 p, .slice (some ⟨b, off, none⟩) es.length c] 29)) w') (fun i _ => es.length - (intOf i).toNat)
  case atStart => exact ⟨0, Nat.zero_le _, rfl, by simp, Below.refl _ _⟩
  case round =>
    obtain ⟨k, hk, rfl, hall, hbel⟩ := hrel
    have q0 : wr.cell? ⟨w.heap.size, 0, none⟩ = some (.int .i64 p) := (hbel.cell (p := ⟨w.heap.size, 0, none⟩) (by simp)).trans (by simp [go_sem])
    have q1 : wr.cell? ⟨w.heap.size, 1, none⟩ = some (.slice (some ⟨b, off, none⟩) es.length c) := (hbel.cell (p := ⟨w.heap.size, 1, none⟩) (by simp)).trans (by simp [go_sem])
    have HB := mkHid hbel
    have hb0 : Below w.heap.size w wr := ((Below.refl _ _).alloc (Nat.le_refl _) _).trans (hbel.mono (Nat.le_succ _))
    have hsz : w.heap.size + 1 ≤ wr.heap.size := by have := hbel.size; simpa using this
    have hsy : w.heap.size < wr.heap.size := by omega
    have hsn : w.heap.size ≠ wr.heap.size := by omega
    have HB0 := mkHid hb0
    have HA := mkHid hall
    clear hbel hall hb0
    by_cases hlt : k < es.length
    · obtain ⟨x, hx⟩ : ∃ x, es[k]? = some x := ⟨_, List.getElem?_eq_getElem hlt⟩
      have HX := mkHid hx
      obtain ⟨xf, xt, xe, xy, ⟨xk, xs, xm, xkk⟩⟩ := x
      obtain ⟨xa, xc, hc0, hc1, hc2, hc3, hc4, hc5, hc6, hc7, hs, hkn, hkids⟩ := (HL.out.below (Nat.zero_le _) HB0.out).at hx
      clear hx hs hkn hkids
      have AN : edB p ⟨xf, xt, xe, xy, .node xk xs xm xkk⟩ = false → es.all (edB p) = false := fun h => all_no HX.out h
      have AN := mkHid AN
      cases h1 : btw xf 0 (p - 1)
      · have e1 := mkHid (AN.out (by simp [edB, h1]))
        go_wp2_with (go_at_call 23; refine (between_any _ _ _ _).mono ?_; rintro e w' ⟨rfl, rfl⟩)
        go_ret
        exact ⟨ret_bool e1.out.symm, HB0.out.alloc HB0.out.size _⟩
      · cases h2 : btw xt 0 (p - 1)
        · have e1 := mkHid (AN.out (by simp [edB, h2]))
          go_wp2_with (go_at_call 23; refine (between_any _ _ _ _).mono ?_; rintro e w' ⟨rfl, rfl⟩)
          go_ret
          exact ⟨ret_bool e1.out.symm, HB0.out.alloc HB0.out.size _⟩
        · cases h3 : btw xe 1 7
          · have e1 := mkHid (AN.out (by simp [edB, h3]))
            go_wp2_with (go_at_call 23; refine (between_any _ _ _ _).mono ?_; rintro e w' ⟨rfl, rfl⟩)
            go_ret
            exact ⟨ret_bool e1.out.symm, HB0.out.alloc HB0.out.size _⟩
          · have e1 := mkHid (all_take HX.out HA.out (by simp [edB, h1, h2, h3]))
            go_wp2_with (go_at_call 23; refine (between_any _ _ _ _).mono ?_; rintro e w' ⟨rfl, rfl⟩)
            go_roundw
            case rel => exact ⟨k + 1, by omega, by go_num, e1.out, HB.out.alloc (by omega) _⟩
            case measure => simp [intOf]; omega
    · go_wp2
      go_ret
      have h3 := HA.out
      rw [List.take_of_length_le (by omega)] at h3
      exact ⟨ret_bool h3.symm, HB0.out⟩
end Go.Proofs.YtpikgigfeifliaaDoor
