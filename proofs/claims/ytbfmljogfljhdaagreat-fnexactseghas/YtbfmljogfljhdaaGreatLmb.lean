/-
  CONTRACTS of the law's markBoolS.
-/
import Derived.Test.YtbfmljogfljhdaaGreatMm
namespace Go.Proofs.YtbfmljogfljhdaaGreat
open Go.RowKit

set_option maxRecDepth 100000 in
set_option maxHeartbeats 1600000 in
theorem markBoolS_of (l : List Bool) (g cap base : Nat) (k0 : Int) (w : World) (hn : l.length ≤ 10000000) (h0 : 0 ≤ k0) (h1 : k0 ≤ 100000000) (hown : Own eB 4 w base (.slice (some ⟨g, 0, none⟩) l.length cap) l) :
    Calls Tryz.prog 74 #[.slice (some ⟨g, 0, none⟩) l.length cap, .int .i64 k0] w fun e w' => e = .returned (.int .i64 (k0 + (l.length : Int) * 1)) ∧ Own eB 4 w' base (.slice (some ⟨g, 0, none⟩) l.length cap) (marksB k0 l.length) ∧ w.grownBy w' (some g) := by
  have HO : Hid (w.ownsRow base 4 1 (.slice (some ⟨g, 0, none⟩) l.length cap) l.length (eB.flat l)) := mkHid hown
  clear hown
  go_enter Tryz.func74, Tryz.ntmps74
  go_wp2
  go_loopw [1, 5] (fun kv i w' => ∃ (k : Nat) (xs : List Value), k ≤ l.length ∧ i = .int .i64 k ∧ kv = .int .i64 (k0 + (k : Int)) ∧ w'.ownsRow base 4 1 (.slice (some ⟨g, 0, none⟩) l.length cap) l.length xs ∧ xs.take (k * 1) = eB.flat ((marksB k0 l.length).take k) ∧ w.grownBy w' (some g)) (fun _ i _ => l.length - (intOf i).toNat)
  case atStart => exact ⟨0, _, Nat.zero_le _, rfl, by simp, HO.out, by simp [El.flat], World.grownBy.refl _ _⟩
  case round =>
    obtain ⟨k, xs, hk, rfl, rfl, hown, htake, hg⟩ := hrel
    have HW := mkHid hown
    have HT := mkHid htake
    have HG := mkHid hg
    clear hown htake hg HO
    by_cases hlt : k < l.length
    · have HX := mkHid (marksB_get (k0 := k0) hlt)
      obtain ⟨z, hz⟩ : ∃ z, k0 + (k : Int) = z := ⟨_, rfl⟩
      have HZ := mkHid hz
      have hz0 : 0 ≤ z := by omega
      have hz1 : z ≤ 200000000 := by omega
      rw [hz] at HX
      rw [hz]
      clear hz
      have hxl := HW.out.1
      obtain ⟨u0, y0⟩ : ∃ v, wr.cell? ⟨g, k, none⟩ = some v := ⟨_, (HW.out.cellAt (k) (by omega)).trans (List.getElem?_eq_getElem (by omega))⟩
      have f0 := HW.out.frozenAt (k)
      clear hxl
      have i0 : (0 : Int) ≤ (k : Int) := by omega
      have i1 : (k : Int) < (l.length : Int) := by omega
      have ht0 := tmod3 (k := z) (by omega)
      have HA0 := mkHid (HW.out.stored (k) (.bool (m3 (z))))
      go_wp2
      go_roundw
      case rel =>
        refine ⟨k + 1, _, by omega, by go_num, by congr 1; rw [← HZ.out]; omega, HA0.out.1, step_b HX.out (by rw [marksB_len]; exact HW.out.1) HT.out, (grown_trans HG.out HA0.out.2)⟩
      case measure => simp [intOf]; omega
    · have e : k = l.length := by omega
      subst e
      have hown := HW.out
      have ht := HT.out
      rw [flat_upto (E := eB) (xs := xs) (l := marksB k0 l.length) (by rw [marksB_len]; exact HW.out.1) (by rw [marksB_len]; exact ht)] at hown
      have HW := mkHid hown
      clear hown ht HT
      go_wp2
      go_ret
      refine ⟨ret_int' (by omega), ?_, HG.out⟩
      unfold Own
      rw [marksB_len]
      exact HW.out
set_option maxRecDepth 100000 in
set_option maxHeartbeats 400000 in
theorem markBoolS_nil (a : Option Addr) (c : Nat) (k0 : Int) (w : World) :
    Calls Tryz.prog 74 #[.slice a 0 c, .int .i64 k0] w fun e w' => e = .returned (.int .i64 k0) ∧ w' = w := by
  go_enter Tryz.func74, Tryz.ntmps74
  go_wp2
  go_loopw [1, 5] (fun kv i w' => i = .int .i64 0 ∧ kv = .int .i64 k0 ∧ w' = w) (fun _ i _ => 0)
  case atStart => exact ⟨rfl, rfl, rfl⟩
  case round =>
    obtain ⟨rfl, rfl, rfl⟩ := hrel
    go_wp2
    go_ret
    exact ⟨rfl, rfl⟩
theorem markBoolS_ok (l : List Bool) (ao : Option Addr) (cap base : Nat) (k0 : Int) (w : World) (hn : l.length ≤ 10000000) (h0 : 0 ≤ k0) (h1 : k0 ≤ 100000000) (hown : Own eB 4 w base (.slice ao l.length cap) l) :
    Calls Tryz.prog 74 #[.slice ao l.length cap, .int .i64 k0] w fun e w' => e = .returned (.int .i64 (k0 + (l.length : Int) * 1)) ∧ Own eB 4 w' base (.slice ao l.length cap) (marksB k0 l.length) ∧ w.grownBy w' (Value.ownBlock (.slice ao l.length cap)) := by
  rcases hown.2 with ⟨e, h⟩ | ⟨g, cap', cur, e, _⟩
  · have hl := List.length_eq_zero_iff.1 h
    subst hl
    refine (markBoolS_nil ao cap k0 w).mono ?_
    rintro e w' ⟨rfl, rfl⟩
    exact ⟨ret_int' (by simp), hown, World.grownBy.refl _ _⟩
  · simp at e
    obtain ⟨rfl, rfl⟩ := e
    exact markBoolS_of l g cap base k0 w hn h0 h1 hown
end Go.Proofs.YtbfmljogfljhdaaGreat
