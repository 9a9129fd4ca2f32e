/-
  CONTRACTS of the law's markValS.
-/
import Derived.Test.YtbfmljogfljhdaaGreatMm
namespace Go.Proofs.YtbfmljogfljhdaaGreat
open Go.RowKit

set_option maxRecDepth 100000 in
set_option maxHeartbeats 1600000 in
theorem markValS_of (l : List VV) (g cap base : Nat) (k0 : Int) (w : World) (hn : l.length ≤ 10000000) (h0 : 0 ≤ k0) (h1 : k0 ≤ 100000000) (hown : Own eV 82 w base (.slice (some ⟨g, 0, none⟩) l.length cap) l) :
    Calls Tryz.prog 73 #[.slice (some ⟨g, 0, none⟩) l.length cap, .int .i64 k0] w fun e w' => e = .returned (.int .i64 (k0 + (l.length : Int) * 3)) ∧ Own eV 82 w' base (.slice (some ⟨g, 0, none⟩) l.length cap) (marksV k0 l.length) ∧ w.grownBy w' (some g) := by
  have HO : Hid (w.ownsRow base 82 3 (.slice (some ⟨g, 0, none⟩) l.length cap) l.length (eV.flat l)) := mkHid hown
  clear hown
  go_enter Tryz.func73, Tryz.ntmps73
  go_wp2
  go_loopw [1, 5] (fun kv i w' => ∃ (k : Nat) (xs : List Value), k ≤ l.length ∧ i = .int .i64 k ∧ kv = .int .i64 (k0 + (k : Int) * 3) ∧ w'.ownsRow base 82 3 (.slice (some ⟨g, 0, none⟩) l.length cap) l.length xs ∧ xs.take (k * 3) = eV.flat ((marksV k0 l.length).take k) ∧ w.grownBy w' (some g)) (fun _ i _ => l.length - (intOf i).toNat)
  case atStart => exact ⟨0, _, Nat.zero_le _, rfl, by simp, HO.out, by simp [El.flat], World.grownBy.refl _ _⟩
  case round =>
    obtain ⟨k, xs, hk, rfl, rfl, hown, htake, hg⟩ := hrel
    have HW := mkHid hown
    have HT := mkHid htake
    have HG := mkHid hg
    clear hown htake hg HO
    by_cases hlt : k < l.length
    · have HX := mkHid (marksV_get (k0 := k0) hlt)
      obtain ⟨z, hz⟩ : ∃ z, k0 + (k : Int) * 3 = z := ⟨_, rfl⟩
      have HZ := mkHid hz
      have hz0 : 0 ≤ z := by omega
      have hz1 : z ≤ 200000000 := by omega
      rw [hz] at HX
      rw [hz]
      clear hz
      have hxl := HW.out.1
      obtain ⟨u0, y0⟩ : ∃ v, wr.cell? ⟨g, k * 3, none⟩ = some v := ⟨_, (HW.out.cellAt (k * 3) (by omega)).trans (List.getElem?_eq_getElem (by omega))⟩
      have f0 := HW.out.frozenAt (k * 3)
      obtain ⟨u1, y1⟩ : ∃ v, wr.cell? ⟨g, k * 3 + 1, none⟩ = some v := ⟨_, (HW.out.cellAt (k * 3 + 1) (by omega)).trans (List.getElem?_eq_getElem (by omega))⟩
      have f1 := HW.out.frozenAt (k * 3 + 1)
      obtain ⟨u2, y2⟩ : ∃ v, wr.cell? ⟨g, k * 3 + 2, none⟩ = some v := ⟨_, (HW.out.cellAt (k * 3 + 2) (by omega)).trans (List.getElem?_eq_getElem (by omega))⟩
      have f2 := HW.out.frozenAt (k * 3 + 2)
      clear hxl
      have i0 : (0 : Int) ≤ (k : Int) := by omega
      have i1 : (k : Int) < (l.length : Int) := by omega
      have ht2 := tmod3 (k := z + 1 + 1) (by omega)
      have HA0 := mkHid (HW.out.stored (k * 3) (.int .i64 (z)))
      have HA1 := mkHid (HA0.out.1.stored (k * 3 + 1) (.int .i64 (z + 1)))
      have HA2 := mkHid (HA1.out.1.stored (k * 3 + 2) (.bool (m3 (z + 1 + 1))))
      go_wp2
      go_roundw
      case rel =>
        refine ⟨k + 1, _, by omega, by go_num, by congr 1; rw [← HZ.out]; omega, HA2.out.1, step_v HX.out (by rw [marksV_len]; exact HW.out.1) HT.out, (grown_trans (grown_trans (grown_trans HG.out HA0.out.2) HA1.out.2) HA2.out.2)⟩
      case measure => simp [intOf]; omega
    · have e : k = l.length := by omega
      subst e
      have hown := HW.out
      have ht := HT.out
      rw [flat_upto (E := eV) (xs := xs) (l := marksV k0 l.length) (by rw [marksV_len]; exact HW.out.1) (by rw [marksV_len]; exact ht)] at hown
      have HW := mkHid hown
      clear hown ht HT
      go_wp2
      go_ret
      refine ⟨ret_int' (by omega), ?_, HG.out⟩
      unfold Own
      rw [marksV_len]
      exact HW.out
set_option maxRecDepth 100000 in
set_option maxHeartbeats 400000 in
theorem markValS_nil (a : Option Addr) (c : Nat) (k0 : Int) (w : World) :
    Calls Tryz.prog 73 #[.slice a 0 c, .int .i64 k0] w fun e w' => e = .returned (.int .i64 k0) ∧ w' = w := by
  go_enter Tryz.func73, Tryz.ntmps73
  go_wp2
  go_loopw [1, 5] (fun kv i w' => i = .int .i64 0 ∧ kv = .int .i64 k0 ∧ w' = w) (fun _ i _ => 0)
  case atStart => exact ⟨rfl, rfl, rfl⟩
  case round =>
    obtain ⟨rfl, rfl, rfl⟩ := hrel
    go_wp2
    go_ret
    exact ⟨rfl, rfl⟩
theorem markValS_ok (l : List VV) (ao : Option Addr) (cap base : Nat) (k0 : Int) (w : World) (hn : l.length ≤ 10000000) (h0 : 0 ≤ k0) (h1 : k0 ≤ 100000000) (hown : Own eV 82 w base (.slice ao l.length cap) l) :
    Calls Tryz.prog 73 #[.slice ao l.length cap, .int .i64 k0] w fun e w' => e = .returned (.int .i64 (k0 + (l.length : Int) * 3)) ∧ Own eV 82 w' base (.slice ao l.length cap) (marksV k0 l.length) ∧ w.grownBy w' (Value.ownBlock (.slice ao l.length cap)) := by
  rcases hown.2 with ⟨e, h⟩ | ⟨g, cap', cur, e, _⟩
  · have hl := List.length_eq_zero_iff.1 h
    subst hl
    refine (markValS_nil ao cap k0 w).mono ?_
    rintro e w' ⟨rfl, rfl⟩
    exact ⟨ret_int' (by simp), hown, World.grownBy.refl _ _⟩
  · simp at e
    obtain ⟨rfl, rfl⟩ := e
    exact markValS_of l g cap base k0 w hn h0 h1 hown
end Go.Proofs.YtbfmljogfljhdaaGreat
