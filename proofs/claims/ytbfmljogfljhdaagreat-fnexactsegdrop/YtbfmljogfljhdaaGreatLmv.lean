/-
  CONTRACTS of the law's markValS.
  CONTRACTS of the law's markBoolS.
  CONTRACTS of the law's heldValS.
  CONTRACTS of the law's heldBoolS.
  CONTRACTS of the law's eqSeg, markSeg, heldSeg.
  FOR THE LAWS OVER SEGS: what came in, opened.
-/
import Derived.Test.YtbfmljogfljhdaaGreatMm
import Derived.Test.YtbfmljogfljhdaaGreatLty
import Derived.Test.YtbfmljogfljhdaaGreatLmy
import Derived.ProofKit
import Derived.OpenShut
import Derived.ChangeOld
import Derived.ChangeSlices
import Derived.Lib.SmallJoins
import Derived.Deep.Slices
import Derived.Deep.SlicePairs
namespace Go.Proofs.YtbfmljogfljhdaaGreat
open Go.RowKit

set_option maxRecDepth 100000 in
set_option maxHeartbeats 1600000 in
theorem markValS_of (l : List VV) (g cap base : Nat) (k0 : Int) (w : World) (hn : l.length ≤ 10000000) (h0 : 0 ≤ k0) (h1 : k0 ≤ 100000000) (hown : Own eV 82 w base (.slice (some ⟨g, 0, none⟩) l.length cap) l) :
    Calls Tryz.prog 73 #[.slice (some ⟨g, 0, none⟩) l.length cap, .int .i64 k0] w fun e w' => e = .returned (.int .i64 (k0 + (l.length : Int) * 3)) ∧ Own eV 82 w' base (.slice (some ⟨g, 0, none⟩) l.length cap) (marksV k0 l.length) ∧ w.grownBy w' (some g) := by
  have HO : Hid (w.ownsRow base 82 3 (.slice (some ⟨g, 0, none⟩) l.length cap) l.length (eV.flat l)) := mkHid hown
  clear hown
  go_enter Tryz.func73, Tryz.ntmps73
  go_wp2
  go_loopw [1, 5] (fun kv i w' => ∃ (k : Nat) (xs : List Value), k ≤ l.length ∧ i = .int .i64 k ∧ kv = .int .i64 (k0 + (k : Int) * 3) ∧ w'.ownsRow base 82 3 (.slice (some ⟨g, 0, none⟩) l.length cap) l.length xs ∧ xs.take (k * 3) = eV.flat ((marksV k0 l.length).take k) ∧ w.grownBy w' (some g)) (fun _ i _ => l.length - (intOf i).toNat)
  case atStart => exact ⟨0, _, Nat.zero_le _, rfl, by simp, HO.out, by simp [El.flat], World.grownBy.refl _ _⟩
  case round =>
    obtain ⟨k, xs, hk, rfl, rfl, hown, htake, hg⟩ := hrel
    have HW := mkHid hown
    have HT := mkHid htake
    have HG := mkHid hg
    clear hown htake hg HO
    by_cases hlt : k < l.length
    · have HX := mkHid (marksV_get (k0 := k0) hlt)
      obtain ⟨z, hz⟩ : ∃ z, k0 + (k : Int) * 3 = z := ⟨_, rfl⟩
      have HZ := mkHid hz
      have hz0 : 0 ≤ z := by omega
      have hz1 : z ≤ 200000000 := by omega
      rw [hz] at HX
      rw [hz]
      clear hz
      have hxl := HW.out.1
      obtain ⟨u0, y0⟩ : ∃ v, wr.cell? ⟨g, k * 3, none⟩ = some v := ⟨_, (HW.out.cellAt (k * 3) (by omega)).trans (List.getElem?_eq_getElem (by omega))⟩
      have f0 := HW.out.frozenAt (k * 3)
      obtain ⟨u1, y1⟩ : ∃ v, wr.cell? ⟨g, k * 3 + 1, none⟩ = some v := ⟨_, (HW.out.cellAt (k * 3 + 1) (by omega)).trans (List.getElem?_eq_getElem (by omega))⟩
      have f1 := HW.out.frozenAt (k * 3 + 1)
      obtain ⟨u2, y2⟩ : ∃ v, wr.cell? ⟨g, k * 3 + 2, none⟩ = some v := ⟨_, (HW.out.cellAt (k * 3 + 2) (by omega)).trans (List.getElem?_eq_getElem (by omega))⟩
      have f2 := HW.out.frozenAt (k * 3 + 2)
      clear hxl
      have i0 : (0 : Int) ≤ (k : Int) := by omega
      have i1 : (k : Int) < (l.length : Int) := by omega
      have ht2 := tmod3 (k := z + 1 + 1) (by omega)
      have HA0 := mkHid (HW.out.stored (k * 3) (.int .i64 (z)))
      have HA1 := mkHid (HA0.out.1.stored (k * 3 + 1) (.int .i64 (z + 1)))
      have HA2 := mkHid (HA1.out.1.stored (k * 3 + 2) (.bool (m3 (z + 1 + 1))))
      go_wp2
      go_roundw
      case rel =>
        refine ⟨k + 1, _, by omega, by go_num, by congr 1; rw [← HZ.out]; omega, HA2.out.1, step_v HX.out (by rw [marksV_len]; exact HW.out.1) HT.out, (grown_trans (grown_trans (grown_trans HG.out HA0.out.2) HA1.out.2) HA2.out.2)⟩
      case measure => simp [intOf]; omega
    · have e : k = l.length := by omega
      subst e
      have hown := HW.out
      have ht := HT.out
      rw [flat_upto (E := eV) (xs := xs) (l := marksV k0 l.length) (by rw [marksV_len]; exact HW.out.1) (by rw [marksV_len]; exact ht)] at hown
      have HW := mkHid hown
      clear hown ht HT
      go_wp2
      go_ret
      refine ⟨ret_int' (by omega), ?_, HG.out⟩
      unfold Own
      rw [marksV_len]
      exact HW.out
set_option maxRecDepth 100000 in
set_option maxHeartbeats 400000 in
theorem markValS_nil (a : Option Addr) (c : Nat) (k0 : Int) (w : World) :
    Calls Tryz.prog 73 #[.slice a 0 c, .int .i64 k0] w fun e w' => e = .returned (.int .i64 k0) ∧ w' = w := by
  go_enter Tryz.func73, Tryz.ntmps73
  go_wp2
  go_loopw [1, 5] (fun kv i w' => i = .int .i64 0 ∧ kv = .int .i64 k0 ∧ w' = w) (fun _ i _ => 0)
  case atStart => exact ⟨rfl, rfl, rfl⟩
  case round =>
    obtain ⟨rfl, rfl, rfl⟩ := hrel
    go_wp2
    go_ret
    exact ⟨rfl, rfl⟩
theorem markValS_ok (l : List VV) (ao : Option Addr) (cap base : Nat) (k0 : Int) (w : World) (hn : l.length ≤ 10000000) (h0 : 0 ≤ k0) (h1 : k0 ≤ 100000000) (hown : Own eV 82 w base (.slice ao l.length cap) l) :
    Calls Tryz.prog 73 #[.slice ao l.length cap, .int .i64 k0] w fun e w' => e = .returned (.int .i64 (k0 + (l.length : Int) * 3)) ∧ Own eV 82 w' base (.slice ao l.length cap) (marksV k0 l.length) ∧ w.grownBy w' (Value.ownBlock (.slice ao l.length cap)) := by
  rcases hown.2 with ⟨e, h⟩ | ⟨g, cap', cur, e, _⟩
  · have hl := List.length_eq_zero_iff.1 h
    subst hl
    refine (markValS_nil ao cap k0 w).mono ?_
    rintro e w' ⟨rfl, rfl⟩
    exact ⟨ret_int' (by simp), hown, World.grownBy.refl _ _⟩
  · simp at e
    obtain ⟨rfl, rfl⟩ := e
    exact markValS_of l g cap base k0 w hn h0 h1 hown
end Go.Proofs.YtbfmljogfljhdaaGreat
namespace Go.Proofs.YtbfmljogfljhdaaGreat
open Go.RowKit

set_option maxRecDepth 100000 in
set_option maxHeartbeats 1600000 in
theorem markBoolS_of (l : List Bool) (g cap base : Nat) (k0 : Int) (w : World) (hn : l.length ≤ 10000000) (h0 : 0 ≤ k0) (h1 : k0 ≤ 100000000) (hown : Own eB 4 w base (.slice (some ⟨g, 0, none⟩) l.length cap) l) :
    Calls Tryz.prog 74 #[.slice (some ⟨g, 0, none⟩) l.length cap, .int .i64 k0] w fun e w' => e = .returned (.int .i64 (k0 + (l.length : Int) * 1)) ∧ Own eB 4 w' base (.slice (some ⟨g, 0, none⟩) l.length cap) (marksB k0 l.length) ∧ w.grownBy w' (some g) := by
  have HO : Hid (w.ownsRow base 4 1 (.slice (some ⟨g, 0, none⟩) l.length cap) l.length (eB.flat l)) := mkHid hown
  clear hown
  go_enter Tryz.func74, Tryz.ntmps74
  go_wp2
  go_loopw [1, 5] (fun kv i w' => ∃ (k : Nat) (xs : List Value), k ≤ l.length ∧ i = .int .i64 k ∧ kv = .int .i64 (k0 + (k : Int)) ∧ w'.ownsRow base 4 1 (.slice (some ⟨g, 0, none⟩) l.length cap) l.length xs ∧ xs.take (k * 1) = eB.flat ((marksB k0 l.length).take k) ∧ w.grownBy w' (some g)) (fun _ i _ => l.length - (intOf i).toNat)
  case atStart => exact ⟨0, _, Nat.zero_le _, rfl, by simp, HO.out, by simp [El.flat], World.grownBy.refl _ _⟩
  case round =>
    obtain ⟨k, xs, hk, rfl, rfl, hown, htake, hg⟩ := hrel
    have HW := mkHid hown
    have HT := mkHid htake
    have HG := mkHid hg
    clear hown htake hg HO
    by_cases hlt : k < l.length
    · have HX := mkHid (marksB_get (k0 := k0) hlt)
      obtain ⟨z, hz⟩ : ∃ z, k0 + (k : Int) = z := ⟨_, rfl⟩
      have HZ := mkHid hz
      have hz0 : 0 ≤ z := by omega
      have hz1 : z ≤ 200000000 := by omega
      rw [hz] at HX
      rw [hz]
      clear hz
      have hxl := HW.out.1
      obtain ⟨u0, y0⟩ : ∃ v, wr.cell? ⟨g, k, none⟩ = some v := ⟨_, (HW.out.cellAt (k) (by omega)).trans (List.getElem?_eq_getElem (by omega))⟩
      have f0 := HW.out.frozenAt (k)
      clear hxl
      have i0 : (0 : Int) ≤ (k : Int) := by omega
      have i1 : (k : Int) < (l.length : Int) := by omega
      have ht0 := tmod3 (k := z) (by omega)
      have HA0 := mkHid (HW.out.stored (k) (.bool (m3 (z))))
      go_wp2
      go_roundw
      case rel =>
        refine ⟨k + 1, _, by omega, by go_num, by congr 1; rw [← HZ.out]; omega, HA0.out.1, step_b HX.out (by rw [marksB_len]; exact HW.out.1) HT.out, (grown_trans HG.out HA0.out.2)⟩
      case measure => simp [intOf]; omega
    · have e : k = l.length := by omega
      subst e
      have hown := HW.out
      have ht := HT.out
      rw [flat_upto (E := eB) (xs := xs) (l := marksB k0 l.length) (by rw [marksB_len]; exact HW.out.1) (by rw [marksB_len]; exact ht)] at hown
      have HW := mkHid hown
      clear hown ht HT
      go_wp2
      go_ret
      refine ⟨ret_int' (by omega), ?_, HG.out⟩
      unfold Own
      rw [marksB_len]
      exact HW.out
set_option maxRecDepth 100000 in
set_option maxHeartbeats 400000 in
theorem markBoolS_nil (a : Option Addr) (c : Nat) (k0 : Int) (w : World) :
    Calls Tryz.prog 74 #[.slice a 0 c, .int .i64 k0] w fun e w' => e = .returned (.int .i64 k0) ∧ w' = w := by
  go_enter Tryz.func74, Tryz.ntmps74
  go_wp2
  go_loopw [1, 5] (fun kv i w' => i = .int .i64 0 ∧ kv = .int .i64 k0 ∧ w' = w) (fun _ i _ => 0)
  case atStart => exact ⟨rfl, rfl, rfl⟩
  case round =>
    obtain ⟨rfl, rfl, rfl⟩ := hrel
    go_wp2
    go_ret
    exact ⟨rfl, rfl⟩
theorem markBoolS_ok (l : List Bool) (ao : Option Addr) (cap base : Nat) (k0 : Int) (w : World) (hn : l.length ≤ 10000000) (h0 : 0 ≤ k0) (h1 : k0 ≤ 100000000) (hown : Own eB 4 w base (.slice ao l.length cap) l) :
    Calls Tryz.prog 74 #[.slice ao l.length cap, .int .i64 k0] w fun e w' => e = .returned (.int .i64 (k0 + (l.length : Int) * 1)) ∧ Own eB 4 w' base (.slice ao l.length cap) (marksB k0 l.length) ∧ w.grownBy w' (Value.ownBlock (.slice ao l.length cap)) := by
  rcases hown.2 with ⟨e, h⟩ | ⟨g, cap', cur, e, _⟩
  · have hl := List.length_eq_zero_iff.1 h
    subst hl
    refine (markBoolS_nil ao cap k0 w).mono ?_
    rintro e w' ⟨rfl, rfl⟩
    exact ⟨ret_int' (by simp), hown, World.grownBy.refl _ _⟩
  · simp at e
    obtain ⟨rfl, rfl⟩ := e
    exact markBoolS_of l g cap base k0 w hn h0 h1 hown
end Go.Proofs.YtbfmljogfljhdaaGreat
namespace Go.Proofs.YtbfmljogfljhdaaGreat
open Go.RowKit

set_option maxRecDepth 100000 in
set_option maxHeartbeats 1600000 in
theorem heldValS_of (n : Nat) (a : Option Addr) (c : Nat) (k0 : Int) (w : World) (hp : 0 < n) (hn : n ≤ 10000000) (h0 : 0 ≤ k0) (h1 : k0 ≤ 100000000) (hl : At eV w a (marksV k0 n)) :
    Calls Tryz.prog 76 #[.slice a n c, .int .i64 k0] w fun e w' => e = .returned (.int .i64 (k0 + (n : Int) * 3)) ∧ Below w.heap.size w w' := by
  obtain ⟨b, off, rfl, hlb, _⟩ := hl.cons (by rw [marksV_len]; exact hp)
  have HL := mkHid hl
  clear hl
  go_enter Tryz.func76, Tryz.ntmps76
  go_wp2
  go_loopw [1, 5] (fun kv i w' => ∃ (k : Nat), k ≤ n ∧ i = .int .i64 k ∧ kv = .int .i64 (k0 + (k : Int) * 3) ∧ Below w.heap.size w w') (fun _ i _ => n - (intOf i).toNat)
  case atStart => exact ⟨0, Nat.zero_le _, rfl, by simp, Below.refl _ _⟩
  case round =>
    obtain ⟨k, hk, rfl, rfl, hbel⟩ := hrel
    have HB := mkHid hbel
    by_cases hlt : k < n
    · obtain ⟨_, _, e, hlc, hq⟩ := (HL.out.below hbel).cons (by rw [marksV_len]; exact hp)
      cases e
      have hx := marksV_get (k0 := k0) hlt
      obtain ⟨z, hz⟩ : ∃ z, k0 + (k : Int) * 3 = z := ⟨_, rfl⟩
      have HZ := mkHid hz
      have hz0 : 0 ≤ z := by omega
      have hz1 : z ≤ 200000000 := by omega
      rw [hz] at hx
      rw [hz]
      clear hz
      obtain ⟨c0, c1, c2⟩ := get_v hq hx
      clear hx hbel hq
      have i0 : (0 : Int) ≤ (k : Int) := by omega
      have i1 : (k : Int) < (n : Int) := by omega
      have hnz0 : (z != z) = false := by simp
      have hnz1 : (z + 1 != z + 1) = false := by simp
      have ht2 : ((z + 1 + 1) % 3 == 0) = m3 (z + 1 + 1) := rfl
      have hne : (m3 (z + 1 + 1) == m3 (z + 1 + 1)) = true := by simp
      have HB1 := HB
      go_wp2
      go_roundw
      case rel => exact ⟨k + 1, by omega, by go_num, by congr 1; rw [← HZ.out]; omega, HB1.out⟩
      case measure => simp [intOf]; omega
    · have e : k = n := by omega
      subst e
      go_wp2
      go_ret
      exact ⟨ret_int' (by omega), HB.out⟩
set_option maxRecDepth 100000 in
set_option maxHeartbeats 400000 in
theorem heldValS_nil (a : Option Addr) (c : Nat) (k0 : Int) (w : World) :
    Calls Tryz.prog 76 #[.slice a 0 c, .int .i64 k0] w fun e w' => e = .returned (.int .i64 k0) ∧ w' = w := by
  go_enter Tryz.func76, Tryz.ntmps76
  go_wp2
  go_loopw [1, 5] (fun kv i w' => i = .int .i64 0 ∧ kv = .int .i64 k0 ∧ w' = w) (fun _ i _ => 0)
  case atStart => exact ⟨rfl, rfl, rfl⟩
  case round =>
    obtain ⟨rfl, rfl, rfl⟩ := hrel
    go_wp2
    go_ret
    exact ⟨rfl, rfl⟩
theorem heldValS_ok (n : Nat) (a : Option Addr) (c : Nat) (k0 : Int) (w : World) (hn : n ≤ 10000000) (h0 : 0 ≤ k0) (h1 : k0 ≤ 100000000) (hl : At eV w a (marksV k0 n)) :
    Calls Tryz.prog 76 #[.slice a n c, .int .i64 k0] w fun e w' => e = .returned (.int .i64 (k0 + (n : Int) * 3)) ∧ Below w.heap.size w w' := by
  rcases Nat.eq_zero_or_pos n with rfl | h
  · refine (heldValS_nil a c k0 w).mono ?_
    rintro e w' ⟨rfl, rfl⟩
    exact ⟨ret_int' (by simp), Below.refl _ _⟩
  · exact heldValS_of n a c k0 w h hn h0 h1 hl
end Go.Proofs.YtbfmljogfljhdaaGreat
namespace Go.Proofs.YtbfmljogfljhdaaGreat
open Go.RowKit

set_option maxRecDepth 100000 in
set_option maxHeartbeats 1600000 in
theorem heldBoolS_of (n : Nat) (a : Option Addr) (c : Nat) (k0 : Int) (w : World) (hp : 0 < n) (hn : n ≤ 10000000) (h0 : 0 ≤ k0) (h1 : k0 ≤ 100000000) (hl : At eB w a (marksB k0 n)) :
    Calls Tryz.prog 77 #[.slice a n c, .int .i64 k0] w fun e w' => e = .returned (.int .i64 (k0 + (n : Int) * 1)) ∧ Below w.heap.size w w' := by
  obtain ⟨b, off, rfl, hlb, _⟩ := hl.cons (by rw [marksB_len]; exact hp)
  have HL := mkHid hl
  clear hl
  go_enter Tryz.func77, Tryz.ntmps77
  go_wp2
  go_loopw [1, 5] (fun kv i w' => ∃ (k : Nat), k ≤ n ∧ i = .int .i64 k ∧ kv = .int .i64 (k0 + (k : Int)) ∧ Below w.heap.size w w') (fun _ i _ => n - (intOf i).toNat)
  case atStart => exact ⟨0, Nat.zero_le _, rfl, by simp, Below.refl _ _⟩
  case round =>
    obtain ⟨k, hk, rfl, rfl, hbel⟩ := hrel
    have HB := mkHid hbel
    by_cases hlt : k < n
    · obtain ⟨_, _, e, hlc, hq⟩ := (HL.out.below hbel).cons (by rw [marksB_len]; exact hp)
      cases e
      have hx := marksB_get (k0 := k0) hlt
      obtain ⟨z, hz⟩ : ∃ z, k0 + (k : Int) = z := ⟨_, rfl⟩
      have HZ := mkHid hz
      have hz0 : 0 ≤ z := by omega
      have hz1 : z ≤ 200000000 := by omega
      rw [hz] at hx
      rw [hz]
      clear hz
      have c0 := get_b hq hx
      clear hx hbel hq
      have i0 : (0 : Int) ≤ (k : Int) := by omega
      have i1 : (k : Int) < (n : Int) := by omega
      have ht0 : ((z) % 3 == 0) = m3 (z) := rfl
      have hne : (m3 (z) == m3 (z)) = true := by simp
      have HB1 := HB
      go_wp2
      go_roundw
      case rel => exact ⟨k + 1, by omega, by go_num, by congr 1; rw [← HZ.out]; omega, HB1.out⟩
      case measure => simp [intOf]; omega
    · have e : k = n := by omega
      subst e
      go_wp2
      go_ret
      exact ⟨ret_int' (by omega), HB.out⟩
set_option maxRecDepth 100000 in
set_option maxHeartbeats 400000 in
theorem heldBoolS_nil (a : Option Addr) (c : Nat) (k0 : Int) (w : World) :
    Calls Tryz.prog 77 #[.slice a 0 c, .int .i64 k0] w fun e w' => e = .returned (.int .i64 k0) ∧ w' = w := by
  go_enter Tryz.func77, Tryz.ntmps77
  go_wp2
  go_loopw [1, 5] (fun kv i w' => i = .int .i64 0 ∧ kv = .int .i64 k0 ∧ w' = w) (fun _ i _ => 0)
  case atStart => exact ⟨rfl, rfl, rfl⟩
  case round =>
    obtain ⟨rfl, rfl, rfl⟩ := hrel
    go_wp2
    go_ret
    exact ⟨rfl, rfl⟩
theorem heldBoolS_ok (n : Nat) (a : Option Addr) (c : Nat) (k0 : Int) (w : World) (hn : n ≤ 10000000) (h0 : 0 ≤ k0) (h1 : k0 ≤ 100000000) (hl : At eB w a (marksB k0 n)) :
    Calls Tryz.prog 77 #[.slice a n c, .int .i64 k0] w fun e w' => e = .returned (.int .i64 (k0 + (n : Int) * 1)) ∧ Below w.heap.size w w' := by
  rcases Nat.eq_zero_or_pos n with rfl | h
  · refine (heldBoolS_nil a c k0 w).mono ?_
    rintro e w' ⟨rfl, rfl⟩
    exact ⟨ret_int' (by simp), Below.refl _ _⟩
  · exact heldBoolS_of n a c k0 w h hn h0 h1 hl
end Go.Proofs.YtbfmljogfljhdaaGreat
namespace Go.Proofs.YtbfmljogfljhdaaGreat
open Go.RowKit

structure Small (S : SG) : Prop where
  b : S.B.length ≤ 1048576
  t : tot S.B ≤ 1048576
  v : S.V.length ≤ 1048576
  m : S.M.length ≤ 1048576
theorem Small.row {S : SG} (h : Small S) (i : Nat) (l : List Y) (hl : S.B[i]? = some l) : l.length ≤ 1048576 := Nat.le_trans (tot_get hl) h.t
set_option maxRecDepth 100000 in
set_option maxHeartbeats 1600000 in
theorem eqSeg_same (S : SG) (A A' : SAd) (w : World) (hs : Small S) (hl : SegAt w A S) (hl' : SegAt w A' S) :
    Calls Tryz.prog 22 #[.agg #[.slice A.a0 S.B.length A.c0, .slice A.a1 S.V.length A.c1, .slice A.a2 S.M.length A.c2], .agg #[.slice A'.a0 S.B.length A'.c0, .slice A'.a1 S.V.length A'.c1, .slice A'.a2 S.M.length A'.c2]] w fun e w' => e = .returned (.bool true) ∧ Below w.heap.size w w' := by
  have HS := mkHid hs
  have HL := mkHid hl
  have HL' := mkHid hl'
  clear hs hl hl'
  obtain ⟨w0, hw0⟩ : ∃ x : World, (w.alloc (.cells #[.slice A.a0 S.B.length A.c0, .slice A.a1 S.V.length A.c1, .slice A.a2 S.M.length A.c2] 28)).alloc (.cells #[.slice A'.a0 S.B.length A'.c0, .slice A'.a1 S.V.length A'.c1, .slice A'.a2 S.M.length A'.c2] 28) = x := ⟨_, rfl⟩
  obtain ⟨X, hX⟩ : ∃ x, w.heap.size = x := ⟨_, rfl⟩
  have HB : Hid (Below X w w0) := mkHid (by rw [← hw0, ← hX]; exact bl_alloc (bl_alloc (Below.refl _ _) _) _)
  have P0 : Hid (G3 w0 X (.slice A.a0 S.B.length A.c0) (.slice A.a1 S.V.length A.c1) (.slice A.a2 S.M.length A.c2)) := mkHid (by rw [← hw0, ← hX]; constructor <;> simp [go_sem])
  have P1 : Hid (G3 w0 (X + 1) (.slice A'.a0 S.B.length A'.c0) (.slice A'.a1 S.V.length A'.c1) (.slice A'.a2 S.M.length A'.c2)) := mkHid (by rw [← hw0, ← hX]; constructor <;> simp [go_sem])
  have HX := mkHid hX
  have L0 : Hid (SegAt w0 A S) := mkHid (HL.out.below (by rw [hX]; exact HB.out))
  have L1 : Hid (SegAt w0 A' S) := mkHid (HL'.out.below (by rw [hX]; exact HB.out))
  obtain ⟨q0, q1, q2, _, _, _⟩ := P0.out
  obtain ⟨p0, p1, p2, _, _, _⟩ := P1.out
  clear HL HL'
  go_enter Tryz.func22, Tryz.ntmps22
  go_wp2_with fail
  clear hw0 hX q0 q1 q2 p0 p1 p2
  refine (eqSymSS_ok S.B A.a0 A'.a0 A.c0 A'.c0 _ (by have := HS.out.b; unfold maxLen; omega) (fun i l hl => by have := HS.out.row i l hl; unfold maxLen; omega) L0.out.b L1.out.b).mono ?_
  rintro e w1 ⟨rfl, hb⟩
  have R0 := mkHid (P0.out.below hb)
  have R1 := mkHid (P1.out.below hb)
  have M0 := mkHid (L0.out.below hb)
  have M1 := mkHid (L1.out.below hb)
  have HB1 : Hid (Below X w w1) := mkHid (HB.out.trans (hb.mono (by have := HX.out; have := HB.out.size; omega)))
  have HS1 : Hid (X ≤ w1.heap.size) := mkHid (by have := HX.out; have := HB1.out.size; omega)
  clear hb P0 P1 L0 L1 HB
  obtain ⟨q0, q1, q2, _, _, _⟩ := R0.out
  obtain ⟨p0, p1, p2, _, _, _⟩ := R1.out
  go_wp2_with fail
  clear q0 q1 q2 p0 p1 p2
  refine (eqValS_same S.V A.a1 A'.a1 A.c1 A'.c1 _ (by have := HS.out.v; unfold maxLen; omega) M0.out.v M1.out.v).mono ?_
  rintro e w2 ⟨rfl, hb⟩
  have P0 := mkHid (R0.out.below hb)
  have P1 := mkHid (R1.out.below hb)
  have L0 := mkHid (M0.out.below hb)
  have L1 := mkHid (M1.out.below hb)
  have HB2 : Hid (Below X w w2) := mkHid (HB1.out.trans (hb.mono HS1.out))
  have HS2 : Hid (X ≤ w2.heap.size) := mkHid (by have := HX.out; have := HB2.out.size; omega)
  clear hb R0 R1 M0 M1 HB1
  obtain ⟨q0, q1, q2, _, _, _⟩ := P0.out
  obtain ⟨p0, p1, p2, _, _, _⟩ := P1.out
  go_wp2_with fail
  clear q0 q1 q2 p0 p1 p2
  refine (eqBoolS_same S.M A.a2 A'.a2 A.c2 A'.c2 _ (by have := HS.out.m; unfold maxLen; omega) L0.out.m L1.out.m).mono ?_
  rintro e w3 ⟨rfl, hb⟩
  have HB3 : Hid (Below X w w3) := mkHid (HB2.out.trans (hb.mono HS2.out))
  clear hb
  go_wp2
  go_ret
  exact ⟨rfl, by rw [HX.out]; exact HB3.out⟩
def marksS (k0 : Int) (S : SG) : SG := ⟨marksYY k0 S.B, marksV (k0 + (tot S.B : Int) * 2) S.V.length, marksB (k0 + (tot S.B : Int) * 2 + (S.V.length : Int) * 3) S.M.length⟩
def cntS (S : SG) : Int := (tot S.B : Int) * 2 + (S.V.length : Int) * 3 + (S.M.length : Int)
theorem cntS_nonneg (S : SG) : 0 ≤ cntS S := by unfold cntS; omega
theorem Small.cnt {S : SG} (h : Small S) : cntS S ≤ 6291456 := by have := h.t; have := h.v; have := h.m; unfold cntS; omega
theorem Outs.alloc {lo hi : Nat} {a b : World} (h : Outs lo hi a b) (o : Obj) : Outs lo hi a (b.alloc o) := h.step ((Below.refl _ _).alloc (Nat.le_refl _) _)
set_option maxRecDepth 100000 in
set_option maxHeartbeats 1600000 in
theorem markSeg_ok (S : SG) (A : SAd) (lo hi : Nat) (k0 : Int) (w : World) (hs : Small S) (h0 : 0 ≤ k0) (h1 : k0 ≤ 10000000) (hhi : hi ≤ w.heap.size) (hl : OwnS w lo hi A S) :
    Calls Tryz.prog 28 #[.agg #[.slice A.a0 S.B.length A.c0, .slice A.a1 S.V.length A.c1, .slice A.a2 S.M.length A.c2], .int .i64 k0] w fun e w' => e = .returned (.int .i64 (k0 + cntS S)) ∧ OwnS w' lo hi A (marksS k0 S) ∧ Outs lo hi w w' := by
  have HS := mkHid hs
  have hs1 := hs.t
  have hs2 := hs.v
  have hs3 := hs.m
  have HL := mkHid hl
  clear hs hl
  obtain ⟨w0, hw0⟩ : ∃ x : World, w.alloc (.cells #[.slice A.a0 S.B.length A.c0, .slice A.a1 S.V.length A.c1, .slice A.a2 S.M.length A.c2] 28) = x := ⟨_, rfl⟩
  obtain ⟨X, hX⟩ : ∃ x, w.heap.size = x := ⟨_, rfl⟩
  rw [hX] at hhi
  have HB : Hid (Below w.heap.size w w0) := mkHid (by rw [← hw0]; exact bl_alloc (Below.refl _ _) _)
  have P0 : Hid (G3 w0 X (.slice A.a0 S.B.length A.c0) (.slice A.a1 S.V.length A.c1) (.slice A.a2 S.M.length A.c2)) := mkHid (by rw [← hw0, ← hX]; exact G3.new _ _ _ _ _)
  have L0 := mkHid (HL.out.below HB.out)
  have U0 : Hid (Outs lo hi w w0) := mkHid ((Outs.refl lo hi w).step HB.out)
  obtain ⟨q0, q1, q2, _, _, _⟩ := P0.out
  clear HL HB
  go_enter Tryz.func28, Tryz.ntmps28
  go_wp2_with fail
  clear hw0 hX q0 q1 q2
  refine (markSymSS_ok S.B A.a0 A.c0 lo hi k0 _ (by have := HS.out.b; omega) (fun i l hl => by have := HS.out.row i l hl; omega) (by omega) h0 (by omega) L0.out.b).mono ?_
  rintro e w1 ⟨rfl, hb, hu, hk⟩
  have B1 := mkHid hb
  have U1 := mkHid (U0.out.trans hu)
  have P1 := mkHid (P0.out.outs hu (.inr hhi))
  have V1 : Hid (Own eV 82 w1 lo (.slice A.a1 S.V.length A.c1) S.V) := mkHid (owns_keeps L0.out.v hk (by decide))
  have M1 : Hid (Own eB 4 w1 lo (.slice A.a2 S.M.length A.c2) S.M) := mkHid (owns_keeps L0.out.m hk (by decide))
  have VT := mkHid L0.out.vt
  have MT := mkHid L0.out.mt
  clear hb hu hk U0 P0 L0
  obtain ⟨k1, hk1⟩ : ∃ k, k0 + (tot S.B : Int) * 2 = k := ⟨_, rfl⟩
  have HK1 := mkHid hk1
  have hk1a : 0 ≤ k1 := by omega
  have hk1b : k1 ≤ 20000000 := by omega
  rw [hk1]
  clear hk1
  obtain ⟨q0, q1, q2, _, _, _⟩ := P1.out
  go_wp2_with fail
  clear q0 q1 q2
  refine (markValS_ok S.V A.a1 A.c1 lo k1 _ (by omega) hk1a (by omega) V1.out).mono ?_
  rintro e w2 ⟨rfl, hv, hg⟩
  have V2 := mkHid hv
  have hk : Keeps 82 w1 w2 := Keeps.grown hg fun q hq => by obtain ⟨cur, hc⟩ := V1.out.block hq; exact ⟨cur, _, hc⟩
  have U2 := mkHid (U1.out.grown hg fun q hq => ⟨(V1.out.lt hq).1, VT.out q hq⟩)
  have B2 := mkHid (B1.out.keeps hk (by decide) (by decide))
  have M2 : Hid (Own eB 4 w2 lo (.slice A.a2 S.M.length A.c2) S.M) := mkHid (owns_keeps M1.out hk (by decide))
  have P2 := mkHid (P1.out.outs ((Outs.refl lo hi w1).grown hg fun q hq => ⟨(V1.out.lt hq).1, VT.out q hq⟩) (.inr hhi))
  clear hv hg hk U1 B1 M1 P1 V1
  obtain ⟨k2, hk2⟩ : ∃ k, k1 + (S.V.length : Int) * 3 = k := ⟨_, rfl⟩
  have HK2 := mkHid hk2
  have hk2a : 0 ≤ k2 := by omega
  have hk2b : k2 ≤ 30000000 := by omega
  rw [hk2]
  clear hk2
  obtain ⟨q0, q1, q2, _, _, _⟩ := P2.out
  go_wp2_with fail
  clear q0 q1 q2
  refine (markBoolS_ok S.M A.a2 A.c2 lo k2 _ (by omega) hk2a (by omega) M2.out).mono ?_
  rintro e w3 ⟨rfl, hm, hg⟩
  have hk : Keeps 4 w2 w3 := Keeps.grown hg fun q hq => by obtain ⟨cur, hc⟩ := M2.out.block hq; exact ⟨cur, _, hc⟩
  have U3 := mkHid (U2.out.grown hg fun q hq => ⟨(M2.out.lt hq).1, MT.out q hq⟩)
  have OS : Hid (OwnS w3 lo hi A (marksS k0 S)) := mkHid (by
    have e1 : k0 + (tot S.B : Int) * 2 = k1 := HK1.out
    have e2 : k1 + (S.V.length : Int) * 3 = k2 := HK2.out
    unfold marksS
    rw [e1, e2]
    refine ⟨?_, ?_, ?_, ?_, ?_⟩
    · show OwnT w3 lo hi (.slice A.a0 (marksYY k0 S.B).length A.c0) _
      rw [marksYY_len]
      exact B2.out.keeps hk (by decide) (by decide)
    · show Own eV 82 w3 lo (.slice A.a1 (marksV k1 S.V.length).length A.c1) _
      rw [marksV_len]
      exact owns_keeps V2.out hk (by decide)
    · show ∀ q, Value.ownBlock (.slice A.a1 (marksV k1 S.V.length).length A.c1) = some q → q < hi
      rw [marksV_len]
      exact VT.out
    · show Own eB 4 w3 lo (.slice A.a2 (marksB k2 S.M.length).length A.c2) _
      rw [marksB_len]
      exact hm
    · show ∀ q, Value.ownBlock (.slice A.a2 (marksB k2 S.M.length).length A.c2) = some q → q < hi
      rw [marksB_len]
      exact MT.out)
  clear hm hg hk U2 B2 M2 V2 P2
  go_wp2
  go_ret
  exact ⟨ret_int' (by rw [← HK2.out, ← HK1.out]; unfold cntS; omega), OS.out, U3.out⟩
set_option maxRecDepth 100000 in
set_option maxHeartbeats 1600000 in
theorem heldSeg_ok (S : SG) (A : SAd) (k0 : Int) (w : World) (hs : Small S) (h0 : 0 ≤ k0) (h1 : k0 ≤ 10000000) (hl : SegAt w A (marksS k0 S)) :
    Calls Tryz.prog 30 #[.agg #[.slice A.a0 S.B.length A.c0, .slice A.a1 S.V.length A.c1, .slice A.a2 S.M.length A.c2], .int .i64 k0] w fun e w' => e = .returned (.int .i64 (k0 + cntS S)) ∧ Below w.heap.size w w' := by
  have HS := mkHid hs
  have hs1 := hs.t
  have hs2 := hs.v
  have hs3 := hs.m
  have HL := mkHid hl
  clear hs hl
  obtain ⟨w0, hw0⟩ : ∃ x : World, w.alloc (.cells #[.slice A.a0 S.B.length A.c0, .slice A.a1 S.V.length A.c1, .slice A.a2 S.M.length A.c2] 28) = x := ⟨_, rfl⟩
  obtain ⟨X, hX⟩ : ∃ x, w.heap.size = x := ⟨_, rfl⟩
  have HB : Hid (Below w.heap.size w w0) := mkHid (by rw [← hw0]; exact bl_alloc (Below.refl _ _) _)
  have P0 : Hid (G3 w0 X (.slice A.a0 S.B.length A.c0) (.slice A.a1 S.V.length A.c1) (.slice A.a2 S.M.length A.c2)) := mkHid (by rw [← hw0, ← hX]; exact G3.new _ _ _ _ _)
  have L0 := mkHid (HL.out.below HB.out)
  obtain ⟨q0, q1, q2, _, _, _⟩ := P0.out
  clear HL
  go_enter Tryz.func30, Tryz.ntmps30
  go_wp2_with fail
  clear hw0 hX q0 q1 q2
  refine (heldSymSS_ok S.B A.a0 A.c0 k0 _ (by have := HS.out.b; omega) (fun i l hl => by have := HS.out.row i l hl; omega) (by omega) h0 (by omega) L0.out.b).mono ?_
  rintro e w1 ⟨rfl, hb⟩
  have HB1 := mkHid (below_step HB.out hb)
  have P1 := mkHid (P0.out.below hb)
  have L1 := mkHid (L0.out.below hb)
  clear hb HB P0 L0
  obtain ⟨k1, hk1⟩ : ∃ k, k0 + (tot S.B : Int) * 2 = k := ⟨_, rfl⟩
  have HK1 := mkHid hk1
  have hk1a : 0 ≤ k1 := by omega
  have hk1b : k1 ≤ 20000000 := by omega
  have hk1c : ¬ k1 < 0 := by omega
  have V1 : Hid (At eV w1 A.a1 (marksV k1 S.V.length)) := mkHid (by rw [← hk1]; exact L1.out.v)
  have M1 : Hid (At eB w1 A.a2 (marksB (k1 + (S.V.length : Int) * 3) S.M.length)) := mkHid (by rw [← hk1]; exact L1.out.m)
  rw [hk1]
  clear hk1 L1
  obtain ⟨q0, q1, q2, _, _, _⟩ := P1.out
  go_wp2_with fail
  clear q0 q1 q2
  refine (heldValS_ok S.V.length A.a1 A.c1 k1 _ (by omega) hk1a (by omega) V1.out).mono ?_
  rintro e w2 ⟨rfl, hb⟩
  have HB2 := mkHid (below_step HB1.out hb)
  have P2 := mkHid (P1.out.below hb)
  have M2 := mkHid (M1.out.below hb)
  clear hb HB1 P1 V1 M1
  obtain ⟨k2, hk2⟩ : ∃ k, k1 + (S.V.length : Int) * 3 = k := ⟨_, rfl⟩
  have HK2 := mkHid hk2
  have hk2a : 0 ≤ k2 := by omega
  have hk2b : k2 ≤ 30000000 := by omega
  have hk2c : ¬ k2 < 0 := by omega
  rw [hk2] at M2
  rw [hk2]
  clear hk2
  obtain ⟨q0, q1, q2, _, _, _⟩ := P2.out
  go_wp2_with fail
  clear q0 q1 q2
  refine (heldBoolS_ok S.M.length A.a2 A.c2 k2 _ (by omega) hk2a (by omega) M2.out).mono ?_
  rintro e w3 ⟨rfl, hb⟩
  have HB3 := mkHid (below_step HB2.out hb)
  clear hb HB2 P2 M2
  obtain ⟨k3, hk3⟩ : ∃ k, k2 + (S.M.length : Int) * 1 = k := ⟨_, rfl⟩
  have hk3c : ¬ k3 < 0 := by omega
  have HK3 : Hid (k3 = k0 + cntS S) := mkHid (by rw [← hk3, ← HK2.out, ← HK1.out]; unfold cntS; omega)
  rw [hk3]
  clear hk3
  go_wp2
  go_ret
  exact ⟨ret_int' HK3.out, HB3.out⟩
end Go.Proofs.YtbfmljogfljhdaaGreat
namespace Go.Proofs.YtbfmljogfljhdaaGreat
open Go.ChangeShapes Go.WideShapes Go.ChangeAt Go.RowKit Go.Joins Go.Deep

theorem Tryz.own : ownKnob Tryz.prog.godebug = none := by kernel_rfl
theorem Tryz.laidOut : laidOutB Tryz.prog = true := by kernel_rfl
theorem Tryz.cells148 : Tryz.prog.cellsOf 148 = 3 := by kernel_rfl
theorem Tryz.cells146 : Tryz.prog.cellsOf 146 = 2 := by kernel_rfl
theorem Tryz.cells3 : Tryz.prog.cellsOf 3 = 1 := by kernel_rfl
theorem Tryz.cells4 : Tryz.prog.cellsOf 4 = 1 := by kernel_rfl
theorem Tryz.cells116 : Tryz.prog.cellsOf 116 = 2 := by kernel_rfl
theorem Tryz.cells57 : Tryz.prog.cellsOf 57 = 1 := by kernel_rfl
theorem Tryz.cells44 : Tryz.prog.cellsOf 44 = 1 := by kernel_rfl
theorem Tryz.cells45 : Tryz.prog.cellsOf 45 = 1 := by kernel_rfl
theorem Tryz.cells26 : Tryz.prog.cellsOf 26 = 1 := by kernel_rfl
theorem Tryz.cells47 : Tryz.prog.cellsOf 47 = 3 := by kernel_rfl

variable {H : Type} {enc : TypeId × Value → H} {W : World}

set_option maxRecDepth 100000 in
theorem open_val3 {n : Nat} {cs : List Value} {x : DataW H × List MemPlace} (h : DataW.trod enc Tryz.prog W 0 (fun _ => true) true n 148 cs = some x) : ∃ y : VV, cs = eV.enc y := by
  obtain ⟨y0, y1, m, _, hlen, h0, h1⟩ := trod_struct2 Tryz.underlying148 h
  rw [Tryz.cells148] at hlen
  match cs, hlen with
  | [c0, c1, c2], _ =>
    simp [Tryz.cells146, Tryz.cells4] at h0 h1
    obtain ⟨z0, z1, m', _, _, g0, g1⟩ := trod_struct2 Tryz.underlying146 h0
    simp [Tryz.cells3] at g0 g1
    obtain ⟨a, e0, _, _⟩ := DataW.trod_int Tryz.underlying3 g0
    obtain ⟨b, e1, _, _⟩ := DataW.trod_int Tryz.underlying3 g1
    obtain ⟨s, e2, _⟩ := DataW.trod_bool Tryz.underlying4 h1
    simp at e0 e1 e2
    subst e0 e1 e2
    exact ⟨(a, b, s), rfl⟩
set_option maxRecDepth 100000 in
theorem open_sym2 {n : Nat} {cs : List Value} {x : DataW H × List MemPlace} (h : DataW.trod enc Tryz.prog W 0 (fun _ => true) true n 116 cs = some x) : ∃ y : Y, cs = eY.enc y := by
  obtain ⟨y0, y1, m, _, hlen, h0, h1⟩ := trod_struct2 Tryz.underlying116 h
  rw [Tryz.cells116] at hlen
  match cs, hlen with
  | [c0, c1], _ =>
    simp [Tryz.cells3] at h0 h1
    obtain ⟨a, e0, _, _⟩ := DataW.trod_int Tryz.underlying3 h0
    obtain ⟨b, e1, _, _⟩ := DataW.trod_int Tryz.underlying3 h1
    simp at e0 e1
    subst e0 e1
    exact ⟨(a, b), rfl⟩
theorem open_bool1 {n : Nat} {cs : List Value} {x : DataW H × List MemPlace} (h : DataW.trod enc Tryz.prog W 0 (fun _ => true) true n 4 cs = some x) (hl : cs.length = 1) : ∃ y : Bool, cs = eB.enc y := by
  obtain ⟨s, e, _⟩ := DataW.trod_bool Tryz.underlying4 h
  match cs, hl with
  | [c], _ => simp at e; subst e; exact ⟨s, rfl⟩
theorem list_of_fn {α : Type} (f : Nat → α) (n : Nat) : ∃ l : List α, l.length = n ∧ ∀ i x, l[i]? = some x → i < n ∧ x = f i := by
  refine ⟨(List.range n).map f, by simp, fun i x hx => ?_⟩
  obtain ⟨hi, e⟩ := List.getElem?_eq_some_iff.1 hx
  simp at hi e
  exact ⟨hi, e.symm⟩
/-- A slice that came in, out of what its elements are. -/
theorem open_row {α : Type} (E : El α) [Inhabited α] {T U : TypeId} (hT : Tryz.prog.underlying T = some (.slice U)) (hU : Tryz.prog.cellsOf U = E.k)
    (he : ∀ {n : Nat} {cs : List Value} {x : DataW H × List MemPlace}, DataW.trod enc Tryz.prog W 0 (fun _ => true) true n U cs = some x → cs.length = E.k → ∃ y : α, cs = E.enc y)
    {n : Nat} {a : Option Addr} {len cap : Nat} {x : DataW H × List MemPlace} (h : DataW.trod enc Tryz.prog W 0 (fun _ => true) true n T [.slice a len cap] = some x) :
    ∃ l : List α, len = l.length ∧ l.length ≤ maxLen ∧ At E W a l := by
  rcases open_slice hT h with ⟨hcs, _⟩ | ⟨ad, len', cap', m, n, D, Pl, hcs, _, hl, hm, hmm, _, hall⟩
  · simp at hcs
    exact ⟨[], hcs.2.1, by simp, .inl rfl⟩
  · simp at hcs
    obtain ⟨rfl, rfl, rfl⟩ := hcs
    by_cases h0 : len = 0
    · exact ⟨[], h0, by simp, .inl rfl⟩
    simp only [if_true] at hmm
    rw [hU] at hall
    have each : ∀ i, i < len → ∃ y : α, ∀ (j : Nat) (v : Value), (E.enc y)[j]? = some v → W.cell? (ad.add (i * E.k + j)) = some v := by
      intro i hi
      obtain ⟨cs', h1, h2⟩ := hall i (by omega)
      obtain ⟨hq1, hq2, hc⟩ := World.cells?_some h1
      have hcl : cs'.length = E.k := by first | exact hq1 | exact hq2
      obtain ⟨y, rfl⟩ := he h2 hcl
      refine ⟨y, fun j v hv => ?_⟩
      have hj : j < E.k := by have := (List.getElem?_eq_some_iff.1 hv).1; rwa [E.len] at this
      have e0 := hc j (by first | exact hj | omega)
      rw [add_add] at e0
      rw [e0]
      first | exact hv | simpa using hv
    obtain ⟨f, hf'⟩ := choose_lt each
    obtain ⟨l, hwl, hws⟩ := list_of_fn f len
    obtain ⟨b, off, spot⟩ := ad
    have hsp : spot = none := by
      have hp := E.pos
      have hq := E.len (f 0)
      obtain ⟨v0, hj⟩ : ∃ v, (E.enc (f 0))[0]? = some v := ⟨_, List.getElem?_eq_getElem (by omega)⟩
      have := World.cell?_spot (hf' 0 (by omega) 0 v0 hj)
      simpa [Addr.add] using this
    subst hsp
    refine ⟨l, hwl.symm, by omega, .inr ⟨b, off, rfl, fun i x hx j v hv => ?_⟩⟩
    obtain ⟨hi, rfl⟩ := hws i x hx
    have e0 := hf' i hi j v hv
    rw [add_plain] at e0
    rw [Nat.add_assoc]
    exact e0
theorem open_syms {a : Option Addr} {len cap : Nat} {x : DataW H} {p : List MemPlace} (h : DataW.Trod enc Tryz.prog W 0 (fun _ => true) true 57 (.slice a len cap) x p) : ∃ l : List Y, len = l.length ∧ l.length ≤ maxLen ∧ At eY W a l := by
  obtain ⟨fuel, hf⟩ := h
  exact open_row eY Tryz.underlying57 Tryz.cells116 (fun h _ => open_sym2 h) hf
instance : Inhabited (List Y × Option Addr × Nat) := ⟨([], none, 0)⟩
theorem open_bnds {n : Nat} {a : Option Addr} {len cap : Nat} {x : DataW H × List MemPlace} (h : DataW.trod enc Tryz.prog W 0 (fun _ => true) true n 44 [.slice a len cap] = some x) :
    ∃ ls : List (List Y), len = ls.length ∧ ls.length ≤ maxLen ∧ (∀ (i : Nat) (l : List Y), ls[i]? = some l → l.length ≤ maxLen) ∧ BndsAt W a ls := by
  rcases open_slice Tryz.underlying44 h with ⟨hcs, _⟩ | ⟨ad, len', cap', m, n, D, Pl, hcs, _, hl, hm, hmm, _, hall⟩
  · simp at hcs
    exact ⟨[], hcs.2.1, by simp, fun i l h => by simp at h, .inl rfl⟩
  · simp at hcs
    obtain ⟨rfl, rfl, rfl⟩ := hcs
    by_cases h0 : len = 0
    · exact ⟨[], h0, by simp, fun i l h => by simp at h, .inl rfl⟩
    simp only [if_true] at hmm
    rw [Tryz.cells57] at hall
    have each : ∀ i, i < len → ∃ y : List Y × Option Addr × Nat, W.cell? (ad.add i) = some (.slice y.2.1 y.1.length y.2.2) ∧ y.1.length ≤ maxLen ∧ At eY W y.2.1 y.1 := by
      intro i hi
      obtain ⟨cs', h1, h2⟩ := hall i (by omega)
      obtain ⟨_, hcl, hc⟩ := World.cells?_some h1
      obtain ⟨u, a1, l1, c1, rfl, rfl⟩ : ∃ (u : Value) (a1 : Option Addr) (l1 c1 : Nat), cs' = [u] ∧ u = .slice a1 l1 c1 := by
        rcases open_slice Tryz.underlying57 h2 with ⟨hcs, _⟩ | ⟨ad, len', cap', _, _, _, _, hcs, _⟩
        · exact ⟨_, none, 0, 0, hcs, rfl⟩
        · exact ⟨_, some ad, len', cap', hcs, rfl⟩
      obtain ⟨l, rfl, hml, hat⟩ := open_row eY Tryz.underlying57 Tryz.cells116 (fun h _ => open_sym2 h) h2
      refine ⟨(l, a1, c1), ?_, hml, hat⟩
      have e0 := hc 0 (by omega)
      rw [add_add] at e0
      simpa using e0
    obtain ⟨f, hf'⟩ := choose_lt each
    obtain ⟨ys, hwl, hws⟩ := list_of_fn f len
    obtain ⟨b, off, spot⟩ := ad
    have hsp : spot = none := by
      have := World.cell?_spot (hf' 0 (by omega)).1
      simpa [Addr.add] using this
    subst hsp
    refine ⟨ys.map (·.1), by simp [hwl], by simp; omega, fun i l hl => ?_, .inr ⟨b, off, rfl, fun i l hl => ?_⟩⟩
    · rw [List.getElem?_map] at hl
      obtain ⟨y, hy, rfl⟩ := Option.map_eq_some_iff.1 hl
      obtain ⟨hi, rfl⟩ := hws i y hy
      exact (hf' i hi).2.1
    · rw [List.getElem?_map] at hl
      obtain ⟨y, hy, rfl⟩ := Option.map_eq_some_iff.1 hl
      obtain ⟨hi, rfl⟩ := hws i y hy
      obtain ⟨e0, _, e1⟩ := hf' i hi
      rw [add_plain] at e0
      exact ⟨_, _, e0, e1⟩
structure Lim (S : SG) : Prop where
  b : S.B.length ≤ maxLen
  r : ∀ (i : Nat) (l : List Y), S.B[i]? = some l → l.length ≤ maxLen
  v : S.V.length ≤ maxLen
  m : S.M.length ≤ maxLen
theorem slice_cs {t e : TypeId} {fuel : Nat} {cs : List Value} {x : DataW H × List MemPlace} (ht : Tryz.prog.underlying t = some (.slice e)) (h : DataW.trod enc Tryz.prog W 0 (fun _ => true) true fuel t cs = some x) : ∃ (a : Option Addr) (l c : Nat), cs = [.slice a l c] := by
  rcases open_slice ht h with ⟨hcs, _⟩ | ⟨ad, len', cap', _, _, _, _, hcs, _⟩
  · exact ⟨none, 0, 0, hcs⟩
  · exact ⟨some ad, len', cap', hcs⟩
set_option maxRecDepth 100000 in
theorem open_seg {b0 : Nat} {v : Value} {d : DataW H} {p : List MemPlace} (hv : Value.okWide Tryz.prog W .any b0 47 v) (h : DataW.Trod enc Tryz.prog W 0 (fun _ => true) true 47 v d p) :
    ∃ (S : SG) (A : SAd), v = .agg #[.slice A.a0 S.B.length A.c0, .slice A.a1 S.V.length A.c1, .slice A.a2 S.M.length A.c2] ∧ Lim S ∧ SegAt W A S := by
  obtain ⟨cs, rfl, hsz⟩ := okWide_struct Tryz.underlying47 hv
  obtain ⟨c0, c1, c2, rfl⟩ := array3 (hsz.trans Tryz.cells47)
  obtain ⟨fuel, hf⟩ := h
  obtain ⟨y0, y1, y2, m, _, hlen, h0, h1, h2⟩ := trod_struct3 Tryz.underlying47 hf
  simp [Value.cells, Tryz.cells44, Tryz.cells45, Tryz.cells26] at h0 h1 h2
  obtain ⟨a0, l0, r0, e0⟩ := slice_cs Tryz.underlying44 h0
  obtain ⟨a1, l1, r1, e1⟩ := slice_cs Tryz.underlying45 h1
  obtain ⟨a2, l2, r2, e2⟩ := slice_cs Tryz.underlying26 h2
  simp at e0 e1 e2
  subst e0 e1 e2
  obtain ⟨B, rfl, hb, hr, hB⟩ := open_bnds h0
  obtain ⟨V, rfl, hv', hV⟩ := open_row eV Tryz.underlying45 Tryz.cells148 (fun h _ => open_val3 h) h1
  obtain ⟨M, rfl, hm, hM⟩ := open_row eB Tryz.underlying26 Tryz.cells4 (fun h hl => open_bool1 h hl) h2
  exact ⟨⟨B, V, M⟩, ⟨a0, r0, a1, r1, a2, r2⟩, rfl, ⟨hb, hr, hv', hm⟩, ⟨hB, hV, hM⟩⟩
end Go.Proofs.YtbfmljogfljhdaaGreat
