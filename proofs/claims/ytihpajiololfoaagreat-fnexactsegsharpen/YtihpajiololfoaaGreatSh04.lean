/-
  CONTRACTS of the law's markValS.
  CONTRACTS of the law's markBoolS.
  CONTRACTS of the law's heldValS.
  CONTRACTS of the law's heldBoolS.
  CONTRACTS of the law's eqSymS.
  CONTRACTS of the law's markSymS.
  CONTRACTS of the law's heldSymS.
  CONTRACTS of the law's toSymS.
-/
import Derived.Test.YtihpajiololfoaaGreatSh02
namespace Go.Proofs.YtihpajiololfoaaGreat
open Go.RowKit

set_option maxRecDepth 100000 in
set_option maxHeartbeats 1600000 in
theorem markValS_of (l : List VV) (g cap base : Nat) (k0 : Int) (w : World) (hn : l.length ≤ 10000000) (h0 : 0 ≤ k0) (h1 : k0 ≤ 100000000) (hown : Own eV 55 w base (.slice (some ⟨g, 0, none⟩) l.length cap) l) :
  Calls Tryz.prog 51 #[.slice (some ⟨g, 0, none⟩) l.length cap, .int .i64 k0] w fun e w' => e = .returned (.int .i64 (k0 + (l.length : Int) * 3)) ∧ Own eV 55 w' base (.slice (some ⟨g, 0, none⟩) l.length cap) (marksV k0 l.length) ∧ w.grownBy w' (some g) := by
 have HO : Hid (w.ownsRow base 55 3 (.slice (some ⟨g, 0, none⟩) l.length cap) l.length (eV.flat l)) := mkHid hown
 clear hown
 go_enter Tryz.func51, Tryz.ntmps51
 go_wp2
 go_loopw [1, 5] (fun kv i w' => ∃ (k : Nat) (xs : List Value), k ≤ l.length ∧ i = .int .i64 k ∧ kv = .int .i64 (k0 + (k : Int) * 3) ∧ w'.ownsRow base 55 3 (.slice (some ⟨g, 0, none⟩) l.length cap) l.length xs ∧ xs.take (k * 3) = eV.flat ((marksV k0 l.length).take k) ∧ w.grownBy w' (some g)) (fun _ i _ => l.length - (intOf i).toNat)
 case atStart => exact ⟨0, _, Nat.zero_le _, rfl, by simp, HO.out, by simp [El.flat], World.grownBy.refl _ _⟩
 case round =>
  obtain ⟨k, xs, hk, rfl, rfl, hown, htake, hg⟩ := hrel
  have HW := mkHid hown
  have HT := mkHid htake
  have HG := mkHid hg
  clear hown htake hg HO
  by_cases hlt : k < l.length
  ·have HX := mkHid (marksV_get (k0 := k0) hlt)
   obtain ⟨z, hz⟩ : ∃ z, k0 + (k : Int) * 3 = z := ⟨_, rfl⟩
   have HZ := mkHid hz
   have hz0 : 0 ≤ z := by omega
   have hz1 : z ≤ 200000000 := by omega
   rw [hz] at HX
   rw [hz]
   clear hz
   have hxl := HW.out.1
   obtain ⟨u0, y0⟩ : ∃ v, wr.cell? ⟨g, k * 3, none⟩ = some v := ⟨_, (HW.out.cellAt (k * 3) (by omega)).trans (List.getElem?_eq_getElem (by omega))⟩
   have f0 := HW.out.frozenAt (k * 3)
   obtain ⟨u1, y1⟩ : ∃ v, wr.cell? ⟨g, k * 3 + 1, none⟩ = some v := ⟨_, (HW.out.cellAt (k * 3 + 1) (by omega)).trans (List.getElem?_eq_getElem (by omega))⟩
   have f1 := HW.out.frozenAt (k * 3 + 1)
   obtain ⟨u2, y2⟩ : ∃ v, wr.cell? ⟨g, k * 3 + 2, none⟩ = some v := ⟨_, (HW.out.cellAt (k * 3 + 2) (by omega)).trans (List.getElem?_eq_getElem (by omega))⟩
   have f2 := HW.out.frozenAt (k * 3 + 2)
   clear hxl
   have i0 : (0 : Int) ≤ (k : Int) := by omega
   have i1 : (k : Int) < (l.length : Int) := by omega
   have ht2 := tmod3 (k := z + 1 + 1) (by omega)
   have HA0 := mkHid (HW.out.stored (k * 3) (.int .i64 (z)))
   have HA1 := mkHid (HA0.out.1.stored (k * 3 + 1) (.int .i64 (z + 1)))
   have HA2 := mkHid (HA1.out.1.stored (k * 3 + 2) (.bool (m3 (z + 1 + 1))))
   go_wp2
   go_roundw
   case rel =>
    refine ⟨k + 1, _, by omega, by go_num, by congr 1; rw [← HZ.out]; omega, HA2.out.1, step_v HX.out (by rw [marksV_len]; exact HW.out.1) HT.out, (grown_trans (grown_trans (grown_trans HG.out HA0.out.2) HA1.out.2) HA2.out.2)⟩
   case measure => simp [intOf]; omega
  ·have e : k = l.length := by omega
   subst e
   have hown := HW.out
   have ht := HT.out
   rw [flat_upto (E := eV) (xs := xs) (l := marksV k0 l.length) (by rw [marksV_len]; exact HW.out.1) (by rw [marksV_len]; exact ht)] at hown
   have HW := mkHid hown
   clear hown ht HT
   go_wp2
   go_ret
   refine ⟨ret_int' (by omega), ?_, HG.out⟩
   unfold Own
   rw [marksV_len]
   exact HW.out
set_option maxRecDepth 100000 in
set_option maxHeartbeats 400000 in
theorem markValS_nil (a : Option Addr) (c : Nat) (k0 : Int) (w : World) :
  Calls Tryz.prog 51 #[.slice a 0 c, .int .i64 k0] w fun e w' => e = .returned (.int .i64 k0) ∧ w' = w := by
 go_enter Tryz.func51, Tryz.ntmps51
 go_wp2
 go_loopw [1, 5] (fun kv i w' => i = .int .i64 0 ∧ kv = .int .i64 k0 ∧ w' = w) (fun _ i _ => 0)
 case atStart => exact ⟨rfl, rfl, rfl⟩
 case round =>
  obtain ⟨rfl, rfl, rfl⟩ := hrel
  go_wp2
  go_ret
  exact ⟨rfl, rfl⟩
theorem markValS_ok (l : List VV) (ao : Option Addr) (cap base : Nat) (k0 : Int) (w : World) (hn : l.length ≤ 10000000) (h0 : 0 ≤ k0) (h1 : k0 ≤ 100000000) (hown : Own eV 55 w base (.slice ao l.length cap) l) :
  Calls Tryz.prog 51 #[.slice ao l.length cap, .int .i64 k0] w fun e w' => e = .returned (.int .i64 (k0 + (l.length : Int) * 3)) ∧ Own eV 55 w' base (.slice ao l.length cap) (marksV k0 l.length) ∧ w.grownBy w' (Value.ownBlock (.slice ao l.length cap)) := by
 rcases hown.2 with ⟨e, h⟩ | ⟨g, cap', cur, e, _⟩
 ·have hl := List.length_eq_zero_iff.1 h
  subst hl
  refine (markValS_nil ao cap k0 w).mono ?_
  rintro e w' ⟨rfl, rfl⟩
  exact ⟨ret_int' (by simp), hown, World.grownBy.refl _ _⟩
 ·simp at e
  obtain ⟨rfl, rfl⟩ := e
  exact markValS_of l g cap base k0 w hn h0 h1 hown
end Go.Proofs.YtihpajiololfoaaGreat
namespace Go.Proofs.YtihpajiololfoaaGreat
open Go.RowKit

set_option maxRecDepth 100000 in
set_option maxHeartbeats 1600000 in
theorem markBoolS_of (l : List Bool) (g cap base : Nat) (k0 : Int) (w : World) (hn : l.length ≤ 10000000) (h0 : 0 ≤ k0) (h1 : k0 ≤ 100000000) (hown : Own eB 4 w base (.slice (some ⟨g, 0, none⟩) l.length cap) l) :
  Calls Tryz.prog 52 #[.slice (some ⟨g, 0, none⟩) l.length cap, .int .i64 k0] w fun e w' => e = .returned (.int .i64 (k0 + (l.length : Int) * 1)) ∧ Own eB 4 w' base (.slice (some ⟨g, 0, none⟩) l.length cap) (marksB k0 l.length) ∧ w.grownBy w' (some g) := by
 have HO : Hid (w.ownsRow base 4 1 (.slice (some ⟨g, 0, none⟩) l.length cap) l.length (eB.flat l)) := mkHid hown
 clear hown
 go_enter Tryz.func52, Tryz.ntmps52
 go_wp2
 go_loopw [1, 5] (fun kv i w' => ∃ (k : Nat) (xs : List Value), k ≤ l.length ∧ i = .int .i64 k ∧ kv = .int .i64 (k0 + (k : Int)) ∧ w'.ownsRow base 4 1 (.slice (some ⟨g, 0, none⟩) l.length cap) l.length xs ∧ xs.take (k * 1) = eB.flat ((marksB k0 l.length).take k) ∧ w.grownBy w' (some g)) (fun _ i _ => l.length - (intOf i).toNat)
 case atStart => exact ⟨0, _, Nat.zero_le _, rfl, by simp, HO.out, by simp [El.flat], World.grownBy.refl _ _⟩
 case round =>
  obtain ⟨k, xs, hk, rfl, rfl, hown, htake, hg⟩ := hrel
  have HW := mkHid hown
  have HT := mkHid htake
  have HG := mkHid hg
  clear hown htake hg HO
  by_cases hlt : k < l.length
  ·have HX := mkHid (marksB_get (k0 := k0) hlt)
   obtain ⟨z, hz⟩ : ∃ z, k0 + (k : Int) = z := ⟨_, rfl⟩
   have HZ := mkHid hz
   have hz0 : 0 ≤ z := by omega
   have hz1 : z ≤ 200000000 := by omega
   rw [hz] at HX
   rw [hz]
   clear hz
   have hxl := HW.out.1
   obtain ⟨u0, y0⟩ : ∃ v, wr.cell? ⟨g, k, none⟩ = some v := ⟨_, (HW.out.cellAt (k) (by omega)).trans (List.getElem?_eq_getElem (by omega))⟩
   have f0 := HW.out.frozenAt (k)
   clear hxl
   have i0 : (0 : Int) ≤ (k : Int) := by omega
   have i1 : (k : Int) < (l.length : Int) := by omega
   have ht0 := tmod3 (k := z) (by omega)
   have HA0 := mkHid (HW.out.stored (k) (.bool (m3 (z))))
   go_wp2
   go_roundw
   case rel =>
    refine ⟨k + 1, _, by omega, by go_num, by congr 1; rw [← HZ.out]; omega, HA0.out.1, step_b HX.out (by rw [marksB_len]; exact HW.out.1) HT.out, (grown_trans HG.out HA0.out.2)⟩
   case measure => simp [intOf]; omega
  ·have e : k = l.length := by omega
   subst e
   have hown := HW.out
   have ht := HT.out
   rw [flat_upto (E := eB) (xs := xs) (l := marksB k0 l.length) (by rw [marksB_len]; exact HW.out.1) (by rw [marksB_len]; exact ht)] at hown
   have HW := mkHid hown
   clear hown ht HT
   go_wp2
   go_ret
   refine ⟨ret_int' (by omega), ?_, HG.out⟩
   unfold Own
   rw [marksB_len]
   exact HW.out
set_option maxRecDepth 100000 in
set_option maxHeartbeats 400000 in
theorem markBoolS_nil (a : Option Addr) (c : Nat) (k0 : Int) (w : World) :
  Calls Tryz.prog 52 #[.slice a 0 c, .int .i64 k0] w fun e w' => e = .returned (.int .i64 k0) ∧ w' = w := by
 go_enter Tryz.func52, Tryz.ntmps52
 go_wp2
 go_loopw [1, 5] (fun kv i w' => i = .int .i64 0 ∧ kv = .int .i64 k0 ∧ w' = w) (fun _ i _ => 0)
 case atStart => exact ⟨rfl, rfl, rfl⟩
 case round =>
  obtain ⟨rfl, rfl, rfl⟩ := hrel
  go_wp2
  go_ret
  exact ⟨rfl, rfl⟩
theorem markBoolS_ok (l : List Bool) (ao : Option Addr) (cap base : Nat) (k0 : Int) (w : World) (hn : l.length ≤ 10000000) (h0 : 0 ≤ k0) (h1 : k0 ≤ 100000000) (hown : Own eB 4 w base (.slice ao l.length cap) l) :
  Calls Tryz.prog 52 #[.slice ao l.length cap, .int .i64 k0] w fun e w' => e = .returned (.int .i64 (k0 + (l.length : Int) * 1)) ∧ Own eB 4 w' base (.slice ao l.length cap) (marksB k0 l.length) ∧ w.grownBy w' (Value.ownBlock (.slice ao l.length cap)) := by
 rcases hown.2 with ⟨e, h⟩ | ⟨g, cap', cur, e, _⟩
 ·have hl := List.length_eq_zero_iff.1 h
  subst hl
  refine (markBoolS_nil ao cap k0 w).mono ?_
  rintro e w' ⟨rfl, rfl⟩
  exact ⟨ret_int' (by simp), hown, World.grownBy.refl _ _⟩
 ·simp at e
  obtain ⟨rfl, rfl⟩ := e
  exact markBoolS_of l g cap base k0 w hn h0 h1 hown
end Go.Proofs.YtihpajiololfoaaGreat
namespace Go.Proofs.YtihpajiololfoaaGreat
open Go.RowKit

set_option maxRecDepth 100000 in
set_option maxHeartbeats 1600000 in
theorem heldValS_of (n : Nat) (a : Option Addr) (c : Nat) (k0 : Int) (w : World) (hp : 0 < n) (hn : n ≤ 10000000) (h0 : 0 ≤ k0) (h1 : k0 ≤ 100000000) (hl : At eV w a (marksV k0 n)) :
  Calls Tryz.prog 55 #[.slice a n c, .int .i64 k0] w fun e w' => e = .returned (.int .i64 (k0 + (n : Int) * 3)) ∧ Below w.heap.size w w' := by
 obtain ⟨b, off, rfl, hlb, _⟩ := hl.cons (by rw [marksV_len]; exact hp)
 have HL := mkHid hl
 clear hl
 go_enter Tryz.func55, Tryz.ntmps55
 go_wp2
 go_loopw [1, 5] (fun kv i w' => ∃ (k : Nat), k ≤ n ∧ i = .int .i64 k ∧ kv = .int .i64 (k0 + (k : Int) * 3) ∧ Below w.heap.size w w') (fun _ i _ => n - (intOf i).toNat)
 case atStart => exact ⟨0, Nat.zero_le _, rfl, by simp, Below.refl _ _⟩
 case round =>
  obtain ⟨k, hk, rfl, rfl, hbel⟩ := hrel
  have HB := mkHid hbel
  by_cases hlt : k < n
  ·obtain ⟨_, _, e, hlc, hq⟩ := (HL.out.below hbel).cons (by rw [marksV_len]; exact hp)
   cases e
   have hx := marksV_get (k0 := k0) hlt
   obtain ⟨z, hz⟩ : ∃ z, k0 + (k : Int) * 3 = z := ⟨_, rfl⟩
   have HZ := mkHid hz
   have hz0 : 0 ≤ z := by omega
   have hz1 : z ≤ 200000000 := by omega
   rw [hz] at hx
   rw [hz]
   clear hz
   obtain ⟨c0, c1, c2⟩ := get_v hq hx
   clear hx hbel hq
   have i0 : (0 : Int) ≤ (k : Int) := by omega
   have i1 : (k : Int) < (n : Int) := by omega
   have hnz0 : (z != z) = false := by simp
   have hnz1 : (z + 1 != z + 1) = false := by simp
   have ht2 : ((z + 1 + 1) % 3 == 0) = m3 (z + 1 + 1) := rfl
   have hne : (m3 (z + 1 + 1) == m3 (z + 1 + 1)) = true := by simp
   have HB1 := HB
   go_wp2
   go_roundw
   case rel => exact ⟨k + 1, by omega, by go_num, by congr 1; rw [← HZ.out]; omega, HB1.out⟩
   case measure => simp [intOf]; omega
  ·have e : k = n := by omega
   subst e
   go_wp2
   go_ret
   exact ⟨ret_int' (by omega), HB.out⟩
set_option maxRecDepth 100000 in
set_option maxHeartbeats 400000 in
theorem heldValS_nil (a : Option Addr) (c : Nat) (k0 : Int) (w : World) :
  Calls Tryz.prog 55 #[.slice a 0 c, .int .i64 k0] w fun e w' => e = .returned (.int .i64 k0) ∧ w' = w := by
 go_enter Tryz.func55, Tryz.ntmps55
 go_wp2
 go_loopw [1, 5] (fun kv i w' => i = .int .i64 0 ∧ kv = .int .i64 k0 ∧ w' = w) (fun _ i _ => 0)
 case atStart => exact ⟨rfl, rfl, rfl⟩
 case round =>
  obtain ⟨rfl, rfl, rfl⟩ := hrel
  go_wp2
  go_ret
  exact ⟨rfl, rfl⟩
theorem heldValS_ok (n : Nat) (a : Option Addr) (c : Nat) (k0 : Int) (w : World) (hn : n ≤ 10000000) (h0 : 0 ≤ k0) (h1 : k0 ≤ 100000000) (hl : At eV w a (marksV k0 n)) :
  Calls Tryz.prog 55 #[.slice a n c, .int .i64 k0] w fun e w' => e = .returned (.int .i64 (k0 + (n : Int) * 3)) ∧ Below w.heap.size w w' := by
 rcases Nat.eq_zero_or_pos n with rfl | h
 ·refine (heldValS_nil a c k0 w).mono ?_
  rintro e w' ⟨rfl, rfl⟩
  exact ⟨ret_int' (by simp), Below.refl _ _⟩
 ·exact heldValS_of n a c k0 w h hn h0 h1 hl
end Go.Proofs.YtihpajiololfoaaGreat
namespace Go.Proofs.YtihpajiololfoaaGreat
open Go.RowKit

set_option maxRecDepth 100000 in
set_option maxHeartbeats 1600000 in
theorem heldBoolS_of (n : Nat) (a : Option Addr) (c : Nat) (k0 : Int) (w : World) (hp : 0 < n) (hn : n ≤ 10000000) (h0 : 0 ≤ k0) (h1 : k0 ≤ 100000000) (hl : At eB w a (marksB k0 n)) :
  Calls Tryz.prog 56 #[.slice a n c, .int .i64 k0] w fun e w' => e = .returned (.int .i64 (k0 + (n : Int) * 1)) ∧ Below w.heap.size w w' := by
 obtain ⟨b, off, rfl, hlb, _⟩ := hl.cons (by rw [marksB_len]; exact hp)
 have HL := mkHid hl
 clear hl
 go_enter Tryz.func56, Tryz.ntmps56
 go_wp2
 go_loopw [1, 5] (fun kv i w' => ∃ (k : Nat), k ≤ n ∧ i = .int .i64 k ∧ kv = .int .i64 (k0 + (k : Int)) ∧ Below w.heap.size w w') (fun _ i _ => n - (intOf i).toNat)
 case atStart => exact ⟨0, Nat.zero_le _, rfl, by simp, Below.refl _ _⟩
 case round =>
  obtain ⟨k, hk, rfl, rfl, hbel⟩ := hrel
  have HB := mkHid hbel
  by_cases hlt : k < n
  ·obtain ⟨_, _, e, hlc, hq⟩ := (HL.out.below hbel).cons (by rw [marksB_len]; exact hp)
   cases e
   have hx := marksB_get (k0 := k0) hlt
   obtain ⟨z, hz⟩ : ∃ z, k0 + (k : Int) = z := ⟨_, rfl⟩
   have HZ := mkHid hz
   have hz0 : 0 ≤ z := by omega
   have hz1 : z ≤ 200000000 := by omega
   rw [hz] at hx
   rw [hz]
   clear hz
   have c0 := get_b hq hx
   clear hx hbel hq
   have i0 : (0 : Int) ≤ (k : Int) := by omega
   have i1 : (k : Int) < (n : Int) := by omega
   have ht0 : ((z) % 3 == 0) = m3 (z) := rfl
   have hne : (m3 (z) == m3 (z)) = true := by simp
   have HB1 := HB
   go_wp2
   go_roundw
   case rel => exact ⟨k + 1, by omega, by go_num, by congr 1; rw [← HZ.out]; omega, HB1.out⟩
   case measure => simp [intOf]; omega
  ·have e : k = n := by omega
   subst e
   go_wp2
   go_ret
   exact ⟨ret_int' (by omega), HB.out⟩
set_option maxRecDepth 100000 in
set_option maxHeartbeats 400000 in
theorem heldBoolS_nil (a : Option Addr) (c : Nat) (k0 : Int) (w : World) :
  Calls Tryz.prog 56 #[.slice a 0 c, .int .i64 k0] w fun e w' => e = .returned (.int .i64 k0) ∧ w' = w := by
 go_enter Tryz.func56, Tryz.ntmps56
 go_wp2
 go_loopw [1, 5] (fun kv i w' => i = .int .i64 0 ∧ kv = .int .i64 k0 ∧ w' = w) (fun _ i _ => 0)
 case atStart => exact ⟨rfl, rfl, rfl⟩
 case round =>
  obtain ⟨rfl, rfl, rfl⟩ := hrel
  go_wp2
  go_ret
  exact ⟨rfl, rfl⟩
theorem heldBoolS_ok (n : Nat) (a : Option Addr) (c : Nat) (k0 : Int) (w : World) (hn : n ≤ 10000000) (h0 : 0 ≤ k0) (h1 : k0 ≤ 100000000) (hl : At eB w a (marksB k0 n)) :
  Calls Tryz.prog 56 #[.slice a n c, .int .i64 k0] w fun e w' => e = .returned (.int .i64 (k0 + (n : Int) * 1)) ∧ Below w.heap.size w w' := by
 rcases Nat.eq_zero_or_pos n with rfl | h
 ·refine (heldBoolS_nil a c k0 w).mono ?_
  rintro e w' ⟨rfl, rfl⟩
  exact ⟨ret_int' (by simp), Below.refl _ _⟩
 ·exact heldBoolS_of n a c k0 w h hn h0 h1 hl
end Go.Proofs.YtihpajiololfoaaGreat
namespace Go.Proofs.YtihpajiololfoaaGreat
open Go.RowKit

set_option maxHeartbeats 400000 in
theorem eqSym_same (a b : Int) (w : World) : Calls Tryz.prog 133 #[.agg #[.int .i64 a, .int .i64 b], .agg #[.int .i64 a, .int .i64 b]] w fun e w' => e = .returned (.bool true) ∧ Below w.heap.size w w' := by
 go_enter Tryz.func133, Tryz.ntmps133
 go_wp2
 go_ret
 exact ⟨rfl, ((Below.refl _ _).alloc (Nat.le_refl _) _).alloc (by simp) _⟩
set_option maxRecDepth 100000 in
set_option maxHeartbeats 400000 in
theorem eqSymS_nil (a a' : Option Addr) (c c' : Nat) (w : World) : Calls Tryz.prog 92 #[.slice a 0 c, .slice a' 0 c'] w fun e w' => e = .returned (.bool true) ∧ Below w.heap.size w w' := by
 go_enter Tryz.func92, Tryz.ntmps92
 go_wp2
 go_loopw [5] (fun i w' => i = .int .i64 0 ∧ w' = w) (fun i _ => 0)
 case atStart => exact ⟨rfl, rfl⟩
 case round =>
  obtain ⟨rfl, rfl⟩ := hrel
  go_wp2
  go_ret
  exact ⟨rfl, Below.refl _ _⟩
set_option maxRecDepth 100000 in
set_option maxHeartbeats 800000 in
theorem eqSymS_of (l : List Y) (a a' : Option Addr) (c c' : Nat) (w : World) (h0 : 0 < l.length) (hn : l.length ≤ maxLen) (hl : At eY w a l) (hl' : At eY w a' l) :
  Calls Tryz.prog 92 #[.slice a l.length c, .slice a' l.length c'] w fun e w' => e = .returned (.bool true) ∧ Below w.heap.size w w' := by
 unfold maxLen at hn
 obtain ⟨b, off, rfl, hlb, _⟩ := hl.cons h0
 obtain ⟨b', off', rfl, hlb', _⟩ := hl'.cons h0
 have HL := mkHid hl
 have HL' := mkHid hl'
 clear hl hl'
 go_enter Tryz.func92, Tryz.ntmps92
 go_wp2
 go_loopw [5] (fun i w' => ∃ (k : Nat), k ≤ l.length ∧ i = .int .i64 k ∧ Below w.heap.size w w') (fun i _ => l.length - (intOf i).toNat)
 case atStart => exact ⟨0, Nat.zero_le _, rfl, Below.refl _ _⟩
 case round =>
  obtain ⟨k, hk, rfl, hbel⟩ := hrel
  have HB := mkHid hbel
  by_cases hlt : k < l.length
  ·obtain ⟨x, hx⟩ : ∃ x, l[k]? = some x := ⟨_, List.getElem?_eq_getElem hlt⟩
   obtain ⟨_, _, e, hlc, hq⟩ := (HL.out.below hbel).cons h0
   cases e
   obtain ⟨_, _, e, hlc', hq'⟩ := (HL'.out.below hbel).cons h0
   cases e
   obtain ⟨hc0, hc1⟩ := get_y hq hx
   obtain ⟨hd0, hd1⟩ := get_y hq' hx
   clear hx hbel hq hq'
   have i0 : (0 : Int) ≤ (k : Int) := by omega
   have i1 : (k : Int) < (l.length : Int) := by omega
   go_wp2
   go_region_held3 (fun w' => w'.cell? ⟨b, off + k * 2, none⟩ = some (.int .i64 x.1) ∧ w'.cell? ⟨b, off + k * 2 + 1, none⟩ = some (.int .i64 x.2) ∧ w'.cell? ⟨b', off' + k * 2, none⟩ = some (.int .i64 x.1) ∧ w'.cell? ⟨b', off' + k * 2 + 1, none⟩ = some (.int .i64 x.2)) (first | exact ⟨hc0, hc1, hd0, hd1⟩ | exact ⟨(hc _ _ hlc).trans hc0, (hc _ _ hlc).trans hc1, (hc _ _ hlc').trans hd0, (hc _ _ hlc').trans hd1⟩)
    (first | (go_at_call 133; refine (eqSym_same x.1 x.2 _).mono ?_; rintro e w1 ⟨rfl, hb1⟩; obtain ⟨hc, hf⟩ := bcell hb1))
   have HB1 : Hid (Below w.heap.size w w1) := HB.out.drew.trans (hb1.mono HB.out.drew.size)
   clear hb1 hc hf
   go_wp2
   go_roundw
   case rel => exact ⟨k + 1, by omega, by go_num, HB1.out⟩
   case measure => simp [intOf]; omega
  ·go_wp2
   go_ret
   exact ⟨rfl, HB.out⟩
theorem eqSymS_same (l : List Y) (a a' : Option Addr) (c c' : Nat) (w : World) (hn : l.length ≤ maxLen) (hl : At eY w a l) (hl' : At eY w a' l) :
  Calls Tryz.prog 92 #[.slice a l.length c, .slice a' l.length c'] w fun e w' => e = .returned (.bool true) ∧ Below w.heap.size w w' := by
 rcases Nat.eq_zero_or_pos l.length with h | h
 ·rw [h]; exact eqSymS_nil a a' c c' w
 ·exact eqSymS_of l a a' c c' w h hn hl hl'
end Go.Proofs.YtihpajiololfoaaGreat
namespace Go.Proofs.YtihpajiololfoaaGreat
open Go.RowKit

set_option maxRecDepth 100000 in
set_option maxHeartbeats 1600000 in
theorem markSymS_of (l : List Y) (g cap base : Nat) (k0 : Int) (w : World) (hn : l.length ≤ 10000000) (h0 : 0 ≤ k0) (h1 : k0 ≤ 100000000) (hown : Own eY 49 w base (.slice (some ⟨g, 0, none⟩) l.length cap) l) :
  Calls Tryz.prog 93 #[.slice (some ⟨g, 0, none⟩) l.length cap, .int .i64 k0] w fun e w' => e = .returned (.int .i64 (k0 + (l.length : Int) * 2)) ∧ Own eY 49 w' base (.slice (some ⟨g, 0, none⟩) l.length cap) (marksY k0 l.length) ∧ w.grownBy w' (some g) := by
 have HO : Hid (w.ownsRow base 49 2 (.slice (some ⟨g, 0, none⟩) l.length cap) l.length (eY.flat l)) := mkHid hown
 clear hown
 go_enter Tryz.func93, Tryz.ntmps93
 go_wp2
 go_loopw [1, 5] (fun kv i w' => ∃ (k : Nat) (xs : List Value), k ≤ l.length ∧ i = .int .i64 k ∧ kv = .int .i64 (k0 + (k : Int) * 2) ∧ w'.ownsRow base 49 2 (.slice (some ⟨g, 0, none⟩) l.length cap) l.length xs ∧ xs.take (k * 2) = eY.flat ((marksY k0 l.length).take k) ∧ w.grownBy w' (some g)) (fun _ i _ => l.length - (intOf i).toNat)
 case atStart => exact ⟨0, _, Nat.zero_le _, rfl, by simp, HO.out, by simp [El.flat], World.grownBy.refl _ _⟩
 case round =>
  obtain ⟨k, xs, hk, rfl, rfl, hown, htake, hg⟩ := hrel
  have HW := mkHid hown
  have HT := mkHid htake
  have HG := mkHid hg
  clear hown htake hg HO
  by_cases hlt : k < l.length
  ·have HX := mkHid (marksY_get (k0 := k0) hlt)
   obtain ⟨z, hz⟩ : ∃ z, k0 + (k : Int) * 2 = z := ⟨_, rfl⟩
   have HZ := mkHid hz
   have hz0 : 0 ≤ z := by omega
   have hz1 : z ≤ 200000000 := by omega
   rw [hz] at HX
   rw [hz]
   clear hz
   have hxl := HW.out.1
   obtain ⟨u0, y0⟩ : ∃ v, wr.cell? ⟨g, k * 2, none⟩ = some v := ⟨_, (HW.out.cellAt (k * 2) (by omega)).trans (List.getElem?_eq_getElem (by omega))⟩
   have f0 := HW.out.frozenAt (k * 2)
   obtain ⟨u1, y1⟩ : ∃ v, wr.cell? ⟨g, k * 2 + 1, none⟩ = some v := ⟨_, (HW.out.cellAt (k * 2 + 1) (by omega)).trans (List.getElem?_eq_getElem (by omega))⟩
   have f1 := HW.out.frozenAt (k * 2 + 1)
   clear hxl
   have i0 : (0 : Int) ≤ (k : Int) := by omega
   have i1 : (k : Int) < (l.length : Int) := by omega
   have HA0 := mkHid (HW.out.stored (k * 2) (.int .i64 (z)))
   have HA1 := mkHid (HA0.out.1.stored (k * 2 + 1) (.int .i64 (z + 1)))
   go_wp2
   go_roundw
   case rel =>
    refine ⟨k + 1, _, by omega, by go_num, by congr 1; rw [← HZ.out]; omega, HA1.out.1, step_y HX.out (by rw [marksY_len]; exact HW.out.1) HT.out, (grown_trans (grown_trans HG.out HA0.out.2) HA1.out.2)⟩
   case measure => simp [intOf]; omega
  ·have e : k = l.length := by omega
   subst e
   have hown := HW.out
   have ht := HT.out
   rw [flat_upto (E := eY) (xs := xs) (l := marksY k0 l.length) (by rw [marksY_len]; exact HW.out.1) (by rw [marksY_len]; exact ht)] at hown
   have HW := mkHid hown
   clear hown ht HT
   go_wp2
   go_ret
   refine ⟨ret_int' (by omega), ?_, HG.out⟩
   unfold Own
   rw [marksY_len]
   exact HW.out
set_option maxRecDepth 100000 in
set_option maxHeartbeats 400000 in
theorem markSymS_nil (a : Option Addr) (c : Nat) (k0 : Int) (w : World) :
  Calls Tryz.prog 93 #[.slice a 0 c, .int .i64 k0] w fun e w' => e = .returned (.int .i64 k0) ∧ w' = w := by
 go_enter Tryz.func93, Tryz.ntmps93
 go_wp2
 go_loopw [1, 5] (fun kv i w' => i = .int .i64 0 ∧ kv = .int .i64 k0 ∧ w' = w) (fun _ i _ => 0)
 case atStart => exact ⟨rfl, rfl, rfl⟩
 case round =>
  obtain ⟨rfl, rfl, rfl⟩ := hrel
  go_wp2
  go_ret
  exact ⟨rfl, rfl⟩
theorem markSymS_ok (l : List Y) (ao : Option Addr) (cap base : Nat) (k0 : Int) (w : World) (hn : l.length ≤ 10000000) (h0 : 0 ≤ k0) (h1 : k0 ≤ 100000000) (hown : Own eY 49 w base (.slice ao l.length cap) l) :
  Calls Tryz.prog 93 #[.slice ao l.length cap, .int .i64 k0] w fun e w' => e = .returned (.int .i64 (k0 + (l.length : Int) * 2)) ∧ Own eY 49 w' base (.slice ao l.length cap) (marksY k0 l.length) ∧ w.grownBy w' (Value.ownBlock (.slice ao l.length cap)) := by
 rcases hown.2 with ⟨e, h⟩ | ⟨g, cap', cur, e, _⟩
 ·have hl := List.length_eq_zero_iff.1 h
  subst hl
  refine (markSymS_nil ao cap k0 w).mono ?_
  rintro e w' ⟨rfl, rfl⟩
  exact ⟨ret_int' (by simp), hown, World.grownBy.refl _ _⟩
 ·simp at e
  obtain ⟨rfl, rfl⟩ := e
  exact markSymS_of l g cap base k0 w hn h0 h1 hown
end Go.Proofs.YtihpajiololfoaaGreat
namespace Go.Proofs.YtihpajiololfoaaGreat
open Go.RowKit

set_option maxRecDepth 100000 in
set_option maxHeartbeats 1600000 in
theorem heldSymS_of (n : Nat) (a : Option Addr) (c : Nat) (k0 : Int) (w : World) (hp : 0 < n) (hn : n ≤ 10000000) (h0 : 0 ≤ k0) (h1 : k0 ≤ 100000000) (hl : At eY w a (marksY k0 n)) :
  Calls Tryz.prog 94 #[.slice a n c, .int .i64 k0] w fun e w' => e = .returned (.int .i64 (k0 + (n : Int) * 2)) ∧ Below w.heap.size w w' := by
 obtain ⟨b, off, rfl, hlb, _⟩ := hl.cons (by rw [marksY_len]; exact hp)
 have HL := mkHid hl
 clear hl
 go_enter Tryz.func94, Tryz.ntmps94
 go_wp2
 go_loopw [1, 5] (fun kv i w' => ∃ (k : Nat), k ≤ n ∧ i = .int .i64 k ∧ kv = .int .i64 (k0 + (k : Int) * 2) ∧ Below w.heap.size w w') (fun _ i _ => n - (intOf i).toNat)
 case atStart => exact ⟨0, Nat.zero_le _, rfl, by simp, Below.refl _ _⟩
 case round =>
  obtain ⟨k, hk, rfl, rfl, hbel⟩ := hrel
  have HB := mkHid hbel
  by_cases hlt : k < n
  ·obtain ⟨_, _, e, hlc, hq⟩ := (HL.out.below hbel).cons (by rw [marksY_len]; exact hp)
   cases e
   have hx := marksY_get (k0 := k0) hlt
   obtain ⟨z, hz⟩ : ∃ z, k0 + (k : Int) * 2 = z := ⟨_, rfl⟩
   have HZ := mkHid hz
   have hz0 : 0 ≤ z := by omega
   have hz1 : z ≤ 200000000 := by omega
   rw [hz] at hx
   rw [hz]
   clear hz
   obtain ⟨c0, c1⟩ := get_y hq hx
   clear hx hbel hq
   have i0 : (0 : Int) ≤ (k : Int) := by omega
   have i1 : (k : Int) < (n : Int) := by omega
   have hnz0 : (z != z) = false := by simp
   have hnz1 : (z + 1 != z + 1) = false := by simp
   have HB1 := HB
   go_wp2
   go_roundw
   case rel => exact ⟨k + 1, by omega, by go_num, by congr 1; rw [← HZ.out]; omega, HB1.out⟩
   case measure => simp [intOf]; omega
  ·have e : k = n := by omega
   subst e
   go_wp2
   go_ret
   exact ⟨ret_int' (by omega), HB.out⟩
set_option maxRecDepth 100000 in
set_option maxHeartbeats 400000 in
theorem heldSymS_nil (a : Option Addr) (c : Nat) (k0 : Int) (w : World) :
  Calls Tryz.prog 94 #[.slice a 0 c, .int .i64 k0] w fun e w' => e = .returned (.int .i64 k0) ∧ w' = w := by
 go_enter Tryz.func94, Tryz.ntmps94
 go_wp2
 go_loopw [1, 5] (fun kv i w' => i = .int .i64 0 ∧ kv = .int .i64 k0 ∧ w' = w) (fun _ i _ => 0)
 case atStart => exact ⟨rfl, rfl, rfl⟩
 case round =>
  obtain ⟨rfl, rfl, rfl⟩ := hrel
  go_wp2
  go_ret
  exact ⟨rfl, rfl⟩
theorem heldSymS_ok (n : Nat) (a : Option Addr) (c : Nat) (k0 : Int) (w : World) (hn : n ≤ 10000000) (h0 : 0 ≤ k0) (h1 : k0 ≤ 100000000) (hl : At eY w a (marksY k0 n)) :
  Calls Tryz.prog 94 #[.slice a n c, .int .i64 k0] w fun e w' => e = .returned (.int .i64 (k0 + (n : Int) * 2)) ∧ Below w.heap.size w w' := by
 rcases Nat.eq_zero_or_pos n with rfl | h
 ·refine (heldSymS_nil a c k0 w).mono ?_
  rintro e w' ⟨rfl, rfl⟩
  exact ⟨ret_int' (by simp), Below.refl _ _⟩
 ·exact heldSymS_of n a c k0 w h hn h0 h1 hl
end Go.Proofs.YtihpajiololfoaaGreat
namespace Go.Proofs.YtihpajiololfoaaGreat
open Go.RowKit

theorem Tryz.info49 : (Tryz.prog.info? 49).map (fun i => (i.zero, i.size, i.bytes)) = some (some (.agg #[.int .i64 0, .int .i64 0]), 2, 16) := by kernel_rfl
set_option maxRecDepth 100000 in
set_option maxHeartbeats 1600000 in
theorem toSymS_any (l : List Y) (a : Option Addr) (c : Nat) (w : World) (hn : l.length ≤ 1048576) (hl : At eY w a l) :
  Calls Tryz.prog 84 #[.slice a l.length c] w fun e w' => ∃ g, e = .returned (.slice (some ⟨g, 0, none⟩) l.length l.length) ∧ Own eY 49 w' w.heap.size (.slice (some ⟨g, 0, none⟩) l.length l.length) l ∧ Below w.heap.size w w' := by
 obtain ⟨i0, hi, hz⟩ := Option.map_eq_some_iff.1 Tryz.info49
 simp only [Prod.mk.injEq] at hz
 obtain ⟨hz0, hz1, hz2⟩ := hz
 obtain ⟨w1, hmk, hown0, hg0⟩ := run_make_full (P := Tryz.prog) w w.heap.size 113 49 i0 _ 2 Tryz.underlying113 hi hz0 hz1 .i64 .i64 l.length (by rw [hz2]; omega) (by unfold maxLen; omega) (Nat.le_refl _)
 obtain ⟨g, hgg⟩ : ∃ g, w.heap.size = g := ⟨_, rfl⟩
 have HGG := mkHid hgg
 rw [hgg] at hmk hown0
 have HL := mkHid hl
 have HO := mkHid hown0
 have HG := mkHid (Below.grown (Below.refl w.heap.size w) hg0 (Nat.le_refl _) (fun k hk => by cases hk))
 clear hl hown0 hg0 hi hz0 hz1 hz2 hgg
 go_enter Tryz.func84, Tryz.ntmps84
 go_wp2
 go_loopw [4] (fun i w' => ∃ (k : Nat) (xs : List Value), k ≤ l.length ∧ i = .int .i64 k ∧ w'.ownsRow g 49 2 (.slice (some ⟨g, 0, none⟩) l.length l.length) l.length xs ∧ xs.take (k * 2) = eY.flat (l.take k) ∧ Below w.heap.size w w') (fun i _ => l.length - (intOf i).toNat)
 case atStart => exact ⟨0, _, Nat.zero_le _, rfl, HO.out, by simp [El.flat], HG.out⟩
 case round =>
  obtain ⟨k, xs, hk, rfl, hown, htake, hbel⟩ := hrel
  have HW := mkHid hown
  have HT := mkHid htake
  have HB := mkHid hbel
  clear hown htake hbel HO HG hmk
  by_cases hlt : k < l.length
  ·obtain ⟨x, hx⟩ : ∃ x, l[k]? = some x := ⟨_, List.getElem?_eq_getElem hlt⟩
   obtain ⟨b, o, rfl, _, hl⟩ := (HL.out.below HB.out).cons (by omega)
   obtain ⟨c0, c1⟩ := get_y hl hx
   have HX := mkHid hx
   clear hl hx
   have i0 : (0 : Int) ≤ (k : Int) := by omega
   have i1 : (k : Int) < (l.length : Int) := by omega
   go_wp2_with fail
   refine (toSym_any x.1 x.2 _).mono ?_
   rintro e w2 ⟨rfl, hb1⟩
   have HW1 := mkHid (owns_below HW.out hb1)
   have HB1 := mkHid (below_step HB.out hb1)
   have hxl := HW1.out.1
   clear hb1 HB HW c0 c1
   obtain ⟨u0, y0⟩ : ∃ v, w2.cell? ⟨g, k * 2, none⟩ = some v := ⟨_, (HW1.out.cellAt (k * 2) (by omega)).trans (List.getElem?_eq_getElem (by omega))⟩
   have z0 := HW1.out.frozenAt (k * 2)
   obtain ⟨u1, y1⟩ : ∃ v, w2.cell? ⟨g, k * 2 + 1, none⟩ = some v := ⟨_, (HW1.out.cellAt (k * 2 + 1) (by omega)).trans (List.getElem?_eq_getElem (by omega))⟩
   have z1 := HW1.out.frozenAt (k * 2 + 1)
   clear hxl
   have HA0 := mkHid (HW1.out.stored (k * 2) (.int .i64 x.1))
   have HA1 := mkHid (HA0.out.1.stored (k * 2 + 1) (.int .i64 x.2))
   go_wp2
   go_roundw
   case rel =>
    refine ⟨k + 1, _, by omega, by go_num, HA1.out.1, step_y HX.out HW1.out.1 HT.out, ?_⟩
    exact (HB1.out.setCell (p := ⟨g, k * 2, none⟩) (Nat.le_of_eq HGG.out) _).setCell (p := ⟨g, k * 2 + 1, none⟩) (Nat.le_of_eq HGG.out) _
   case measure => simp [intOf]; omega
  ·have e : k = l.length := by omega
   subst e
   have hown := HW.out
   rw [flat_upto (E := eY) HW.out.1 HT.out] at hown
   have HW := mkHid hown
   clear hown HT
   go_wp2
   go_ret
   exact ⟨g, rfl, by rw [HGG.out]; exact HW.out, HB.out⟩
end Go.Proofs.YtihpajiololfoaaGreat
