/-
  CONTRACTS of the law's heldSymS.
-/
import Derived.Test.YtbfmljogfljhdaaGreatMm
namespace Go.Proofs.YtbfmljogfljhdaaGreat
open Go.RowKit

set_option maxRecDepth 100000 in
set_option maxHeartbeats 1600000 in
theorem heldSymS_of (n : Nat) (a : Option Addr) (c : Nat) (k0 : Int) (w : World) (hp : 0 < n) (hn : n ≤ 10000000) (h0 : 0 ≤ k0) (h1 : k0 ≤ 100000000) (hl : At eY w a (marksY k0 n)) :
    Calls Tryz.prog 112 #[.slice a n c, .int .i64 k0] w fun e w' => e = .returned (.int .i64 (k0 + (n : Int) * 2)) ∧ Below w.heap.size w w' := by
  obtain ⟨b, off, rfl, hlb, _⟩ := hl.cons (by rw [marksY_len]; exact hp)
  have HL := mkHid hl
  clear hl
  go_enter Tryz.func112, Tryz.ntmps112
  go_wp2
  go_loopw [1, 5] (fun kv i w' => ∃ (k : Nat), k ≤ n ∧ i = .int .i64 k ∧ kv = .int .i64 (k0 + (k : Int) * 2) ∧ Below w.heap.size w w') (fun _ i _ => n - (intOf i).toNat)
  case atStart => exact ⟨0, Nat.zero_le _, rfl, by simp, Below.refl _ _⟩
  case round =>
    obtain ⟨k, hk, rfl, rfl, hbel⟩ := hrel
    have HB := mkHid hbel
    by_cases hlt : k < n
    · obtain ⟨_, _, e, hlc, hq⟩ := (HL.out.below hbel).cons (by rw [marksY_len]; exact hp)
      cases e
      have hx := marksY_get (k0 := k0) hlt
      obtain ⟨z, hz⟩ : ∃ z, k0 + (k : Int) * 2 = z := ⟨_, rfl⟩
      have HZ := mkHid hz
      have hz0 : 0 ≤ z := by omega
      have hz1 : z ≤ 200000000 := by omega
      rw [hz] at hx
      rw [hz]
      clear hz
      obtain ⟨c0, c1⟩ := get_y hq hx
      clear hx hbel hq
      have i0 : (0 : Int) ≤ (k : Int) := by omega
      have i1 : (k : Int) < (n : Int) := by omega
      have hnz0 : (z != z) = false := by simp
      have hnz1 : (z + 1 != z + 1) = false := by simp
      have HB1 := HB
      go_wp2
      go_roundw
      case rel => exact ⟨k + 1, by omega, by go_num, by congr 1; rw [← HZ.out]; omega, HB1.out⟩
      case measure => simp [intOf]; omega
    · have e : k = n := by omega
      subst e
      go_wp2
      go_ret
      exact ⟨ret_int' (by omega), HB.out⟩
set_option maxRecDepth 100000 in
set_option maxHeartbeats 400000 in
theorem heldSymS_nil (a : Option Addr) (c : Nat) (k0 : Int) (w : World) :
    Calls Tryz.prog 112 #[.slice a 0 c, .int .i64 k0] w fun e w' => e = .returned (.int .i64 k0) ∧ w' = w := by
  go_enter Tryz.func112, Tryz.ntmps112
  go_wp2
  go_loopw [1, 5] (fun kv i w' => i = .int .i64 0 ∧ kv = .int .i64 k0 ∧ w' = w) (fun _ i _ => 0)
  case atStart => exact ⟨rfl, rfl, rfl⟩
  case round =>
    obtain ⟨rfl, rfl, rfl⟩ := hrel
    go_wp2
    go_ret
    exact ⟨rfl, rfl⟩
theorem heldSymS_ok (n : Nat) (a : Option Addr) (c : Nat) (k0 : Int) (w : World) (hn : n ≤ 10000000) (h0 : 0 ≤ k0) (h1 : k0 ≤ 100000000) (hl : At eY w a (marksY k0 n)) :
    Calls Tryz.prog 112 #[.slice a n c, .int .i64 k0] w fun e w' => e = .returned (.int .i64 (k0 + (n : Int) * 2)) ∧ Below w.heap.size w w' := by
  rcases Nat.eq_zero_or_pos n with rfl | h
  · refine (heldSymS_nil a c k0 w).mono ?_
    rintro e w' ⟨rfl, rfl⟩
    exact ⟨ret_int' (by simp), Below.refl _ _⟩
  · exact heldSymS_of n a c k0 w h hn h0 h1 hl
end Go.Proofs.YtbfmljogfljhdaaGreat
