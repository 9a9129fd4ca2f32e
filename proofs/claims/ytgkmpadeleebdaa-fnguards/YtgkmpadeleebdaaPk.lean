/-
  CONTRACTS of DrawRangeMul, and of the law's own pick, big, within.
-/
import Derived.Test.YtgkmpadeleebdaaDrr
namespace Go.Proofs.Ytgkmpadeleebdaa
open Go.RowKit
attribute [local go_sem] nlt2 nlt3 nlt4 nle2 nle3 nle4 drew_size drew_cell drew_frozen

theorem Bytes.up {w w' : World} {B B' n : Nat} {a : Option Addr} (h : Bytes w B a n) (hB : B ≤ B') (hb : Below B w w') : Bytes w' B' a n := by
  rcases h with h | ⟨b, off, e, hbl, hc⟩
  · exact .inl h
  · refine .inr ⟨b, off, e, by omega, fun i hi => ?_⟩
    obtain ⟨z, z0, z1, hz⟩ := hc i hi
    exact ⟨z, z0, z1, (hb.cell (p := ⟨b, off + i, none⟩) hbl).trans hz⟩
theorem openC_any (n cap : Nat) (a : Option Addr) (w : World) (hn : n ≤ 1048576) (hb : Bytes w w.heap.size a n) :
    Calls Try.prog 24 #[.slice a n cap] w fun e w' => ∃ cb, e = .returned (.pointer (some ⟨cb, 0, none⟩)) ∧ w.heap.size ≤ cb ∧ Cur w' cb a n cap 499999 ∧ Below w.heap.size w w' :=
  (open_any n cap a w hn hb).mono fun _ _ h => ⟨_, h.1, Nat.le_refl _, h.2.1, h.2.2⟩


theorem below_of_grown {w v v' : World} {cb : Nat} (h : Below w.heap.size w v) (hg : v.grownBy v' (some cb)) (hcb : w.heap.size ≤ cb) : Below w.heap.size w v' :=
  Below.grown h hg h.size (fun k hk => by cases hk; exact hcb)

theorem big_any (n cap : Nat) (a : Option Addr) (w : World) (hn : n ≤ maxLen) : Calls Try.prog 5 #[.slice a n cap] w fun e w' => e = .returned (.bool (decide (1048576 < n))) ∧ w = w' := by
  unfold maxLen at hn
  by_cases h : 1048576 < n
  · have h' : (1048576 : Int) < (n : Int) := by omega
    go_enter Try.func5, Try.ntmps5
    go_wp2
    go_ret
    exact ⟨ret_bool (by first | rfl | simp [h]), rfl⟩
  · have h' : ¬ (1048576 : Int) < (n : Int) := by omega
    go_enter Try.func5, Try.ntmps5
    go_wp2
    go_ret
    exact ⟨ret_bool (by first | rfl | simp [h]), rfl⟩
set_option maxHeartbeats 1600000 in
theorem lpick_any (n cap B t : Nat) (m : Int) (a : Option Addr) (w : World) (hn : n ≤ 1048576) (hb : Bytes w B a n) (ht : t ≤ 100) (hm0 : 1 ≤ m) (hm : m ≤ 10000000) :
    Calls Try.prog 16 #[.slice a n cap, .int .i64 t, .int .i64 m] w fun e w' => ∃ r : Int, e = .returned (.int .i64 r) ∧ 0 ≤ r ∧ r < m ∧ w = w' := by
  by_cases hm1 : m = 1
  · subst hm1
    by_cases h9 : n = 0
    · subst h9
      go_enter Try.func16, Try.ntmps16
      go_wp2
      go_ret
      exact ⟨0, rfl, by omega, by omega, rfl⟩
    · have n4 : ((n : Int) == 0) = false := by simpa using h9
      go_enter Try.func16, Try.ntmps16
      go_wp2
      go_ret
      exact ⟨0, rfl, by omega, by omega, rfl⟩
  have HY := mkHid hb
  clear hb
  by_cases h0 : n = 0
  · subst h0
    go_enter Try.func16, Try.ntmps16
    go_wp2
    go_ret
    exact ⟨0, rfl, by omega, by omega, rfl⟩
  · obtain ⟨b, off, rfl, _, hc⟩ : ∃ b off, a = some ⟨b, off, none⟩ ∧ b < B ∧ ∀ i, i < n → ∃ z : Int, 0 ≤ z ∧ z ≤ 255 ∧ w.cell? ⟨b, off + i, none⟩ = some (.int .u8 z) := by
      rcases HY.out with h | h
      · exact absurd h h0
      · exact h
    have HC := mkHid hc
    have n1 : (1 : Int) ≤ (n : Int) := by omega
    have n3 : ¬ n = 0 := h0
    have n4 : ((n : Int) == 0) = false := by simpa using h0
    have n5 : decide (m < 2) = false := by simp; omega
    clear hc HY h0
    go_enter Try.func16, Try.ntmps16
    go_wp2
    go_loopw [7, 8] (fun x k v => ∃ (j : Nat) (y : Int), j ≤ 3 ∧ k = .int .i64 j ∧ x = .int .i64 y ∧ 0 ≤ y ∧ y ≤ 300000 ∧ (j = 0 → y ≤ 0) ∧ (j = 1 → y ≤ 255) ∧ (j = 2 → y ≤ 8160) ∧ v = w) (fun _ k _ => 3 - (intOf k).toNat)
    case atStart => exact ⟨0, 0, by omega, rfl, rfl, by omega, by omega, fun _ => by omega, fun h => by omega, fun h => by omega, rfl⟩
    case round =>
      obtain ⟨j, y, hj, rfl, rfl, y0, y1, y2, y3, y4, rfl⟩ := hrel
      by_cases hlt : j < 3
      · obtain ⟨z, hz⟩ : ∃ z, z = (t + j) % n := ⟨_, rfl⟩
        have hzn : z < n := by rw [hz]; exact Nat.mod_lt _ (by omega)
        obtain ⟨u, u0, u1, c0⟩ := HC.out z hzn
        have e1 : ((t : Int) + (j : Int)) % (n : Int) = (z : Int) := by rw [hz]; norm_cast
        have e2 : Int.tmod ((t : Int) + (j : Int)) (n : Int) = (z : Int) := by rw [Int.tmod_eq_emod_of_nonneg (by omega)]; exact e1
        have z0 : (0 : Int) ≤ (z : Int) := by omega
        have z1 : (z : Int) < (n : Int) := by omega
        have HZ := mkHid hz
        have yb : y ≤ 8160 := by omega
        have Y := mkHid (And.intro y2 (And.intro y3 y4))
        clear hz y2 y3 y4
        go_wp2
        go_roundw
        case rel => exact ⟨j + 1, 31 * y + u, by omega, by go_num, rfl, by omega, by omega, fun h => by omega, fun h => by have := Y.out.1; omega, fun h => by have := Y.out.2.1; omega, by trivial⟩
        case measure => simp [intOf]; omega
      · have y5 : 0 ≤ y + (t : Int) := by omega
        clear y2 y3 y4
        go_wp2
        go_ret
        exact ⟨_, rfl, Int.emod_nonneg _ (by omega), Int.emod_lt_of_pos _ (by omega), rfl⟩

theorem within_any (x : Int) (w : World) : Calls Try.prog 17 #[.int .i64 x] w fun e w' => e = .returned (.bool (valB x)) ∧ w = w' := by
  by_cases h1 : -1000000 ≤ x
  · by_cases h2 : x ≤ 1000000
    · have e := mkHid (show valB x = true from decide_eq_true ⟨h1, h2⟩)
      go_enter Try.func17, Try.ntmps17
      go_wp2
      go_ret
      exact ⟨ret_bool e.out.symm, rfl⟩
    · have e := mkHid (show valB x = false from decide_eq_false fun h => h2 h.2)
      go_enter Try.func17, Try.ntmps17
      go_wp2
      go_ret
      exact ⟨ret_bool e.out.symm, rfl⟩
  · have e := mkHid (show valB x = false from decide_eq_false fun h => h1 h.1)
    go_enter Try.func17, Try.ntmps17
    go_wp2
    go_ret
    exact ⟨ret_bool e.out.symm, rfl⟩
end Go.Proofs.Ytgkmpadeleebdaa
