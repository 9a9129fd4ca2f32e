/-
  CONTRACTS of the cursor that draws numbers from bytes: pick, once, size, l01Open: they answer some number within bounds, and write the cursor's own block alone.
-/
import Derived.Test.YtgkmpadeleebdaaDoorQReg
import Derived.Deep.AppendLies
import Derived.ProofKit
import Derived.OpenShut
import Derived.ChangeOld
import Derived.Lib.SmallJoins
import Derived.Deep.QuietTactic
import Derived.BigQuiet
namespace Go.Proofs.YtgkmpadeleebdaaDoor.Q
open Go.RowKit

theorem grown_trans {a b c : World} {r : Option Nat} (h : a.grownBy b r) (k : b.grownBy c r) : a.grownBy c r := World.grownBy.trans h k
/-- Bytes that a slice holds. -/
def Bytes (w : World) (cb : Nat) (a : Option Addr) (n : Nat) : Prop := n = 0 ∨ ∃ b off, a = some ⟨b, off, none⟩ ∧ b < cb ∧ ∀ i, i < n → ∃ z : Int, 0 ≤ z ∧ z ≤ 255 ∧ w.cell? ⟨b, off + i, none⟩ = some (.int .u8 z)
def Cur (w : World) (cb : Nat) (a : Option Addr) (n cap bud : Nat) : Prop := ∃ (x : Nat) (seed : Int), w.heap[cb]? = some (.cells #[.slice a n cap, .int .i64 x, .int .i64 seed] 58 (0, 0)) ∧ x + 2 * bud ≤ 1000000 ∧ 0 ≤ seed ∧ seed ≤ 65521 ∧ n ≤ 1048576 ∧ Bytes w cb a n

theorem Bytes.grown {w w' : World} {cb n : Nat} {a : Option Addr} (h : Bytes w cb a n) (hg : w.grownBy w' (some cb)) : Bytes w' cb a n := by
  rcases h with h | ⟨b, off, e, hne, hc⟩
  · exact .inl h
  · refine .inr ⟨b, off, e, hne, fun i hi => ?_⟩
    obtain ⟨z, h0, h1, h2⟩ := hc i hi
    exact ⟨z, h0, h1, hg.cell h2 (by simp; omega)⟩
theorem grown_set (w : World) (cb i : Nat) (v : Value) : w.grownBy (w.setCell ⟨cb, i, none⟩ v) (some cb) :=
  ⟨rfl, rfl, rfl, by simp [World.setCell], fun k _ hk => Below.heap_setCell _ _ _ _ (fun e => hk (by simp [e]))⟩
theorem grown_drew (w : World) (k : Nat) (r : Option Nat) : w.grownBy (w.drewN k) r := ⟨rfl, rfl, rfl, Nat.le_refl _, fun _ _ _ => rfl⟩
theorem set1 {w : World} {cb : Nat} {A B C v : Value} (h : w.heap[cb]? = some (.cells #[A, B, C] 58 (0, 0))) : (w.setCell ⟨cb, 1, none⟩ v).heap[cb]? = some (.cells #[A, v, C] 58 (0, 0)) := heap_setCell_same w cb 1 _ 58 v h
theorem set2 {w : World} {cb : Nat} {A B C v : Value} (h : w.heap[cb]? = some (.cells #[A, B, C] 58 (0, 0))) : (w.setCell ⟨cb, 2, none⟩ v).heap[cb]? = some (.cells #[A, B, v] 58 (0, 0)) := heap_setCell_same w cb 2 _ 58 v h
theorem cur_one {w w' : World} {cb n cap bud x : Nat} {a : Option Addr} {seed' : Int} (hh : w'.heap[cb]? = some (.cells #[.slice a n cap, .int .i64 ((x : Int) + 1), .int .i64 seed'] 58 (0, 0))) (hx : x + 2 * (bud + 1) ≤ 1000000) (h0 : 0 ≤ seed') (h1 : seed' ≤ 65521) (hn : n ≤ 1048576) (hb : Bytes w cb a n) (hg : w.grownBy w' (some cb)) : Cur w' cb a n cap bud :=
  ⟨x + 1, seed', by rw [hh]; rfl, by omega, h0, h1, hn, hb.grown hg⟩
theorem cur_two {w w' : World} {cb n cap bud x : Nat} {a : Option Addr} {seed : Int} (hh : w'.heap[cb]? = some (.cells #[.slice a n cap, .int .i64 ((x : Int) + 1 + 1), .int .i64 seed] 58 (0, 0))) (hx : x + 2 * (bud + 1) ≤ 1000000) (h0 : 0 ≤ seed) (h1 : seed ≤ 65521) (hn : n ≤ 1048576) (hb : Bytes w cb a n) (hg : w.grownBy w' (some cb)) : Cur w' cb a n cap bud :=
  ⟨x + 2, seed, by rw [hh]; rfl, by omega, h0, h1, hn, hb.grown hg⟩

set_option maxHeartbeats 2000000 in
theorem pick_any (m : Int) (cb n cap bud : Nat) (a : Option Addr) (w : World) (hm : m ≤ 1000000) (hC : Cur w cb a n cap (bud + 1)) :
    Calls Tryd.prog 42 #[.pointer (some ⟨cb, 0, none⟩), .int .i64 m] w fun e w' => ∃ r : Int, e = .returned (.int .i64 r) ∧ 0 ≤ r ∧ (r < m ∨ r = 0) ∧ Cur w' cb a n cap bud ∧ w.grownBy w' (some cb) := by
  obtain ⟨x, seed, hh, hx1, hs0, hs1, hn, hby⟩ := hC
  have c0 : w.cell? ⟨cb, 0, none⟩ = some (.slice a n cap) := by rw [Lib.cell_of_heap hh]; rfl
  have c1 : w.cell? ⟨cb, 1, none⟩ = some (.int .i64 x) := by rw [Lib.cell_of_heap hh]; rfl
  have c2 : w.cell? ⟨cb, 2, none⟩ = some (.int .i64 seed) := by rw [Lib.cell_of_heap hh]; rfl
  have f1 := Lib.frozen_of_heap hh 1
  have f2 := Lib.frozen_of_heap hh 2
  have HH := mkHid hh
  have HY := mkHid hby
  clear hh hby
  by_cases h2 : m < 2
  · go_enter Tryd.func42, Tryd.ntmps42
    go_wp2
    go_ret
    exact ⟨0, rfl, by omega, .inr rfl, ⟨x, seed, HH.out, by omega, hs0, hs1, hn, HY.out⟩, ⟨rfl, rfl, rfl, Nat.le_refl _, fun _ _ _ => rfl⟩⟩
  · by_cases hin : (x : Int) < (n : Int)
    · obtain ⟨b, off, rfl, hbc, hb⟩ := HY.out.resolve_left (by omega)
      obtain ⟨z, hz0, hz1, hz⟩ := hb x (by omega)
      by_cases h200 : 200 < m ∧ (x : Int) + 1 < (n : Int)
      · obtain ⟨h20, h21⟩ := h200
        obtain ⟨z2, hz20, hz21, hz2⟩ := hb (x + 1) (by omega)
        have hd : decide (200 < m) = true := by simpa using h20
        have hd2 : decide ((x : Int) + 1 < (n : Int)) = true := by simpa using h21
        have e0 : ∀ K, ((w.drewN K).setCell ⟨cb, 1, none⟩ (.int .i64 ((x : Int) + 1))).cell? ⟨cb, 0, none⟩ = some (.slice (some ⟨b, off, none⟩) n cap) := fun K => by rw [Lib.cell_of_heap (set1 (w := w.drewN K) HH.out)]; rfl
        have e1 : ∀ K, ((w.drewN K).setCell ⟨cb, 1, none⟩ (.int .i64 ((x : Int) + 1))).cell? ⟨cb, 1, none⟩ = some (.int .i64 ((x : Int) + 1)) := fun K => by rw [Lib.cell_of_heap (set1 (w := w.drewN K) HH.out)]; rfl
        have e2 : ∀ K, ((w.drewN K).setCell ⟨cb, 1, none⟩ (.int .i64 ((x : Int) + 1))).cell? ⟨b, off + (x + 1), none⟩ = some (.int .u8 z2) := fun K => (grown_set (w.drewN K) cb 1 _).cell hz2 (by simp; omega)
        have e3 : ∀ K, ((w.drewN K).setCell ⟨cb, 1, none⟩ (.int .i64 ((x : Int) + 1))).frozen? ⟨cb, 1, none⟩ = false := fun K => Lib.frozen_of_heap (set1 (w := w.drewN K) HH.out) 1
        go_enter Tryd.func42, Tryd.ntmps42
        go_wp2
        go_quiet (fail)
        go_wp2
        go_quiet (fail)
        go_wp2
        go_quiet (fail)
        go_wp2
        go_quiet (fail)
        go_wp2
        go_ret
        refine ⟨_, rfl, Int.emod_nonneg _ (by omega), .inl (Int.emod_lt_of_pos _ (by omega)), ?_, ?_⟩
        · exact cur_two (seed := seed) (set1 (w := ((w.drewN _).setCell ⟨cb, 1, none⟩ (.int .i64 ((x : Int) + 1))).drewN _) (set1 (w := w.drewN _) HH.out)) hx1 hs0 hs1 hn HY.out (grown_trans (grown_trans (grown_drew _ _ _) (grown_set _ _ _ _)) (grown_trans (grown_drew _ _ _) (grown_set _ _ _ _)))
        · exact grown_trans (grown_trans (grown_drew _ _ _) (grown_set _ _ _ _)) (grown_trans (grown_drew _ _ _) (grown_set _ _ _ _))
      · by_cases h20 : 200 < m
        · have hd : decide (200 < m) = true := by simpa using h20
          have hd2 : decide ((x : Int) + 1 < (n : Int)) = false := by simp; omega
          clear h200
          go_enter Tryd.func42, Tryd.ntmps42
          go_wp2
          go_quiet (fail)
          go_wp2
          go_quiet (fail)
          go_wp2
          go_quiet (fail)
          go_wp2
          go_ret
          refine ⟨_, rfl, Int.emod_nonneg _ (by omega), .inl (Int.emod_lt_of_pos _ (by omega)), ?_, ?_⟩
          · exact cur_one (seed' := seed) (set1 (w := w.drewN _) HH.out) hx1 hs0 hs1 hn HY.out (grown_trans (grown_drew _ _ _) (grown_set _ _ _ _))
          · exact grown_trans (grown_drew _ _ _) (grown_set _ _ _ _)
        · have hd : decide (200 < m) = false := by simp; omega
          clear h200
          go_enter Tryd.func42, Tryd.ntmps42
          go_wp2
          go_quiet (fail)
          go_wp2
          go_quiet (fail)
          go_wp2
          go_quiet (fail)
          go_wp2
          go_ret
          refine ⟨_, rfl, Int.emod_nonneg _ (by omega), .inl (Int.emod_lt_of_pos _ (by omega)), ?_, ?_⟩
          · exact cur_one (seed' := seed) (set1 (w := w.drewN _) HH.out) hx1 hs0 hs1 hn HY.out (grown_trans (grown_drew _ _ _) (grown_set _ _ _ _))
          · exact grown_trans (grown_drew _ _ _) (grown_set _ _ _ _)
    · by_cases hn0 : 0 < (n : Int)
      · obtain ⟨b, off, rfl, hbc, hb⟩ := HY.out.resolve_left (by omega)
        obtain ⟨z, hz0, hz1, hz⟩ := hb (x % n) (Nat.mod_lt _ (by omega))
        have s0 : 0 ≤ (seed * 1103 + 12345) % 65521 ∧ (seed * 1103 + 12345) % 65521 ≤ 65521 := by omega
        obtain ⟨s0, s1⟩ := s0
        have e0 : ∀ K v, ((w.drewN K).setCell ⟨cb, 2, none⟩ v).cell? ⟨cb, 0, none⟩ = some (.slice (some ⟨b, off, none⟩) n cap) := fun K v => by rw [Lib.cell_of_heap (set2 (w := w.drewN K) HH.out)]; rfl
        have e1 : ∀ K v, ((w.drewN K).setCell ⟨cb, 2, none⟩ v).cell? ⟨cb, 1, none⟩ = some (.int .i64 (x : Int)) := fun K v => by rw [Lib.cell_of_heap (set2 (w := w.drewN K) HH.out)]; rfl
        have e4 : ∀ K v, ((w.drewN K).setCell ⟨cb, 2, none⟩ v).cell? ⟨cb, 2, none⟩ = some v := fun K v => by rw [Lib.cell_of_heap (set2 (w := w.drewN K) HH.out)]; rfl
        have e2 : ∀ K v, ((w.drewN K).setCell ⟨cb, 2, none⟩ v).cell? ⟨b, off + x % n, none⟩ = some (.int .u8 z) := fun K v => (grown_set (w.drewN K) cb 2 _).cell hz (by simp; omega)
        have e3 : ∀ K v, ((w.drewN K).setCell ⟨cb, 2, none⟩ v).frozen? ⟨cb, 1, none⟩ = false := fun K v => Lib.frozen_of_heap (set2 (w := w.drewN K) HH.out) 1
        have hmod0 : (0 : Int) ≤ (x : Int) % (n : Int) := by omega
        have hmod1 : (x : Int) % (n : Int) < (n : Int) := Int.emod_lt_of_pos _ hn0
        go_enter Tryd.func42, Tryd.ntmps42
        go_wp2
        go_quiet (fail)
        go_wp2
        go_quiet (fail)
        go_wp2
        go_ret
        refine ⟨_, rfl, Int.emod_nonneg _ (by omega), .inl (Int.emod_lt_of_pos _ (by omega)), ?_, ?_⟩
        · exact cur_one (seed' := (seed * 1103 + 12345) % 65521) (set1 (w := ((w.drewN _).setCell ⟨cb, 2, none⟩ (.int .i64 ((seed * 1103 + 12345) % 65521))).drewN _) (set2 (w := w.drewN _) HH.out)) hx1 s0 s1 hn HY.out (grown_trans (grown_trans (grown_drew _ _ _) (grown_set _ _ _ _)) (grown_trans (grown_drew _ _ _) (grown_set _ _ _ _)))
        · exact grown_trans (grown_trans (grown_drew _ _ _) (grown_set _ _ _ _)) (grown_trans (grown_drew _ _ _) (grown_set _ _ _ _))
      · go_enter Tryd.func42, Tryd.ntmps42
        go_wp2
        go_quiet (fail)
        go_wp2
        go_ret
        have s0 : 0 ≤ (seed * 1103 + 12345) % 65521 ∧ (seed * 1103 + 12345) % 65521 ≤ 65521 := by omega
        refine ⟨0, rfl, by omega, .inr rfl, ?_, ?_⟩
        · exact cur_one (seed' := (seed * 1103 + 12345) % 65521) (set1 (set2 (w := w.drewN _) HH.out)) hx1 s0.1 s0.2 hn HY.out (grown_trans (grown_drew _ _ _) (grown_trans (grown_set _ _ _ _) (grown_set _ _ _ _)))
        · exact grown_trans (grown_drew _ _ _) (grown_trans (grown_set _ _ _ _) (grown_set _ _ _ _))

set_option maxHeartbeats 400000 in
theorem open_any (n cap : Nat) (a : Option Addr) (w : World) (hn : n ≤ 1048576) (hb : Bytes w w.heap.size a n) :
    Calls Tryd.prog 19 #[.slice a n cap] w fun e w' => e = .returned (.pointer (some ⟨w.heap.size, 0, none⟩)) ∧ Cur w' w.heap.size a n cap 499999 ∧ Below w.heap.size w w' := by
  have HB := mkHid hb
  clear hb
  go_enter Tryd.func19, Tryd.ntmps19
  go_wp2
  go_ret
  have hg : w.grownBy (w.alloc (.cells #[.slice a n cap, .int .i64 0, .int .i64 (7 + (n : Int) % 1000)] 58)) (some w.heap.size) := World.grownBy_alloc w _ _
  exact ⟨rfl, ⟨0, 7 + (n : Int) % 1000, heap_alloc_new w _, by omega, by omega, by omega, hn, HB.out.grown hg⟩, (Below.refl _ _).alloc (Nat.le_refl _) _⟩
end Go.Proofs.YtgkmpadeleebdaaDoor.Q
