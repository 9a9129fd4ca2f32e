/-
  CONTRACTS of the cursor that draws numbers from bytes: pick, once, size, l01Open: they answer some number within bounds, and write the cursor's own block alone.
  CONTRACTS of the program's functions on ranges: RangeOk, RangeHas, spanOf, cutDown, RangeMeet, RangeNeg, RangeAdd.
  CONTRACTS of the specification's RangeAdd, RangeSub, RangeMul, RangeMeet, RangeJoin.
  GUARDS: models (plain); CONTRACTS of l02IsCond, l06Without of the specification, guardLess, withoutOnly of the program.
  CONTRACTS of the drawing of numbers and ranges: number, l06DrawRange: they answer some numbers, and write the cursor's own block alone.
  CONTRACT of the specification's FactsBound.
  CONTRACTS of the law's own pick, big and vals, of once and of l08DrawSym.
-/
import Derived.Test.YtgclngofigffdaaFh00
import Derived.Deep.AppendLies
import Derived.ProofKit
import Derived.OpenShut
import Derived.ChangeOld
import Derived.Lib.SmallJoins
import Derived.Deep.QuietTactic
import Derived.BigQuiet
import Derived.Test.YtgclngofigffdaaFh02
import Derived.Test.YtgclngofigffdaaFh08
import Derived.Test.YtgclngofigffdaaFh09
import Derived.Test.YtgclngofigffdaaFh10
namespace Go.Proofs.Ytgclngofigffdaa
open Go.RowKit

theorem grown_trans {a b c : World} {r : Option Nat} (h : a.grownBy b r) (k : b.grownBy c r) : a.grownBy c r := World.grownBy.trans h k
/-- Bytes that a slice holds. -/
def Bytes (w : World) (cb : Nat) (a : Option Addr) (n : Nat) : Prop := n = 0 ∨ ∃ b off, a = some ⟨b, off, none⟩ ∧ b < cb ∧ ∀ i, i < n → ∃ z : Int, 0 ≤ z ∧ z ≤ 255 ∧ w.cell? ⟨b, off + i, none⟩ = some (.int .u8 z)
def Cur (w : World) (cb : Nat) (a : Option Addr) (n cap bud : Nat) : Prop := ∃ (x : Nat) (seed : Int), w.heap[cb]? = some (.cells #[.slice a n cap, .int .i64 x, .int .i64 seed] 81 (0, 0)) ∧ x + 2 * bud ≤ 1000000 ∧ 0 ≤ seed ∧ seed ≤ 65521 ∧ n ≤ 1048576 ∧ Bytes w cb a n

theorem Bytes.grown {w w' : World} {cb n : Nat} {a : Option Addr} (h : Bytes w cb a n) (hg : w.grownBy w' (some cb)) : Bytes w' cb a n := by
  rcases h with h | ⟨b, off, e, hne, hc⟩
  · exact .inl h
  · refine .inr ⟨b, off, e, hne, fun i hi => ?_⟩
    obtain ⟨z, h0, h1, h2⟩ := hc i hi
    exact ⟨z, h0, h1, hg.cell h2 (by simp; omega)⟩
theorem grown_set (w : World) (cb i : Nat) (v : Value) : w.grownBy (w.setCell ⟨cb, i, none⟩ v) (some cb) :=
  ⟨rfl, rfl, rfl, by simp [World.setCell], fun k _ hk => Below.heap_setCell _ _ _ _ (fun e => hk (by simp [e]))⟩
theorem grown_drew (w : World) (k : Nat) (r : Option Nat) : w.grownBy (w.drewN k) r := ⟨rfl, rfl, rfl, Nat.le_refl _, fun _ _ _ => rfl⟩
theorem set1 {w : World} {cb : Nat} {A B C v : Value} (h : w.heap[cb]? = some (.cells #[A, B, C] 81 (0, 0))) : (w.setCell ⟨cb, 1, none⟩ v).heap[cb]? = some (.cells #[A, v, C] 81 (0, 0)) := heap_setCell_same w cb 1 _ 81 v h
theorem set2 {w : World} {cb : Nat} {A B C v : Value} (h : w.heap[cb]? = some (.cells #[A, B, C] 81 (0, 0))) : (w.setCell ⟨cb, 2, none⟩ v).heap[cb]? = some (.cells #[A, B, v] 81 (0, 0)) := heap_setCell_same w cb 2 _ 81 v h
theorem cur_one {w w' : World} {cb n cap bud x : Nat} {a : Option Addr} {seed' : Int} (hh : w'.heap[cb]? = some (.cells #[.slice a n cap, .int .i64 ((x : Int) + 1), .int .i64 seed'] 81 (0, 0))) (hx : x + 2 * (bud + 1) ≤ 1000000) (h0 : 0 ≤ seed') (h1 : seed' ≤ 65521) (hn : n ≤ 1048576) (hb : Bytes w cb a n) (hg : w.grownBy w' (some cb)) : Cur w' cb a n cap bud :=
  ⟨x + 1, seed', by rw [hh]; rfl, by omega, h0, h1, hn, hb.grown hg⟩
theorem cur_two {w w' : World} {cb n cap bud x : Nat} {a : Option Addr} {seed : Int} (hh : w'.heap[cb]? = some (.cells #[.slice a n cap, .int .i64 ((x : Int) + 1 + 1), .int .i64 seed] 81 (0, 0))) (hx : x + 2 * (bud + 1) ≤ 1000000) (h0 : 0 ≤ seed) (h1 : seed ≤ 65521) (hn : n ≤ 1048576) (hb : Bytes w cb a n) (hg : w.grownBy w' (some cb)) : Cur w' cb a n cap bud :=
  ⟨x + 2, seed, by rw [hh]; rfl, by omega, h0, h1, hn, hb.grown hg⟩

set_option maxHeartbeats 2000000 in
theorem pick_any (m : Int) (cb n cap bud : Nat) (a : Option Addr) (w : World) (hm : m ≤ 1000000) (hC : Cur w cb a n cap (bud + 1)) :
    Calls Try.prog 72 #[.pointer (some ⟨cb, 0, none⟩), .int .i64 m] w fun e w' => ∃ r : Int, e = .returned (.int .i64 r) ∧ 0 ≤ r ∧ (r < m ∨ r = 0) ∧ Cur w' cb a n cap bud ∧ w.grownBy w' (some cb) := by
  obtain ⟨x, seed, hh, hx1, hs0, hs1, hn, hby⟩ := hC
  have c0 : w.cell? ⟨cb, 0, none⟩ = some (.slice a n cap) := by rw [Lib.cell_of_heap hh]; rfl
  have c1 : w.cell? ⟨cb, 1, none⟩ = some (.int .i64 x) := by rw [Lib.cell_of_heap hh]; rfl
  have c2 : w.cell? ⟨cb, 2, none⟩ = some (.int .i64 seed) := by rw [Lib.cell_of_heap hh]; rfl
  have f1 := Lib.frozen_of_heap hh 1
  have f2 := Lib.frozen_of_heap hh 2
  have HH := mkHid hh
  have HY := mkHid hby
  clear hh hby
  by_cases h2 : m < 2
  · go_enter Try.func72, Try.ntmps72
    go_wp2
    go_ret
    exact ⟨0, rfl, by omega, .inr rfl, ⟨x, seed, HH.out, by omega, hs0, hs1, hn, HY.out⟩, ⟨rfl, rfl, rfl, Nat.le_refl _, fun _ _ _ => rfl⟩⟩
  · by_cases hin : (x : Int) < (n : Int)
    · obtain ⟨b, off, rfl, hbc, hb⟩ := HY.out.resolve_left (by omega)
      obtain ⟨z, hz0, hz1, hz⟩ := hb x (by omega)
      by_cases h200 : 200 < m ∧ (x : Int) + 1 < (n : Int)
      · obtain ⟨h20, h21⟩ := h200
        obtain ⟨z2, hz20, hz21, hz2⟩ := hb (x + 1) (by omega)
        have hd : decide (200 < m) = true := by simpa using h20
        have hd2 : decide ((x : Int) + 1 < (n : Int)) = true := by simpa using h21
        have e0 : ∀ K, ((w.drewN K).setCell ⟨cb, 1, none⟩ (.int .i64 ((x : Int) + 1))).cell? ⟨cb, 0, none⟩ = some (.slice (some ⟨b, off, none⟩) n cap) := fun K => by rw [Lib.cell_of_heap (set1 (w := w.drewN K) HH.out)]; rfl
        have e1 : ∀ K, ((w.drewN K).setCell ⟨cb, 1, none⟩ (.int .i64 ((x : Int) + 1))).cell? ⟨cb, 1, none⟩ = some (.int .i64 ((x : Int) + 1)) := fun K => by rw [Lib.cell_of_heap (set1 (w := w.drewN K) HH.out)]; rfl
        have e2 : ∀ K, ((w.drewN K).setCell ⟨cb, 1, none⟩ (.int .i64 ((x : Int) + 1))).cell? ⟨b, off + (x + 1), none⟩ = some (.int .u8 z2) := fun K => (grown_set (w.drewN K) cb 1 _).cell hz2 (by simp; omega)
        have e3 : ∀ K, ((w.drewN K).setCell ⟨cb, 1, none⟩ (.int .i64 ((x : Int) + 1))).frozen? ⟨cb, 1, none⟩ = false := fun K => Lib.frozen_of_heap (set1 (w := w.drewN K) HH.out) 1
        go_enter Try.func72, Try.ntmps72
        go_wp2
        go_quiet (fail)
        go_wp2
        go_quiet (fail)
        go_wp2
        go_quiet (fail)
        go_wp2
        go_quiet (fail)
        go_wp2
        go_ret
        refine ⟨_, rfl, Int.emod_nonneg _ (by omega), .inl (Int.emod_lt_of_pos _ (by omega)), ?_, ?_⟩
        · exact cur_two (seed := seed) (set1 (w := ((w.drewN _).setCell ⟨cb, 1, none⟩ (.int .i64 ((x : Int) + 1))).drewN _) (set1 (w := w.drewN _) HH.out)) hx1 hs0 hs1 hn HY.out (grown_trans (grown_trans (grown_drew _ _ _) (grown_set _ _ _ _)) (grown_trans (grown_drew _ _ _) (grown_set _ _ _ _)))
        · exact grown_trans (grown_trans (grown_drew _ _ _) (grown_set _ _ _ _)) (grown_trans (grown_drew _ _ _) (grown_set _ _ _ _))
      · by_cases h20 : 200 < m
        · have hd : decide (200 < m) = true := by simpa using h20
          have hd2 : decide ((x : Int) + 1 < (n : Int)) = false := by simp; omega
          clear h200
          go_enter Try.func72, Try.ntmps72
          go_wp2
          go_quiet (fail)
          go_wp2
          go_quiet (fail)
          go_wp2
          go_quiet (fail)
          go_wp2
          go_ret
          refine ⟨_, rfl, Int.emod_nonneg _ (by omega), .inl (Int.emod_lt_of_pos _ (by omega)), ?_, ?_⟩
          · exact cur_one (seed' := seed) (set1 (w := w.drewN _) HH.out) hx1 hs0 hs1 hn HY.out (grown_trans (grown_drew _ _ _) (grown_set _ _ _ _))
          · exact grown_trans (grown_drew _ _ _) (grown_set _ _ _ _)
        · have hd : decide (200 < m) = false := by simp; omega
          clear h200
          go_enter Try.func72, Try.ntmps72
          go_wp2
          go_quiet (fail)
          go_wp2
          go_quiet (fail)
          go_wp2
          go_quiet (fail)
          go_wp2
          go_ret
          refine ⟨_, rfl, Int.emod_nonneg _ (by omega), .inl (Int.emod_lt_of_pos _ (by omega)), ?_, ?_⟩
          · exact cur_one (seed' := seed) (set1 (w := w.drewN _) HH.out) hx1 hs0 hs1 hn HY.out (grown_trans (grown_drew _ _ _) (grown_set _ _ _ _))
          · exact grown_trans (grown_drew _ _ _) (grown_set _ _ _ _)
    · by_cases hn0 : 0 < (n : Int)
      · obtain ⟨b, off, rfl, hbc, hb⟩ := HY.out.resolve_left (by omega)
        obtain ⟨z, hz0, hz1, hz⟩ := hb (x % n) (Nat.mod_lt _ (by omega))
        have s0 : 0 ≤ (seed * 1103 + 12345) % 65521 ∧ (seed * 1103 + 12345) % 65521 ≤ 65521 := by omega
        obtain ⟨s0, s1⟩ := s0
        have e0 : ∀ K v, ((w.drewN K).setCell ⟨cb, 2, none⟩ v).cell? ⟨cb, 0, none⟩ = some (.slice (some ⟨b, off, none⟩) n cap) := fun K v => by rw [Lib.cell_of_heap (set2 (w := w.drewN K) HH.out)]; rfl
        have e1 : ∀ K v, ((w.drewN K).setCell ⟨cb, 2, none⟩ v).cell? ⟨cb, 1, none⟩ = some (.int .i64 (x : Int)) := fun K v => by rw [Lib.cell_of_heap (set2 (w := w.drewN K) HH.out)]; rfl
        have e4 : ∀ K v, ((w.drewN K).setCell ⟨cb, 2, none⟩ v).cell? ⟨cb, 2, none⟩ = some v := fun K v => by rw [Lib.cell_of_heap (set2 (w := w.drewN K) HH.out)]; rfl
        have e2 : ∀ K v, ((w.drewN K).setCell ⟨cb, 2, none⟩ v).cell? ⟨b, off + x % n, none⟩ = some (.int .u8 z) := fun K v => (grown_set (w.drewN K) cb 2 _).cell hz (by simp; omega)
        have e3 : ∀ K v, ((w.drewN K).setCell ⟨cb, 2, none⟩ v).frozen? ⟨cb, 1, none⟩ = false := fun K v => Lib.frozen_of_heap (set2 (w := w.drewN K) HH.out) 1
        have hmod0 : (0 : Int) ≤ (x : Int) % (n : Int) := by omega
        have hmod1 : (x : Int) % (n : Int) < (n : Int) := Int.emod_lt_of_pos _ hn0
        go_enter Try.func72, Try.ntmps72
        go_wp2
        go_quiet (fail)
        go_wp2
        go_quiet (fail)
        go_wp2
        go_ret
        refine ⟨_, rfl, Int.emod_nonneg _ (by omega), .inl (Int.emod_lt_of_pos _ (by omega)), ?_, ?_⟩
        · exact cur_one (seed' := (seed * 1103 + 12345) % 65521) (set1 (w := ((w.drewN _).setCell ⟨cb, 2, none⟩ (.int .i64 ((seed * 1103 + 12345) % 65521))).drewN _) (set2 (w := w.drewN _) HH.out)) hx1 s0 s1 hn HY.out (grown_trans (grown_trans (grown_drew _ _ _) (grown_set _ _ _ _)) (grown_trans (grown_drew _ _ _) (grown_set _ _ _ _)))
        · exact grown_trans (grown_trans (grown_drew _ _ _) (grown_set _ _ _ _)) (grown_trans (grown_drew _ _ _) (grown_set _ _ _ _))
      · go_enter Try.func72, Try.ntmps72
        go_wp2
        go_quiet (fail)
        go_wp2
        go_ret
        have s0 : 0 ≤ (seed * 1103 + 12345) % 65521 ∧ (seed * 1103 + 12345) % 65521 ≤ 65521 := by omega
        refine ⟨0, rfl, by omega, .inr rfl, ?_, ?_⟩
        · exact cur_one (seed' := (seed * 1103 + 12345) % 65521) (set1 (set2 (w := w.drewN _) HH.out)) hx1 s0.1 s0.2 hn HY.out (grown_trans (grown_drew _ _ _) (grown_trans (grown_set _ _ _ _) (grown_set _ _ _ _)))
        · exact grown_trans (grown_drew _ _ _) (grown_trans (grown_set _ _ _ _) (grown_set _ _ _ _))

set_option maxHeartbeats 400000 in
theorem open_any (n cap : Nat) (a : Option Addr) (w : World) (hn : n ≤ 1048576) (hb : Bytes w w.heap.size a n) :
    Calls Try.prog 35 #[.slice a n cap] w fun e w' => e = .returned (.pointer (some ⟨w.heap.size, 0, none⟩)) ∧ Cur w' w.heap.size a n cap 499999 ∧ Below w.heap.size w w' := by
  have HB := mkHid hb
  clear hb
  go_enter Try.func35, Try.ntmps35
  go_wp2
  go_ret
  have hg : w.grownBy (w.alloc (.cells #[.slice a n cap, .int .i64 0, .int .i64 (7 + (n : Int) % 1000)] 81)) (some w.heap.size) := World.grownBy_alloc w _ _
  exact ⟨rfl, ⟨0, 7 + (n : Int) % 1000, heap_alloc_new w _, by omega, by omega, by omega, hn, HB.out.grown hg⟩, (Below.refl _ _).alloc (Nat.le_refl _) _⟩
end Go.Proofs.Ytgclngofigffdaa
namespace Go.Proofs.Ytgclngofigffdaa
open Go.RowKit

end Go.Proofs.Ytgclngofigffdaa
namespace Go.Proofs.Ytgclngofigffdaa
open Go.RowKit

end Go.Proofs.Ytgclngofigffdaa
namespace Go.Proofs.Ytgclngofigffdaa
open Go.RowKit
attribute [local go_sem] nlt2 nlt3 nlt4 nle2 nle3 nle4 drew_size drew_cell drew_frozen

end Go.Proofs.Ytgclngofigffdaa
namespace Go.Proofs.Ytgclngofigffdaa
open Go.RowKit
attribute [local go_sem] nlt2 nlt3 nlt4 nle2 nle3 nle4 drew_size drew_cell drew_frozen

theorem Cur.lt {w : World} {cb n cap bud : Nat} {a : Option Addr} (h : Cur w cb a n cap bud) : cb < w.heap.size := by
  obtain ⟨x, seed, hh, _⟩ := h
  exact (Array.getElem?_eq_some_iff.1 hh).1
theorem Cur.below {w w' : World} {cb n cap bud : Nat} {a : Option Addr} (h : Cur w cb a n cap bud) (hb : Below w.heap.size w w') : Cur w' cb a n cap bud := by
  have hlt := h.lt
  obtain ⟨x, seed, hh, h1, h2, h3, h4, hby⟩ := h
  refine ⟨x, seed, (hb.block cb hlt).trans hh, h1, h2, h3, h4, ?_⟩
  rcases hby with h | ⟨b, off, e, hbl, hc⟩
  · exact .inl h
  · refine .inr ⟨b, off, e, hbl, fun i hi => ?_⟩
    obtain ⟨z, z0, z1, hz⟩ := hc i hi
    exact ⟨z, z0, z1, (hb.cell (p := ⟨b, off + i, none⟩) (by show b < _; omega)).trans hz⟩
theorem grown_of_below {w w' : World} (hb : Below w.heap.size w w') (r : Option Nat) : w.grownBy w' r := ⟨hb.os, hb.tape, hb.output, hb.size, fun i hi _ => hb.block i hi⟩
theorem below_alloc (w : World) (o : Obj) : Below w.heap.size w (w.alloc o) := (Below.refl _ _).alloc (Nat.le_refl _) o
theorem Cur.alloc {w : World} {cb n cap bud : Nat} {a : Option Addr} (h : Cur w cb a n cap bud) (o : Obj) : Cur (w.alloc o) cb a n cap bud := h.below (below_alloc w o)
theorem grown_cell {w w' : World} {cb b i : Nat} (hg : w.grownBy w' (some cb)) (hb : b < w.heap.size) (hne : b ≠ cb) : w'.cell? ⟨b, i, none⟩ = w.cell? ⟨b, i, none⟩ :=
  World.cell?_of_block (w := w) (hg.block b hb (fun e => hne (Option.some.inj e)))
theorem grown_frozen {w w' : World} {cb b i : Nat} (hg : w.grownBy w' (some cb)) (hb : b < w.heap.size) (hne : b ≠ cb) : w'.frozen? ⟨b, i, none⟩ = w.frozen? ⟨b, i, none⟩ :=
  World.frozen?_of_block (w := w) (hg.block b hb (fun e => hne (Option.some.inj e)))

set_option maxHeartbeats 3200000 in
theorem number_any (cb n cap bud : Nat) (a : Option Addr) (w : World) (hC : Cur w cb a n cap (bud + 2)) :
    Calls Try.prog 79 #[.pointer (some ⟨cb, 0, none⟩)] w fun e w' => ∃ r : Int, e = .returned (.int .i64 r) ∧ -9223372036854775808 ≤ r ∧ r ≤ 9223372036854775807 ∧ Cur w' cb a n cap bud ∧ w.grownBy w' (some cb) := by
  have HC := mkHid hC
  clear hC
  go_enter Try.func79, Try.ntmps79
  go_wp2_with fail
  refine (pick_any 8 cb n cap (bud + 1) a _ (by omega) HC.out).mono ?_
  rintro e w1 ⟨r, rfl, r0, r1, hC1, hG1⟩
  have HC1 := mkHid hC1
  have HG1 := mkHid hG1
  clear hC1 hG1 HC
  by_cases e0 : r = 0
  · subst e0
    go_wp2_with fail
    refine (pick_any 256 cb n cap bud a _ (by omega) HC1.out).mono ?_
    rintro e w2 ⟨q, rfl, q0, q1, hC2, hG2⟩
    have HC2 := mkHid hC2
    have HG2 := mkHid hG2
    clear hC2 hG2 HC1
    have q2 : q ≤ 256 := by omega
    go_wp2
    go_ret
    exact ⟨_, rfl, by omega, by omega, HC2.out, grown_trans HG1.out HG2.out⟩
  · by_cases e1 : r = 1
    · subst e1
      go_wp2_with fail
      refine (pick_any 8 cb n cap bud a _ (by omega) (HC1.out.alloc _)).mono ?_
      rintro e w2 ⟨q, rfl, q0, q1, hC2, hG2⟩
      have HC2 := mkHid hC2
      have HG2 := mkHid hG2
      have hne : w1.heap.size ≠ cb := by have := HC1.out.lt; omega
      have HK : Hid (∀ i, w2.cell? ⟨w1.heap.size, i, none⟩ = (w1.alloc (.cells #[.int .i64 1000000, .int .i64 (-1000000), .int .i64 1000001, .int .i64 (-1000001), .int .i64 2000000, .int .i64 9223372036854775807, .int .i64 (-9223372036854775808), .int .i64 1001] 3)).cell? ⟨w1.heap.size, i, none⟩) := mkHid (fun i => grown_cell hG2 (by simp) hne)
      have HG := mkHid (grown_trans (grown_trans HG1.out (grown_of_below (below_alloc w1 _) (some cb))) HG2.out)
      clear hC2 hG2 HC1 HG1 HG2
      have q2 : q < 8 := by omega
      obtain ⟨m, rfl⟩ : ∃ m : Nat, q = m := ⟨q.toNat, by omega⟩
      have c0 := HK.out m
      have hm : m < 8 := by omega
      clear q1 HK
      rcases (by omega : m = 0 ∨ m = 1 ∨ m = 2 ∨ m = 3 ∨ m = 4 ∨ m = 5 ∨ m = 6 ∨ m = 7) with rfl | rfl | rfl | rfl | rfl | rfl | rfl | rfl
      all_goals
        simp [go_sem] at c0
        go_wp2
        go_ret
        exact ⟨_, rfl, by omega, by omega, HC2.out, HG.out⟩
    · by_cases e2 : r = 2
      · subst e2
        go_wp2_with fail
        refine (pick_any 65000 cb n cap bud a _ (by omega) HC1.out).mono ?_
        rintro e w2 ⟨q, rfl, q0, q1, hC2, hG2⟩
        have HC2 := mkHid hC2
        have HG2 := mkHid hG2
        clear hC2 hG2 HC1
        have q2 : q ≤ 65000 := by omega
        go_wp2
        go_ret
        exact ⟨_, rfl, by omega, by omega, HC2.out, grown_trans HG1.out HG2.out⟩
      · go_wp2_with fail
        refine (pick_any 12 cb n cap bud a _ (by omega) HC1.out).mono ?_
        rintro e w2 ⟨q, rfl, q0, q1, hC2, hG2⟩
        have HC2 := mkHid hC2
        have HG2 := mkHid hG2
        clear hC2 hG2 HC1
        have q2 : q ≤ 12 := by omega
        go_wp2
        go_ret
        exact ⟨_, rfl, by omega, by omega, HC2.out, grown_trans HG1.out HG2.out⟩
end Go.Proofs.Ytgclngofigffdaa
namespace Go.Proofs.Ytgclngofigffdaa
open Go.RowKit

end Go.Proofs.Ytgclngofigffdaa
namespace Go.Proofs.Ytgclngofigffdaa
open Go.RowKit

theorem Bytes.up {w w' : World} {B B' n : Nat} {a : Option Addr} (h : Bytes w B a n) (hB : B ≤ B') (hb : Below B w w') : Bytes w' B' a n := by
  rcases h with h | ⟨b, off, e, hbl, hc⟩
  · exact .inl h
  · refine .inr ⟨b, off, e, by omega, fun i hi => ?_⟩
    obtain ⟨z, z0, z1, hz⟩ := hc i hi
    exact ⟨z, z0, z1, (hb.cell (p := ⟨b, off + i, none⟩) hbl).trans hz⟩
theorem openC_any (n cap : Nat) (a : Option Addr) (w : World) (hn : n ≤ 1048576) (hb : Bytes w w.heap.size a n) :
    Calls Try.prog 35 #[.slice a n cap] w fun e w' => ∃ cb, e = .returned (.pointer (some ⟨cb, 0, none⟩)) ∧ w.heap.size ≤ cb ∧ Cur w' cb a n cap 499999 ∧ Below w.heap.size w w' :=
  (open_any n cap a w hn hb).mono fun _ _ h => ⟨_, h.1, Nat.le_refl _, h.2.1, h.2.2⟩
theorem big_any (n cap : Nat) (a : Option Addr) (w : World) (hn : n ≤ maxLen) : Calls Try.prog 6 #[.slice a n cap] w fun e w' => e = .returned (.bool (decide (1048576 < n))) ∧ w = w' := by
  unfold maxLen at hn
  by_cases h : 1048576 < n
  · have h' : (1048576 : Int) < (n : Int) := by omega
    go_enter Try.func6, Try.ntmps6
    go_wp2
    go_ret
    exact ⟨ret_bool (by first | rfl | simp [h]), rfl⟩
  · have h' : ¬ (1048576 : Int) < (n : Int) := by omega
    go_enter Try.func6, Try.ntmps6
    go_wp2
    go_ret
    exact ⟨ret_bool (by first | rfl | simp [h]), rfl⟩
set_option maxHeartbeats 1600000 in
theorem lpick_any (n cap B t : Nat) (m : Int) (a : Option Addr) (w : World) (hn : n ≤ 1048576) (hb : Bytes w B a n) (ht : t ≤ 1000) (hm0 : 2 ≤ m) (hm : m ≤ 10000) :
    Calls Try.prog 22 #[.slice a n cap, .int .i64 t, .int .i64 m] w fun e w' => ∃ r : Int, e = .returned (.int .i64 r) ∧ 0 ≤ r ∧ r < m ∧ w = w' := by
  have HY := mkHid hb
  clear hb
  by_cases h0 : n = 0
  · subst h0
    go_enter Try.func22, Try.ntmps22
    go_wp2
    go_ret
    exact ⟨0, rfl, by omega, by omega, rfl⟩
  · obtain ⟨b, off, rfl, _, hc⟩ : ∃ b off, a = some ⟨b, off, none⟩ ∧ b < B ∧ ∀ i, i < n → ∃ z : Int, 0 ≤ z ∧ z ≤ 255 ∧ w.cell? ⟨b, off + i, none⟩ = some (.int .u8 z) := by
      rcases HY.out with h | h
      · exact absurd h h0
      · exact h
    have HC := mkHid hc
    have n1 : (1 : Int) ≤ (n : Int) := by omega
    have n3 : ¬ n = 0 := h0
    have n4 : ((n : Int) == 0) = false := by simpa using h0
    have n5 : decide (m < 2) = false := by simp; omega
    clear hc HY h0
    go_enter Try.func22, Try.ntmps22
    go_wp2
    go_loopw [7, 8] (fun x k v => ∃ (j : Nat) (y : Int), j ≤ 3 ∧ k = .int .i64 j ∧ x = .int .i64 y ∧ 0 ≤ y ∧ y ≤ 300000 ∧ (j = 0 → y ≤ 0) ∧ (j = 1 → y ≤ 255) ∧ (j = 2 → y ≤ 8160) ∧ v = w) (fun _ k _ => 3 - (intOf k).toNat)
    case atStart => exact ⟨0, 0, by omega, rfl, rfl, by omega, by omega, fun _ => by omega, fun h => by omega, fun h => by omega, rfl⟩
    case round =>
      obtain ⟨j, y, hj, rfl, rfl, y0, y1, y2, y3, y4, rfl⟩ := hrel
      by_cases hlt : j < 3
      · obtain ⟨z, hz⟩ : ∃ z, z = (t + j) % n := ⟨_, rfl⟩
        have hzn : z < n := by rw [hz]; exact Nat.mod_lt _ (by omega)
        obtain ⟨u, u0, u1, c0⟩ := HC.out z hzn
        have e1 : ((t : Int) + (j : Int)) % (n : Int) = (z : Int) := by rw [hz]; norm_cast
        have e2 : Int.tmod ((t : Int) + (j : Int)) (n : Int) = (z : Int) := by rw [Int.tmod_eq_emod_of_nonneg (by omega)]; exact e1
        have z0 : (0 : Int) ≤ (z : Int) := by omega
        have z1 : (z : Int) < (n : Int) := by omega
        have HZ := mkHid hz
        have yb : y ≤ 8160 := by omega
        have Y := mkHid (And.intro y2 (And.intro y3 y4))
        clear hz y2 y3 y4
        go_wp2
        go_roundw
        case rel => exact ⟨j + 1, 31 * y + u, by omega, by go_num, rfl, by omega, by omega, fun h => by omega, fun h => by have := Y.out.1; omega, fun h => by have := Y.out.2.1; omega, by trivial⟩
        case measure => simp [intOf]; omega
      · have y5 : 0 ≤ y + (t : Int) := by omega
        clear y2 y3 y4
        go_wp2
        go_ret
        exact ⟨_, rfl, Int.emod_nonneg _ (by omega), Int.emod_lt_of_pos _ (by omega), rfl⟩
set_option maxHeartbeats 400000 in
theorem once_any (m : Int) (cb n cap bud : Nat) (a : Option Addr) (w : World) (hm0 : 2 ≤ m) (hm : m ≤ 1000000) (hC : Cur w cb a n cap (bud + 1)) :
    Calls Try.prog 70 #[.pointer (some ⟨cb, 0, none⟩), .int .i64 m] w fun e w' => ∃ r : Bool, e = .returned (.bool r) ∧ Cur w' cb a n cap bud ∧ w.grownBy w' (some cb) := by
  have HC := mkHid hC
  have hw : IntKind.i64.wrap (m - 1) = m - 1 := IntWalk.i64_in _ (by omega)
  have HM := mkHid hm
  clear hC hm hm0
  go_enter Try.func70, Try.ntmps70
  go_wp2_with fail
  refine (pick_any m cb n cap bud a _ HM.out HC.out).mono ?_
  rintro e w' ⟨r, rfl, r0, r1, hC', hG'⟩
  have H1 := mkHid hC'
  have H2 := mkHid hG'
  clear hC' hG'
  go_wp2
  go_ret
  exact ⟨_, rfl, H1.out, H2.out⟩
theorem Box.set1 {v : World} {b : Nat} {x y : Int} (h : Box v b x y) (u : Int) : Box (v.setCell ⟨b, 1, none⟩ (.int .i64 u)) b x u := by
  obtain ⟨h0, h1, h2, h3⟩ := h
  refine ⟨?_, ?_, ?_, ?_⟩ <;> simp [go_sem, h0, h1, h2, h3]
theorem Cur.far {w w' : World} {cb n cap bud q : Nat} {a : Option Addr} (h : Cur w cb a n cap bud) (hg : w.grownBy w' (some q)) (hq : cb < q) : Cur w' cb a n cap bud := by
  obtain ⟨x, seed, h1, h2, h3, h4, h5, h6⟩ := h
  have hlt : cb < w.heap.size := by
    rcases Nat.lt_or_ge cb w.heap.size with h | h
    · exact h
    · rw [Array.getElem?_eq_none h] at h1; cases h1
  refine ⟨x, seed, ?_, h2, h3, h4, h5, ?_⟩
  · rw [← h1]
    exact hg.block cb hlt (some_ne (by omega))
  · rcases h6 with h6 | ⟨b, off, e, hb, hc⟩
    · exact .inl h6
    · refine .inr ⟨b, off, e, hb, fun i hi => ?_⟩
      obtain ⟨z, z0, z1, hz⟩ := hc i hi
      exact ⟨z, z0, z1, (hg.cell_far ⟨b, off + i, none⟩ (World.block_lt_of_cell? w _ hz) (some_ne (by show b ≠ q; omega))).trans hz⟩
theorem Cur.less {w : World} {cb n cap bud bud' : Nat} {a : Option Addr} (h : Cur w cb a n cap bud) (hb : bud' ≤ bud) : Cur w cb a n cap bud' := by
  obtain ⟨x, seed, h1, h2, h3⟩ := h
  exact ⟨x, seed, h1, by omega, h3⟩
theorem grown_new {w w' : World} {r : Option Nat} (h : w.grownBy w' r) {p : Addr} (hp : w.heap.size ≤ p.block) (v : Value) : w.grownBy (w'.setCell p v) r :=
  ⟨h.os, h.tape, h.output, by have := h.size; simpa using this, fun k hk hr => ((grown_setCell w' p v).block k (by have := h.size; omega) (some_ne (by omega))).trans (h.block k hk hr)⟩
theorem grown_alloc {w w' : World} {r : Option Nat} (h : w.grownBy w' r) (o : Obj) : w.grownBy (w'.alloc o) r := h.trans (World.grownBy_alloc w' o r)
theorem Cur.set {w : World} {cb n cap bud : Nat} {a : Option Addr} (h : Cur w cb a n cap bud) {p : Addr} (hp : cb < p.block) (v : Value) : Cur (w.setCell p v) cb a n cap bud := h.far (grown_setCell w p v) hp
end Go.Proofs.Ytgclngofigffdaa
