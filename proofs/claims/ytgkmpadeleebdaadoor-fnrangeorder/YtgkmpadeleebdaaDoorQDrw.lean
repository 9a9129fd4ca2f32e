/-
  CONTRACTS of the drawing of numbers and ranges: number, l06DrawRange: they answer some numbers, and write the cursor's own block alone.
-/
import Derived.Test.YtgkmpadeleebdaaDoorQCur
import Derived.Test.YtgkmpadeleebdaaDoorQGd
namespace Go.Proofs.YtgkmpadeleebdaaDoor.Q
open Go.RowKit
attribute [local go_sem] nlt2 nlt3 nlt4 nle2 nle3 nle4 drew_size drew_cell drew_frozen

theorem Cur.lt {w : World} {cb n cap bud : Nat} {a : Option Addr} (h : Cur w cb a n cap bud) : cb < w.heap.size := by
  obtain ⟨x, seed, hh, _⟩ := h
  exact (Array.getElem?_eq_some_iff.1 hh).1
theorem Cur.below {w w' : World} {cb n cap bud : Nat} {a : Option Addr} (h : Cur w cb a n cap bud) (hb : Below w.heap.size w w') : Cur w' cb a n cap bud := by
  have hlt := h.lt
  obtain ⟨x, seed, hh, h1, h2, h3, h4, hby⟩ := h
  refine ⟨x, seed, (hb.block cb hlt).trans hh, h1, h2, h3, h4, ?_⟩
  rcases hby with h | ⟨b, off, e, hbl, hc⟩
  · exact .inl h
  · refine .inr ⟨b, off, e, hbl, fun i hi => ?_⟩
    obtain ⟨z, z0, z1, hz⟩ := hc i hi
    exact ⟨z, z0, z1, (hb.cell (p := ⟨b, off + i, none⟩) (by show b < _; omega)).trans hz⟩
theorem grown_of_below {w w' : World} (hb : Below w.heap.size w w') (r : Option Nat) : w.grownBy w' r := ⟨hb.os, hb.tape, hb.output, hb.size, fun i hi _ => hb.block i hi⟩
theorem below_alloc (w : World) (o : Obj) : Below w.heap.size w (w.alloc o) := (Below.refl _ _).alloc (Nat.le_refl _) o
theorem Cur.alloc {w : World} {cb n cap bud : Nat} {a : Option Addr} (h : Cur w cb a n cap bud) (o : Obj) : Cur (w.alloc o) cb a n cap bud := h.below (below_alloc w o)
theorem grown_cell {w w' : World} {cb b i : Nat} (hg : w.grownBy w' (some cb)) (hb : b < w.heap.size) (hne : b ≠ cb) : w'.cell? ⟨b, i, none⟩ = w.cell? ⟨b, i, none⟩ :=
  World.cell?_of_block (w := w) (hg.block b hb (fun e => hne (Option.some.inj e)))
theorem grown_frozen {w w' : World} {cb b i : Nat} (hg : w.grownBy w' (some cb)) (hb : b < w.heap.size) (hne : b ≠ cb) : w'.frozen? ⟨b, i, none⟩ = w.frozen? ⟨b, i, none⟩ :=
  World.frozen?_of_block (w := w) (hg.block b hb (fun e => hne (Option.some.inj e)))

set_option maxHeartbeats 3200000 in
theorem number_any (cb n cap bud : Nat) (a : Option Addr) (w : World) (hC : Cur w cb a n cap (bud + 2)) :
    Calls Tryd.prog 43 #[.pointer (some ⟨cb, 0, none⟩)] w fun e w' => ∃ r : Int, e = .returned (.int .i64 r) ∧ -9223372036854775808 ≤ r ∧ r ≤ 9223372036854775807 ∧ Cur w' cb a n cap bud ∧ w.grownBy w' (some cb) := by
  have HC := mkHid hC
  clear hC
  go_enter Tryd.func43, Tryd.ntmps43
  go_wp2_with fail
  refine (pick_any 8 cb n cap (bud + 1) a _ (by omega) HC.out).mono ?_
  rintro e w1 ⟨r, rfl, r0, r1, hC1, hG1⟩
  have HC1 := mkHid hC1
  have HG1 := mkHid hG1
  clear hC1 hG1 HC
  by_cases e0 : r = 0
  · subst e0
    go_wp2_with fail
    refine (pick_any 256 cb n cap bud a _ (by omega) HC1.out).mono ?_
    rintro e w2 ⟨q, rfl, q0, q1, hC2, hG2⟩
    have HC2 := mkHid hC2
    have HG2 := mkHid hG2
    clear hC2 hG2 HC1
    have q2 : q ≤ 256 := by omega
    go_wp2
    go_ret
    exact ⟨_, rfl, by omega, by omega, HC2.out, grown_trans HG1.out HG2.out⟩
  · by_cases e1 : r = 1
    · subst e1
      go_wp2_with fail
      refine (pick_any 8 cb n cap bud a _ (by omega) (HC1.out.alloc _)).mono ?_
      rintro e w2 ⟨q, rfl, q0, q1, hC2, hG2⟩
      have HC2 := mkHid hC2
      have HG2 := mkHid hG2
      have hne : w1.heap.size ≠ cb := by have := HC1.out.lt; omega
      have HK : Hid (∀ i, w2.cell? ⟨w1.heap.size, i, none⟩ = (w1.alloc (.cells #[.int .i64 1000000, .int .i64 (-1000000), .int .i64 1000001, .int .i64 (-1000001), .int .i64 2000000, .int .i64 9223372036854775807, .int .i64 (-9223372036854775808), .int .i64 1001] 3)).cell? ⟨w1.heap.size, i, none⟩) := mkHid (fun i => grown_cell hG2 (by simp) hne)
      have HG := mkHid (grown_trans (grown_trans HG1.out (grown_of_below (below_alloc w1 _) (some cb))) HG2.out)
      clear hC2 hG2 HC1 HG1 HG2
      have q2 : q < 8 := by omega
      obtain ⟨m, rfl⟩ : ∃ m : Nat, q = m := ⟨q.toNat, by omega⟩
      have c0 := HK.out m
      have hm : m < 8 := by omega
      clear q1 HK
      rcases (by omega : m = 0 ∨ m = 1 ∨ m = 2 ∨ m = 3 ∨ m = 4 ∨ m = 5 ∨ m = 6 ∨ m = 7) with rfl | rfl | rfl | rfl | rfl | rfl | rfl | rfl
      all_goals
        simp [go_sem] at c0
        go_wp2
        go_ret
        exact ⟨_, rfl, by omega, by omega, HC2.out, HG.out⟩
    · by_cases e2 : r = 2
      · subst e2
        go_wp2_with fail
        refine (pick_any 65000 cb n cap bud a _ (by omega) HC1.out).mono ?_
        rintro e w2 ⟨q, rfl, q0, q1, hC2, hG2⟩
        have HC2 := mkHid hC2
        have HG2 := mkHid hG2
        clear hC2 hG2 HC1
        have q2 : q ≤ 65000 := by omega
        go_wp2
        go_ret
        exact ⟨_, rfl, by omega, by omega, HC2.out, grown_trans HG1.out HG2.out⟩
      · go_wp2_with fail
        refine (pick_any 12 cb n cap bud a _ (by omega) HC1.out).mono ?_
        rintro e w2 ⟨q, rfl, q0, q1, hC2, hG2⟩
        have HC2 := mkHid hC2
        have HG2 := mkHid hG2
        clear hC2 hG2 HC1
        have q2 : q ≤ 12 := by omega
        go_wp2
        go_ret
        exact ⟨_, rfl, by omega, by omega, HC2.out, grown_trans HG1.out HG2.out⟩
end Go.Proofs.YtgkmpadeleebdaaDoor.Q
