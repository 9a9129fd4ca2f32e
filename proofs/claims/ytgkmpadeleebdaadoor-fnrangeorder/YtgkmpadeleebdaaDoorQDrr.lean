/-
  CONTRACT of the drawing of ranges: l06DrawRange: it answers some range, and writes the cursor's own block alone.
-/
import Derived.Test.YtgkmpadeleebdaaDoorQDrw
namespace Go.Proofs.YtgkmpadeleebdaaDoor.Q
open Go.RowKit
attribute [local go_sem] nlt2 nlt3 nlt4 nle2 nle3 nle4 drew_size drew_cell drew_frozen

theorem Cur.belowB {w w' : World} {B cb n cap bud : Nat} {a : Option Addr} (h : Cur w cb a n cap bud) (hB : cb < B) (hb : Below B w w') : Cur w' cb a n cap bud := by
  obtain ⟨x, seed, hh, h1, h2, h3, h4, hby⟩ := h
  refine ⟨x, seed, (hb.block cb hB).trans hh, h1, h2, h3, h4, ?_⟩
  rcases hby with h | ⟨b, off, e, hbl, hc⟩
  · exact .inl h
  · refine .inr ⟨b, off, e, hbl, fun i hi => ?_⟩
    obtain ⟨z, z0, z1, hz⟩ := hc i hi
    exact ⟨z, z0, z1, (hb.cell (p := ⟨b, off + i, none⟩) (by show b < _; omega)).trans hz⟩
theorem grown_belowB {w a b : World} {r : Option Nat} (hg : w.grownBy a r) (hb : Below w.heap.size a b) : w.grownBy b r :=
  ⟨hb.os.trans hg.os, hb.tape.trans hg.tape, hb.output.trans hg.output, Nat.le_trans hg.size hb.size, fun i hi hne => (hb.block i hi).trans (hg.block i hi hne)⟩
theorem below_two (B : Nat) (v : World) (x y : Value) : Below B v ((v.setCell ⟨B, 0, none⟩ x).setCell ⟨B, 1, none⟩ y) := ((Below.refl B v).setCell (p := ⟨B, 0, none⟩) (Nat.le_refl _) x).setCell (p := ⟨B, 1, none⟩) (Nat.le_refl _) y
/-- The result's box inside the call. -/
theorem Box.grown {v v' : World} {cb b : Nat} {x y : Int} (h : Box v b x y) (hg : v.grownBy v' (some cb)) (hne : b ≠ cb) : Box v' b x y := by
  obtain ⟨h0, h1, h2, h3⟩ := h
  have hlt := World.block_lt_of_cell? v _ h0
  exact ⟨(grown_cell hg hlt hne).trans h0, (grown_cell hg hlt hne).trans h1, (grown_frozen hg hlt hne).trans h2, (grown_frozen hg hlt hne).trans h3⟩

theorem Cur.less {w : World} {cb n cap bud bud' : Nat} {a : Option Addr} (h : Cur w cb a n cap bud) (hb : bud' ≤ bud) : Cur w cb a n cap bud' := by
  obtain ⟨x, seed, hh, h1, h2⟩ := h
  exact ⟨x, seed, hh, by omega, h2⟩
set_option maxHeartbeats 3200000 in
theorem drawRange_any (cb n cap bud : Nat) (a : Option Addr) (w : World) (hC : Cur w cb a n cap (bud + 5)) :
    Calls Tryd.prog 20 #[.pointer (some ⟨cb, 0, none⟩)] w fun e w' => ∃ x y : Int, e = .returned (.agg #[.int .i64 x, .int .i64 y]) ∧ Cur w' cb a n cap bud ∧ w.grownBy w' (some cb) := by
  have HC := mkHid hC
  have hlt := hC.lt
  have hne : w.heap.size ≠ cb := by omega
  have HX := mkHid (show Box (w.alloc (.cells #[.int .i64 0, .int .i64 0] 25)) w.heap.size 0 0 by refine ⟨?_, ?_, ?_, ?_⟩ <;> simp [go_sem])
  have HC := mkHid (HC.out.alloc (.cells #[.int .i64 0, .int .i64 0] 25))
  have HG := mkHid (grown_of_below (below_alloc w (.cells #[.int .i64 0, .int .i64 0] 25)) (some cb))
  clear hC
  go_enter Tryd.func20, Tryd.ntmps20
  go_wp2_with fail
  refine (pick_any 9 cb n cap (bud + 4) a _ (by omega) HC.out).mono ?_
  rintro e w1 ⟨r, rfl, r0, r1, hC', hG'⟩
  have HC := mkHid hC'
  have HX := mkHid (HX.out.grown hG' hne)
  have HG := mkHid (grown_trans HG.out hG')
  clear hC' hG'
  obtain ⟨p0, p1, p2, p3⟩ := HX.out
  by_cases e0 : r = 0
  · subst e0
    go_wp2_with fail
    refine (sNone_any _).mono ?_
    rintro e w2 ⟨rfl, hb⟩
    have HC := mkHid (HC.out.below hb)
    have HX := mkHid (HX.out.below hb)
    have HG := mkHid (grown_trans HG.out (grown_of_below hb (some cb)))
    clear hb
    obtain ⟨p0, p1, p2, p3⟩ := HX.out
    go_wp2
    have hb9 : Below w.heap.size w2 ((w2.setCell ⟨w.heap.size, 0, none⟩ (.int .i64 1)).setCell ⟨w.heap.size, 1, none⟩ (.int .i64 0)) := below_two _ _ _ _
    exact bodyPost_ret (v := .agg #[.int .i64 1, .int .i64 0]) (by simp [results, Tryd.results20, go_sem, *]) rfl ⟨_, _, rfl, (HC.out.belowB hlt hb9).less (by omega), grown_belowB HG.out hb9⟩
  by_cases e1 : r = 1
  · subst e1
    go_wp2
    have hb9 : Below w.heap.size w1 ((w1.setCell ⟨w.heap.size, 0, none⟩ (.int .i64 (-1000000))).setCell ⟨w.heap.size, 1, none⟩ (.int .i64 1000000)) := below_two _ _ _ _
    exact bodyPost_ret (v := .agg #[.int .i64 (-1000000), .int .i64 1000000]) (by simp [results, Tryd.results20, go_sem, *]) rfl ⟨_, _, rfl, (HC.out.belowB hlt hb9).less (by omega), grown_belowB HG.out hb9⟩
  by_cases e2 : r = 2
  · subst e2
    go_wp2_with fail
    refine (pick_any 9 cb n cap (bud + 3) a _ (by omega) HC.out).mono ?_
    rintro e w2 ⟨q, rfl, q0, q1, hC', hG'⟩
    have HC := mkHid hC'
    have HX := mkHid (HX.out.grown hG' hne)
    have HG := mkHid (grown_trans HG.out hG')
    clear hC' hG'
    obtain ⟨p0, p1, p2, p3⟩ := HX.out
    have q2 : q ≤ 9 := by omega
    go_wp2
    have hb9 : Below w.heap.size w2 ((w2.setCell ⟨w.heap.size, 0, none⟩ (.int .i64 (q - 3))).setCell ⟨w.heap.size, 1, none⟩ (.int .i64 (q - 3))) := below_two _ _ _ _
    exact bodyPost_ret (v := .agg #[.int .i64 (q - 3), .int .i64 (q - 3)]) (by simp [results, Tryd.results20, go_sem, *]) rfl ⟨_, _, rfl, (HC.out.belowB hlt hb9).less (by omega), grown_belowB HG.out hb9⟩
  by_cases e3 : r = 3
  · subst e3
    go_wp2_with fail
    refine (number_any cb n cap (bud + 2) a _ HC.out).mono ?_
    rintro e w2 ⟨q, rfl, q0, q1, hC', hG'⟩
    have HC := mkHid hC'
    have HX := mkHid (HX.out.grown hG' hne)
    have HG := mkHid (grown_trans HG.out hG')
    clear hC' hG'
    obtain ⟨p0, p1, p2, p3⟩ := HX.out
    go_wp2_with fail
    refine (number_any cb n cap bud a _ HC.out).mono ?_
    rintro e w3 ⟨s, rfl, s0, s1, hC', hG'⟩
    have HC := mkHid hC'
    have HX := mkHid (HX.out.grown hG' hne)
    have HG := mkHid (grown_trans HG.out hG')
    clear hC' hG'
    obtain ⟨p0, p1, p2, p3⟩ := HX.out
    go_wp2
    have hb9 : Below w.heap.size w3 ((w3.setCell ⟨w.heap.size, 0, none⟩ (.int .i64 q)).setCell ⟨w.heap.size, 1, none⟩ (.int .i64 s)) := below_two _ _ _ _
    exact bodyPost_ret (v := .agg #[.int .i64 q, .int .i64 s]) (by simp [results, Tryd.results20, go_sem, *]) rfl ⟨_, _, rfl, (HC.out.belowB hlt hb9).less (by omega), grown_belowB HG.out hb9⟩
  go_wp2_with fail
  refine (number_any cb n cap (bud + 2) a _ HC.out).mono ?_
  rintro e w2 ⟨q, rfl, q0, q1, hC', hG'⟩
  have HC := mkHid hC'
  have HX := mkHid (HX.out.grown hG' hne)
  have HG := mkHid (grown_trans HG.out hG')
  clear hC' hG'
  obtain ⟨p0, p1, p2, p3⟩ := HX.out
  cases hv : valB q
  · go_wp2_with (first | (go_at_call 37; refine (sVal_any _ _).mono ?_; rintro e w' ⟨rfl, rfl⟩))
    refine (pick_any 20 cb n cap (bud + 1) a _ (by omega) HC.out).mono ?_
    rintro e w3 ⟨s, rfl, s0, s1, hC', hG'⟩
    have HC := mkHid hC'
    have HX := mkHid (HX.out.grown hG' hne)
    have HG := mkHid (grown_trans HG.out hG')
    clear hC' hG'
    obtain ⟨p0, p1, p2, p3⟩ := HX.out
    have s2 : s ≤ 20 := by omega
    go_wp2_with fail
    refine (sMake_any 0 s _).mono ?_
    rintro e w4 ⟨rfl, hb⟩
    have HC := mkHid (HC.out.below hb)
    have HX := mkHid (HX.out.below hb)
    have HG := mkHid (grown_trans HG.out (grown_of_below hb (some cb)))
    clear hb
    obtain ⟨p0, p1, p2, p3⟩ := HX.out
    go_wp2
    have hb9 : Below w.heap.size w4 ((w4.setCell ⟨w.heap.size, 0, none⟩ (.int .i64 (mkM 0 s).1)).setCell ⟨w.heap.size, 1, none⟩ (.int .i64 (mkM 0 s).2)) := below_two _ _ _ _
    exact bodyPost_ret (v := .agg #[.int .i64 (mkM 0 s).1, .int .i64 (mkM 0 s).2]) (by simp [results, Tryd.results20, go_sem, *]) rfl ⟨_, _, rfl, (HC.out.belowB hlt hb9).less (by omega), grown_belowB HG.out hb9⟩
  · have q4 : -1000000 ≤ q ∧ q ≤ 1000000 := by unfold valB at hv; simpa using hv
    obtain ⟨q5, q6⟩ := q4
    go_wp2_with (first | (go_at_call 37; refine (sVal_any _ _).mono ?_; rintro e w' ⟨rfl, rfl⟩))
    refine (pick_any 20 cb n cap (bud + 1) a _ (by omega) HC.out).mono ?_
    rintro e w3 ⟨s, rfl, s0, s1, hC', hG'⟩
    have HC := mkHid hC'
    have HX := mkHid (HX.out.grown hG' hne)
    have HG := mkHid (grown_trans HG.out hG')
    clear hC' hG'
    obtain ⟨p0, p1, p2, p3⟩ := HX.out
    have s2 : s ≤ 20 := by omega
    go_wp2_with fail
    refine (sMake_any q (q + s) _).mono ?_
    rintro e w4 ⟨rfl, hb⟩
    have HC := mkHid (HC.out.below hb)
    have HX := mkHid (HX.out.below hb)
    have HG := mkHid (grown_trans HG.out (grown_of_below hb (some cb)))
    clear hb
    obtain ⟨p0, p1, p2, p3⟩ := HX.out
    go_wp2
    have hb9 : Below w.heap.size w4 ((w4.setCell ⟨w.heap.size, 0, none⟩ (.int .i64 (mkM q (q + s)).1)).setCell ⟨w.heap.size, 1, none⟩ (.int .i64 (mkM q (q + s)).2)) := below_two _ _ _ _
    exact bodyPost_ret (v := .agg #[.int .i64 (mkM q (q + s)).1, .int .i64 (mkM q (q + s)).2]) (by simp [results, Tryd.results20, go_sem, *]) rfl ⟨_, _, rfl, (HC.out.belowB hlt hb9).less (by omega), grown_belowB HG.out hb9⟩
end Go.Proofs.YtgkmpadeleebdaaDoor.Q
