/-
  FnExactFactsBound holds at every argument: the program's function answers as the specification's, writes into no argument, and its answer owns its memory. No conditions.
-/
import Derived.Test.YtmaejdomlggopaaBs
import Derived.Test.YtmaejdomlggopaaLo
import Derived.Test.YtmaejdomlggopaaInv
import Derived.Deep.RegionHeld3
namespace Go.Proofs.Ytmaejdomlggopaa
open Go.ChangeShapes Go.WideShapes Go.ChangeAt Go.RowKit Go.Joins

set_option maxRecDepth 100000 in
set_option maxHeartbeats 6400000 in
theorem law_walk (z0 : Int) (l0 : List Int) (a0 : Option Addr) (c0 : Nat) (x1 : Int) (s2 t2 : Int) (w : World) (hn0 : l0.length ≤ maxLen) (hl0 : IntsAt w a0 l0) : Calls Try.prog 6 #[.agg #[.int .i64 z0, .slice a0 l0.length c0], .int .i64 x1, .agg #[.int .i64 s2, .int .i64 t2]] w fun e w' => e = .returned (.bool true) ∧ Below w.heap.size w w' := by
  have HN0 := mkHid hn0
  have HL0 := mkHid hl0
  have B_0 : Hid (Below w.heap.size w ((w.alloc (.cells #[.int .i64 z0, .slice a0 l0.length c0] 24)).alloc (.cells #[.int .i64 s2, .int .i64 t2] 38))) := mkHid ((((Below.refl w.heap.size w).alloc (Nat.le_refl _) (.cells #[.int .i64 z0, .slice a0 l0.length c0] 24)).alloc (by simp) (.cells #[.int .i64 s2, .int .i64 t2] 38)))
  have A0_0 : Hid (Fc ((w.alloc (.cells #[.int .i64 z0, .slice a0 l0.length c0] 24)).alloc (.cells #[.int .i64 s2, .int .i64 t2] 38)) (w.heap.size) z0 a0 l0.length c0) := mkHid (by have := (Fc.new w z0 a0 l0.length c0 24).below ((Below.refl _ _).alloc (Nat.le_refl _) (.cells #[.int .i64 s2, .int .i64 t2] 38)); simpa using this)
  have A2_0 : Hid (Box ((w.alloc (.cells #[.int .i64 z0, .slice a0 l0.length c0] 24)).alloc (.cells #[.int .i64 s2, .int .i64 t2] 38)) (w.heap.size + 1) s2 t2) := mkHid (by have := Box.new' (w.alloc (.cells #[.int .i64 z0, .slice a0 l0.length c0] 24)) s2 t2 38; simpa using this)
  obtain ⟨rz, hrz⟩ : ∃ rz, outZ (bndF z0 l0 x1 s2 t2) z0.toNat = rz := ⟨_, rfl⟩
  obtain ⟨rl, hrl⟩ : ∃ rl, outL (bndF z0 l0 x1 s2 t2) z0.toNat = rl := ⟨_, rfl⟩
  have hlen : rl.length ≤ 169 := by rw [← hrl]; exact outL_len ((bndF_fine z0 l0 x1 s2 t2).good)
  have HM : Hid (rl.length ≤ maxLen) := mkHid (by unfold maxLen; omega)
  have HLE := mkHid hlen
  have HS : Hid (∀ (a0 : Option Addr) (v : World), IntsAt v a0 l0 → Calls Try.prog 27 #[.agg #[.int .i64 z0, .slice a0 l0.length l0.length], .int .i64 x1, .agg #[.int .i64 s2, .int .i64 t2]] v fun e w' => Gives v w' e rz rl) := mkHid fun a0 v h0 => by rw [← hrz, ← hrl]; exact sBound_any z0 l0 a0 _ x1 s2 t2 v h0
  have HI : Hid (∀ (a0 : Option Addr) (v : World), IntsAt v a0 l0 → Calls Try.prog 29 #[.agg #[.int .i64 z0, .slice a0 l0.length l0.length], .int .i64 x1, .agg #[.int .i64 s2, .int .i64 t2]] v fun e w' => Gives v w' e rz rl) := mkHid fun a0 v h0 => by rw [← hrz, ← hrl]; exact iBound_any z0 l0 a0 _ x1 s2 t2 v (Nat.le_refl _) h0
  clear hn0 hl0 hrz hrl hlen
  go_enter Try.func6, Try.ntmps6
  obtain ⟨p0, p1⟩ := A0_0.out
  go_wp2_with fail
  refine (szFacts_any z0 a0 l0.length c0 1048576 _ HN0.out (by omega) (by omega)).mono ?_
  rintro e w1 ⟨rfl, hb⟩
  have B_1 := mkHid (below_step B_0.out hb)
  have A0_1 := mkHid (A0_0.out.below hb)
  have A2_1 := mkHid (A2_0.out.below hb)
  clear hb p0 p1 B_0 A0_0 A2_0
  obtain ⟨rs0, hr⟩ : ∃ r, szR 1048576 l0.length = r := ⟨_, rfl⟩
  have HQ0 : Hid (¬ rs0 < 0 → l0.length ≤ 1048576 ∧ 0 ≤ rs0 ∧ rs0 ≤ 1048576) := mkHid fun h => by unfold szR at hr; split at hr <;> omega
  rw [hr]
  clear hr
  by_cases hneg0 : rs0 < 0
  · go_wp2
    go_ret
    exact ⟨rfl, B_1.out⟩
  obtain ⟨hz0a, hz0b, hz0c⟩ := HQ0.out hneg0
  have HZZ0 := mkHid hz0a
  clear HQ0
  have hpl0 : w.heap.size + 1 < w1.heap.size := A2_1.out.lt
  go_wp2_with fail
  refine wp_region_inv2 (fun ac0 L a vs => ∃ (b0 b1 b2 b3 b4 b5 b6 b7 : Bool) (s20 s21 s22 s23 s24 s25 s8 : Value) (gs1 : Nat) (sa : Option Addr) (sc : Nat) (X : Nat), L = #[b0, b1, b2, b3, b4, b5, b6, b7] ∧ a = puts ac0 [(20, s20), (21, s21), (22, s22), (23, s23), (24, s24), (25, s25), (8, s8)] ∧ (b0 = true → s20 = .agg #[.int .i64 z0, .slice a0 l0.length c0]) ∧ (b1 = true → s21 = .agg #[.int .i64 z0, .slice (some ⟨gs1, 0, none⟩) l0.length l0.length]) ∧ (b2 = true → s22 = .int .i64 x1) ∧ (b3 = true → s23 = .agg #[.int .i64 s2, .int .i64 t2]) ∧ (b4 = true → s24 = .agg #[.int .i64 s2, .int .i64 t2]) ∧ (b5 = true → s25 = .agg #[.int .i64 rz, .slice sa rl.length sc]) ∧ (b6 = true → s8 = .pointer (some ⟨X, 0, none⟩)) ∧ Cal w1 b5 b6 b7 X sa sc rz rl vs ∧ (b1 = true → b5 = false → IntsAt vs (some ⟨gs1, 0, none⟩) l0)) (by kernel_rfl) ?_ ?_ ?_
  · exact ⟨false, false, false, false, false, false, false, false, undef, undef, undef, undef, undef, undef, undef, 0, none, 0, 0, rfl, by simp only [puts, Act.put, List.setIfInBounds_toArray, List.set_cons_zero, List.set_cons_succ], fun e => (by cases e), fun e => (by cases e), fun e => (by cases e), fun e => (by cases e), fun e => (by cases e), fun e => (by cases e), fun e => (by cases e), ⟨Cal.start (Below.refl _ _).drew, fun e => (by cases e)⟩⟩
  · refine StepsI.cons rfl ?_ ?_
    · rintro L a vs ⟨b0, b1, b2, b3, b4, b5, b6, b7, s20, s21, s22, s23, s24, s25, s8, gs1, sa, sc, X, rfl, rfl, h0, h1, h2, h3, h4, h5, h6, hW⟩ hL hm K hK
      obtain rfl : b0 = false := by simpa using hL
      simp only [puts, Act.put, List.setIfInBounds_toArray, List.set_cons_zero, List.set_cons_succ]
      obtain ⟨hC, k1⟩ := hW
      obtain ⟨q0, q1⟩ := A0_1.out.below hC.bel
      go_simp
      exact hK.out _ _ ⟨true, b1, b2, b3, b4, b5, b6, b7, .agg #[.int .i64 z0, .slice a0 l0.length c0], s21, s22, s23, s24, s25, s8, gs1, sa, sc, X, rfl, by simp only [puts, Act.put, List.setIfInBounds_toArray, List.set_cons_zero, List.set_cons_succ], fun _ => rfl, h1, h2, h3, h4, h5, h6, ⟨hC, k1⟩⟩
    refine StepsI.cons rfl ?_ ?_
    · rintro L a vs ⟨b0, b1, b2, b3, b4, b5, b6, b7, s20, s21, s22, s23, s24, s25, s8, gs1, sa, sc, X, rfl, rfl, h0, h1, h2, h3, h4, h5, h6, hW⟩ hL hm K hK
      obtain rfl : b1 = false := by simpa using hL
      obtain rfl : b0 = true := by cases b0 with | false => (exfalso; revert hm; simp [metB, Region.binds]) | true => rfl
      obtain rfl := h0 rfl
      simp only [puts, Act.put, List.setIfInBounds_toArray, List.set_cons_zero, List.set_cons_succ]
      obtain ⟨hC, k1⟩ := hW
      go_simp
      refine (toFacts_any z0 l0 a0 c0 _ HZZ0.out (HL0.out.below (below_step B_1.out hC.bel))).mono ?_
      rintro e v2 ⟨gn, rfl, ho, hb⟩
      go_wp2_with fail
      exact hK.out _ _ ⟨true, true, b2, b3, b4, b5, b6, b7, .agg #[.int .i64 z0, .slice a0 l0.length c0], .agg #[.int .i64 z0, .slice (some ⟨gn, 0, none⟩) l0.length l0.length], s22, s23, s24, s25, s8, gn, sa, sc, X, rfl, by simp only [puts, Act.put, List.setIfInBounds_toArray, List.set_cons_zero, List.set_cons_succ], fun _ => rfl, fun _ => rfl, h2, h3, h4, h5, h6, ⟨hC.below hb, fun _ _ => ho.at⟩⟩
    refine StepsI.cons rfl ?_ ?_
    · rintro L a vs ⟨b0, b1, b2, b3, b4, b5, b6, b7, s20, s21, s22, s23, s24, s25, s8, gs1, sa, sc, X, rfl, rfl, h0, h1, h2, h3, h4, h5, h6, hW⟩ hL hm K hK
      obtain rfl : b2 = false := by simpa using hL
      simp only [puts, Act.put, List.setIfInBounds_toArray, List.set_cons_zero, List.set_cons_succ]
      obtain ⟨hC, k1⟩ := hW
      go_simp
      exact hK.out _ _ ⟨b0, b1, true, b3, b4, b5, b6, b7, s20, s21, .int .i64 x1, s23, s24, s25, s8, gs1, sa, sc, X, rfl, by simp only [puts, Act.put, List.setIfInBounds_toArray, List.set_cons_zero, List.set_cons_succ], h0, h1, fun _ => rfl, h3, h4, h5, h6, ⟨hC, k1⟩⟩
    refine StepsI.cons rfl ?_ ?_
    · rintro L a vs ⟨b0, b1, b2, b3, b4, b5, b6, b7, s20, s21, s22, s23, s24, s25, s8, gs1, sa, sc, X, rfl, rfl, h0, h1, h2, h3, h4, h5, h6, hW⟩ hL hm K hK
      obtain rfl : b3 = false := by simpa using hL
      simp only [puts, Act.put, List.setIfInBounds_toArray, List.set_cons_zero, List.set_cons_succ]
      obtain ⟨hC, k1⟩ := hW
      obtain ⟨q0, q1, q2, q3⟩ := A2_1.out.below hC.bel
      go_simp
      exact hK.out _ _ ⟨b0, b1, b2, true, b4, b5, b6, b7, s20, s21, s22, .agg #[.int .i64 s2, .int .i64 t2], s24, s25, s8, gs1, sa, sc, X, rfl, by simp only [puts, Act.put, List.setIfInBounds_toArray, List.set_cons_zero, List.set_cons_succ], h0, h1, h2, fun _ => rfl, h4, h5, h6, ⟨hC, k1⟩⟩
    refine StepsI.cons rfl ?_ ?_
    · rintro L a vs ⟨b0, b1, b2, b3, b4, b5, b6, b7, s20, s21, s22, s23, s24, s25, s8, gs1, sa, sc, X, rfl, rfl, h0, h1, h2, h3, h4, h5, h6, hW⟩ hL hm K hK
      obtain rfl : b4 = false := by simpa using hL
      obtain rfl : b3 = true := by cases b3 with | false => (exfalso; revert hm; simp [metB, Region.binds]) | true => rfl
      obtain rfl := h3 rfl
      simp only [puts, Act.put, List.setIfInBounds_toArray, List.set_cons_zero, List.set_cons_succ]
      obtain ⟨hC, k1⟩ := hW
      go_simp
      refine (toRange_any s2 t2 _).mono ?_
      rintro e v2 ⟨rfl, hb⟩
      go_wp2_with fail
      exact hK.out _ _ ⟨b0, b1, b2, true, true, b5, b6, b7, s20, s21, s22, .agg #[.int .i64 s2, .int .i64 t2], .agg #[.int .i64 s2, .int .i64 t2], s25, s8, gs1, sa, sc, X, rfl, by simp only [puts, Act.put, List.setIfInBounds_toArray, List.set_cons_zero, List.set_cons_succ], h0, h1, h2, fun _ => rfl, fun _ => rfl, h5, h6, ⟨hC.below hb, fun e e2 => (k1 e e2).below hb⟩⟩
    refine StepsI.cons rfl ?_ ?_
    · rintro L a vs ⟨b0, b1, b2, b3, b4, b5, b6, b7, s20, s21, s22, s23, s24, s25, s8, gs1, sa, sc, X, rfl, rfl, h0, h1, h2, h3, h4, h5, h6, hW⟩ hL hm K hK
      obtain rfl : b5 = false := by simpa using hL
      obtain rfl : b1 = true := by cases b1 with | false => (exfalso; revert hm; simp [metB, Region.binds]) | true => rfl
      obtain rfl : b2 = true := by cases b2 with | false => (exfalso; revert hm; simp [metB, Region.binds]) | true => rfl
      obtain rfl : b4 = true := by cases b4 with | false => (exfalso; revert hm; simp [metB, Region.binds]) | true => rfl
      obtain rfl := h1 rfl
      obtain rfl := h2 rfl
      obtain rfl := h4 rfl
      simp only [puts, Act.put, List.setIfInBounds_toArray, List.set_cons_zero, List.set_cons_succ]
      obtain ⟨hC, k1⟩ := hW
      go_simp
      refine (HS.out _ _ (k1 rfl rfl)).mono ?_
      rintro e v2 ⟨sa2, sc2, rfl, so, hb⟩
      go_wp2_with fail
      exact hK.out _ _ ⟨b0, true, true, b3, true, true, b6, b7, s20, .agg #[.int .i64 z0, .slice (some ⟨gs1, 0, none⟩) l0.length l0.length], .int .i64 x1, s23, .agg #[.int .i64 s2, .int .i64 t2], .agg #[.int .i64 rz, .slice sa2 rl.length sc2], s8, gs1, sa2, sc2, X, rfl, by simp only [puts, Act.put, List.setIfInBounds_toArray, List.set_cons_zero, List.set_cons_succ], h0, fun _ => rfl, fun _ => rfl, h3, fun _ => rfl, fun _ => rfl, h6, ⟨hC.called so hb, fun _ e => (by cases e)⟩⟩
    refine StepsI.cons rfl ?_ ?_
    · rintro L a vs ⟨b0, b1, b2, b3, b4, b5, b6, b7, s20, s21, s22, s23, s24, s25, s8, gs1, sa, sc, X, rfl, rfl, h0, h1, h2, h3, h4, h5, h6, hW⟩ hL hm K hK
      obtain rfl : b6 = false := by simpa using hL
      simp only [puts, Act.put, List.setIfInBounds_toArray, List.set_cons_zero, List.set_cons_succ]
      obtain ⟨hC, k1⟩ := hW
      go_simp
      exact hK.out _ _ ⟨b0, b1, b2, b3, b4, b5, true, b7, s20, s21, s22, s23, s24, s25, .pointer (some ⟨vs.heap.size, 0, none⟩), gs1, sa, sc, vs.heap.size, rfl, by simp only [puts, Act.put, List.setIfInBounds_toArray, List.set_cons_zero, List.set_cons_succ], h0, h1, h2, h3, h4, h5, fun _ => rfl, ⟨hC.alloc, fun e e2 => (k1 e e2).below ((Below.refl _ _).alloc (Nat.le_refl _) _)⟩⟩
    refine StepsI.cons rfl ?_ ?_
    · rintro L a vs ⟨b0, b1, b2, b3, b4, b5, b6, b7, s20, s21, s22, s23, s24, s25, s8, gs1, sa, sc, X, rfl, rfl, h0, h1, h2, h3, h4, h5, h6, hW⟩ hL hm K hK
      obtain rfl : b7 = false := by simpa using hL
      obtain rfl : b5 = true := by cases b5 with | false => (exfalso; revert hm; simp [metB, Region.binds]) | true => rfl
      obtain rfl : b6 = true := by cases b6 with | false => (exfalso; revert hm; simp [metB, Region.binds]) | true => rfl
      obtain rfl := h5 rfl
      obtain rfl := h6 rfl
      simp only [puts, Act.put, List.setIfInBounds_toArray, List.set_cons_zero, List.set_cons_succ]
      obtain ⟨hC, k1⟩ := hW
      obtain ⟨⟨y0, y1⟩, y2, y3⟩ := (hC.box rfl).2.1 rfl
      go_simp
      exact hK.out _ _ ⟨b0, b1, b2, b3, b4, true, true, true, s20, s21, s22, s23, s24, .agg #[.int .i64 rz, .slice sa rl.length sc], .pointer (some ⟨X, 0, none⟩), gs1, sa, sc, X, rfl, by simp only [puts, Act.put, List.setIfInBounds_toArray, List.set_cons_zero, List.set_cons_succ], h0, h1, h2, h3, h4, fun _ => rfl, fun _ => rfl, ⟨hC.store, fun _ e => (by cases e)⟩⟩
    exact StepsI.nil (by kernel_rfl)
  · rintro L a vs ⟨b0, b1, b2, b3, b4, b5, b6, b7, s20, s21, s22, s23, s24, s25, s8, gs1, sa, sc, X, rfl, rfl, h0, h1, h2, h3, h4, h5, h6, hW⟩ hr
    have hu := all_up (by kernel_rfl) (N := 8) (by kernel_rfl) hr
    obtain rfl : b0 = true := by simpa using hu 0 (by decide)
    obtain rfl : b1 = true := by simpa using hu 1 (by decide)
    obtain rfl : b2 = true := by simpa using hu 2 (by decide)
    obtain rfl : b3 = true := by simpa using hu 3 (by decide)
    obtain rfl : b4 = true := by simpa using hu 4 (by decide)
    obtain rfl : b5 = true := by simpa using hu 5 (by decide)
    obtain rfl : b6 = true := by simpa using hu 6 (by decide)
    obtain rfl : b7 = true := by simpa using hu 7 (by decide)
    obtain rfl := h0 rfl
    obtain rfl := h1 rfl
    obtain rfl := h2 rfl
    obtain rfl := h3 rfl
    obtain rfl := h4 rfl
    obtain rfl := h5 rfl
    obtain rfl := h6 rfl
    clear hu hr
    simp only [puts, Act.put, List.setIfInBounds_toArray, List.set_cons_zero, List.set_cons_succ]
    obtain ⟨hC, k1⟩ := hW
    skip
    obtain ⟨hbel, hX0, hXf, so, hXn⟩ := hC.all
    clear hC k1
    obtain ⟨bz, hbz⟩ : ∃ bz, vs.heap.size = bz := ⟨_, rfl⟩
    skip
    have hwz : X < bz := by have := hXf.lt; omega
    have hw1 : w.heap.size + 1 < X := by omega
    have SL : Hid (∀ q, Value.ownBlock (.slice sa rl.length sc) = some q → w.heap.size + 1 < q ∧ q < bz) := mkHid fun q hq => by have h1 := so.lt hq; omega
    have B_2 := mkHid (below_step B_1.out hbel)
    have A0_2 := mkHid (A0_1.out.below hbel)
    have A2_2 := mkHid (A2_1.out.below hbel)
    clear hbel hX0 hpl0 B_1 A0_1 A2_1
    have W_2 := mkHid (hXf)
    have S_2 := mkHid (so)
    clear hXf so hXn
    obtain ⟨p0, p1⟩ := A0_2.out
    skip
    go_wp2_with fail
    refine (toFacts_any z0 l0 a0 c0 _ HZZ0.out (HL0.out.below B_2.out)).mono ?_
    rintro e w2 ⟨cp0, rfl, ho, hb⟩
    obtain ⟨bx0, hbx0⟩ : ∃ b, w2.heap.size = b := ⟨_, rfl⟩
    have hx0 : bz ≤ cp0 ∧ cp0 < bx0 := by have h1 := ho.base_le; have h2 := ho.lt (q := cp0) rfl; omega
    have AL := (Below.refl w2.heap.size w2).alloc (Nat.le_refl _) (.cells #[.int .i64 z0, .slice (some ⟨cp0, 0, none⟩) l0.length l0.length] 27)
    have B_3 := mkHid ((below_step B_2.out hb).alloc (below_step B_2.out hb).size (.cells #[.int .i64 z0, .slice (some ⟨cp0, 0, none⟩) l0.length l0.length] 27))
    have A0_3 := mkHid ((A0_2.out.below hb).below AL)
    have A2_3 := mkHid ((A2_2.out.below hb).below AL)
    have W_3 := mkHid ((W_2.out.below hb).below AL)
    have S_3 := mkHid ((S_2.out.below hb).below AL)
    clear hb p0 p1 hbz B_2 A0_2 A2_2 W_2 S_2
    have X0_3 := mkHid (Fc.new w2 z0 (some ⟨cp0, 0, none⟩) l0.length l0.length 27)
    rw [hbx0] at X0_3
    have O0_3 := mkHid (ho.below AL)
    clear ho AL
    obtain ⟨wb, hwb⟩ : ∃ wb, w2.alloc (.cells #[.int .i64 z0, .slice (some ⟨cp0, 0, none⟩) l0.length l0.length] 27) = wb := ⟨_, rfl⟩
    have hsz : bx0 + 1 ≤ wb.heap.size := by rw [← hwb]; simp; omega
    rw [hwb] at B_3 A0_3 A2_3 W_3 S_3 X0_3 O0_3
    have HWB := mkHid hwb
    clear hwb
    go_wp2_with fail
    rw [HWB.out]
    clear HWB
    refine wp_region_inv2 (fun ac0 L a vi => ∃ (b0 b1 b2 b3 b4 b5 b6 : Bool) (s28 s29 s30 s31 s32 s10 : Value) (sai : Option Addr) (sci : Nat) (Xi : Nat), L = #[b0, b1, b2, b3, b4, b5, b6] ∧ a = puts ac0 [(28, s28), (29, s29), (30, s30), (31, s31), (32, s32), (10, s10)] ∧ (b0 = true → s28 = .agg #[.int .i64 z0, .slice (some ⟨cp0, 0, none⟩) l0.length l0.length]) ∧ (b1 = true → s29 = .int .i64 x1) ∧ (b2 = true → s30 = .agg #[.int .i64 s2, .int .i64 t2]) ∧ (b3 = true → s31 = .agg #[.int .i64 s2, .int .i64 t2]) ∧ (b4 = true → s32 = .agg #[.int .i64 rz, .slice sai rl.length sci]) ∧ (b5 = true → s10 = .pointer (some ⟨Xi, 0, none⟩)) ∧ Cal wb b4 b5 b6 Xi sai sci rz rl vi) (by kernel_rfl) ?_ ?_ ?_
    · exact ⟨false, false, false, false, false, false, false, undef, undef, undef, undef, undef, undef, none, 0, 0, rfl, by simp only [puts, Act.put, List.setIfInBounds_toArray, List.set_cons_zero, List.set_cons_succ], fun e => (by cases e), fun e => (by cases e), fun e => (by cases e), fun e => (by cases e), fun e => (by cases e), fun e => (by cases e), Cal.start (Below.refl _ _).drew⟩
    · refine StepsI.cons rfl ?_ ?_
      · rintro L a vi ⟨b0, b1, b2, b3, b4, b5, b6, s28, s29, s30, s31, s32, s10, sai, sci, Xi, rfl, rfl, h0, h1, h2, h3, h4, h5, hW⟩ hL hm K hK
        obtain rfl : b0 = false := by simpa using hL
        simp only [puts, Act.put, List.setIfInBounds_toArray, List.set_cons_zero, List.set_cons_succ]
        have hC := hW
        obtain ⟨q0, q1⟩ := X0_3.out.below hC.bel
        go_simp
        exact hK.out _ _ ⟨true, b1, b2, b3, b4, b5, b6, .agg #[.int .i64 z0, .slice (some ⟨cp0, 0, none⟩) l0.length l0.length], s29, s30, s31, s32, s10, sai, sci, Xi, rfl, by simp only [puts, Act.put, List.setIfInBounds_toArray, List.set_cons_zero, List.set_cons_succ], fun _ => rfl, h1, h2, h3, h4, h5, hC⟩
      refine StepsI.cons rfl ?_ ?_
      · rintro L a vi ⟨b0, b1, b2, b3, b4, b5, b6, s28, s29, s30, s31, s32, s10, sai, sci, Xi, rfl, rfl, h0, h1, h2, h3, h4, h5, hW⟩ hL hm K hK
        obtain rfl : b1 = false := by simpa using hL
        simp only [puts, Act.put, List.setIfInBounds_toArray, List.set_cons_zero, List.set_cons_succ]
        have hC := hW
        go_simp
        exact hK.out _ _ ⟨b0, true, b2, b3, b4, b5, b6, s28, .int .i64 x1, s30, s31, s32, s10, sai, sci, Xi, rfl, by simp only [puts, Act.put, List.setIfInBounds_toArray, List.set_cons_zero, List.set_cons_succ], h0, fun _ => rfl, h2, h3, h4, h5, hC⟩
      refine StepsI.cons rfl ?_ ?_
      · rintro L a vi ⟨b0, b1, b2, b3, b4, b5, b6, s28, s29, s30, s31, s32, s10, sai, sci, Xi, rfl, rfl, h0, h1, h2, h3, h4, h5, hW⟩ hL hm K hK
        obtain rfl : b2 = false := by simpa using hL
        simp only [puts, Act.put, List.setIfInBounds_toArray, List.set_cons_zero, List.set_cons_succ]
        have hC := hW
        obtain ⟨q0, q1, q2, q3⟩ := A2_3.out.below hC.bel
        go_simp
        exact hK.out _ _ ⟨b0, b1, true, b3, b4, b5, b6, s28, s29, .agg #[.int .i64 s2, .int .i64 t2], s31, s32, s10, sai, sci, Xi, rfl, by simp only [puts, Act.put, List.setIfInBounds_toArray, List.set_cons_zero, List.set_cons_succ], h0, h1, fun _ => rfl, h3, h4, h5, hC⟩
      refine StepsI.cons rfl ?_ ?_
      · rintro L a vi ⟨b0, b1, b2, b3, b4, b5, b6, s28, s29, s30, s31, s32, s10, sai, sci, Xi, rfl, rfl, h0, h1, h2, h3, h4, h5, hW⟩ hL hm K hK
        obtain rfl : b3 = false := by simpa using hL
        obtain rfl : b2 = true := by cases b2 with | false => (exfalso; revert hm; simp [metB, Region.binds]) | true => rfl
        obtain rfl := h2 rfl
        simp only [puts, Act.put, List.setIfInBounds_toArray, List.set_cons_zero, List.set_cons_succ]
        have hC := hW
        go_simp
        refine (toRange_any s2 t2 _).mono ?_
        rintro e v2 ⟨rfl, hb⟩
        go_wp2_with fail
        exact hK.out _ _ ⟨b0, b1, true, true, b4, b5, b6, s28, s29, .agg #[.int .i64 s2, .int .i64 t2], .agg #[.int .i64 s2, .int .i64 t2], s32, s10, sai, sci, Xi, rfl, by simp only [puts, Act.put, List.setIfInBounds_toArray, List.set_cons_zero, List.set_cons_succ], h0, h1, fun _ => rfl, fun _ => rfl, h4, h5, hC.below hb⟩
      refine StepsI.cons rfl ?_ ?_
      · rintro L a vi ⟨b0, b1, b2, b3, b4, b5, b6, s28, s29, s30, s31, s32, s10, sai, sci, Xi, rfl, rfl, h0, h1, h2, h3, h4, h5, hW⟩ hL hm K hK
        obtain rfl : b4 = false := by simpa using hL
        obtain rfl : b0 = true := by cases b0 with | false => (exfalso; revert hm; simp [metB, Region.binds]) | true => rfl
        obtain rfl : b1 = true := by cases b1 with | false => (exfalso; revert hm; simp [metB, Region.binds]) | true => rfl
        obtain rfl : b3 = true := by cases b3 with | false => (exfalso; revert hm; simp [metB, Region.binds]) | true => rfl
        obtain rfl := h0 rfl
        obtain rfl := h1 rfl
        obtain rfl := h3 rfl
        simp only [puts, Act.put, List.setIfInBounds_toArray, List.set_cons_zero, List.set_cons_succ]
        have hC := hW
        go_simp
        refine (HI.out _ _ (O0_3.out.below hC.bel).at).mono ?_
        rintro e v2 ⟨sa2, sc2, rfl, so, hb⟩
        go_wp2_with fail
        exact hK.out _ _ ⟨true, true, b2, true, true, b5, b6, .agg #[.int .i64 z0, .slice (some ⟨cp0, 0, none⟩) l0.length l0.length], .int .i64 x1, s30, .agg #[.int .i64 s2, .int .i64 t2], .agg #[.int .i64 rz, .slice sa2 rl.length sc2], s10, sa2, sc2, Xi, rfl, by simp only [puts, Act.put, List.setIfInBounds_toArray, List.set_cons_zero, List.set_cons_succ], fun _ => rfl, fun _ => rfl, h2, fun _ => rfl, fun _ => rfl, h5, hC.called so hb⟩
      refine StepsI.cons rfl ?_ ?_
      · rintro L a vi ⟨b0, b1, b2, b3, b4, b5, b6, s28, s29, s30, s31, s32, s10, sai, sci, Xi, rfl, rfl, h0, h1, h2, h3, h4, h5, hW⟩ hL hm K hK
        obtain rfl : b5 = false := by simpa using hL
        simp only [puts, Act.put, List.setIfInBounds_toArray, List.set_cons_zero, List.set_cons_succ]
        have hC := hW
        go_simp
        exact hK.out _ _ ⟨b0, b1, b2, b3, b4, true, b6, s28, s29, s30, s31, s32, .pointer (some ⟨vi.heap.size, 0, none⟩), sai, sci, vi.heap.size, rfl, by simp only [puts, Act.put, List.setIfInBounds_toArray, List.set_cons_zero, List.set_cons_succ], h0, h1, h2, h3, h4, fun _ => rfl, hC.alloc⟩
      refine StepsI.cons rfl ?_ ?_
      · rintro L a vi ⟨b0, b1, b2, b3, b4, b5, b6, s28, s29, s30, s31, s32, s10, sai, sci, Xi, rfl, rfl, h0, h1, h2, h3, h4, h5, hW⟩ hL hm K hK
        obtain rfl : b6 = false := by simpa using hL
        obtain rfl : b4 = true := by cases b4 with | false => (exfalso; revert hm; simp [metB, Region.binds]) | true => rfl
        obtain rfl : b5 = true := by cases b5 with | false => (exfalso; revert hm; simp [metB, Region.binds]) | true => rfl
        obtain rfl := h4 rfl
        obtain rfl := h5 rfl
        simp only [puts, Act.put, List.setIfInBounds_toArray, List.set_cons_zero, List.set_cons_succ]
        have hC := hW
        obtain ⟨⟨y0, y1⟩, y2, y3⟩ := (hC.box rfl).2.1 rfl
        go_simp
        exact hK.out _ _ ⟨b0, b1, b2, b3, true, true, true, s28, s29, s30, s31, .agg #[.int .i64 rz, .slice sai rl.length sci], .pointer (some ⟨Xi, 0, none⟩), sai, sci, Xi, rfl, by simp only [puts, Act.put, List.setIfInBounds_toArray, List.set_cons_zero, List.set_cons_succ], h0, h1, h2, h3, fun _ => rfl, fun _ => rfl, hC.store⟩
      exact StepsI.nil (by kernel_rfl)
    · rintro L a vi ⟨b0, b1, b2, b3, b4, b5, b6, s28, s29, s30, s31, s32, s10, sai, sci, Xi, rfl, rfl, h0, h1, h2, h3, h4, h5, hW⟩ hr
      have hu := all_up (by kernel_rfl) (N := 7) (by kernel_rfl) hr
      obtain rfl : b0 = true := by simpa using hu 0 (by decide)
      obtain rfl : b1 = true := by simpa using hu 1 (by decide)
      obtain rfl : b2 = true := by simpa using hu 2 (by decide)
      obtain rfl : b3 = true := by simpa using hu 3 (by decide)
      obtain rfl : b4 = true := by simpa using hu 4 (by decide)
      obtain rfl : b5 = true := by simpa using hu 5 (by decide)
      obtain rfl : b6 = true := by simpa using hu 6 (by decide)
      obtain rfl := h0 rfl
      obtain rfl := h1 rfl
      obtain rfl := h2 rfl
      obtain rfl := h3 rfl
      obtain rfl := h4 rfl
      obtain rfl := h5 rfl
      clear hu hr
      simp only [puts, Act.put, List.setIfInBounds_toArray, List.set_cons_zero, List.set_cons_succ]
      have hC := hW
      clear hW
      obtain ⟨hbel, hX0, hXf, so, hXn⟩ := hC.all
      clear hC 
      have GL : Hid (∀ q, Value.ownBlock (.slice sai rl.length sci) = some q → bx0 + 1 ≤ q ∧ q ≠ Xi) := mkHid fun q hq => ⟨by have h1 := so.lt hq; omega, fun e => hXn q hq e.symm⟩
      have s5 : bx0 + 1 ≤ Xi := by omega
      have B_4 := mkHid (below_step B_3.out hbel)
      have A0_4 := mkHid (A0_3.out.below hbel)
      have A2_4 := mkHid (A2_3.out.below hbel)
      have W_4 := mkHid (W_3.out.below hbel)
      have S_4 := mkHid (S_3.out.below hbel)
      have X0_4 := mkHid (X0_3.out.below hbel)
      have O0_4 := mkHid (O0_3.out.below hbel)
      clear hbel hX0 B_3 A0_3 A2_3 W_3 S_3 X0_3 O0_3
      have G_4 := mkHid (hXf)
      have Q_4 := mkHid (so)
      clear hXf so hXn
      clear hbx0
      obtain ⟨g0, g1⟩ := G_4.out
      obtain ⟨v0, v1⟩ := W_4.out
      go_wp2_with fail
      refine (eqFacts_ok rz rl sai sa sci sc _ HM.out Q_4.out.at S_4.out.at).mono ?_
      rintro e w3 ⟨rfl, hb⟩
      have B_5 := mkHid (below_step B_4.out hb)
      have A0_5 := mkHid (A0_4.out.below hb)
      have A2_5 := mkHid (A2_4.out.below hb)
      have W_5 := mkHid (W_4.out.below hb)
      have S_5 := mkHid (S_4.out.below hb)
      have X0_5 := mkHid (X0_4.out.below hb)
      have O0_5 := mkHid (O0_4.out.below hb)
      have G_5 := mkHid (G_4.out.below hb)
      have Q_5 := mkHid (Q_4.out.below hb)
      clear hb g0 g1 v0 v1 B_4 A0_4 A2_4 W_4 S_4 X0_4 O0_4 G_4 Q_4
      obtain ⟨p0, p1⟩ := A0_5.out
      obtain ⟨q0, q1⟩ := X0_5.out
      have hlx := A0_5.out.lt
      have hly := X0_5.out.lt
      go_wp2_with fail
      go_region_held3 (fun w' => w'.cell? ⟨w.heap.size, 0, none⟩ = some (.int .i64 z0) ∧ w'.cell? ⟨w.heap.size, 1, none⟩ = some (.slice a0 l0.length c0) ∧ w'.cell? ⟨bx0, 0, none⟩ = some (.int .i64 z0) ∧ w'.cell? ⟨bx0, 1, none⟩ = some (.slice (some ⟨cp0, 0, none⟩) l0.length l0.length))
        (first | exact ⟨p0, p1, q0, q1⟩ | exact ⟨(hc _ _ hlx).trans p0, (hc _ _ hlx).trans p1, (hc _ _ hly).trans q0, (hc _ _ hly).trans q1⟩)
        (first | (go_at_call 15; refine (toFacts_any z0 l0 a0 c0 _ HZZ0.out (HL0.out.below B_5.out.drew)).mono ?_; rintro e w4 ⟨gx, rfl, hox, hbx⟩; obtain ⟨hc, hf⟩ := bcell hbx) | (go_at_call 17; refine (eqFacts_ok z0 l0 (some ⟨cp0, 0, none⟩) (some ⟨gx, 0, none⟩) _ _ _ HN0.out ((O0_5.out.at.below (Below.refl _ _).drew).below hbx) hox.at).mono ?_; rintro e w5 ⟨rfl, hby⟩; obtain ⟨hc', hf'⟩ := bcell hby; have hc := fun b o (h : b < w3.drew.heap.size) => (hc' b o (Nat.lt_of_lt_of_le h hbx.size)).trans (hc b o h)))
      have NN := below_step (below_step (Below.refl w3.heap.size w3).drew hbx) hby
      have B_6 := mkHid (below_step B_5.out NN)
      have A0_6 := mkHid (A0_5.out.below NN)
      have A2_6 := mkHid (A2_5.out.below NN)
      have W_6 := mkHid (W_5.out.below NN)
      have S_6 := mkHid (S_5.out.below NN)
      have X0_6 := mkHid (X0_5.out.below NN)
      have O0_6 := mkHid (O0_5.out.below NN)
      have G_6 := mkHid (G_5.out.below NN)
      have Q_6 := mkHid (Q_5.out.below NN)
      clear NN hc hc' hf hf' hbx hby hox p0 p1 q0 q1 hlx hly B_5 A0_5 A2_5 W_5 S_5 X0_5 O0_5 G_5 Q_5
      obtain ⟨q0, q1⟩ := X0_6.out
      go_wp2_with fail
      refine (markFacts_ok z0 l0 (some ⟨cp0, 0, none⟩) _ _ 1 _ (by have := HZZ0.out; omega) (by omega) (by omega) O0_6.out).mono ?_
      rintro e w6 ⟨rfl, _, hg⟩
      clear q0 q1
      have B_7 := mkHid (B_6.out.grown hg B_6.out.size (fun q hq => by have e : cp0 = q := Option.some.inj hq; omega))
      have A0_7 := mkHid (A0_6.out.grown hg (some_ne (by show (w.heap.size) ≠ cp0; omega)))
      have A2_7 := mkHid (A2_6.out.grown hg (some_ne (by show (w.heap.size + 1) ≠ cp0; omega)))
      have W_7 := mkHid (W_6.out.grown hg (some_ne (by show X ≠ cp0; omega)))
      have S_7 := mkHid (S_6.out.grown hg (fun q hq => some_ne (by have := SL.out q hq; show cp0 ≠ q; omega)))
      have G_7 := mkHid (G_6.out.grown hg (some_ne (by show Xi ≠ cp0; omega)))
      have Q_7 := mkHid (Q_6.out.grown hg (fun q hq => some_ne (by have := GL.out q hq; show cp0 ≠ q; omega)))
      clear hg B_6 A0_6 A2_6 W_6 S_6 X0_6 O0_6 G_6 Q_6
      have hk : ¬ (1 + (l0.length : Int) < 0) := by omega
      obtain ⟨g0, g1⟩ := G_7.out
      obtain ⟨v0, v1⟩ := W_7.out
      go_wp2_with fail
      refine (eqFacts_ok rz rl sai sa sci sc _ HM.out Q_7.out.at S_7.out.at).mono ?_
      rintro e w7 ⟨rfl, hb⟩
      have B_8 := mkHid (below_step B_7.out hb)
      have A0_8 := mkHid (A0_7.out.below hb)
      have A2_8 := mkHid (A2_7.out.below hb)
      have W_8 := mkHid (W_7.out.below hb)
      have S_8 := mkHid (S_7.out.below hb)
      have G_8 := mkHid (G_7.out.below hb)
      have Q_8 := mkHid (Q_7.out.below hb)
      clear hb g0 g1 v0 v1 B_7 A0_7 A2_7 W_7 S_7 G_7 Q_7
      obtain ⟨g0, g1⟩ := G_8.out
      go_wp2_with fail
      refine (markFacts_ok rz rl sai sci _ 1 _ (by have := HLE.out; omega) (by omega) (by omega) Q_8.out).mono ?_
      rintro e w8 ⟨rfl, go11, hg⟩
      have B_9 := mkHid (B_8.out.grown hg B_8.out.size (fun q hq => by have := GL.out q hq; omega))
      have A0_9 := mkHid (A0_8.out.grown hg (fun e => by have := GL.out _ e.symm; omega))
      have A2_9 := mkHid (A2_8.out.grown hg (fun e => by have := GL.out _ e.symm; omega))
      have W_9 := mkHid (W_8.out.grown hg (fun e => by have := GL.out _ e.symm; omega))
      have S_9 := mkHid (S_8.out.grown hg (fun q hq e => by have h1 := SL.out q hq; have h2 := GL.out q e; omega))
      have G_9 := mkHid (G_8.out.grown hg (fun e => by have := GL.out _ e.symm; omega))
      have Q_9 := mkHid go11
      clear hg go11 g0 g1 B_8 A0_8 A2_8 W_8 S_8 G_8 Q_8
      obtain ⟨g0, g1⟩ := G_9.out
      have hq0 : ¬ (1 + (rl.length : Int) < 0) := by omega
      go_wp2_with fail
      refine (heldFacts_ok rz rl.length sai sci 1 _ (by have := HLE.out; omega) (by omega) (by omega) Q_9.out.at).mono ?_
      rintro e w9 ⟨rfl, hb⟩
      have B_10 := mkHid (below_step B_9.out hb)
      have A0_10 := mkHid (A0_9.out.below hb)
      have A2_10 := mkHid (A2_9.out.below hb)
      have W_10 := mkHid (W_9.out.below hb)
      have S_10 := mkHid (S_9.out.below hb)
      have G_10 := mkHid (G_9.out.below hb)
      have Q_10 := mkHid (Q_9.out.below hb)
      clear hb g0 g1 B_9 A0_9 A2_9 W_9 S_9 G_9 Q_9
      go_wp2_with fail
      refine wp_region_inv2 (fun ac0 L a vh => ∃ (b0 b1 b2 b3 b4 b5 b6 b7 : Bool) (s64 s65 s66 s67 s68 s69 s14 : Value) (gh1 : Nat) (sah : Option Addr) (sch : Nat) (Xh : Nat), L = #[b0, b1, b2, b3, b4, b5, b6, b7] ∧ a = puts ac0 [(64, s64), (65, s65), (66, s66), (67, s67), (68, s68), (69, s69), (14, s14)] ∧ (b0 = true → s64 = .agg #[.int .i64 z0, .slice a0 l0.length c0]) ∧ (b1 = true → s65 = .agg #[.int .i64 z0, .slice (some ⟨gh1, 0, none⟩) l0.length l0.length]) ∧ (b2 = true → s66 = .int .i64 x1) ∧ (b3 = true → s67 = .agg #[.int .i64 s2, .int .i64 t2]) ∧ (b4 = true → s68 = .agg #[.int .i64 s2, .int .i64 t2]) ∧ (b5 = true → s69 = .agg #[.int .i64 rz, .slice sah rl.length sch]) ∧ (b6 = true → s14 = .pointer (some ⟨Xh, 0, none⟩)) ∧ Cal w9 b5 b6 b7 Xh sah sch rz rl vh ∧ (b1 = true → b5 = false → IntsAt vh (some ⟨gh1, 0, none⟩) l0)) (by kernel_rfl) ?_ ?_ ?_
      · exact ⟨false, false, false, false, false, false, false, false, undef, undef, undef, undef, undef, undef, undef, 0, none, 0, 0, rfl, by simp only [puts, Act.put, List.setIfInBounds_toArray, List.set_cons_zero, List.set_cons_succ], fun e => (by cases e), fun e => (by cases e), fun e => (by cases e), fun e => (by cases e), fun e => (by cases e), fun e => (by cases e), fun e => (by cases e), ⟨Cal.start (Below.refl _ _).drew, fun e => (by cases e)⟩⟩
      · refine StepsI.cons rfl ?_ ?_
        · rintro L a vh ⟨b0, b1, b2, b3, b4, b5, b6, b7, s64, s65, s66, s67, s68, s69, s14, gh1, sah, sch, Xh, rfl, rfl, h0, h1, h2, h3, h4, h5, h6, hW⟩ hL hm K hK
          obtain rfl : b0 = false := by simpa using hL
          simp only [puts, Act.put, List.setIfInBounds_toArray, List.set_cons_zero, List.set_cons_succ]
          obtain ⟨hC, k1⟩ := hW
          obtain ⟨q0, q1⟩ := A0_10.out.below hC.bel
          go_simp
          exact hK.out _ _ ⟨true, b1, b2, b3, b4, b5, b6, b7, .agg #[.int .i64 z0, .slice a0 l0.length c0], s65, s66, s67, s68, s69, s14, gh1, sah, sch, Xh, rfl, by simp only [puts, Act.put, List.setIfInBounds_toArray, List.set_cons_zero, List.set_cons_succ], fun _ => rfl, h1, h2, h3, h4, h5, h6, ⟨hC, k1⟩⟩
        refine StepsI.cons rfl ?_ ?_
        · rintro L a vh ⟨b0, b1, b2, b3, b4, b5, b6, b7, s64, s65, s66, s67, s68, s69, s14, gh1, sah, sch, Xh, rfl, rfl, h0, h1, h2, h3, h4, h5, h6, hW⟩ hL hm K hK
          obtain rfl : b1 = false := by simpa using hL
          obtain rfl : b0 = true := by cases b0 with | false => (exfalso; revert hm; simp [metB, Region.binds]) | true => rfl
          obtain rfl := h0 rfl
          simp only [puts, Act.put, List.setIfInBounds_toArray, List.set_cons_zero, List.set_cons_succ]
          obtain ⟨hC, k1⟩ := hW
          go_simp
          refine (toFacts_any z0 l0 a0 c0 _ HZZ0.out (HL0.out.below (below_step B_10.out hC.bel))).mono ?_
          rintro e v2 ⟨gn, rfl, ho, hb⟩
          go_wp2_with fail
          exact hK.out _ _ ⟨true, true, b2, b3, b4, b5, b6, b7, .agg #[.int .i64 z0, .slice a0 l0.length c0], .agg #[.int .i64 z0, .slice (some ⟨gn, 0, none⟩) l0.length l0.length], s66, s67, s68, s69, s14, gn, sah, sch, Xh, rfl, by simp only [puts, Act.put, List.setIfInBounds_toArray, List.set_cons_zero, List.set_cons_succ], fun _ => rfl, fun _ => rfl, h2, h3, h4, h5, h6, ⟨hC.below hb, fun _ _ => ho.at⟩⟩
        refine StepsI.cons rfl ?_ ?_
        · rintro L a vh ⟨b0, b1, b2, b3, b4, b5, b6, b7, s64, s65, s66, s67, s68, s69, s14, gh1, sah, sch, Xh, rfl, rfl, h0, h1, h2, h3, h4, h5, h6, hW⟩ hL hm K hK
          obtain rfl : b2 = false := by simpa using hL
          simp only [puts, Act.put, List.setIfInBounds_toArray, List.set_cons_zero, List.set_cons_succ]
          obtain ⟨hC, k1⟩ := hW
          go_simp
          exact hK.out _ _ ⟨b0, b1, true, b3, b4, b5, b6, b7, s64, s65, .int .i64 x1, s67, s68, s69, s14, gh1, sah, sch, Xh, rfl, by simp only [puts, Act.put, List.setIfInBounds_toArray, List.set_cons_zero, List.set_cons_succ], h0, h1, fun _ => rfl, h3, h4, h5, h6, ⟨hC, k1⟩⟩
        refine StepsI.cons rfl ?_ ?_
        · rintro L a vh ⟨b0, b1, b2, b3, b4, b5, b6, b7, s64, s65, s66, s67, s68, s69, s14, gh1, sah, sch, Xh, rfl, rfl, h0, h1, h2, h3, h4, h5, h6, hW⟩ hL hm K hK
          obtain rfl : b3 = false := by simpa using hL
          simp only [puts, Act.put, List.setIfInBounds_toArray, List.set_cons_zero, List.set_cons_succ]
          obtain ⟨hC, k1⟩ := hW
          obtain ⟨q0, q1, q2, q3⟩ := A2_10.out.below hC.bel
          go_simp
          exact hK.out _ _ ⟨b0, b1, b2, true, b4, b5, b6, b7, s64, s65, s66, .agg #[.int .i64 s2, .int .i64 t2], s68, s69, s14, gh1, sah, sch, Xh, rfl, by simp only [puts, Act.put, List.setIfInBounds_toArray, List.set_cons_zero, List.set_cons_succ], h0, h1, h2, fun _ => rfl, h4, h5, h6, ⟨hC, k1⟩⟩
        refine StepsI.cons rfl ?_ ?_
        · rintro L a vh ⟨b0, b1, b2, b3, b4, b5, b6, b7, s64, s65, s66, s67, s68, s69, s14, gh1, sah, sch, Xh, rfl, rfl, h0, h1, h2, h3, h4, h5, h6, hW⟩ hL hm K hK
          obtain rfl : b4 = false := by simpa using hL
          obtain rfl : b3 = true := by cases b3 with | false => (exfalso; revert hm; simp [metB, Region.binds]) | true => rfl
          obtain rfl := h3 rfl
          simp only [puts, Act.put, List.setIfInBounds_toArray, List.set_cons_zero, List.set_cons_succ]
          obtain ⟨hC, k1⟩ := hW
          go_simp
          refine (toRange_any s2 t2 _).mono ?_
          rintro e v2 ⟨rfl, hb⟩
          go_wp2_with fail
          exact hK.out _ _ ⟨b0, b1, b2, true, true, b5, b6, b7, s64, s65, s66, .agg #[.int .i64 s2, .int .i64 t2], .agg #[.int .i64 s2, .int .i64 t2], s69, s14, gh1, sah, sch, Xh, rfl, by simp only [puts, Act.put, List.setIfInBounds_toArray, List.set_cons_zero, List.set_cons_succ], h0, h1, h2, fun _ => rfl, fun _ => rfl, h5, h6, ⟨hC.below hb, fun e e2 => (k1 e e2).below hb⟩⟩
        refine StepsI.cons rfl ?_ ?_
        · rintro L a vh ⟨b0, b1, b2, b3, b4, b5, b6, b7, s64, s65, s66, s67, s68, s69, s14, gh1, sah, sch, Xh, rfl, rfl, h0, h1, h2, h3, h4, h5, h6, hW⟩ hL hm K hK
          obtain rfl : b5 = false := by simpa using hL
          obtain rfl : b1 = true := by cases b1 with | false => (exfalso; revert hm; simp [metB, Region.binds]) | true => rfl
          obtain rfl : b2 = true := by cases b2 with | false => (exfalso; revert hm; simp [metB, Region.binds]) | true => rfl
          obtain rfl : b4 = true := by cases b4 with | false => (exfalso; revert hm; simp [metB, Region.binds]) | true => rfl
          obtain rfl := h1 rfl
          obtain rfl := h2 rfl
          obtain rfl := h4 rfl
          simp only [puts, Act.put, List.setIfInBounds_toArray, List.set_cons_zero, List.set_cons_succ]
          obtain ⟨hC, k1⟩ := hW
          go_simp
          refine (HI.out _ _ (k1 rfl rfl)).mono ?_
          rintro e v2 ⟨sa2, sc2, rfl, so, hb⟩
          go_wp2_with fail
          exact hK.out _ _ ⟨b0, true, true, b3, true, true, b6, b7, s64, .agg #[.int .i64 z0, .slice (some ⟨gh1, 0, none⟩) l0.length l0.length], .int .i64 x1, s67, .agg #[.int .i64 s2, .int .i64 t2], .agg #[.int .i64 rz, .slice sa2 rl.length sc2], s14, gh1, sa2, sc2, Xh, rfl, by simp only [puts, Act.put, List.setIfInBounds_toArray, List.set_cons_zero, List.set_cons_succ], h0, fun _ => rfl, fun _ => rfl, h3, fun _ => rfl, fun _ => rfl, h6, ⟨hC.called so hb, fun _ e => (by cases e)⟩⟩
        refine StepsI.cons rfl ?_ ?_
        · rintro L a vh ⟨b0, b1, b2, b3, b4, b5, b6, b7, s64, s65, s66, s67, s68, s69, s14, gh1, sah, sch, Xh, rfl, rfl, h0, h1, h2, h3, h4, h5, h6, hW⟩ hL hm K hK
          obtain rfl : b6 = false := by simpa using hL
          simp only [puts, Act.put, List.setIfInBounds_toArray, List.set_cons_zero, List.set_cons_succ]
          obtain ⟨hC, k1⟩ := hW
          go_simp
          exact hK.out _ _ ⟨b0, b1, b2, b3, b4, b5, true, b7, s64, s65, s66, s67, s68, s69, .pointer (some ⟨vh.heap.size, 0, none⟩), gh1, sah, sch, vh.heap.size, rfl, by simp only [puts, Act.put, List.setIfInBounds_toArray, List.set_cons_zero, List.set_cons_succ], h0, h1, h2, h3, h4, h5, fun _ => rfl, ⟨hC.alloc, fun e e2 => (k1 e e2).below ((Below.refl _ _).alloc (Nat.le_refl _) _)⟩⟩
        refine StepsI.cons rfl ?_ ?_
        · rintro L a vh ⟨b0, b1, b2, b3, b4, b5, b6, b7, s64, s65, s66, s67, s68, s69, s14, gh1, sah, sch, Xh, rfl, rfl, h0, h1, h2, h3, h4, h5, h6, hW⟩ hL hm K hK
          obtain rfl : b7 = false := by simpa using hL
          obtain rfl : b5 = true := by cases b5 with | false => (exfalso; revert hm; simp [metB, Region.binds]) | true => rfl
          obtain rfl : b6 = true := by cases b6 with | false => (exfalso; revert hm; simp [metB, Region.binds]) | true => rfl
          obtain rfl := h5 rfl
          obtain rfl := h6 rfl
          simp only [puts, Act.put, List.setIfInBounds_toArray, List.set_cons_zero, List.set_cons_succ]
          obtain ⟨hC, k1⟩ := hW
          obtain ⟨⟨y0, y1⟩, y2, y3⟩ := (hC.box rfl).2.1 rfl
          go_simp
          exact hK.out _ _ ⟨b0, b1, b2, b3, b4, true, true, true, s64, s65, s66, s67, s68, .agg #[.int .i64 rz, .slice sah rl.length sch], .pointer (some ⟨Xh, 0, none⟩), gh1, sah, sch, Xh, rfl, by simp only [puts, Act.put, List.setIfInBounds_toArray, List.set_cons_zero, List.set_cons_succ], h0, h1, h2, h3, h4, fun _ => rfl, fun _ => rfl, ⟨hC.store, fun _ e => (by cases e)⟩⟩
        exact StepsI.nil (by kernel_rfl)
      · rintro L a vh ⟨b0, b1, b2, b3, b4, b5, b6, b7, s64, s65, s66, s67, s68, s69, s14, gh1, sah, sch, Xh, rfl, rfl, h0, h1, h2, h3, h4, h5, h6, hW⟩ hr
        have hu := all_up (by kernel_rfl) (N := 8) (by kernel_rfl) hr
        obtain rfl : b0 = true := by simpa using hu 0 (by decide)
        obtain rfl : b1 = true := by simpa using hu 1 (by decide)
        obtain rfl : b2 = true := by simpa using hu 2 (by decide)
        obtain rfl : b3 = true := by simpa using hu 3 (by decide)
        obtain rfl : b4 = true := by simpa using hu 4 (by decide)
        obtain rfl : b5 = true := by simpa using hu 5 (by decide)
        obtain rfl : b6 = true := by simpa using hu 6 (by decide)
        obtain rfl : b7 = true := by simpa using hu 7 (by decide)
        obtain rfl := h0 rfl
        obtain rfl := h1 rfl
        obtain rfl := h2 rfl
        obtain rfl := h3 rfl
        obtain rfl := h4 rfl
        obtain rfl := h5 rfl
        obtain rfl := h6 rfl
        clear hu hr
        simp only [puts, Act.put, List.setIfInBounds_toArray, List.set_cons_zero, List.set_cons_succ]
        obtain ⟨hC, k1⟩ := hW
        skip
        obtain ⟨hbel, hX0, hXf, so, hXn⟩ := hC.all
        clear hC k1
        have B_11 := mkHid (below_step B_10.out hbel)
        have A0_11 := mkHid (A0_10.out.below hbel)
        have A2_11 := mkHid (A2_10.out.below hbel)
        have W_11 := mkHid (W_10.out.below hbel)
        have S_11 := mkHid (S_10.out.below hbel)
        have G_11 := mkHid (G_10.out.below hbel)
        have Q_11 := mkHid (Q_10.out.below hbel)
        clear hbel hX0 B_10 A0_10 A2_10 W_10 S_10 G_10 Q_10
        have H_11 := mkHid (hXf)
        have Y_11 := mkHid (so)
        clear hXf so hXn
        obtain ⟨h0, h1⟩ := H_11.out
        obtain ⟨v0, v1⟩ := W_11.out
        go_wp2_with fail
        refine (eqFacts_ok rz rl _ sa _ sc _ HM.out Y_11.out.at S_11.out.at).mono ?_
        rintro e w10 ⟨rfl, hb⟩
        have B_12 := mkHid (below_step B_11.out hb)
        have A0_12 := mkHid (A0_11.out.below hb)
        have A2_12 := mkHid (A2_11.out.below hb)
        have W_12 := mkHid (W_11.out.below hb)
        have S_12 := mkHid (S_11.out.below hb)
        have G_12 := mkHid (G_11.out.below hb)
        have Q_12 := mkHid (Q_11.out.below hb)
        have H_12 := mkHid (H_11.out.below hb)
        have Y_12 := mkHid (Y_11.out.below hb)
        clear hb h0 h1 v0 v1 B_11 A0_11 A2_11 W_11 S_11 G_11 Q_11 H_11 Y_11
        obtain ⟨g0, g1⟩ := G_12.out
        go_wp2_with fail
        refine (heldFacts_ok rz rl.length sai sci 1 _ (by have := HLE.out; omega) (by omega) (by omega) Q_12.out.at).mono ?_
        rintro e w11 ⟨rfl, hb⟩
        have B_13 := mkHid (below_step B_12.out hb)
        have A0_13 := mkHid (A0_12.out.below hb)
        have A2_13 := mkHid (A2_12.out.below hb)
        have W_13 := mkHid (W_12.out.below hb)
        have S_13 := mkHid (S_12.out.below hb)
        have G_13 := mkHid (G_12.out.below hb)
        have Q_13 := mkHid (Q_12.out.below hb)
        have H_13 := mkHid (H_12.out.below hb)
        have Y_13 := mkHid (Y_12.out.below hb)
        clear hb g0 g1 B_12 A0_12 A2_12 W_12 S_12 G_12 Q_12 H_12 Y_12
        go_wp2
        go_ret
        exact ⟨rfl, B_13.out⟩

set_option maxRecDepth 100000 in
theorem law_lifted (os : Os) (started : os.Started) (H : Type) (enc : TypeId × Value → H) :
    ReturnsInHanded {} Try.checked os 6 .any (Rows.fnExactFactsBoundSpec.pre6 enc Try.prog Try.f6 Rows.fnExactFactsBoundRow.domain false) (Rows.fnExactFactsBoundSpec.post enc Try.prog Try.f6 false true false false) := by
  refine returnsInHanded_of_change (C := Try.checked) Try.own started (by kernel_rfl) Try.func6
    (ChangeSpec.witness6 (enc := enc) (C := Try.checked) false ⟨#[], #[.agg #[.int .i64 0, .slice none 0 0], .int .i64 0, .agg #[.int .i64 0, .int .i64 0]], []⟩ 8 (by kernel_rfl) (by kernel_rfl) (by kernel_rfl) (by kernel_rfl)) ?_
  intro W base args ds gs before hval0 hW hcnd _
  have hval : ∀ (j : Nat) t v, Try.f6.params[j]? = some t → args[j]? = some v → Value.okWide Try.prog W .any base t v := hval0
  have hW' := hW
  obtain ⟨p, q, hA0, hV, rfl, hfz, hnd⟩ := hW
  have hA : DataW.TrodAll enc Try.prog W 0 (fun _ => true) true Try.f6.params.toList args.toList ds p := hA0
  rw [Try.params6] at hA hval
  obtain ⟨v0, vs0, d0, ds0, p0, q0, hargs, rfl, rfl, h0, r0⟩ := trodAll_cons hA
  obtain ⟨v1, vs1, d1, ds1, p1, q1, rfl, rfl, rfl, h1, r1⟩ := trodAll_cons r0
  obtain ⟨v2, vs2, d2, ds2, p2, q2, rfl, rfl, rfl, h2, r2⟩ := trodAll_cons r1
  obtain ⟨rfl, rfl, rfl⟩ := trodAll_nil r2
  obtain rfl : args = #[v0, v1, v2] := by cases args; simp_all
  obtain ⟨rfl, rfl⟩ := trodVars_none hV
  have k0 := h0
  have lt0 : ∀ x ∈ p0, x.block < W.heap.size := by obtain ⟨m, hm⟩ := k0; exact DataW.trod_lt m _ _ _ hm
  have k1 := h1
  have lt1 : ∀ x ∈ p1, x.block < W.heap.size := by obtain ⟨m, hm⟩ := k1; exact DataW.trod_lt m _ _ _ hm
  have k2 := h2
  have lt2 : ∀ x ∈ p2, x.block < W.heap.size := by obtain ⟨m, hm⟩ := k2; exact DataW.trod_lt m _ _ _ hm
  obtain ⟨u00, u01, y00, y01, m0, hv0, _, _, hy00, hy01⟩ := open_agg2 Try.underlying24 (by kernel_rfl) Try.cells24 (hval 0 24 v0 rfl rfl) h0
  obtain ⟨z0, e00, _, _⟩ := DataW.trod_int Try.underlying3 hy00
  obtain ⟨a0, c0, l0, e01, hn0, hk0⟩ := open_intsv hy01
  simp at e00
  subst e00 e01 hv0
  obtain ⟨x1, hv1, _, _, _⟩ := open_int Try.underlying3 (hval 1 3 v1 rfl rfl) h1
  subst hv1
  obtain ⟨u20, u21, y20, y21, m2, hv2, _, _, hy20, hy21⟩ := open_agg2 Try.underlying38 (by kernel_rfl) Try.cells38 (hval 2 38 v2 rfl rfl) h2
  obtain ⟨s2, e20, _, _⟩ := DataW.trod_int Try.underlying3 hy20
  obtain ⟨t2, e21, _, _⟩ := DataW.trod_int Try.underlying3 hy21
  simp at e20 e21
  subst e20 e21 hv2
  clear hA0 hval0
  refine (law_walk z0 l0 a0 c0 x1 s2 t2 W hn0 hk0).mono fun e W' ⟨he, bel⟩ => ?_
  subst he
  exact ⟨_, rfl, _, _, _, [], _, [], hW', trodAll_mk1 (shut_bool Try.underlying4 _), (trodAll_cons_mk (Below.trod Try.laidOut (by kernel_rfl) (of_decide_eq_true (by kernel_rfl)) k0 bel lt0) (trodAll_cons_mk (Below.trod Try.laidOut (by kernel_rfl) (of_decide_eq_true (by kernel_rfl)) k1 bel lt1) (trodAll_cons_mk (Below.trod Try.laidOut (by kernel_rfl) (of_decide_eq_true (by kernel_rfl)) k2 bel lt2) trodAll_mk0))), rfl, bel.frame _, fun h => by cases h⟩

theorem law_holds : Rows.FnExactFactsBoundSaid :=
  OpenClaim.holds_of_wide 6 Try.f6 rfl rfl rfl rfl rfl rfl rfl ⟨rfl, rfl, rfl, rfl, rfl⟩ rfl rfl rfl rfl rfl (by kernel_rfl) Try.func6 (by kernel_rfl)
    (of_decide_eq_true (by kernel_rfl)) (by unfold Func.isWrapper; first | (rw [if_pos (by decide +kernel)]; kernel_rfl) | (rw [if_neg (by decide +kernel)]; exact ⟨rfl, rfl⟩))
    (fun os started H enc _ => law_lifted os started H enc)

#print axioms law_holds
end Go.Proofs.Ytmaejdomlggopaa
