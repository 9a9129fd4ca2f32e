/-
  CONTRACTS of toSym, of comparing (cmp.Compare, cmp.Or), and of both SymOks, both SymLesses.
-/
import Derived.Test.YtmaejdomlggopaaBi
namespace Go.Proofs.Ytmaejdomlggopaa
open Go.RowKit

def symOkB (n v c : Int) : Bool := btw n 1 13 && (btw v 0 (n - 1) && btw c (-1000) 1000)
def lessB (a b c d : Int) : Bool := decide (a < c ∨ a = c ∧ b < d)
def cmpI (x y : Int) : Int := if x < y then -1 else if y < x then 1 else 0
def orI (x y : Int) : Int := if x = 0 then y else x
set_option maxRecDepth 100000 in
set_option maxHeartbeats 400000 in
theorem toSym_any (a b : Int) (w : World) : Calls Try.prog 31 #[.agg #[.int .i64 a, .int .i64 b]] w fun e w' => e = .returned (.agg #[.int .i64 a, .int .i64 b]) ∧ Below w.heap.size w w' := by
  go_enter Try.func31, Try.ntmps31
  go_wp2
  exact bodyPost_ret (v := .agg #[.int .i64 a, .int .i64 b]) (by simp [results, Try.results31, go_sem]) rfl ⟨rfl, (((Below.refl _ _).alloc (Nat.le_refl _) _).alloc (by simp) _).alloc (by simp; omega) _⟩
theorem notNaN_any (x : Int) (w : World) : Calls Try.prog 107 #[.int .i64 x] w fun e w' => e = .returned (.bool false) ∧ w = w' := by
  go_enter Try.func107, Try.ntmps107
  have hx : (x != x) = false := by simp
  go_wp2
  go_ret
  exact ⟨rfl, rfl⟩
theorem compare_any (x y : Int) (w : World) : Calls Try.prog 98 #[.int .i64 x, .int .i64 y] w fun e w' => e = .returned (.int .i64 (cmpI x y)) ∧ w = w' := by
  unfold cmpI
  by_cases h1 : x < y
  · rw [if_pos h1]
    go_enter Try.func98, Try.ntmps98
    go_wp2_with (first | (go_at_call 107; refine (notNaN_any _ _).mono ?_; rintro e w' ⟨rfl, rfl⟩))
    go_ret
    exact ⟨rfl, rfl⟩
  · rw [if_neg h1]
    by_cases h2 : y < x
    · rw [if_pos h2]
      go_enter Try.func98, Try.ntmps98
      go_wp2_with (first | (go_at_call 107; refine (notNaN_any _ _).mono ?_; rintro e w' ⟨rfl, rfl⟩))
      go_ret
      exact ⟨rfl, rfl⟩
    · rw [if_neg h2]
      go_enter Try.func98, Try.ntmps98
      go_wp2_with (first | (go_at_call 107; refine (notNaN_any _ _).mono ?_; rintro e w' ⟨rfl, rfl⟩))
      go_ret
      exact ⟨rfl, rfl⟩
set_option maxHeartbeats 800000 in
theorem or2_any (x y : Int) (R c : Nat) (w : World) (h0 : w.cell? ⟨R, 0, none⟩ = some (.int .i64 x)) (h1 : w.cell? ⟨R, 1, none⟩ = some (.int .i64 y)) : Calls Try.prog 97 #[.slice (some ⟨R, 0, none⟩) 2 c] w fun e w' => e = .returned (.int .i64 (orI x y)) ∧ w = w' := by
  obtain ⟨r, hr⟩ : ∃ r, orI x y = r := ⟨_, rfl⟩
  have HR := mkHid hr
  rw [hr]
  clear hr
  go_enter Try.func97, Try.ntmps97
  go_wp2_with fail
  go_loopg [8, 5] 2 (fun g s8 s5 wr => ∃ u : Nat, u + g = 2 ∧ s8 = .int .i64 u ∧ wr = w ∧ (1 ≤ u → x = 0) ∧ (2 ≤ u → y = 0))
  case atStart => exact ⟨0, rfl, rfl, rfl, fun h => by omega, fun h => by omega⟩
  case round =>
    obtain ⟨u, hu, rfl, rfl, hx, hy⟩ := hrel
    have HX := mkHid hx
    have HY := mkHid hy
    clear hx hy
    match gk, u, hu with
    | 0, 2, _ =>
      have e : Hid (0 = r) := mkHid (by rw [← HR.out]; unfold orI; rw [if_pos (HX.out (by omega))]; exact (HY.out (by omega)).symm)
      go_wp2
      go_ret
      exact ⟨ret_int e.out, rfl⟩
    | 1, 1, _ =>
      have e : Hid (y = r) := mkHid (by rw [← HR.out]; unfold orI; rw [if_pos (HX.out (by omega))])
      by_cases hy : y = 0
      · subst hy
        go_wp2
        go_roundg 0
        case measure => omega
        case rel => exact ⟨2, by omega, by go_num, rfl, fun _ => HX.out (by omega), fun _ => by trivial⟩
      · have hb : (y != 0) = true := by simp [hy]
        go_wp2
        go_ret
        exact ⟨ret_int e.out, rfl⟩
    | 2, 0, _ =>
      by_cases hx : x = 0
      · subst hx
        go_wp2
        go_roundg 1
        case measure => omega
        case rel => exact ⟨1, by omega, by go_num, rfl, fun _ => by trivial, fun h => by omega⟩
      · have hb : (x != 0) = true := by simp [hx]
        have e : Hid (x = r) := mkHid (by rw [← HR.out]; unfold orI; rw [if_neg hx])
        go_wp2
        go_ret
        exact ⟨ret_int e.out, rfl⟩
theorem cmp_less (a b c d : Int) : decide (orI (cmpI a c) (cmpI b d) < 0) = lessB a b c d := by
  unfold orI cmpI lessB
  rw [decide_eq_decide]
  split <;> (repeat' split at *) <;> omega
set_option maxRecDepth 100000 in
set_option maxHeartbeats 1600000 in
theorem compareSyms_any (a b c d : Int) (w : World) : Calls Try.prog 75 #[.agg #[.int .i64 a, .int .i64 b], .agg #[.int .i64 c, .int .i64 d]] w fun e w' => e = .returned (.int .i64 (orI (cmpI a c) (cmpI b d))) ∧ Below w.heap.size w w' := by
  have B0 := mkHid (((Below.refl w.heap.size w).alloc (Nat.le_refl _) (.cells #[.int .i64 a, .int .i64 b] 46)).alloc (by simp) (.cells #[.int .i64 c, .int .i64 d] 46))
  have P0 : Hid (Box ((w.alloc (.cells #[.int .i64 a, .int .i64 b] 46)).alloc (.cells #[.int .i64 c, .int .i64 d] 46)) w.heap.size a b) := mkHid ((Box.new' w a b 46).below ((Below.refl _ _).alloc (Nat.le_refl _) _))
  have Q0 : Hid (Box ((w.alloc (.cells #[.int .i64 a, .int .i64 b] 46)).alloc (.cells #[.int .i64 c, .int .i64 d] 46)) (w.heap.size + 1) c d) := mkHid (by have := Box.new' (w.alloc (.cells #[.int .i64 a, .int .i64 b] 46)) c d 46; simpa using this)
  obtain ⟨w1, hw1⟩ : ∃ w1, (w.alloc (.cells #[.int .i64 a, .int .i64 b] 46)).alloc (.cells #[.int .i64 c, .int .i64 d] 46) = w1 := ⟨_, rfl⟩
  rw [hw1] at B0 P0 Q0
  have HW := mkHid hw1
  have hBox : ∀ v, Below w1.heap.size w1 v → Box v w.heap.size a b ∧ Box v (w.heap.size + 1) c d := fun v h => ⟨P0.out.below h, Q0.out.below h⟩
  clear hw1
  go_enter Try.func75, Try.ntmps75
  go_wp2_with fail
  rw [HW.out]
  refine wp_region_inv2 (fun zA0 L zA v => ∃ (b0 b1 b2 b3 b4 b5 b6 b7 b8 b9 b10 b11 b12 : Bool) (s5 s6 s7 s8 s9 s10 s11 s12 s13 s14 s15 s16 s4 : Value) (R : Nat), L = #[b0, b1, b2, b3, b4, b5, b6, b7, b8, b9, b10, b11, b12] ∧ zA = puts zA0 [(5, s5), (6, s6), (7, s7), (8, s8), (9, s9), (10, s10), (11, s11), (12, s12), (13, s13), (14, s14), (15, s15), (16, s16), (4, s4)] ∧ (b0 = true → s5 = .pointer (some ⟨w.heap.size, 0, none⟩)) ∧ (b1 = true → s6 = .int .i64 a) ∧ (b2 = true → s7 = .pointer (some ⟨w.heap.size + 1, 0, none⟩)) ∧ (b3 = true → s8 = .int .i64 c) ∧ (b4 = true → s9 = .int .i64 (cmpI a c)) ∧ (b5 = true → s10 = .pointer (some ⟨w.heap.size, 1, none⟩)) ∧ (b6 = true → s11 = .int .i64 b) ∧ (b7 = true → s12 = .pointer (some ⟨w.heap.size + 1, 1, none⟩)) ∧ (b8 = true → s13 = .int .i64 d) ∧ (b9 = true → s14 = .int .i64 (cmpI b d)) ∧ (b10 = true → s15 = .slice (some ⟨R, 0, none⟩) 2 2) ∧ (b11 = true → s16 = .int .i64 (orI (cmpI a c) (cmpI b d))) ∧ (b12 = true → s4 = .int .i64 (orI (cmpI a c) (cmpI b d))) ∧ Below w1.heap.size w1 v ∧ (b10 = true → v.cell? ⟨R, 0, none⟩ = some (.int .i64 (cmpI a c)) ∧ v.cell? ⟨R, 1, none⟩ = some (.int .i64 (cmpI b d)))) (by kernel_rfl) ?_ ?_ ?_
  · exact ⟨false, false, false, false, false, false, false, false, false, false, false, false, false, undef, undef, undef, undef, undef, undef, undef, undef, undef, undef, undef, undef, .int .i64 0, 0, rfl, by kernel_rfl, fun e => (by cases e), fun e => (by cases e), fun e => (by cases e), fun e => (by cases e), fun e => (by cases e), fun e => (by cases e), fun e => (by cases e), fun e => (by cases e), fun e => (by cases e), fun e => (by cases e), fun e => (by cases e), fun e => (by cases e), fun e => (by cases e), ⟨(Below.refl _ _).drew, fun e => (by cases e)⟩⟩
  · refine StepsI.cons rfl ?_ ?_
    · rintro L zA v ⟨b0, b1, b2, b3, b4, b5, b6, b7, b8, b9, b10, b11, b12, s5, s6, s7, s8, s9, s10, s11, s12, s13, s14, s15, s16, s4, R, rfl, rfl, h0, h1, h2, h3, h4, h5, h6, h7, h8, h9, h10, h11, h12, hW⟩ hL hm K hK
      obtain rfl : b0 = false := by simpa using hL
      simp only [puts, Act.put, List.setIfInBounds_toArray, List.set_cons_zero, List.set_cons_succ]
      go_simp
      exact hK.out _ _ ⟨true, b1, b2, b3, b4, b5, b6, b7, b8, b9, b10, b11, b12, .pointer (some ⟨w.heap.size, 0, none⟩), s6, s7, s8, s9, s10, s11, s12, s13, s14, s15, s16, s4, R, rfl, by kernel_rfl, fun _ => rfl, h1, h2, h3, h4, h5, h6, h7, h8, h9, h10, h11, h12, hW⟩
    refine StepsI.cons rfl ?_ ?_
    · rintro L zA v ⟨b0, b1, b2, b3, b4, b5, b6, b7, b8, b9, b10, b11, b12, s5, s6, s7, s8, s9, s10, s11, s12, s13, s14, s15, s16, s4, R, rfl, rfl, h0, h1, h2, h3, h4, h5, h6, h7, h8, h9, h10, h11, h12, hW⟩ hL hm K hK
      obtain rfl : b1 = false := by simpa using hL
      obtain rfl : b0 = true := by cases b0 with | false => (exfalso; revert hm; simp [metB, Region.binds]) | true => rfl
      obtain rfl := h0 rfl
      simp only [puts, Act.put, List.setIfInBounds_toArray, List.set_cons_zero, List.set_cons_succ]
      obtain ⟨⟨q0, q1, q2, q3⟩, p0, p1, p2, p3⟩ := hBox _ hW.1
      go_simp
      exact hK.out _ _ ⟨true, true, b2, b3, b4, b5, b6, b7, b8, b9, b10, b11, b12, .pointer (some ⟨w.heap.size, 0, none⟩), .int .i64 a, s7, s8, s9, s10, s11, s12, s13, s14, s15, s16, s4, R, rfl, by kernel_rfl, fun _ => rfl, fun _ => rfl, h2, h3, h4, h5, h6, h7, h8, h9, h10, h11, h12, hW⟩
    refine StepsI.cons rfl ?_ ?_
    · rintro L zA v ⟨b0, b1, b2, b3, b4, b5, b6, b7, b8, b9, b10, b11, b12, s5, s6, s7, s8, s9, s10, s11, s12, s13, s14, s15, s16, s4, R, rfl, rfl, h0, h1, h2, h3, h4, h5, h6, h7, h8, h9, h10, h11, h12, hW⟩ hL hm K hK
      obtain rfl : b2 = false := by simpa using hL
      simp only [puts, Act.put, List.setIfInBounds_toArray, List.set_cons_zero, List.set_cons_succ]
      go_simp
      exact hK.out _ _ ⟨b0, b1, true, b3, b4, b5, b6, b7, b8, b9, b10, b11, b12, s5, s6, .pointer (some ⟨w.heap.size + 1, 0, none⟩), s8, s9, s10, s11, s12, s13, s14, s15, s16, s4, R, rfl, by kernel_rfl, h0, h1, fun _ => rfl, h3, h4, h5, h6, h7, h8, h9, h10, h11, h12, hW⟩
    refine StepsI.cons rfl ?_ ?_
    · rintro L zA v ⟨b0, b1, b2, b3, b4, b5, b6, b7, b8, b9, b10, b11, b12, s5, s6, s7, s8, s9, s10, s11, s12, s13, s14, s15, s16, s4, R, rfl, rfl, h0, h1, h2, h3, h4, h5, h6, h7, h8, h9, h10, h11, h12, hW⟩ hL hm K hK
      obtain rfl : b3 = false := by simpa using hL
      obtain rfl : b2 = true := by cases b2 with | false => (exfalso; revert hm; simp [metB, Region.binds]) | true => rfl
      obtain rfl := h2 rfl
      simp only [puts, Act.put, List.setIfInBounds_toArray, List.set_cons_zero, List.set_cons_succ]
      obtain ⟨⟨q0, q1, q2, q3⟩, p0, p1, p2, p3⟩ := hBox _ hW.1
      go_simp
      exact hK.out _ _ ⟨b0, b1, true, true, b4, b5, b6, b7, b8, b9, b10, b11, b12, s5, s6, .pointer (some ⟨w.heap.size + 1, 0, none⟩), .int .i64 c, s9, s10, s11, s12, s13, s14, s15, s16, s4, R, rfl, by kernel_rfl, h0, h1, fun _ => rfl, fun _ => rfl, h4, h5, h6, h7, h8, h9, h10, h11, h12, hW⟩
    refine StepsI.cons rfl ?_ ?_
    · rintro L zA v ⟨b0, b1, b2, b3, b4, b5, b6, b7, b8, b9, b10, b11, b12, s5, s6, s7, s8, s9, s10, s11, s12, s13, s14, s15, s16, s4, R, rfl, rfl, h0, h1, h2, h3, h4, h5, h6, h7, h8, h9, h10, h11, h12, hW⟩ hL hm K hK
      obtain rfl : b4 = false := by simpa using hL
      obtain rfl : b1 = true := by cases b1 with | false => (exfalso; revert hm; simp [metB, Region.binds]) | true => rfl
      obtain rfl : b3 = true := by cases b3 with | false => (exfalso; revert hm; simp [metB, Region.binds]) | true => rfl
      obtain rfl := h1 rfl
      obtain rfl := h3 rfl
      simp only [puts, Act.put, List.setIfInBounds_toArray, List.set_cons_zero, List.set_cons_succ]
      go_simp
      refine (compare_any _ _ _).mono ?_
      rintro e v2 ⟨rfl, rfl⟩
      go_wp2_with fail
      exact hK.out _ _ ⟨b0, true, b2, true, true, b5, b6, b7, b8, b9, b10, b11, b12, s5, .int .i64 a, s7, .int .i64 c, .int .i64 (cmpI a c), s10, s11, s12, s13, s14, s15, s16, s4, R, rfl, by kernel_rfl, h0, fun _ => rfl, h2, fun _ => rfl, fun _ => rfl, h5, h6, h7, h8, h9, h10, h11, h12, hW⟩
    refine StepsI.cons rfl ?_ ?_
    · rintro L zA v ⟨b0, b1, b2, b3, b4, b5, b6, b7, b8, b9, b10, b11, b12, s5, s6, s7, s8, s9, s10, s11, s12, s13, s14, s15, s16, s4, R, rfl, rfl, h0, h1, h2, h3, h4, h5, h6, h7, h8, h9, h10, h11, h12, hW⟩ hL hm K hK
      obtain rfl : b5 = false := by simpa using hL
      simp only [puts, Act.put, List.setIfInBounds_toArray, List.set_cons_zero, List.set_cons_succ]
      go_simp
      exact hK.out _ _ ⟨b0, b1, b2, b3, b4, true, b6, b7, b8, b9, b10, b11, b12, s5, s6, s7, s8, s9, .pointer (some ⟨w.heap.size, 1, none⟩), s11, s12, s13, s14, s15, s16, s4, R, rfl, by kernel_rfl, h0, h1, h2, h3, h4, fun _ => rfl, h6, h7, h8, h9, h10, h11, h12, hW⟩
    refine StepsI.cons rfl ?_ ?_
    · rintro L zA v ⟨b0, b1, b2, b3, b4, b5, b6, b7, b8, b9, b10, b11, b12, s5, s6, s7, s8, s9, s10, s11, s12, s13, s14, s15, s16, s4, R, rfl, rfl, h0, h1, h2, h3, h4, h5, h6, h7, h8, h9, h10, h11, h12, hW⟩ hL hm K hK
      obtain rfl : b6 = false := by simpa using hL
      obtain rfl : b5 = true := by cases b5 with | false => (exfalso; revert hm; simp [metB, Region.binds]) | true => rfl
      obtain rfl := h5 rfl
      simp only [puts, Act.put, List.setIfInBounds_toArray, List.set_cons_zero, List.set_cons_succ]
      obtain ⟨⟨q0, q1, q2, q3⟩, p0, p1, p2, p3⟩ := hBox _ hW.1
      go_simp
      exact hK.out _ _ ⟨b0, b1, b2, b3, b4, true, true, b7, b8, b9, b10, b11, b12, s5, s6, s7, s8, s9, .pointer (some ⟨w.heap.size, 1, none⟩), .int .i64 b, s12, s13, s14, s15, s16, s4, R, rfl, by kernel_rfl, h0, h1, h2, h3, h4, fun _ => rfl, fun _ => rfl, h7, h8, h9, h10, h11, h12, hW⟩
    refine StepsI.cons rfl ?_ ?_
    · rintro L zA v ⟨b0, b1, b2, b3, b4, b5, b6, b7, b8, b9, b10, b11, b12, s5, s6, s7, s8, s9, s10, s11, s12, s13, s14, s15, s16, s4, R, rfl, rfl, h0, h1, h2, h3, h4, h5, h6, h7, h8, h9, h10, h11, h12, hW⟩ hL hm K hK
      obtain rfl : b7 = false := by simpa using hL
      simp only [puts, Act.put, List.setIfInBounds_toArray, List.set_cons_zero, List.set_cons_succ]
      go_simp
      exact hK.out _ _ ⟨b0, b1, b2, b3, b4, b5, b6, true, b8, b9, b10, b11, b12, s5, s6, s7, s8, s9, s10, s11, .pointer (some ⟨w.heap.size + 1, 1, none⟩), s13, s14, s15, s16, s4, R, rfl, by kernel_rfl, h0, h1, h2, h3, h4, h5, h6, fun _ => rfl, h8, h9, h10, h11, h12, hW⟩
    refine StepsI.cons rfl ?_ ?_
    · rintro L zA v ⟨b0, b1, b2, b3, b4, b5, b6, b7, b8, b9, b10, b11, b12, s5, s6, s7, s8, s9, s10, s11, s12, s13, s14, s15, s16, s4, R, rfl, rfl, h0, h1, h2, h3, h4, h5, h6, h7, h8, h9, h10, h11, h12, hW⟩ hL hm K hK
      obtain rfl : b8 = false := by simpa using hL
      obtain rfl : b7 = true := by cases b7 with | false => (exfalso; revert hm; simp [metB, Region.binds]) | true => rfl
      obtain rfl := h7 rfl
      simp only [puts, Act.put, List.setIfInBounds_toArray, List.set_cons_zero, List.set_cons_succ]
      obtain ⟨⟨q0, q1, q2, q3⟩, p0, p1, p2, p3⟩ := hBox _ hW.1
      go_simp
      exact hK.out _ _ ⟨b0, b1, b2, b3, b4, b5, b6, true, true, b9, b10, b11, b12, s5, s6, s7, s8, s9, s10, s11, .pointer (some ⟨w.heap.size + 1, 1, none⟩), .int .i64 d, s14, s15, s16, s4, R, rfl, by kernel_rfl, h0, h1, h2, h3, h4, h5, h6, fun _ => rfl, fun _ => rfl, h9, h10, h11, h12, hW⟩
    refine StepsI.cons rfl ?_ ?_
    · rintro L zA v ⟨b0, b1, b2, b3, b4, b5, b6, b7, b8, b9, b10, b11, b12, s5, s6, s7, s8, s9, s10, s11, s12, s13, s14, s15, s16, s4, R, rfl, rfl, h0, h1, h2, h3, h4, h5, h6, h7, h8, h9, h10, h11, h12, hW⟩ hL hm K hK
      obtain rfl : b9 = false := by simpa using hL
      obtain rfl : b6 = true := by cases b6 with | false => (exfalso; revert hm; simp [metB, Region.binds]) | true => rfl
      obtain rfl : b8 = true := by cases b8 with | false => (exfalso; revert hm; simp [metB, Region.binds]) | true => rfl
      obtain rfl := h6 rfl
      obtain rfl := h8 rfl
      simp only [puts, Act.put, List.setIfInBounds_toArray, List.set_cons_zero, List.set_cons_succ]
      go_simp
      refine (compare_any _ _ _).mono ?_
      rintro e v2 ⟨rfl, rfl⟩
      go_wp2_with fail
      exact hK.out _ _ ⟨b0, b1, b2, b3, b4, b5, true, b7, true, true, b10, b11, b12, s5, s6, s7, s8, s9, s10, .int .i64 b, s12, .int .i64 d, .int .i64 (cmpI b d), s15, s16, s4, R, rfl, by kernel_rfl, h0, h1, h2, h3, h4, h5, fun _ => rfl, h7, fun _ => rfl, fun _ => rfl, h10, h11, h12, hW⟩
    refine StepsI.cons rfl ?_ ?_
    · rintro L zA v ⟨b0, b1, b2, b3, b4, b5, b6, b7, b8, b9, b10, b11, b12, s5, s6, s7, s8, s9, s10, s11, s12, s13, s14, s15, s16, s4, R, rfl, rfl, h0, h1, h2, h3, h4, h5, h6, h7, h8, h9, h10, h11, h12, hW⟩ hL hm K hK
      obtain rfl : b10 = false := by simpa using hL
      obtain rfl : b4 = true := by cases b4 with | false => (exfalso; revert hm; simp [metB, Region.binds]) | true => rfl
      obtain rfl : b9 = true := by cases b9 with | false => (exfalso; revert hm; simp [metB, Region.binds]) | true => rfl
      obtain rfl := h4 rfl
      obtain rfl := h9 rfl
      simp only [puts, Act.put, List.setIfInBounds_toArray, List.set_cons_zero, List.set_cons_succ]
      go_simp
      exact hK.out _ _ ⟨b0, b1, b2, b3, true, b5, b6, b7, b8, true, true, b11, b12, s5, s6, s7, s8, .int .i64 (cmpI a c), s10, s11, s12, s13, .int .i64 (cmpI b d), .slice (some ⟨v.heap.size, 0, none⟩) 2 2, s16, s4, v.heap.size, rfl, by kernel_rfl, h0, h1, h2, h3, fun _ => rfl, h5, h6, h7, h8, fun _ => rfl, fun _ => rfl, h11, h12, ⟨below_step hW.1 ((Below.refl _ _).alloc (Nat.le_refl _) _), fun _ => ⟨by simp [go_sem], by simp [go_sem]⟩⟩⟩
    refine StepsI.cons rfl ?_ ?_
    · rintro L zA v ⟨b0, b1, b2, b3, b4, b5, b6, b7, b8, b9, b10, b11, b12, s5, s6, s7, s8, s9, s10, s11, s12, s13, s14, s15, s16, s4, R, rfl, rfl, h0, h1, h2, h3, h4, h5, h6, h7, h8, h9, h10, h11, h12, hW⟩ hL hm K hK
      obtain rfl : b11 = false := by simpa using hL
      obtain rfl : b10 = true := by cases b10 with | false => (exfalso; revert hm; simp [metB, Region.binds]) | true => rfl
      obtain rfl := h10 rfl
      simp only [puts, Act.put, List.setIfInBounds_toArray, List.set_cons_zero, List.set_cons_succ]
      go_simp
      refine (or2_any _ _ R _ _ (hW.2 (by trivial)).1 (hW.2 (by trivial)).2).mono ?_
      rintro e v2 ⟨rfl, rfl⟩
      go_wp2_with fail
      exact hK.out _ _ ⟨b0, b1, b2, b3, b4, b5, b6, b7, b8, b9, true, true, b12, s5, s6, s7, s8, s9, s10, s11, s12, s13, s14, .slice (some ⟨R, 0, none⟩) 2 2, .int .i64 (orI (cmpI a c) (cmpI b d)), s4, R, rfl, by kernel_rfl, h0, h1, h2, h3, h4, h5, h6, h7, h8, h9, fun _ => rfl, fun _ => rfl, h12, ⟨hW.1, fun _ => hW.2 (by trivial)⟩⟩
    refine StepsI.cons rfl ?_ ?_
    · rintro L zA v ⟨b0, b1, b2, b3, b4, b5, b6, b7, b8, b9, b10, b11, b12, s5, s6, s7, s8, s9, s10, s11, s12, s13, s14, s15, s16, s4, R, rfl, rfl, h0, h1, h2, h3, h4, h5, h6, h7, h8, h9, h10, h11, h12, hW⟩ hL hm K hK
      obtain rfl : b12 = false := by simpa using hL
      obtain rfl : b11 = true := by cases b11 with | false => (exfalso; revert hm; simp [metB, Region.binds]) | true => rfl
      obtain rfl := h11 rfl
      simp only [puts, Act.put, List.setIfInBounds_toArray, List.set_cons_zero, List.set_cons_succ]
      go_simp
      exact hK.out _ _ ⟨b0, b1, b2, b3, b4, b5, b6, b7, b8, b9, b10, true, true, s5, s6, s7, s8, s9, s10, s11, s12, s13, s14, s15, .int .i64 (orI (cmpI a c) (cmpI b d)), .int .i64 (orI (cmpI a c) (cmpI b d)), R, rfl, by kernel_rfl, h0, h1, h2, h3, h4, h5, h6, h7, h8, h9, h10, fun _ => rfl, fun _ => rfl, hW⟩
    exact StepsI.nil (by kernel_rfl)
  · rintro L zA v ⟨b0, b1, b2, b3, b4, b5, b6, b7, b8, b9, b10, b11, b12, s5, s6, s7, s8, s9, s10, s11, s12, s13, s14, s15, s16, s4, R, rfl, rfl, h0, h1, h2, h3, h4, h5, h6, h7, h8, h9, h10, h11, h12, hW⟩ hr
    have hu := all_up (by kernel_rfl) (N := 13) (by kernel_rfl) hr
    obtain rfl : b0 = true := by simpa using hu 0 (by decide)
    obtain rfl : b1 = true := by simpa using hu 1 (by decide)
    obtain rfl : b2 = true := by simpa using hu 2 (by decide)
    obtain rfl : b3 = true := by simpa using hu 3 (by decide)
    obtain rfl : b4 = true := by simpa using hu 4 (by decide)
    obtain rfl : b5 = true := by simpa using hu 5 (by decide)
    obtain rfl : b6 = true := by simpa using hu 6 (by decide)
    obtain rfl : b7 = true := by simpa using hu 7 (by decide)
    obtain rfl : b8 = true := by simpa using hu 8 (by decide)
    obtain rfl : b9 = true := by simpa using hu 9 (by decide)
    obtain rfl : b10 = true := by simpa using hu 10 (by decide)
    obtain rfl : b11 = true := by simpa using hu 11 (by decide)
    obtain rfl : b12 = true := by simpa using hu 12 (by decide)
    obtain rfl := h0 rfl
    obtain rfl := h1 rfl
    obtain rfl := h2 rfl
    obtain rfl := h3 rfl
    obtain rfl := h4 rfl
    obtain rfl := h5 rfl
    obtain rfl := h6 rfl
    obtain rfl := h7 rfl
    obtain rfl := h8 rfl
    obtain rfl := h9 rfl
    obtain rfl := h10 rfl
    obtain rfl := h11 rfl
    obtain rfl := h12 rfl
    clear hu hr
    simp only [puts, Act.put, List.setIfInBounds_toArray, List.set_cons_zero, List.set_cons_succ]
    have HB := mkHid (below_step B0.out hW.1)
    clear hW
    go_wp2
    go_ret
    exact ⟨rfl, HB.out⟩
set_option maxHeartbeats 400000 in
theorem iSymLess_any (a b c d : Int) (w : World) : Calls Try.prog 34 #[.agg #[.int .i64 a, .int .i64 b], .agg #[.int .i64 c, .int .i64 d]] w fun e w' => e = .returned (.bool (lessB a b c d)) ∧ Below w.heap.size w w' := by
  have B0 := mkHid (((Below.refl w.heap.size w).alloc (Nat.le_refl _) (.cells #[.int .i64 a, .int .i64 b] 46)).alloc (by simp) (.cells #[.int .i64 c, .int .i64 d] 46))
  have HC := mkHid (cmp_less a b c d)
  go_enter Try.func34, Try.ntmps34
  go_wp2_with fail
  refine (compareSyms_any a b c d _).mono ?_
  rintro e w' ⟨rfl, hb⟩
  have B1 := mkHid (below_step B0.out hb)
  clear hb B0
  go_wp2
  go_ret
  exact ⟨ret_bool HC.out, B1.out⟩
set_option maxHeartbeats 800000 in
theorem sSymLess_any (a b c d : Int) (w : World) : Calls Try.prog 33 #[.agg #[.int .i64 a, .int .i64 b], .agg #[.int .i64 c, .int .i64 d]] w fun e w' => e = .returned (.bool (lessB a b c d)) ∧ Below w.heap.size w w' := by
  have B0 := mkHid (((Below.refl w.heap.size w).alloc (Nat.le_refl _) (.cells #[.int .i64 a, .int .i64 b] 46)).alloc (by simp) (.cells #[.int .i64 c, .int .i64 d] 46))
  unfold lessB
  by_cases h1 : a < c
  · rw [decide_eq_true (.inl h1)]
    go_enter Try.func33, Try.ntmps33
    go_wp2
    go_ret
    exact ⟨rfl, B0.out⟩
  · by_cases h2 : a = c
    · subst h2
      have e : Hid (decide (a < a ∨ a = a ∧ b < d) = decide (b < d)) := mkHid (by rw [decide_eq_decide]; omega)
      rw [e.out]
      have hs : (a == a) = true := by simp
      have hl : ¬ a < a := by omega
      go_enter Try.func33, Try.ntmps33
      go_wp2
      go_ret
      exact ⟨rfl, B0.out⟩
    · rw [decide_eq_false (by omega)]
      have hs : (a == c) = false := by simp [h2]
      go_enter Try.func33, Try.ntmps33
      go_wp2
      go_ret
      exact ⟨rfl, B0.out⟩
set_option maxHeartbeats 800000 in
theorem sSymOk_any (n v c : Int) (w : World) : Calls Try.prog 30 #[.int .i64 n, .agg #[.int .i64 v, .int .i64 c]] w fun e w' => e = .returned (.bool (symOkB n v c)) ∧ Below w.heap.size w w' := by
  have B0 := mkHid ((Below.refl w.heap.size w).alloc (Nat.le_refl _) (.cells #[.int .i64 v, .int .i64 c] 46))
  unfold symOkB
  cases h1 : btw n 1 13
  · go_enter Try.func30, Try.ntmps30
    go_wp2_with (first | (go_at_call 68; refine (between_any _ _ _ _).mono ?_; rintro e w' ⟨rfl, rfl⟩))
    go_ret
    exact ⟨rfl, B0.out⟩
  · have hn : 1 ≤ n ∧ n ≤ 13 := of_decide_eq_true h1
    obtain ⟨k, hk⟩ : ∃ k, n - 1 = k := ⟨_, rfl⟩
    have hw : IntKind.i64.wrap (n - 1) = k := by rw [← hk]; exact IntWalk.i64_in _ (by omega)
    rw [hk]
    clear hk hn
    cases h2 : btw v 0 k
    · go_enter Try.func30, Try.ntmps30
      go_wp2_with (first | (go_at_call 68; refine (between_any _ _ _ _).mono ?_; rintro e w' ⟨rfl, rfl⟩))
      go_ret
      exact ⟨rfl, B0.out⟩
    · go_enter Try.func30, Try.ntmps30
      go_wp2_with (first | (go_at_call 68; refine (between_any _ _ _ _).mono ?_; rintro e w' ⟨rfl, rfl⟩))
      go_ret
      exact ⟨rfl, B0.out⟩
set_option maxHeartbeats 800000 in
theorem iSymOk_any (n v c : Int) (w : World) : Calls Try.prog 32 #[.int .i64 n, .agg #[.int .i64 v, .int .i64 c]] w fun e w' => e = .returned (.bool (symOkB n v c)) ∧ Below w.heap.size w w' := by
  have B0 := mkHid ((Below.refl w.heap.size w).alloc (Nat.le_refl _) (.cells #[.int .i64 v, .int .i64 c] 46))
  unfold symOkB
  cases h1 : btw n 1 13
  · go_enter Try.func32, Try.ntmps32
    go_wp2_with (first | (go_at_call 74; refine (isBetween_any _ _ _ _).mono ?_; rintro e w' ⟨rfl, rfl⟩))
    go_ret
    exact ⟨rfl, B0.out⟩
  · have hn : 1 ≤ n ∧ n ≤ 13 := of_decide_eq_true h1
    obtain ⟨k, hk⟩ : ∃ k, n - 1 = k := ⟨_, rfl⟩
    have hw : IntKind.i64.wrap (n - 1) = k := by rw [← hk]; exact IntWalk.i64_in _ (by omega)
    rw [hk]
    clear hk hn
    cases h2 : btw v 0 k
    · go_enter Try.func32, Try.ntmps32
      go_wp2_with (first | (go_at_call 74; refine (isBetween_any _ _ _ _).mono ?_; rintro e w' ⟨rfl, rfl⟩))
      go_ret
      exact ⟨rfl, B0.out⟩
    · go_enter Try.func32, Try.ntmps32
      go_wp2_with (first | (go_at_call 74; refine (isBetween_any _ _ _ _).mono ?_; rintro e w' ⟨rfl, rfl⟩))
      go_ret
      exact ⟨rfl, B0.out⟩
end Go.Proofs.Ytmaejdomlggopaa
