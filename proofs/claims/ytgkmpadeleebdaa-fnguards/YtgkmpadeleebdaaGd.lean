/-
  GUARDS: models (plain); CONTRACTS of l02IsCond, l06Without of the specification, guardLess, withoutOnly of the program.
-/
import Derived.Test.YtgkmpadeleebdaaIp
import Derived.Test.YtgkmpadeleebdaaSpb
import Derived.Test.YtgkmpadeleebdaaReg
namespace Go.Proofs.Ytgkmpadeleebdaa
open Go.RowKit
attribute [local go_sem] nlt2 nlt3 nlt4 nle2 nle3 nle4 drew_size drew_cell drew_frozen

theorem bl_set2 {w a : World} {p : Addr} (hp : w.heap.size ≤ p.block) (h : Below w.heap.size w a) (u : Value) : Below w.heap.size w (a.setCell p u) := h.setCell hp u
theorem mk_span {x y : Int} (h0 : -1000000 ≤ x) (h1 : y ≤ 1000000) : mkM x y = spanM x y := by
  unfold mkM
  rw [show max x (-1000000) = x by omega, show min y 1000000 = y by omega]
def woM (a b x : Int) : Int × Int := if a = x then spanM (a + 1) b else if b = x then spanM a (b - 1) else (a, b)
def withM (a b c d : Int) : Int × Int := if c = d then woM a b c else (a, b)
def lessM (g a b c d : Int) : (Int × Int) × (Int × Int) := (spanM a (min b (d - g)), spanM (max c (a + g)) d)
def swapM (p : (Int × Int) × (Int × Int)) : (Int × Int) × (Int × Int) := (p.2, p.1)
def noneM : (Int × Int) × (Int × Int) := ((1, 0), (1, 0))
def guardM (k a b c d : Int) : (Int × Int) × (Int × Int) :=
  if bothB a b c d then
    if k = 11 then lessM 1 a b c d else if k = 12 then lessM 0 a b c d else if k = 13 then swapM (lessM 1 c d a b) else if k = 14 then swapM (lessM 0 c d a b)
    else if k = 15 then (meetM a b c d, meetM a b c d) else if k = 16 then (withM a b c d, withM c d a b) else noneM
  else noneM
theorem ret_two {G : (Int × Int) × (Int × Int)} {x1 x2 y1 y2 : Int} (h : G = ((x1, x2), (y1, y2))) : Ending.returned (.tuple #[.agg #[.int .i64 x1, .int .i64 x2], .agg #[.int .i64 y1, .int .i64 y2]]) = .returned (.tuple #[.agg #[.int .i64 G.1.1, .int .i64 G.1.2], .agg #[.int .i64 G.2.1, .int .i64 G.2.2]]) := by rw [h]
theorem isCond_any (k : Int) (w : World) : Calls Try.prog 44 #[.int .i64 k] w fun e w' => e = .returned (.bool (btw k 11 16)) ∧ w = w' := by
  have hEq := eql_rng
  have hMx := @run_max_M Try.prog
  have hMn := @run_min_M Try.prog
  go_enter Try.func44, Try.ntmps44
  go_wp2_with (go_at_call 50; refine (between_any _ _ _ _).mono ?_; rintro e w' ⟨rfl, rfl⟩)
  go_ret
  exact ⟨rfl, rfl⟩
set_option maxHeartbeats 800000 in
theorem sWo_any (a b x : Int) (w : World) (h0 : -1000000 ≤ a) (h1 : a ≤ b) (h2 : b ≤ 1000000) : Calls Try.prog 46 #[.agg #[.int .i64 a, .int .i64 b], .int .i64 x] w fun e w' => e = .returned (.agg #[.int .i64 (woM a b x).1, .int .i64 (woM a b x).2]) ∧ Below w.heap.size w w' := by
  by_cases h3 : a = x
  · have E := mkHid (show woM a b x = mkM (a + 1) b by unfold woM; rw [if_pos h3, mk_span (by omega) (by omega)])
    subst h3
    have hEq := eql_rng
    have hMx := @run_max_M Try.prog
    have hMn := @run_min_M Try.prog
    go_enter Try.func46, Try.ntmps46
    go_wp2_with (go_at_call 33; refine (sMake_any _ _ _).mono ?_; rintro e w' ⟨rfl, hb⟩; (try rw [below_drew] at hb); obtain ⟨hc, hf, hm, hs⟩ := bcell4 hb; have hz0 : w.heap.size < w'.heap.size := (by have := hb.size; (try simp at this); omega); have hl0 := Nat.le_of_lt hz0; have hz1 : w.heap.size + 1 < w'.heap.size := (by have := hb.size; (try simp at this); omega); have hl1 := Nat.le_of_lt hz1)
    exact bodyPost_ret (v := .agg #[.int .i64 (mkM (a + 1) b).1, .int .i64 (mkM (a + 1) b).2]) (by simp [results, Try.results46, go_sem, *]) rfl ⟨ret_rng E.out, (by repeat (first | (with_reducible refine bl_set2 ?_ ?_ _; (first | (simp; done) | (simp [*]; done) | (simp [*] <;> omega))) | with_reducible refine bl_drew ?_ | with_reducible refine bl_alloc ?_ _ | with_reducible refine below_step ?_ (by assumption) | with_reducible assumption | with_reducible exact Below.refl _ _))⟩
  · by_cases h4 : b = x
    · have E := mkHid (show woM a b x = mkM a (b - 1) by unfold woM; rw [if_neg h3, if_pos h4, mk_span (by omega) (by omega)])
      subst h4
      have hEq := eql_rng
      have hMx := @run_max_M Try.prog
      have hMn := @run_min_M Try.prog
      go_enter Try.func46, Try.ntmps46
      go_wp2_with (go_at_call 33; refine (sMake_any _ _ _).mono ?_; rintro e w' ⟨rfl, hb⟩; (try rw [below_drew] at hb); obtain ⟨hc, hf, hm, hs⟩ := bcell4 hb; have hz0 : w.heap.size < w'.heap.size := (by have := hb.size; (try simp at this); omega); have hl0 := Nat.le_of_lt hz0; have hz1 : w.heap.size + 1 < w'.heap.size := (by have := hb.size; (try simp at this); omega); have hl1 := Nat.le_of_lt hz1)
      exact bodyPost_ret (v := .agg #[.int .i64 (mkM a (b - 1)).1, .int .i64 (mkM a (b - 1)).2]) (by simp [results, Try.results46, go_sem, *]) rfl ⟨ret_rng E.out, (by repeat (first | (with_reducible refine bl_set2 ?_ ?_ _; (first | (simp; done) | (simp [*]; done) | (simp [*] <;> omega))) | with_reducible refine bl_drew ?_ | with_reducible refine bl_alloc ?_ _ | with_reducible refine below_step ?_ (by assumption) | with_reducible assumption | with_reducible exact Below.refl _ _))⟩
    · have E := mkHid (show woM a b x = (a, b) by unfold woM; rw [if_neg h3, if_neg h4])
      have hEq := eql_rng
      have hMx := @run_max_M Try.prog
      have hMn := @run_min_M Try.prog
      go_enter Try.func46, Try.ntmps46
      go_wp2_with (go_at_call 33; refine (sMake_any _ _ _).mono ?_; rintro e w' ⟨rfl, hb⟩; (try rw [below_drew] at hb); obtain ⟨hc, hf, hm, hs⟩ := bcell4 hb; have hz0 : w.heap.size < w'.heap.size := (by have := hb.size; (try simp at this); omega); have hl0 := Nat.le_of_lt hz0; have hz1 : w.heap.size + 1 < w'.heap.size := (by have := hb.size; (try simp at this); omega); have hl1 := Nat.le_of_lt hz1)
      exact bodyPost_ret (v := .agg #[.int .i64 a, .int .i64 b]) (by simp [results, Try.results46, go_sem, *]) rfl ⟨ret_rng E.out, (by repeat (first | (with_reducible refine bl_set2 ?_ ?_ _; (first | (simp; done) | (simp [*]; done) | (simp [*] <;> omega))) | with_reducible refine bl_drew ?_ | with_reducible refine bl_alloc ?_ _ | with_reducible refine below_step ?_ (by assumption) | with_reducible assumption | with_reducible exact Below.refl _ _))⟩
set_option maxHeartbeats 800000 in
theorem iWo_any (a b c d : Int) (w : World) (h0 : -1000000 ≤ a) (h1 : a ≤ b) (h2 : b ≤ 1000000) : Calls Try.prog 43 #[.agg #[.int .i64 a, .int .i64 b], .agg #[.int .i64 c, .int .i64 d]] w fun e w' => e = .returned (.agg #[.int .i64 (withM a b c d).1, .int .i64 (withM a b c d).2]) ∧ Below w.heap.size w w' := by
  by_cases hc0 : c = d
  · subst hc0
    have E0 := mkHid (show withM a b c c = woM a b c from if_pos rfl)
    by_cases h3 : a = c
    · have E := mkHid (E0.out.trans (show woM a b c = spanM (a + 1) b by unfold woM; rw [if_pos h3]))
      subst h3
      clear E0
      have hEq := eql_rng
      have hMx := @run_max_M Try.prog
      have hMn := @run_min_M Try.prog
      go_enter Try.func43, Try.ntmps43
      go_wp2_with (go_at_call 49; refine (iSpanM_any _ _ _).mono ?_; rintro e w' ⟨rfl, hb⟩; (try rw [below_drew] at hb); obtain ⟨hc, hf, hm, hs⟩ := bcell4 hb; have hz0 : w.heap.size < w'.heap.size := (by have := hb.size; (try simp at this); omega); have hl0 := Nat.le_of_lt hz0; have hz1 : w.heap.size + 1 < w'.heap.size := (by have := hb.size; (try simp at this); omega); have hl1 := Nat.le_of_lt hz1; have hz2 : w.heap.size + 2 < w'.heap.size := (by have := hb.size; (try simp at this); omega); have hl2 := Nat.le_of_lt hz2)
      exact bodyPost_ret (v := .agg #[.int .i64 (spanM (a + 1) b).1, .int .i64 (spanM (a + 1) b).2]) (by simp [results, Try.results43, go_sem, *]) rfl ⟨ret_rng E.out, (by repeat (first | (with_reducible refine bl_set2 ?_ ?_ _; (first | (simp; done) | (simp [*]; done) | (simp [*] <;> omega))) | with_reducible refine bl_drew ?_ | with_reducible refine bl_alloc ?_ _ | with_reducible refine below_step ?_ (by assumption) | with_reducible assumption | with_reducible exact Below.refl _ _))⟩
    · by_cases h4 : b = c
      · have E := mkHid (E0.out.trans (show woM a b c = spanM a (b - 1) by unfold woM; rw [if_neg h3, if_pos h4]))
        subst h4
        clear E0
        have hEq := eql_rng
        have hMx := @run_max_M Try.prog
        have hMn := @run_min_M Try.prog
        go_enter Try.func43, Try.ntmps43
        go_wp2_with (go_at_call 49; refine (iSpanM_any _ _ _).mono ?_; rintro e w' ⟨rfl, hb⟩; (try rw [below_drew] at hb); obtain ⟨hc, hf, hm, hs⟩ := bcell4 hb; have hz0 : w.heap.size < w'.heap.size := (by have := hb.size; (try simp at this); omega); have hl0 := Nat.le_of_lt hz0; have hz1 : w.heap.size + 1 < w'.heap.size := (by have := hb.size; (try simp at this); omega); have hl1 := Nat.le_of_lt hz1; have hz2 : w.heap.size + 2 < w'.heap.size := (by have := hb.size; (try simp at this); omega); have hl2 := Nat.le_of_lt hz2)
        exact bodyPost_ret (v := .agg #[.int .i64 (spanM a (b - 1)).1, .int .i64 (spanM a (b - 1)).2]) (by simp [results, Try.results43, go_sem, *]) rfl ⟨ret_rng E.out, (by repeat (first | (with_reducible refine bl_set2 ?_ ?_ _; (first | (simp; done) | (simp [*]; done) | (simp [*] <;> omega))) | with_reducible refine bl_drew ?_ | with_reducible refine bl_alloc ?_ _ | with_reducible refine below_step ?_ (by assumption) | with_reducible assumption | with_reducible exact Below.refl _ _))⟩
      · have E := mkHid (E0.out.trans (show woM a b c = (a, b) by unfold woM; rw [if_neg h3, if_neg h4]))
        clear E0
        have hEq := eql_rng
        have hMx := @run_max_M Try.prog
        have hMn := @run_min_M Try.prog
        go_enter Try.func43, Try.ntmps43
        go_wp2_with (go_at_call 49; refine (iSpanM_any _ _ _).mono ?_; rintro e w' ⟨rfl, hb⟩; (try rw [below_drew] at hb); obtain ⟨hc, hf, hm, hs⟩ := bcell4 hb; have hz0 : w.heap.size < w'.heap.size := (by have := hb.size; (try simp at this); omega); have hl0 := Nat.le_of_lt hz0; have hz1 : w.heap.size + 1 < w'.heap.size := (by have := hb.size; (try simp at this); omega); have hl1 := Nat.le_of_lt hz1; have hz2 : w.heap.size + 2 < w'.heap.size := (by have := hb.size; (try simp at this); omega); have hl2 := Nat.le_of_lt hz2)
        exact bodyPost_ret (v := .agg #[.int .i64 a, .int .i64 b]) (by simp [results, Try.results43, go_sem, *]) rfl ⟨ret_rng E.out, (by repeat (first | (with_reducible refine bl_set2 ?_ ?_ _; (first | (simp; done) | (simp [*]; done) | (simp [*] <;> omega))) | with_reducible refine bl_drew ?_ | with_reducible refine bl_alloc ?_ _ | with_reducible refine below_step ?_ (by assumption) | with_reducible assumption | with_reducible exact Below.refl _ _))⟩
  · have E := mkHid (show withM a b c d = (a, b) from if_neg hc0)
    have hEq := eql_rng
    have hMx := @run_max_M Try.prog
    have hMn := @run_min_M Try.prog
    go_enter Try.func43, Try.ntmps43
    go_wp2_with (go_at_call 49; refine (iSpanM_any _ _ _).mono ?_; rintro e w' ⟨rfl, hb⟩; (try rw [below_drew] at hb); obtain ⟨hc, hf, hm, hs⟩ := bcell4 hb; have hz0 : w.heap.size < w'.heap.size := (by have := hb.size; (try simp at this); omega); have hl0 := Nat.le_of_lt hz0; have hz1 : w.heap.size + 1 < w'.heap.size := (by have := hb.size; (try simp at this); omega); have hl1 := Nat.le_of_lt hz1; have hz2 : w.heap.size + 2 < w'.heap.size := (by have := hb.size; (try simp at this); omega); have hl2 := Nat.le_of_lt hz2)
    exact bodyPost_ret (v := .agg #[.int .i64 a, .int .i64 b]) (by simp [results, Try.results43, go_sem, *]) rfl ⟨ret_rng E.out, (by repeat (first | (with_reducible refine bl_set2 ?_ ?_ _; (first | (simp; done) | (simp [*]; done) | (simp [*] <;> omega))) | with_reducible refine bl_drew ?_ | with_reducible refine bl_alloc ?_ _ | with_reducible refine below_step ?_ (by assumption) | with_reducible assumption | with_reducible exact Below.refl _ _))⟩
set_option maxHeartbeats 1600000 in
theorem less_any (g a b c d : Int) (w : World) (g0 : 0 ≤ g) (g1 : g ≤ 1) (h0 : -1000000 ≤ a) (h1 : a ≤ b) (h2 : b ≤ 1000000) (h3 : -1000000 ≤ c) (h4 : c ≤ d) (h5 : d ≤ 1000000) : Calls Try.prog 41 #[.agg #[.int .i64 a, .int .i64 b], .agg #[.int .i64 c, .int .i64 d], .int .i64 g] w fun e w' => e = .returned (.tuple #[.agg #[.int .i64 (lessM g a b c d).1.1, .int .i64 (lessM g a b c d).1.2], .agg #[.int .i64 (lessM g a b c d).2.1, .int .i64 (lessM g a b c d).2.2]]) ∧ Below w.heap.size w w' := by
  have e1 : IntKind.i64.wrap (d - g) = d - g := by rw [IntKind.wrap_i64]; omega
  have e2 : IntKind.i64.wrap (a + g) = a + g := by rw [IntKind.wrap_i64]; omega
  have hEq := eql_rng
  have hMx := @run_max_M Try.prog
  have hMn := @run_min_M Try.prog
  go_enter Try.func41, Try.ntmps41
  go_wp2
  go_region_held3 (fun v => v.cell? ⟨w.heap.size, 0, none⟩ = some (.int .i64 a) ∧ v.cell? ⟨w.heap.size, 1, none⟩ = some (.int .i64 b) ∧ v.cell? ⟨w.heap.size + 1, 0, none⟩ = some (.int .i64 c) ∧ v.cell? ⟨w.heap.size + 1, 1, none⟩ = some (.int .i64 d)) (first | (simp (maxDischargeDepth := 12) [*, go_sem]; done) | assumption) (first | (go_at_call 49; refine (iSpanM_any _ _ _).mono ?_; rintro e w' ⟨rfl, hb⟩; (try rw [below_drew] at hb); obtain ⟨hc, hf, hm, hs⟩ := bcell4 hb; have hz0 : w.heap.size < w'.heap.size := (by have := hb.size; (try simp at this); omega); have hl0 := Nat.le_of_lt hz0; have hz1 : w.heap.size + 1 < w'.heap.size := (by have := hb.size; (try simp at this); omega); have hl1 := Nat.le_of_lt hz1; have hz2 : w.heap.size + 2 < w'.heap.size := (by have := hb.size; (try simp at this); omega); have hl2 := Nat.le_of_lt hz2; have hz3 : w.heap.size + 3 < w'.heap.size := (by have := hb.size; (try simp at this); omega); have hl3 := Nat.le_of_lt hz3))
  all_goals
    go_wp2
    exact bodyPost_ret (v := .tuple #[.agg #[.int .i64 (spanM a (min b (d - g))).1, .int .i64 (spanM a (min b (d - g))).2], .agg #[.int .i64 (spanM (max c (a + g)) d).1, .int .i64 (spanM (max c (a + g)) d).2]]) (by simp [results, Try.results41, go_sem, *]) rfl ⟨rfl, (by repeat (first | (with_reducible refine bl_set2 ?_ ?_ _; (first | (simp; done) | (simp [*]; done) | (simp [*] <;> omega))) | with_reducible refine bl_drew ?_ | with_reducible refine bl_alloc ?_ _ | with_reducible refine below_step ?_ (by assumption) | with_reducible assumption | with_reducible exact Below.refl _ _))⟩
end Go.Proofs.Ytgkmpadeleebdaa
