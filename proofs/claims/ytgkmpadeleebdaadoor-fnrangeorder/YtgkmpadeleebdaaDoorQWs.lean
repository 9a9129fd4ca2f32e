/-
  CONTRACT of the specification's RangeWiden, over steps that lie in memory.
-/
import Derived.Test.YtgkmpadeleebdaaDoorQWd
import Derived.Test.YtgkmpadeleebdaaDoorQStc
namespace Go.Proofs.YtgkmpadeleebdaaDoor.Q
open Go.RowKit
attribute [local go_sem] nlt2 nlt3 nlt4 nle2 nle3 nle4 drew_size drew_cell drew_frozen

theorem below_bd {x : Int} (hx : -1000000 ≤ x) : ∀ (l : List Int) (f : Int), l.all valB = true → -1000000 ≤ f → f ≤ x → -1000000 ≤ l.foldl (fun f s => if s ≤ x then s else f) f ∧ l.foldl (fun f s => if s ≤ x then s else f) f ≤ x
  | [], f, _, h0, h1 => ⟨h0, h1⟩
  | s :: l, f, h, h0, h1 => by
    rw [List.all_cons, Bool.and_eq_true] at h
    have hs : -1000000 ≤ s ∧ s ≤ 1000000 := by have := h.1; unfold valB at this; simpa using this
    rw [List.foldl_cons]
    by_cases hc : s ≤ x
    · rw [if_pos hc]; exact below_bd hx l s h.2 hs.1 hc
    · rw [if_neg hc]; exact below_bd hx l f h.2 h0 h1
theorem above_bd {x : Int} (hx : x ≤ 1000000) : ∀ (l : List Int), l.all valB = true → x ≤ aboveM x l ∧ aboveM x l ≤ 1000000
  | [], _ => ⟨hx, Int.le_refl _⟩
  | s :: l, h => by
    rw [List.all_cons, Bool.and_eq_true] at h
    have hs : -1000000 ≤ s ∧ s ≤ 1000000 := by have := h.1; unfold valB at this; simpa using this
    unfold aboveM
    by_cases hc : x ≤ s
    · rw [if_pos hc]; exact ⟨hc, hs.2⟩
    · rw [if_neg hc]; exact above_bd hx l h.2
theorem widen_mk {a b c d : Int} {l : List Int} (h1 : okB a b = true) (h2 : okB c d = true) (h3 : stepsB l = true) (g1 : isB a b = true) (g2 : isB c d = true) : widenM a b c d l = mkM (if c < a then belowM c l else a) (if b < d then aboveM d l else b) := by
  have E0 : widenM a b c d l = (if c < a then belowM c l else a, if b < d then aboveM d l else b) := by
    unfold widenM; rw [h1, h2, h3, g1, g2]; rfl
  have i1 := ok_iff.1 h1
  have i2 := ok_iff.1 h2
  have i3 := is_iff.1 g1
  have i4 := is_iff.1 g2
  have hv : l.all valB = true := by unfold stepsB valsB at h3; simp only [Bool.and_eq_true] at h3; exact h3.2.1
  have b1 := below_bd (x := c) (by omega) l (-1000000) hv (Int.le_refl _) (by omega)
  have b2 := above_bd (x := d) (by omega) l hv
  have b1' : -1000000 ≤ belowM c l ∧ belowM c l ≤ c := b1
  rw [E0]
  by_cases q1 : c < a <;> by_cases q2 : b < d
  · rw [if_pos q1, if_pos q2, mk_in (by omega) (by omega) (by omega)]
  · rw [if_pos q1, if_neg q2, mk_in (by omega) (by omega) (by omega)]
  · rw [if_neg q1, if_pos q2, mk_in (by omega) (by omega) (by omega)]
  · rw [if_neg q1, if_neg q2, mk_in (by omega) (by omega) (by omega)]
set_option maxRecDepth 100000 in
set_option maxHeartbeats 1600000 in
theorem sWiden_no (a b c d : Int) (l : List Int) (k off cap : Nat) (w : World) (hl : IntsIn w l k off) (hn : l.length ≤ maxLen) (h : (okB a b && (okB c d && stepsB l)) = false) : Calls Tryd.prog 12 #[.agg #[.int .i64 a, .int .i64 b], .agg #[.int .i64 c, .int .i64 d], .slice (some ⟨k, off, none⟩) l.length cap] w fun e w' => e = .returned (.agg #[.int .i64 (widenM a b c d l).1, .int .i64 (widenM a b c d l).2]) ∧ Below w.heap.size w w' := by
  have E := mkHid (show widenM a b c d l = (1, 0) by unfold widenM; rw [h]; rfl)
  have HL := mkHid hl
  have HN := mkHid hn
  clear hl hn
  cases h1 : okB a b <;> cases h2 : okB c d <;> cases h3 : stepsB l
  case true.true.true => rw [h1, h2, h3] at h; cases h
  all_goals
    clear h
    have hEq := eql_rng
    have hMx := @run_max_M Tryd.prog
    have hMn := @run_min_M Tryd.prog
    go_enter Tryd.func12, Tryd.ntmps12
    go_wp2_with (first | (go_at_call 13; refine (sOk_any _ _ _).mono ?_; rintro e w' ⟨rfl, hb⟩; (try rw [below_drew] at hb); obtain ⟨hc, hf, hm, hs⟩ := bcell4 hb; have hz0 : w.heap.size < w'.heap.size := (by have := hb.size; (try simp at this); omega); have hl0 := Nat.le_of_lt hz0; have hz1 : w.heap.size + 1 < w'.heap.size := (by have := hb.size; (try simp at this); omega); have hl1 := Nat.le_of_lt hz1; have hz2 : w.heap.size + 2 < w'.heap.size := (by have := hb.size; (try simp at this); omega); have hl2 := Nat.le_of_lt hz2) | (go_at_call 30; refine (sNone_any _).mono ?_; rintro e w' ⟨rfl, hb⟩; (try rw [below_drew] at hb); obtain ⟨hc, hf, hm, hs⟩ := bcell4 hb; have hz0 : w.heap.size < w'.heap.size := (by have := hb.size; (try simp at this); omega); have hl0 := Nat.le_of_lt hz0; have hz1 : w.heap.size + 1 < w'.heap.size := (by have := hb.size; (try simp at this); omega); have hl1 := Nat.le_of_lt hz1; have hz2 : w.heap.size + 2 < w'.heap.size := (by have := hb.size; (try simp at this); omega); have hl2 := Nat.le_of_lt hz2) | (go_at_call 31; refine (sIs_any _ _ _).mono ?_; rintro e w' ⟨rfl, hb⟩; (try rw [below_drew] at hb); obtain ⟨hc, hf, hm, hs⟩ := bcell4 hb; have hz0 : w.heap.size < w'.heap.size := (by have := hb.size; (try simp at this); omega); have hl0 := Nat.le_of_lt hz0; have hz1 : w.heap.size + 1 < w'.heap.size := (by have := hb.size; (try simp at this); omega); have hl1 := Nat.le_of_lt hz1; have hz2 : w.heap.size + 2 < w'.heap.size := (by have := hb.size; (try simp at this); omega); have hl2 := Nat.le_of_lt hz2) | (go_at_call 36; refine (sSteps_of l _ _ _ _ HN.out (HL.out.below (by repeat (first | (with_reducible refine bl_set2 ?_ ?_ _; (first | (simp; done) | (simp [*]; done) | (simp [*] <;> omega))) | with_reducible refine bl_drew ?_ | with_reducible refine bl_alloc ?_ _ | with_reducible refine below_step ?_ (by assumption) | with_reducible assumption | with_reducible exact Below.refl _ _)))).mono ?_; rintro e w' ⟨rfl, hb⟩; (try rw [below_drew] at hb); obtain ⟨hc, hf, hm, hs⟩ := bcell4 hb; have hz0 : w.heap.size < w'.heap.size := (by have := hb.size; (try simp at this); omega); have hl0 := Nat.le_of_lt hz0; have hz1 : w.heap.size + 1 < w'.heap.size := (by have := hb.size; (try simp at this); omega); have hl1 := Nat.le_of_lt hz1; have hz2 : w.heap.size + 2 < w'.heap.size := (by have := hb.size; (try simp at this); omega); have hl2 := Nat.le_of_lt hz2) | (go_at_call 32; refine (sMake_any _ _ _).mono ?_; rintro e w' ⟨rfl, hb⟩; (try rw [below_drew] at hb); obtain ⟨hc, hf, hm, hs⟩ := bcell4 hb; have hz0 : w.heap.size < w'.heap.size := (by have := hb.size; (try simp at this); omega); have hl0 := Nat.le_of_lt hz0; have hz1 : w.heap.size + 1 < w'.heap.size := (by have := hb.size; (try simp at this); omega); have hl1 := Nat.le_of_lt hz1; have hz2 : w.heap.size + 2 < w'.heap.size := (by have := hb.size; (try simp at this); omega); have hl2 := Nat.le_of_lt hz2))
    exact bodyPost_ret (v := .agg #[.int .i64 1, .int .i64 0]) (by simp [results, Tryd.results12, go_sem, *]) rfl ⟨ret_rng E.out, (by repeat (first | (with_reducible refine bl_set2 ?_ ?_ _; (first | (simp; done) | (simp [*]; done) | (simp [*] <;> omega))) | with_reducible refine bl_drew ?_ | with_reducible refine bl_alloc ?_ _ | with_reducible refine below_step ?_ (by assumption) | with_reducible assumption | with_reducible exact Below.refl _ _))⟩
set_option maxRecDepth 100000 in
set_option maxHeartbeats 1600000 in
theorem sWiden_j (a b c d : Int) (l : List Int) (k off cap : Nat) (w : World) (hl : IntsIn w l k off) (hn : l.length ≤ maxLen) (h1 : okB a b = true) (h2 : okB c d = true) (h3 : stepsB l = true) (h : isB a b = false ∨ isB c d = false) : Calls Tryd.prog 12 #[.agg #[.int .i64 a, .int .i64 b], .agg #[.int .i64 c, .int .i64 d], .slice (some ⟨k, off, none⟩) l.length cap] w fun e w' => e = .returned (.agg #[.int .i64 (widenM a b c d l).1, .int .i64 (widenM a b c d l).2]) ∧ Below w.heap.size w w' := by
  have HL := mkHid hl
  have HN := mkHid hn
  clear hl hn
  cases g1 : isB a b
  · have E := mkHid (show widenM a b c d l = (c, d) by unfold widenM; rw [h1, h2, h3, g1]; rfl)
    clear h
    have hEq := eql_rng
    have hMx := @run_max_M Tryd.prog
    have hMn := @run_min_M Tryd.prog
    go_enter Tryd.func12, Tryd.ntmps12
    go_wp2_with (first | (go_at_call 13; refine (sOk_any _ _ _).mono ?_; rintro e w' ⟨rfl, hb⟩; (try rw [below_drew] at hb); obtain ⟨hc, hf, hm, hs⟩ := bcell4 hb; have hz0 : w.heap.size < w'.heap.size := (by have := hb.size; (try simp at this); omega); have hl0 := Nat.le_of_lt hz0; have hz1 : w.heap.size + 1 < w'.heap.size := (by have := hb.size; (try simp at this); omega); have hl1 := Nat.le_of_lt hz1; have hz2 : w.heap.size + 2 < w'.heap.size := (by have := hb.size; (try simp at this); omega); have hl2 := Nat.le_of_lt hz2) | (go_at_call 30; refine (sNone_any _).mono ?_; rintro e w' ⟨rfl, hb⟩; (try rw [below_drew] at hb); obtain ⟨hc, hf, hm, hs⟩ := bcell4 hb; have hz0 : w.heap.size < w'.heap.size := (by have := hb.size; (try simp at this); omega); have hl0 := Nat.le_of_lt hz0; have hz1 : w.heap.size + 1 < w'.heap.size := (by have := hb.size; (try simp at this); omega); have hl1 := Nat.le_of_lt hz1; have hz2 : w.heap.size + 2 < w'.heap.size := (by have := hb.size; (try simp at this); omega); have hl2 := Nat.le_of_lt hz2) | (go_at_call 31; refine (sIs_any _ _ _).mono ?_; rintro e w' ⟨rfl, hb⟩; (try rw [below_drew] at hb); obtain ⟨hc, hf, hm, hs⟩ := bcell4 hb; have hz0 : w.heap.size < w'.heap.size := (by have := hb.size; (try simp at this); omega); have hl0 := Nat.le_of_lt hz0; have hz1 : w.heap.size + 1 < w'.heap.size := (by have := hb.size; (try simp at this); omega); have hl1 := Nat.le_of_lt hz1; have hz2 : w.heap.size + 2 < w'.heap.size := (by have := hb.size; (try simp at this); omega); have hl2 := Nat.le_of_lt hz2) | (go_at_call 36; refine (sSteps_of l _ _ _ _ HN.out (HL.out.below (by repeat (first | (with_reducible refine bl_set2 ?_ ?_ _; (first | (simp; done) | (simp [*]; done) | (simp [*] <;> omega))) | with_reducible refine bl_drew ?_ | with_reducible refine bl_alloc ?_ _ | with_reducible refine below_step ?_ (by assumption) | with_reducible assumption | with_reducible exact Below.refl _ _)))).mono ?_; rintro e w' ⟨rfl, hb⟩; (try rw [below_drew] at hb); obtain ⟨hc, hf, hm, hs⟩ := bcell4 hb; have hz0 : w.heap.size < w'.heap.size := (by have := hb.size; (try simp at this); omega); have hl0 := Nat.le_of_lt hz0; have hz1 : w.heap.size + 1 < w'.heap.size := (by have := hb.size; (try simp at this); omega); have hl1 := Nat.le_of_lt hz1; have hz2 : w.heap.size + 2 < w'.heap.size := (by have := hb.size; (try simp at this); omega); have hl2 := Nat.le_of_lt hz2) | (go_at_call 32; refine (sMake_any _ _ _).mono ?_; rintro e w' ⟨rfl, hb⟩; (try rw [below_drew] at hb); obtain ⟨hc, hf, hm, hs⟩ := bcell4 hb; have hz0 : w.heap.size < w'.heap.size := (by have := hb.size; (try simp at this); omega); have hl0 := Nat.le_of_lt hz0; have hz1 : w.heap.size + 1 < w'.heap.size := (by have := hb.size; (try simp at this); omega); have hl1 := Nat.le_of_lt hz1; have hz2 : w.heap.size + 2 < w'.heap.size := (by have := hb.size; (try simp at this); omega); have hl2 := Nat.le_of_lt hz2))
    exact bodyPost_ret (v := .agg #[.int .i64 c, .int .i64 d]) (by simp [results, Tryd.results12, go_sem, *]) rfl ⟨ret_rng E.out, (by repeat (first | (with_reducible refine bl_set2 ?_ ?_ _; (first | (simp; done) | (simp [*]; done) | (simp [*] <;> omega))) | with_reducible refine bl_drew ?_ | with_reducible refine bl_alloc ?_ _ | with_reducible refine below_step ?_ (by assumption) | with_reducible assumption | with_reducible exact Below.refl _ _))⟩
  · have g2 : isB c d = false := by rcases h with h | h; (rw [h] at g1; cases g1); exact h
    have E := mkHid (show widenM a b c d l = (a, b) by unfold widenM; rw [h1, h2, h3, g1, g2]; rfl)
    clear h
    have hEq := eql_rng
    have hMx := @run_max_M Tryd.prog
    have hMn := @run_min_M Tryd.prog
    go_enter Tryd.func12, Tryd.ntmps12
    go_wp2_with (first | (go_at_call 13; refine (sOk_any _ _ _).mono ?_; rintro e w' ⟨rfl, hb⟩; (try rw [below_drew] at hb); obtain ⟨hc, hf, hm, hs⟩ := bcell4 hb; have hz0 : w.heap.size < w'.heap.size := (by have := hb.size; (try simp at this); omega); have hl0 := Nat.le_of_lt hz0; have hz1 : w.heap.size + 1 < w'.heap.size := (by have := hb.size; (try simp at this); omega); have hl1 := Nat.le_of_lt hz1; have hz2 : w.heap.size + 2 < w'.heap.size := (by have := hb.size; (try simp at this); omega); have hl2 := Nat.le_of_lt hz2) | (go_at_call 30; refine (sNone_any _).mono ?_; rintro e w' ⟨rfl, hb⟩; (try rw [below_drew] at hb); obtain ⟨hc, hf, hm, hs⟩ := bcell4 hb; have hz0 : w.heap.size < w'.heap.size := (by have := hb.size; (try simp at this); omega); have hl0 := Nat.le_of_lt hz0; have hz1 : w.heap.size + 1 < w'.heap.size := (by have := hb.size; (try simp at this); omega); have hl1 := Nat.le_of_lt hz1; have hz2 : w.heap.size + 2 < w'.heap.size := (by have := hb.size; (try simp at this); omega); have hl2 := Nat.le_of_lt hz2) | (go_at_call 31; refine (sIs_any _ _ _).mono ?_; rintro e w' ⟨rfl, hb⟩; (try rw [below_drew] at hb); obtain ⟨hc, hf, hm, hs⟩ := bcell4 hb; have hz0 : w.heap.size < w'.heap.size := (by have := hb.size; (try simp at this); omega); have hl0 := Nat.le_of_lt hz0; have hz1 : w.heap.size + 1 < w'.heap.size := (by have := hb.size; (try simp at this); omega); have hl1 := Nat.le_of_lt hz1; have hz2 : w.heap.size + 2 < w'.heap.size := (by have := hb.size; (try simp at this); omega); have hl2 := Nat.le_of_lt hz2) | (go_at_call 36; refine (sSteps_of l _ _ _ _ HN.out (HL.out.below (by repeat (first | (with_reducible refine bl_set2 ?_ ?_ _; (first | (simp; done) | (simp [*]; done) | (simp [*] <;> omega))) | with_reducible refine bl_drew ?_ | with_reducible refine bl_alloc ?_ _ | with_reducible refine below_step ?_ (by assumption) | with_reducible assumption | with_reducible exact Below.refl _ _)))).mono ?_; rintro e w' ⟨rfl, hb⟩; (try rw [below_drew] at hb); obtain ⟨hc, hf, hm, hs⟩ := bcell4 hb; have hz0 : w.heap.size < w'.heap.size := (by have := hb.size; (try simp at this); omega); have hl0 := Nat.le_of_lt hz0; have hz1 : w.heap.size + 1 < w'.heap.size := (by have := hb.size; (try simp at this); omega); have hl1 := Nat.le_of_lt hz1; have hz2 : w.heap.size + 2 < w'.heap.size := (by have := hb.size; (try simp at this); omega); have hl2 := Nat.le_of_lt hz2) | (go_at_call 32; refine (sMake_any _ _ _).mono ?_; rintro e w' ⟨rfl, hb⟩; (try rw [below_drew] at hb); obtain ⟨hc, hf, hm, hs⟩ := bcell4 hb; have hz0 : w.heap.size < w'.heap.size := (by have := hb.size; (try simp at this); omega); have hl0 := Nat.le_of_lt hz0; have hz1 : w.heap.size + 1 < w'.heap.size := (by have := hb.size; (try simp at this); omega); have hl1 := Nat.le_of_lt hz1; have hz2 : w.heap.size + 2 < w'.heap.size := (by have := hb.size; (try simp at this); omega); have hl2 := Nat.le_of_lt hz2))
    exact bodyPost_ret (v := .agg #[.int .i64 a, .int .i64 b]) (by simp [results, Tryd.results12, go_sem, *]) rfl ⟨ret_rng E.out, (by repeat (first | (with_reducible refine bl_set2 ?_ ?_ _; (first | (simp; done) | (simp [*]; done) | (simp [*] <;> omega))) | with_reducible refine bl_drew ?_ | with_reducible refine bl_alloc ?_ _ | with_reducible refine below_step ?_ (by assumption) | with_reducible assumption | with_reducible exact Below.refl _ _))⟩
set_option maxRecDepth 100000 in
set_option maxHeartbeats 3200000 in
theorem sWiden_tt (a b c d : Int) (l : List Int) (k off cap : Nat) (w : World) (hl : IntsIn w l k off) (hn : l.length ≤ maxLen) (h1 : okB a b = true) (h2 : okB c d = true) (h3 : stepsB l = true) (g1 : isB a b = true) (g2 : isB c d = true) (h4 : c < a) (h5 : b < d) : Calls Tryd.prog 12 #[.agg #[.int .i64 a, .int .i64 b], .agg #[.int .i64 c, .int .i64 d], .slice (some ⟨k, off, none⟩) l.length cap] w fun e w' => e = .returned (.agg #[.int .i64 (widenM a b c d l).1, .int .i64 (widenM a b c d l).2]) ∧ Below w.heap.size w w' := by
  have HL := mkHid hl
  have HN := mkHid hn
  unfold maxLen at hn
  clear hl
  have E := mkHid ((widen_mk h1 h2 h3 g1 g2).trans (show _ = mkM (belowM c l) (aboveM d l) by rw [if_pos h4, if_pos h5]))
  have hEq := eql_rng
  have hMx := @run_max_M Tryd.prog
  have hMn := @run_min_M Tryd.prog
  go_enter Tryd.func12, Tryd.ntmps12
  go_wp2_with (first | (go_at_call 13; refine (sOk_any _ _ _).mono ?_; rintro e w' ⟨rfl, hb⟩; (try rw [below_drew] at hb); obtain ⟨hc, hf, hm, hs⟩ := bcell4 hb; have hz0 : w.heap.size < w'.heap.size := (by have := hb.size; (try simp at this); omega); have hl0 := Nat.le_of_lt hz0; have hz1 : w.heap.size + 1 < w'.heap.size := (by have := hb.size; (try simp at this); omega); have hl1 := Nat.le_of_lt hz1; have hz2 : w.heap.size + 2 < w'.heap.size := (by have := hb.size; (try simp at this); omega); have hl2 := Nat.le_of_lt hz2) | (go_at_call 30; refine (sNone_any _).mono ?_; rintro e w' ⟨rfl, hb⟩; (try rw [below_drew] at hb); obtain ⟨hc, hf, hm, hs⟩ := bcell4 hb; have hz0 : w.heap.size < w'.heap.size := (by have := hb.size; (try simp at this); omega); have hl0 := Nat.le_of_lt hz0; have hz1 : w.heap.size + 1 < w'.heap.size := (by have := hb.size; (try simp at this); omega); have hl1 := Nat.le_of_lt hz1; have hz2 : w.heap.size + 2 < w'.heap.size := (by have := hb.size; (try simp at this); omega); have hl2 := Nat.le_of_lt hz2) | (go_at_call 31; refine (sIs_any _ _ _).mono ?_; rintro e w' ⟨rfl, hb⟩; (try rw [below_drew] at hb); obtain ⟨hc, hf, hm, hs⟩ := bcell4 hb; have hz0 : w.heap.size < w'.heap.size := (by have := hb.size; (try simp at this); omega); have hl0 := Nat.le_of_lt hz0; have hz1 : w.heap.size + 1 < w'.heap.size := (by have := hb.size; (try simp at this); omega); have hl1 := Nat.le_of_lt hz1; have hz2 : w.heap.size + 2 < w'.heap.size := (by have := hb.size; (try simp at this); omega); have hl2 := Nat.le_of_lt hz2) | (go_at_call 36; refine (sSteps_of l _ _ _ _ HN.out (HL.out.below (by repeat (first | (with_reducible refine bl_set2 ?_ ?_ _; (first | (simp; done) | (simp [*]; done) | (simp [*] <;> omega))) | with_reducible refine bl_drew ?_ | with_reducible refine bl_alloc ?_ _ | with_reducible refine below_step ?_ (by assumption) | with_reducible assumption | with_reducible exact Below.refl _ _)))).mono ?_; rintro e w' ⟨rfl, hb⟩; (try rw [below_drew] at hb); obtain ⟨hc, hf, hm, hs⟩ := bcell4 hb; have hz0 : w.heap.size < w'.heap.size := (by have := hb.size; (try simp at this); omega); have hl0 := Nat.le_of_lt hz0; have hz1 : w.heap.size + 1 < w'.heap.size := (by have := hb.size; (try simp at this); omega); have hl1 := Nat.le_of_lt hz1; have hz2 : w.heap.size + 2 < w'.heap.size := (by have := hb.size; (try simp at this); omega); have hl2 := Nat.le_of_lt hz2) | (go_at_call 32; refine (sMake_any _ _ _).mono ?_; rintro e w' ⟨rfl, hb⟩; (try rw [below_drew] at hb); obtain ⟨hc, hf, hm, hs⟩ := bcell4 hb; have hz0 : w.heap.size < w'.heap.size := (by have := hb.size; (try simp at this); omega); have hl0 := Nat.le_of_lt hz0; have hz1 : w.heap.size + 1 < w'.heap.size := (by have := hb.size; (try simp at this); omega); have hl1 := Nat.le_of_lt hz1; have hz2 : w.heap.size + 2 < w'.heap.size := (by have := hb.size; (try simp at this); omega); have hl2 := Nat.le_of_lt hz2))
  have HBX := mkHid (show Box w' w.heap.size a b ∧ Box w' (w.heap.size + 1) c d ∧ Box w' (w.heap.size + 2) 0 0 ∧ Below w.heap.size w w' from ⟨by refine ⟨?_, ?_, ?_, ?_⟩ <;> (simp (maxDischargeDepth := 12) [*, go_sem]; done), by refine ⟨?_, ?_, ?_, ?_⟩ <;> (simp (maxDischargeDepth := 12) [*, go_sem]; done), by refine ⟨?_, ?_, ?_, ?_⟩ <;> (simp (maxDischargeDepth := 12) [*, go_sem]; done), (by repeat (first | (with_reducible refine bl_set2 ?_ ?_ _; (first | (simp; done) | (simp [*]; done) | (simp [*] <;> omega))) | with_reducible refine bl_drew ?_ | with_reducible refine bl_alloc ?_ _ | with_reducible refine below_step ?_ (by assumption) | with_reducible assumption | with_reducible exact Below.refl _ _))⟩)
  go_loopw [7, 8] (fun f i v => ∃ j : Nat, j ≤ l.length ∧ i = .int .i64 j ∧ f = .int .i64 (belowM c (l.take j)) ∧ Box v w.heap.size a b ∧ Box v (w.heap.size + 1) c d ∧ Box v (w.heap.size + 2) 0 0 ∧ Below w.heap.size w v) (fun _ i _ => l.length - (intOf i).toNat)
  case atStart => exact ⟨0, Nat.zero_le _, rfl, rfl, HBX.out⟩
  case round =>
    clear HBX
    obtain ⟨j, hj, rfl, rfl, hbx⟩ := hrel
    have HBX := mkHid hbx
    clear hbx
    obtain ⟨⟨p0, p1, p2, p3⟩, ⟨p4, p5, p6, p7⟩, ⟨p8, p9, p10, p11⟩, hBB⟩ := HBX.out
    have hw0 := World.block_lt_of_cell? wr _ p0
    have hw1 := World.block_lt_of_cell? wr _ p4
    have hw2 := World.block_lt_of_cell? wr _ p8
    by_cases hlt : j < l.length
    · obtain ⟨s, hx⟩ : ∃ x, l[j]? = some x := ⟨_, List.getElem?_eq_getElem hlt⟩
      have c0 := (HL.out.below hBB) j s hx
      have i0 : (0 : Int) ≤ (j : Int) := by omega
      have i1 : (j : Int) < (l.length : Int) := by omega
      clear hBB
      by_cases h8 : s ≤ c
      · have e := mkHid ((below_take (x := c) hx).trans (if_pos h8))
        clear hx
        go_wp2
        go_quiet (fail)
        go_wp2
        go_roundw
        case rel => exact ⟨j + 1, by omega, by go_num, by rw [e.out], ⟨HBX.out.1.below ⟨rfl, rfl, rfl, Nat.le_refl _, fun _ _ => rfl⟩, HBX.out.2.1.below ⟨rfl, rfl, rfl, Nat.le_refl _, fun _ _ => rfl⟩, HBX.out.2.2.1.below ⟨rfl, rfl, rfl, Nat.le_refl _, fun _ _ => rfl⟩, HBX.out.2.2.2.trans ⟨rfl, rfl, rfl, Nat.le_refl _, fun _ _ => rfl⟩⟩⟩
        case measure => simp [intOf]; omega
      · have e := mkHid ((below_take (x := c) hx).trans (if_neg h8))
        clear hx
        go_wp2
        go_quiet (fail)
        go_wp2
        go_roundw
        case rel => exact ⟨j + 1, by omega, by go_num, by rw [e.out], ⟨HBX.out.1.below ⟨rfl, rfl, rfl, Nat.le_refl _, fun _ _ => rfl⟩, HBX.out.2.1.below ⟨rfl, rfl, rfl, Nat.le_refl _, fun _ _ => rfl⟩, HBX.out.2.2.1.below ⟨rfl, rfl, rfl, Nat.le_refl _, fun _ _ => rfl⟩, HBX.out.2.2.2.trans ⟨rfl, rfl, rfl, Nat.le_refl _, fun _ _ => rfl⟩⟩⟩
        case measure => simp [intOf]; omega
    · have e1 : belowM c (l.take j) = belowM c l := by rw [List.take_of_length_le (by omega)]
      rw [e1]
      clear e1
      go_wp2_with fail
      go_loopw [9, 10] (fun f i v => ∃ j : Nat, j ≤ l.length ∧ i = .int .i64 ((j : Int) - 1) ∧ f = .int .i64 (aboveM d (l.drop j)) ∧ Box v w.heap.size a b ∧ Box v (w.heap.size + 1) c d ∧ Box v (w.heap.size + 2) 0 0 ∧ Below w.heap.size w v) (fun _ i _ => (intOf i + 1).toNat)
      case atStart => exact ⟨l.length, Nat.le_refl _, rfl, by rw [List.drop_eq_nil_of_le (Nat.le_refl _)]; rfl, HBX.out⟩
      case round =>
        clear HBX
        obtain ⟨j, hj, rfl, rfl, hbx⟩ := hrel
        have HBX := mkHid hbx
        clear hbx
        obtain ⟨⟨p0, p1, p2, p3⟩, ⟨p4, p5, p6, p7⟩, ⟨p8, p9, p10, p11⟩, hBB⟩ := HBX.out
        have hw0 := World.block_lt_of_cell? wr _ p0
        have hw1 := World.block_lt_of_cell? wr _ p4
        have hw2 := World.block_lt_of_cell? wr _ p8
        by_cases hlt : 1 ≤ j
        · obtain ⟨s, hx⟩ : ∃ x, l[j - 1]? = some x := ⟨_, List.getElem?_eq_getElem (by omega)⟩
          have c0 := (HL.out.below hBB) (j - 1) s hx
          have i0 : (0 : Int) ≤ (j : Int) - 1 := by omega
          have i1 : (j : Int) - 1 < (l.length : Int) := by omega
          have hd0 := above_drop (x := d) hx
          rw [show j - 1 + 1 = j by omega] at hd0
          clear hBB
          by_cases h8 : d ≤ s
          · have e := mkHid (hd0.trans (if_pos h8))
            clear hx hd0
            go_wp2
            go_quiet (fail)
            go_wp2
            go_roundw
            case rel => exact ⟨j - 1, by omega, by congr 1; omega, by rw [e.out], ⟨HBX.out.1.below ⟨rfl, rfl, rfl, Nat.le_refl _, fun _ _ => rfl⟩, HBX.out.2.1.below ⟨rfl, rfl, rfl, Nat.le_refl _, fun _ _ => rfl⟩, HBX.out.2.2.1.below ⟨rfl, rfl, rfl, Nat.le_refl _, fun _ _ => rfl⟩, HBX.out.2.2.2.trans ⟨rfl, rfl, rfl, Nat.le_refl _, fun _ _ => rfl⟩⟩⟩
            case measure => simp [intOf]; omega
          · have e := mkHid (hd0.trans (if_neg h8))
            clear hx hd0
            go_wp2
            go_quiet (fail)
            go_wp2
            go_roundw
            case rel => exact ⟨j - 1, by omega, by congr 1; omega, by rw [e.out], ⟨HBX.out.1.below ⟨rfl, rfl, rfl, Nat.le_refl _, fun _ _ => rfl⟩, HBX.out.2.1.below ⟨rfl, rfl, rfl, Nat.le_refl _, fun _ _ => rfl⟩, HBX.out.2.2.1.below ⟨rfl, rfl, rfl, Nat.le_refl _, fun _ _ => rfl⟩, HBX.out.2.2.2.trans ⟨rfl, rfl, rfl, Nat.le_refl _, fun _ _ => rfl⟩⟩⟩
            case measure => simp [intOf]; omega
        · have e1 : aboveM d (l.drop j) = aboveM d l := by rw [show j = 0 by omega]; rfl
          rw [e1]
          clear e1
          go_wp2_with (first | (go_at_call 13; refine (sOk_any _ _ _).mono ?_; rintro e w' ⟨rfl, hb⟩; (try rw [below_drew] at hb); obtain ⟨hc, hf, hm, hs⟩ := bcell4 hb; have hz0 : w.heap.size < w'.heap.size := (by have := hb.size; (try simp at this); omega); have hl0 := Nat.le_of_lt hz0; have hz1 : w.heap.size + 1 < w'.heap.size := (by have := hb.size; (try simp at this); omega); have hl1 := Nat.le_of_lt hz1; have hz2 : w.heap.size + 2 < w'.heap.size := (by have := hb.size; (try simp at this); omega); have hl2 := Nat.le_of_lt hz2) | (go_at_call 30; refine (sNone_any _).mono ?_; rintro e w' ⟨rfl, hb⟩; (try rw [below_drew] at hb); obtain ⟨hc, hf, hm, hs⟩ := bcell4 hb; have hz0 : w.heap.size < w'.heap.size := (by have := hb.size; (try simp at this); omega); have hl0 := Nat.le_of_lt hz0; have hz1 : w.heap.size + 1 < w'.heap.size := (by have := hb.size; (try simp at this); omega); have hl1 := Nat.le_of_lt hz1; have hz2 : w.heap.size + 2 < w'.heap.size := (by have := hb.size; (try simp at this); omega); have hl2 := Nat.le_of_lt hz2) | (go_at_call 31; refine (sIs_any _ _ _).mono ?_; rintro e w' ⟨rfl, hb⟩; (try rw [below_drew] at hb); obtain ⟨hc, hf, hm, hs⟩ := bcell4 hb; have hz0 : w.heap.size < w'.heap.size := (by have := hb.size; (try simp at this); omega); have hl0 := Nat.le_of_lt hz0; have hz1 : w.heap.size + 1 < w'.heap.size := (by have := hb.size; (try simp at this); omega); have hl1 := Nat.le_of_lt hz1; have hz2 : w.heap.size + 2 < w'.heap.size := (by have := hb.size; (try simp at this); omega); have hl2 := Nat.le_of_lt hz2) | (go_at_call 36; refine (sSteps_of l _ _ _ _ HN.out (HL.out.below (by repeat (first | (with_reducible refine bl_set2 ?_ ?_ _; (first | (simp; done) | (simp [*]; done) | (simp [*] <;> omega))) | with_reducible refine bl_drew ?_ | with_reducible refine bl_alloc ?_ _ | with_reducible refine below_step ?_ (by assumption) | with_reducible assumption | with_reducible exact Below.refl _ _)))).mono ?_; rintro e w' ⟨rfl, hb⟩; (try rw [below_drew] at hb); obtain ⟨hc, hf, hm, hs⟩ := bcell4 hb; have hz0 : w.heap.size < w'.heap.size := (by have := hb.size; (try simp at this); omega); have hl0 := Nat.le_of_lt hz0; have hz1 : w.heap.size + 1 < w'.heap.size := (by have := hb.size; (try simp at this); omega); have hl1 := Nat.le_of_lt hz1; have hz2 : w.heap.size + 2 < w'.heap.size := (by have := hb.size; (try simp at this); omega); have hl2 := Nat.le_of_lt hz2) | (go_at_call 32; refine (sMake_any _ _ _).mono ?_; rintro e w' ⟨rfl, hb⟩; (try rw [below_drew] at hb); obtain ⟨hc, hf, hm, hs⟩ := bcell4 hb; have hz0 : w.heap.size < w'.heap.size := (by have := hb.size; (try simp at this); omega); have hl0 := Nat.le_of_lt hz0; have hz1 : w.heap.size + 1 < w'.heap.size := (by have := hb.size; (try simp at this); omega); have hl1 := Nat.le_of_lt hz1; have hz2 : w.heap.size + 2 < w'.heap.size := (by have := hb.size; (try simp at this); omega); have hl2 := Nat.le_of_lt hz2))
          exact bodyPost_ret (v := .agg #[.int .i64 (mkM (belowM c l) (aboveM d l)).1, .int .i64 (mkM (belowM c l) (aboveM d l)).2]) (by simp [results, Tryd.results12, go_sem, *]) rfl ⟨ret_rng E.out, (by repeat (first | (with_reducible refine bl_set2 ?_ ?_ _; (first | (simp; done) | (simp [*]; done) | (simp [*] <;> omega))) | with_reducible refine bl_drew ?_ | with_reducible refine bl_alloc ?_ _ | with_reducible refine below_step ?_ (by assumption) | with_reducible assumption | with_reducible exact Below.refl _ _))⟩
set_option maxRecDepth 100000 in
set_option maxHeartbeats 3200000 in
theorem sWiden_tf (a b c d : Int) (l : List Int) (k off cap : Nat) (w : World) (hl : IntsIn w l k off) (hn : l.length ≤ maxLen) (h1 : okB a b = true) (h2 : okB c d = true) (h3 : stepsB l = true) (g1 : isB a b = true) (g2 : isB c d = true) (h4 : c < a) (h5 : ¬ b < d) : Calls Tryd.prog 12 #[.agg #[.int .i64 a, .int .i64 b], .agg #[.int .i64 c, .int .i64 d], .slice (some ⟨k, off, none⟩) l.length cap] w fun e w' => e = .returned (.agg #[.int .i64 (widenM a b c d l).1, .int .i64 (widenM a b c d l).2]) ∧ Below w.heap.size w w' := by
  have HL := mkHid hl
  have HN := mkHid hn
  unfold maxLen at hn
  clear hl
  have E := mkHid ((widen_mk h1 h2 h3 g1 g2).trans (show _ = mkM (belowM c l) b by rw [if_pos h4, if_neg h5]))
  have hEq := eql_rng
  have hMx := @run_max_M Tryd.prog
  have hMn := @run_min_M Tryd.prog
  go_enter Tryd.func12, Tryd.ntmps12
  go_wp2_with (first | (go_at_call 13; refine (sOk_any _ _ _).mono ?_; rintro e w' ⟨rfl, hb⟩; (try rw [below_drew] at hb); obtain ⟨hc, hf, hm, hs⟩ := bcell4 hb; have hz0 : w.heap.size < w'.heap.size := (by have := hb.size; (try simp at this); omega); have hl0 := Nat.le_of_lt hz0; have hz1 : w.heap.size + 1 < w'.heap.size := (by have := hb.size; (try simp at this); omega); have hl1 := Nat.le_of_lt hz1; have hz2 : w.heap.size + 2 < w'.heap.size := (by have := hb.size; (try simp at this); omega); have hl2 := Nat.le_of_lt hz2) | (go_at_call 30; refine (sNone_any _).mono ?_; rintro e w' ⟨rfl, hb⟩; (try rw [below_drew] at hb); obtain ⟨hc, hf, hm, hs⟩ := bcell4 hb; have hz0 : w.heap.size < w'.heap.size := (by have := hb.size; (try simp at this); omega); have hl0 := Nat.le_of_lt hz0; have hz1 : w.heap.size + 1 < w'.heap.size := (by have := hb.size; (try simp at this); omega); have hl1 := Nat.le_of_lt hz1; have hz2 : w.heap.size + 2 < w'.heap.size := (by have := hb.size; (try simp at this); omega); have hl2 := Nat.le_of_lt hz2) | (go_at_call 31; refine (sIs_any _ _ _).mono ?_; rintro e w' ⟨rfl, hb⟩; (try rw [below_drew] at hb); obtain ⟨hc, hf, hm, hs⟩ := bcell4 hb; have hz0 : w.heap.size < w'.heap.size := (by have := hb.size; (try simp at this); omega); have hl0 := Nat.le_of_lt hz0; have hz1 : w.heap.size + 1 < w'.heap.size := (by have := hb.size; (try simp at this); omega); have hl1 := Nat.le_of_lt hz1; have hz2 : w.heap.size + 2 < w'.heap.size := (by have := hb.size; (try simp at this); omega); have hl2 := Nat.le_of_lt hz2) | (go_at_call 36; refine (sSteps_of l _ _ _ _ HN.out (HL.out.below (by repeat (first | (with_reducible refine bl_set2 ?_ ?_ _; (first | (simp; done) | (simp [*]; done) | (simp [*] <;> omega))) | with_reducible refine bl_drew ?_ | with_reducible refine bl_alloc ?_ _ | with_reducible refine below_step ?_ (by assumption) | with_reducible assumption | with_reducible exact Below.refl _ _)))).mono ?_; rintro e w' ⟨rfl, hb⟩; (try rw [below_drew] at hb); obtain ⟨hc, hf, hm, hs⟩ := bcell4 hb; have hz0 : w.heap.size < w'.heap.size := (by have := hb.size; (try simp at this); omega); have hl0 := Nat.le_of_lt hz0; have hz1 : w.heap.size + 1 < w'.heap.size := (by have := hb.size; (try simp at this); omega); have hl1 := Nat.le_of_lt hz1; have hz2 : w.heap.size + 2 < w'.heap.size := (by have := hb.size; (try simp at this); omega); have hl2 := Nat.le_of_lt hz2) | (go_at_call 32; refine (sMake_any _ _ _).mono ?_; rintro e w' ⟨rfl, hb⟩; (try rw [below_drew] at hb); obtain ⟨hc, hf, hm, hs⟩ := bcell4 hb; have hz0 : w.heap.size < w'.heap.size := (by have := hb.size; (try simp at this); omega); have hl0 := Nat.le_of_lt hz0; have hz1 : w.heap.size + 1 < w'.heap.size := (by have := hb.size; (try simp at this); omega); have hl1 := Nat.le_of_lt hz1; have hz2 : w.heap.size + 2 < w'.heap.size := (by have := hb.size; (try simp at this); omega); have hl2 := Nat.le_of_lt hz2))
  have HBX := mkHid (show Box w' w.heap.size a b ∧ Box w' (w.heap.size + 1) c d ∧ Box w' (w.heap.size + 2) 0 0 ∧ Below w.heap.size w w' from ⟨by refine ⟨?_, ?_, ?_, ?_⟩ <;> (simp (maxDischargeDepth := 12) [*, go_sem]; done), by refine ⟨?_, ?_, ?_, ?_⟩ <;> (simp (maxDischargeDepth := 12) [*, go_sem]; done), by refine ⟨?_, ?_, ?_, ?_⟩ <;> (simp (maxDischargeDepth := 12) [*, go_sem]; done), (by repeat (first | (with_reducible refine bl_set2 ?_ ?_ _; (first | (simp; done) | (simp [*]; done) | (simp [*] <;> omega))) | with_reducible refine bl_drew ?_ | with_reducible refine bl_alloc ?_ _ | with_reducible refine below_step ?_ (by assumption) | with_reducible assumption | with_reducible exact Below.refl _ _))⟩)
  go_loopw [7, 8] (fun f i v => ∃ j : Nat, j ≤ l.length ∧ i = .int .i64 j ∧ f = .int .i64 (belowM c (l.take j)) ∧ Box v w.heap.size a b ∧ Box v (w.heap.size + 1) c d ∧ Box v (w.heap.size + 2) 0 0 ∧ Below w.heap.size w v) (fun _ i _ => l.length - (intOf i).toNat)
  case atStart => exact ⟨0, Nat.zero_le _, rfl, rfl, HBX.out⟩
  case round =>
    clear HBX
    obtain ⟨j, hj, rfl, rfl, hbx⟩ := hrel
    have HBX := mkHid hbx
    clear hbx
    obtain ⟨⟨p0, p1, p2, p3⟩, ⟨p4, p5, p6, p7⟩, ⟨p8, p9, p10, p11⟩, hBB⟩ := HBX.out
    have hw0 := World.block_lt_of_cell? wr _ p0
    have hw1 := World.block_lt_of_cell? wr _ p4
    have hw2 := World.block_lt_of_cell? wr _ p8
    by_cases hlt : j < l.length
    · obtain ⟨s, hx⟩ : ∃ x, l[j]? = some x := ⟨_, List.getElem?_eq_getElem hlt⟩
      have c0 := (HL.out.below hBB) j s hx
      have i0 : (0 : Int) ≤ (j : Int) := by omega
      have i1 : (j : Int) < (l.length : Int) := by omega
      clear hBB
      by_cases h8 : s ≤ c
      · have e := mkHid ((below_take (x := c) hx).trans (if_pos h8))
        clear hx
        go_wp2
        go_quiet (fail)
        go_wp2
        go_roundw
        case rel => exact ⟨j + 1, by omega, by go_num, by rw [e.out], ⟨HBX.out.1.below ⟨rfl, rfl, rfl, Nat.le_refl _, fun _ _ => rfl⟩, HBX.out.2.1.below ⟨rfl, rfl, rfl, Nat.le_refl _, fun _ _ => rfl⟩, HBX.out.2.2.1.below ⟨rfl, rfl, rfl, Nat.le_refl _, fun _ _ => rfl⟩, HBX.out.2.2.2.trans ⟨rfl, rfl, rfl, Nat.le_refl _, fun _ _ => rfl⟩⟩⟩
        case measure => simp [intOf]; omega
      · have e := mkHid ((below_take (x := c) hx).trans (if_neg h8))
        clear hx
        go_wp2
        go_quiet (fail)
        go_wp2
        go_roundw
        case rel => exact ⟨j + 1, by omega, by go_num, by rw [e.out], ⟨HBX.out.1.below ⟨rfl, rfl, rfl, Nat.le_refl _, fun _ _ => rfl⟩, HBX.out.2.1.below ⟨rfl, rfl, rfl, Nat.le_refl _, fun _ _ => rfl⟩, HBX.out.2.2.1.below ⟨rfl, rfl, rfl, Nat.le_refl _, fun _ _ => rfl⟩, HBX.out.2.2.2.trans ⟨rfl, rfl, rfl, Nat.le_refl _, fun _ _ => rfl⟩⟩⟩
        case measure => simp [intOf]; omega
    · have e1 : belowM c (l.take j) = belowM c l := by rw [List.take_of_length_le (by omega)]
      rw [e1]
      clear e1
      go_wp2_with (first | (go_at_call 13; refine (sOk_any _ _ _).mono ?_; rintro e w' ⟨rfl, hb⟩; (try rw [below_drew] at hb); obtain ⟨hc, hf, hm, hs⟩ := bcell4 hb; have hz0 : w.heap.size < w'.heap.size := (by have := hb.size; (try simp at this); omega); have hl0 := Nat.le_of_lt hz0; have hz1 : w.heap.size + 1 < w'.heap.size := (by have := hb.size; (try simp at this); omega); have hl1 := Nat.le_of_lt hz1; have hz2 : w.heap.size + 2 < w'.heap.size := (by have := hb.size; (try simp at this); omega); have hl2 := Nat.le_of_lt hz2) | (go_at_call 30; refine (sNone_any _).mono ?_; rintro e w' ⟨rfl, hb⟩; (try rw [below_drew] at hb); obtain ⟨hc, hf, hm, hs⟩ := bcell4 hb; have hz0 : w.heap.size < w'.heap.size := (by have := hb.size; (try simp at this); omega); have hl0 := Nat.le_of_lt hz0; have hz1 : w.heap.size + 1 < w'.heap.size := (by have := hb.size; (try simp at this); omega); have hl1 := Nat.le_of_lt hz1; have hz2 : w.heap.size + 2 < w'.heap.size := (by have := hb.size; (try simp at this); omega); have hl2 := Nat.le_of_lt hz2) | (go_at_call 31; refine (sIs_any _ _ _).mono ?_; rintro e w' ⟨rfl, hb⟩; (try rw [below_drew] at hb); obtain ⟨hc, hf, hm, hs⟩ := bcell4 hb; have hz0 : w.heap.size < w'.heap.size := (by have := hb.size; (try simp at this); omega); have hl0 := Nat.le_of_lt hz0; have hz1 : w.heap.size + 1 < w'.heap.size := (by have := hb.size; (try simp at this); omega); have hl1 := Nat.le_of_lt hz1; have hz2 : w.heap.size + 2 < w'.heap.size := (by have := hb.size; (try simp at this); omega); have hl2 := Nat.le_of_lt hz2) | (go_at_call 36; refine (sSteps_of l _ _ _ _ HN.out (HL.out.below (by repeat (first | (with_reducible refine bl_set2 ?_ ?_ _; (first | (simp; done) | (simp [*]; done) | (simp [*] <;> omega))) | with_reducible refine bl_drew ?_ | with_reducible refine bl_alloc ?_ _ | with_reducible refine below_step ?_ (by assumption) | with_reducible assumption | with_reducible exact Below.refl _ _)))).mono ?_; rintro e w' ⟨rfl, hb⟩; (try rw [below_drew] at hb); obtain ⟨hc, hf, hm, hs⟩ := bcell4 hb; have hz0 : w.heap.size < w'.heap.size := (by have := hb.size; (try simp at this); omega); have hl0 := Nat.le_of_lt hz0; have hz1 : w.heap.size + 1 < w'.heap.size := (by have := hb.size; (try simp at this); omega); have hl1 := Nat.le_of_lt hz1; have hz2 : w.heap.size + 2 < w'.heap.size := (by have := hb.size; (try simp at this); omega); have hl2 := Nat.le_of_lt hz2) | (go_at_call 32; refine (sMake_any _ _ _).mono ?_; rintro e w' ⟨rfl, hb⟩; (try rw [below_drew] at hb); obtain ⟨hc, hf, hm, hs⟩ := bcell4 hb; have hz0 : w.heap.size < w'.heap.size := (by have := hb.size; (try simp at this); omega); have hl0 := Nat.le_of_lt hz0; have hz1 : w.heap.size + 1 < w'.heap.size := (by have := hb.size; (try simp at this); omega); have hl1 := Nat.le_of_lt hz1; have hz2 : w.heap.size + 2 < w'.heap.size := (by have := hb.size; (try simp at this); omega); have hl2 := Nat.le_of_lt hz2))
      exact bodyPost_ret (v := .agg #[.int .i64 (mkM (belowM c l) b).1, .int .i64 (mkM (belowM c l) b).2]) (by simp [results, Tryd.results12, go_sem, *]) rfl ⟨ret_rng E.out, (by repeat (first | (with_reducible refine bl_set2 ?_ ?_ _; (first | (simp; done) | (simp [*]; done) | (simp [*] <;> omega))) | with_reducible refine bl_drew ?_ | with_reducible refine bl_alloc ?_ _ | with_reducible refine below_step ?_ (by assumption) | with_reducible assumption | with_reducible exact Below.refl _ _))⟩
set_option maxRecDepth 100000 in
set_option maxHeartbeats 3200000 in
theorem sWiden_ft (a b c d : Int) (l : List Int) (k off cap : Nat) (w : World) (hl : IntsIn w l k off) (hn : l.length ≤ maxLen) (h1 : okB a b = true) (h2 : okB c d = true) (h3 : stepsB l = true) (g1 : isB a b = true) (g2 : isB c d = true) (h4 : ¬ c < a) (h5 : b < d) : Calls Tryd.prog 12 #[.agg #[.int .i64 a, .int .i64 b], .agg #[.int .i64 c, .int .i64 d], .slice (some ⟨k, off, none⟩) l.length cap] w fun e w' => e = .returned (.agg #[.int .i64 (widenM a b c d l).1, .int .i64 (widenM a b c d l).2]) ∧ Below w.heap.size w w' := by
  have HL := mkHid hl
  have HN := mkHid hn
  unfold maxLen at hn
  clear hl
  have E := mkHid ((widen_mk h1 h2 h3 g1 g2).trans (show _ = mkM a (aboveM d l) by rw [if_neg h4, if_pos h5]))
  have hEq := eql_rng
  have hMx := @run_max_M Tryd.prog
  have hMn := @run_min_M Tryd.prog
  go_enter Tryd.func12, Tryd.ntmps12
  go_wp2_with (first | (go_at_call 13; refine (sOk_any _ _ _).mono ?_; rintro e w' ⟨rfl, hb⟩; (try rw [below_drew] at hb); obtain ⟨hc, hf, hm, hs⟩ := bcell4 hb; have hz0 : w.heap.size < w'.heap.size := (by have := hb.size; (try simp at this); omega); have hl0 := Nat.le_of_lt hz0; have hz1 : w.heap.size + 1 < w'.heap.size := (by have := hb.size; (try simp at this); omega); have hl1 := Nat.le_of_lt hz1; have hz2 : w.heap.size + 2 < w'.heap.size := (by have := hb.size; (try simp at this); omega); have hl2 := Nat.le_of_lt hz2) | (go_at_call 30; refine (sNone_any _).mono ?_; rintro e w' ⟨rfl, hb⟩; (try rw [below_drew] at hb); obtain ⟨hc, hf, hm, hs⟩ := bcell4 hb; have hz0 : w.heap.size < w'.heap.size := (by have := hb.size; (try simp at this); omega); have hl0 := Nat.le_of_lt hz0; have hz1 : w.heap.size + 1 < w'.heap.size := (by have := hb.size; (try simp at this); omega); have hl1 := Nat.le_of_lt hz1; have hz2 : w.heap.size + 2 < w'.heap.size := (by have := hb.size; (try simp at this); omega); have hl2 := Nat.le_of_lt hz2) | (go_at_call 31; refine (sIs_any _ _ _).mono ?_; rintro e w' ⟨rfl, hb⟩; (try rw [below_drew] at hb); obtain ⟨hc, hf, hm, hs⟩ := bcell4 hb; have hz0 : w.heap.size < w'.heap.size := (by have := hb.size; (try simp at this); omega); have hl0 := Nat.le_of_lt hz0; have hz1 : w.heap.size + 1 < w'.heap.size := (by have := hb.size; (try simp at this); omega); have hl1 := Nat.le_of_lt hz1; have hz2 : w.heap.size + 2 < w'.heap.size := (by have := hb.size; (try simp at this); omega); have hl2 := Nat.le_of_lt hz2) | (go_at_call 36; refine (sSteps_of l _ _ _ _ HN.out (HL.out.below (by repeat (first | (with_reducible refine bl_set2 ?_ ?_ _; (first | (simp; done) | (simp [*]; done) | (simp [*] <;> omega))) | with_reducible refine bl_drew ?_ | with_reducible refine bl_alloc ?_ _ | with_reducible refine below_step ?_ (by assumption) | with_reducible assumption | with_reducible exact Below.refl _ _)))).mono ?_; rintro e w' ⟨rfl, hb⟩; (try rw [below_drew] at hb); obtain ⟨hc, hf, hm, hs⟩ := bcell4 hb; have hz0 : w.heap.size < w'.heap.size := (by have := hb.size; (try simp at this); omega); have hl0 := Nat.le_of_lt hz0; have hz1 : w.heap.size + 1 < w'.heap.size := (by have := hb.size; (try simp at this); omega); have hl1 := Nat.le_of_lt hz1; have hz2 : w.heap.size + 2 < w'.heap.size := (by have := hb.size; (try simp at this); omega); have hl2 := Nat.le_of_lt hz2) | (go_at_call 32; refine (sMake_any _ _ _).mono ?_; rintro e w' ⟨rfl, hb⟩; (try rw [below_drew] at hb); obtain ⟨hc, hf, hm, hs⟩ := bcell4 hb; have hz0 : w.heap.size < w'.heap.size := (by have := hb.size; (try simp at this); omega); have hl0 := Nat.le_of_lt hz0; have hz1 : w.heap.size + 1 < w'.heap.size := (by have := hb.size; (try simp at this); omega); have hl1 := Nat.le_of_lt hz1; have hz2 : w.heap.size + 2 < w'.heap.size := (by have := hb.size; (try simp at this); omega); have hl2 := Nat.le_of_lt hz2))
  have HBX := mkHid (show Box w' w.heap.size a b ∧ Box w' (w.heap.size + 1) c d ∧ Box w' (w.heap.size + 2) 0 0 ∧ Below w.heap.size w w' from ⟨by refine ⟨?_, ?_, ?_, ?_⟩ <;> (simp (maxDischargeDepth := 12) [*, go_sem]; done), by refine ⟨?_, ?_, ?_, ?_⟩ <;> (simp (maxDischargeDepth := 12) [*, go_sem]; done), by refine ⟨?_, ?_, ?_, ?_⟩ <;> (simp (maxDischargeDepth := 12) [*, go_sem]; done), (by repeat (first | (with_reducible refine bl_set2 ?_ ?_ _; (first | (simp; done) | (simp [*]; done) | (simp [*] <;> omega))) | with_reducible refine bl_drew ?_ | with_reducible refine bl_alloc ?_ _ | with_reducible refine below_step ?_ (by assumption) | with_reducible assumption | with_reducible exact Below.refl _ _))⟩)
  go_loopw [9, 10] (fun f i v => ∃ j : Nat, j ≤ l.length ∧ i = .int .i64 ((j : Int) - 1) ∧ f = .int .i64 (aboveM d (l.drop j)) ∧ Box v w.heap.size a b ∧ Box v (w.heap.size + 1) c d ∧ Box v (w.heap.size + 2) 0 0 ∧ Below w.heap.size w v) (fun _ i _ => (intOf i + 1).toNat)
  case atStart => exact ⟨l.length, Nat.le_refl _, rfl, by rw [List.drop_eq_nil_of_le (Nat.le_refl _)]; rfl, HBX.out⟩
  case round =>
    clear HBX
    obtain ⟨j, hj, rfl, rfl, hbx⟩ := hrel
    have HBX := mkHid hbx
    clear hbx
    obtain ⟨⟨p0, p1, p2, p3⟩, ⟨p4, p5, p6, p7⟩, ⟨p8, p9, p10, p11⟩, hBB⟩ := HBX.out
    have hw0 := World.block_lt_of_cell? wr _ p0
    have hw1 := World.block_lt_of_cell? wr _ p4
    have hw2 := World.block_lt_of_cell? wr _ p8
    by_cases hlt : 1 ≤ j
    · obtain ⟨s, hx⟩ : ∃ x, l[j - 1]? = some x := ⟨_, List.getElem?_eq_getElem (by omega)⟩
      have c0 := (HL.out.below hBB) (j - 1) s hx
      have i0 : (0 : Int) ≤ (j : Int) - 1 := by omega
      have i1 : (j : Int) - 1 < (l.length : Int) := by omega
      have hd0 := above_drop (x := d) hx
      rw [show j - 1 + 1 = j by omega] at hd0
      clear hBB
      by_cases h8 : d ≤ s
      · have e := mkHid (hd0.trans (if_pos h8))
        clear hx hd0
        go_wp2
        go_quiet (fail)
        go_wp2
        go_roundw
        case rel => exact ⟨j - 1, by omega, by congr 1; omega, by rw [e.out], ⟨HBX.out.1.below ⟨rfl, rfl, rfl, Nat.le_refl _, fun _ _ => rfl⟩, HBX.out.2.1.below ⟨rfl, rfl, rfl, Nat.le_refl _, fun _ _ => rfl⟩, HBX.out.2.2.1.below ⟨rfl, rfl, rfl, Nat.le_refl _, fun _ _ => rfl⟩, HBX.out.2.2.2.trans ⟨rfl, rfl, rfl, Nat.le_refl _, fun _ _ => rfl⟩⟩⟩
        case measure => simp [intOf]; omega
      · have e := mkHid (hd0.trans (if_neg h8))
        clear hx hd0
        go_wp2
        go_quiet (fail)
        go_wp2
        go_roundw
        case rel => exact ⟨j - 1, by omega, by congr 1; omega, by rw [e.out], ⟨HBX.out.1.below ⟨rfl, rfl, rfl, Nat.le_refl _, fun _ _ => rfl⟩, HBX.out.2.1.below ⟨rfl, rfl, rfl, Nat.le_refl _, fun _ _ => rfl⟩, HBX.out.2.2.1.below ⟨rfl, rfl, rfl, Nat.le_refl _, fun _ _ => rfl⟩, HBX.out.2.2.2.trans ⟨rfl, rfl, rfl, Nat.le_refl _, fun _ _ => rfl⟩⟩⟩
        case measure => simp [intOf]; omega
    · have e1 : aboveM d (l.drop j) = aboveM d l := by rw [show j = 0 by omega]; rfl
      rw [e1]
      clear e1
      go_wp2_with (first | (go_at_call 13; refine (sOk_any _ _ _).mono ?_; rintro e w' ⟨rfl, hb⟩; (try rw [below_drew] at hb); obtain ⟨hc, hf, hm, hs⟩ := bcell4 hb; have hz0 : w.heap.size < w'.heap.size := (by have := hb.size; (try simp at this); omega); have hl0 := Nat.le_of_lt hz0; have hz1 : w.heap.size + 1 < w'.heap.size := (by have := hb.size; (try simp at this); omega); have hl1 := Nat.le_of_lt hz1; have hz2 : w.heap.size + 2 < w'.heap.size := (by have := hb.size; (try simp at this); omega); have hl2 := Nat.le_of_lt hz2) | (go_at_call 30; refine (sNone_any _).mono ?_; rintro e w' ⟨rfl, hb⟩; (try rw [below_drew] at hb); obtain ⟨hc, hf, hm, hs⟩ := bcell4 hb; have hz0 : w.heap.size < w'.heap.size := (by have := hb.size; (try simp at this); omega); have hl0 := Nat.le_of_lt hz0; have hz1 : w.heap.size + 1 < w'.heap.size := (by have := hb.size; (try simp at this); omega); have hl1 := Nat.le_of_lt hz1; have hz2 : w.heap.size + 2 < w'.heap.size := (by have := hb.size; (try simp at this); omega); have hl2 := Nat.le_of_lt hz2) | (go_at_call 31; refine (sIs_any _ _ _).mono ?_; rintro e w' ⟨rfl, hb⟩; (try rw [below_drew] at hb); obtain ⟨hc, hf, hm, hs⟩ := bcell4 hb; have hz0 : w.heap.size < w'.heap.size := (by have := hb.size; (try simp at this); omega); have hl0 := Nat.le_of_lt hz0; have hz1 : w.heap.size + 1 < w'.heap.size := (by have := hb.size; (try simp at this); omega); have hl1 := Nat.le_of_lt hz1; have hz2 : w.heap.size + 2 < w'.heap.size := (by have := hb.size; (try simp at this); omega); have hl2 := Nat.le_of_lt hz2) | (go_at_call 36; refine (sSteps_of l _ _ _ _ HN.out (HL.out.below (by repeat (first | (with_reducible refine bl_set2 ?_ ?_ _; (first | (simp; done) | (simp [*]; done) | (simp [*] <;> omega))) | with_reducible refine bl_drew ?_ | with_reducible refine bl_alloc ?_ _ | with_reducible refine below_step ?_ (by assumption) | with_reducible assumption | with_reducible exact Below.refl _ _)))).mono ?_; rintro e w' ⟨rfl, hb⟩; (try rw [below_drew] at hb); obtain ⟨hc, hf, hm, hs⟩ := bcell4 hb; have hz0 : w.heap.size < w'.heap.size := (by have := hb.size; (try simp at this); omega); have hl0 := Nat.le_of_lt hz0; have hz1 : w.heap.size + 1 < w'.heap.size := (by have := hb.size; (try simp at this); omega); have hl1 := Nat.le_of_lt hz1; have hz2 : w.heap.size + 2 < w'.heap.size := (by have := hb.size; (try simp at this); omega); have hl2 := Nat.le_of_lt hz2) | (go_at_call 32; refine (sMake_any _ _ _).mono ?_; rintro e w' ⟨rfl, hb⟩; (try rw [below_drew] at hb); obtain ⟨hc, hf, hm, hs⟩ := bcell4 hb; have hz0 : w.heap.size < w'.heap.size := (by have := hb.size; (try simp at this); omega); have hl0 := Nat.le_of_lt hz0; have hz1 : w.heap.size + 1 < w'.heap.size := (by have := hb.size; (try simp at this); omega); have hl1 := Nat.le_of_lt hz1; have hz2 : w.heap.size + 2 < w'.heap.size := (by have := hb.size; (try simp at this); omega); have hl2 := Nat.le_of_lt hz2))
      exact bodyPost_ret (v := .agg #[.int .i64 (mkM a (aboveM d l)).1, .int .i64 (mkM a (aboveM d l)).2]) (by simp [results, Tryd.results12, go_sem, *]) rfl ⟨ret_rng E.out, (by repeat (first | (with_reducible refine bl_set2 ?_ ?_ _; (first | (simp; done) | (simp [*]; done) | (simp [*] <;> omega))) | with_reducible refine bl_drew ?_ | with_reducible refine bl_alloc ?_ _ | with_reducible refine below_step ?_ (by assumption) | with_reducible assumption | with_reducible exact Below.refl _ _))⟩
set_option maxRecDepth 100000 in
set_option maxHeartbeats 3200000 in
theorem sWiden_ff (a b c d : Int) (l : List Int) (k off cap : Nat) (w : World) (hl : IntsIn w l k off) (hn : l.length ≤ maxLen) (h1 : okB a b = true) (h2 : okB c d = true) (h3 : stepsB l = true) (g1 : isB a b = true) (g2 : isB c d = true) (h4 : ¬ c < a) (h5 : ¬ b < d) : Calls Tryd.prog 12 #[.agg #[.int .i64 a, .int .i64 b], .agg #[.int .i64 c, .int .i64 d], .slice (some ⟨k, off, none⟩) l.length cap] w fun e w' => e = .returned (.agg #[.int .i64 (widenM a b c d l).1, .int .i64 (widenM a b c d l).2]) ∧ Below w.heap.size w w' := by
  have HL := mkHid hl
  have HN := mkHid hn
  unfold maxLen at hn
  clear hl
  have E := mkHid ((widen_mk h1 h2 h3 g1 g2).trans (show _ = mkM a b by rw [if_neg h4, if_neg h5]))
  have hEq := eql_rng
  have hMx := @run_max_M Tryd.prog
  have hMn := @run_min_M Tryd.prog
  go_enter Tryd.func12, Tryd.ntmps12
  go_wp2_with (first | (go_at_call 13; refine (sOk_any _ _ _).mono ?_; rintro e w' ⟨rfl, hb⟩; (try rw [below_drew] at hb); obtain ⟨hc, hf, hm, hs⟩ := bcell4 hb; have hz0 : w.heap.size < w'.heap.size := (by have := hb.size; (try simp at this); omega); have hl0 := Nat.le_of_lt hz0; have hz1 : w.heap.size + 1 < w'.heap.size := (by have := hb.size; (try simp at this); omega); have hl1 := Nat.le_of_lt hz1; have hz2 : w.heap.size + 2 < w'.heap.size := (by have := hb.size; (try simp at this); omega); have hl2 := Nat.le_of_lt hz2) | (go_at_call 30; refine (sNone_any _).mono ?_; rintro e w' ⟨rfl, hb⟩; (try rw [below_drew] at hb); obtain ⟨hc, hf, hm, hs⟩ := bcell4 hb; have hz0 : w.heap.size < w'.heap.size := (by have := hb.size; (try simp at this); omega); have hl0 := Nat.le_of_lt hz0; have hz1 : w.heap.size + 1 < w'.heap.size := (by have := hb.size; (try simp at this); omega); have hl1 := Nat.le_of_lt hz1; have hz2 : w.heap.size + 2 < w'.heap.size := (by have := hb.size; (try simp at this); omega); have hl2 := Nat.le_of_lt hz2) | (go_at_call 31; refine (sIs_any _ _ _).mono ?_; rintro e w' ⟨rfl, hb⟩; (try rw [below_drew] at hb); obtain ⟨hc, hf, hm, hs⟩ := bcell4 hb; have hz0 : w.heap.size < w'.heap.size := (by have := hb.size; (try simp at this); omega); have hl0 := Nat.le_of_lt hz0; have hz1 : w.heap.size + 1 < w'.heap.size := (by have := hb.size; (try simp at this); omega); have hl1 := Nat.le_of_lt hz1; have hz2 : w.heap.size + 2 < w'.heap.size := (by have := hb.size; (try simp at this); omega); have hl2 := Nat.le_of_lt hz2) | (go_at_call 36; refine (sSteps_of l _ _ _ _ HN.out (HL.out.below (by repeat (first | (with_reducible refine bl_set2 ?_ ?_ _; (first | (simp; done) | (simp [*]; done) | (simp [*] <;> omega))) | with_reducible refine bl_drew ?_ | with_reducible refine bl_alloc ?_ _ | with_reducible refine below_step ?_ (by assumption) | with_reducible assumption | with_reducible exact Below.refl _ _)))).mono ?_; rintro e w' ⟨rfl, hb⟩; (try rw [below_drew] at hb); obtain ⟨hc, hf, hm, hs⟩ := bcell4 hb; have hz0 : w.heap.size < w'.heap.size := (by have := hb.size; (try simp at this); omega); have hl0 := Nat.le_of_lt hz0; have hz1 : w.heap.size + 1 < w'.heap.size := (by have := hb.size; (try simp at this); omega); have hl1 := Nat.le_of_lt hz1; have hz2 : w.heap.size + 2 < w'.heap.size := (by have := hb.size; (try simp at this); omega); have hl2 := Nat.le_of_lt hz2) | (go_at_call 32; refine (sMake_any _ _ _).mono ?_; rintro e w' ⟨rfl, hb⟩; (try rw [below_drew] at hb); obtain ⟨hc, hf, hm, hs⟩ := bcell4 hb; have hz0 : w.heap.size < w'.heap.size := (by have := hb.size; (try simp at this); omega); have hl0 := Nat.le_of_lt hz0; have hz1 : w.heap.size + 1 < w'.heap.size := (by have := hb.size; (try simp at this); omega); have hl1 := Nat.le_of_lt hz1; have hz2 : w.heap.size + 2 < w'.heap.size := (by have := hb.size; (try simp at this); omega); have hl2 := Nat.le_of_lt hz2))
  exact bodyPost_ret (v := .agg #[.int .i64 (mkM a b).1, .int .i64 (mkM a b).2]) (by simp [results, Tryd.results12, go_sem, *]) rfl ⟨ret_rng E.out, (by repeat (first | (with_reducible refine bl_set2 ?_ ?_ _; (first | (simp; done) | (simp [*]; done) | (simp [*] <;> omega))) | with_reducible refine bl_drew ?_ | with_reducible refine bl_alloc ?_ _ | with_reducible refine below_step ?_ (by assumption) | with_reducible assumption | with_reducible exact Below.refl _ _))⟩
set_option maxRecDepth 100000 in
theorem sWiden_of (a b c d : Int) (l : List Int) (k off cap : Nat) (w : World) (hl : IntsIn w l k off) (hn : l.length ≤ maxLen) : Calls Tryd.prog 12 #[.agg #[.int .i64 a, .int .i64 b], .agg #[.int .i64 c, .int .i64 d], .slice (some ⟨k, off, none⟩) l.length cap] w fun e w' => e = .returned (.agg #[.int .i64 (widenM a b c d l).1, .int .i64 (widenM a b c d l).2]) ∧ Below w.heap.size w w' := by
  cases h : (okB a b && (okB c d && stepsB l))
  · exact sWiden_no a b c d l k off cap w hl hn h
  · obtain ⟨h1, h⟩ := Bool.and_eq_true_iff.1 h
    obtain ⟨h2, h3⟩ := Bool.and_eq_true_iff.1 h
    cases g1 : isB a b
    · exact sWiden_j a b c d l k off cap w hl hn h1 h2 h3 (.inl g1)
    · cases g2 : isB c d
      · exact sWiden_j a b c d l k off cap w hl hn h1 h2 h3 (.inr g2)
      · by_cases h4 : c < a <;> by_cases h5 : b < d
        · exact sWiden_tt a b c d l k off cap w hl hn h1 h2 h3 g1 g2 h4 h5
        · exact sWiden_tf a b c d l k off cap w hl hn h1 h2 h3 g1 g2 h4 h5
        · exact sWiden_ft a b c d l k off cap w hl hn h1 h2 h3 g1 g2 h4 h5
        · exact sWiden_ff a b c d l k off cap w hl hn h1 h2 h3 g1 g2 h4 h5
end Go.Proofs.YtgkmpadeleebdaaDoor.Q
