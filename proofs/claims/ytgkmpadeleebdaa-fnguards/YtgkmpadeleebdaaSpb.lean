/-
  CONTRACTS of the specification's RangeAdd, RangeSub, RangeMul, RangeMeet, RangeJoin.
-/
import Derived.Test.YtgkmpadeleebdaaSp
namespace Go.Proofs.Ytgkmpadeleebdaa
open Go.RowKit

theorem mul_bd {a c : Int} (a0 : -1000000 ≤ a) (a1 : a ≤ 1000000) (c0 : -1000000 ≤ c) (c1 : c ≤ 1000000) : -1000000000000 ≤ a * c ∧ a * c ≤ 1000000000000 := by
  have h : (a * c).natAbs ≤ 1000000 * 1000000 := by
    rw [Int.natAbs_mul]
    exact Nat.mul_le_mul (by omega) (by omega)
  omega

set_option maxHeartbeats 400000 in
theorem sAdd_any (a b c d : Int) (w : World) : Calls Try.prog 10 #[.agg #[.int .i64 a, .int .i64 b], .agg #[.int .i64 c, .int .i64 d]] w fun e w' => e = .returned (.agg #[.int .i64 (addM a b c d).1, .int .i64 (addM a b c d).2]) ∧ Below w.heap.size w w' := by
  cases h1 : bothB a b c d
  · have E := mkHid (show addM a b c d = (1, 0) by unfold addM; rw [h1]; rfl)
    go_enter Try.func10, Try.ntmps10
    go_wp2_with (first | (go_at_call 31; refine (sBoth_any _ _ _ _ _).mono ?_; rintro e w' ⟨rfl, hb⟩; obtain ⟨hc, hf⟩ := bcell hb; obtain ⟨hz0, hz1, hz2⟩ : w.heap.size < w'.heap.size ∧ w.heap.size + 1 < w'.heap.size ∧ w.heap.size + 2 < w'.heap.size := (by have := hb.size; (try simp at this); omega)) | (go_at_call 32; refine (sNone_any _).mono ?_; rintro e w' ⟨rfl, hb⟩; obtain ⟨hc, hf⟩ := bcell hb; obtain ⟨hz0, hz1, hz2⟩ : w.heap.size < w'.heap.size ∧ w.heap.size + 1 < w'.heap.size ∧ w.heap.size + 2 < w'.heap.size := (by have := hb.size; (try simp at this); omega)))
    exact bodyPost_ret (v := .agg #[.int .i64 1, .int .i64 0]) (by simp [results, Try.results10, go_sem, *]) rfl ⟨ret_rng E.out, (by repeat (first | exact Below.refl _ _ | refine bl_set ?_ (by simp <;> omega) _ | refine bl_alloc ?_ _ | refine bl_drew ?_ | refine below_step ?_ (by assumption)))⟩
  · have E := mkHid (show addM a b c d = mkM (a + c) (b + d) by unfold addM; rw [if_pos h1])
    obtain ⟨⟨q1, q2, q3⟩, q4, q5, q6⟩ := both_iff.1 h1
    go_enter Try.func10, Try.ntmps10
    go_wp2_with (first | (go_at_call 31; refine (sBoth_any _ _ _ _ _).mono ?_; rintro e w' ⟨rfl, hb⟩; obtain ⟨hc, hf⟩ := bcell hb; obtain ⟨hz0, hz1, hz2⟩ : w.heap.size < w'.heap.size ∧ w.heap.size + 1 < w'.heap.size ∧ w.heap.size + 2 < w'.heap.size := (by have := hb.size; (try simp at this); omega)) | (go_at_call 33; refine (sMake_any _ _ _).mono ?_; rintro e w' ⟨rfl, hb⟩; obtain ⟨hc, hf⟩ := bcell hb; obtain ⟨hz0, hz1, hz2⟩ : w.heap.size < w'.heap.size ∧ w.heap.size + 1 < w'.heap.size ∧ w.heap.size + 2 < w'.heap.size := (by have := hb.size; (try simp at this); omega)))
    exact bodyPost_ret (v := .agg #[.int .i64 (mkM (a + c) (b + d)).1, .int .i64 (mkM (a + c) (b + d)).2]) (by simp [results, Try.results10, go_sem, *]) rfl ⟨ret_rng E.out, (by repeat (first | exact Below.refl _ _ | refine bl_set ?_ (by simp <;> omega) _ | refine bl_alloc ?_ _ | refine bl_drew ?_ | refine below_step ?_ (by assumption)))⟩
set_option maxHeartbeats 400000 in
theorem sSub_any (a b c d : Int) (w : World) : Calls Try.prog 11 #[.agg #[.int .i64 a, .int .i64 b], .agg #[.int .i64 c, .int .i64 d]] w fun e w' => e = .returned (.agg #[.int .i64 (subM a b c d).1, .int .i64 (subM a b c d).2]) ∧ Below w.heap.size w w' := by
  cases h1 : bothB a b c d
  · have E := mkHid (show subM a b c d = (1, 0) by unfold subM; rw [h1]; rfl)
    go_enter Try.func11, Try.ntmps11
    go_wp2_with (first | (go_at_call 31; refine (sBoth_any _ _ _ _ _).mono ?_; rintro e w' ⟨rfl, hb⟩; obtain ⟨hc, hf⟩ := bcell hb; obtain ⟨hz0, hz1, hz2⟩ : w.heap.size < w'.heap.size ∧ w.heap.size + 1 < w'.heap.size ∧ w.heap.size + 2 < w'.heap.size := (by have := hb.size; (try simp at this); omega)) | (go_at_call 32; refine (sNone_any _).mono ?_; rintro e w' ⟨rfl, hb⟩; obtain ⟨hc, hf⟩ := bcell hb; obtain ⟨hz0, hz1, hz2⟩ : w.heap.size < w'.heap.size ∧ w.heap.size + 1 < w'.heap.size ∧ w.heap.size + 2 < w'.heap.size := (by have := hb.size; (try simp at this); omega)))
    exact bodyPost_ret (v := .agg #[.int .i64 1, .int .i64 0]) (by simp [results, Try.results11, go_sem, *]) rfl ⟨ret_rng E.out, (by repeat (first | exact Below.refl _ _ | refine bl_set ?_ (by simp <;> omega) _ | refine bl_alloc ?_ _ | refine bl_drew ?_ | refine below_step ?_ (by assumption)))⟩
  · have E := mkHid (show subM a b c d = mkM (a - d) (b - c) by unfold subM; rw [if_pos h1])
    obtain ⟨⟨q1, q2, q3⟩, q4, q5, q6⟩ := both_iff.1 h1
    go_enter Try.func11, Try.ntmps11
    go_wp2_with (first | (go_at_call 31; refine (sBoth_any _ _ _ _ _).mono ?_; rintro e w' ⟨rfl, hb⟩; obtain ⟨hc, hf⟩ := bcell hb; obtain ⟨hz0, hz1, hz2⟩ : w.heap.size < w'.heap.size ∧ w.heap.size + 1 < w'.heap.size ∧ w.heap.size + 2 < w'.heap.size := (by have := hb.size; (try simp at this); omega)) | (go_at_call 33; refine (sMake_any _ _ _).mono ?_; rintro e w' ⟨rfl, hb⟩; obtain ⟨hc, hf⟩ := bcell hb; obtain ⟨hz0, hz1, hz2⟩ : w.heap.size < w'.heap.size ∧ w.heap.size + 1 < w'.heap.size ∧ w.heap.size + 2 < w'.heap.size := (by have := hb.size; (try simp at this); omega)))
    exact bodyPost_ret (v := .agg #[.int .i64 (mkM (a - d) (b - c)).1, .int .i64 (mkM (a - d) (b - c)).2]) (by simp [results, Try.results11, go_sem, *]) rfl ⟨ret_rng E.out, (by repeat (first | exact Below.refl _ _ | refine bl_set ?_ (by simp <;> omega) _ | refine bl_alloc ?_ _ | refine bl_drew ?_ | refine below_step ?_ (by assumption)))⟩
set_option maxHeartbeats 800000 in
theorem sMul_any (a b c d : Int) (w : World) : Calls Try.prog 12 #[.agg #[.int .i64 a, .int .i64 b], .agg #[.int .i64 c, .int .i64 d]] w fun e w' => e = .returned (.agg #[.int .i64 (mulM a b c d).1, .int .i64 (mulM a b c d).2]) ∧ Below w.heap.size w w' := by
  cases h1 : bothB a b c d
  · have E := mkHid (show mulM a b c d = (1, 0) by unfold mulM; rw [h1]; rfl)
    go_enter Try.func12, Try.ntmps12
    go_wp2_with (first | (go_at_call 31; refine (sBoth_any _ _ _ _ _).mono ?_; rintro e w' ⟨rfl, hb⟩; obtain ⟨hc, hf⟩ := bcell hb; obtain ⟨hz0, hz1, hz2⟩ : w.heap.size < w'.heap.size ∧ w.heap.size + 1 < w'.heap.size ∧ w.heap.size + 2 < w'.heap.size := (by have := hb.size; (try simp at this); omega)) | (go_at_call 32; refine (sNone_any _).mono ?_; rintro e w' ⟨rfl, hb⟩; obtain ⟨hc, hf⟩ := bcell hb; obtain ⟨hz0, hz1, hz2⟩ : w.heap.size < w'.heap.size ∧ w.heap.size + 1 < w'.heap.size ∧ w.heap.size + 2 < w'.heap.size := (by have := hb.size; (try simp at this); omega)))
    exact bodyPost_ret (v := .agg #[.int .i64 1, .int .i64 0]) (by simp [results, Try.results12, go_sem, *]) rfl ⟨ret_rng E.out, (by repeat (first | exact Below.refl _ _ | refine bl_set ?_ (by simp <;> omega) _ | refine bl_alloc ?_ _ | refine bl_drew ?_ | refine below_step ?_ (by assumption)))⟩
  · have E := mkHid (show mulM a b c d = mkM (min (min (a * c) (a * d)) (min (b * c) (b * d))) (max (max (a * c) (a * d)) (max (b * c) (b * d))) by unfold mulM; rw [if_pos h1])
    obtain ⟨⟨q1, q2, q3⟩, q4, q5, q6⟩ := both_iff.1 h1
    obtain ⟨m1, m2⟩ := mul_bd q1 (by omega) q4 (by omega : c ≤ 1000000)
    obtain ⟨m3, m4⟩ := mul_bd q1 (by omega) (by omega : -1000000 ≤ d) q6
    obtain ⟨m5, m6⟩ := mul_bd (by omega : -1000000 ≤ b) q3 q4 (by omega : c ≤ 1000000)
    obtain ⟨m7, m8⟩ := mul_bd (by omega : -1000000 ≤ b) q3 (by omega : -1000000 ≤ d) q6
    go_enter Try.func12, Try.ntmps12
    go_wp2_with (first | (go_at_call 31; refine (sBoth_any _ _ _ _ _).mono ?_; rintro e w' ⟨rfl, hb⟩; obtain ⟨hc, hf⟩ := bcell hb; obtain ⟨hz0, hz1, hz2⟩ : w.heap.size < w'.heap.size ∧ w.heap.size + 1 < w'.heap.size ∧ w.heap.size + 2 < w'.heap.size := (by have := hb.size; (try simp at this); omega)) | (go_at_call 33; refine (sMake_any _ _ _).mono ?_; rintro e w' ⟨rfl, hb⟩; obtain ⟨hc, hf⟩ := bcell hb; obtain ⟨hz0, hz1, hz2⟩ : w.heap.size < w'.heap.size ∧ w.heap.size + 1 < w'.heap.size ∧ w.heap.size + 2 < w'.heap.size := (by have := hb.size; (try simp at this); omega)) | (go_at_call 34; refine (sMin_any _ _ _).mono ?_; rintro e w' ⟨rfl, rfl⟩) | (go_at_call 35; refine (sMax_any _ _ _).mono ?_; rintro e w' ⟨rfl, rfl⟩))
    exact bodyPost_ret (v := .agg #[.int .i64 (mkM (min (min (a * c) (a * d)) (min (b * c) (b * d))) (max (max (a * c) (a * d)) (max (b * c) (b * d)))).1, .int .i64 (mkM (min (min (a * c) (a * d)) (min (b * c) (b * d))) (max (max (a * c) (a * d)) (max (b * c) (b * d)))).2]) (by simp [results, Try.results12, go_sem, *]) rfl ⟨ret_rng E.out, (by repeat (first | exact Below.refl _ _ | refine bl_set ?_ (by simp <;> omega) _ | refine bl_alloc ?_ _ | refine bl_drew ?_ | refine below_step ?_ (by assumption)))⟩
set_option maxHeartbeats 800000 in
theorem sMeet_any (a b c d : Int) (w : World) : Calls Try.prog 45 #[.agg #[.int .i64 a, .int .i64 b], .agg #[.int .i64 c, .int .i64 d]] w fun e w' => e = .returned (.agg #[.int .i64 (meetM a b c d).1, .int .i64 (meetM a b c d).2]) ∧ Below w.heap.size w w' := by
  cases h1 : bothB a b c d
  · have E := mkHid (show meetM a b c d = (1, 0) by unfold meetM; rw [h1]; rfl)
    go_enter Try.func45, Try.ntmps45
    go_wp2_with (first | (go_at_call 31; refine (sBoth_any _ _ _ _ _).mono ?_; rintro e w' ⟨rfl, hb⟩; obtain ⟨hc, hf⟩ := bcell hb; obtain ⟨hz0, hz1, hz2⟩ : w.heap.size < w'.heap.size ∧ w.heap.size + 1 < w'.heap.size ∧ w.heap.size + 2 < w'.heap.size := (by have := hb.size; (try simp at this); omega)) | (go_at_call 32; refine (sNone_any _).mono ?_; rintro e w' ⟨rfl, hb⟩; obtain ⟨hc, hf⟩ := bcell hb; obtain ⟨hz0, hz1, hz2⟩ : w.heap.size < w'.heap.size ∧ w.heap.size + 1 < w'.heap.size ∧ w.heap.size + 2 < w'.heap.size := (by have := hb.size; (try simp at this); omega)))
    exact bodyPost_ret (v := .agg #[.int .i64 1, .int .i64 0]) (by simp [results, Try.results45, go_sem, *]) rfl ⟨ret_rng E.out, (by repeat (first | exact Below.refl _ _ | refine bl_set ?_ (by simp <;> omega) _ | refine bl_alloc ?_ _ | refine bl_drew ?_ | refine below_step ?_ (by assumption)))⟩
  · have E := mkHid (show meetM a b c d = mkM (max a c) (min b d) by unfold meetM; rw [if_pos h1]; have := both_iff.1 h1; unfold mkM spanM; by_cases h : min b d < max a c; rw [if_pos h, if_pos (by omega)]; rw [if_neg h, if_neg (by omega)]; congr 1 <;> omega)
    go_enter Try.func45, Try.ntmps45
    go_wp2_with (first | (go_at_call 31; refine (sBoth_any _ _ _ _ _).mono ?_; rintro e w' ⟨rfl, hb⟩; obtain ⟨hc, hf⟩ := bcell hb; obtain ⟨hz0, hz1, hz2⟩ : w.heap.size < w'.heap.size ∧ w.heap.size + 1 < w'.heap.size ∧ w.heap.size + 2 < w'.heap.size := (by have := hb.size; (try simp at this); omega)))
    have p0 : w'.cell? ⟨w.heap.size, 0, none⟩ = some (.int .i64 a) := by simp [go_sem, *]
    have p1 : w'.cell? ⟨w.heap.size, 1, none⟩ = some (.int .i64 b) := by simp [go_sem, *]
    have p2 : w'.cell? ⟨w.heap.size + 1, 0, none⟩ = some (.int .i64 c) := by simp [go_sem, *]
    have p3 : w'.cell? ⟨w.heap.size + 1, 1, none⟩ = some (.int .i64 d) := by simp [go_sem, *]
    have g0 := hz0
    have g1 := hz1
    have g2 := hz2
    have c0 : w'.cell? ⟨w.heap.size + 2, 0, none⟩ = some (.int .i64 0) := by simp [go_sem, *]
    have c1 : w'.cell? ⟨w.heap.size + 2, 1, none⟩ = some (.int .i64 0) := by simp [go_sem, *]
    have f0 : w'.frozen? ⟨w.heap.size + 2, 0, none⟩ = false := by simp [go_sem, *]
    have f1 : w'.frozen? ⟨w.heap.size + 2, 1, none⟩ = false := by simp [go_sem, *]
    go_region_held3 (fun v => v.cell? ⟨w.heap.size, 0, none⟩ = some (.int .i64 a) ∧ v.cell? ⟨w.heap.size, 1, none⟩ = some (.int .i64 b) ∧ v.cell? ⟨w.heap.size + 1, 0, none⟩ = some (.int .i64 c) ∧ v.cell? ⟨w.heap.size + 1, 1, none⟩ = some (.int .i64 d))
      (first | exact ⟨p0, p1, p2, p3⟩ | assumption | exact ⟨(hc _ _ g0).trans p0, (hc _ _ g0).trans p1, (hc _ _ g1).trans p2, (hc _ _ g1).trans p3⟩ | (simp [*, go_sem]; done))
      (first | (go_at_call 34; refine (sMin_any _ _ _).mono ?_; rintro e w' ⟨rfl, rfl⟩) | (go_at_call 35; refine (sMax_any _ _ _).mono ?_; rintro e w' ⟨rfl, rfl⟩) | (go_at_call 33; refine (sMake_any _ _ _).mono ?_; rintro e w' ⟨rfl, hb⟩; obtain ⟨hc, hf⟩ := bcell hb; obtain ⟨hz0, hz1, hz2⟩ : w.heap.size < w'.heap.size ∧ w.heap.size + 1 < w'.heap.size ∧ w.heap.size + 2 < w'.heap.size := (by have := hb.size; (try simp at this); omega); have r0 := (hc _ _ g2).trans c0; have r1 := (hc _ _ g2).trans c1; have s0 := (hf _ _ g2).trans f0; have s1 := (hf _ _ g2).trans f1))
    all_goals
      go_wp2
      exact bodyPost_ret (v := .agg #[.int .i64 (mkM (max a c) (min b d)).1, .int .i64 (mkM (max a c) (min b d)).2]) (by simp [results, Try.results45, go_sem, *]) rfl ⟨ret_rng E.out, (by repeat (first | exact Below.refl _ _ | refine bl_set ?_ (by simp <;> omega) _ | refine bl_alloc ?_ _ | refine bl_drew ?_ | refine below_step ?_ (by assumption)))⟩
theorem mk_in {x y : Int} (h0 : -1000000 ≤ x) (h1 : x ≤ y) (h2 : y ≤ 1000000) : mkM x y = (x, y) := by
  unfold mkM spanM
  rw [if_neg (by omega), show max x (-1000000) = x by omega, show min y 1000000 = y by omega]
theorem join_mk {a b c d : Int} (h1 : okB a b = true) (h2 : okB c d = true) (h3 : isB a b = true) (h4 : isB c d = true) : joinM a b c d = mkM (min a c) (max b d) := by
  have e : joinM a b c d = (min a c, max b d) := by simp [joinM, h1, h2, h3, h4]
  have i1 := ok_iff.1 h1
  have i2 := ok_iff.1 h2
  have i3 := is_iff.1 h3
  have i4 := is_iff.1 h4
  rw [e, mk_in (by omega) (by omega) (by omega)]
end Go.Proofs.Ytgkmpadeleebdaa
