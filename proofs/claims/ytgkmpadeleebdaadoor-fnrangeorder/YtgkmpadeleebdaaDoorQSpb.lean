/-
  CONTRACTS of the specification's RangeAdd, RangeSub, RangeMul, RangeMeet, RangeJoin.
-/
import Derived.Test.YtgkmpadeleebdaaDoorQSp
namespace Go.Proofs.YtgkmpadeleebdaaDoor.Q
open Go.RowKit

theorem mul_bd {a c : Int} (a0 : -1000000 ≤ a) (a1 : a ≤ 1000000) (c0 : -1000000 ≤ c) (c1 : c ≤ 1000000) : -1000000000000 ≤ a * c ∧ a * c ≤ 1000000000000 := by
  have h : (a * c).natAbs ≤ 1000000 * 1000000 := by
    rw [Int.natAbs_mul]
    exact Nat.mul_le_mul (by omega) (by omega)
  omega

theorem mk_in {x y : Int} (h0 : -1000000 ≤ x) (h1 : x ≤ y) (h2 : y ≤ 1000000) : mkM x y = (x, y) := by
  unfold mkM spanM
  rw [if_neg (by omega), show max x (-1000000) = x by omega, show min y 1000000 = y by omega]
theorem join_mk {a b c d : Int} (h1 : okB a b = true) (h2 : okB c d = true) (h3 : isB a b = true) (h4 : isB c d = true) : joinM a b c d = mkM (min a c) (max b d) := by
  have e : joinM a b c d = (min a c, max b d) := by simp [joinM, h1, h2, h3, h4]
  have i1 := ok_iff.1 h1
  have i2 := ok_iff.1 h2
  have i3 := is_iff.1 h3
  have i4 := is_iff.1 h4
  rw [e, mk_in (by omega) (by omega) (by omega)]
set_option maxRecDepth 100000 in
set_option maxHeartbeats 1600000 in
theorem sJoin_any (a b c d : Int) (w : World) : Calls Tryd.prog 10 #[.agg #[.int .i64 a, .int .i64 b], .agg #[.int .i64 c, .int .i64 d]] w fun e w' => e = .returned (.agg #[.int .i64 (joinM a b c d).1, .int .i64 (joinM a b c d).2]) ∧ Below w.heap.size w w' := by
  cases h1 : okB a b
  · have E := mkHid (show joinM a b c d = (1, 0) by unfold joinM; rw [h1]; rfl)
    go_enter Tryd.func10, Tryd.ntmps10
    go_wp2_with (first | (go_at_call 13; refine (sOk_any _ _ _).mono ?_; rintro e w' ⟨rfl, hb⟩; obtain ⟨hc, hf⟩ := bcell hb; obtain ⟨hz0, hz1, hz2⟩ : w.heap.size < w'.heap.size ∧ w.heap.size + 1 < w'.heap.size ∧ w.heap.size + 2 < w'.heap.size := (by have := hb.size; (try simp at this); omega)) | (go_at_call 31; refine (sIs_any _ _ _).mono ?_; rintro e w' ⟨rfl, hb⟩; obtain ⟨hc, hf⟩ := bcell hb; obtain ⟨hz0, hz1, hz2⟩ : w.heap.size < w'.heap.size ∧ w.heap.size + 1 < w'.heap.size ∧ w.heap.size + 2 < w'.heap.size := (by have := hb.size; (try simp at this); omega)) | (go_at_call 30; refine (sNone_any _).mono ?_; rintro e w' ⟨rfl, hb⟩; obtain ⟨hc, hf⟩ := bcell hb; obtain ⟨hz0, hz1, hz2⟩ : w.heap.size < w'.heap.size ∧ w.heap.size + 1 < w'.heap.size ∧ w.heap.size + 2 < w'.heap.size := (by have := hb.size; (try simp at this); omega)))
    exact bodyPost_ret (v := .agg #[.int .i64 1, .int .i64 0]) (by simp [results, Tryd.results10, go_sem, *]) rfl ⟨ret_rng E.out, (by repeat (first | exact Below.refl _ _ | refine bl_set ?_ (by simp <;> omega) _ | refine bl_alloc ?_ _ | refine bl_drew ?_ | refine below_step ?_ (by assumption)))⟩
  · cases h2 : okB c d
    · have E := mkHid (show joinM a b c d = (1, 0) by unfold joinM; rw [h1, h2]; rfl)
      go_enter Tryd.func10, Tryd.ntmps10
      go_wp2_with (first | (go_at_call 13; refine (sOk_any _ _ _).mono ?_; rintro e w' ⟨rfl, hb⟩; obtain ⟨hc, hf⟩ := bcell hb; obtain ⟨hz0, hz1, hz2⟩ : w.heap.size < w'.heap.size ∧ w.heap.size + 1 < w'.heap.size ∧ w.heap.size + 2 < w'.heap.size := (by have := hb.size; (try simp at this); omega)) | (go_at_call 31; refine (sIs_any _ _ _).mono ?_; rintro e w' ⟨rfl, hb⟩; obtain ⟨hc, hf⟩ := bcell hb; obtain ⟨hz0, hz1, hz2⟩ : w.heap.size < w'.heap.size ∧ w.heap.size + 1 < w'.heap.size ∧ w.heap.size + 2 < w'.heap.size := (by have := hb.size; (try simp at this); omega)) | (go_at_call 30; refine (sNone_any _).mono ?_; rintro e w' ⟨rfl, hb⟩; obtain ⟨hc, hf⟩ := bcell hb; obtain ⟨hz0, hz1, hz2⟩ : w.heap.size < w'.heap.size ∧ w.heap.size + 1 < w'.heap.size ∧ w.heap.size + 2 < w'.heap.size := (by have := hb.size; (try simp at this); omega)))
      exact bodyPost_ret (v := .agg #[.int .i64 1, .int .i64 0]) (by simp [results, Tryd.results10, go_sem, *]) rfl ⟨ret_rng E.out, (by repeat (first | exact Below.refl _ _ | refine bl_set ?_ (by simp <;> omega) _ | refine bl_alloc ?_ _ | refine bl_drew ?_ | refine below_step ?_ (by assumption)))⟩
    · cases h3 : isB a b
      · have E := mkHid (show joinM a b c d = (c, d) by unfold joinM; rw [h1, h2, h3]; rfl)
        go_enter Tryd.func10, Tryd.ntmps10
        go_wp2_with (first | (go_at_call 13; refine (sOk_any _ _ _).mono ?_; rintro e w' ⟨rfl, hb⟩; obtain ⟨hc, hf⟩ := bcell hb; obtain ⟨hz0, hz1, hz2⟩ : w.heap.size < w'.heap.size ∧ w.heap.size + 1 < w'.heap.size ∧ w.heap.size + 2 < w'.heap.size := (by have := hb.size; (try simp at this); omega)) | (go_at_call 31; refine (sIs_any _ _ _).mono ?_; rintro e w' ⟨rfl, hb⟩; obtain ⟨hc, hf⟩ := bcell hb; obtain ⟨hz0, hz1, hz2⟩ : w.heap.size < w'.heap.size ∧ w.heap.size + 1 < w'.heap.size ∧ w.heap.size + 2 < w'.heap.size := (by have := hb.size; (try simp at this); omega)) | (go_at_call 30; refine (sNone_any _).mono ?_; rintro e w' ⟨rfl, hb⟩; obtain ⟨hc, hf⟩ := bcell hb; obtain ⟨hz0, hz1, hz2⟩ : w.heap.size < w'.heap.size ∧ w.heap.size + 1 < w'.heap.size ∧ w.heap.size + 2 < w'.heap.size := (by have := hb.size; (try simp at this); omega)))
        exact bodyPost_ret (v := .agg #[.int .i64 c, .int .i64 d]) (by simp [results, Tryd.results10, go_sem, *]) rfl ⟨ret_rng E.out, (by repeat (first | exact Below.refl _ _ | refine bl_set ?_ (by simp <;> omega) _ | refine bl_alloc ?_ _ | refine bl_drew ?_ | refine below_step ?_ (by assumption)))⟩
      · cases h4 : isB c d
        · have E := mkHid (show joinM a b c d = (a, b) by unfold joinM; rw [h1, h2, h3, h4]; rfl)
          go_enter Tryd.func10, Tryd.ntmps10
          go_wp2_with (first | (go_at_call 13; refine (sOk_any _ _ _).mono ?_; rintro e w' ⟨rfl, hb⟩; obtain ⟨hc, hf⟩ := bcell hb; obtain ⟨hz0, hz1, hz2⟩ : w.heap.size < w'.heap.size ∧ w.heap.size + 1 < w'.heap.size ∧ w.heap.size + 2 < w'.heap.size := (by have := hb.size; (try simp at this); omega)) | (go_at_call 31; refine (sIs_any _ _ _).mono ?_; rintro e w' ⟨rfl, hb⟩; obtain ⟨hc, hf⟩ := bcell hb; obtain ⟨hz0, hz1, hz2⟩ : w.heap.size < w'.heap.size ∧ w.heap.size + 1 < w'.heap.size ∧ w.heap.size + 2 < w'.heap.size := (by have := hb.size; (try simp at this); omega)) | (go_at_call 30; refine (sNone_any _).mono ?_; rintro e w' ⟨rfl, hb⟩; obtain ⟨hc, hf⟩ := bcell hb; obtain ⟨hz0, hz1, hz2⟩ : w.heap.size < w'.heap.size ∧ w.heap.size + 1 < w'.heap.size ∧ w.heap.size + 2 < w'.heap.size := (by have := hb.size; (try simp at this); omega)))
          exact bodyPost_ret (v := .agg #[.int .i64 a, .int .i64 b]) (by simp [results, Tryd.results10, go_sem, *]) rfl ⟨ret_rng E.out, (by repeat (first | exact Below.refl _ _ | refine bl_set ?_ (by simp <;> omega) _ | refine bl_alloc ?_ _ | refine bl_drew ?_ | refine below_step ?_ (by assumption)))⟩
        · have E := mkHid (join_mk h1 h2 h3 h4)
          go_enter Tryd.func10, Tryd.ntmps10
          go_wp2_with (first | (go_at_call 13; refine (sOk_any _ _ _).mono ?_; rintro e w' ⟨rfl, hb⟩; obtain ⟨hc, hf⟩ := bcell hb; obtain ⟨hz0, hz1, hz2⟩ : w.heap.size < w'.heap.size ∧ w.heap.size + 1 < w'.heap.size ∧ w.heap.size + 2 < w'.heap.size := (by have := hb.size; (try simp at this); omega)) | (go_at_call 31; refine (sIs_any _ _ _).mono ?_; rintro e w' ⟨rfl, hb⟩; obtain ⟨hc, hf⟩ := bcell hb; obtain ⟨hz0, hz1, hz2⟩ : w.heap.size < w'.heap.size ∧ w.heap.size + 1 < w'.heap.size ∧ w.heap.size + 2 < w'.heap.size := (by have := hb.size; (try simp at this); omega)) | (go_at_call 30; refine (sNone_any _).mono ?_; rintro e w' ⟨rfl, hb⟩; obtain ⟨hc, hf⟩ := bcell hb; obtain ⟨hz0, hz1, hz2⟩ : w.heap.size < w'.heap.size ∧ w.heap.size + 1 < w'.heap.size ∧ w.heap.size + 2 < w'.heap.size := (by have := hb.size; (try simp at this); omega)))
          have p0 : w'.cell? ⟨w.heap.size, 0, none⟩ = some (.int .i64 a) := by simp [go_sem, *]
          have p1 : w'.cell? ⟨w.heap.size, 1, none⟩ = some (.int .i64 b) := by simp [go_sem, *]
          have p2 : w'.cell? ⟨w.heap.size + 1, 0, none⟩ = some (.int .i64 c) := by simp [go_sem, *]
          have p3 : w'.cell? ⟨w.heap.size + 1, 1, none⟩ = some (.int .i64 d) := by simp [go_sem, *]
          have g0 := hz0
          have g1 := hz1
          have g2 := hz2
          have c0 : w'.cell? ⟨w.heap.size + 2, 0, none⟩ = some (.int .i64 0) := by simp [go_sem, *]
          have c1 : w'.cell? ⟨w.heap.size + 2, 1, none⟩ = some (.int .i64 0) := by simp [go_sem, *]
          have f0 : w'.frozen? ⟨w.heap.size + 2, 0, none⟩ = false := by simp [go_sem, *]
          have f1 : w'.frozen? ⟨w.heap.size + 2, 1, none⟩ = false := by simp [go_sem, *]
          go_region_held3 (fun v => v.cell? ⟨w.heap.size, 0, none⟩ = some (.int .i64 a) ∧ v.cell? ⟨w.heap.size, 1, none⟩ = some (.int .i64 b) ∧ v.cell? ⟨w.heap.size + 1, 0, none⟩ = some (.int .i64 c) ∧ v.cell? ⟨w.heap.size + 1, 1, none⟩ = some (.int .i64 d))
            (first | exact ⟨p0, p1, p2, p3⟩ | assumption | exact ⟨(hc _ _ g0).trans p0, (hc _ _ g0).trans p1, (hc _ _ g1).trans p2, (hc _ _ g1).trans p3⟩ | (simp [*, go_sem]; done))
            (first | (go_at_call 33; refine (sMin_any _ _ _).mono ?_; rintro e w' ⟨rfl, rfl⟩) | (go_at_call 34; refine (sMax_any _ _ _).mono ?_; rintro e w' ⟨rfl, rfl⟩) | (go_at_call 32; refine (sMake_any _ _ _).mono ?_; rintro e w' ⟨rfl, hb⟩; obtain ⟨hc, hf⟩ := bcell hb; obtain ⟨hz0, hz1, hz2⟩ : w.heap.size < w'.heap.size ∧ w.heap.size + 1 < w'.heap.size ∧ w.heap.size + 2 < w'.heap.size := (by have := hb.size; (try simp at this); omega); have r0 := (hc _ _ g2).trans c0; have r1 := (hc _ _ g2).trans c1; have s0 := (hf _ _ g2).trans f0; have s1 := (hf _ _ g2).trans f1))
          all_goals
            go_wp2
            exact bodyPost_ret (v := .agg #[.int .i64 (mkM (min a c) (max b d)).1, .int .i64 (mkM (min a c) (max b d)).2]) (by simp [results, Tryd.results10, go_sem, *]) rfl ⟨ret_rng E.out, (by repeat (first | exact Below.refl _ _ | refine bl_set ?_ (by simp <;> omega) _ | refine bl_alloc ?_ _ | refine bl_drew ?_ | refine below_step ?_ (by assumption)))⟩
end Go.Proofs.YtgkmpadeleebdaaDoor.Q
