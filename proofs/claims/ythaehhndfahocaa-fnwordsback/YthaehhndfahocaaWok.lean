/-
  CONTRACT of the specification's WordOk.
-/
import Derived.Test.YthaehhndfahocaaSpecc
import Derived.Deep.RegionHeld3
import Derived.Deep.RegionWith
namespace Go.Proofs.Ythaehhndfahocaa
open Go.RowKit
open Pl

theorem kindI_nonneg (s : ByteArray) : 0 ≤ kindI s := by
  unfold kindI
  repeat' split
  all_goals decide
theorem wordB_neg {k : Int} {s : ByteArray} {a : Int} (h : ¬ 0 < k) : wordB k s a = false := by
  have := kindI_nonneg s
  unfold wordB
  by_cases e : kindI s = k
  · have : kindI s = 0 := by omega
    simp [this]
  · simp [e]

theorem fin0 (w : World) (o : Obj) : Below w.heap.size w (w.alloc o).drew := ((Below.refl _ _).alloc (Nat.le_refl _) o).drew
theorem fin1 {w w1 : World} {o : Obj} (h : Below (w.alloc o).drew.heap.size (w.alloc o).drew w1) : Below w.heap.size w w1 := (fin0 w o).trans (h.mono (fin0 w o).size)
set_option maxHeartbeats 1000000 in
theorem sWordOk_any (k : Int) (s : ByteArray) (a : Int) (w : World) (hs : s.size ≤ maxLen) : Calls Try.prog 19 #[.agg #[.int .i64 k, .string s, .int .i64 a]] w fun e w' => e = .returned (.bool (wordB k s a)) ∧ Below w.heap.size w w' := by
  by_cases h0 : 0 < k
  · by_cases h1 : (k == kindI s) = true
    · have HW := mkHid (show wordB k s a = atB a by
        have e := eq_of_beq h1
        unfold wordB
        have e0 : kindI s ≠ 0 := by omega
        simp [e0, e])
      go_enter Try.func19, Try.ntmps19
      go_wp2
      go_region_held3 (fun w' => w'.cell? ⟨w.heap.size, 0, none⟩ = some (.int .i64 k) ∧ w'.cell? ⟨w.heap.size, 1, none⟩ = some (.string s) ∧ w'.cell? ⟨w.heap.size, 2, none⟩ = some (.int .i64 a)) (simp [*, go_sem])
        (first
          | (go_at_call 41; refine (sKind_any s _ hs).mono ?_; rintro e w1 ⟨rfl, hb1⟩; obtain ⟨hc, hf⟩ := bcell hb1)
          | (go_at_call 44; refine (sBetween_any a _).mono ?_; rintro e w2 ⟨rfl, rfl⟩))
      go_wp2
      go_ret
      refine ⟨ret_bool HW.out.symm, ?_⟩
      exact fin1 hb1
    · simp only [Bool.not_eq_true] at h1
      have HW := mkHid (show wordB k s a = false by
        have e : ¬ kindI s = k := by intro e; rw [e] at h1; simp at h1
        unfold wordB
        simp [e])
      go_enter Try.func19, Try.ntmps19
      go_wp2
      first | (go_region_with (first
        | (go_at_call 41; refine (sKind_any s _ hs).mono ?_; rintro e w1 ⟨rfl, hb1⟩; obtain ⟨hc, hf⟩ := bcell hb1)
        | (go_at_call 44; refine (sBetween_any a _).mono ?_; rintro e w2 ⟨rfl, rfl⟩))) | fail
      all_goals go_wp2
      all_goals go_ret
      all_goals refine ⟨ret_bool HW.out.symm, ?_⟩
      all_goals exact fin1 hb1
  · have HW := mkHid (wordB_neg (s := s) (a := a) h0)
    go_enter Try.func19, Try.ntmps19
    go_wp2
    first | (go_region_with (first
        | (go_at_call 41; refine (sKind_any s _ hs).mono ?_; rintro e w1 ⟨rfl, hb1⟩; obtain ⟨hc, hf⟩ := bcell hb1)
        | (go_at_call 44; refine (sBetween_any a _).mono ?_; rintro e w2 ⟨rfl, rfl⟩))) | fail
    all_goals go_wp2
    all_goals go_ret
    all_goals refine ⟨ret_bool HW.out.symm, ?_⟩
    all_goals exact fin0 _ _
end Go.Proofs.Ythaehhndfahocaa
