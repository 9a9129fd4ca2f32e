/-
  CONTRACTS of the program's kindOf and WordOk.
-/
import Derived.Test.YthaehhndfahocaaImpl
namespace Go.Proofs.Ythaehhndfahocaa
open Go.RowKit
open Pl

theorem bcell {W w1 : World} (hb : Below W.heap.size W w1) : (∀ b o, b < W.heap.size → w1.cell? ⟨b, o, none⟩ = W.cell? ⟨b, o, none⟩) ∧ (∀ b o, b < W.heap.size → w1.frozen? ⟨b, o, none⟩ = W.frozen? ⟨b, o, none⟩) :=
  ⟨fun b o h => hb.cell (p := ⟨b, o, none⟩) h, fun b o h => hb.frozen (p := ⟨b, o, none⟩) h⟩
theorem below_step {w w1 w2 : World} (h1 : Below w.heap.size w w1) (h2 : Below w1.heap.size w1 w2) : Below w.heap.size w w2 := h1.trans (h2.mono h1.size)

set_option maxHeartbeats 400000 in
theorem kindOf_any (s : ByteArray) (w : World) (hs : s.size ≤ maxLen) : Calls Try.prog 36 #[.string s] w fun e w' => e = .returned (.int .i64 (kindI s)) ∧ Below w.heap.size w w' := by
  have HK := mkHid (kindI_eq s)
  by_cases h1 : nameB s = true
  · go_enter Try.func36, Try.ntmps36
    go_wp2_with (go_at_call 50; refine (isName_any _ _ hs).mono ?_; rintro e w1 ⟨rfl, hb1⟩)
    go_ret
    exact ⟨ret_int (by rw [HK.out]; simp [h1]), hb1⟩
  · simp only [Bool.not_eq_true] at h1
    by_cases h2 : numB s = true
    · go_enter Try.func36, Try.ntmps36
      go_wp2_with (first | (go_at_call 50; refine (isName_any _ _ hs).mono ?_; rintro e w1 ⟨rfl, hb1⟩) | (go_at_call 51; refine (isNum_any _ _ hs).mono ?_; rintro e w2 ⟨rfl, hb2⟩))
      go_ret
      exact ⟨ret_int (by rw [HK.out]; simp [h1, h2]), below_step hb1 hb2⟩
    · simp only [Bool.not_eq_true] at h2
      by_cases h3 : signB s = true
      · go_enter Try.func36, Try.ntmps36
        go_wp2_with (first | (go_at_call 50; refine (isName_any _ _ hs).mono ?_; rintro e w1 ⟨rfl, hb1⟩) | (go_at_call 51; refine (isNum_any _ _ hs).mono ?_; rintro e w2 ⟨rfl, hb2⟩) | (go_at_call 52; refine (isSign_any _ _).mono ?_; rintro e w3 ⟨rfl, rfl⟩))
        go_ret
        exact ⟨ret_int (by rw [HK.out]; simp [h1, h2, h3]), below_step hb1 hb2⟩
      · simp only [Bool.not_eq_true] at h3
        by_cases h4 : keyB s = true
        · go_enter Try.func36, Try.ntmps36
          go_wp2_with (first | (go_at_call 50; refine (isName_any _ _ hs).mono ?_; rintro e w1 ⟨rfl, hb1⟩) | (go_at_call 51; refine (isNum_any _ _ hs).mono ?_; rintro e w2 ⟨rfl, hb2⟩) | (go_at_call 52; refine (isSign_any _ _).mono ?_; rintro e w3 ⟨rfl, rfl⟩) | (go_at_call 53; refine (isKey_any _ _).mono ?_; rintro e w3 ⟨rfl, rfl⟩))
          go_ret
          exact ⟨ret_int (by rw [HK.out]; simp [h1, h2, h3, h4]), below_step hb1 hb2⟩
        · simp only [Bool.not_eq_true] at h4
          go_enter Try.func36, Try.ntmps36
          go_wp2_with (first | (go_at_call 50; refine (isName_any _ _ hs).mono ?_; rintro e w1 ⟨rfl, hb1⟩) | (go_at_call 51; refine (isNum_any _ _ hs).mono ?_; rintro e w2 ⟨rfl, hb2⟩) | (go_at_call 52; refine (isSign_any _ _).mono ?_; rintro e w3 ⟨rfl, rfl⟩) | (go_at_call 53; refine (isKey_any _ _).mono ?_; rintro e w3 ⟨rfl, rfl⟩))
          go_ret
          exact ⟨ret_int (by rw [HK.out]; simp [h1, h2, h3, h4]), below_step hb1 hb2⟩

/-- Whether a word can be one of some text. -/
def wordB (k : Int) (s : ByteArray) (a : Int) : Bool := decide (kindI s ≠ 0) && decide (kindI s = k) && atB a

set_option maxHeartbeats 400000 in
theorem iWordOk_any (k : Int) (s : ByteArray) (a : Int) (w : World) (hs : s.size ≤ maxLen) : Calls Try.prog 21 #[.agg #[.int .i64 k, .string s, .int .i64 a]] w fun e w' => e = .returned (.bool (wordB k s a)) ∧ Below w.heap.size w w' := by
  have fin : ∀ o w1, Below (w.alloc o).heap.size (w.alloc o) w1 → Below w.heap.size w w1 := fun o w1 h => ((Below.refl _ _).alloc (Nat.le_refl _) o).trans (h.mono (by simp))
  by_cases h0 : kindI s = 0
  · have HW := mkHid (show wordB k s a = false by simp [wordB, h0])
    have h0' : (kindI s != 0) = false := by simp [h0]
    clear h0
    go_enter Try.func21, Try.ntmps21
    go_wp2_with (go_at_call 36; refine (kindOf_any _ _ hs).mono ?_; rintro e w1 ⟨rfl, hb1⟩; obtain ⟨hc, hf⟩ := bcell hb1)
    go_ret
    exact ⟨ret_bool HW.out.symm, fin _ _ hb1⟩
  · have h0' : (kindI s != 0) = true := by simp [h0]
    clear h0
    by_cases h1 : (kindI s == k) = true
    · by_cases h2 : 0 ≤ a
      · by_cases h3 : a ≤ 4000
        · have HW := mkHid (show wordB k s a = true by simp [wordB, atB, h2, h3]; simp at h0' h1; exact ⟨h0', h1⟩)
          go_enter Try.func21, Try.ntmps21
          go_wp2_with (go_at_call 36; refine (kindOf_any _ _ hs).mono ?_; rintro e w1 ⟨rfl, hb1⟩; obtain ⟨hc, hf⟩ := bcell hb1)
          go_ret
          exact ⟨ret_bool HW.out.symm, fin _ _ hb1⟩
        · have HW := mkHid (show wordB k s a = false by simp [wordB, atB, h2, h3])
          go_enter Try.func21, Try.ntmps21
          go_wp2_with (go_at_call 36; refine (kindOf_any _ _ hs).mono ?_; rintro e w1 ⟨rfl, hb1⟩; obtain ⟨hc, hf⟩ := bcell hb1)
          go_ret
          exact ⟨ret_bool (by rw [HW.out]; simp [h3]), fin _ _ hb1⟩
      · have HW := mkHid (show wordB k s a = false by simp [wordB, atB, h2])
        go_enter Try.func21, Try.ntmps21
        go_wp2_with (go_at_call 36; refine (kindOf_any _ _ hs).mono ?_; rintro e w1 ⟨rfl, hb1⟩; obtain ⟨hc, hf⟩ := bcell hb1)
        go_ret
        exact ⟨ret_bool HW.out.symm, fin _ _ hb1⟩
    · simp only [Bool.not_eq_true] at h1
      have HW := mkHid (show wordB k s a = false by simp at h1; simp [wordB, h1])
      go_enter Try.func21, Try.ntmps21
      go_wp2_with (go_at_call 36; refine (kindOf_any _ _ hs).mono ?_; rintro e w1 ⟨rfl, hb1⟩; obtain ⟨hc, hf⟩ := bcell hb1)
      go_ret
      exact ⟨ret_bool HW.out.symm, fin _ _ hb1⟩
end Go.Proofs.Ythaehhndfahocaa
