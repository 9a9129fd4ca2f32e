/-
  RANGES AS TEXT: CONTRACTS of both RangeTexts.
-/
import Derived.Test.YtgkmpadeleebdaaDoorRt
import Derived.Test.YtgkmpadeleebdaaDoorIp
import Derived.Test.YtgkmpadeleebdaaDoorReg
import Derived.Lib.SmallJoins
import Derived.Lib.AppendIntMem
namespace Go.Proofs.YtgkmpadeleebdaaDoor
open Go.RowKit
attribute [local go_sem] nlt2 nlt3 nlt4 nle2 nle3 nle4 drew_size drew_cell drew_frozen

def textM (a b : Int) : ByteArray := if okB a b then (if isB a b then (dI a ++ ⟨#[46, 46]⟩) ++ dI b else ⟨#[110, 111, 110, 101]⟩) else ⟨#[]⟩
theorem bl_set2 {w a : World} {p : Addr} (hp : w.heap.size ≤ p.block) (h : Below w.heap.size w a) (u : Value) : Below w.heap.size w (a.setCell p u) := h.setCell hp u
theorem ret_str {a b : ByteArray} (h : a = b) : Ending.returned (.string a) = .returned (.string b) := by rw [h]
/-- The table of powers stays where nothing of what was there turns. -/
def Tab (w : World) : Prop := ∀ W, Below w.heap.size w W → Lib.TabIs Tryd.prog W "internal/strconv.uint64pow10" .u64 Lib.pow10Tab
theorem itoa_any (n : Int) (w : World) (h0 : -1000000 ≤ n) (h1 : n ≤ 1000000) (ht : Lib.TabIs Tryd.prog w "internal/strconv.uint64pow10" .u64 Lib.pow10Tab) : Calls Tryd.prog 41 #[.int .i64 n] w fun e w' => e = .returned (.string (dI n)) ∧ Below w.heap.size w w' := by
  refine (Tryd.strconv_Itoa n (by omega) (by omega) w ht).mono ?_
  rintro e w' ⟨rfl, kd, os, hw'⟩
  refine ⟨rfl, ?_⟩
  have := Lib.below_grow _ w (Nat.le_refl _) kd os
  rw [← hw'] at this
  exact this

set_option maxRecDepth 100000 in
set_option maxHeartbeats 1600000 in
theorem sText_any (a b : Int) (w : World) : Calls Tryd.prog 16 #[.agg #[.int .i64 a, .int .i64 b]] w fun e w' => e = .returned (.string (textM a b)) ∧ Below w.heap.size w w' := by
  cases h1 : okB a b
  · have E := mkHid (show textM a b = ⟨#[]⟩ by unfold textM; rw [h1]; rfl)
    have hEq := eql_rng
    go_enter Tryd.func16, Tryd.ntmps16
    go_wp2_with (first | (go_at_call 13; refine (sOk_any _ _ _).mono ?_; rintro e w' ⟨rfl, hb⟩; (try rw [below_drew] at hb); obtain ⟨hc, hf, hm, hs⟩ := bcell4 hb; have hz0 : w.heap.size < w'.heap.size := (by have := hb.size; (try simp at this); omega); have hl0 := Nat.le_of_lt hz0) | (go_at_call 31; refine (sIs_any _ _ _).mono ?_; rintro e w' ⟨rfl, hb⟩; (try rw [below_drew] at hb); obtain ⟨hc, hf, hm, hs⟩ := bcell4 hb; have hz0 : w.heap.size < w'.heap.size := (by have := hb.size; (try simp at this); omega); have hl0 := Nat.le_of_lt hz0))
    go_ret
    exact ⟨ret_str E.out.symm, (by repeat (first | with_reducible exact Below.refl _ _ | (with_reducible refine bl_set2 ?_ ?_ _; (first | (simp; done) | (simp [*]; done) | (simp [*] <;> omega))) | with_reducible refine bl_drew ?_ | with_reducible refine bl_alloc ?_ _ | with_reducible refine below_step ?_ (by assumption) | with_reducible assumption))⟩
  cases h2 : isB a b
  · have E := mkHid (show textM a b = ⟨#[110, 111, 110, 101]⟩ by unfold textM; rw [h1, h2]; rfl)
    have hEq := eql_rng
    go_enter Tryd.func16, Tryd.ntmps16
    go_wp2_with (first | (go_at_call 13; refine (sOk_any _ _ _).mono ?_; rintro e w' ⟨rfl, hb⟩; (try rw [below_drew] at hb); obtain ⟨hc, hf, hm, hs⟩ := bcell4 hb; have hz0 : w.heap.size < w'.heap.size := (by have := hb.size; (try simp at this); omega); have hl0 := Nat.le_of_lt hz0) | (go_at_call 31; refine (sIs_any _ _ _).mono ?_; rintro e w' ⟨rfl, hb⟩; (try rw [below_drew] at hb); obtain ⟨hc, hf, hm, hs⟩ := bcell4 hb; have hz0 : w.heap.size < w'.heap.size := (by have := hb.size; (try simp at this); omega); have hl0 := Nat.le_of_lt hz0))
    go_ret
    exact ⟨ret_str E.out.symm, (by repeat (first | with_reducible exact Below.refl _ _ | (with_reducible refine bl_set2 ?_ ?_ _; (first | (simp; done) | (simp [*]; done) | (simp [*] <;> omega))) | with_reducible refine bl_drew ?_ | with_reducible refine bl_alloc ?_ _ | with_reducible refine below_step ?_ (by assumption) | with_reducible assumption))⟩
  · have E := mkHid (show textM a b = (dI a ++ ⟨#[46, 46]⟩) ++ dI b by unfold textM; rw [h1, h2]; rfl)
    obtain ⟨q1, q2, q3⟩ : -1000000 ≤ a ∧ a ≤ b ∧ b ≤ 1000000 := by have := ok_iff.1 h1; have := is_iff.1 h2; omega
    have s1 := dI_size a (by omega) (by omega)
    have s2 := dI_size b (by omega) (by omega)
    have z1 : (dI a ++ (ByteArray.mk #[46, 46])).size = (dI a).size + 2 := by rw [ByteArray.size_append]; rfl
    have t1 : ¬ 9223372036854775807 < (dI a).size + 2 := by omega
    have t2 : ¬ 9223372036854775807 < (dI a).size + 2 + (dI b).size := by omega
    have hEq := eql_rng
    go_enter Tryd.func16, Tryd.ntmps16
    go_wp2_with (first | (go_at_call 13; refine (sOk_any _ _ _).mono ?_; rintro e w' ⟨rfl, hb⟩; (try rw [below_drew] at hb); obtain ⟨hc, hf, hm, hs⟩ := bcell4 hb; have hz0 : w.heap.size < w'.heap.size := (by have := hb.size; (try simp at this); omega); have hl0 := Nat.le_of_lt hz0) | (go_at_call 31; refine (sIs_any _ _ _).mono ?_; rintro e w' ⟨rfl, hb⟩; (try rw [below_drew] at hb); obtain ⟨hc, hf, hm, hs⟩ := bcell4 hb; have hz0 : w.heap.size < w'.heap.size := (by have := hb.size; (try simp at this); omega); have hl0 := Nat.le_of_lt hz0))
    go_region_held3 (fun v => v.cell? ⟨w.heap.size, 0, none⟩ = some (.int .i64 a) ∧ v.cell? ⟨w.heap.size, 1, none⟩ = some (.int .i64 b)) (first | (simp (maxDischargeDepth := 12) [*, go_sem]; done) | assumption) (first | (go_at_call 38; refine (digitsI_any _ _ (by omega) (by omega)).mono ?_; rintro e w' ⟨rfl, hb⟩; (try rw [below_drew] at hb); obtain ⟨hc, hf, hm, hs⟩ := bcell4 hb; have hz0 : w.heap.size < w'.heap.size := (by have := hb.size; (try simp at this); omega); have hl0 := Nat.le_of_lt hz0))
    all_goals
      go_wp2
      go_ret
      exact ⟨ret_str E.out.symm, (by repeat (first | with_reducible exact Below.refl _ _ | (with_reducible refine bl_set2 ?_ ?_ _; (first | (simp; done) | (simp [*]; done) | (simp [*] <;> omega))) | with_reducible refine bl_drew ?_ | with_reducible refine bl_alloc ?_ _ | with_reducible refine below_step ?_ (by assumption) | with_reducible assumption))⟩
theorem ok_eq {a b : Int} (h : okB a b = true) : isB a b = !eqB a b 1 0 := by
  have h3 := ok_iff.1 h
  have e : eqB a b 1 0 = true ↔ a = 1 ∧ b = 0 := by unfold eqB; simp
  cases h1 : eqB a b 1 0
  · have n : ¬ (a = 1 ∧ b = 0) := fun hh => by rw [e.2 hh] at h1; cases h1
    exact is_iff.2 (by omega)
  · have := e.1 h1
    cases h2 : isB a b
    · rfl
    · have := is_iff.1 h2; omega
set_option maxRecDepth 100000 in
set_option maxHeartbeats 1600000 in
theorem iText_any (a b : Int) (w : World) (ht : Tab w) : Calls Tryd.prog 18 #[.agg #[.int .i64 a, .int .i64 b]] w fun e w' => e = .returned (.string (textM a b)) ∧ Below w.heap.size w w' := by
  have HT := mkHid ht
  clear ht
  cases h1 : okB a b
  · have E := mkHid (show textM a b = ⟨#[]⟩ by unfold textM; rw [h1]; rfl)
    have hEq := eql_rng
    go_enter Tryd.func18, Tryd.ntmps18
    go_wp2_with (first | (go_at_call 22; refine (iOk_any _ _ _).mono ?_; rintro e w' ⟨rfl, hb⟩; (try rw [below_drew] at hb); obtain ⟨hc, hf, hm, hs⟩ := bcell4 hb; have hz0 : w.heap.size < w'.heap.size := (by have := hb.size; (try simp at this); omega); have hl0 := Nat.le_of_lt hz0))
    go_ret
    exact ⟨ret_str E.out.symm, (by repeat (first | with_reducible exact Below.refl _ _ | (with_reducible refine bl_set2 ?_ ?_ _; (first | (simp; done) | (simp [*]; done) | (simp [*] <;> omega))) | with_reducible refine bl_drew ?_ | with_reducible refine bl_alloc ?_ _ | with_reducible refine below_step ?_ (by assumption) | with_reducible assumption))⟩
  cases h3 : eqB a b 1 0
  · have h2 : isB a b = true := by rw [ok_eq h1, h3]; rfl
    have E := mkHid (show textM a b = (dI a ++ ⟨#[46, 46]⟩) ++ dI b by unfold textM; rw [h1, h2]; rfl)
    obtain ⟨q1, q2, q3⟩ : -1000000 ≤ a ∧ a ≤ b ∧ b ≤ 1000000 := by have := ok_iff.1 h1; have := is_iff.1 h2; omega
    have s1 := dI_size a (by omega) (by omega)
    have s2 := dI_size b (by omega) (by omega)
    have z1 : (dI a ++ (ByteArray.mk #[46, 46])).size = (dI a).size + 2 := by rw [ByteArray.size_append]; rfl
    have t1 : ¬ 9223372036854775807 < (dI a).size + 2 := by omega
    have t2 : ¬ 9223372036854775807 < (dI a).size + 2 + (dI b).size := by omega
    have hEq := eql_rng
    go_enter Tryd.func18, Tryd.ntmps18
    go_wp2_with (first | (go_at_call 22; refine (iOk_any _ _ _).mono ?_; rintro e w' ⟨rfl, hb⟩; (try rw [below_drew] at hb); obtain ⟨hc, hf, hm, hs⟩ := bcell4 hb; have hz0 : w.heap.size < w'.heap.size := (by have := hb.size; (try simp at this); omega); have hl0 := Nat.le_of_lt hz0))
    go_region_held3 (fun v => v.cell? ⟨w.heap.size, 0, none⟩ = some (.int .i64 a) ∧ v.cell? ⟨w.heap.size, 1, none⟩ = some (.int .i64 b)) (first | (simp (maxDischargeDepth := 12) [*, go_sem]; done) | assumption) (first | (go_at_call 23; refine (iNone_any _).mono ?_; rintro e w' ⟨rfl, hb⟩; (try rw [below_drew] at hb); obtain ⟨hc, hf, hm, hs⟩ := bcell4 hb; have hz0 : w.heap.size < w'.heap.size := (by have := hb.size; (try simp at this); omega); have hl0 := Nat.le_of_lt hz0))
    all_goals
      go_wp2_with fail
      go_region_held3 (fun v => v.cell? ⟨w.heap.size, 0, none⟩ = some (.int .i64 a) ∧ v.cell? ⟨w.heap.size, 1, none⟩ = some (.int .i64 b)) (first | (simp (maxDischargeDepth := 12) [*, go_sem]; done) | assumption) (first | (go_at_call 41; refine (itoa_any _ _ (by omega) (by omega) (HT.out _ (by repeat (first | with_reducible exact Below.refl _ _ | (with_reducible refine bl_set2 ?_ ?_ _; (first | (simp; done) | (simp [*]; done) | (simp [*] <;> omega))) | with_reducible refine bl_drew ?_ | with_reducible refine bl_alloc ?_ _ | with_reducible refine below_step ?_ (by assumption) | with_reducible assumption)))).mono ?_; rintro e w' ⟨rfl, hb⟩; (try rw [below_drew] at hb); obtain ⟨hc, hf, hm, hs⟩ := bcell4 hb; have hz0 : w.heap.size < w'.heap.size := (by have := hb.size; (try simp at this); omega); have hl0 := Nat.le_of_lt hz0))
    all_goals
      go_wp2
      go_ret
      exact ⟨ret_str E.out.symm, (by repeat (first | with_reducible exact Below.refl _ _ | (with_reducible refine bl_set2 ?_ ?_ _; (first | (simp; done) | (simp [*]; done) | (simp [*] <;> omega))) | with_reducible refine bl_drew ?_ | with_reducible refine bl_alloc ?_ _ | with_reducible refine below_step ?_ (by assumption) | with_reducible assumption))⟩
  · have h2 : isB a b = false := by rw [ok_eq h1, h3]; rfl
    have E := mkHid (show textM a b = ⟨#[110, 111, 110, 101]⟩ by unfold textM; rw [h1, h2]; rfl)
    have hEq := eql_rng
    go_enter Tryd.func18, Tryd.ntmps18
    go_wp2_with (first | (go_at_call 22; refine (iOk_any _ _ _).mono ?_; rintro e w' ⟨rfl, hb⟩; (try rw [below_drew] at hb); obtain ⟨hc, hf, hm, hs⟩ := bcell4 hb; have hz0 : w.heap.size < w'.heap.size := (by have := hb.size; (try simp at this); omega); have hl0 := Nat.le_of_lt hz0))
    go_region_held3 (fun v => v.cell? ⟨w.heap.size, 0, none⟩ = some (.int .i64 a) ∧ v.cell? ⟨w.heap.size, 1, none⟩ = some (.int .i64 b)) (first | (simp (maxDischargeDepth := 12) [*, go_sem]; done) | assumption) (first | (go_at_call 23; refine (iNone_any _).mono ?_; rintro e w' ⟨rfl, hb⟩; (try rw [below_drew] at hb); obtain ⟨hc, hf, hm, hs⟩ := bcell4 hb; have hz0 : w.heap.size < w'.heap.size := (by have := hb.size; (try simp at this); omega); have hl0 := Nat.le_of_lt hz0))
    all_goals
      go_wp2
      go_ret
      exact ⟨ret_str E.out.symm, (by repeat (first | with_reducible exact Below.refl _ _ | (with_reducible refine bl_set2 ?_ ?_ _; (first | (simp; done) | (simp [*]; done) | (simp [*] <;> omega))) | with_reducible refine bl_drew ?_ | with_reducible refine bl_alloc ?_ _ | with_reducible refine below_step ?_ (by assumption) | with_reducible assumption))⟩
end Go.Proofs.YtgkmpadeleebdaaDoor
