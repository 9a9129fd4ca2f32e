/-
  CONTRACTS of both ValTexts, and of taking a Val over.
-/
import Derived.Test.YtiihjoliodemmaaDoorRtt
namespace Go.Proofs.YtiihjoliodemmaaDoor
open Go.RowKit

def orB : ByteArray := ⟨#[32, 111, 114, 32, 117, 110, 119, 114, 105, 116, 116, 101, 110]⟩
theorem ba_empty {t : ByteArray} (h : t.toList.isEmpty = true) : t = ⟨#[]⟩ := by
  have h1 : t.data.toList = [] := by simpa [ByteArray.toList_eq] using h
  apply ByteArray.ext
  exact Array.toList_inj.1 h1
def textV (a b : Int) (s : Bool) : ByteArray := if okB a b then (if s then textM a b else textM a b ++ orB) else ⟨#[]⟩
theorem textM_no {a b : Int} (h : okB a b = false) : textM a b = ⟨#[]⟩ := by unfold textM; rw [h]; rfl
theorem textM_size (a b : Int) : (textM a b).size ≤ 3000000 := by
  unfold textM
  cases h1 : okB a b
  · exact (by decide : (ByteArray.mk #[]).size ≤ 3000000)
  · cases h2 : isB a b
    · simp; decide
    · simp only [if_true]
      obtain ⟨q1, q2, q3⟩ : -1000000 ≤ a ∧ a ≤ b ∧ b ≤ 1000000 := by have := ok_iff.1 h1; have := is_iff.1 h2; omega
      have s1 := dI_size a (by omega) (by omega)
      have s2 := dI_size b (by omega) (by omega)
      rw [ByteArray.size_append, ByteArray.size_append]
      have : (ByteArray.mk #[46, 46]).size = 2 := rfl
      omega
theorem textM_pos {a b : Int} (h : okB a b = true) : 2 ≤ (textM a b).size := by
  unfold textM
  rw [h]
  cases h2 : isB a b
  · simp; decide
  · simp only [if_true]
    rw [ByteArray.size_append, ByteArray.size_append]
    have : (ByteArray.mk #[46, 46]).size = 2 := rfl
    omega
set_option maxRecDepth 100000 in
set_option maxHeartbeats 400000 in
theorem toVal_any (a b : Int) (s : Bool) (w : World) : Calls Tryd.prog 14 #[.agg #[.int .i64 a, .int .i64 b, .bool s]] w fun e w' => e = .returned (.agg #[.int .i64 a, .int .i64 b, .bool s]) ∧ Below w.heap.size w w' := by
  go_enter Tryd.func14, Tryd.ntmps14
  go_wp2_with (go_at_call 52; refine (toRange_any _ _ _).mono ?_; rintro e w' ⟨rfl, hb⟩; (try rw [below_drew] at hb); obtain ⟨hc, hf, hm, hs⟩ := bcell4 hb; have hz0 : w.heap.size < w'.heap.size := (by have := hb.size; (try simp at this); omega); have hl0 := Nat.le_of_lt hz0; have hz1 : w.heap.size + 1 < w'.heap.size := (by have := hb.size; (try simp at this); omega); have hl1 := Nat.le_of_lt hz1; have hz2 : w.heap.size + 1 + 1 < w'.heap.size := (by have := hb.size; (try simp at this); omega); have hl2 := Nat.le_of_lt hz2)
  exact bodyPost_ret (v := .agg #[.int .i64 a, .int .i64 b, .bool s]) (by simp [results, Tryd.results14, go_sem, hc]) rfl ⟨rfl, (by repeat (first | with_reducible exact Below.refl _ _ | (with_reducible refine bl_set2 ?_ ?_ _; (first | (simp; done) | (simp [*]; done) | (simp [*] <;> omega))) | with_reducible refine bl_drew ?_ | with_reducible refine bl_alloc ?_ _ | with_reducible refine below_step ?_ (by assumption) | with_reducible assumption))⟩
set_option maxRecDepth 100000 in
set_option maxHeartbeats 400000 in
theorem sVok_any (a b : Int) (s : Bool) (w : World) : Calls Tryd.prog 43 #[.agg #[.int .i64 a, .int .i64 b, .bool s]] w fun e w' => e = .returned (.bool (okB a b)) ∧ Below w.heap.size w w' := by
  go_enter Tryd.func43, Tryd.ntmps43
  go_wp2_with (go_at_call 95; refine (sOk_any _ _ _).mono ?_; rintro e w' ⟨rfl, hb⟩; (try rw [below_drew] at hb); obtain ⟨hc, hf, hm, hs⟩ := bcell4 hb; have hz0 : w.heap.size < w'.heap.size := (by have := hb.size; (try simp at this); omega); have hl0 := Nat.le_of_lt hz0)
  go_ret
  exact ⟨rfl, (by repeat (first | with_reducible exact Below.refl _ _ | (with_reducible refine bl_set2 ?_ ?_ _; (first | (simp; done) | (simp [*]; done) | (simp [*] <;> omega))) | with_reducible refine bl_drew ?_ | with_reducible refine bl_alloc ?_ _ | with_reducible refine below_step ?_ (by assumption) | with_reducible assumption))⟩
set_option maxRecDepth 100000 in
set_option maxHeartbeats 800000 in
theorem sVtext_any (a b : Int) (s : Bool) (w : World) : Calls Tryd.prog 13 #[.agg #[.int .i64 a, .int .i64 b, .bool s]] w fun e w' => e = .returned (.string (textV a b s)) ∧ Below w.heap.size w w' := by
  cases h1 : okB a b
  · have E := mkHid (show (⟨#[]⟩ : ByteArray) = textV a b s by unfold textV; rw [h1]; rfl)
    go_enter Tryd.func13, Tryd.ntmps13
    go_wp2_with (go_at_call 43; refine (sVok_any _ _ _ _).mono ?_; rintro e w' ⟨rfl, hb⟩; (try rw [below_drew] at hb); obtain ⟨hc, hf, hm, hs⟩ := bcell4 hb; have hz0 : w.heap.size < w'.heap.size := (by have := hb.size; (try simp at this); omega); have hl0 := Nat.le_of_lt hz0)
    go_ret
    exact ⟨ret_str E.out, (by repeat (first | with_reducible exact Below.refl _ _ | (with_reducible refine bl_set2 ?_ ?_ _; (first | (simp; done) | (simp [*]; done) | (simp [*] <;> omega))) | with_reducible refine bl_drew ?_ | with_reducible refine bl_alloc ?_ _ | with_reducible refine below_step ?_ (by assumption) | with_reducible assumption))⟩
  · obtain ⟨t, ht⟩ : ∃ t, textM a b = t := ⟨_, rfl⟩
    have HT := mkHid (fun (v : World) => show Calls Tryd.prog 51 #[.agg #[.int .i64 a, .int .i64 b]] v fun e w' => e = .returned (.string t) ∧ Below v.heap.size v w' by rw [← ht]; exact sText_any a b v)
    have hsz : ¬ 9223372036854775807 < t.size + 13 := by rw [← ht]; have := textM_size a b; omega
    cases s
    · have E := mkHid (show t ++ (⟨#[32, 111, 114, 32, 117, 110, 119, 114, 105, 116, 116, 101, 110]⟩ : ByteArray) = textV a b false by unfold textV; rw [h1, ht]; rfl)
      clear ht
      go_enter Tryd.func13, Tryd.ntmps13
      go_wp2_with (first | (go_at_call 43; refine (sVok_any _ _ _ _).mono ?_; rintro e w' ⟨rfl, hb⟩; (try rw [below_drew] at hb); obtain ⟨hc, hf, hm, hs⟩ := bcell4 hb; have hz0 : w.heap.size < w'.heap.size := (by have := hb.size; (try simp at this); omega); have hl0 := Nat.le_of_lt hz0) | (go_at_call 51; refine (HT.out _).mono ?_; rintro e w' ⟨rfl, hb⟩; (try rw [below_drew] at hb); obtain ⟨hc, hf, hm, hs⟩ := bcell4 hb; have hz0 : w.heap.size < w'.heap.size := (by have := hb.size; (try simp at this); omega); have hl0 := Nat.le_of_lt hz0))
      go_ret
      exact ⟨ret_str E.out, (by repeat (first | with_reducible exact Below.refl _ _ | (with_reducible refine bl_set2 ?_ ?_ _; (first | (simp; done) | (simp [*]; done) | (simp [*] <;> omega))) | with_reducible refine bl_drew ?_ | with_reducible refine bl_alloc ?_ _ | with_reducible refine below_step ?_ (by assumption) | with_reducible assumption))⟩
    · have E := mkHid (show t = textV a b true by unfold textV; rw [h1, ht]; rfl)
      clear ht
      go_enter Tryd.func13, Tryd.ntmps13
      go_wp2_with (first | (go_at_call 43; refine (sVok_any _ _ _ _).mono ?_; rintro e w' ⟨rfl, hb⟩; (try rw [below_drew] at hb); obtain ⟨hc, hf, hm, hs⟩ := bcell4 hb; have hz0 : w.heap.size < w'.heap.size := (by have := hb.size; (try simp at this); omega); have hl0 := Nat.le_of_lt hz0) | (go_at_call 51; refine (HT.out _).mono ?_; rintro e w' ⟨rfl, hb⟩; (try rw [below_drew] at hb); obtain ⟨hc, hf, hm, hs⟩ := bcell4 hb; have hz0 : w.heap.size < w'.heap.size := (by have := hb.size; (try simp at this); omega); have hl0 := Nat.le_of_lt hz0))
      go_ret
      exact ⟨ret_str E.out, (by repeat (first | with_reducible exact Below.refl _ _ | (with_reducible refine bl_set2 ?_ ?_ _; (first | (simp; done) | (simp [*]; done) | (simp [*] <;> omega))) | with_reducible refine bl_drew ?_ | with_reducible refine bl_alloc ?_ _ | with_reducible refine below_step ?_ (by assumption) | with_reducible assumption))⟩
set_option maxRecDepth 100000 in
set_option maxHeartbeats 800000 in
theorem iVtext_any (a b : Int) (s : Bool) (w : World) (htab : Tab w) : Calls Tryd.prog 15 #[.agg #[.int .i64 a, .int .i64 b, .bool s]] w fun e w' => e = .returned (.string (textV a b s)) ∧ Below w.heap.size w w' := by
  obtain ⟨t, ht⟩ : ∃ t, textM a b = t := ⟨_, rfl⟩
  have HT := mkHid (fun (v : World) (hv : Below w.heap.size w v) => show Calls Tryd.prog 47 #[.agg #[.int .i64 a, .int .i64 b]] v fun e w' => e = .returned (.string t) ∧ Below v.heap.size v w' by rw [← ht]; exact iText_any a b v (fun W hW => htab W (below_step hv hW)))
  have hsz : ¬ 9223372036854775807 < t.size + 13 := by rw [← ht]; have := textM_size a b; omega
  clear htab
  cases s
  · cases h1 : okB a b
    · have E := mkHid (show (⟨#[]⟩ : ByteArray) = textV a b false by unfold textV; rw [h1]; rfl)
      have e0 : t = ⟨#[]⟩ := by rw [← ht]; exact textM_no h1
      clear ht
      subst e0
      go_enter Tryd.func15, Tryd.ntmps15
      go_wp2_with (go_at_call 47; refine (HT.out _ (by repeat (first | with_reducible exact Below.refl _ _ | (with_reducible refine bl_set2 ?_ ?_ _; (first | (simp; done) | (simp [*]; done) | (simp [*] <;> omega))) | with_reducible refine bl_drew ?_ | with_reducible refine bl_alloc ?_ _ | with_reducible refine below_step ?_ (by assumption) | with_reducible assumption))).mono ?_; rintro e w' ⟨rfl, hb⟩; (try rw [below_drew] at hb); obtain ⟨hc, hf, hm, hs⟩ := bcell4 hb; have hz0 : w.heap.size < w'.heap.size := (by have := hb.size; (try simp at this); omega); have hl0 := Nat.le_of_lt hz0)
      go_ret
      exact ⟨ret_str E.out, (by repeat (first | with_reducible exact Below.refl _ _ | (with_reducible refine bl_set2 ?_ ?_ _; (first | (simp; done) | (simp [*]; done) | (simp [*] <;> omega))) | with_reducible refine bl_drew ?_ | with_reducible refine bl_alloc ?_ _ | with_reducible refine below_step ?_ (by assumption) | with_reducible assumption))⟩
    · have E := mkHid (show t ++ (⟨#[32, 111, 114, 32, 117, 110, 119, 114, 105, 116, 116, 101, 110]⟩ : ByteArray) = textV a b false by unfold textV; rw [h1, ht]; rfl)
      have e0 : ¬ t = ⟨#[]⟩ := by intro e; have := textM_pos h1; rw [ht, e] at this; exact absurd this (by decide)
      have e1 : t.toList.isEmpty = false := by cases h : t.toList.isEmpty with | false => rfl | true => exact absurd (ba_empty h) e0
      clear ht
      go_enter Tryd.func15, Tryd.ntmps15
      go_wp2_with (go_at_call 47; refine (HT.out _ (by repeat (first | with_reducible exact Below.refl _ _ | (with_reducible refine bl_set2 ?_ ?_ _; (first | (simp; done) | (simp [*]; done) | (simp [*] <;> omega))) | with_reducible refine bl_drew ?_ | with_reducible refine bl_alloc ?_ _ | with_reducible refine below_step ?_ (by assumption) | with_reducible assumption))).mono ?_; rintro e w' ⟨rfl, hb⟩; (try rw [below_drew] at hb); obtain ⟨hc, hf, hm, hs⟩ := bcell4 hb; have hz0 : w.heap.size < w'.heap.size := (by have := hb.size; (try simp at this); omega); have hl0 := Nat.le_of_lt hz0)
      go_ret
      exact ⟨ret_str E.out, (by repeat (first | with_reducible exact Below.refl _ _ | (with_reducible refine bl_set2 ?_ ?_ _; (first | (simp; done) | (simp [*]; done) | (simp [*] <;> omega))) | with_reducible refine bl_drew ?_ | with_reducible refine bl_alloc ?_ _ | with_reducible refine below_step ?_ (by assumption) | with_reducible assumption))⟩
  · have E := mkHid (show t = textV a b true by unfold textV; rw [← ht]; cases h1 : okB a b; exact textM_no h1; rfl)
    clear ht
    go_enter Tryd.func15, Tryd.ntmps15
    go_wp2_with (go_at_call 47; refine (HT.out _ (by repeat (first | with_reducible exact Below.refl _ _ | (with_reducible refine bl_set2 ?_ ?_ _; (first | (simp; done) | (simp [*]; done) | (simp [*] <;> omega))) | with_reducible refine bl_drew ?_ | with_reducible refine bl_alloc ?_ _ | with_reducible refine below_step ?_ (by assumption) | with_reducible assumption))).mono ?_; rintro e w' ⟨rfl, hb⟩; (try rw [below_drew] at hb); obtain ⟨hc, hf, hm, hs⟩ := bcell4 hb; have hz0 : w.heap.size < w'.heap.size := (by have := hb.size; (try simp at this); omega); have hl0 := Nat.le_of_lt hz0)
    go_ret
    exact ⟨ret_str E.out, (by repeat (first | with_reducible exact Below.refl _ _ | (with_reducible refine bl_set2 ?_ ?_ _; (first | (simp; done) | (simp [*]; done) | (simp [*] <;> omega))) | with_reducible refine bl_drew ?_ | with_reducible refine bl_alloc ?_ _ | with_reducible refine below_step ?_ (by assumption) | with_reducible assumption))⟩
end Go.Proofs.YtiihjoliodemmaaDoor
