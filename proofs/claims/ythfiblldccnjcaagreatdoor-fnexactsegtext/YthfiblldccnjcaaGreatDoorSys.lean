/-
  RANGES AS TEXT: CONTRACTS of both RangeTexts.
  CONTRACT of the specification's SymText.
-/
import Derived.Test.YthfiblldccnjcaaGreatDoorVl
import Derived.Test.YthfiblldccnjcaaGreatDoorIjn
import Derived.Test.YthfiblldccnjcaaGreatDoorLbw
import Derived.Lib.SmallJoins
import Derived.Lib.AppendIntMem
import Derived.Deep.RegionHeld3
namespace Go.Proofs.YthfiblldccnjcaaGreatDoor
open Go.RowKit
attribute [local go_sem] nlt2 nlt3 nlt4 nle2 nle3 nle4 drew_size drew_cell drew_frozen

def textM (a b : Int) : ByteArray := if okB a b then (if isB a b then (dI a ++ ⟨#[46, 46]⟩) ++ dI b else ⟨#[110, 111, 110, 101]⟩) else ⟨#[]⟩
theorem ret_str {a b : ByteArray} (h : a = b) : Ending.returned (.string a) = .returned (.string b) := by rw [h]
/-- The table of powers stays where nothing of what was there turns. -/
def Tab (w : World) : Prop := ∀ W, Below w.heap.size w W → Lib.TabIs Tryz.prog W "internal/strconv.uint64pow10" .u64 Lib.pow10Tab
theorem itoa_any (n : Int) (w : World) (h0 : -1000000 ≤ n) (h1 : n ≤ 1000000) (ht : Lib.TabIs Tryz.prog w "internal/strconv.uint64pow10" .u64 Lib.pow10Tab) : Calls Tryz.prog 98 #[.int .i64 n] w fun e w' => e = .returned (.string (dI n)) ∧ Below w.heap.size w w' := by
  refine (Tryz.strconv_Itoa n (by omega) (by omega) w ht).mono ?_
  rintro e w' ⟨rfl, kd, os, hw'⟩
  refine ⟨rfl, ?_⟩
  have := Lib.below_grow _ w (Nat.le_refl _) kd os
  rw [← hw'] at this
  exact this

set_option maxRecDepth 100000 in
set_option maxHeartbeats 1600000 in
theorem sText_any (a b : Int) (w : World) : Calls Tryz.prog 58 #[.agg #[.int .i64 a, .int .i64 b]] w fun e w' => e = .returned (.string (textM a b)) ∧ Below w.heap.size w w' := by
  cases h1 : okB a b
  · have E := mkHid (show textM a b = ⟨#[]⟩ by unfold textM; rw [h1]; rfl)
    have hEq := eql_rng
    go_enter Tryz.func58, Tryz.ntmps58
    go_wp2_with (first | (go_at_call 56; refine (sOk_any _ _ _).mono ?_; rintro e w' ⟨rfl, hb⟩; (try rw [below_drew] at hb); obtain ⟨hc, hf, hm, hs⟩ := bcell4 hb; have hz0 : w.heap.size < w'.heap.size := (by have := hb.size; (try simp at this); omega); have hl0 := Nat.le_of_lt hz0) | (go_at_call 77; refine (sIs_any _ _ _).mono ?_; rintro e w' ⟨rfl, hb⟩; (try rw [below_drew] at hb); obtain ⟨hc, hf, hm, hs⟩ := bcell4 hb; have hz0 : w.heap.size < w'.heap.size := (by have := hb.size; (try simp at this); omega); have hl0 := Nat.le_of_lt hz0))
    go_ret
    exact ⟨ret_str E.out.symm, (by repeat (first | with_reducible exact Below.refl _ _ | (with_reducible refine bl_set2 ?_ ?_ _; (first | (simp; done) | (simp [*]; done) | (simp [*] <;> omega))) | with_reducible refine bl_drew ?_ | with_reducible refine bl_alloc ?_ _ | with_reducible refine below_step ?_ (by assumption) | with_reducible assumption))⟩
  cases h2 : isB a b
  · have E := mkHid (show textM a b = ⟨#[110, 111, 110, 101]⟩ by unfold textM; rw [h1, h2]; rfl)
    have hEq := eql_rng
    go_enter Tryz.func58, Tryz.ntmps58
    go_wp2_with (first | (go_at_call 56; refine (sOk_any _ _ _).mono ?_; rintro e w' ⟨rfl, hb⟩; (try rw [below_drew] at hb); obtain ⟨hc, hf, hm, hs⟩ := bcell4 hb; have hz0 : w.heap.size < w'.heap.size := (by have := hb.size; (try simp at this); omega); have hl0 := Nat.le_of_lt hz0) | (go_at_call 77; refine (sIs_any _ _ _).mono ?_; rintro e w' ⟨rfl, hb⟩; (try rw [below_drew] at hb); obtain ⟨hc, hf, hm, hs⟩ := bcell4 hb; have hz0 : w.heap.size < w'.heap.size := (by have := hb.size; (try simp at this); omega); have hl0 := Nat.le_of_lt hz0))
    go_ret
    exact ⟨ret_str E.out.symm, (by repeat (first | with_reducible exact Below.refl _ _ | (with_reducible refine bl_set2 ?_ ?_ _; (first | (simp; done) | (simp [*]; done) | (simp [*] <;> omega))) | with_reducible refine bl_drew ?_ | with_reducible refine bl_alloc ?_ _ | with_reducible refine below_step ?_ (by assumption) | with_reducible assumption))⟩
  · have E := mkHid (show textM a b = (dI a ++ ⟨#[46, 46]⟩) ++ dI b by unfold textM; rw [h1, h2]; rfl)
    obtain ⟨q1, q2, q3⟩ : -1000000 ≤ a ∧ a ≤ b ∧ b ≤ 1000000 := by have := ok_iff.1 h1; have := is_iff.1 h2; omega
    have s1 := dI_size a (by omega) (by omega)
    have s2 := dI_size b (by omega) (by omega)
    have z1 : (dI a ++ (ByteArray.mk #[46, 46])).size = (dI a).size + 2 := by rw [ByteArray.size_append]; rfl
    have t1 : ¬ 9223372036854775807 < (dI a).size + 2 := by omega
    have t2 : ¬ 9223372036854775807 < (dI a).size + 2 + (dI b).size := by omega
    have hEq := eql_rng
    go_enter Tryz.func58, Tryz.ntmps58
    go_wp2_with (first | (go_at_call 56; refine (sOk_any _ _ _).mono ?_; rintro e w' ⟨rfl, hb⟩; (try rw [below_drew] at hb); obtain ⟨hc, hf, hm, hs⟩ := bcell4 hb; have hz0 : w.heap.size < w'.heap.size := (by have := hb.size; (try simp at this); omega); have hl0 := Nat.le_of_lt hz0) | (go_at_call 77; refine (sIs_any _ _ _).mono ?_; rintro e w' ⟨rfl, hb⟩; (try rw [below_drew] at hb); obtain ⟨hc, hf, hm, hs⟩ := bcell4 hb; have hz0 : w.heap.size < w'.heap.size := (by have := hb.size; (try simp at this); omega); have hl0 := Nat.le_of_lt hz0))
    go_region_held3 (fun v => v.cell? ⟨w.heap.size, 0, none⟩ = some (.int .i64 a) ∧ v.cell? ⟨w.heap.size, 1, none⟩ = some (.int .i64 b)) (first | (simp (maxDischargeDepth := 12) [*, go_sem]; done) | assumption) (first | (go_at_call 59; refine (digitsI_any _ _ (by omega) (by omega)).mono ?_; rintro e w' ⟨rfl, hb⟩; (try rw [below_drew] at hb); obtain ⟨hc, hf, hm, hs⟩ := bcell4 hb; have hz0 : w.heap.size < w'.heap.size := (by have := hb.size; (try simp at this); omega); have hl0 := Nat.le_of_lt hz0))
    all_goals
      go_wp2
      go_ret
      exact ⟨ret_str E.out.symm, (by repeat (first | with_reducible exact Below.refl _ _ | (with_reducible refine bl_set2 ?_ ?_ _; (first | (simp; done) | (simp [*]; done) | (simp [*] <;> omega))) | with_reducible refine bl_drew ?_ | with_reducible refine bl_alloc ?_ _ | with_reducible refine below_step ?_ (by assumption) | with_reducible assumption))⟩
set_option maxRecDepth 100000 in
set_option maxHeartbeats 1600000 in
theorem iText_any (a b : Int) (w : World) (ht : Tab w) : Calls Tryz.prog 74 #[.agg #[.int .i64 a, .int .i64 b]] w fun e w' => e = .returned (.string (textM a b)) ∧ Below w.heap.size w w' := by
  have HT := mkHid ht
  clear ht
  cases h1 : okB a b
  · have E := mkHid (show textM a b = ⟨#[]⟩ by unfold textM; rw [h1]; rfl)
    have hEq := eql_rng
    go_enter Tryz.func74, Tryz.ntmps74
    go_wp2_with (first | (go_at_call 84; refine (iOk_any _ _ _).mono ?_; rintro e w' ⟨rfl, hb⟩; (try rw [below_drew] at hb); obtain ⟨hc, hf, hm, hs⟩ := bcell4 hb; have hz0 : w.heap.size < w'.heap.size := (by have := hb.size; (try simp at this); omega); have hl0 := Nat.le_of_lt hz0))
    go_ret
    exact ⟨ret_str E.out.symm, (by repeat (first | with_reducible exact Below.refl _ _ | (with_reducible refine bl_set2 ?_ ?_ _; (first | (simp; done) | (simp [*]; done) | (simp [*] <;> omega))) | with_reducible refine bl_drew ?_ | with_reducible refine bl_alloc ?_ _ | with_reducible refine below_step ?_ (by assumption) | with_reducible assumption))⟩
  cases h3 : eqB a b 1 0
  · have h2 : isB a b = true := by rw [ok_eq h1, h3]; rfl
    have E := mkHid (show textM a b = (dI a ++ ⟨#[46, 46]⟩) ++ dI b by unfold textM; rw [h1, h2]; rfl)
    obtain ⟨q1, q2, q3⟩ : -1000000 ≤ a ∧ a ≤ b ∧ b ≤ 1000000 := by have := ok_iff.1 h1; have := is_iff.1 h2; omega
    have s1 := dI_size a (by omega) (by omega)
    have s2 := dI_size b (by omega) (by omega)
    have z1 : (dI a ++ (ByteArray.mk #[46, 46])).size = (dI a).size + 2 := by rw [ByteArray.size_append]; rfl
    have t1 : ¬ 9223372036854775807 < (dI a).size + 2 := by omega
    have t2 : ¬ 9223372036854775807 < (dI a).size + 2 + (dI b).size := by omega
    have hEq := eql_rng
    go_enter Tryz.func74, Tryz.ntmps74
    go_wp2_with (first | (go_at_call 84; refine (iOk_any _ _ _).mono ?_; rintro e w' ⟨rfl, hb⟩; (try rw [below_drew] at hb); obtain ⟨hc, hf, hm, hs⟩ := bcell4 hb; have hz0 : w.heap.size < w'.heap.size := (by have := hb.size; (try simp at this); omega); have hl0 := Nat.le_of_lt hz0))
    go_region_held3 (fun v => v.cell? ⟨w.heap.size, 0, none⟩ = some (.int .i64 a) ∧ v.cell? ⟨w.heap.size, 1, none⟩ = some (.int .i64 b)) (first | (simp (maxDischargeDepth := 12) [*, go_sem]; done) | assumption) (first | (go_at_call 100; refine (iNone_any _).mono ?_; rintro e w' ⟨rfl, hb⟩; (try rw [below_drew] at hb); obtain ⟨hc, hf, hm, hs⟩ := bcell4 hb; have hz0 : w.heap.size < w'.heap.size := (by have := hb.size; (try simp at this); omega); have hl0 := Nat.le_of_lt hz0))
    all_goals
      go_wp2_with fail
      go_region_held3 (fun v => v.cell? ⟨w.heap.size, 0, none⟩ = some (.int .i64 a) ∧ v.cell? ⟨w.heap.size, 1, none⟩ = some (.int .i64 b)) (first | (simp (maxDischargeDepth := 12) [*, go_sem]; done) | assumption) (first | (go_at_call 98; refine (itoa_any _ _ (by omega) (by omega) (HT.out _ (by repeat (first | with_reducible exact Below.refl _ _ | (with_reducible refine bl_set2 ?_ ?_ _; (first | (simp; done) | (simp [*]; done) | (simp [*] <;> omega))) | with_reducible refine bl_drew ?_ | with_reducible refine bl_alloc ?_ _ | with_reducible refine below_step ?_ (by assumption) | with_reducible assumption)))).mono ?_; rintro e w' ⟨rfl, hb⟩; (try rw [below_drew] at hb); obtain ⟨hc, hf, hm, hs⟩ := bcell4 hb; have hz0 : w.heap.size < w'.heap.size := (by have := hb.size; (try simp at this); omega); have hl0 := Nat.le_of_lt hz0))
    all_goals
      go_wp2
      go_ret
      exact ⟨ret_str E.out.symm, (by repeat (first | with_reducible exact Below.refl _ _ | (with_reducible refine bl_set2 ?_ ?_ _; (first | (simp; done) | (simp [*]; done) | (simp [*] <;> omega))) | with_reducible refine bl_drew ?_ | with_reducible refine bl_alloc ?_ _ | with_reducible refine below_step ?_ (by assumption) | with_reducible assumption))⟩
  · have h2 : isB a b = false := by rw [ok_eq h1, h3]; rfl
    have E := mkHid (show textM a b = ⟨#[110, 111, 110, 101]⟩ by unfold textM; rw [h1, h2]; rfl)
    have hEq := eql_rng
    go_enter Tryz.func74, Tryz.ntmps74
    go_wp2_with (first | (go_at_call 84; refine (iOk_any _ _ _).mono ?_; rintro e w' ⟨rfl, hb⟩; (try rw [below_drew] at hb); obtain ⟨hc, hf, hm, hs⟩ := bcell4 hb; have hz0 : w.heap.size < w'.heap.size := (by have := hb.size; (try simp at this); omega); have hl0 := Nat.le_of_lt hz0))
    go_region_held3 (fun v => v.cell? ⟨w.heap.size, 0, none⟩ = some (.int .i64 a) ∧ v.cell? ⟨w.heap.size, 1, none⟩ = some (.int .i64 b)) (first | (simp (maxDischargeDepth := 12) [*, go_sem]; done) | assumption) (first | (go_at_call 100; refine (iNone_any _).mono ?_; rintro e w' ⟨rfl, hb⟩; (try rw [below_drew] at hb); obtain ⟨hc, hf, hm, hs⟩ := bcell4 hb; have hz0 : w.heap.size < w'.heap.size := (by have := hb.size; (try simp at this); omega); have hl0 := Nat.le_of_lt hz0))
    all_goals
      go_wp2
      go_ret
      exact ⟨ret_str E.out.symm, (by repeat (first | with_reducible exact Below.refl _ _ | (with_reducible refine bl_set2 ?_ ?_ _; (first | (simp; done) | (simp [*]; done) | (simp [*] <;> omega))) | with_reducible refine bl_drew ?_ | with_reducible refine bl_alloc ?_ _ | with_reducible refine below_step ?_ (by assumption) | with_reducible assumption))⟩
end Go.Proofs.YthfiblldccnjcaaGreatDoor
namespace Go.Proofs.YthfiblldccnjcaaGreatDoor
open Go.RowKit
attribute [local go_sem] nlt2 nlt3 nlt4 nle2 nle3 nle4 drew_size drew_cell drew_frozen

theorem Box.new (w : World) (a b : Int) (T : TypeId) : Box (w.alloc (.cells #[.int .i64 a, .int .i64 b] T)) w.heap.size a b := by
  unfold Box
  simp [go_sem]
theorem Box_new (w : World) (a b : Int) (T : TypeId) {w' : World} (hb : Below (w.alloc (.cells #[.int .i64 a, .int .i64 b] T)).heap.size (w.alloc (.cells #[.int .i64 a, .int .i64 b] T)) w') : Box w' w.heap.size a b := (Box.new w a b T).below hb
set_option maxRecDepth 100000 in
set_option maxHeartbeats 3200000 in
theorem sSymText_of (v c : Int) (l : List ByteArray) (b off cap : Nat) (w : World) (hF : Fit l 1048576) (hl : StrsIn w l b off) : Calls Tryz.prog 37 #[.agg #[.int .i64 v, .int .i64 c], .slice (some ⟨b, off, none⟩) l.length cap] w fun e w' => e = .returned (.string (textS l v c)) ∧ Below w.heap.size w w' := by
  have HF := mkHid hF
  have HL := mkHid hl
  have hn := hF.1
  clear hF hl
  have hw1 : IntKind.i64.wrap ((l.length : Int) + 1) = (l.length : Int) + 1 := IntWalk.i64_in _ ⟨by omega, by omega⟩
  have BA := mkHid ((Below.refl w.heap.size w).alloc (Nat.le_refl _) (.cells #[.int .i64 v, .int .i64 c] 61))
  cases h1 : (decide (l.length < 13) && labsB l)
  · have hs2 : symOk2 l v c = false := by unfold symOk2; cases q : labsB l; rfl; cases z : symOkB ((l.length : Int) + 1) v c; rfl; (have := symOk_iff.1 z; rw [q, decide_eq_true (by omega : l.length < 13)] at h1; cases h1)
    have E := mkHid (show (⟨#[]⟩ : ByteArray) = textS l v c by unfold textS; rw [hs2]; rfl)
    clear hs2
    go_enter Tryz.func37, Tryz.ntmps37
    go_wp2_with fail
    refine (sLabels_of l b off cap _ HF.out (HL.out.below BA.out)).mono ?_
    rintro e w1 ⟨rfl, hb⟩
    have BX := mkHid (Box_new w v c 61 hb)
    have BA := mkHid (below_step BA.out hb)
    clear hb
    rw [h1]
    go_wp2
    go_ret
    exact ⟨ret_str E.out, BA.out⟩
  · have h1b : labsB l = true := by rw [Bool.and_eq_true] at h1; exact h1.2
    cases h2 : symOkB ((l.length : Int) + 1) v c
    · have E := mkHid (show (⟨#[]⟩ : ByteArray) = textS l v c by unfold textS symOk2; rw [h1b, h2]; rfl)
      go_enter Tryz.func37, Tryz.ntmps37
      go_wp2_with fail
      refine (sLabels_of l b off cap _ HF.out (HL.out.below BA.out)).mono ?_
      rintro e w1 ⟨rfl, hb⟩
      have BX := mkHid (Box_new w v c 61 hb)
      have BA := mkHid (below_step BA.out hb)
      clear hb
      rw [h1]
      obtain ⟨x0, x1, x2, x3⟩ := BX.out
      go_wp2_with fail
      refine (sSymOk_any ((l.length : Int) + 1) v c _).mono ?_
      rintro e w2 ⟨rfl, hb⟩
      clear x0 x1 x2 x3
      have BX := mkHid (BX.out.below hb)
      have BA := mkHid (below_step BA.out hb)
      clear hb
      rw [h2]
      go_wp2
      go_ret
      exact ⟨ret_str E.out, BA.out⟩
    · obtain ⟨⟨q1, q2⟩, ⟨q3, q4⟩, q5, q6⟩ := symOk_iff.1 h2
      have ET : textS l v c = symT l v c := by unfold textS symOk2; rw [h1b, h2]; rfl
      by_cases hv : v = 0
      · have E := mkHid (show dI c = textS l v c by rw [ET]; unfold symT; rw [if_pos hv])
        clear ET
        subst hv
        go_enter Tryz.func37, Tryz.ntmps37
        go_wp2_with fail
        refine (sLabels_of l b off cap _ HF.out (HL.out.below BA.out)).mono ?_
        rintro e w1 ⟨rfl, hb⟩
        have BX := mkHid (Box_new w 0 c 61 hb)
        have BA := mkHid (below_step BA.out hb)
        clear hb
        rw [h1]
        obtain ⟨x0, x1, x2, x3⟩ := BX.out
        go_wp2_with fail
        refine (sSymOk_any ((l.length : Int) + 1) 0 c _).mono ?_
        rintro e w2 ⟨rfl, hb⟩
        clear x0 x1 x2 x3
        have BX := mkHid (BX.out.below hb)
        have BA := mkHid (below_step BA.out hb)
        clear hb
        rw [h2]
        obtain ⟨x0, x1, x2, x3⟩ := BX.out
        go_wp2_with fail
        refine (digitsI_any c _ (by omega) (by omega)).mono ?_
        rintro e w3 ⟨rfl, hb⟩
        have BA := mkHid (below_step BA.out hb)
        clear hb
        go_wp2
        go_ret
        exact ⟨ret_str E.out, BA.out⟩
      · obtain ⟨k, hk, hkl, hkg⟩ := nmAt_get (l := l) (v := v) (by omega) (by omega)
        obtain ⟨s, hs⟩ : ∃ s, nmAt l v = s := ⟨_, rfl⟩
        rw [hs] at hkg
        have hws : IntKind.i64.wrap (v - 1) = (k : Int) := by rw [IntWalk.i64_in _ ⟨by omega, by omega⟩]; exact hk
        have hsz : s.size ≤ 1048576 := HF.out.2 k s hkg
        have HKG := mkHid hkg
        have k2 : (0 : Int) ≤ (k : Int) := by omega
        have k3 : (k : Int) < (l.length : Int) := by omega
        have hv0 : ¬ v = 0 := hv
        have hvb : (v == 0) = false := by simp [hv]
        clear hkg hk
        by_cases hc0 : c = 0
        · have E := mkHid (show s = textS l v c by rw [ET]; unfold symT; rw [if_neg hv, if_pos hc0, hs])
          clear ET hs
          subst hc0
          go_enter Tryz.func37, Tryz.ntmps37
          go_wp2_with fail
          refine (sLabels_of l b off cap _ HF.out (HL.out.below BA.out)).mono ?_
          rintro e w1 ⟨rfl, hb⟩
          have BX := mkHid (Box_new w v 0 61 hb)
          have BA := mkHid (below_step BA.out hb)
          clear hb
          rw [h1]
          obtain ⟨x0, x1, x2, x3⟩ := BX.out
          go_wp2_with fail
          refine (sSymOk_any ((l.length : Int) + 1) v 0 _).mono ?_
          rintro e w2 ⟨rfl, hb⟩
          clear x0 x1 x2 x3
          have BX := mkHid (BX.out.below hb)
          have BA := mkHid (below_step BA.out hb)
          clear hb
          rw [h2]
          have HS := HL.out.below BA.out
          have c1 := HS k s HKG.out
          clear HS
          have hbl := World.block_lt_of_cell? _ _ c1
          simp only at hbl
          obtain ⟨x0, x1, x2, x3⟩ := BX.out
          have hxl := BX.out.lt
          go_wp2
          go_ret
          exact ⟨ret_str E.out, BA.out⟩
        · have hcb : (c == 0) = false := by simp [hc0]
          have s2 := dI_size (-c) (by omega) (by omega)
          have s1 := dI_size c (by omega) (by omega)
          by_cases hcn : c < 0
          · have E := mkHid (show (s ++ (ByteArray.mk #[32, 45, 32])) ++ dI (-c) = textS l v c by rw [ET]; unfold symT; rw [if_neg hv, if_neg hc0, if_pos hcn, hs])
            clear ET hs
            have hwn : IntKind.i64.wrap (-c) = -c := IntWalk.i64_in _ ⟨by omega, by omega⟩
            have hg0 : ¬ 0 < c := by omega
            have z1 : (s ++ (ByteArray.mk #[32, 45, 32])).size = s.size + 3 := by rw [ByteArray.size_append]; rfl
            have t1 : ¬ 9223372036854775807 < s.size + 3 := by omega
            have t2 : ¬ 9223372036854775807 < s.size + 3 + (dI (-c)).size := by omega
            go_enter Tryz.func37, Tryz.ntmps37
            go_wp2_with fail
            refine (sLabels_of l b off cap _ HF.out (HL.out.below BA.out)).mono ?_
            rintro e w1 ⟨rfl, hb⟩
            have BX := mkHid (Box_new w v c 61 hb)
            have BA := mkHid (below_step BA.out hb)
            clear hb
            rw [h1]
            obtain ⟨x0, x1, x2, x3⟩ := BX.out
            go_wp2_with fail
            refine (sSymOk_any ((l.length : Int) + 1) v c _).mono ?_
            rintro e w2 ⟨rfl, hb⟩
            clear x0 x1 x2 x3
            have BX := mkHid (BX.out.below hb)
            have BA := mkHid (below_step BA.out hb)
            clear hb
            rw [h2]
            have HS := HL.out.below BA.out
            have c1 := HS k s HKG.out
            clear HS
            have hbl := World.block_lt_of_cell? _ _ c1
            simp only at hbl
            obtain ⟨x0, x1, x2, x3⟩ := BX.out
            have hxl := BX.out.lt
            have hBA := BA.out
            go_wp2_with fail
            go_region_held3 (fun v9 => v9.cell? ⟨w.heap.size, 0, none⟩ = some (.int .i64 v) ∧ v9.cell? ⟨w.heap.size, 1, none⟩ = some (.int .i64 c) ∧ v9.cell? ⟨b, off + k, none⟩ = some (.string s))
              (first | (simp (maxDischargeDepth := 12) [*, go_sem]; done) | assumption)
              (first | (go_at_call 59; refine (digitsI_any (-c) _ (by omega) (by omega)).mono ?_; rintro e w' ⟨rfl, hb⟩; (try rw [below_drew] at hb); obtain ⟨hc, hf, hm, hs⟩ := bcell4 hb; have hz0 : w.heap.size < w'.heap.size := (by have := hb.size; (try simp at this); omega); have hl0 := Nat.le_of_lt hz0; have hz1 : b < w'.heap.size := (by have := hb.size; (try simp at this); omega)))
            all_goals
              go_wp2
              go_ret
              exact ⟨ret_str E.out, (by repeat (first | with_reducible exact Below.refl _ _ | (with_reducible refine bl_set2 ?_ ?_ _; (first | (simp; done) | (simp [*]; done) | (simp [*] <;> omega))) | with_reducible refine bl_drew ?_ | with_reducible refine bl_alloc ?_ _ | with_reducible refine below_step ?_ (by assumption) | with_reducible assumption))⟩
          · have E := mkHid (show (s ++ (ByteArray.mk #[32, 43, 32])) ++ dI c = textS l v c by rw [ET]; unfold symT; rw [if_neg hv, if_neg hc0, if_neg hcn, hs])
            clear ET hs
            have hg0 : 0 < c := by omega
            have z1 : (s ++ (ByteArray.mk #[32, 43, 32])).size = s.size + 3 := by rw [ByteArray.size_append]; rfl
            have t1 : ¬ 9223372036854775807 < s.size + 3 := by omega
            have t2 : ¬ 9223372036854775807 < s.size + 3 + (dI c).size := by omega
            go_enter Tryz.func37, Tryz.ntmps37
            go_wp2_with fail
            refine (sLabels_of l b off cap _ HF.out (HL.out.below BA.out)).mono ?_
            rintro e w1 ⟨rfl, hb⟩
            have BX := mkHid (Box_new w v c 61 hb)
            have BA := mkHid (below_step BA.out hb)
            clear hb
            rw [h1]
            obtain ⟨x0, x1, x2, x3⟩ := BX.out
            go_wp2_with fail
            refine (sSymOk_any ((l.length : Int) + 1) v c _).mono ?_
            rintro e w2 ⟨rfl, hb⟩
            clear x0 x1 x2 x3
            have BX := mkHid (BX.out.below hb)
            have BA := mkHid (below_step BA.out hb)
            clear hb
            rw [h2]
            have HS := HL.out.below BA.out
            have c1 := HS k s HKG.out
            clear HS
            have hbl := World.block_lt_of_cell? _ _ c1
            simp only at hbl
            obtain ⟨x0, x1, x2, x3⟩ := BX.out
            have hxl := BX.out.lt
            have hBA := BA.out
            go_wp2_with fail
            go_region_held3 (fun v9 => v9.cell? ⟨w.heap.size, 0, none⟩ = some (.int .i64 v) ∧ v9.cell? ⟨w.heap.size, 1, none⟩ = some (.int .i64 c) ∧ v9.cell? ⟨b, off + k, none⟩ = some (.string s))
              (first | (simp (maxDischargeDepth := 12) [*, go_sem]; done) | assumption)
              (first | (go_at_call 59; refine (digitsI_any c _ (by omega) (by omega)).mono ?_; rintro e w' ⟨rfl, hb⟩; (try rw [below_drew] at hb); obtain ⟨hc, hf, hm, hs⟩ := bcell4 hb; have hz0 : w.heap.size < w'.heap.size := (by have := hb.size; (try simp at this); omega); have hl0 := Nat.le_of_lt hz0; have hz1 : b < w'.heap.size := (by have := hb.size; (try simp at this); omega)))
            all_goals
              go_wp2
              go_ret
              exact ⟨ret_str E.out, (by repeat (first | with_reducible exact Below.refl _ _ | (with_reducible refine bl_set2 ?_ ?_ _; (first | (simp; done) | (simp [*]; done) | (simp [*] <;> omega))) | with_reducible refine bl_drew ?_ | with_reducible refine bl_alloc ?_ _ | with_reducible refine below_step ?_ (by assumption) | with_reducible assumption))⟩
end Go.Proofs.YthfiblldccnjcaaGreatDoor
