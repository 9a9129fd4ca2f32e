/-
  CONTRACT of the program's SymText.
  CONTRACTS of both ValTexts, and of taking a Val over.
-/
import Derived.Test.YthfiblldccnjcaaGreatDoorSys
import Derived.Test.YthfiblldccnjcaaGreatDoorIjn
import Derived.Deep.RegionHeld3
import Derived.Test.YthfiblldccnjcaaGreatDoorVl
namespace Go.Proofs.YthfiblldccnjcaaGreatDoor
open Go.RowKit
attribute [local go_sem] nlt2 nlt3 nlt4 nle2 nle3 nle4 drew_size drew_cell drew_frozen

set_option maxRecDepth 100000 in
theorem clone_any (s : ByteArray) (w : World) (hs : s.size ≤ 1048576) : Calls Tryz.prog 99 #[.string s] w fun e w' => e = .returned (.string s) ∧ Below w.heap.size w w' := by
  have HC := mkHid (fun v => Tryz.stringslite_Clone s v (by omega))
  go_enter Tryz.func99, Tryz.ntmps99
  go_wp2_with fail
  refine (HC.out _).mono ?_
  rintro e w2 ⟨rfl, hb⟩
  go_wp2
  go_ret
  exact ⟨rfl, hb⟩
set_option maxRecDepth 100000 in
set_option maxHeartbeats 3200000 in
theorem iSymText_of (v c : Int) (l : List ByteArray) (b off cap : Nat) (w : World) (hF : Fit l 1048576) (hl : StrsIn w l b off) (ht : Tab w) : Calls Tryz.prog 73 #[.agg #[.int .i64 v, .int .i64 c], .slice (some ⟨b, off, none⟩) l.length cap] w fun e w' => e = .returned (.string (textS l v c)) ∧ Below w.heap.size w w' := by
  have HF := mkHid hF
  have HL := mkHid hl
  have hn := hF.1
  have HT := mkHid ht
  clear ht
  clear hF hl
  have hw1 : IntKind.i64.wrap (1 + (l.length : Int)) = (l.length : Int) + 1 := by rw [IntWalk.i64_in _ ⟨by omega, by omega⟩]; omega
  have BA := mkHid ((Below.refl w.heap.size w).alloc (Nat.le_refl _) (.cells #[.int .i64 v, .int .i64 c] 61))
  cases h2 : symOkB ((l.length : Int) + 1) v c
  · have E := mkHid (show (⟨#[]⟩ : ByteArray) = textS l v c by unfold textS symOk2; rw [h2, Bool.and_false]; rfl)
    go_enter Tryz.func73, Tryz.ntmps73
    go_wp2_with fail
    refine (iSymOk_any ((l.length : Int) + 1) v c _).mono ?_
    rintro e w1 ⟨rfl, hb⟩
    have BX := mkHid (Box_new w v c 61 hb)
    have BA := mkHid (below_step BA.out hb)
    clear hb
    rw [h2]
    go_wp2
    go_ret
    exact ⟨ret_str E.out, BA.out⟩
  · cases h1b : labsB l
    · have E := mkHid (show (⟨#[]⟩ : ByteArray) = textS l v c by unfold textS symOk2; rw [h1b]; rfl)
      go_enter Tryz.func73, Tryz.ntmps73
      go_wp2_with fail
      refine (iSymOk_any ((l.length : Int) + 1) v c _).mono ?_
      rintro e w1 ⟨rfl, hb⟩
      have BX := mkHid (Box_new w v c 61 hb)
      have BA := mkHid (below_step BA.out hb)
      clear hb
      rw [h2]
      go_wp2_with fail
      refine (areLabels_of l b off cap _ HF.out (HL.out.below BA.out)).mono ?_
      rintro e w2 ⟨rfl, hb⟩
      have BX := mkHid (BX.out.below hb)
      have BA := mkHid (below_step BA.out hb)
      clear hb
      rw [h1b]
      go_wp2
      go_ret
      exact ⟨ret_str E.out, BA.out⟩
    · obtain ⟨⟨q1, q2⟩, ⟨q3, q4⟩, q5, q6⟩ := symOk_iff.1 h2
      have ET : textS l v c = symT l v c := by unfold textS symOk2; rw [h1b, h2]; rfl
      by_cases hv : v = 0
      · have E := mkHid (show dI c = textS l v c by rw [ET]; unfold symT; rw [if_pos hv])
        clear ET
        subst hv
        go_enter Tryz.func73, Tryz.ntmps73
        go_wp2_with fail
        refine (iSymOk_any ((l.length : Int) + 1) 0 c _).mono ?_
        rintro e w1 ⟨rfl, hb⟩
        have BX := mkHid (Box_new w 0 c 61 hb)
        have BA := mkHid (below_step BA.out hb)
        clear hb
        rw [h2]
        go_wp2_with fail
        refine (areLabels_of l b off cap _ HF.out (HL.out.below BA.out)).mono ?_
        rintro e w2 ⟨rfl, hb⟩
        have BX := mkHid (BX.out.below hb)
        have BA := mkHid (below_step BA.out hb)
        clear hb
        rw [h1b]
        obtain ⟨x0, x1, x2, x3⟩ := BX.out
        go_wp2_with fail
        refine (itoa_any c _ (by omega) (by omega) (HT.out _ BA.out)).mono ?_
        rintro e w3 ⟨rfl, hb⟩
        have BA := mkHid (below_step BA.out hb)
        clear hb
        go_wp2
        go_ret
        exact ⟨ret_str E.out, BA.out⟩
      · obtain ⟨k, hk, hkl, hkg⟩ := nmAt_get (l := l) (v := v) (by omega) (by omega)
        obtain ⟨s, hs⟩ : ∃ s, nmAt l v = s := ⟨_, rfl⟩
        rw [hs] at hkg
        have hws : IntKind.i64.wrap (v - 1) = (k : Int) := by rw [IntWalk.i64_in _ ⟨by omega, by omega⟩]; exact hk
        have hsz : s.size ≤ 1048576 := HF.out.2 k s hkg
        have HKG := mkHid hkg
        have k2 : (0 : Int) ≤ (k : Int) := by omega
        have k3 : (k : Int) < (l.length : Int) := by omega
        have hv0 : ¬ v = 0 := hv
        have hvb : (v == 0) = false := by simp [hv]
        clear hkg hk
        by_cases hc0 : c = 0
        · have E := mkHid (show s = textS l v c by rw [ET]; unfold symT; rw [if_neg hv, if_pos hc0, hs])
          clear ET hs
          subst hc0
          go_enter Tryz.func73, Tryz.ntmps73
          go_wp2_with fail
          refine (iSymOk_any ((l.length : Int) + 1) v 0 _).mono ?_
          rintro e w1 ⟨rfl, hb⟩
          have BX := mkHid (Box_new w v 0 61 hb)
          have BA := mkHid (below_step BA.out hb)
          clear hb
          rw [h2]
          go_wp2_with fail
          refine (areLabels_of l b off cap _ HF.out (HL.out.below BA.out)).mono ?_
          rintro e w2 ⟨rfl, hb⟩
          have BX := mkHid (BX.out.below hb)
          have BA := mkHid (below_step BA.out hb)
          clear hb
          rw [h1b]
          have HS := HL.out.below BA.out
          have c1 := HS k s HKG.out
          clear HS
          have hbl := World.block_lt_of_cell? _ _ c1
          simp only at hbl
          obtain ⟨x0, x1, x2, x3⟩ := BX.out
          have hxl := BX.out.lt
          go_wp2_with fail
          refine (clone_any s _ hsz).mono ?_
          rintro e w3 ⟨rfl, hb⟩
          have BA := mkHid (below_step BA.out hb)
          clear hb
          go_wp2
          go_ret
          exact ⟨ret_str E.out, BA.out⟩
        · have hcb : (c == 0) = false := by simp [hc0]
          have s2 := dI_size (-c) (by omega) (by omega)
          have s1 := dI_size c (by omega) (by omega)
          by_cases hcn : c < 0
          · have E := mkHid (show (s ++ (ByteArray.mk #[32, 45, 32])) ++ dI (-c) = textS l v c by rw [ET]; unfold symT; rw [if_neg hv, if_neg hc0, if_pos hcn, hs])
            clear ET hs
            have hwn : IntKind.i64.wrap (-c) = -c := IntWalk.i64_in _ ⟨by omega, by omega⟩
            have hg0 : ¬ 0 < c := by omega
            have z1 : (s ++ (ByteArray.mk #[32, 45, 32])).size = s.size + 3 := by rw [ByteArray.size_append]; rfl
            have t1 : ¬ 9223372036854775807 < s.size + 3 := by omega
            have t2 : ¬ 9223372036854775807 < s.size + 3 + (dI (-c)).size := by omega
            go_enter Tryz.func73, Tryz.ntmps73
            go_wp2_with fail
            refine (iSymOk_any ((l.length : Int) + 1) v c _).mono ?_
            rintro e w1 ⟨rfl, hb⟩
            have BX := mkHid (Box_new w v c 61 hb)
            have BA := mkHid (below_step BA.out hb)
            clear hb
            rw [h2]
            go_wp2_with fail
            refine (areLabels_of l b off cap _ HF.out (HL.out.below BA.out)).mono ?_
            rintro e w2 ⟨rfl, hb⟩
            have BX := mkHid (BX.out.below hb)
            have BA := mkHid (below_step BA.out hb)
            clear hb
            rw [h1b]
            have HS := HL.out.below BA.out
            have c1 := HS k s HKG.out
            clear HS
            have hbl := World.block_lt_of_cell? _ _ c1
            simp only at hbl
            obtain ⟨x0, x1, x2, x3⟩ := BX.out
            have hxl := BX.out.lt
            have hBA := BA.out
            go_wp2_with fail
            go_region_held3 (fun v9 => v9.cell? ⟨w.heap.size, 0, none⟩ = some (.int .i64 v) ∧ v9.cell? ⟨w.heap.size, 1, none⟩ = some (.int .i64 c) ∧ v9.cell? ⟨b, off + k, none⟩ = some (.string s))
              (first | (simp (maxDischargeDepth := 12) [*, go_sem]; done) | assumption)
              (first | (go_at_call 98; refine (itoa_any (-c) _ (by omega) (by omega) (HT.out _ (by repeat (first | with_reducible exact Below.refl _ _ | (with_reducible refine bl_set2 ?_ ?_ _; (first | (simp; done) | (simp [*]; done) | (simp [*] <;> omega))) | with_reducible refine bl_drew ?_ | with_reducible refine bl_alloc ?_ _ | with_reducible refine below_step ?_ (by assumption) | with_reducible assumption)))).mono ?_; rintro e w' ⟨rfl, hb⟩; (try rw [below_drew] at hb); obtain ⟨hc, hf, hm, hs⟩ := bcell4 hb; have hz0 : w.heap.size < w'.heap.size := (by have := hb.size; (try simp at this); omega); have hl0 := Nat.le_of_lt hz0; have hz1 : b < w'.heap.size := (by have := hb.size; (try simp at this); omega)))
            all_goals
              go_wp2
              go_ret
              exact ⟨ret_str E.out, (by repeat (first | with_reducible exact Below.refl _ _ | (with_reducible refine bl_set2 ?_ ?_ _; (first | (simp; done) | (simp [*]; done) | (simp [*] <;> omega))) | with_reducible refine bl_drew ?_ | with_reducible refine bl_alloc ?_ _ | with_reducible refine below_step ?_ (by assumption) | with_reducible assumption))⟩
          · have E := mkHid (show (s ++ (ByteArray.mk #[32, 43, 32])) ++ dI c = textS l v c by rw [ET]; unfold symT; rw [if_neg hv, if_neg hc0, if_neg hcn, hs])
            clear ET hs
            have hg0 : 0 < c := by omega
            have z1 : (s ++ (ByteArray.mk #[32, 43, 32])).size = s.size + 3 := by rw [ByteArray.size_append]; rfl
            have t1 : ¬ 9223372036854775807 < s.size + 3 := by omega
            have t2 : ¬ 9223372036854775807 < s.size + 3 + (dI c).size := by omega
            go_enter Tryz.func73, Tryz.ntmps73
            go_wp2_with fail
            refine (iSymOk_any ((l.length : Int) + 1) v c _).mono ?_
            rintro e w1 ⟨rfl, hb⟩
            have BX := mkHid (Box_new w v c 61 hb)
            have BA := mkHid (below_step BA.out hb)
            clear hb
            rw [h2]
            go_wp2_with fail
            refine (areLabels_of l b off cap _ HF.out (HL.out.below BA.out)).mono ?_
            rintro e w2 ⟨rfl, hb⟩
            have BX := mkHid (BX.out.below hb)
            have BA := mkHid (below_step BA.out hb)
            clear hb
            rw [h1b]
            have HS := HL.out.below BA.out
            have c1 := HS k s HKG.out
            clear HS
            have hbl := World.block_lt_of_cell? _ _ c1
            simp only at hbl
            obtain ⟨x0, x1, x2, x3⟩ := BX.out
            have hxl := BX.out.lt
            have hBA := BA.out
            go_wp2_with fail
            go_region_held3 (fun v9 => v9.cell? ⟨w.heap.size, 0, none⟩ = some (.int .i64 v) ∧ v9.cell? ⟨w.heap.size, 1, none⟩ = some (.int .i64 c) ∧ v9.cell? ⟨b, off + k, none⟩ = some (.string s))
              (first | (simp (maxDischargeDepth := 12) [*, go_sem]; done) | assumption)
              (first | (go_at_call 98; refine (itoa_any c _ (by omega) (by omega) (HT.out _ (by repeat (first | with_reducible exact Below.refl _ _ | (with_reducible refine bl_set2 ?_ ?_ _; (first | (simp; done) | (simp [*]; done) | (simp [*] <;> omega))) | with_reducible refine bl_drew ?_ | with_reducible refine bl_alloc ?_ _ | with_reducible refine below_step ?_ (by assumption) | with_reducible assumption)))).mono ?_; rintro e w' ⟨rfl, hb⟩; (try rw [below_drew] at hb); obtain ⟨hc, hf, hm, hs⟩ := bcell4 hb; have hz0 : w.heap.size < w'.heap.size := (by have := hb.size; (try simp at this); omega); have hl0 := Nat.le_of_lt hz0; have hz1 : b < w'.heap.size := (by have := hb.size; (try simp at this); omega)))
            all_goals
              go_wp2
              go_ret
              exact ⟨ret_str E.out, (by repeat (first | with_reducible exact Below.refl _ _ | (with_reducible refine bl_set2 ?_ ?_ _; (first | (simp; done) | (simp [*]; done) | (simp [*] <;> omega))) | with_reducible refine bl_drew ?_ | with_reducible refine bl_alloc ?_ _ | with_reducible refine below_step ?_ (by assumption) | with_reducible assumption))⟩
end Go.Proofs.YthfiblldccnjcaaGreatDoor
namespace Go.Proofs.YthfiblldccnjcaaGreatDoor
open Go.RowKit

def orB : ByteArray := ⟨#[32, 111, 114, 32, 117, 110, 119, 114, 105, 116, 116, 101, 110]⟩
theorem ba_empty {t : ByteArray} (h : t.toList.isEmpty = true) : t = ⟨#[]⟩ := by
  have h1 : t.data.toList = [] := by simpa [ByteArray.toList_eq] using h
  apply ByteArray.ext
  exact Array.toList_inj.1 h1
def textV (a b : Int) (s : Bool) : ByteArray := if okB a b then (if s then textM a b else textM a b ++ orB) else ⟨#[]⟩
theorem textM_no {a b : Int} (h : okB a b = false) : textM a b = ⟨#[]⟩ := by unfold textM; rw [h]; rfl
theorem textM_size (a b : Int) : (textM a b).size ≤ 9000000 := by
  unfold textM
  cases h1 : okB a b
  · exact (by decide : (ByteArray.mk #[]).size ≤ 9000000)
  · cases h2 : isB a b
    · simp; decide
    · simp only [if_true]
      obtain ⟨q1, q2, q3⟩ : -1000000 ≤ a ∧ a ≤ b ∧ b ≤ 1000000 := by have := ok_iff.1 h1; have := is_iff.1 h2; omega
      have s1 := dI_size a (by omega) (by omega)
      have s2 := dI_size b (by omega) (by omega)
      rw [ByteArray.size_append, ByteArray.size_append]
      have : (ByteArray.mk #[46, 46]).size = 2 := rfl
      omega
theorem textM_pos {a b : Int} (h : okB a b = true) : 2 ≤ (textM a b).size := by
  unfold textM
  rw [h]
  cases h2 : isB a b
  · simp; decide
  · simp only [if_true]
    rw [ByteArray.size_append, ByteArray.size_append]
    have : (ByteArray.mk #[46, 46]).size = 2 := rfl
    omega
set_option maxRecDepth 100000 in
set_option maxHeartbeats 800000 in
theorem sVtext_any (a b : Int) (s : Bool) (w : World) : Calls Tryz.prog 36 #[.agg #[.int .i64 a, .int .i64 b, .bool s]] w fun e w' => e = .returned (.string (textV a b s)) ∧ Below w.heap.size w w' := by
  cases h1 : okB a b
  · have E := mkHid (show (⟨#[]⟩ : ByteArray) = textV a b s by unfold textV; rw [h1]; rfl)
    go_enter Tryz.func36, Tryz.ntmps36
    go_wp2_with (go_at_call 34; refine (sVok_any _ _ _ _).mono ?_; rintro e w' ⟨rfl, hb⟩; (try rw [below_drew] at hb); obtain ⟨hc, hf, hm, hs⟩ := bcell4 hb; have hz0 : w.heap.size < w'.heap.size := (by have := hb.size; (try simp at this); omega); have hl0 := Nat.le_of_lt hz0)
    go_ret
    exact ⟨ret_str E.out, (by repeat (first | with_reducible exact Below.refl _ _ | (with_reducible refine bl_set2 ?_ ?_ _; (first | (simp; done) | (simp [*]; done) | (simp [*] <;> omega))) | with_reducible refine bl_drew ?_ | with_reducible refine bl_alloc ?_ _ | with_reducible refine below_step ?_ (by assumption) | with_reducible assumption))⟩
  · obtain ⟨t, ht⟩ : ∃ t, textM a b = t := ⟨_, rfl⟩
    have HT := mkHid (fun (v : World) => show Calls Tryz.prog 58 #[.agg #[.int .i64 a, .int .i64 b]] v fun e w' => e = .returned (.string t) ∧ Below v.heap.size v w' by rw [← ht]; exact sText_any a b v)
    have hsz : ¬ 9223372036854775807 < t.size + 13 := by rw [← ht]; have := textM_size a b; omega
    cases s
    · have E := mkHid (show t ++ (⟨#[32, 111, 114, 32, 117, 110, 119, 114, 105, 116, 116, 101, 110]⟩ : ByteArray) = textV a b false by unfold textV; rw [h1, ht]; rfl)
      clear ht
      go_enter Tryz.func36, Tryz.ntmps36
      go_wp2_with (first | (go_at_call 34; refine (sVok_any _ _ _ _).mono ?_; rintro e w' ⟨rfl, hb⟩; (try rw [below_drew] at hb); obtain ⟨hc, hf, hm, hs⟩ := bcell4 hb; have hz0 : w.heap.size < w'.heap.size := (by have := hb.size; (try simp at this); omega); have hl0 := Nat.le_of_lt hz0) | (go_at_call 58; refine (HT.out _).mono ?_; rintro e w' ⟨rfl, hb⟩; (try rw [below_drew] at hb); obtain ⟨hc, hf, hm, hs⟩ := bcell4 hb; have hz0 : w.heap.size < w'.heap.size := (by have := hb.size; (try simp at this); omega); have hl0 := Nat.le_of_lt hz0))
      go_ret
      exact ⟨ret_str E.out, (by repeat (first | with_reducible exact Below.refl _ _ | (with_reducible refine bl_set2 ?_ ?_ _; (first | (simp; done) | (simp [*]; done) | (simp [*] <;> omega))) | with_reducible refine bl_drew ?_ | with_reducible refine bl_alloc ?_ _ | with_reducible refine below_step ?_ (by assumption) | with_reducible assumption))⟩
    · have E := mkHid (show t = textV a b true by unfold textV; rw [h1, ht]; rfl)
      clear ht
      go_enter Tryz.func36, Tryz.ntmps36
      go_wp2_with (first | (go_at_call 34; refine (sVok_any _ _ _ _).mono ?_; rintro e w' ⟨rfl, hb⟩; (try rw [below_drew] at hb); obtain ⟨hc, hf, hm, hs⟩ := bcell4 hb; have hz0 : w.heap.size < w'.heap.size := (by have := hb.size; (try simp at this); omega); have hl0 := Nat.le_of_lt hz0) | (go_at_call 58; refine (HT.out _).mono ?_; rintro e w' ⟨rfl, hb⟩; (try rw [below_drew] at hb); obtain ⟨hc, hf, hm, hs⟩ := bcell4 hb; have hz0 : w.heap.size < w'.heap.size := (by have := hb.size; (try simp at this); omega); have hl0 := Nat.le_of_lt hz0))
      go_ret
      exact ⟨ret_str E.out, (by repeat (first | with_reducible exact Below.refl _ _ | (with_reducible refine bl_set2 ?_ ?_ _; (first | (simp; done) | (simp [*]; done) | (simp [*] <;> omega))) | with_reducible refine bl_drew ?_ | with_reducible refine bl_alloc ?_ _ | with_reducible refine below_step ?_ (by assumption) | with_reducible assumption))⟩
set_option maxRecDepth 100000 in
set_option maxHeartbeats 800000 in
theorem iVtext_any (a b : Int) (s : Bool) (w : World) (htab : Tab w) : Calls Tryz.prog 51 #[.agg #[.int .i64 a, .int .i64 b, .bool s]] w fun e w' => e = .returned (.string (textV a b s)) ∧ Below w.heap.size w w' := by
  obtain ⟨t, ht⟩ : ∃ t, textM a b = t := ⟨_, rfl⟩
  have HT := mkHid (fun (v : World) (hv : Below w.heap.size w v) => show Calls Tryz.prog 74 #[.agg #[.int .i64 a, .int .i64 b]] v fun e w' => e = .returned (.string t) ∧ Below v.heap.size v w' by rw [← ht]; exact iText_any a b v (fun W hW => htab W (below_step hv hW)))
  have hsz : ¬ 9223372036854775807 < t.size + 13 := by rw [← ht]; have := textM_size a b; omega
  clear htab
  cases s
  · cases h1 : okB a b
    · have E := mkHid (show (⟨#[]⟩ : ByteArray) = textV a b false by unfold textV; rw [h1]; rfl)
      have e0 : t = ⟨#[]⟩ := by rw [← ht]; exact textM_no h1
      clear ht
      subst e0
      go_enter Tryz.func51, Tryz.ntmps51
      go_wp2_with (go_at_call 74; refine (HT.out _ (by repeat (first | with_reducible exact Below.refl _ _ | (with_reducible refine bl_set2 ?_ ?_ _; (first | (simp; done) | (simp [*]; done) | (simp [*] <;> omega))) | with_reducible refine bl_drew ?_ | with_reducible refine bl_alloc ?_ _ | with_reducible refine below_step ?_ (by assumption) | with_reducible assumption))).mono ?_; rintro e w' ⟨rfl, hb⟩; (try rw [below_drew] at hb); obtain ⟨hc, hf, hm, hs⟩ := bcell4 hb; have hz0 : w.heap.size < w'.heap.size := (by have := hb.size; (try simp at this); omega); have hl0 := Nat.le_of_lt hz0)
      go_ret
      exact ⟨ret_str E.out, (by repeat (first | with_reducible exact Below.refl _ _ | (with_reducible refine bl_set2 ?_ ?_ _; (first | (simp; done) | (simp [*]; done) | (simp [*] <;> omega))) | with_reducible refine bl_drew ?_ | with_reducible refine bl_alloc ?_ _ | with_reducible refine below_step ?_ (by assumption) | with_reducible assumption))⟩
    · have E := mkHid (show t ++ (⟨#[32, 111, 114, 32, 117, 110, 119, 114, 105, 116, 116, 101, 110]⟩ : ByteArray) = textV a b false by unfold textV; rw [h1, ht]; rfl)
      have e0 : ¬ t = ⟨#[]⟩ := by intro e; have := textM_pos h1; rw [ht, e] at this; exact absurd this (by decide)
      have e1 : t.toList.isEmpty = false := by cases h : t.toList.isEmpty with | false => rfl | true => exact absurd (ba_empty h) e0
      clear ht
      go_enter Tryz.func51, Tryz.ntmps51
      go_wp2_with (go_at_call 74; refine (HT.out _ (by repeat (first | with_reducible exact Below.refl _ _ | (with_reducible refine bl_set2 ?_ ?_ _; (first | (simp; done) | (simp [*]; done) | (simp [*] <;> omega))) | with_reducible refine bl_drew ?_ | with_reducible refine bl_alloc ?_ _ | with_reducible refine below_step ?_ (by assumption) | with_reducible assumption))).mono ?_; rintro e w' ⟨rfl, hb⟩; (try rw [below_drew] at hb); obtain ⟨hc, hf, hm, hs⟩ := bcell4 hb; have hz0 : w.heap.size < w'.heap.size := (by have := hb.size; (try simp at this); omega); have hl0 := Nat.le_of_lt hz0)
      go_ret
      exact ⟨ret_str E.out, (by repeat (first | with_reducible exact Below.refl _ _ | (with_reducible refine bl_set2 ?_ ?_ _; (first | (simp; done) | (simp [*]; done) | (simp [*] <;> omega))) | with_reducible refine bl_drew ?_ | with_reducible refine bl_alloc ?_ _ | with_reducible refine below_step ?_ (by assumption) | with_reducible assumption))⟩
  · have E := mkHid (show t = textV a b true by unfold textV; rw [← ht]; cases h1 : okB a b; exact textM_no h1; rfl)
    clear ht
    go_enter Tryz.func51, Tryz.ntmps51
    go_wp2_with (go_at_call 74; refine (HT.out _ (by repeat (first | with_reducible exact Below.refl _ _ | (with_reducible refine bl_set2 ?_ ?_ _; (first | (simp; done) | (simp [*]; done) | (simp [*] <;> omega))) | with_reducible refine bl_drew ?_ | with_reducible refine bl_alloc ?_ _ | with_reducible refine below_step ?_ (by assumption) | with_reducible assumption))).mono ?_; rintro e w' ⟨rfl, hb⟩; (try rw [below_drew] at hb); obtain ⟨hc, hf, hm, hs⟩ := bcell4 hb; have hz0 : w.heap.size < w'.heap.size := (by have := hb.size; (try simp at this); omega); have hl0 := Nat.le_of_lt hz0)
    go_ret
    exact ⟨ret_str E.out, (by repeat (first | with_reducible exact Below.refl _ _ | (with_reducible refine bl_set2 ?_ ?_ _; (first | (simp; done) | (simp [*]; done) | (simp [*] <;> omega))) | with_reducible refine bl_drew ?_ | with_reducible refine bl_alloc ?_ _ | with_reducible refine below_step ?_ (by assumption) | with_reducible assumption))⟩
end Go.Proofs.YthfiblldccnjcaaGreatDoor
