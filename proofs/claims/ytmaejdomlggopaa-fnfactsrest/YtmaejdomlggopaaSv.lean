/-
  CONTRACTS of both SymVals.
-/
import Derived.Test.YtmaejdomlggopaaSy
import Derived.Test.YtmaejdomlggopaaHs
namespace Go.Proofs.Ytmaejdomlggopaa
open Go.RowKit

/-- Numbers that may be those of all symbols. -/
def valsOk (l : List Int) : Bool := decide (1 ≤ l.length ∧ l.length ≤ 13) && vOkB l.length l
def offB (c : Int) : Bool := btw c (-2000000) 2000000
/-- What SymVal answers. -/
def symVal (v c : Int) (l : List Int) : Int × Bool := if valsOk l && (symB v l.length && offB c) then (l.getD v.toNat 0 + c, true) else (0, false)
theorem sOff_any (c : Int) (w : World) : Calls Try.prog 77 #[.int .i64 c] w fun e w' => e = .returned (.bool (offB c)) ∧ w = w' := by
  go_enter Try.func77, Try.ntmps77
  go_wp2_with (first | (go_at_call 68; refine (between_any _ _ _ _).mono ?_; rintro e w' ⟨rfl, rfl⟩))
  go_ret
  exact ⟨rfl, rfl⟩
theorem sVals_zero (v : List Int) (a : Option Addr) (c : Nat) (w : World) (h : v.length = 0) : Calls Try.prog 76 #[.int .i64 0, .slice a v.length c] w fun e w' => e = .returned (.bool false) ∧ w = w' := by
  rw [h]
  go_enter Try.func76, Try.ntmps76
  go_wp2
  go_ret
  exact ⟨rfl, rfl⟩
theorem btw_sym' {n : Nat} (i : Int) {k : Int} (hk : (n : Int) - 1 = k) : btw i 0 k = symB i n := by unfold btw symB; rw [decide_eq_decide]; omega
theorem sym_val {l : List Int} {v c : Int} (h : valsOk l = true) (hv : symB v l.length = true) (hc : offB c = true) : ∃ k : Nat, v = k ∧ k < l.length ∧ l.length ≤ 13 ∧ IntKind.i64.wrap (l.getD k 0 + c) = (symVal v c l).1 ∧ (symVal v c l).2 = true := by
  have hv' := of_decide_eq_true hv
  refine ⟨v.toNat, by omega, by omega, ?_, ?_, ?_⟩
  · unfold valsOk at h; rw [Bool.and_eq_true] at h; have := of_decide_eq_true h.1; omega
  · unfold symVal
    rw [h, hv, hc]
    refine IntWalk.i64_in _ ?_
    unfold valsOk vOkB at h
    rw [Bool.and_eq_true, Bool.and_eq_true] at h
    have h1 := vals_get h.2.2 (i := v.toNat) (by omega)
    have h2 := of_decide_eq_true hc
    omega
  · unfold symVal; rw [h, hv, hc]; rfl
theorem sym_val_no {l : List Int} {v c : Int} (h : (valsOk l && (symB v l.length && offB c)) = false) : symVal v c l = (0, false) := by unfold symVal; rw [h]; rfl
set_option maxRecDepth 100000 in
set_option maxHeartbeats 1600000 in
theorem sSymVal_any (v c : Int) (l : List Int) (a : Option Addr) (c0 : Nat) (w : World) (hl : IntsAt w a l) : Calls Try.prog 35 #[.agg #[.int .i64 v, .int .i64 c], .slice a l.length c0] w fun e w' => e = .returned (.tuple #[.int .i64 (symVal v c l).1, .bool (symVal v c l).2]) ∧ Below w.heap.size w w' := by
  have HL := mkHid hl
  have B0 := mkHid ((Below.refl w.heap.size w).alloc (Nat.le_refl _) (.cells #[.int .i64 v, .int .i64 c] 46))
  have NO : Hid ((valsOk l && (symB v l.length && offB c)) = false → symVal v c l = (0, false)) := mkHid sym_val_no
  have YES : Hid (valsOk l = true → symB v l.length = true → offB c = true → ∃ k : Nat, v = k ∧ k < l.length ∧ l.length ≤ 13 ∧ IntKind.i64.wrap (l.getD k 0 + c) = (symVal v c l).1 ∧ (symVal v c l).2 = true) := mkHid sym_val
  obtain ⟨P, hP⟩ : ∃ P, symVal v c l = P := ⟨_, rfl⟩
  rw [hP] at NO YES
  rw [hP]
  clear hP
  by_cases hbig : 13 < l.length
  · have e : Hid (P = (0, false)) := mkHid (NO.out (by unfold valsOk; rw [decide_eq_false (by omega)]; rfl))
    have hb : (13 : Int) < (l.length : Int) := by omega
    rw [e.out]
    clear hbig
    go_enter Try.func35, Try.ntmps35
    go_wp2
    exact bodyPost_ret (v := .tuple #[.int .i64 0, .bool false]) (by simp [results, Try.results35, go_sem]) rfl ⟨rfl, B0.out⟩
  · have hb : ¬ (13 : Int) < (l.length : Int) := by omega
    have HV : Hid (∀ u, IntsAt u a l → Calls Try.prog 76 #[.int .i64 l.length, .slice a l.length c0] u fun e w' => e = .returned (.bool (valsOk l)) ∧ u = w') := mkHid fun u hu => by
      by_cases h0 : l.length = 0
      · have := sVals_zero l a c0 u h0
        have e : valsOk l = false := by unfold valsOk; rw [decide_eq_false (by omega)]; rfl
        rw [e]
        rw [show ((l.length : Int)) = 0 by omega]
        exact this
      · have := sVals_any l.length (by omega) (by omega) l a c0 u hu
        have e : valsOk l = vOkB l.length l := by unfold valsOk; rw [decide_eq_true (by omega)]; rfl
        rw [e]
        exact this
    cases hok : valsOk l
    · rw [hok] at HV
      have e : Hid (P = (0, false)) := mkHid (NO.out (by rw [hok]; rfl))
      rw [e.out]
      clear hbig hl
      go_enter Try.func35, Try.ntmps35
      go_wp2_with fail
      refine (HV.out _ (HL.out.below B0.out)).mono ?_
      rintro e w' ⟨rfl, rfl⟩
      go_wp2
      exact bodyPost_ret (v := .tuple #[.int .i64 0, .bool false]) (by simp [results, Try.results35, go_sem]) rfl ⟨rfl, B0.out⟩
    · rw [hok] at HV
      have hlen : 1 ≤ l.length := by
        unfold valsOk at hok
        rw [Bool.and_eq_true] at hok
        exact (of_decide_eq_true hok.1).1
      obtain ⟨k, hk⟩ : ∃ k : Int, (l.length : Int) - 1 = k := ⟨_, rfl⟩
      have hwk : IntKind.i64.wrap ((l.length : Int) - 1) = k := by rw [← hk]; exact IntWalk.i64_in _ (by omega)
      have hbi := btw_sym' v hk
      clear hk
      cases hv : symB v l.length
      · rw [hv] at hbi
        have e : Hid (P = (0, false)) := mkHid (NO.out (by rw [hok, hv]; rfl))
        rw [e.out]
        clear hbig hl hlen hok hv
        go_enter Try.func35, Try.ntmps35
        go_wp2_with fail
        refine (HV.out _ (HL.out.below B0.out)).mono ?_
        rintro e w' ⟨rfl, rfl⟩
        go_wp2_with (first | (go_at_call 68; refine (between_any _ _ _ _).mono ?_; rintro e w' ⟨rfl, rfl⟩))
        exact bodyPost_ret (v := .tuple #[.int .i64 0, .bool false]) (by simp [results, Try.results35, go_sem]) rfl ⟨rfl, B0.out⟩
      · rw [hv] at hbi
        cases hc : offB c
        · have e : Hid (P = (0, false)) := mkHid (NO.out (by rw [hok, hv, hc]; rfl))
          rw [e.out]
          clear hbig hl hlen hok hv
          go_enter Try.func35, Try.ntmps35
          go_wp2_with fail
          refine (HV.out _ (HL.out.below B0.out)).mono ?_
          rintro e w' ⟨rfl, rfl⟩
          go_wp2_with (first | (go_at_call 68; refine (between_any _ _ _ _).mono ?_; rintro e w' ⟨rfl, rfl⟩) | (go_at_call 77; refine (sOff_any _ _).mono ?_; rintro e w' ⟨rfl, rfl⟩))
          exact bodyPost_ret (v := .tuple #[.int .i64 0, .bool false]) (by simp [results, Try.results35, go_sem]) rfl ⟨rfl, B0.out⟩
        · obtain ⟨k2, rfl, hk2, _, hsum, hP2⟩ := YES.out hok hv hc
          obtain ⟨p1, p2⟩ := P
          simp only at hP2 hsum
          subst hP2
          obtain ⟨b, o, rfl, cx⟩ := IntsAt.get' (HL.out.below B0.out) hk2
          obtain ⟨x, hx⟩ : ∃ x, l.getD k2 0 = x := ⟨_, rfl⟩
          rw [hx] at cx hsum
          have hlt : (k2 : Int) < (l.length : Int) := by omega
          clear hbig hl hlen hok hv hk2 hx NO YES
          go_enter Try.func35, Try.ntmps35
          go_wp2_with fail
          refine (HV.out _ (HL.out.below B0.out)).mono ?_
          rintro e w' ⟨rfl, rfl⟩
          go_wp2_with (first | (go_at_call 68; refine (between_any _ _ _ _).mono ?_; rintro e w' ⟨rfl, rfl⟩) | (go_at_call 77; refine (sOff_any _ _).mono ?_; rintro e w' ⟨rfl, rfl⟩))
          go_region_held3 (fun u => u.cell? ⟨w.heap.size, 0, none⟩ = some (.int .i64 k2) ∧ u.cell? ⟨w.heap.size, 1, none⟩ = some (.int .i64 c) ∧ u.cell? ⟨b, o + k2, none⟩ = some (.int .i64 x))
            (first | exact ⟨by simp [go_sem], by simp [go_sem], cx⟩)
            (fail)
          go_wp2
          exact bodyPost_ret (v := .tuple #[.int .i64 p1, .bool true]) (by simp [results, Try.results35, go_sem]) rfl ⟨rfl, B0.out.drew⟩
/-- The program's areSymVals. -/
theorem iVals_any (l : List Int) (a : Option Addr) (c : Nat) (w : World) (hm : l.length ≤ maxLen) (hl : IntsAt w a l) : Calls Try.prog 78 #[.slice a l.length c] w fun e w' => e = .returned (.bool (valsOk l)) ∧ Below w.heap.size w w' := by
  by_cases h : 1 ≤ l.length ∧ l.length ≤ 13
  · have hbt : btw (l.length : Int) 1 13 = true := decide_eq_true (by omega)
    obtain ⟨b, o, rfl, cx⟩ := IntsAt.get' hl (k := 0) (by omega)
    have hin : IntsIn w l b o := by
      rcases hl with h0 | ⟨b', o', e, hc⟩
      · rw [h0] at h; simp at h
      · cases e; exact hc
    have e : Hid (valsOk l = (l.getD 0 0 == 0 && valsB l)) := mkHid (by
      unfold valsOk vOkB
      rw [decide_eq_true h]
      by_cases h0 : l.getD 0 0 = 0
      · rw [decide_eq_true ⟨rfl, h0⟩, h0]; rfl
      · rw [decide_eq_false (fun e => h0 e.2)]
        have : (l.getD 0 0 == 0) = false := by simpa using h0
        rw [this]; rfl)
    have HIN := mkHid hin
    have HM := mkHid hm
    rw [e.out]
    obtain ⟨x, hx⟩ : ∃ x, l.getD 0 0 = x := ⟨_, rfl⟩
    rw [hx] at cx
    rw [hx]
    have hlt : (0 : Int) < (l.length : Int) := by omega
    rw [Nat.add_zero] at cx
    clear hl hin hx h hm
    cases hx0 : (x == 0)
    · go_enter Try.func78, Try.ntmps78
      go_wp2_with (first | (go_at_call 74; refine (isBetween_any _ _ _ _).mono ?_; rintro e w' ⟨rfl, rfl⟩))
      go_ret
      exact ⟨rfl, Below.refl _ _⟩
    · go_enter Try.func78, Try.ntmps78
      go_wp2_with (first | (go_at_call 74; refine (isBetween_any _ _ _ _).mono ?_; rintro e w' ⟨rfl, rfl⟩))
      refine (areVals_of l b o _ _ HM.out HIN.out).mono ?_
      rintro e w' ⟨rfl, rfl⟩
      go_wp2
      go_ret
      exact ⟨rfl, Below.refl _ _⟩
  · have hbt : btw (l.length : Int) 1 13 = false := decide_eq_false (by omega)
    have e : valsOk l = false := by unfold valsOk; rw [decide_eq_false h]; rfl
    rw [e]
    clear h e hl hm
    go_enter Try.func78, Try.ntmps78
    go_wp2_with (first | (go_at_call 74; refine (isBetween_any _ _ _ _).mono ?_; rintro e w' ⟨rfl, rfl⟩))
    go_ret
    exact ⟨rfl, Below.refl _ _⟩
/-- isWideSym. -/
theorem wide_any (n : Nat) (hn : n ≤ 1000000) (v c : Int) (w : World) : Calls Try.prog 79 #[.int .i64 n, .agg #[.int .i64 v, .int .i64 c]] w fun e w' => e = .returned (.bool (symB v n && offB c)) ∧ Below w.heap.size w w' := by
  have B0 := mkHid ((Below.refl w.heap.size w).alloc (Nat.le_refl _) (.cells #[.int .i64 v, .int .i64 c] 46))
  obtain ⟨k, hk⟩ : ∃ k : Int, (n : Int) - 1 = k := ⟨_, rfl⟩
  have hwk : IntKind.i64.wrap ((n : Int) - 1) = k := by rw [← hk]; exact IntWalk.i64_in _ (by omega)
  have hbi := btw_sym' v hk
  clear hk hn
  cases hv : symB v n
  · rw [hv] at hbi
    go_enter Try.func79, Try.ntmps79
    go_wp2_with (first | (go_at_call 74; refine (isBetween_any _ _ _ _).mono ?_; rintro e w' ⟨rfl, rfl⟩))
    go_ret
    exact ⟨rfl, B0.out⟩
  · rw [hv] at hbi
    go_enter Try.func79, Try.ntmps79
    go_wp2_with (first | (go_at_call 74; refine (isBetween_any _ _ _ _).mono ?_; rintro e w' ⟨rfl, rfl⟩) | (go_at_call 99; refine (isGap_any _ _).mono ?_; rintro e w' ⟨rfl, rfl⟩))
    go_ret
    exact ⟨rfl, B0.out⟩
set_option maxRecDepth 100000 in
set_option maxHeartbeats 1600000 in
theorem iSymVal_any (v c : Int) (l : List Int) (a : Option Addr) (c0 : Nat) (w : World) (hm : l.length ≤ maxLen) (hl : IntsAt w a l) : Calls Try.prog 36 #[.agg #[.int .i64 v, .int .i64 c], .slice a l.length c0] w fun e w' => e = .returned (.tuple #[.int .i64 (symVal v c l).1, .bool (symVal v c l).2]) ∧ Below w.heap.size w w' := by
  have HL := mkHid hl
  have HM := mkHid hm
  have B0 := mkHid ((Below.refl w.heap.size w).alloc (Nat.le_refl _) (.cells #[.int .i64 v, .int .i64 c] 46))
  have P0 := mkHid (Box.new' w v c 46)
  have NO : Hid ((valsOk l && (symB v l.length && offB c)) = false → symVal v c l = (0, false)) := mkHid sym_val_no
  have YES : Hid (valsOk l = true → symB v l.length = true → offB c = true → ∃ k : Nat, v = k ∧ k < l.length ∧ l.length ≤ 13 ∧ IntKind.i64.wrap (l.getD k 0 + c) = (symVal v c l).1 ∧ (symVal v c l).2 = true) := mkHid sym_val
  obtain ⟨P, hP⟩ : ∃ P, symVal v c l = P := ⟨_, rfl⟩
  rw [hP] at NO YES
  rw [hP]
  clear hP hl hm
  go_enter Try.func36, Try.ntmps36
  go_wp2_with fail
  refine (iVals_any l a c0 _ HM.out (HL.out.below B0.out)).mono ?_
  rintro e w1 ⟨rfl, hb1⟩
  have B1 := mkHid (below_step B0.out hb1)
  have P1 := mkHid (P0.out.below hb1)
  clear hb1 B0 P0
  cases hok : valsOk l
  · have e : Hid ((0, false) = P) := mkHid (NO.out (by rw [hok]; rfl)).symm
    obtain ⟨p1, p2⟩ := P
    have e1 := congrArg Prod.fst e.out
    have e2 := congrArg Prod.snd e.out
    simp only at e1 e2
    subst e1 e2
    go_wp2
    exact bodyPost_ret (v := .tuple #[.int .i64 0, .bool false]) (by simp [results, Try.results36, go_sem]) rfl ⟨rfl, B1.out⟩
  · have hlen : l.length ≤ 13 := by
      unfold valsOk at hok
      rw [Bool.and_eq_true] at hok
      exact (of_decide_eq_true hok.1).2
    have HLE : Hid (l.length ≤ 1000000) := mkHid (by omega)
    obtain ⟨q0, q1, q2, q3⟩ := P1.out
    have HOK := mkHid hok
    clear hlen hok
    go_wp2_with fail
    refine (wide_any l.length HLE.out v c _).mono ?_
    rintro e w2 ⟨rfl, hb2⟩
    have B2 := mkHid (below_step B1.out hb2)
    have P2 := mkHid (P1.out.below hb2)
    clear hb2 B1 P1 q0 q1 q2 q3
    cases hvc : (symB v l.length && offB c)
    · have e : Hid ((0, false) = P) := mkHid (NO.out (by rw [HOK.out, hvc]; rfl)).symm
      obtain ⟨p1, p2⟩ := P
      have e1 := congrArg Prod.fst e.out
      have e2 := congrArg Prod.snd e.out
      simp only at e1 e2
      subst e1 e2
      clear hvc
      go_wp2
      exact bodyPost_ret (v := .tuple #[.int .i64 0, .bool false]) (by simp [results, Try.results36, go_sem]) rfl ⟨rfl, B2.out⟩
    · rw [Bool.and_eq_true] at hvc
      obtain ⟨k2, rfl, hk2, _, hsum, hP2⟩ := YES.out HOK.out hvc.1 hvc.2
      obtain ⟨p1, p2⟩ := P
      simp only at hP2 hsum
      subst hP2
      obtain ⟨b, o, rfl, cx⟩ := IntsAt.get' (HL.out.below B2.out) hk2
      obtain ⟨x, hx⟩ : ∃ x, l.getD k2 0 = x := ⟨_, rfl⟩
      rw [hx] at cx hsum
      have hlt : (k2 : Int) < (l.length : Int) := by omega
      obtain ⟨q0, q1, q2, q3⟩ := P2.out
      clear hvc hk2 hx NO YES
      go_wp2_with fail
      go_region_held3 (fun u => u.cell? ⟨w.heap.size, 0, none⟩ = some (.int .i64 k2) ∧ u.cell? ⟨w.heap.size, 1, none⟩ = some (.int .i64 c) ∧ u.cell? ⟨b, o + k2, none⟩ = some (.int .i64 x))
        (first | exact ⟨q0, q1, cx⟩)
        (fail)
      go_wp2
      exact bodyPost_ret (v := .tuple #[.int .i64 p1, .bool true]) (by simp [results, Try.results36, go_sem]) rfl ⟨rfl, B2.out.drew⟩
end Go.Proofs.Ytmaejdomlggopaa
