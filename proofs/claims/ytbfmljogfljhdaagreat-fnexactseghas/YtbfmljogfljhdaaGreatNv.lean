/-
  CONTRACTS of the program's areVals, areSymVals, isWideSym, SymVal at numbers that are as they should be.
-/
import Derived.Test.YtbfmljogfljhdaaGreatSq
namespace Go.Proofs.YtbfmljogfljhdaaGreat
open Go.RowKit

def eI : El Int := ⟨fun x => [.int .i64 x], 1, by omega, fun _ => rfl⟩
theorem get_i {w : World} {b o : Nat} {l : List Int} (h : ∀ (i : Nat) (x : Int), l[i]? = some x → ∀ (j : Nat) (v : Value), (eI.enc x)[j]? = some v → w.cell? ⟨b, o + i * eI.k + j, none⟩ = some v) {i : Nat} {x : Int} (hx : l[i]? = some x) :
    w.cell? ⟨b, o + i, none⟩ = some (.int .i64 x) := by have := h i x hx 0 _ rfl; simpa [eI] using this
structure VP (l : List Int) : Prop where
  n1 : 1 ≤ l.length
  n2 : l.length ≤ 13
  zero : l[0]? = some 0
  each : ∀ x, x ∈ l → valB x = true
structure AllV (l : List Int) : Prop where
  each : ∀ x, x ∈ l → valB x = true
set_option maxRecDepth 100000 in
set_option maxHeartbeats 1600000 in
theorem areVals'_any (l : List Int) (a : Option Addr) (c : Nat) (w : World) (hn : l.length ≤ 1048576) (hl : At eI w a l) :
    Calls Tryz.prog 91 #[.slice a l.length c] w fun e w' => Tells w w' e (AllV l) := by
  have HL := mkHid hl
  clear hl
  go_enter Tryz.func91, Tryz.ntmps91
  go_wp2
  go_loopg [7, 4] l.length (fun g s7 s4 wr => ∃ (k : Nat), k ≤ l.length ∧ s7 = .int .i64 k ∧ l.length - k ≤ g ∧ (∀ q (x : Int), q < k → l[q]? = some x → valB x = true) ∧ wr = w)
  case atStart => exact ⟨0, Nat.zero_le _, rfl, by omega, fun q x h => by omega, rfl⟩
  case round =>
    obtain ⟨k, hk, rfl, hgk, hsy, rfl⟩ := hrel
    have HS := mkHid hsy
    clear hsy
    by_cases hlt : k < l.length
    · obtain ⟨x, hx⟩ : ∃ x, l[k]? = some x := ⟨_, List.getElem?_eq_getElem hlt⟩
      obtain ⟨b, off, rfl, _, hq⟩ := HL.out.cons (by omega)
      have c0 := get_i hq hx
      have HX := mkHid hx
      clear hq hx
      have i0 : (0 : Int) ≤ (k : Int) := by omega
      have i1 : (k : Int) < (l.length : Int) := by omega
      go_wp2_with fail
      refine (iVal_any x _).mono ?_
      rintro e w1 ⟨rfl, rfl⟩
      cases hso : valB x
      · have HNO : Hid (¬ AllV l) := mkHid fun h => Bool.false_ne_true (hso.symm.trans (h.each x (List.mem_of_getElem? HX.out)))
        go_wp2
        go_ret
        exact Tells.no (Below.refl _ _) HNO.out
      · have HNX : Hid (∀ q (x : Int), q < k + 1 → l[q]? = some x → valB x = true) := mkHid fun q y hq hy => (by omega : q < k ∨ q = k).elim (fun h => HS.out q y h hy) (fun h => by subst h; rw [HX.out] at hy; cases hy; exact hso)
        go_wp2
        go_roundg (l.length - (k + 1))
        case measure => omega
        case rel => exact ⟨k + 1, by omega, by go_num, Nat.le_refl _, HNX.out, by trivial⟩
    · have HSA : Hid (AllV l) := mkHid ⟨fun p hp => by obtain ⟨q, hq, rfl⟩ := List.getElem_of_mem hp; exact HS.out q _ (by omega) (List.getElem?_eq_getElem hq)⟩
      have i1 : ¬ (k : Int) < (l.length : Int) := by omega
      go_wp2
      go_ret
      exact Tells.yes (Below.refl _ _) HSA.out
set_option maxRecDepth 100000 in
set_option maxHeartbeats 1600000 in
theorem areSymVals_any (l : List Int) (a : Option Addr) (c : Nat) (w : World) (hn : l.length ≤ 1048576) (hl : At eI w a l) :
    Calls Tryz.prog 36 #[.slice a l.length c] w fun e w' => Tells w w' e (VP l) := by
  have HL := mkHid hl
  clear hl
  cases hbt : btw (l.length : Int) 1 13
  · have HNO : Hid (¬ VP l) := mkHid fun h => of_decide_eq_false hbt ⟨by have := h.n1; omega, by have := h.n2; omega⟩
    go_enter Tryz.func36, Tryz.ntmps36
    go_wp2_with (first | (go_at_call 90; refine (isBetween_any _ _ _ _).mono ?_; rintro e w' ⟨rfl, rfl⟩))
    go_ret
    exact Tells.no (Below.refl _ _) HNO.out
  obtain ⟨hk1, hk2⟩ : 1 ≤ (l.length : Int) ∧ (l.length : Int) ≤ 13 := of_decide_eq_true hbt
  obtain ⟨x, hx⟩ : ∃ x, l[0]? = some x := ⟨_, List.getElem?_eq_getElem (by omega)⟩
  obtain ⟨b, off, rfl, _, hq⟩ := HL.out.cons (by omega)
  have c0 := get_i hq hx
  rw [Nat.add_zero] at c0
  have HX := mkHid hx
  clear hq hx
  have i0 : (0 : Int) < (l.length : Int) := by omega
  by_cases hx0 : x = 0
  · have hx1 : (x == 0) = true := beq_iff_eq.2 hx0
    have HZ : Hid (l[0]? = some 0) := mkHid (by rw [HX.out, hx0])
    clear hx0
    go_enter Tryz.func36, Tryz.ntmps36
    go_wp2_with (first | (go_at_call 90; refine (isBetween_any _ _ _ _).mono ?_; rintro e w' ⟨rfl, rfl⟩) | fail)
    refine (areVals'_any l _ c _ hn HL.out).mono ?_
    rintro e w1 ⟨hb, r, rfl, hr⟩
    have HR := mkHid hr
    have HB := mkHid hb
    clear hb hr
    cases hrb : r
    · have HNO : Hid (¬ VP l) := mkHid fun h => by have := HR.out.2 ⟨h.each⟩; rw [hrb] at this; cases this
      subst hrb
      go_wp2
      go_ret
      exact Tells.no HB.out HNO.out
    · have HYES : Hid (VP l) := mkHid ⟨by omega, by omega, HZ.out, (HR.out.1 hrb).each⟩
      subst hrb
      go_wp2
      go_ret
      exact Tells.yes HB.out HYES.out
  · have hx1 : (x == 0) = false := beq_eq_false_iff_ne.2 hx0
    have HNO : Hid (¬ VP l) := mkHid fun h => hx0 (by have h1 := h.zero; rw [HX.out] at h1; exact Option.some.inj h1)
    clear hx0
    go_enter Tryz.func36, Tryz.ntmps36
    go_wp2_with (first | (go_at_call 90; refine (isBetween_any _ _ _ _).mono ?_; rintro e w' ⟨rfl, rfl⟩))
    go_ret
    exact Tells.no (Below.refl _ _) HNO.out
/-- A term of so many symbols. -/
structure InS (n : Nat) (p : Y) : Prop where
  lo : 0 ≤ p.1
  hi : p.1 < n
  c1 : -1000 ≤ p.2
  c2 : p.2 ≤ 1000
def valY (l : List Int) (p : Y) : Int := l.getD p.1.toNat 0 + p.2
theorem VP.bound {l : List Int} (h : VP l) {p : Y} (hp : InS l.length p) : ∃ x, l[p.1.toNat]? = some x ∧ valY l p = x + p.2 ∧ -1000000 ≤ x ∧ x ≤ 1000000 := by
  obtain ⟨k, hk⟩ : ∃ k : Nat, p.1.toNat = k := ⟨_, rfl⟩
  have h1 := hp.lo
  have h2 := hp.hi
  have hlt : k < l.length := by omega
  have hx : l[k]? = some l[k] := List.getElem?_eq_getElem hlt
  have hv := of_decide_eq_true (h.each _ (List.mem_of_getElem? hx))
  rw [hk]
  refine ⟨l[k], hx, ?_, hv.1, hv.2⟩
  unfold valY
  rw [hk, List.getD_eq_getElem?_getD, hx]
  rfl
theorem isGap_any (c : Int) (w : World) : Calls Tryz.prog 143 #[.int .i64 c] w fun e w' => e = .returned (.bool (btw c (-2000000) 2000000)) ∧ w = w' := by
  go_enter Tryz.func143, Tryz.ntmps143
  go_wp2_with (go_at_call 90; refine (isBetween_any _ _ _ _).mono ?_; rintro e w' ⟨rfl, rfl⟩)
  go_ret
  exact ⟨rfl, rfl⟩
set_option maxRecDepth 100000 in
set_option maxHeartbeats 1600000 in
theorem wide_yes (n : Nat) (p : Y) (hn : n ≤ 13) (hp : InS n p) (w : World) : Calls Tryz.prog 135 #[.int .i64 n, .agg #[.int .i64 p.1, .int .i64 p.2]] w fun e w' => e = .returned (.bool true) ∧ Below w.heap.size w w' := by
  have h1 := hp.lo
  have h2 := hp.hi
  obtain ⟨m, hm⟩ : ∃ m, (n : Int) - 1 = m := ⟨_, rfl⟩
  have hw : IntKind.i64.wrap ((n : Int) - 1) = m := by rw [← hm]; exact IntWalk.i64_in _ (by omega)
  have hw2 : wrap64 ((n : Int) - 1) = m := by rw [← hm]; unfold wrap64; omega
  have hb1 : btw p.1 0 m = true := decide_eq_true ⟨h1, by omega⟩
  have hb2 : btw p.2 (-2000000) 2000000 = true := decide_eq_true ⟨by have := hp.c1; omega, by have := hp.c2; omega⟩
  have B0 := mkHid ((Below.refl w.heap.size w).alloc (Nat.le_refl _) (.cells #[.int .i64 p.1, .int .i64 p.2] 39))
  clear hm
  go_enter Tryz.func135, Tryz.ntmps135
  go_wp2_with (first | (go_at_call 90; refine (isBetween_any _ _ _ _).mono ?_; rintro e w' ⟨rfl, rfl⟩) | (go_at_call 143; refine (isGap_any _ _).mono ?_; rintro e w' ⟨rfl, rfl⟩))
  go_ret
  exact ⟨rfl, B0.out⟩
set_option maxRecDepth 100000 in
set_option maxHeartbeats 1600000 in
theorem symVal_yes (p : Y) (l : List Int) (a : Option Addr) (c : Nat) (w : World) (hv : VP l) (hp : InS l.length p) (hl : At eI w a l) :
    Calls Tryz.prog 117 #[.agg #[.int .i64 p.1, .int .i64 p.2], .slice a l.length c] w fun e w' => e = .returned (.tuple #[.int .i64 (valY l p), .bool true]) ∧ Below w.heap.size w w' := by
  obtain ⟨z, hz⟩ : ∃ z, valY l p = z := ⟨_, rfl⟩
  obtain ⟨x, hx, hxe, hx1, hx2⟩ := hv.bound hp
  have HZ : Hid (x + p.2 = z) := mkHid (by rw [← hz, hxe])
  rw [hz]
  clear hz hxe
  obtain ⟨k, hk⟩ : ∃ k : Nat, p.1 = (k : Int) := ⟨p.1.toNat, by have := hp.lo; omega⟩
  have hkl : k < l.length := by have := hp.hi; omega
  rw [hk] at hx
  simp only [Int.toNat_natCast] at hx
  have HV := mkHid hv
  have HP := mkHid hp
  have HL := mkHid hl
  have h1 := hp.c1
  have h2 := hp.c2
  have hn2 := hv.n2
  obtain ⟨b, off, rfl, hlb0, _⟩ := hl.cons (by omega)
  obtain ⟨w0, hw0⟩ : ∃ x : World, w.alloc (.cells #[.int .i64 p.1, .int .i64 p.2] 39) = x := ⟨_, rfl⟩
  obtain ⟨X, hX⟩ : ∃ x, w.heap.size = x := ⟨_, rfl⟩
  have HB : Hid (Below w.heap.size w w0) := mkHid (by rw [← hw0]; exact bl_alloc (Below.refl _ _) _)
  have P0 : Hid (Box w0 X p.1 p.2) := mkHid (by rw [← hw0, ← hX]; exact ⟨by simp [go_sem], by simp [go_sem], by simp [go_sem], by simp [go_sem]⟩)
  have HX := mkHid hx
  have HK := mkHid hk
  clear hl hv hp hx hk
  go_enter Tryz.func117, Tryz.ntmps117
  go_wp2_with fail
  clear hw0 hX
  refine (areSymVals_any l _ c _ (by omega) (HL.out.below HB.out)).mono ?_
  rintro e w1 ⟨hb, r, rfl, hr⟩
  obtain rfl : r = true := hr.2 HV.out
  have HB1 := mkHid (below_step HB.out hb)
  have P1 := mkHid (P0.out.below hb)
  clear hb hr HB P0
  obtain ⟨q0, q1, _, _⟩ := P1.out
  go_wp2_with fail
  clear q0 q1
  refine (wide_yes l.length p hn2 HP.out _).mono ?_
  rintro e w2 ⟨rfl, hb⟩
  have HB2 := mkHid (below_step HB1.out hb)
  obtain ⟨q0, q1, _, _⟩ := P1.out.below hb
  obtain ⟨_, _, e, _, hq⟩ := (HL.out.below HB2.out).cons (by omega)
  cases e
  have c0 := get_i hq HX.out
  rw [HK.out] at q0
  have i0 : (0 : Int) ≤ (k : Int) := by omega
  have i1 : (k : Int) < (l.length : Int) := by omega
  have hs : IntKind.i64.wrap (x + p.2) = z := by rw [← HZ.out]; exact IntWalk.i64_in _ (by omega)
  have hs2 : wrap64 (x + p.2) = z := by rw [← HZ.out]; unfold wrap64; omega
  clear hb hq
  go_wp2
  go_quiet (fail)
  go_wp2
  refine bodyPost_ret (v := .tuple #[.int .i64 z, .bool true]) (by simp [results, Tryz.results117, go_sem]) rfl ⟨rfl, ?_⟩
  exact HB2.out.trans ⟨rfl, rfl, rfl, Nat.le_refl _, fun _ _ => rfl⟩
end Go.Proofs.YtbfmljogfljhdaaGreat
