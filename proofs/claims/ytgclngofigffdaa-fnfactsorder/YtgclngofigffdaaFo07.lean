/-
  STEPS of a widening: plain models; CONTRACTS of areVals, areSteps, stepBelow, stepAbove of the program.
  CONTRACTS of areSteps of the program, l06Steps of the specification.
  CONTRACT of l06Steps of the specification.
  CONTRACTS of l07Vals and of both FactsHas.
  CONTRACTS of both SymVals.
  CONTRACTS of both SymMosts.
  CONTRACT of the specification's SymMost.
  CONTRACTS of the specification's l07None, l07Add, FactsAdd.
  CONTRACT of the specification's FactsAdd.
-/
import Derived.Test.YtgclngofigffdaaFo00
import Derived.Deep.AppendLies
import Derived.Deep.Onto
import Derived.Deep.QuietTactic
import Derived.BigQuiet
import Derived.Test.YtgclngofigffdaaFo03
import Derived.Test.YtgclngofigffdaaFo02
import Derived.Test.YtgclngofigffdaaFo06
namespace Go.Proofs.Ytgclngofigffdaa
open Go.RowKit

/-- Ints that lie in a row, to be read. -/
def IntsIn (w : World) (l : List Int) (b off : Nat) : Prop := ∀ (i : Nat) (x : Int), l[i]? = some x → w.cell? ⟨b, off + i, none⟩ = some (.int .i64 x)
theorem IntsIn.below {w w' : World} {l : List Int} {b off : Nat} (h : IntsIn w l b off) (hb : Below w.heap.size w w') : IntsIn w' l b off := fun i x hi => by
  have h0 := h i x hi
  exact (hb.cell (p := ⟨b, off + i, none⟩) (World.block_lt_of_cell? w _ h0)).trans h0
def upB : List Int → Bool
  | x :: y :: l => decide (x < y) && upB (y :: l)
  | _ => true
def valsB (l : List Int) : Bool := l.all valB
/-- What may be steps. -/
def stepsB (l : List Int) : Bool := decide (l.length ≤ 20) && (valsB l && upB l)
theorem vals_take {l : List Int} {k : Nat} {x : Int} (h : l[k]? = some x) (ht : (l.take k).all valB = true) (hx : valB x = true) : (l.take (k + 1)).all valB = true := by
  rw [List.take_add_one, h, List.all_append, ht]; simp [hx]
theorem vals_no {l : List Int} {k : Nat} {x : Int} (h : l[k]? = some x) (hx : valB x = false) : valsB l = false := by
  unfold valsB
  cases hh : l.all valB
  · rfl
  · rw [List.all_eq_true] at hh
    rw [hh x (List.mem_of_getElem? h)] at hx
    cases hx
set_option maxHeartbeats 800000 in
theorem areVals_of (l : List Int) (b off c : Nat) (w : World) (hn : l.length ≤ maxLen) (hl : IntsIn w l b off) : Calls Try.prog 60 #[.slice (some ⟨b, off, none⟩) l.length c] w fun e w' => e = .returned (.bool (valsB l)) ∧ w = w' := by
  unfold maxLen at hn
  have HL := mkHid hl
  clear hl
  go_enter Try.func60, Try.ntmps60
  go_wp2
  go_loopw [7] (fun i w' => ∃ (k : Nat), k ≤ l.length ∧ i = .int .i64 k ∧ (l.take k).all valB = true ∧ w' = w) (fun i _ => l.length - (intOf i).toNat)
  case atStart => exact ⟨0, Nat.zero_le _, rfl, by simp, rfl⟩
  case round =>
    obtain ⟨k, hk, rfl, hall, rfl⟩ := hrel
    have HA := mkHid hall
    clear hall
    by_cases hlt : k < l.length
    · obtain ⟨x, hx⟩ : ∃ x, l[k]? = some x := ⟨_, List.getElem?_eq_getElem hlt⟩
      have c0 := HL.out k x hx
      have i0 : (0 : Int) ≤ (k : Int) := by omega
      have i1 : (k : Int) < (l.length : Int) := by omega
      cases h1 : valB x
      · have e := mkHid (vals_no hx h1)
        clear hx
        go_wp2_with (go_at_call 77; refine (iVal_any _ _).mono ?_; rintro e w' ⟨rfl, rfl⟩)
        go_ret
        exact ⟨ret_bool e.out.symm, rfl⟩
      · have e := mkHid (vals_take hx HA.out h1)
        clear hx
        go_wp2_with (go_at_call 77; refine (iVal_any _ _).mono ?_; rintro e w' ⟨rfl, rfl⟩)
        go_roundw
        case rel => exact ⟨k + 1, by omega, by go_num, e.out, by trivial⟩
        case measure => simp [intOf]; omega
    · have e : Hid (valsB l = true) := mkHid (by have := HA.out; rw [List.take_of_length_le (by omega)] at this; exact this)
      go_wp2
      go_ret
      exact ⟨ret_bool e.out.symm, rfl⟩
end Go.Proofs.Ytgclngofigffdaa
namespace Go.Proofs.Ytgclngofigffdaa
open Go.RowKit

def Up (l : List Int) (k : Nat) : Prop := ∀ (i : Nat) (x y : Int), i + 1 < k → l[i]? = some x → l[i + 1]? = some y → x < y
theorem upB_iff : ∀ (l : List Int), upB l = true ↔ Up l l.length
  | [] => by simp [upB, Up]
  | [x] => by simp [upB, Up]
  | x :: y :: l => by
    have ih := upB_iff (y :: l)
    rw [upB, Bool.and_eq_true, decide_eq_true_eq, ih]
    constructor
    · rintro ⟨h0, h⟩ i u v hi hu hv
      cases i with
      | zero => simp at hu hv; omega
      | succ i => exact h i u v (by simp at hi ⊢; omega) (by simpa using hu) (by simpa using hv)
    · intro h
      exact ⟨h 0 x y (by simp) rfl rfl, fun i u v hi hu hv => h (i + 1) u v (by simp at hi ⊢; omega) (by simpa using hu) (by simpa using hv)⟩
theorem Up.next {l : List Int} {k : Nat} {x y : Int} (h : Up l k) (hx : l[k - 1]? = some x) (hy : l[k]? = some y) (hk : 1 ≤ k) (hlt : x < y) : Up l (k + 1) := by
  intro i u v hi hu hv
  by_cases h1 : i + 1 < k
  · exact h i u v h1 hu hv
  · have e : i = k - 1 := by omega
    have e2 : i + 1 = k := by omega
    rw [e, hx] at hu
    rw [e2, hy] at hv
    simp at hu hv
    omega
theorem Up.no {l : List Int} {k : Nat} {x y : Int} (hx : l[k - 1]? = some x) (hy : l[k]? = some y) (hk : 1 ≤ k) (hge : y ≤ x) : upB l = false := by
  cases h : upB l
  · rfl
  · have hkl : k < l.length := (List.getElem?_eq_some_iff.1 hy).1
    have := (upB_iff l).1 h (k - 1) x y (by omega) hx (by rw [show k - 1 + 1 = k by omega]; exact hy)
    omega

set_option maxHeartbeats 1600000 in
theorem areSteps_of (l : List Int) (b off c : Nat) (w : World) (hn : l.length ≤ maxLen) (hl : IntsIn w l b off) : Calls Try.prog 46 #[.slice (some ⟨b, off, none⟩) l.length c] w fun e w' => e = .returned (.bool (stepsB l)) ∧ Below w.heap.size w w' := by
  have HL := mkHid hl
  have HN := mkHid hn
  clear hl
  unfold maxLen at hn
  by_cases h20 : l.length ≤ 20
  · cases hv : valsB l
    · have e := mkHid (show stepsB l = false by simp [stepsB, hv])
      have hd : (20 < (l.length : Int)) = False := by simp; omega
      go_enter Try.func46, Try.ntmps46
      go_wp2_with (go_at_call 60; refine (areVals_of l _ _ _ _ HN.out HL.out).mono ?_; rintro e w' ⟨rfl, rfl⟩)
      go_ret
      exact ⟨ret_bool e.out.symm, Below.refl _ _⟩
    · have es := mkHid (show stepsB l = upB l by simp [stepsB, hv, h20])
      go_enter Try.func46, Try.ntmps46
      go_wp2_with (go_at_call 60; refine (areVals_of l _ _ _ _ HN.out HL.out).mono ?_; rintro e w' ⟨rfl, rfl⟩)
      go_loopw [3] (fun i w' => ∃ (k : Nat), 1 ≤ k ∧ i = .int .i64 k ∧ (k ≤ l.length ∨ k = 1) ∧ Up l k ∧ Below w.heap.size w w') (fun i _ => l.length - (intOf i).toNat)
      case atStart => exact ⟨1, Nat.le_refl _, rfl, .inr rfl, fun i x y h => by omega, Below.refl _ _⟩
      case round =>
        obtain ⟨k, hk, rfl, hkl, hup, hB⟩ := hrel
        have HU := mkHid hup
        have HB := mkHid hB
        clear hup hB
        by_cases hlt : k < l.length
        · obtain ⟨y, hy⟩ : ∃ x, l[k]? = some x := ⟨_, List.getElem?_eq_getElem hlt⟩
          obtain ⟨x, hx⟩ : ∃ x, l[k - 1]? = some x := ⟨_, List.getElem?_eq_getElem (by omega)⟩
          have c0 := (HL.out.below HB.out) k y hy
          have c1 := (HL.out.below HB.out) (k - 1) x hx
          have j0 : (0 : Int) ≤ (k : Int) := by omega
          have j1 : (k : Int) < (l.length : Int) := by omega
          have j2 : (0 : Int) ≤ (k : Int) - 1 := by omega
          have j3 : (k : Int) - 1 < (l.length : Int) := by omega
          have HX := mkHid hx
          have HY := mkHid hy
          clear hx hy
          by_cases h1 : x ≥ y
          · have e := mkHid (es.out.trans (Up.no HX.out HY.out hk h1))
            go_wp2
            go_quiet (fail)
            go_wp2
            go_ret
            exact ⟨ret_bool e.out.symm, HB.out.trans ⟨rfl, rfl, rfl, Nat.le_refl _, fun _ _ => rfl⟩⟩
          · have e := mkHid (Up.next HU.out HX.out HY.out hk (by omega))
            go_wp2
            go_quiet (fail)
            go_wp2
            go_roundw
            case rel => exact ⟨k + 1, by omega, by go_num, .inl (by omega), e.out, HB.out.trans ⟨rfl, rfl, rfl, Nat.le_refl _, fun _ _ => rfl⟩⟩
            case measure => simp [intOf]; omega
        · have e : Hid (stepsB l = true) := mkHid (es.out.trans ((upB_iff l).2 (fun i x y hi hx hy => HU.out i x y (by omega) hx hy)))
          go_wp2
          go_ret
          exact ⟨ret_bool e.out.symm, HB.out⟩
  · have e := mkHid (show stepsB l = false by simp [stepsB, h20])
    have hd : (20 < (l.length : Int)) := by omega
    go_enter Try.func46, Try.ntmps46
    go_wp2
    go_ret
    exact ⟨ret_bool e.out.symm, Below.refl _ _⟩
end Go.Proofs.Ytgclngofigffdaa
namespace Go.Proofs.Ytgclngofigffdaa
open Go.RowKit

theorem sVal_q (n : Int) (w : World) : Calls Try.prog 76 #[.int .i64 n] w fun e w' => e = .returned (.bool (valB n)) ∧ w' = w := (sVal_any n w).mono fun _ _ h => ⟨h.1, h.2.symm⟩
set_option maxHeartbeats 3200000 in
theorem sSteps_of (l : List Int) (b off c : Nat) (w : World) (hn : l.length ≤ maxLen) (hl : IntsIn w l b off) : Calls Try.prog 55 #[.slice (some ⟨b, off, none⟩) l.length c] w fun e w' => e = .returned (.bool (stepsB l)) ∧ Below w.heap.size w w' := by
  have HL := mkHid hl
  clear hl
  unfold maxLen at hn
  by_cases h20 : l.length ≤ 20
  · have es := mkHid (show stepsB l = (valsB l && upB l) by simp [stepsB, h20])
    go_enter Try.func55, Try.ntmps55
    go_wp2
    go_loopw [3] (fun i w' => ∃ (k : Nat), k ≤ l.length ∧ i = .int .i64 k ∧ (l.take k).all valB = true ∧ Up l k ∧ Below w.heap.size w w') (fun i _ => l.length - (intOf i).toNat)
    case atStart => exact ⟨0, Nat.zero_le _, rfl, by simp, fun i x y h => by omega, Below.refl _ _⟩
    case round =>
      obtain ⟨k, hk, rfl, hall, hup, hB⟩ := hrel
      have HU := mkHid hup
      have HB := mkHid hB
      have HA := mkHid hall
      clear hup hB hall
      have hund : undef = Value.tuple #[] := rfl
      by_cases hlt : k < l.length
      · obtain ⟨y, hy⟩ : ∃ x, l[k]? = some x := ⟨_, List.getElem?_eq_getElem hlt⟩
        have c0 := (HL.out.below HB.out) k y hy
        have j0 : (0 : Int) ≤ (k : Int) := by omega
        have j1 : (k : Int) < (l.length : Int) := by omega
        have HY := mkHid hy
        clear hy
        cases h1 : valB y
        · have e := mkHid (es.out.trans (show (valsB l && upB l) = false by rw [vals_no HY.out h1]; rfl))
          go_wp2
          go_quiet ((go_at_call 76; exact Calls.quiet_of_same (sVal_q _ _)))
          go_wp2
          go_ret
          exact ⟨ret_bool e.out.symm, HB.out.trans ⟨rfl, rfl, rfl, Nat.le_refl _, fun _ _ => rfl⟩⟩
        · by_cases h0 : k = 0
          · have e := mkHid (show Up l (k + 1) from fun i x y h => by omega)
            have e2 := mkHid (vals_take HY.out HA.out h1)
            have hd : decide (0 < k) = false := by simp; omega
            have H0 := mkHid h0
            clear h0
            go_wp2
            go_quiet ((go_at_call 76; exact Calls.quiet_of_same (sVal_q _ _)))
            clear hund
            go_wp2
            go_roundw
            case rel => exact ⟨k + 1, by omega, by go_num, e2.out, e.out, HB.out.trans ⟨rfl, rfl, rfl, Nat.le_refl _, fun _ _ => rfl⟩⟩
            case measure => simp [intOf]; omega
          · obtain ⟨x, hx⟩ : ∃ x, l[k - 1]? = some x := ⟨_, List.getElem?_eq_getElem (by omega)⟩
            have c1 := (HL.out.below HB.out) (k - 1) x hx
            have j2 : (0 : Int) ≤ (k : Int) - 1 := by omega
            have j3 : (k : Int) - 1 < (l.length : Int) := by omega
            have j4 : decide (0 < k) = true := by simp; omega
            have H0 : 1 ≤ k := by omega
            clear h0
            have HX := mkHid hx
            clear hx
            by_cases h2 : x ≥ y
            · have e := mkHid (es.out.trans (show (valsB l && upB l) = false by rw [Up.no HX.out HY.out (by omega) h2]; simp))
              go_wp2
              go_quiet ((go_at_call 76; exact Calls.quiet_of_same (sVal_q _ _)))
              go_wp2
              go_ret
              exact ⟨ret_bool e.out.symm, HB.out.trans ⟨rfl, rfl, rfl, Nat.le_refl _, fun _ _ => rfl⟩⟩
            · have e := mkHid (Up.next HU.out HX.out HY.out (by omega) (by omega))
              have e2 := mkHid (vals_take HY.out HA.out h1)
              clear hund
              go_wp2
              go_quiet ((go_at_call 76; exact Calls.quiet_of_same (sVal_q _ _)))
              go_wp2
              go_roundw
              case rel => exact ⟨k + 1, by omega, by go_num, e2.out, e.out, HB.out.trans ⟨rfl, rfl, rfl, Nat.le_refl _, fun _ _ => rfl⟩⟩
              case measure => simp [intOf]; omega
      · have e : Hid (stepsB l = true) := mkHid (by
          rw [es.out, show valsB l = true by have := HA.out; rw [List.take_of_length_le (by omega)] at this; exact this, (upB_iff l).2 (fun i x y hi hx hy => HU.out i x y (by omega) hx hy)]; rfl)
        go_wp2
        go_ret
        exact ⟨ret_bool e.out.symm, HB.out⟩
  · have e := mkHid (show stepsB l = false by simp [stepsB, h20])
    have hd : (20 < (l.length : Int)) := by omega
    go_enter Try.func55, Try.ntmps55
    go_wp2
    go_ret
    exact ⟨ret_bool e.out.symm, Below.refl _ _⟩
end Go.Proofs.Ytgclngofigffdaa
namespace Go.Proofs.Ytgclngofigffdaa
open Go.RowKit

def leB (n : Nat) (l v : List Int) (p : Nat) : Bool := decide (v.getD (p / n) 0 - v.getD (p % n) 0 ≤ l.getD p 0)
theorem vals_get {v : List Int} (h : valsB v = true) {i : Nat} (hi : i < v.length) : -1000000 ≤ v.getD i 0 ∧ v.getD i 0 ≤ 1000000 := by
  unfold valsB at h
  rw [List.all_eq_true] at h
  have := h (v.getD i 0) (by rw [List.getD_eq_getElem?_getD, List.getElem?_eq_getElem hi]; exact List.getElem_mem _)
  exact of_decide_eq_true this
/-- The first k numbers are not passed. -/
def Kept (n : Nat) (l v : List Int) (k : Nat) : Prop := ∀ p, p < k → leB n l v p = true
theorem Kept.next {n : Nat} {l v : List Int} {k : Nat} (h : Kept n l v k) (hk : leB n l v k = true) : Kept n l v (k + 1) := fun p hp => by
  by_cases e : p = k
  · subst e; exact hk
  · exact h p (by omega)
end Go.Proofs.Ytgclngofigffdaa
namespace Go.Proofs.Ytgclngofigffdaa
open Go.RowKit

end Go.Proofs.Ytgclngofigffdaa
namespace Go.Proofs.Ytgclngofigffdaa
open Go.RowKit

end Go.Proofs.Ytgclngofigffdaa
namespace Go.Proofs.Ytgclngofigffdaa
open Go.RowKit

end Go.Proofs.Ytgclngofigffdaa
namespace Go.Proofs.Ytgclngofigffdaa
open Go.RowKit

def noN (z : Int) (n : Nat) : Bool := decide (z = 0 ∧ n = 0)
set_option maxHeartbeats 400000 in
theorem sNoF_any (z : Int) (a : Option Addr) (n c : Nat) (w : World) : Calls Try.prog 51 #[.agg #[.int .i64 z, .slice a n c]] w fun e w' => e = .returned (.bool (noN z n)) ∧ Below w.heap.size w w' := by
  by_cases h1 : z = 0
  · have hb1 : (z == 0) = true := by rw [beq_iff_eq]; exact h1
    by_cases h2 : n = 0
    · have hb2 : ((n : Int) == 0) = true := by rw [beq_iff_eq]; omega
      have e := mkHid (show noN z n = true from decide_eq_true ⟨h1, h2⟩)
      clear h1 h2
      go_enter Try.func51, Try.ntmps51
      go_wp2
      go_ret
      exact ⟨ret_bool e.out.symm, (Below.refl _ _).alloc (Nat.le_refl _) _⟩
    · have hb2 : ((n : Int) == 0) = false := by rw [beq_eq_false_iff_ne]; omega
      have e := mkHid (show noN z n = false from decide_eq_false fun h => h2 h.2)
      clear h1 h2
      go_enter Try.func51, Try.ntmps51
      go_wp2
      go_ret
      exact ⟨ret_bool e.out.symm, (Below.refl _ _).alloc (Nat.le_refl _) _⟩
  · have hb1 : (z == 0) = false := by rw [beq_eq_false_iff_ne]; exact h1
    have e := mkHid (show noN z n = false from decide_eq_false fun h => h1 h.1)
    clear h1
    go_enter Try.func51, Try.ntmps51
    go_wp2
    go_ret
    exact ⟨ret_bool e.out.symm, (Below.refl _ _).alloc (Nat.le_refl _) _⟩
end Go.Proofs.Ytgclngofigffdaa
namespace Go.Proofs.Ytgclngofigffdaa
open Go.RowKit

end Go.Proofs.Ytgclngofigffdaa
