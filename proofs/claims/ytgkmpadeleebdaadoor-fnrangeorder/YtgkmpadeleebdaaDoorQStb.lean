/-
  CONTRACTS of areSteps of the program, l06Steps of the specification.
-/
import Derived.Test.YtgkmpadeleebdaaDoorQSt
namespace Go.Proofs.YtgkmpadeleebdaaDoor.Q
open Go.RowKit

def Up (l : List Int) (k : Nat) : Prop := ∀ (i : Nat) (x y : Int), i + 1 < k → l[i]? = some x → l[i + 1]? = some y → x < y
theorem upB_iff : ∀ (l : List Int), upB l = true ↔ Up l l.length
  | [] => by simp [upB, Up]
  | [x] => by simp [upB, Up]
  | x :: y :: l => by
    have ih := upB_iff (y :: l)
    rw [upB, Bool.and_eq_true, decide_eq_true_eq, ih]
    constructor
    · rintro ⟨h0, h⟩ i u v hi hu hv
      cases i with
      | zero => simp at hu hv; omega
      | succ i => exact h i u v (by simp at hi ⊢; omega) (by simpa using hu) (by simpa using hv)
    · intro h
      exact ⟨h 0 x y (by simp) rfl rfl, fun i u v hi hu hv => h (i + 1) u v (by simp at hi ⊢; omega) (by simpa using hu) (by simpa using hv)⟩
theorem Up.next {l : List Int} {k : Nat} {x y : Int} (h : Up l k) (hx : l[k - 1]? = some x) (hy : l[k]? = some y) (hk : 1 ≤ k) (hlt : x < y) : Up l (k + 1) := by
  intro i u v hi hu hv
  by_cases h1 : i + 1 < k
  · exact h i u v h1 hu hv
  · have e : i = k - 1 := by omega
    have e2 : i + 1 = k := by omega
    rw [e, hx] at hu
    rw [e2, hy] at hv
    simp at hu hv
    omega
theorem Up.no {l : List Int} {k : Nat} {x y : Int} (hx : l[k - 1]? = some x) (hy : l[k]? = some y) (hk : 1 ≤ k) (hge : y ≤ x) : upB l = false := by
  cases h : upB l
  · rfl
  · have hkl : k < l.length := (List.getElem?_eq_some_iff.1 hy).1
    have := (upB_iff l).1 h (k - 1) x y (by omega) hx (by rw [show k - 1 + 1 = k by omega]; exact hy)
    omega

set_option maxRecDepth 100000 in
set_option maxHeartbeats 1600000 in
theorem areSteps_of (l : List Int) (b off c : Nat) (w : World) (hn : l.length ≤ maxLen) (hl : IntsIn w l b off) : Calls Tryd.prog 27 #[.slice (some ⟨b, off, none⟩) l.length c] w fun e w' => e = .returned (.bool (stepsB l)) ∧ Below w.heap.size w w' := by
  have HL := mkHid hl
  have HN := mkHid hn
  clear hl
  unfold maxLen at hn
  by_cases h20 : l.length ≤ 20
  · cases hv : valsB l
    · have e := mkHid (show stepsB l = false by simp [stepsB, hv])
      have hd : (20 < (l.length : Int)) = False := by simp; omega
      go_enter Tryd.func27, Tryd.ntmps27
      go_wp2_with (go_at_call 44; refine (areVals_of l _ _ _ _ HN.out HL.out).mono ?_; rintro e w' ⟨rfl, rfl⟩)
      go_ret
      exact ⟨ret_bool e.out.symm, Below.refl _ _⟩
    · have es := mkHid (show stepsB l = upB l by simp [stepsB, hv, h20])
      go_enter Tryd.func27, Tryd.ntmps27
      go_wp2_with (go_at_call 44; refine (areVals_of l _ _ _ _ HN.out HL.out).mono ?_; rintro e w' ⟨rfl, rfl⟩)
      go_loopw [3] (fun i w' => ∃ (k : Nat), 1 ≤ k ∧ i = .int .i64 k ∧ (k ≤ l.length ∨ k = 1) ∧ Up l k ∧ Below w.heap.size w w') (fun i _ => l.length - (intOf i).toNat)
      case atStart => exact ⟨1, Nat.le_refl _, rfl, .inr rfl, fun i x y h => by omega, Below.refl _ _⟩
      case round =>
        obtain ⟨k, hk, rfl, hkl, hup, hB⟩ := hrel
        have HU := mkHid hup
        have HB := mkHid hB
        clear hup hB
        by_cases hlt : k < l.length
        · obtain ⟨y, hy⟩ : ∃ x, l[k]? = some x := ⟨_, List.getElem?_eq_getElem hlt⟩
          obtain ⟨x, hx⟩ : ∃ x, l[k - 1]? = some x := ⟨_, List.getElem?_eq_getElem (by omega)⟩
          have c0 := (HL.out.below HB.out) k y hy
          have c1 := (HL.out.below HB.out) (k - 1) x hx
          have j0 : (0 : Int) ≤ (k : Int) := by omega
          have j1 : (k : Int) < (l.length : Int) := by omega
          have j2 : (0 : Int) ≤ (k : Int) - 1 := by omega
          have j3 : (k : Int) - 1 < (l.length : Int) := by omega
          have HX := mkHid hx
          have HY := mkHid hy
          clear hx hy
          by_cases h1 : x ≥ y
          · have e := mkHid (es.out.trans (Up.no HX.out HY.out hk h1))
            go_wp2
            go_quiet (fail)
            go_wp2
            go_ret
            exact ⟨ret_bool e.out.symm, HB.out.trans ⟨rfl, rfl, rfl, Nat.le_refl _, fun _ _ => rfl⟩⟩
          · have e := mkHid (Up.next HU.out HX.out HY.out hk (by omega))
            go_wp2
            go_quiet (fail)
            go_wp2
            go_roundw
            case rel => exact ⟨k + 1, by omega, by go_num, .inl (by omega), e.out, HB.out.trans ⟨rfl, rfl, rfl, Nat.le_refl _, fun _ _ => rfl⟩⟩
            case measure => simp [intOf]; omega
        · have e : Hid (stepsB l = true) := mkHid (es.out.trans ((upB_iff l).2 (fun i x y hi hx hy => HU.out i x y (by omega) hx hy)))
          go_wp2
          go_ret
          exact ⟨ret_bool e.out.symm, HB.out⟩
  · have e := mkHid (show stepsB l = false by simp [stepsB, h20])
    have hd : (20 < (l.length : Int)) := by omega
    go_enter Tryd.func27, Tryd.ntmps27
    go_wp2
    go_ret
    exact ⟨ret_bool e.out.symm, Below.refl _ _⟩
end Go.Proofs.YtgkmpadeleebdaaDoor.Q
