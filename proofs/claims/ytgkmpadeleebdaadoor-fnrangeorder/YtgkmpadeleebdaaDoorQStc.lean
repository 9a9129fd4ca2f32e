/-
  CONTRACT of l06Steps of the specification.
-/
import Derived.Test.YtgkmpadeleebdaaDoorQStb
namespace Go.Proofs.YtgkmpadeleebdaaDoor.Q
open Go.RowKit

set_option maxRecDepth 100000 in
theorem sVal_q (n : Int) (w : World) : Calls Tryd.prog 37 #[.int .i64 n] w fun e w' => e = .returned (.bool (valB n)) ∧ w' = w := (sVal_any n w).mono fun _ _ h => ⟨h.1, h.2.symm⟩
set_option maxRecDepth 100000 in
set_option maxHeartbeats 3200000 in
theorem sSteps_of (l : List Int) (b off c : Nat) (w : World) (hn : l.length ≤ maxLen) (hl : IntsIn w l b off) : Calls Tryd.prog 36 #[.slice (some ⟨b, off, none⟩) l.length c] w fun e w' => e = .returned (.bool (stepsB l)) ∧ Below w.heap.size w w' := by
  have HL := mkHid hl
  clear hl
  unfold maxLen at hn
  by_cases h20 : l.length ≤ 20
  · have es := mkHid (show stepsB l = (valsB l && upB l) by simp [stepsB, h20])
    go_enter Tryd.func36, Tryd.ntmps36
    go_wp2
    go_loopw [3] (fun i w' => ∃ (k : Nat), k ≤ l.length ∧ i = .int .i64 k ∧ (l.take k).all valB = true ∧ Up l k ∧ Below w.heap.size w w') (fun i _ => l.length - (intOf i).toNat)
    case atStart => exact ⟨0, Nat.zero_le _, rfl, by simp, fun i x y h => by omega, Below.refl _ _⟩
    case round =>
      obtain ⟨k, hk, rfl, hall, hup, hB⟩ := hrel
      have HU := mkHid hup
      have HB := mkHid hB
      have HA := mkHid hall
      clear hup hB hall
      have hund : undef = Value.tuple #[] := rfl
      by_cases hlt : k < l.length
      · obtain ⟨y, hy⟩ : ∃ x, l[k]? = some x := ⟨_, List.getElem?_eq_getElem hlt⟩
        have c0 := (HL.out.below HB.out) k y hy
        have j0 : (0 : Int) ≤ (k : Int) := by omega
        have j1 : (k : Int) < (l.length : Int) := by omega
        have HY := mkHid hy
        clear hy
        cases h1 : valB y
        · have e := mkHid (es.out.trans (show (valsB l && upB l) = false by rw [vals_no HY.out h1]; rfl))
          go_wp2
          go_quiet ((go_at_call 37; exact Calls.quiet_of_same (sVal_q _ _)))
          go_wp2
          go_ret
          exact ⟨ret_bool e.out.symm, HB.out.trans ⟨rfl, rfl, rfl, Nat.le_refl _, fun _ _ => rfl⟩⟩
        · by_cases h0 : k = 0
          · have e := mkHid (show Up l (k + 1) from fun i x y h => by omega)
            have e2 := mkHid (vals_take HY.out HA.out h1)
            have hd : decide (0 < k) = false := by simp; omega
            have H0 := mkHid h0
            clear h0
            go_wp2
            go_quiet ((go_at_call 37; exact Calls.quiet_of_same (sVal_q _ _)))
            clear hund
            go_wp2
            go_roundw
            case rel => exact ⟨k + 1, by omega, by go_num, e2.out, e.out, HB.out.trans ⟨rfl, rfl, rfl, Nat.le_refl _, fun _ _ => rfl⟩⟩
            case measure => simp [intOf]; omega
          · obtain ⟨x, hx⟩ : ∃ x, l[k - 1]? = some x := ⟨_, List.getElem?_eq_getElem (by omega)⟩
            have c1 := (HL.out.below HB.out) (k - 1) x hx
            have j2 : (0 : Int) ≤ (k : Int) - 1 := by omega
            have j3 : (k : Int) - 1 < (l.length : Int) := by omega
            have j4 : decide (0 < k) = true := by simp; omega
            have H0 : 1 ≤ k := by omega
            clear h0
            have HX := mkHid hx
            clear hx
            by_cases h2 : x ≥ y
            · have e := mkHid (es.out.trans (show (valsB l && upB l) = false by rw [Up.no HX.out HY.out (by omega) h2]; simp))
              go_wp2
              go_quiet ((go_at_call 37; exact Calls.quiet_of_same (sVal_q _ _)))
              go_wp2
              go_ret
              exact ⟨ret_bool e.out.symm, HB.out.trans ⟨rfl, rfl, rfl, Nat.le_refl _, fun _ _ => rfl⟩⟩
            · have e := mkHid (Up.next HU.out HX.out HY.out (by omega) (by omega))
              have e2 := mkHid (vals_take HY.out HA.out h1)
              clear hund
              go_wp2
              go_quiet ((go_at_call 37; exact Calls.quiet_of_same (sVal_q _ _)))
              go_wp2
              go_roundw
              case rel => exact ⟨k + 1, by omega, by go_num, e2.out, e.out, HB.out.trans ⟨rfl, rfl, rfl, Nat.le_refl _, fun _ _ => rfl⟩⟩
              case measure => simp [intOf]; omega
      · have e : Hid (stepsB l = true) := mkHid (by
          rw [es.out, show valsB l = true by have := HA.out; rw [List.take_of_length_le (by omega)] at this; exact this, (upB_iff l).2 (fun i x y hi hx hy => HU.out i x y (by omega) hx hy)]; rfl)
        go_wp2
        go_ret
        exact ⟨ret_bool e.out.symm, HB.out⟩
  · have e := mkHid (show stepsB l = false by simp [stepsB, h20])
    have hd : (20 < (l.length : Int)) := by omega
    go_enter Tryd.func36, Tryd.ntmps36
    go_wp2
    go_ret
    exact ⟨ret_bool e.out.symm, Below.refl _ _⟩
end Go.Proofs.YtgkmpadeleebdaaDoor.Q
