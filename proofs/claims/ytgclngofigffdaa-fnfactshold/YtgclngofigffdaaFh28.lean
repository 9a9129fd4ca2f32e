/-
  CONTRACT of the specification's FactsHas.
  WHAT CAME IN, opened: rows of ints.
-/
import Derived.Test.YtgclngofigffdaaFh09
import Derived.Test.YtgclngofigffdaaFh00
import Derived.ProofKit
import Derived.ChangeSlices
import Derived.OpenShut
import Derived.ChangeOld
import Derived.Lib.SmallJoins
namespace Go.Proofs.Ytgclngofigffdaa
open Go.RowKit

set_option maxRecDepth 100000 in
set_option maxHeartbeats 1600000 in
theorem sHas_any (z : Int) (l : List Int) (a : Option Addr) (c : Nat) (v : List Int) (av : Option Addr) (cv : Nat) (w : World) (hl : IntsAt w a l) (hv : IntsAt w av v) : Calls Try.prog 20 #[.agg #[.int .i64 z, .slice a l.length c], .slice av v.length cv] w fun e w' => e = .returned (.bool (hasF z l v)) ∧ Below w.heap.size w w' := by
  have HL := mkHid hl
  have HV := mkHid hv
  have B0 := mkHid ((Below.refl w.heap.size w).alloc (Nat.le_refl _) (.cells #[.int .i64 z, .slice a l.length c] 26))
  have T0 := mkHid (Fc.new w z a l.length c 26)
  cases hok : okF z l
  · have e0 := mkHid (has_ok (v := v) hok)
    have HOK := mkHid hok
    clear hl hv hok
    go_enter Try.func20, Try.ntmps20
    go_wp2_with fail
    refine (sOkF_any z l a c _ (HL.out.below B0.out)).mono ?_
    rintro e w1 ⟨rfl, hb1⟩
    rw [HOK.out]
    have B1 := mkHid (below_step B0.out hb1)
    clear hb1
    go_wp2
    go_ret
    exact ⟨ret_bool e0.out.symm, B1.out⟩
  · obtain ⟨n, hn, h1, h2, hll, -, -⟩ := ok_of hok
    subst hn
    have HOK := mkHid hok
    have hsq := sq_le h2
    have HLL := mkHid hll
    have hlm : l.length ≤ 169 := by omega
    have HSQ : Hid (∀ i, i < n → i * n + n ≤ l.length) := mkHid fun i hi => by rw [hll, show i * n + n = (i + 1) * n by rw [Nat.add_mul]; omega]; exact Nat.mul_le_mul_right n hi
    obtain ⟨q, hq⟩ : ∃ q, l.length = q := ⟨_, rfl⟩
    have HQ := mkHid hq
    have hA : ∀ u, IntsAt u a l → Calls Try.prog 18 #[.agg #[.int .i64 n, .slice a q c]] u fun e w' => e = .returned (.bool true) ∧ Below u.heap.size u w' := fun u hu => by
      have := sOkF_any n l a c u hu
      rw [hok, hq] at this
      exact this
    have HA := mkHid hA
    have HSV : Hid (∀ u, Below w.heap.size w u → Calls Try.prog 59 #[.int .i64 n, .slice av v.length cv] u fun e w' => e = .returned (.bool (vOkB n v)) ∧ u = w') := mkHid fun u hu => sVals_any n h1 h2 v av cv u (HV.out.below hu)
    rw [hq] at B0 T0 hlm HSQ
    rw [hq]
    clear hl hv hok hll hsq hq hA
    obtain ⟨m, hm⟩ : ∃ m, v.length = m := ⟨_, rfl⟩
    have HM := mkHid hm
    rw [hm] at HSV
    rw [hm]
    clear hm
    cases hvo : vOkB n v
    · have e0 : Hid (hasF n l v = false) := mkHid (has_v hvo)
      go_enter Try.func20, Try.ntmps20
      go_wp2_with fail
      refine (HA.out _ (HL.out.below B0.out)).mono ?_
      rintro e w1 ⟨rfl, hb1⟩
      have B1 := mkHid (below_step B0.out hb1)
      obtain ⟨t0, t1⟩ := T0.out.below hb1
      clear hb1
      go_wp2_with (go_at_call 59; refine (HSV.out _ B1.out).mono ?_; rintro e w' ⟨rfl, rfl⟩; rw [hvo])
      go_ret
      exact ⟨ret_bool e0.out.symm, B1.out⟩
    · have HVO := mkHid hvo
      have hvo2 : decide (v.length = n ∧ v.getD 0 0 = 0) = true ∧ valsB v = true := by unfold vOkB at hvo; rw [Bool.and_eq_true] at hvo; exact hvo
      have HVL := mkHid (of_decide_eq_true hvo2.1).1
      have HVB := mkHid hvo2.2
      clear hvo hvo2
      go_enter Try.func20, Try.ntmps20
      go_wp2_with fail
      refine (HA.out _ (HL.out.below B0.out)).mono ?_
      rintro e w1 ⟨rfl, hb1⟩
      have B1 := mkHid (below_step B0.out hb1)
      have T1 := mkHid (T0.out.below hb1)
      obtain ⟨t0, t1⟩ := T1.out
      clear hb1 B0 T0
      go_wp2_with (go_at_call 59; refine (HSV.out _ B1.out).mono ?_; rintro e w' ⟨rfl, rfl⟩; rw [HVO.out])
      go_loopg [5] n (fun g s wr => ∃ i : Nat, i + g = n ∧ s = .int .i64 i ∧ Kept n l v (i * n) ∧ Fc wr w.heap.size n a q c ∧ Below w.heap.size w wr)
      case atStart => exact ⟨0, by omega, rfl, fun p hp => by omega, T1.out, B1.out⟩
      case round =>
        obtain ⟨i, hig, rfl, hK, hT, hB⟩ := hrel
        have HK := mkHid hK
        have HT := mkHid hT
        have HB := mkHid hB
        obtain ⟨p0, p1⟩ := hT
        clear hK hB T1 B1 t0 t1
        cases gk with
        | zero =>
          have hlt : ¬ ((i : Int) < (n : Int)) := by omega
          have e : i = n := by omega
          subst e
          have e0 : Hid (hasF i l v = true) := mkHid (has_all HOK.out HVO.out (by rw [HLL.out]; exact HK.out))
          go_wp2
          go_ret
          exact ⟨ret_bool e0.out.symm, HB.out⟩
        | succ g =>
          have hlt : (i : Int) < (n : Int) := by omega
          obtain ⟨im, him⟩ : ∃ im, i * n = im := ⟨_, rfl⟩
          have hiq : im + n ≤ q := by rw [← him]; exact HSQ.out i (by omega)
          have hwi : IntKind.i64.wrap ((i : Int) * (n : Int)) = (im : Int) := by rw [show (i : Int) * (n : Int) = ((i * n : Nat) : Int) by simp, him]; exact IntWalk.i64_in _ (by omega)
          have HIM := mkHid him
          have HKN : Hid (Kept n l v (im + n) → Kept n l v ((i + 1) * n)) := mkHid fun h => by rw [show (i + 1) * n = im + n by rw [Nat.add_mul, him]; omega]; exact h
          rw [him] at HK
          clear him
          go_wp2_with fail
          go_loopg [6] n (fun g s wy => ∃ j : Nat, j + g = n ∧ s = .int .i64 j ∧ Kept n l v (im + j) ∧ Fc wy w.heap.size n a q c ∧ Below w.heap.size w wy)
          case atStart => exact ⟨0, by omega, rfl, HK.out, HT.out, HB.out⟩
          case round =>
            clear HK HT HB p0 p1
            obtain ⟨j, hjg, rfl, hK, hT, hB⟩ := hrel
            have HK := mkHid hK
            have HT := mkHid hT
            have HB := mkHid hB
            obtain ⟨p0, p1⟩ := hT
            clear hK hB
            cases gk with
            | zero =>
              have hlt2 : ¬ ((j : Int) < (n : Int)) := by omega
              have e : j = n := by omega
              subst e
              go_wp2
              go_roundg g
              case measure => omega
              case rel => exact ⟨i + 1, by omega, by go_num, HKN.out HK.out, HT.out, HB.out⟩
            | succ g2 =>
              have hlt2 : (j : Int) < (n : Int) := by omega
              obtain ⟨p, hp⟩ : ∃ p, im + j = p := ⟨_, rfl⟩
              have hws0 : IntKind.i64.wrap ((im : Int) + (j : Int)) = (p : Int) := by rw [← hp]; exact IntWalk.i64_in _ (by omega)
              obtain ⟨b, o, rfl, c0⟩ := IntsAt.get' (HL.out.below HB.out) (k := p) (by have := HQ.out; omega)
              obtain ⟨x, hx⟩ : ∃ x, l.getD p 0 = x := ⟨_, rfl⟩
              rw [hx] at c0
              have HLE : Hid (leB n l v p = decide (v.getD i 0 - v.getD j 0 ≤ x)) := mkHid (by unfold leB; rw [hx, ← hp, ← HIM.out, idx_div (by omega), idx_mod (by omega)])
              obtain ⟨b', o', rfl, ci⟩ := IntsAt.get' (HV.out.below HB.out) (k := i) (by have := HVL.out; omega)
              obtain ⟨_, _, e1, cj⟩ := IntsAt.get' (HV.out.below HB.out) (k := j) (by have := HVL.out; omega)
              cases e1
              have bi := vals_get HVB.out (i := i) (by have := HVL.out; omega)
              have bj := vals_get HVB.out (i := j) (by have := HVL.out; omega)
              obtain ⟨y1, hy1⟩ : ∃ y, v.getD i 0 = y := ⟨_, rfl⟩
              obtain ⟨y2, hy2⟩ : ∃ y, v.getD j 0 = y := ⟨_, rfl⟩
              rw [hy1] at ci bi HLE
              rw [hy2] at cj bj HLE
              have hws : IntKind.i64.wrap (y1 - y2) = y1 - y2 := IntWalk.i64_in _ (by omega)
              have i0 : (0 : Int) ≤ (i : Int) := by omega
              have i1 : (i : Int) < (m : Int) := by have := HVL.out; have := HM.out; omega
              have j0 : (0 : Int) ≤ (j : Int) := by omega
              have j1 : (j : Int) < (m : Int) := by have := HVL.out; have := HM.out; omega
              have k0 : (0 : Int) ≤ (p : Int) := by omega
              have k1 : (p : Int) < (q : Int) := by omega
              have HPP := mkHid hp
              rw [hp] at HK
              clear hx hy1 hy2 hp
              by_cases hgt : x < y1 - y2
              · have e0 : Hid (hasF n l v = false) := mkHid (has_not (p := p) (by have := HQ.out; omega) (by rw [HLE.out]; exact decide_eq_false (by omega)))
                go_wp2_with fail
                go_quiet (fail)
                go_wp2
                go_ret
                exact ⟨ret_bool e0.out.symm, HB.out.trans ⟨rfl, rfl, rfl, Nat.le_refl _, fun _ _ => rfl⟩⟩
              · have e0 := mkHid (HK.out.next (by rw [HLE.out]; exact decide_eq_true (by omega)))
                go_wp2_with fail
                go_quiet (fail)
                go_wp2
                go_roundg g2
                case measure => omega
                case rel => exact ⟨j + 1, by omega, by go_num, by rw [show im + (j + 1) = p + 1 by have := HPP.out; omega]; exact e0.out, HT.out.below ⟨rfl, rfl, rfl, Nat.le_refl _, fun _ _ => rfl⟩, HB.out.trans ⟨rfl, rfl, rfl, Nat.le_refl _, fun _ _ => rfl⟩⟩
end Go.Proofs.Ytgclngofigffdaa
namespace Go.Proofs.Ytgclngofigffdaa
open Go.ChangeShapes Go.WideShapes Go.ChangeAt Go.RowKit Go.Joins

theorem Try.own : ownKnob Try.prog.godebug = none := by kernel_rfl
theorem Try.laidOut : laidOutB Try.prog = true := by kernel_rfl
end Go.Proofs.Ytgclngofigffdaa
