/-
  CONTRACT of l06Steps of the specification.
  CONTRACTS of l07Vals and of both FactsHas.
  CONTRACTS of both SymVals.
  CONTRACTS of both SymMosts.
  CONTRACT of the specification's SymMost.
  CONTRACTS of the specification's l07None, l07Add, FactsAdd.
  CONTRACT of the specification's FactsAdd.
-/
import Derived.Test.YtgclngofigffdaaFh08
import Derived.Test.YtgclngofigffdaaFh03
import Derived.Test.YtgclngofigffdaaFh02
import Derived.Test.YtgclngofigffdaaFh07
namespace Go.Proofs.Ytgclngofigffdaa
open Go.RowKit

theorem sVal_q (n : Int) (w : World) : Calls Try.prog 76 #[.int .i64 n] w fun e w' => e = .returned (.bool (valB n)) ∧ w' = w := (sVal_any n w).mono fun _ _ h => ⟨h.1, h.2.symm⟩
set_option maxHeartbeats 3200000 in
theorem sSteps_of (l : List Int) (b off c : Nat) (w : World) (hn : l.length ≤ maxLen) (hl : IntsIn w l b off) : Calls Try.prog 55 #[.slice (some ⟨b, off, none⟩) l.length c] w fun e w' => e = .returned (.bool (stepsB l)) ∧ Below w.heap.size w w' := by
  have HL := mkHid hl
  clear hl
  unfold maxLen at hn
  by_cases h20 : l.length ≤ 20
  · have es := mkHid (show stepsB l = (valsB l && upB l) by simp [stepsB, h20])
    go_enter Try.func55, Try.ntmps55
    go_wp2
    go_loopw [3] (fun i w' => ∃ (k : Nat), k ≤ l.length ∧ i = .int .i64 k ∧ (l.take k).all valB = true ∧ Up l k ∧ Below w.heap.size w w') (fun i _ => l.length - (intOf i).toNat)
    case atStart => exact ⟨0, Nat.zero_le _, rfl, by simp, fun i x y h => by omega, Below.refl _ _⟩
    case round =>
      obtain ⟨k, hk, rfl, hall, hup, hB⟩ := hrel
      have HU := mkHid hup
      have HB := mkHid hB
      have HA := mkHid hall
      clear hup hB hall
      have hund : undef = Value.tuple #[] := rfl
      by_cases hlt : k < l.length
      · obtain ⟨y, hy⟩ : ∃ x, l[k]? = some x := ⟨_, List.getElem?_eq_getElem hlt⟩
        have c0 := (HL.out.below HB.out) k y hy
        have j0 : (0 : Int) ≤ (k : Int) := by omega
        have j1 : (k : Int) < (l.length : Int) := by omega
        have HY := mkHid hy
        clear hy
        cases h1 : valB y
        · have e := mkHid (es.out.trans (show (valsB l && upB l) = false by rw [vals_no HY.out h1]; rfl))
          go_wp2
          go_quiet ((go_at_call 76; exact Calls.quiet_of_same (sVal_q _ _)))
          go_wp2
          go_ret
          exact ⟨ret_bool e.out.symm, HB.out.trans ⟨rfl, rfl, rfl, Nat.le_refl _, fun _ _ => rfl⟩⟩
        · by_cases h0 : k = 0
          · have e := mkHid (show Up l (k + 1) from fun i x y h => by omega)
            have e2 := mkHid (vals_take HY.out HA.out h1)
            have hd : decide (0 < k) = false := by simp; omega
            have H0 := mkHid h0
            clear h0
            go_wp2
            go_quiet ((go_at_call 76; exact Calls.quiet_of_same (sVal_q _ _)))
            clear hund
            go_wp2
            go_roundw
            case rel => exact ⟨k + 1, by omega, by go_num, e2.out, e.out, HB.out.trans ⟨rfl, rfl, rfl, Nat.le_refl _, fun _ _ => rfl⟩⟩
            case measure => simp [intOf]; omega
          · obtain ⟨x, hx⟩ : ∃ x, l[k - 1]? = some x := ⟨_, List.getElem?_eq_getElem (by omega)⟩
            have c1 := (HL.out.below HB.out) (k - 1) x hx
            have j2 : (0 : Int) ≤ (k : Int) - 1 := by omega
            have j3 : (k : Int) - 1 < (l.length : Int) := by omega
            have j4 : decide (0 < k) = true := by simp; omega
            have H0 : 1 ≤ k := by omega
            clear h0
            have HX := mkHid hx
            clear hx
            by_cases h2 : x ≥ y
            · have e := mkHid (es.out.trans (show (valsB l && upB l) = false by rw [Up.no HX.out HY.out (by omega) h2]; simp))
              go_wp2
              go_quiet ((go_at_call 76; exact Calls.quiet_of_same (sVal_q _ _)))
              go_wp2
              go_ret
              exact ⟨ret_bool e.out.symm, HB.out.trans ⟨rfl, rfl, rfl, Nat.le_refl _, fun _ _ => rfl⟩⟩
            · have e := mkHid (Up.next HU.out HX.out HY.out (by omega) (by omega))
              have e2 := mkHid (vals_take HY.out HA.out h1)
              clear hund
              go_wp2
              go_quiet ((go_at_call 76; exact Calls.quiet_of_same (sVal_q _ _)))
              go_wp2
              go_roundw
              case rel => exact ⟨k + 1, by omega, by go_num, e2.out, e.out, HB.out.trans ⟨rfl, rfl, rfl, Nat.le_refl _, fun _ _ => rfl⟩⟩
              case measure => simp [intOf]; omega
      · have e : Hid (stepsB l = true) := mkHid (by
          rw [es.out, show valsB l = true by have := HA.out; rw [List.take_of_length_le (by omega)] at this; exact this, (upB_iff l).2 (fun i x y hi hx hy => HU.out i x y (by omega) hx hy)]; rfl)
        go_wp2
        go_ret
        exact ⟨ret_bool e.out.symm, HB.out⟩
  · have e := mkHid (show stepsB l = false by simp [stepsB, h20])
    have hd : (20 < (l.length : Int)) := by omega
    go_enter Try.func55, Try.ntmps55
    go_wp2
    go_ret
    exact ⟨ret_bool e.out.symm, Below.refl _ _⟩
end Go.Proofs.Ytgclngofigffdaa
namespace Go.Proofs.Ytgclngofigffdaa
open Go.RowKit

def vOkB (n : Nat) (v : List Int) : Bool := decide (v.length = n ∧ v.getD 0 0 = 0) && valsB v
def leB (n : Nat) (l v : List Int) (p : Nat) : Bool := decide (v.getD (p / n) 0 - v.getD (p % n) 0 ≤ l.getD p 0)
def hasF (z : Int) (l v : List Int) : Bool := okF z l && (vOkB z.toNat v && (List.range l.length).all (leB z.toNat l v))
theorem vals_get {v : List Int} (h : valsB v = true) {i : Nat} (hi : i < v.length) : -1000000 ≤ v.getD i 0 ∧ v.getD i 0 ≤ 1000000 := by
  unfold valsB at h
  rw [List.all_eq_true] at h
  have := h (v.getD i 0) (by rw [List.getD_eq_getElem?_getD, List.getElem?_eq_getElem hi]; exact List.getElem_mem _)
  exact of_decide_eq_true this
theorem vals_bad {v : List Int} {i : Nat} (hi : i < v.length) (h : valB (v.getD i 0) = false) : valsB v = false := vals_no (get_of hi) h
theorem vals_take' {v : List Int} {k : Nat} (hk : k < v.length) (ht : (v.take k).all valB = true) (hx : valB (v.getD k 0) = true) : (v.take (k + 1)).all valB = true := vals_take (get_of hk) ht hx
set_option maxRecDepth 100000 in
set_option maxHeartbeats 1600000 in
theorem sVals_any (n : Nat) (h1 : 1 ≤ n) (h2 : n ≤ 13) (v : List Int) (a : Option Addr) (c : Nat) (w : World) (hv : IntsAt w a v) : Calls Try.prog 59 #[.int .i64 n, .slice a v.length c] w fun e w' => e = .returned (.bool (vOkB n v)) ∧ w = w' := by
  have HV := mkHid hv
  clear hv
  by_cases hl : v.length = n
  · have hne : (((v.length : Nat) : Int) != (n : Int)) = false := by simp [hl]
    have hn1 : ¬ ((n : Int) < 1) := by omega
    obtain ⟨b, o, rfl, c0⟩ := HV.out.get' (k := 0) (by omega)
    obtain ⟨x, hx⟩ : ∃ x, v.getD 0 0 = x := ⟨_, rfl⟩
    rw [hx, Nat.add_zero] at c0
    have hvl : (0 : Int) < (v.length : Int) := by omega
    by_cases hx0 : x = 0
    · have hxb : (x != 0) = false := by simp [hx0]
      have e0 : Hid (vOkB n v = valsB v) := mkHid (by unfold vOkB; rw [decide_eq_true (show v.length = n ∧ v.getD 0 0 = 0 from ⟨hl, by rw [hx]; exact hx0⟩)]; rfl)
      have HLn := mkHid hl
      obtain ⟨m, hm⟩ : ∃ m, v.length = m := ⟨_, rfl⟩
      have HM := mkHid hm
      rw [hm] at hne hvl
      rw [hm]
      clear hl hx hx0 hm
      go_enter Try.func59, Try.ntmps59
      go_wp2
      go_loopg [5] n (fun g s wr => ∃ k : Nat, k + g = n ∧ s = .int .i64 k ∧ (v.take k).all valB = true ∧ wr = w)
      case atStart => exact ⟨0, by omega, rfl, by simp, rfl⟩
      case round =>
        obtain ⟨k, hkg, rfl, hall, rfl⟩ := hrel
        have HA := mkHid hall
        clear hall
        cases gk with
        | zero =>
          have hlt : ¬ ((k : Int) < (n : Int)) := by omega
          have e : Hid (vOkB n v = true) := mkHid (by rw [e0.out]; have := HA.out; rw [List.take_of_length_le (by have := HLn.out; omega)] at this; exact this)
          go_wp2
          go_ret
          exact ⟨ret_bool e.out.symm, rfl⟩
        | succ g =>
          have hlt : (k : Int) < (n : Int) := by omega
          obtain ⟨b', o', e, ck⟩ := HV.out.get' (k := k) (by have := HLn.out; omega)
          cases e
          obtain ⟨y, hy⟩ : ∃ y, v.getD k 0 = y := ⟨_, rfl⟩
          rw [hy] at ck
          have k1 : (k : Int) < (m : Int) := by have := HLn.out; have := HM.out; omega
          have HY := mkHid hy
          clear hy
          cases hvy : valB y
          · have e : Hid (vOkB n v = false) := mkHid (by rw [e0.out]; exact vals_bad (i := k) (by have := HLn.out; omega) (by rw [HY.out]; exact hvy))
            go_wp2_with (go_at_call 76; refine (sVal_any _ _).mono ?_; rintro e w' ⟨rfl, rfl⟩)
            go_ret
            exact ⟨ret_bool e.out.symm, rfl⟩
          · have e := mkHid (vals_take' (v := v) (k := k) (by have := HLn.out; omega) HA.out (by rw [HY.out]; exact hvy))
            go_wp2_with (go_at_call 76; refine (sVal_any _ _).mono ?_; rintro e w' ⟨rfl, rfl⟩)
            go_roundg g
            case measure => omega
            case rel => exact ⟨k + 1, by omega, by go_num, e.out, rfl⟩
    · have hxb : (x != 0) = true := by simp [hx0]
      have e0 : Hid (vOkB n v = false) := mkHid (by unfold vOkB; rw [decide_eq_false (fun h => hx0 (by rw [← hx]; exact h.2))]; rfl)
      clear hl hx hx0
      go_enter Try.func59, Try.ntmps59
      go_wp2
      go_ret
      exact ⟨ret_bool e0.out.symm, rfl⟩
  · have hne : (((v.length : Nat) : Int) != (n : Int)) = true := by simp; omega
    have e0 : Hid (vOkB n v = false) := mkHid (by unfold vOkB; rw [decide_eq_false (fun h => hl h.1)]; rfl)
    clear hl
    go_enter Try.func59, Try.ntmps59
    go_wp2
    go_ret
    exact ⟨ret_bool e0.out.symm, rfl⟩
/-- The first k numbers are not passed. -/
def Kept (n : Nat) (l v : List Int) (k : Nat) : Prop := ∀ p, p < k → leB n l v p = true
theorem has_all {n : Nat} {l v : List Int} (hok : okF n l = true) (hv : vOkB n v = true) (h : Kept n l v l.length) : hasF n l v = true := by
  unfold hasF
  rw [hok, show ((n : Int)).toNat = n from Int.toNat_natCast n, hv, Bool.true_and, Bool.true_and, List.all_eq_true]
  exact fun p hp => h p (List.mem_range.1 hp)
theorem has_not {n : Nat} {l v : List Int} {p : Nat} (hp : p < l.length) (h : leB n l v p = false) : hasF n l v = false := by
  unfold hasF
  rw [show ((n : Int)).toNat = n from Int.toNat_natCast n]
  have : (List.range l.length).all (leB n l v) = false := by
    rw [List.all_eq_false]
    exact ⟨p, List.mem_range.2 hp, by rw [h]; decide⟩
  rw [this]
  simp
theorem has_ok {z : Int} {l v : List Int} (h : okF z l = false) : hasF z l v = false := by unfold hasF; rw [h]; rfl
theorem has_v {n : Nat} {l v : List Int} (h : vOkB n v = false) : hasF n l v = false := by unfold hasF; rw [show ((n : Int)).toNat = n from Int.toNat_natCast n, h]; simp
theorem Kept.next {n : Nat} {l v : List Int} {k : Nat} (h : Kept n l v k) (hk : leB n l v k = true) : Kept n l v (k + 1) := fun p hp => by
  by_cases e : p = k
  · subst e; exact hk
  · exact h p (by omega)
set_option maxRecDepth 100000 in
set_option maxHeartbeats 1600000 in
theorem iHas_any (z : Int) (l : List Int) (a : Option Addr) (c : Nat) (v : List Int) (av : Option Addr) (cv : Nat) (w : World) (hl : IntsAt w a l) (hv : IntsAt w av v) (hvm : v.length ≤ maxLen) : Calls Try.prog 21 #[.agg #[.int .i64 z, .slice a l.length c], .slice av v.length cv] w fun e w' => e = .returned (.bool (hasF z l v)) ∧ Below w.heap.size w w' := by
  have HL := mkHid hl
  have HV := mkHid hv
  have HVM := mkHid hvm
  have B0 := mkHid ((Below.refl w.heap.size w).alloc (Nat.le_refl _) (.cells #[.int .i64 z, .slice a l.length c] 26))
  have T0 := mkHid (Fc.new w z a l.length c 26)
  unfold maxLen at hvm
  cases hok : okF z l
  · have e0 := mkHid (has_ok (v := v) hok)
    have HOK := mkHid hok
    clear hl hv hok
    go_enter Try.func21, Try.ntmps21
    go_wp2_with fail
    refine (iOk_any z l a c _ (HL.out.below B0.out)).mono ?_
    rintro e w1 ⟨rfl, hb1⟩
    rw [HOK.out]
    have B1 := mkHid (below_step B0.out hb1)
    clear hb1
    go_wp2
    go_ret
    exact ⟨ret_bool e0.out.symm, B1.out⟩
  · obtain ⟨n, hn, h1, h2, hll, -, hfine⟩ := ok_of hok
    subst hn
    have HOK := mkHid hok
    have hsq := sq_le h2
    have HBD : Hid (∀ p, p < l.length → -2000000 ≤ l.getD p 0 ∧ l.getD p 0 ≤ 2000000) := mkHid fun p hp => by
      have hp' : p < n * n := by omega
      have q3 : p / n * n + p % n = p := by rw [Nat.mul_comm]; exact Nat.div_add_mod p n
      have := hfine (p / n) (p % n) (Nat.div_lt_of_lt_mul hp') (Nat.mod_lt _ (by omega))
      unfold tab at this
      rw [q3] at this
      have q := cap_le (p / n) (p % n)
      omega
    have HLL := mkHid hll
    have hlm : l.length ≤ 169 := by omega
    have hl1 : 1 ≤ l.length := by have := sq_pos h1; omega
    obtain ⟨q, hq⟩ : ∃ q, l.length = q := ⟨_, rfl⟩
    have HQ := mkHid hq
    have hA : ∀ u, IntsAt u a l → Calls Try.prog 44 #[.agg #[.int .i64 n, .slice a q c]] u fun e w' => e = .returned (.bool true) ∧ Below u.heap.size u w' := fun u hu => by
      have := iOk_any n l a c u hu
      rw [hok, hq] at this
      exact this
    have HA := mkHid hA
    rw [hq] at B0 T0 hlm hl1
    rw [hq]
    clear hl hv hok hfine hll hsq hq hA
    by_cases hvl : v.length = n
    · have hne : (((v.length : Nat) : Int) != (n : Int)) = false := by simp [hvl]
      obtain ⟨b', o', rfl, cv0⟩ := HV.out.get' (k := 0) (by omega)
      have HVI : Hid (IntsIn w v b' o') := mkHid (by
        rcases HV.out with h | ⟨b'', o'', e, h⟩
        · subst h; simp at hvl; omega
        · cases e; exact h)
      obtain ⟨x0, hx0⟩ : ∃ x, v.getD 0 0 = x := ⟨_, rfl⟩
      rw [hx0, Nat.add_zero] at cv0
      have CV0 := mkHid cv0
      have HX0 := mkHid hx0
      have HVL := mkHid hvl
      have HARE : Hid (∀ u, Below w.heap.size w u → Calls Try.prog 60 #[.slice (some ⟨b', o', none⟩) v.length cv] u fun e w' => e = .returned (.bool (valsB v)) ∧ u = w') := mkHid fun u hu => areVals_of v b' o' cv u HVM.out (HVI.out.below hu)
      obtain ⟨m, hm⟩ : ∃ m, v.length = m := ⟨_, rfl⟩
      have HM := mkHid hm
      rw [hm] at hne hvm HARE
      rw [hm]
      have hm0 : (0 : Int) < (m : Int) := by omega
      clear hvl hx0 cv0 hm
      go_enter Try.func21, Try.ntmps21
      go_wp2_with fail
      refine (HA.out _ (HL.out.below B0.out)).mono ?_
      rintro e w1 ⟨rfl, hb1⟩
      have B1 := mkHid (below_step B0.out hb1)
      have T1 := mkHid (T0.out.below hb1)
      obtain ⟨t0, t1⟩ := T1.out
      have cv1 := (B1.out.cell (p := ⟨b', o', none⟩) (World.block_lt_of_cell? w _ CV0.out)).trans CV0.out
      clear hb1 B0 T0
      by_cases hxz : x0 = 0
      · have hxb : (x0 != 0) = false := by simp [hxz]
        cases hvb : valsB v
        · have e0 : Hid (hasF n l v = false) := mkHid (has_v (by unfold vOkB; rw [hvb]; simp))
          go_wp2_with (go_at_call 60; refine (HARE.out _ B1.out).mono ?_; rintro e w' ⟨rfl, rfl⟩; rw [hvb])
          go_ret
          exact ⟨ret_bool e0.out.symm, B1.out⟩
        · have HVO : Hid (vOkB n v = true) := mkHid (by unfold vOkB; rw [hvb, decide_eq_true (show v.length = n ∧ v.getD 0 0 = 0 from ⟨HVL.out, by rw [HX0.out]; exact hxz⟩)]; rfl)
          have HVB := mkHid hvb
          clear hxz
          go_wp2_with (go_at_call 60; refine (HARE.out _ B1.out).mono ?_; rintro e w' ⟨rfl, rfl⟩; rw [HVB.out])
          clear hvb
          go_loopg [31] q (fun g s wr => ∃ k : Nat, k + g = q ∧ s = .int .i64 k ∧ Kept n l v k ∧ Fc wr w.heap.size n a q c ∧ Below w.heap.size w wr)
          case atStart => exact ⟨0, by omega, rfl, fun p hp => by omega, T1.out, B1.out⟩
          case round =>
            obtain ⟨k, hkg, rfl, hK, hT, hB⟩ := hrel
            have HK := mkHid hK
            have HT := mkHid hT
            have HB := mkHid hB
            obtain ⟨p0, p1⟩ := hT
            clear hK hB T1 B1 t0 t1 cv1
            cases gk with
            | zero =>
              have hlt : ¬ ((k : Int) < (q : Int)) := by omega
              have e : k = q := by omega
              subst e
              have e0 : Hid (hasF n l v = true) := mkHid (has_all HOK.out HVO.out (by rw [HQ.out]; exact HK.out))
              go_wp2
              go_ret
              exact ⟨ret_bool e0.out.symm, HB.out⟩
            | succ g =>
              have hlt : (k : Int) < (q : Int) := by omega
              obtain ⟨b, o, rfl, c0⟩ := IntsAt.get' (HL.out.below HB.out) (k := k) (by have := HQ.out; omega)
              obtain ⟨x, hx⟩ : ∃ x, l.getD k 0 = x := ⟨_, rfl⟩
              rw [hx] at c0
              have hqu := quo_nat k n (by omega)
              have hre := rem_nat k n
              have hil : k / n < n := Nat.div_lt_of_lt_mul (by have := HQ.out; have := HLL.out; omega)
              have hjl : k % n < n := Nat.mod_lt _ (by omega)
              have HLE : Hid (leB n l v k = decide (v.getD (k / n) 0 - v.getD (k % n) 0 ≤ x)) := mkHid (by unfold leB; rw [hx])
              obtain ⟨i, hi⟩ : ∃ i, k / n = i := ⟨_, rfl⟩
              obtain ⟨j, hj⟩ : ∃ j, k % n = j := ⟨_, rfl⟩
              rw [hi] at hqu hil HLE
              rw [hj] at hre hjl HLE
              obtain ⟨_, _, e1, ci⟩ := IntsAt.get' (HV.out.below HB.out) (k := i) (by have := HVL.out; omega)
              cases e1
              obtain ⟨_, _, e1, cj⟩ := IntsAt.get' (HV.out.below HB.out) (k := j) (by have := HVL.out; omega)
              cases e1
              have bi := vals_get HVB.out (i := i) (by have := HVL.out; omega)
              have bj := vals_get HVB.out (i := j) (by have := HVL.out; omega)
              obtain ⟨y1, hy1⟩ : ∃ y, v.getD i 0 = y := ⟨_, rfl⟩
              obtain ⟨y2, hy2⟩ : ∃ y, v.getD j 0 = y := ⟨_, rfl⟩
              rw [hy1] at ci bi HLE
              rw [hy2] at cj bj HLE
              have hws : IntKind.i64.wrap (y1 - y2) = y1 - y2 := IntWalk.i64_in _ (by omega)
              have hn0 : ¬ ((n : Int) = 0) := by omega
              have i0 : (0 : Int) ≤ (i : Int) := by omega
              have i1 : (i : Int) < (m : Int) := by have := HVL.out; have := HM.out; omega
              have j0 : (0 : Int) ≤ (j : Int) := by omega
              have j1 : (j : Int) < (m : Int) := by have := HVL.out; have := HM.out; omega
              clear hx hi hj hy1 hy2
              by_cases hgt : x < y1 - y2
              · have e0 : Hid (hasF n l v = false) := mkHid (has_not (p := k) (by have := HQ.out; omega) (by rw [HLE.out]; exact decide_eq_false (by omega)))
                go_wp2_with fail
                go_quiet (fail)
                go_wp2
                go_ret
                exact ⟨ret_bool e0.out.symm, HB.out.trans ⟨rfl, rfl, rfl, Nat.le_refl _, fun _ _ => rfl⟩⟩
              · have e0 := mkHid (HK.out.next (by rw [HLE.out]; exact decide_eq_true (by omega)))
                go_wp2_with fail
                go_quiet (fail)
                go_wp2
                go_roundg g
                case measure => omega
                case rel => exact ⟨k + 1, by omega, by go_num, e0.out, HT.out.below ⟨rfl, rfl, rfl, Nat.le_refl _, fun _ _ => rfl⟩, HB.out.trans ⟨rfl, rfl, rfl, Nat.le_refl _, fun _ _ => rfl⟩⟩
      · have hxb : (x0 != 0) = true := by simp [hxz]
        have e0 : Hid (hasF n l v = false) := mkHid (has_v (by unfold vOkB; rw [decide_eq_false (fun h => hxz (by rw [← HX0.out]; exact h.2))]; rfl))
        go_wp2
        go_ret
        exact ⟨ret_bool e0.out.symm, B1.out⟩
    · have hne : (((v.length : Nat) : Int) != (n : Int)) = true := by simp; omega
      have e0 : Hid (hasF n l v = false) := mkHid (has_v (by unfold vOkB; rw [decide_eq_false (fun h => hvl h.1)]; rfl))
      clear hvl
      go_enter Try.func21, Try.ntmps21
      go_wp2_with fail
      refine (HA.out _ (HL.out.below B0.out)).mono ?_
      rintro e w1 ⟨rfl, hb1⟩
      have B1 := mkHid (below_step B0.out hb1)
      obtain ⟨t0, t1⟩ := T0.out.below hb1
      clear hb1
      go_wp2
      go_ret
      exact ⟨ret_bool e0.out.symm, B1.out⟩
end Go.Proofs.Ytgclngofigffdaa
namespace Go.Proofs.Ytgclngofigffdaa
open Go.RowKit

end Go.Proofs.Ytgclngofigffdaa
namespace Go.Proofs.Ytgclngofigffdaa
open Go.RowKit

end Go.Proofs.Ytgclngofigffdaa
namespace Go.Proofs.Ytgclngofigffdaa
open Go.RowKit

end Go.Proofs.Ytgclngofigffdaa
namespace Go.Proofs.Ytgclngofigffdaa
open Go.RowKit

def noN (z : Int) (n : Nat) : Bool := decide (z = 0 ∧ n = 0)
set_option maxHeartbeats 400000 in
theorem sNoF_any (z : Int) (a : Option Addr) (n c : Nat) (w : World) : Calls Try.prog 51 #[.agg #[.int .i64 z, .slice a n c]] w fun e w' => e = .returned (.bool (noN z n)) ∧ Below w.heap.size w w' := by
  by_cases h1 : z = 0
  · have hb1 : (z == 0) = true := by rw [beq_iff_eq]; exact h1
    by_cases h2 : n = 0
    · have hb2 : ((n : Int) == 0) = true := by rw [beq_iff_eq]; omega
      have e := mkHid (show noN z n = true from decide_eq_true ⟨h1, h2⟩)
      clear h1 h2
      go_enter Try.func51, Try.ntmps51
      go_wp2
      go_ret
      exact ⟨ret_bool e.out.symm, (Below.refl _ _).alloc (Nat.le_refl _) _⟩
    · have hb2 : ((n : Int) == 0) = false := by rw [beq_eq_false_iff_ne]; omega
      have e := mkHid (show noN z n = false from decide_eq_false fun h => h2 h.2)
      clear h1 h2
      go_enter Try.func51, Try.ntmps51
      go_wp2
      go_ret
      exact ⟨ret_bool e.out.symm, (Below.refl _ _).alloc (Nat.le_refl _) _⟩
  · have hb1 : (z == 0) = false := by rw [beq_eq_false_iff_ne]; exact h1
    have e := mkHid (show noN z n = false from decide_eq_false fun h => h1 h.1)
    clear h1
    go_enter Try.func51, Try.ntmps51
    go_wp2
    go_ret
    exact ⟨ret_bool e.out.symm, (Below.refl _ _).alloc (Nat.le_refl _) _⟩
end Go.Proofs.Ytgclngofigffdaa
namespace Go.Proofs.Ytgclngofigffdaa
open Go.RowKit

end Go.Proofs.Ytgclngofigffdaa
