/-
  CONTRACTS of l07Vals and of both FactsHas.
  CONTRACTS of both SymVals.
  CONTRACTS of both SymMosts.
  CONTRACT of the specification's SymMost.
  CONTRACTS of the specification's l07None, l07Add, FactsAdd.
  CONTRACT of the specification's FactsAdd.
  CONTRACTS of goTogether, isNoFacts, l07Good, l07Pair: which two Facts go together.
  PURE: facts that are so of numbers are so when closed; what SymMost tells is never less than what is.
-/
import Derived.Test.YtgclngofigffdaaFm03
import Derived.Test.YtgclngofigffdaaFm09
import Derived.Test.YtgclngofigffdaaFm02
import Derived.Test.YtgclngofigffdaaFm07
import Derived.Test.YtgclngofigffdaaFm08
namespace Go.Proofs.Ytgclngofigffdaa
open Go.RowKit

def vOkB (n : Nat) (v : List Int) : Bool := decide (v.length = n ∧ v.getD 0 0 = 0) && valsB v
def leB (n : Nat) (l v : List Int) (p : Nat) : Bool := decide (v.getD (p / n) 0 - v.getD (p % n) 0 ≤ l.getD p 0)
def hasF (z : Int) (l v : List Int) : Bool := okF z l && (vOkB z.toNat v && (List.range l.length).all (leB z.toNat l v))
theorem vals_get {v : List Int} (h : valsB v = true) {i : Nat} (hi : i < v.length) : -1000000 ≤ v.getD i 0 ∧ v.getD i 0 ≤ 1000000 := by
  unfold valsB at h
  rw [List.all_eq_true] at h
  have := h (v.getD i 0) (by rw [List.getD_eq_getElem?_getD, List.getElem?_eq_getElem hi]; exact List.getElem_mem _)
  exact of_decide_eq_true this
theorem vals_bad {v : List Int} {i : Nat} (hi : i < v.length) (h : valB (v.getD i 0) = false) : valsB v = false := vals_no (get_of hi) h
theorem vals_take' {v : List Int} {k : Nat} (hk : k < v.length) (ht : (v.take k).all valB = true) (hx : valB (v.getD k 0) = true) : (v.take (k + 1)).all valB = true := vals_take (get_of hk) ht hx
set_option maxRecDepth 100000 in
set_option maxHeartbeats 1600000 in
theorem sVals_any (n : Nat) (h1 : 1 ≤ n) (h2 : n ≤ 13) (v : List Int) (a : Option Addr) (c : Nat) (w : World) (hv : IntsAt w a v) : Calls Try.prog 59 #[.int .i64 n, .slice a v.length c] w fun e w' => e = .returned (.bool (vOkB n v)) ∧ w = w' := by
  have HV := mkHid hv
  clear hv
  by_cases hl : v.length = n
  · have hne : (((v.length : Nat) : Int) != (n : Int)) = false := by simp [hl]
    have hn1 : ¬ ((n : Int) < 1) := by omega
    obtain ⟨b, o, rfl, c0⟩ := HV.out.get' (k := 0) (by omega)
    obtain ⟨x, hx⟩ : ∃ x, v.getD 0 0 = x := ⟨_, rfl⟩
    rw [hx, Nat.add_zero] at c0
    have hvl : (0 : Int) < (v.length : Int) := by omega
    by_cases hx0 : x = 0
    · have hxb : (x != 0) = false := by simp [hx0]
      have e0 : Hid (vOkB n v = valsB v) := mkHid (by unfold vOkB; rw [decide_eq_true (show v.length = n ∧ v.getD 0 0 = 0 from ⟨hl, by rw [hx]; exact hx0⟩)]; rfl)
      have HLn := mkHid hl
      obtain ⟨m, hm⟩ : ∃ m, v.length = m := ⟨_, rfl⟩
      have HM := mkHid hm
      rw [hm] at hne hvl
      rw [hm]
      clear hl hx hx0 hm
      go_enter Try.func59, Try.ntmps59
      go_wp2
      go_loopg [5] n (fun g s wr => ∃ k : Nat, k + g = n ∧ s = .int .i64 k ∧ (v.take k).all valB = true ∧ wr = w)
      case atStart => exact ⟨0, by omega, rfl, by simp, rfl⟩
      case round =>
        obtain ⟨k, hkg, rfl, hall, rfl⟩ := hrel
        have HA := mkHid hall
        clear hall
        cases gk with
        | zero =>
          have hlt : ¬ ((k : Int) < (n : Int)) := by omega
          have e : Hid (vOkB n v = true) := mkHid (by rw [e0.out]; have := HA.out; rw [List.take_of_length_le (by have := HLn.out; omega)] at this; exact this)
          go_wp2
          go_ret
          exact ⟨ret_bool e.out.symm, rfl⟩
        | succ g =>
          have hlt : (k : Int) < (n : Int) := by omega
          obtain ⟨b', o', e, ck⟩ := HV.out.get' (k := k) (by have := HLn.out; omega)
          cases e
          obtain ⟨y, hy⟩ : ∃ y, v.getD k 0 = y := ⟨_, rfl⟩
          rw [hy] at ck
          have k1 : (k : Int) < (m : Int) := by have := HLn.out; have := HM.out; omega
          have HY := mkHid hy
          clear hy
          cases hvy : valB y
          · have e : Hid (vOkB n v = false) := mkHid (by rw [e0.out]; exact vals_bad (i := k) (by have := HLn.out; omega) (by rw [HY.out]; exact hvy))
            go_wp2_with (go_at_call 76; refine (sVal_any _ _).mono ?_; rintro e w' ⟨rfl, rfl⟩)
            go_ret
            exact ⟨ret_bool e.out.symm, rfl⟩
          · have e := mkHid (vals_take' (v := v) (k := k) (by have := HLn.out; omega) HA.out (by rw [HY.out]; exact hvy))
            go_wp2_with (go_at_call 76; refine (sVal_any _ _).mono ?_; rintro e w' ⟨rfl, rfl⟩)
            go_roundg g
            case measure => omega
            case rel => exact ⟨k + 1, by omega, by go_num, e.out, rfl⟩
    · have hxb : (x != 0) = true := by simp [hx0]
      have e0 : Hid (vOkB n v = false) := mkHid (by unfold vOkB; rw [decide_eq_false (fun h => hx0 (by rw [← hx]; exact h.2))]; rfl)
      clear hl hx hx0
      go_enter Try.func59, Try.ntmps59
      go_wp2
      go_ret
      exact ⟨ret_bool e0.out.symm, rfl⟩
  · have hne : (((v.length : Nat) : Int) != (n : Int)) = true := by simp; omega
    have e0 : Hid (vOkB n v = false) := mkHid (by unfold vOkB; rw [decide_eq_false (fun h => hl h.1)]; rfl)
    clear hl
    go_enter Try.func59, Try.ntmps59
    go_wp2
    go_ret
    exact ⟨ret_bool e0.out.symm, rfl⟩
/-- The first k numbers are not passed. -/
def Kept (n : Nat) (l v : List Int) (k : Nat) : Prop := ∀ p, p < k → leB n l v p = true
theorem has_all {n : Nat} {l v : List Int} (hok : okF n l = true) (hv : vOkB n v = true) (h : Kept n l v l.length) : hasF n l v = true := by
  unfold hasF
  rw [hok, show ((n : Int)).toNat = n from Int.toNat_natCast n, hv, Bool.true_and, Bool.true_and, List.all_eq_true]
  exact fun p hp => h p (List.mem_range.1 hp)
theorem has_not {n : Nat} {l v : List Int} {p : Nat} (hp : p < l.length) (h : leB n l v p = false) : hasF n l v = false := by
  unfold hasF
  rw [show ((n : Int)).toNat = n from Int.toNat_natCast n]
  have : (List.range l.length).all (leB n l v) = false := by
    rw [List.all_eq_false]
    exact ⟨p, List.mem_range.2 hp, by rw [h]; decide⟩
  rw [this]
  simp
theorem has_ok {z : Int} {l v : List Int} (h : okF z l = false) : hasF z l v = false := by unfold hasF; rw [h]; rfl
theorem has_v {n : Nat} {l v : List Int} (h : vOkB n v = false) : hasF n l v = false := by unfold hasF; rw [show ((n : Int)).toNat = n from Int.toNat_natCast n, h]; simp
theorem Kept.next {n : Nat} {l v : List Int} {k : Nat} (h : Kept n l v k) (hk : leB n l v k = true) : Kept n l v (k + 1) := fun p hp => by
  by_cases e : p = k
  · subst e; exact hk
  · exact h p (by omega)
set_option maxRecDepth 100000 in
set_option maxHeartbeats 1600000 in
theorem iHas_any (z : Int) (l : List Int) (a : Option Addr) (c : Nat) (v : List Int) (av : Option Addr) (cv : Nat) (w : World) (hl : IntsAt w a l) (hv : IntsAt w av v) (hvm : v.length ≤ maxLen) : Calls Try.prog 21 #[.agg #[.int .i64 z, .slice a l.length c], .slice av v.length cv] w fun e w' => e = .returned (.bool (hasF z l v)) ∧ Below w.heap.size w w' := by
  have HL := mkHid hl
  have HV := mkHid hv
  have HVM := mkHid hvm
  have B0 := mkHid ((Below.refl w.heap.size w).alloc (Nat.le_refl _) (.cells #[.int .i64 z, .slice a l.length c] 26))
  have T0 := mkHid (Fc.new w z a l.length c 26)
  unfold maxLen at hvm
  cases hok : okF z l
  · have e0 := mkHid (has_ok (v := v) hok)
    have HOK := mkHid hok
    clear hl hv hok
    go_enter Try.func21, Try.ntmps21
    go_wp2_with fail
    refine (iOk_any z l a c _ (HL.out.below B0.out)).mono ?_
    rintro e w1 ⟨rfl, hb1⟩
    rw [HOK.out]
    have B1 := mkHid (below_step B0.out hb1)
    clear hb1
    go_wp2
    go_ret
    exact ⟨ret_bool e0.out.symm, B1.out⟩
  · obtain ⟨n, hn, h1, h2, hll, -, hfine⟩ := ok_of hok
    subst hn
    have HOK := mkHid hok
    have hsq := sq_le h2
    have HBD : Hid (∀ p, p < l.length → -2000000 ≤ l.getD p 0 ∧ l.getD p 0 ≤ 2000000) := mkHid fun p hp => by
      have hp' : p < n * n := by omega
      have q3 : p / n * n + p % n = p := by rw [Nat.mul_comm]; exact Nat.div_add_mod p n
      have := hfine (p / n) (p % n) (Nat.div_lt_of_lt_mul hp') (Nat.mod_lt _ (by omega))
      unfold tab at this
      rw [q3] at this
      have q := cap_le (p / n) (p % n)
      omega
    have HLL := mkHid hll
    have hlm : l.length ≤ 169 := by omega
    have hl1 : 1 ≤ l.length := by have := sq_pos h1; omega
    obtain ⟨q, hq⟩ : ∃ q, l.length = q := ⟨_, rfl⟩
    have HQ := mkHid hq
    have hA : ∀ u, IntsAt u a l → Calls Try.prog 44 #[.agg #[.int .i64 n, .slice a q c]] u fun e w' => e = .returned (.bool true) ∧ Below u.heap.size u w' := fun u hu => by
      have := iOk_any n l a c u hu
      rw [hok, hq] at this
      exact this
    have HA := mkHid hA
    rw [hq] at B0 T0 hlm hl1
    rw [hq]
    clear hl hv hok hfine hll hsq hq hA
    by_cases hvl : v.length = n
    · have hne : (((v.length : Nat) : Int) != (n : Int)) = false := by simp [hvl]
      obtain ⟨b', o', rfl, cv0⟩ := HV.out.get' (k := 0) (by omega)
      have HVI : Hid (IntsIn w v b' o') := mkHid (by
        rcases HV.out with h | ⟨b'', o'', e, h⟩
        · subst h; simp at hvl; omega
        · cases e; exact h)
      obtain ⟨x0, hx0⟩ : ∃ x, v.getD 0 0 = x := ⟨_, rfl⟩
      rw [hx0, Nat.add_zero] at cv0
      have CV0 := mkHid cv0
      have HX0 := mkHid hx0
      have HVL := mkHid hvl
      have HARE : Hid (∀ u, Below w.heap.size w u → Calls Try.prog 60 #[.slice (some ⟨b', o', none⟩) v.length cv] u fun e w' => e = .returned (.bool (valsB v)) ∧ u = w') := mkHid fun u hu => areVals_of v b' o' cv u HVM.out (HVI.out.below hu)
      obtain ⟨m, hm⟩ : ∃ m, v.length = m := ⟨_, rfl⟩
      have HM := mkHid hm
      rw [hm] at hne hvm HARE
      rw [hm]
      have hm0 : (0 : Int) < (m : Int) := by omega
      clear hvl hx0 cv0 hm
      go_enter Try.func21, Try.ntmps21
      go_wp2_with fail
      refine (HA.out _ (HL.out.below B0.out)).mono ?_
      rintro e w1 ⟨rfl, hb1⟩
      have B1 := mkHid (below_step B0.out hb1)
      have T1 := mkHid (T0.out.below hb1)
      obtain ⟨t0, t1⟩ := T1.out
      have cv1 := (B1.out.cell (p := ⟨b', o', none⟩) (World.block_lt_of_cell? w _ CV0.out)).trans CV0.out
      clear hb1 B0 T0
      by_cases hxz : x0 = 0
      · have hxb : (x0 != 0) = false := by simp [hxz]
        cases hvb : valsB v
        · have e0 : Hid (hasF n l v = false) := mkHid (has_v (by unfold vOkB; rw [hvb]; simp))
          go_wp2_with (go_at_call 60; refine (HARE.out _ B1.out).mono ?_; rintro e w' ⟨rfl, rfl⟩; rw [hvb])
          go_ret
          exact ⟨ret_bool e0.out.symm, B1.out⟩
        · have HVO : Hid (vOkB n v = true) := mkHid (by unfold vOkB; rw [hvb, decide_eq_true (show v.length = n ∧ v.getD 0 0 = 0 from ⟨HVL.out, by rw [HX0.out]; exact hxz⟩)]; rfl)
          have HVB := mkHid hvb
          clear hxz
          go_wp2_with (go_at_call 60; refine (HARE.out _ B1.out).mono ?_; rintro e w' ⟨rfl, rfl⟩; rw [HVB.out])
          clear hvb
          go_loopg [31] q (fun g s wr => ∃ k : Nat, k + g = q ∧ s = .int .i64 k ∧ Kept n l v k ∧ Fc wr w.heap.size n a q c ∧ Below w.heap.size w wr)
          case atStart => exact ⟨0, by omega, rfl, fun p hp => by omega, T1.out, B1.out⟩
          case round =>
            obtain ⟨k, hkg, rfl, hK, hT, hB⟩ := hrel
            have HK := mkHid hK
            have HT := mkHid hT
            have HB := mkHid hB
            obtain ⟨p0, p1⟩ := hT
            clear hK hB T1 B1 t0 t1 cv1
            cases gk with
            | zero =>
              have hlt : ¬ ((k : Int) < (q : Int)) := by omega
              have e : k = q := by omega
              subst e
              have e0 : Hid (hasF n l v = true) := mkHid (has_all HOK.out HVO.out (by rw [HQ.out]; exact HK.out))
              go_wp2
              go_ret
              exact ⟨ret_bool e0.out.symm, HB.out⟩
            | succ g =>
              have hlt : (k : Int) < (q : Int) := by omega
              obtain ⟨b, o, rfl, c0⟩ := IntsAt.get' (HL.out.below HB.out) (k := k) (by have := HQ.out; omega)
              obtain ⟨x, hx⟩ : ∃ x, l.getD k 0 = x := ⟨_, rfl⟩
              rw [hx] at c0
              have hqu := quo_nat k n (by omega)
              have hre := rem_nat k n
              have hil : k / n < n := Nat.div_lt_of_lt_mul (by have := HQ.out; have := HLL.out; omega)
              have hjl : k % n < n := Nat.mod_lt _ (by omega)
              have HLE : Hid (leB n l v k = decide (v.getD (k / n) 0 - v.getD (k % n) 0 ≤ x)) := mkHid (by unfold leB; rw [hx])
              obtain ⟨i, hi⟩ : ∃ i, k / n = i := ⟨_, rfl⟩
              obtain ⟨j, hj⟩ : ∃ j, k % n = j := ⟨_, rfl⟩
              rw [hi] at hqu hil HLE
              rw [hj] at hre hjl HLE
              obtain ⟨_, _, e1, ci⟩ := IntsAt.get' (HV.out.below HB.out) (k := i) (by have := HVL.out; omega)
              cases e1
              obtain ⟨_, _, e1, cj⟩ := IntsAt.get' (HV.out.below HB.out) (k := j) (by have := HVL.out; omega)
              cases e1
              have bi := vals_get HVB.out (i := i) (by have := HVL.out; omega)
              have bj := vals_get HVB.out (i := j) (by have := HVL.out; omega)
              obtain ⟨y1, hy1⟩ : ∃ y, v.getD i 0 = y := ⟨_, rfl⟩
              obtain ⟨y2, hy2⟩ : ∃ y, v.getD j 0 = y := ⟨_, rfl⟩
              rw [hy1] at ci bi HLE
              rw [hy2] at cj bj HLE
              have hws : IntKind.i64.wrap (y1 - y2) = y1 - y2 := IntWalk.i64_in _ (by omega)
              have hn0 : ¬ ((n : Int) = 0) := by omega
              have i0 : (0 : Int) ≤ (i : Int) := by omega
              have i1 : (i : Int) < (m : Int) := by have := HVL.out; have := HM.out; omega
              have j0 : (0 : Int) ≤ (j : Int) := by omega
              have j1 : (j : Int) < (m : Int) := by have := HVL.out; have := HM.out; omega
              clear hx hi hj hy1 hy2
              by_cases hgt : x < y1 - y2
              · have e0 : Hid (hasF n l v = false) := mkHid (has_not (p := k) (by have := HQ.out; omega) (by rw [HLE.out]; exact decide_eq_false (by omega)))
                go_wp2_with fail
                go_quiet (fail)
                go_wp2
                go_ret
                exact ⟨ret_bool e0.out.symm, HB.out.trans ⟨rfl, rfl, rfl, Nat.le_refl _, fun _ _ => rfl⟩⟩
              · have e0 := mkHid (HK.out.next (by rw [HLE.out]; exact decide_eq_true (by omega)))
                go_wp2_with fail
                go_quiet (fail)
                go_wp2
                go_roundg g
                case measure => omega
                case rel => exact ⟨k + 1, by omega, by go_num, e0.out, HT.out.below ⟨rfl, rfl, rfl, Nat.le_refl _, fun _ _ => rfl⟩, HB.out.trans ⟨rfl, rfl, rfl, Nat.le_refl _, fun _ _ => rfl⟩⟩
      · have hxb : (x0 != 0) = true := by simp [hxz]
        have e0 : Hid (hasF n l v = false) := mkHid (has_v (by unfold vOkB; rw [decide_eq_false (fun h => hxz (by rw [← HX0.out]; exact h.2))]; rfl))
        go_wp2
        go_ret
        exact ⟨ret_bool e0.out.symm, B1.out⟩
    · have hne : (((v.length : Nat) : Int) != (n : Int)) = true := by simp; omega
      have e0 : Hid (hasF n l v = false) := mkHid (has_v (by unfold vOkB; rw [decide_eq_false (fun h => hvl h.1)]; rfl))
      clear hvl
      go_enter Try.func21, Try.ntmps21
      go_wp2_with fail
      refine (HA.out _ (HL.out.below B0.out)).mono ?_
      rintro e w1 ⟨rfl, hb1⟩
      have B1 := mkHid (below_step B0.out hb1)
      obtain ⟨t0, t1⟩ := T0.out.below hb1
      clear hb1
      go_wp2
      go_ret
      exact ⟨ret_bool e0.out.symm, B1.out⟩
end Go.Proofs.Ytgclngofigffdaa
namespace Go.Proofs.Ytgclngofigffdaa
open Go.RowKit

end Go.Proofs.Ytgclngofigffdaa
namespace Go.Proofs.Ytgclngofigffdaa
open Go.RowKit

end Go.Proofs.Ytgclngofigffdaa
namespace Go.Proofs.Ytgclngofigffdaa
open Go.RowKit

end Go.Proofs.Ytgclngofigffdaa
namespace Go.Proofs.Ytgclngofigffdaa
open Go.RowKit

end Go.Proofs.Ytgclngofigffdaa
namespace Go.Proofs.Ytgclngofigffdaa
open Go.RowKit

end Go.Proofs.Ytgclngofigffdaa
namespace Go.Proofs.Ytgclngofigffdaa
open Go.RowKit

/-- The closed table, or none. -/
def cF (z : Int) (l : List Int) : Option Tab := (okO z l).bind (cloO z.toNat)
theorem cF_fine (z : Int) (l : List Int) : FineO z.toNat (cF z l) := clo_fineO (okO_fine z l)
end Go.Proofs.Ytgclngofigffdaa
namespace Go.Proofs.Ytgclngofigffdaa
open Go.RowKit

theorem sat_fw {n : Nat} {f : Tab} {v : Nat → Int} (h : ∀ a b, a < n → b < n → v a - v b ≤ f a b) : ∀ k, k ≤ n → ∀ a b, a < n → b < n → v a - v b ≤ fwN f k a b
  | 0, _, a, b, ha, hb => h a b ha hb
  | k + 1, hk, a, b, ha, hb => by
    have ih := sat_fw h k (by omega)
    have h1 := ih a b ha hb
    have h2 := ih a k ha (by omega)
    have h3 := ih k b (by omega) hb
    show _ ≤ min (fwN f k a b) (fwN f k a k + fwN f k k b)
    omega
theorem sat_clo {n : Nat} {f : Tab} {v : Nat → Int} (h : ∀ a b, a < n → b < n → v a - v b ≤ f a b) : cloB n f = true ∧ ∀ a b, a < n → b < n → v a - v b ≤ clo n f a b := by
  have h1 := sat_fw h n (Nat.le_refl n)
  refine ⟨clo_iff.2 fun i hi => ?_, h1⟩
  have := h1 i i hi hi
  omega
/-- What facts that are so of numbers say. -/
theorem has_of {z : Int} {l v : List Int} (h : hasF z l v = true) : ∃ n : Nat, z = n ∧ 1 ≤ n ∧ n ≤ 13 ∧ okF z l = true ∧ v.length = n ∧ v.getD 0 0 = 0 ∧ valsB v = true ∧ ∀ a b, a < n → b < n → v.getD a 0 - v.getD b 0 ≤ tab n l a b := by
  unfold hasF at h
  rw [Bool.and_eq_true, Bool.and_eq_true] at h
  obtain ⟨h1, h2, h3⟩ := h
  obtain ⟨n, rfl, q1, q2, q3, _, _⟩ := ok_of h1
  rw [Int.toNat_natCast] at h2 h3
  unfold vOkB at h2
  rw [Bool.and_eq_true] at h2
  have h4 := of_decide_eq_true h2.1
  refine ⟨n, rfl, q1, q2, h1, h4.1, h4.2, h2.2, fun a b ha hb => ?_⟩
  have h5 := List.all_eq_true.1 h3 (a * n + b) (List.mem_range.2 (by rw [q3]; exact idx_lt ha hb))
  have h6 := of_decide_eq_true h5
  rw [idx_div hb, idx_mod hb] at h6
  exact h6
theorem has_cF {z : Int} {l v : List Int} (h : hasF z l v = true) : ∃ f, cF z l = some f ∧ ∀ a b, a < z.toNat → b < z.toNat → v.getD a 0 - v.getD b 0 ≤ f a b := by
  obtain ⟨n, rfl, _, _, hok, _, _, _, h4⟩ := has_of h
  have hc := sat_clo (v := fun a => v.getD a 0) h4
  refine ⟨clo n (tab n l), ?_, ?_⟩
  · unfold cF
    rw [okO_yes hok, Int.toNat_natCast]
    simp only [Option.bind_some, cloO]
    rw [if_pos hc.1]
  · rw [Int.toNat_natCast]
    exact hc.2
end Go.Proofs.Ytgclngofigffdaa
