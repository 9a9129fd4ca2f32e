/-
  CONTRACTS of l07Draw and DrawSymMost.
  CONTRACT of DrawFactsClose.
  CONTRACT of the program's RangeHas.
  CONTRACT of the specification's FactsHas.
  WHAT CAME IN, opened: rows of ints.
-/
import Derived.Test.YtgclngofigffdaaFm17
import Derived.Test.YtgclngofigffdaaFm00
import Derived.Test.YtgclngofigffdaaFm02
import Derived.Test.YtgclngofigffdaaFm15
import Derived.Test.YtgclngofigffdaaFm10
import Derived.ProofKit
import Derived.ChangeSlices
import Derived.OpenShut
import Derived.ChangeOld
import Derived.Lib.SmallJoins
namespace Go.Proofs.Ytgclngofigffdaa
open Go.RowKit

set_option maxRecDepth 100000 in
set_option maxHeartbeats 1600000 in
theorem draw_any (cb n cap bud : Nat) (a : Option Addr) (w : World) (hC : Cur w cb a n cap (bud + 210)) :
    Calls Try.prog 63 #[.pointer (some ⟨cb, 0, none⟩)] w fun e w' => ∃ (z : Int) (l : List Int) (ao : Option Addr) (cp : Nat), e = .returned (.agg #[.int .i64 z, .slice ao l.length cp]) ∧ z ≤ 20 ∧ l.length ≤ 169 ∧ l.length ≤ cp ∧ OwnI w' w.heap.size (.slice ao l.length cp) l ∧ Cur w' cb a n cap bud ∧ w.grownBy w' (some cb) := by
  have hlt := hC.lt
  have C0 := mkHid ((hC.alloc (.cells #[.int .i64 0, .slice none 0 0] 26)).less (bud' := bud + 201 + 1) (by omega))
  have G0 := mkHid (World.grownBy_alloc w (.cells #[.int .i64 0, .slice none 0 0] 26) (some cb))
  have Z0 := mkHid (Fz.new w)
  have HDS : Hid (∀ (sz : Nat) (v : World), 1 ≤ sz → sz ≤ 13 → Cur v cb a n cap (bud + 200) → Calls Try.prog 73 #[.pointer (some ⟨cb, 0, none⟩), .int .i64 sz] v fun e w' => ∃ (z : Int) (l : List Int) (ao : Option Addr) (cp : Nat), e = .returned (.agg #[.int .i64 z, .slice ao l.length cp]) ∧ z ≤ 20 ∧ l.length ≤ 169 ∧ l.length ≤ cp ∧ OwnI w' v.heap.size (.slice ao l.length cp) l ∧ Cur w' cb a n cap bud ∧ v.grownBy w' (some cb)) := mkHid fun sz v h1 h2 h => drawSize_any sz cb n cap bud a v h1 h2 h
  clear hC
  go_enter Try.func63, Try.ntmps63
  go_wp2_with fail
  refine (pick_any 6 cb n cap (bud + 201) a _ (by omega) C0.out).mono ?_
  rintro e w1 ⟨r, rfl, ra, rb, hC, hG⟩
  have C1 := mkHid hC
  have G1 := mkHid (grown_trans G0.out hG)
  have Z1 := mkHid (Z0.out.grown hG (some_ne (by omega)))
  clear hC hG C0 G0 Z0
  obtain ⟨m, rfl⟩ : ∃ m : Nat, r = m := ⟨r.toNat, by omega⟩
  have hw : IntKind.i64.wrap (1 + (m : Int)) = ((1 + m : Nat) : Int) := by rw [show (1 + (m : Int)) = ((1 + m : Nat) : Int) by omega]; exact IntWalk.i64_in _ (by omega)
  obtain ⟨sz, hsz⟩ : ∃ sz, 1 + m = sz := ⟨_, rfl⟩
  rw [hsz] at hw
  have h1 : 1 ≤ sz := by omega
  have h2 : sz ≤ 6 := by omega
  go_wp2_with fail
  refine (once_any 20 cb n cap (bud + 200) a _ (by omega) (by omega) C1.out).mono ?_
  rintro e w2 ⟨r, rfl, hC, hG⟩
  have C2 := mkHid hC
  have G2 := mkHid (grown_trans G1.out hG)
  have Z2 := mkHid (Z1.out.grown hG (some_ne (by omega)))
  clear hC hG C1 G1 Z1 hsz
  cases r
  · go_wp2_with fail
    refine (HDS.out sz _ h1 (by omega) C2.out).mono ?_
    rintro e w3 ⟨z, l, ao, cp, rfl, hz, hl, hcp, ho, hC, hG⟩
    have Z3 := Z2.out.grown hG (some_ne (by omega))
    have sz2 := Z2.out.lt
    obtain ⟨⟨z0, z1⟩, z2, z3⟩ := Z3
    have HO := mkHid (fun u0 u1 => ((ho.mono (base' := w.heap.size) (by omega)).grown (grown_setCell _ ⟨w.heap.size, 0, none⟩ u0) (fun q' hq' => some_ne (by have := ho.lt hq'; show w.heap.size ≠ q'; omega))).grown (grown_setCell _ ⟨w.heap.size, 1, none⟩ u1) (fun q' hq' => some_ne (by have := ho.lt hq'; show w.heap.size ≠ q'; omega)))
    have HCC := mkHid (fun u0 u1 => (hC.set (p := ⟨w.heap.size, 0, none⟩) hlt u0).set (p := ⟨w.heap.size, 1, none⟩) hlt u1)
    have HGG := mkHid (fun u0 u1 => grown_new (p := ⟨w.heap.size, 1, none⟩) (grown_new (p := ⟨w.heap.size, 0, none⟩) (grown_trans G2.out hG) (Nat.le_refl _) u0) (Nat.le_refl _) u1)
    have HB := mkHid (And.intro hz (And.intro hl hcp))
    clear ho hC hG hz hl hcp
    go_wp2
    exact bodyPost_ret (v := .agg #[.int .i64 z, .slice ao l.length cp]) (by simp [results, Try.results63, go_sem, z0, z1]) rfl ⟨z, l, ao, cp, rfl, HB.out.1, HB.out.2.1, HB.out.2.2, HO.out _ _, HCC.out _ _, HGG.out _ _⟩
  · go_wp2_with fail
    refine (HDS.out 13 _ (by omega) (by omega) C2.out).mono ?_
    rintro e w3 ⟨z, l, ao, cp, rfl, hz, hl, hcp, ho, hC, hG⟩
    have Z3 := Z2.out.grown hG (some_ne (by omega))
    have sz2 := Z2.out.lt
    obtain ⟨⟨z0, z1⟩, z2, z3⟩ := Z3
    have HO := mkHid (fun u0 u1 => ((ho.mono (base' := w.heap.size) (by omega)).grown (grown_setCell _ ⟨w.heap.size, 0, none⟩ u0) (fun q' hq' => some_ne (by have := ho.lt hq'; show w.heap.size ≠ q'; omega))).grown (grown_setCell _ ⟨w.heap.size, 1, none⟩ u1) (fun q' hq' => some_ne (by have := ho.lt hq'; show w.heap.size ≠ q'; omega)))
    have HCC := mkHid (fun u0 u1 => (hC.set (p := ⟨w.heap.size, 0, none⟩) hlt u0).set (p := ⟨w.heap.size, 1, none⟩) hlt u1)
    have HGG := mkHid (fun u0 u1 => grown_new (p := ⟨w.heap.size, 1, none⟩) (grown_new (p := ⟨w.heap.size, 0, none⟩) (grown_trans G2.out hG) (Nat.le_refl _) u0) (Nat.le_refl _) u1)
    have HB := mkHid (And.intro hz (And.intro hl hcp))
    clear ho hC hG hz hl hcp
    go_wp2
    exact bodyPost_ret (v := .agg #[.int .i64 z, .slice ao l.length cp]) (by simp [results, Try.results63, go_sem, z0, z1]) rfl ⟨z, l, ao, cp, rfl, HB.out.1, HB.out.2.1, HB.out.2.2, HO.out _ _, HCC.out _ _, HGG.out _ _⟩
end Go.Proofs.Ytgclngofigffdaa
namespace Go.Proofs.Ytgclngofigffdaa
open Go.RowKit

set_option maxRecDepth 100000 in
set_option maxHeartbeats 1600000 in
theorem drawClose_any (n cap : Nat) (a : Option Addr) (w : World) (hn : n ≤ 1048576) (hb0 : Bytes w w.heap.size a n) :
    Calls Try.prog 24 #[.slice a n cap] w fun e w' => ∃ (z : Int) (l : List Int) (ao : Option Addr) (cp : Nat), e = .returned (.agg #[.int .i64 z, .slice ao l.length cp]) ∧ z ≤ 20 ∧ l.length ≤ 169 ∧ l.length ≤ cp ∧ OwnI w' w.heap.size (.slice ao l.length cp) l ∧ Below w.heap.size w w' := by
  have HN := mkHid hn
  have HBY := mkHid hb0
  have B0 := mkHid ((Below.refl w.heap.size w).alloc (Nat.le_refl _) (.cells #[.int .i64 0, .slice none 0 0] 26))
  have Z0 := mkHid (Fz.new w)
  clear hn hb0
  go_enter Try.func24, Try.ntmps24
  go_wp2_with fail
  refine (openC_any n cap a _ HN.out (HBY.out.up B0.out.size B0.out)).mono ?_
  rintro e w1 ⟨cb, rfl, hcb, hC, hb⟩
  have l0 := Z0.out.lt
  have C1 := mkHid (hC.less (bud' := 1000 + 210) (by omega))
  have B1 := mkHid (below_step B0.out hb)
  have Z1 := mkHid (Z0.out.below hb)
  have hcw : w.heap.size < cb := by omega
  clear hC hb hcb l0 B0 Z0
  go_wp2_with fail
  refine (draw_any cb n cap 1000 a _ C1.out).mono ?_
  rintro e w3 ⟨z, l, ao, cp, rfl, hz, hl, hcp, ho, hC, hG⟩
  have Z3 := Z1.out.grown hG (some_ne (by omega))
  have sz2 := Z1.out.lt
  have HB3 := B1.out.grown hG B1.out.size (fun q hq => by cases hq; omega)
  obtain ⟨⟨z0, z1⟩, z2, z3⟩ := Z3
  have HO := mkHid (fun u0 u1 => ((ho.mono (base' := w.heap.size) (by omega)).grown (grown_setCell _ ⟨w.heap.size, 0, none⟩ u0) (fun q' hq' => some_ne (by have := ho.lt hq'; show w.heap.size ≠ q'; omega))).grown (grown_setCell _ ⟨w.heap.size, 1, none⟩ u1) (fun q' hq' => some_ne (by have := ho.lt hq'; show w.heap.size ≠ q'; omega)))
  have HBB := mkHid (fun u0 u1 => (HB3.setCell (p := ⟨w.heap.size, 0, none⟩) (Nat.le_refl _) u0).setCell (p := ⟨w.heap.size, 1, none⟩) (Nat.le_refl _) u1)
  have HB := mkHid (And.intro hz (And.intro hl hcp))
  clear ho hC hG hz hl hcp HB3
  go_wp2
  exact bodyPost_ret (v := .agg #[.int .i64 z, .slice ao l.length cp]) (by simp [results, Try.results24, go_sem, z0, z1]) rfl ⟨z, l, ao, cp, rfl, HB.out.1, HB.out.2.1, HB.out.2.2, HO.out _ _, HBB.out _ _⟩
end Go.Proofs.Ytgclngofigffdaa
namespace Go.Proofs.Ytgclngofigffdaa
open Go.RowKit

set_option maxHeartbeats 400000 in
theorem iRh_any (a b x : Int) (w : World) (h1 : someB a b = true) (h2 : btw x a b = true) : Calls Try.prog 25 #[.agg #[.int .i64 a, .int .i64 b], .int .i64 x] w fun e w' => e = .returned (.bool true) ∧ Below w.heap.size w w' := by
  go_enter Try.func25, Try.ntmps25
  go_wp2_with (first | (go_at_call 64; refine (isSome_any _ _ _).mono ?_; rintro e w' ⟨rfl, hb⟩; obtain ⟨hc, hf⟩ := bcell hb; have hz0 : w.heap.size < w'.heap.size := (by have := hb.size; (try simp at this); omega)) | (go_at_call 65; refine (isBetween_any _ _ _ _).mono ?_; rintro e w' ⟨rfl, rfl⟩))
  go_ret
  exact ⟨rfl, (by repeat (first | exact Below.refl _ _ | refine bl_set ?_ (by simp <;> omega) _ | refine bl_alloc ?_ _ | refine bl_drew ?_ | refine below_step ?_ (by assumption)))⟩
theorem pick1_any (n cap B t : Nat) (m : Int) (a : Option Addr) (w : World) (hn : n ≤ 1048576) (hb : Bytes w B a n) (ht : t ≤ 100) (hm0 : 1 ≤ m) (hm : m ≤ 10000) :
    Calls Try.prog 22 #[.slice a n cap, .int .i64 t, .int .i64 m] w fun e w' => ∃ r : Int, e = .returned (.int .i64 r) ∧ 0 ≤ r ∧ r < m ∧ w = w' := by
  by_cases hm1 : m = 1
  · subst hm1
    by_cases h9 : n = 0
    · subst h9
      go_enter Try.func22, Try.ntmps22
      go_wp2
      go_ret
      exact ⟨0, rfl, by omega, by omega, rfl⟩
    · have n4 : ((n : Int) == 0) = false := by simpa using h9
      go_enter Try.func22, Try.ntmps22
      go_wp2
      go_ret
      exact ⟨0, rfl, by omega, by omega, rfl⟩
  · exact lpick_any n cap B t m a w hn hb (by omega) (by omega) hm
end Go.Proofs.Ytgclngofigffdaa
namespace Go.Proofs.Ytgclngofigffdaa
open Go.RowKit

set_option maxRecDepth 100000 in
set_option maxHeartbeats 1600000 in
theorem sHas_any (z : Int) (l : List Int) (a : Option Addr) (c : Nat) (v : List Int) (av : Option Addr) (cv : Nat) (w : World) (hl : IntsAt w a l) (hv : IntsAt w av v) : Calls Try.prog 20 #[.agg #[.int .i64 z, .slice a l.length c], .slice av v.length cv] w fun e w' => e = .returned (.bool (hasF z l v)) ∧ Below w.heap.size w w' := by
  have HL := mkHid hl
  have HV := mkHid hv
  have B0 := mkHid ((Below.refl w.heap.size w).alloc (Nat.le_refl _) (.cells #[.int .i64 z, .slice a l.length c] 26))
  have T0 := mkHid (Fc.new w z a l.length c 26)
  cases hok : okF z l
  · have e0 := mkHid (has_ok (v := v) hok)
    have HOK := mkHid hok
    clear hl hv hok
    go_enter Try.func20, Try.ntmps20
    go_wp2_with fail
    refine (sOkF_any z l a c _ (HL.out.below B0.out)).mono ?_
    rintro e w1 ⟨rfl, hb1⟩
    rw [HOK.out]
    have B1 := mkHid (below_step B0.out hb1)
    clear hb1
    go_wp2
    go_ret
    exact ⟨ret_bool e0.out.symm, B1.out⟩
  · obtain ⟨n, hn, h1, h2, hll, -, -⟩ := ok_of hok
    subst hn
    have HOK := mkHid hok
    have hsq := sq_le h2
    have HLL := mkHid hll
    have hlm : l.length ≤ 169 := by omega
    have HSQ : Hid (∀ i, i < n → i * n + n ≤ l.length) := mkHid fun i hi => by rw [hll, show i * n + n = (i + 1) * n by rw [Nat.add_mul]; omega]; exact Nat.mul_le_mul_right n hi
    obtain ⟨q, hq⟩ : ∃ q, l.length = q := ⟨_, rfl⟩
    have HQ := mkHid hq
    have hA : ∀ u, IntsAt u a l → Calls Try.prog 18 #[.agg #[.int .i64 n, .slice a q c]] u fun e w' => e = .returned (.bool true) ∧ Below u.heap.size u w' := fun u hu => by
      have := sOkF_any n l a c u hu
      rw [hok, hq] at this
      exact this
    have HA := mkHid hA
    have HSV : Hid (∀ u, Below w.heap.size w u → Calls Try.prog 59 #[.int .i64 n, .slice av v.length cv] u fun e w' => e = .returned (.bool (vOkB n v)) ∧ u = w') := mkHid fun u hu => sVals_any n h1 h2 v av cv u (HV.out.below hu)
    rw [hq] at B0 T0 hlm HSQ
    rw [hq]
    clear hl hv hok hll hsq hq hA
    obtain ⟨m, hm⟩ : ∃ m, v.length = m := ⟨_, rfl⟩
    have HM := mkHid hm
    rw [hm] at HSV
    rw [hm]
    clear hm
    cases hvo : vOkB n v
    · have e0 : Hid (hasF n l v = false) := mkHid (has_v hvo)
      go_enter Try.func20, Try.ntmps20
      go_wp2_with fail
      refine (HA.out _ (HL.out.below B0.out)).mono ?_
      rintro e w1 ⟨rfl, hb1⟩
      have B1 := mkHid (below_step B0.out hb1)
      obtain ⟨t0, t1⟩ := T0.out.below hb1
      clear hb1
      go_wp2_with (go_at_call 59; refine (HSV.out _ B1.out).mono ?_; rintro e w' ⟨rfl, rfl⟩; rw [hvo])
      go_ret
      exact ⟨ret_bool e0.out.symm, B1.out⟩
    · have HVO := mkHid hvo
      have hvo2 : decide (v.length = n ∧ v.getD 0 0 = 0) = true ∧ valsB v = true := by unfold vOkB at hvo; rw [Bool.and_eq_true] at hvo; exact hvo
      have HVL := mkHid (of_decide_eq_true hvo2.1).1
      have HVB := mkHid hvo2.2
      clear hvo hvo2
      go_enter Try.func20, Try.ntmps20
      go_wp2_with fail
      refine (HA.out _ (HL.out.below B0.out)).mono ?_
      rintro e w1 ⟨rfl, hb1⟩
      have B1 := mkHid (below_step B0.out hb1)
      have T1 := mkHid (T0.out.below hb1)
      obtain ⟨t0, t1⟩ := T1.out
      clear hb1 B0 T0
      go_wp2_with (go_at_call 59; refine (HSV.out _ B1.out).mono ?_; rintro e w' ⟨rfl, rfl⟩; rw [HVO.out])
      go_loopg [5] n (fun g s wr => ∃ i : Nat, i + g = n ∧ s = .int .i64 i ∧ Kept n l v (i * n) ∧ Fc wr w.heap.size n a q c ∧ Below w.heap.size w wr)
      case atStart => exact ⟨0, by omega, rfl, fun p hp => by omega, T1.out, B1.out⟩
      case round =>
        obtain ⟨i, hig, rfl, hK, hT, hB⟩ := hrel
        have HK := mkHid hK
        have HT := mkHid hT
        have HB := mkHid hB
        obtain ⟨p0, p1⟩ := hT
        clear hK hB T1 B1 t0 t1
        cases gk with
        | zero =>
          have hlt : ¬ ((i : Int) < (n : Int)) := by omega
          have e : i = n := by omega
          subst e
          have e0 : Hid (hasF i l v = true) := mkHid (has_all HOK.out HVO.out (by rw [HLL.out]; exact HK.out))
          go_wp2
          go_ret
          exact ⟨ret_bool e0.out.symm, HB.out⟩
        | succ g =>
          have hlt : (i : Int) < (n : Int) := by omega
          obtain ⟨im, him⟩ : ∃ im, i * n = im := ⟨_, rfl⟩
          have hiq : im + n ≤ q := by rw [← him]; exact HSQ.out i (by omega)
          have hwi : IntKind.i64.wrap ((i : Int) * (n : Int)) = (im : Int) := by rw [show (i : Int) * (n : Int) = ((i * n : Nat) : Int) by simp, him]; exact IntWalk.i64_in _ (by omega)
          have HIM := mkHid him
          have HKN : Hid (Kept n l v (im + n) → Kept n l v ((i + 1) * n)) := mkHid fun h => by rw [show (i + 1) * n = im + n by rw [Nat.add_mul, him]; omega]; exact h
          rw [him] at HK
          clear him
          go_wp2_with fail
          go_loopg [6] n (fun g s wy => ∃ j : Nat, j + g = n ∧ s = .int .i64 j ∧ Kept n l v (im + j) ∧ Fc wy w.heap.size n a q c ∧ Below w.heap.size w wy)
          case atStart => exact ⟨0, by omega, rfl, HK.out, HT.out, HB.out⟩
          case round =>
            clear HK HT HB p0 p1
            obtain ⟨j, hjg, rfl, hK, hT, hB⟩ := hrel
            have HK := mkHid hK
            have HT := mkHid hT
            have HB := mkHid hB
            obtain ⟨p0, p1⟩ := hT
            clear hK hB
            cases gk with
            | zero =>
              have hlt2 : ¬ ((j : Int) < (n : Int)) := by omega
              have e : j = n := by omega
              subst e
              go_wp2
              go_roundg g
              case measure => omega
              case rel => exact ⟨i + 1, by omega, by go_num, HKN.out HK.out, HT.out, HB.out⟩
            | succ g2 =>
              have hlt2 : (j : Int) < (n : Int) := by omega
              obtain ⟨p, hp⟩ : ∃ p, im + j = p := ⟨_, rfl⟩
              have hws0 : IntKind.i64.wrap ((im : Int) + (j : Int)) = (p : Int) := by rw [← hp]; exact IntWalk.i64_in _ (by omega)
              obtain ⟨b, o, rfl, c0⟩ := IntsAt.get' (HL.out.below HB.out) (k := p) (by have := HQ.out; omega)
              obtain ⟨x, hx⟩ : ∃ x, l.getD p 0 = x := ⟨_, rfl⟩
              rw [hx] at c0
              have HLE : Hid (leB n l v p = decide (v.getD i 0 - v.getD j 0 ≤ x)) := mkHid (by unfold leB; rw [hx, ← hp, ← HIM.out, idx_div (by omega), idx_mod (by omega)])
              obtain ⟨b', o', rfl, ci⟩ := IntsAt.get' (HV.out.below HB.out) (k := i) (by have := HVL.out; omega)
              obtain ⟨_, _, e1, cj⟩ := IntsAt.get' (HV.out.below HB.out) (k := j) (by have := HVL.out; omega)
              cases e1
              have bi := vals_get HVB.out (i := i) (by have := HVL.out; omega)
              have bj := vals_get HVB.out (i := j) (by have := HVL.out; omega)
              obtain ⟨y1, hy1⟩ : ∃ y, v.getD i 0 = y := ⟨_, rfl⟩
              obtain ⟨y2, hy2⟩ : ∃ y, v.getD j 0 = y := ⟨_, rfl⟩
              rw [hy1] at ci bi HLE
              rw [hy2] at cj bj HLE
              have hws : IntKind.i64.wrap (y1 - y2) = y1 - y2 := IntWalk.i64_in _ (by omega)
              have i0 : (0 : Int) ≤ (i : Int) := by omega
              have i1 : (i : Int) < (m : Int) := by have := HVL.out; have := HM.out; omega
              have j0 : (0 : Int) ≤ (j : Int) := by omega
              have j1 : (j : Int) < (m : Int) := by have := HVL.out; have := HM.out; omega
              have k0 : (0 : Int) ≤ (p : Int) := by omega
              have k1 : (p : Int) < (q : Int) := by omega
              have HPP := mkHid hp
              rw [hp] at HK
              clear hx hy1 hy2 hp
              by_cases hgt : x < y1 - y2
              · have e0 : Hid (hasF n l v = false) := mkHid (has_not (p := p) (by have := HQ.out; omega) (by rw [HLE.out]; exact decide_eq_false (by omega)))
                go_wp2_with fail
                go_quiet (fail)
                go_wp2
                go_ret
                exact ⟨ret_bool e0.out.symm, HB.out.trans ⟨rfl, rfl, rfl, Nat.le_refl _, fun _ _ => rfl⟩⟩
              · have e0 := mkHid (HK.out.next (by rw [HLE.out]; exact decide_eq_true (by omega)))
                go_wp2_with fail
                go_quiet (fail)
                go_wp2
                go_roundg g2
                case measure => omega
                case rel => exact ⟨j + 1, by omega, by go_num, by rw [show im + (j + 1) = p + 1 by have := HPP.out; omega]; exact e0.out, HT.out.below ⟨rfl, rfl, rfl, Nat.le_refl _, fun _ _ => rfl⟩, HB.out.trans ⟨rfl, rfl, rfl, Nat.le_refl _, fun _ _ => rfl⟩⟩
end Go.Proofs.Ytgclngofigffdaa
namespace Go.Proofs.Ytgclngofigffdaa
open Go.ChangeShapes Go.WideShapes Go.ChangeAt Go.RowKit Go.Joins

theorem Try.own : ownKnob Try.prog.godebug = none := by kernel_rfl
theorem Try.laidOut : laidOutB Try.prog = true := by kernel_rfl
end Go.Proofs.Ytgclngofigffdaa
