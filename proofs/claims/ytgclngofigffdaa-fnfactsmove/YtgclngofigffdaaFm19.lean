/-
  FnFactsMove holds at every two rows of bytes: no conditions.
-/
import Derived.Test.YtgclngofigffdaaFm15
import Derived.Test.YtgclngofigffdaaFm18
import Derived.ProofKit
import Derived.OpenShut
import Derived.ChangeOld
import Derived.ChangeSlices
import Derived.Laws.OwnMore
namespace Go.Proofs.Ytgclngofigffdaa
open Go.ChangeShapes Go.WideShapes Go.ChangeAt Go.RowKit Go.Joins

theorem Bytes.old {w w' : World} {a : Option Addr} {n : Nat} (h : Bytes w w.heap.size a n) (hb : Below w.heap.size w w') : Bytes w' w'.heap.size a n := h.up hb.size hb
/-- What the rounds lean on. -/
structure Km (w : World) (X : Nat) (z : Int) (l : List Int) (ao : Option Addr) (cp : Nat) (a : Option Addr) (n : Nat) (v : World) : Prop where
  bel : Below w.heap.size w v
  fF : Fc v X z ao l.length cp
  fL : IntsAt v ao l
  fM : Bytes v v.heap.size a n
theorem Km.below {w : World} {X : Nat} {z : Int} {l : List Int} {ao : Option Addr} {cp : Nat} {a : Option Addr} {n : Nat} {v v' : World} (h : Km w X z l ao cp a n v) (hb : Below v.heap.size v v') : Km w X z l ao cp a n v' :=
  ⟨below_step h.bel hb, h.fF.below hb, h.fL.below hb, h.fM.old hb⟩
/-- A row of one's own, written in place. -/
theorem own_put {w v : World} {g q c : Nat} {l : List Int} (hB : Below w.heap.size w v) (h : OwnI v w.heap.size (.slice (some ⟨g, 0, none⟩) q c) l) (p : Nat) (x : Int) : Below w.heap.size w (v.setCell ⟨g, p, none⟩ (.int .i64 x)) ∧ OwnI (v.setCell ⟨g, p, none⟩ (.int .i64 x)) w.heap.size (.slice (some ⟨g, 0, none⟩) q c) (l.set p x) := by
  obtain ⟨ho, hg⟩ := h.stored p x
  exact ⟨hB.grown hg hB.size (fun k hk => by cases hk; exact h.base_le.1), ho⟩
theorem fld (z : Int) (a : Option Addr) (n c : Nat) (w : World) : (Instr.field 26 (.agg #[.int .i64 z, .slice a n c]) 1).run Try.prog w = .ok (.slice a n c) w := by kernel_rfl
theorem Vgood.get {l : List Int} (h : Vgood l) {i : Nat} (hi : i < l.length) : -6 ≤ l.getD i 0 ∧ l.getD i 0 ≤ 17 := h.1 _ (by rw [List.getD_eq_getElem?_getD, List.getElem?_eq_getElem hi]; exact List.getElem_mem _)
set_option maxRecDepth 100000 in
set_option maxHeartbeats 12800000 in
theorem law_walk (a1 a2 : Option Addr) (n1 c1 n2 c2 : Nat) (w : World) (hn1 : n1 ≤ maxLen) (hn2 : n2 ≤ maxLen) (hb1 : Bytes w w.heap.size a1 n1) (hb2 : Bytes w w.heap.size a2 n2) : Calls Try.prog 4 #[.slice a1 n1 c1, .slice a2 n2 c2] w fun e w' => e = .returned (.bool true) ∧ Below w.heap.size w w' := by
  have HB1 := mkHid hb1
  have HB2 := mkHid hb2
  have HN1 := mkHid hn1
  have HN2 := mkHid hn2
  clear hb1 hb2 hn1 hn2
  by_cases g1 : 1048576 < n1
  · have e1 : decide (1048576 < n1) = true := decide_eq_true g1
    go_enter Try.func4, Try.ntmps4
    go_wp2_with fail
    refine (big_any n1 _ _ _ HN1.out).mono ?_
    rintro e w' ⟨rfl, rfl⟩
    go_wp2
    go_ret
    exact ⟨rfl, Below.refl _ _⟩
  by_cases g2 : 1048576 < n2
  · have e1 : decide (1048576 < n1) = false := decide_eq_false g1
    have e2 : decide (1048576 < n2) = true := decide_eq_true g2
    go_enter Try.func4, Try.ntmps4
    go_wp2_with fail
    refine (big_any n1 _ _ _ HN1.out).mono ?_
    rintro e w' ⟨rfl, rfl⟩
    go_wp2_with fail
    refine (big_any n2 _ _ _ HN2.out).mono ?_
    rintro e w' ⟨rfl, rfl⟩
    go_wp2
    go_ret
    exact ⟨rfl, Below.refl _ _⟩
  have e1 : decide (1048576 < n1) = false := decide_eq_false g1
  have e2 : decide (1048576 < n2) = false := decide_eq_false g2
  have HM2 := mkHid (show n2 ≤ 1048576 by omega)
  have HM1 := mkHid (show n1 ≤ 1048576 by omega)
  clear g1 g2
  go_enter Try.func4, Try.ntmps4
  go_wp2_with fail
  refine (big_any n1 _ _ _ HN1.out).mono ?_
  rintro e w' ⟨rfl, rfl⟩
  go_wp2_with fail
  refine (big_any n2 _ _ _ HN2.out).mono ?_
  rintro e w' ⟨rfl, rfl⟩
  go_wp2_with fail
  refine (drawClose_any n1 c1 a1 w HM1.out HB1.out).mono ?_
  rintro e w1 ⟨z, l, ao, cp, rfl, hz, hl1, hl2, hO, hb⟩
  obtain ⟨w2, hw2⟩ : ∃ x : World, w1.alloc (.cells #[.int .i64 z, .slice ao l.length cp] 26) = x := ⟨_, rfl⟩
  have A1 : Below w1.heap.size w1 w2 := by rw [← hw2]; exact bl_alloc (Below.refl _ _) _
  have K0 : Hid (Km w w1.heap.size z l ao cp a2 n2 w2) := mkHid ⟨below_step hb A1, by rw [← hw2]; exact Fc.new w1 z ao l.length cp 26, hO.at.below A1, (HB2.out.old hb).old A1⟩
  have HZ := mkHid hz
  have HCP := mkHid hl2
  have HW2 := mkHid hw2
  clear hb hO A1 hw2 hz hl1 hl2 HB1 HB2
  obtain ⟨X, hX⟩ : ∃ n : Nat, w1.heap.size = n := ⟨_, rfl⟩
  rw [hX] at K0
  obtain ⟨f0, f1⟩ := K0.out.fF
  go_wp2_with fail
  rw [HW2.out]
  clear HW2 hX
  refine (sOkF_any z l ao cp _ K0.out.fL).mono ?_
  rintro e w3 ⟨rfl, hb⟩
  have K1 := mkHid (K0.out.below hb)
  clear hb K0 f0 f1
  obtain ⟨f0, f1⟩ := K1.out.fF
  cases hok : okF z l
  · have HC : Hid (∀ v, IntsAt v ao l → Calls Try.prog 12 #[.agg #[.int .i64 z, .slice ao l.length cp]] v fun e w' => Gives v w' e 0 []) := mkHid fun v hI => by
      have := iClose_any z l ao cp v HCP.out hI
      rw [okO_no hok] at this
      exact this
    have hfld := fld 0
    go_wp2_with fail
    refine (HC.out _ K1.out.fL).mono ?_
    rintro e w4 ⟨a4, c4, rfl, -, hb⟩
    have B4 := mkHid (below_step K1.out.bel hb)
    clear hb
    go_wp2
    go_ret
    exact ⟨by first | rfl | (simp; done), B4.out⟩
  obtain ⟨q, rfl, q1, q2, -, -, -⟩ := ok_of hok
  clear f0 f1
  go_wp2_with fail
  go_loopg [6, 7, 8, 9, 10, 11] 12 (fun g s6 s7 s8 s9 s10 s11 wr => ∃ u : Nat, u + g = 12 ∧ s6 = .int .i64 u ∧ Km w X q l ao cp a2 n2 wr)
  case atStart => exact ⟨0, rfl, rfl, K1.out⟩
  case round =>
    obtain ⟨u, hu, rfl, hK⟩ := hrel
    have K := mkHid hK
    clear hK K1
    obtain ⟨f0, f1⟩ := K.out.fF
    cases gk with
    | zero =>
      have hlt : ¬ ((u : Int) < 12) := by omega
      go_wp2
      go_ret
      exact ⟨rfl, K.out.bel⟩
    | succ g =>
      have hlt : (u : Int) < 12 := by omega
      have h3 : IntKind.i64.wrap (3 * (u : Int)) = ((3 * u : Nat) : Int) := by rw [IntWalk.i64_in _ ⟨by omega, by omega⟩]; omega
      go_wp2_with fail
      first | rw [show (3 * (u : Int)) = ((3 * u : Nat) : Int) by omega] | skip
      refine (vals2_any n2 c2 (3 * u) (q : Int) a2 _ HM2.out K.out.fM (by omega) HZ.out).mono ?_
      rintro e w5 ⟨v, av, cv, rfl, hvl, hvg, hvo, hb⟩
      rw [Int.toNat_natCast] at hvl
      rw [hvl] at hvo ⊢
      obtain ⟨gv, rfl⟩ := own_addr hvo (by omega)
      have OV := mkHid hvo
      have VG := mkHid hvg
      have VL := mkHid hvl
      have BV := mkHid hb
      have K5 := mkHid (K.out.below hb)
      clear hvo hvg hvl hb f0 f1 h3
      have hp : IntKind.i64.wrap ((u : Int) + 1) = ((u + 1 : Nat) : Int) := by rw [IntWalk.i64_in _ ⟨by omega, by omega⟩]; omega
      obtain ⟨f0, f1⟩ := K5.out.fF
      go_wp2_with fail
      first | rw [show ((u : Int) + 1) = ((u + 1 : Nat) : Int) by omega] | skip
      refine (pick1_any n2 c2 _ (u + 1) (q : Int) a2 _ HM2.out K5.out.fM (by omega) (by omega) (by omega)).mono ?_
      rintro e w9 ⟨r, rfl, hr0, hr_i, rfl⟩
      obtain ⟨i, rfl⟩ : ∃ i : Nat, r = i := ⟨r.toNat, by omega⟩
      clear f0 f1 hp hr0
      have hp : IntKind.i64.wrap ((u : Int) + 4) = ((u + 4 : Nat) : Int) := by rw [IntWalk.i64_in _ ⟨by omega, by omega⟩]; omega
      obtain ⟨f0, f1⟩ := K5.out.fF
      go_wp2_with fail
      first | rw [show ((u : Int) + 4) = ((u + 4 : Nat) : Int) by omega] | skip
      refine (pick1_any n2 c2 _ (u + 4) (q : Int) a2 _ HM2.out K5.out.fM (by omega) (by omega) (by omega)).mono ?_
      rintro e w9 ⟨r, rfl, hr0, hr_j, rfl⟩
      obtain ⟨j, rfl⟩ : ∃ i : Nat, r = i := ⟨r.toNat, by omega⟩
      clear f0 f1 hp hr0
      have hp : IntKind.i64.wrap ((u : Int) + 7) = ((u + 7 : Nat) : Int) := by rw [IntWalk.i64_in _ ⟨by omega, by omega⟩]; omega
      obtain ⟨f0, f1⟩ := K5.out.fF
      go_wp2_with fail
      first | rw [show ((u : Int) + 7) = ((u + 7 : Nat) : Int) by omega] | skip
      refine (pick1_any n2 c2 _ (u + 7) 9 a2 _ HM2.out K5.out.fM (by omega) (by omega) (by omega)).mono ?_
      rintro e w9 ⟨r, rfl, hr0, hr1, rfl⟩
      obtain ⟨c, hc⟩ : ∃ c, r - 4 = c := ⟨_, rfl⟩
      have hc0 : -4 ≤ c := by omega
      have hc1 : c ≤ 4 := by omega
      have hw4 : IntKind.i64.wrap (r - 4) = c := by rw [IntWalk.i64_in _ ⟨by omega, by omega⟩]; exact hc
      clear f0 f1 hp
      have hi : i < q := by omega
      have hj : j < q := by omega
      have hiq : (i : Int) < (q : Int) := by omega
      have hjq : (j : Int) < (q : Int) := by omega
      obtain ⟨f0, f1⟩ := K5.out.fF
      go_wp2_with fail
      have hs9 := sHas_any (q : Int) l ao cp v (some ⟨gv, 0, none⟩) cv _ K5.out.fL OV.out.at
      rw [VL.out] at hs9
      refine hs9.mono ?_
      clear hs9
      rintro e w6 ⟨rfl, hb⟩
      have B6 := mkHid (below_step BV.out hb)
      have K6 := mkHid (K5.out.below hb)
      have O6 := mkHid (OV.out.below hb)
      clear hb K5 OV BV f0 f1
      cases hh : hasF q l v
      · go_wp2
        go_roundg g
        case measure => omega
        case rel => exact ⟨u + 1, by omega, by go_num, K6.out⟩
      obtain ⟨x, hx⟩ : ∃ x, v.getD i 0 = x := ⟨_, rfl⟩
      obtain ⟨hx0, hx1⟩ : -6 ≤ x ∧ x ≤ 17 := by rw [← hx]; exact VG.out.get (by rw [VL.out]; exact hi)
      obtain ⟨y, hy⟩ : ∃ y, v.getD j 0 = y := ⟨_, rfl⟩
      obtain ⟨hy0, hy1⟩ : -6 ≤ y ∧ y ≤ 17 := by rw [← hy]; exact VG.out.get (by rw [VL.out]; exact hj)
      have HX := mkHid hx
      have HY := mkHid hy
      have HH := mkHid hh
      have HI := mkHid (show i < ((q : Int)).toNat by rw [Int.toNat_natCast]; exact hi)
      have HJ := mkHid (show j < ((q : Int)).toNat by rw [Int.toNat_natCast]; exact hj)
      -- the range
      obtain ⟨r1, hr1⟩ : ∃ r, (rngF q l i).1 = r := ⟨_, rfl⟩
      obtain ⟨r2, hr2⟩ : ∃ r, (rngF q l i).2 = r := ⟨_, rfl⟩
      have HRG : Hid (∀ v', IntsAt v' ao l → Calls Try.prog 26 #[.agg #[.int .i64 q, .slice ao l.length cp], .int .i64 i] v' fun e w' => e = .returned (.agg #[.int .i64 r1, .int .i64 r2]) ∧ Below v'.heap.size v' w') := mkHid fun v' hI => by rw [← hr1, ← hr2]; exact iRange_any q l ao cp i v' HCP.out hI
      have HRH : Hid (∀ v', Calls Try.prog 25 #[.agg #[.int .i64 r1, .int .i64 r2], .int .i64 x] v' fun e w' => e = .returned (.bool true) ∧ Below v'.heap.size v' w') := mkHid fun v' => by
        have h := rng_has HH.out HI.out
        rw [hr1, hr2, HX.out] at h
        exact iRh_any r1 r2 x v' (some_iff.2 ⟨h.2.2.1, by omega, h.2.2.2⟩) (decide_eq_true ⟨h.1, h.2.1⟩)
      obtain ⟨zb, hzb⟩ : ∃ r, outZ (bndF q l i x (x + 2)) ((q : Int)).toNat = r := ⟨_, rfl⟩
      obtain ⟨lb, hlb⟩ : ∃ r, outL (bndF q l i x (x + 2)) ((q : Int)).toNat = r := ⟨_, rfl⟩
      have HBN : Hid (∀ v', IntsAt v' ao l → Calls Try.prog 27 #[.agg #[.int .i64 q, .slice ao l.length cp], .int .i64 i, .agg #[.int .i64 x, .int .i64 (x + 2)]] v' fun e w' => Gives v' w' e zb lb) := mkHid fun v' hI => by rw [← hzb, ← hlb]; exact iBound_any q l ao cp i x (x + 2) v' HCP.out hI
      have HBH : Hid (∀ v' ab cb, IntsAt v' ab lb → IntsAt v' (some ⟨gv, 0, none⟩) v → Calls Try.prog 21 #[.agg #[.int .i64 zb, .slice ab lb.length cb], .slice (some ⟨gv, 0, none⟩) q cv] v' fun e w' => e = .returned (.bool true) ∧ Below v'.heap.size v' w') := mkHid fun v' ab cb hI hV => by
        have h := bnd_has HH.out HI.out (by rw [HX.out]; omega) (by rw [HX.out]; omega)
        rw [HX.out, hzb, hlb] at h
        have h2 := iHas_any zb lb ab cb v (some ⟨gv, 0, none⟩) cv v' hI hV (by rw [VL.out]; unfold maxLen; omega)
        rw [h, VL.out] at h2
        exact h2
      have hx2 : IntKind.i64.wrap (x + 2) = x + 2 := IntWalk.i64_in _ ⟨by omega, by omega⟩
      have hF6 : ∀ v', Below w6.heap.size w6 v' → v'.cell? ⟨X, 0, none⟩ = some (.int .i64 q) ∧ v'.cell? ⟨X, 1, none⟩ = some (.slice ao l.length cp) := fun v' h => K6.out.fF.below h
      have hX6 : ∀ v', Below w6.heap.size w6 v' → v'.cell? ⟨gv, i, none⟩ = some (.int .i64 x) := fun v' h => by
        have := (O6.out.below h).cell (p := i) (by rw [VL.out]; exact hi)
        rw [HX.out] at this
        exact this
      clear hr1 hr2 hzb hlb hx hy hh
      go_wp2_with fail
      refine wp_region_inv2 (fun zA0 L zA v7 => ∃ (zB : Nat → Bool) (zS : Nat → Value) (qa : Option Addr) (qc : Nat), L = #[zB 0, zB 1, zB 2, zB 3, zB 4, zB 5, zB 6, zB 7, zB 8, zB 9, zB 10, zB 11, zB 12, zB 13, zB 14, zB 15, zB 16, zB 17, zB 18, zB 19, zB 20, zB 21, zB 22, zB 23, zB 24, zB 25, zB 26] ∧ zA = puts zA0 [(59, zS 59), (60, zS 60), (61, zS 61), (62, zS 62), (63, zS 63), (64, zS 64), (65, zS 65), (66, zS 66), (67, zS 67), (68, zS 68), (69, zS 69), (70, zS 70), (71, zS 71), (72, zS 72), (73, zS 73), (74, zS 74), (75, zS 75), (76, zS 76), (77, zS 77), (78, zS 78), (79, zS 79), (80, zS 80), (81, zS 81), (82, zS 82), (83, zS 83), (84, zS 84), (85, zS 85)] ∧ ((zB 0 = true → zS 59 = .agg #[.int .i64 (q : Int), .slice ao l.length cp]) ∧ (zB 1 = true → zS 60 = .int .i64 (i : Int)) ∧ (zB 2 = true → zS 61 = .agg #[.int .i64 r1, .int .i64 r2]) ∧ (zB 3 = true → zS 62 = .slice (some ⟨gv, 0, none⟩) q cv) ∧ (zB 4 = true → zS 63 = .int .i64 (i : Int)) ∧ (zB 5 = true → zS 64 = .pointer (some ⟨gv, i, none⟩)) ∧ (zB 6 = true → zS 65 = .int .i64 x) ∧ (zB 7 = true → zS 66 = .bool true) ∧ (zB 8 = true → zS 67 = .bool false) ∧ (zB 9 = true → zS 68 = .bool false) ∧ (zB 10 = true → zS 69 = .agg #[.int .i64 (q : Int), .slice ao l.length cp]) ∧ (zB 11 = true → zS 70 = .int .i64 (i : Int)) ∧ (zB 12 = true → zS 71 = .slice (some ⟨gv, 0, none⟩) q cv) ∧ (zB 13 = true → zS 72 = .int .i64 (i : Int)) ∧ (zB 14 = true → zS 73 = .pointer (some ⟨gv, i, none⟩)) ∧ (zB 15 = true → zS 74 = .int .i64 x) ∧ (zB 16 = true → zS 75 = .slice (some ⟨gv, 0, none⟩) q cv) ∧ (zB 17 = true → zS 76 = .int .i64 (i : Int)) ∧ (zB 18 = true → zS 77 = .pointer (some ⟨gv, i, none⟩)) ∧ (zB 19 = true → zS 78 = .int .i64 x) ∧ (zB 20 = true → zS 79 = .int .i64 (x + 2)) ∧ (zB 21 = true → zS 80 = .agg #[.int .i64 x, .int .i64 (x + 2)]) ∧ (zB 22 = true → zS 81 = .agg #[.int .i64 zb, .slice qa lb.length qc]) ∧ (zB 23 = true → zS 82 = .slice (some ⟨gv, 0, none⟩) q cv) ∧ (zB 24 = true → zS 83 = .bool true) ∧ (zB 25 = true → zS 84 = .bool false) ∧ (zB 26 = true → zS 85 = .bool false)) ∧ Below w6.heap.size w6 v7 ∧ ((zB 22) = true → IntsAt v7 qa lb)) (by kernel_rfl) ?_ ?_ ?_
      · exact ⟨fun _ => false, fun zd => if zd = 85 then u85 else if zd = 84 then u84 else if zd = 83 then u83 else if zd = 82 then u82 else if zd = 81 then u81 else if zd = 80 then u80 else if zd = 79 then u79 else if zd = 78 then u78 else if zd = 77 then u77 else if zd = 76 then u76 else if zd = 75 then u75 else if zd = 74 then u74 else if zd = 73 then u73 else if zd = 72 then u72 else if zd = 71 then u71 else if zd = 70 then u70 else if zd = 69 then u69 else if zd = 68 then u68 else if zd = 67 then u67 else if zd = 66 then u66 else if zd = 65 then u65 else if zd = 64 then u64 else if zd = 63 then u63 else if zd = 62 then u62 else if zd = 61 then u61 else if zd = 60 then u60 else if zd = 59 then u59 else undef, none, 0, rfl, by kernel_rfl, ⟨fun e => ft e, fun e => ft e, fun e => ft e, fun e => ft e, fun e => ft e, fun e => ft e, fun e => ft e, fun e => ft e, fun e => ft e, fun e => ft e, fun e => ft e, fun e => ft e, fun e => ft e, fun e => ft e, fun e => ft e, fun e => ft e, fun e => ft e, fun e => ft e, fun e => ft e, fun e => ft e, fun e => ft e, fun e => ft e, fun e => ft e, fun e => ft e, fun e => ft e, fun e => ft e, fun e => ft e⟩, ⟨(Below.refl _ _).drew, fun e => ft e⟩⟩
      · refine StepsI.cons rfl ?_ ?_
        · rintro L zA v7 ⟨zB, zS, qa, qc, rfl, rfl, hF, hW⟩ hL hm K hK
          have hb0 : zB 0 = false := by simpa using hL
          clear hL hm
          simp only [puts, Act.put, List.setIfInBounds_toArray, List.set_cons_zero, List.set_cons_succ]
          obtain ⟨f0, f1⟩ := hF6 _ hW.1
          go_simp
          exact hK.out _ _ ⟨fun zj => if zj = 0 then true else zB zj, fun zd => if zd = 59 then .agg #[.int .i64 (q : Int), .slice ao l.length cp] else zS zd, qa, qc, rfl, by kernel_rfl, ⟨fun _ => rfl, hF.2.1, hF.2.2.1, hF.2.2.2.1, hF.2.2.2.2.1, hF.2.2.2.2.2.1, hF.2.2.2.2.2.2.1, hF.2.2.2.2.2.2.2.1, hF.2.2.2.2.2.2.2.2.1, hF.2.2.2.2.2.2.2.2.2.1, hF.2.2.2.2.2.2.2.2.2.2.1, hF.2.2.2.2.2.2.2.2.2.2.2.1, hF.2.2.2.2.2.2.2.2.2.2.2.2.1, hF.2.2.2.2.2.2.2.2.2.2.2.2.2.1, hF.2.2.2.2.2.2.2.2.2.2.2.2.2.2.1, hF.2.2.2.2.2.2.2.2.2.2.2.2.2.2.2.1, hF.2.2.2.2.2.2.2.2.2.2.2.2.2.2.2.2.1, hF.2.2.2.2.2.2.2.2.2.2.2.2.2.2.2.2.2.1, hF.2.2.2.2.2.2.2.2.2.2.2.2.2.2.2.2.2.2.1, hF.2.2.2.2.2.2.2.2.2.2.2.2.2.2.2.2.2.2.2.1, hF.2.2.2.2.2.2.2.2.2.2.2.2.2.2.2.2.2.2.2.2.1, hF.2.2.2.2.2.2.2.2.2.2.2.2.2.2.2.2.2.2.2.2.2.1, hF.2.2.2.2.2.2.2.2.2.2.2.2.2.2.2.2.2.2.2.2.2.2.1, hF.2.2.2.2.2.2.2.2.2.2.2.2.2.2.2.2.2.2.2.2.2.2.2.1, hF.2.2.2.2.2.2.2.2.2.2.2.2.2.2.2.2.2.2.2.2.2.2.2.2.1, hF.2.2.2.2.2.2.2.2.2.2.2.2.2.2.2.2.2.2.2.2.2.2.2.2.2.1, hF.2.2.2.2.2.2.2.2.2.2.2.2.2.2.2.2.2.2.2.2.2.2.2.2.2.2⟩, hW⟩
        refine StepsI.cons rfl ?_ ?_
        · rintro L zA v7 ⟨zB, zS, qa, qc, rfl, rfl, hF, hW⟩ hL hm K hK
          have hb1 : zB 1 = false := by simpa using hL
          clear hL hm
          simp only [puts, Act.put, List.setIfInBounds_toArray, List.set_cons_zero, List.set_cons_succ]
          go_simp
          exact hK.out _ _ ⟨fun zj => if zj = 1 then true else zB zj, fun zd => if zd = 60 then .int .i64 (i : Int) else zS zd, qa, qc, rfl, by kernel_rfl, ⟨hF.1, fun _ => rfl, hF.2.2.1, hF.2.2.2.1, hF.2.2.2.2.1, hF.2.2.2.2.2.1, hF.2.2.2.2.2.2.1, hF.2.2.2.2.2.2.2.1, hF.2.2.2.2.2.2.2.2.1, hF.2.2.2.2.2.2.2.2.2.1, hF.2.2.2.2.2.2.2.2.2.2.1, hF.2.2.2.2.2.2.2.2.2.2.2.1, hF.2.2.2.2.2.2.2.2.2.2.2.2.1, hF.2.2.2.2.2.2.2.2.2.2.2.2.2.1, hF.2.2.2.2.2.2.2.2.2.2.2.2.2.2.1, hF.2.2.2.2.2.2.2.2.2.2.2.2.2.2.2.1, hF.2.2.2.2.2.2.2.2.2.2.2.2.2.2.2.2.1, hF.2.2.2.2.2.2.2.2.2.2.2.2.2.2.2.2.2.1, hF.2.2.2.2.2.2.2.2.2.2.2.2.2.2.2.2.2.2.1, hF.2.2.2.2.2.2.2.2.2.2.2.2.2.2.2.2.2.2.2.1, hF.2.2.2.2.2.2.2.2.2.2.2.2.2.2.2.2.2.2.2.2.1, hF.2.2.2.2.2.2.2.2.2.2.2.2.2.2.2.2.2.2.2.2.2.1, hF.2.2.2.2.2.2.2.2.2.2.2.2.2.2.2.2.2.2.2.2.2.2.1, hF.2.2.2.2.2.2.2.2.2.2.2.2.2.2.2.2.2.2.2.2.2.2.2.1, hF.2.2.2.2.2.2.2.2.2.2.2.2.2.2.2.2.2.2.2.2.2.2.2.2.1, hF.2.2.2.2.2.2.2.2.2.2.2.2.2.2.2.2.2.2.2.2.2.2.2.2.2.1, hF.2.2.2.2.2.2.2.2.2.2.2.2.2.2.2.2.2.2.2.2.2.2.2.2.2.2⟩, hW⟩
        refine StepsI.cons rfl ?_ ?_
        · rintro L zA v7 ⟨zB, zS, qa, qc, rfl, rfl, hF, hW⟩ hL hm K hK
          have hb2 : zB 2 = false := by simpa using hL
          have hb0 : zB 0 = true := by cases e : zB 0 with | false => (exfalso; revert hm; simp [metB, Region.binds, e]) | true => rfl
          have hb1 : zB 1 = true := by cases e : zB 1 with | false => (exfalso; revert hm; simp [metB, Region.binds, e]) | true => rfl
          have e0 : zS 59 = .agg #[.int .i64 (q : Int), .slice ao l.length cp] := hF.1 hb0
          have e1 : zS 60 = .int .i64 (i : Int) := hF.2.1 hb1
          clear hL hm
          simp only [puts, Act.put, List.setIfInBounds_toArray, List.set_cons_zero, List.set_cons_succ]
          simp only [e0, e1]
          go_simp
          refine (HRG.out _ (K6.out.fL.below hW.1)).mono ?_
          rintro e v72 ⟨rfl, hb⟩
          go_wp2_with fail
          exact hK.out _ _ ⟨fun zj => if zj = 1 then true else if zj = 0 then true else if zj = 2 then true else zB zj, fun zd => if zd = 61 then .agg #[.int .i64 r1, .int .i64 r2] else if zd = 60 then .int .i64 (i : Int) else if zd = 59 then .agg #[.int .i64 (q : Int), .slice ao l.length cp] else zS zd, qa, qc, by simp [hb0, hb1], by kernel_rfl, ⟨fun _ => rfl, fun _ => rfl, fun _ => rfl, hF.2.2.2.1, hF.2.2.2.2.1, hF.2.2.2.2.2.1, hF.2.2.2.2.2.2.1, hF.2.2.2.2.2.2.2.1, hF.2.2.2.2.2.2.2.2.1, hF.2.2.2.2.2.2.2.2.2.1, hF.2.2.2.2.2.2.2.2.2.2.1, hF.2.2.2.2.2.2.2.2.2.2.2.1, hF.2.2.2.2.2.2.2.2.2.2.2.2.1, hF.2.2.2.2.2.2.2.2.2.2.2.2.2.1, hF.2.2.2.2.2.2.2.2.2.2.2.2.2.2.1, hF.2.2.2.2.2.2.2.2.2.2.2.2.2.2.2.1, hF.2.2.2.2.2.2.2.2.2.2.2.2.2.2.2.2.1, hF.2.2.2.2.2.2.2.2.2.2.2.2.2.2.2.2.2.1, hF.2.2.2.2.2.2.2.2.2.2.2.2.2.2.2.2.2.2.1, hF.2.2.2.2.2.2.2.2.2.2.2.2.2.2.2.2.2.2.2.1, hF.2.2.2.2.2.2.2.2.2.2.2.2.2.2.2.2.2.2.2.2.1, hF.2.2.2.2.2.2.2.2.2.2.2.2.2.2.2.2.2.2.2.2.2.1, hF.2.2.2.2.2.2.2.2.2.2.2.2.2.2.2.2.2.2.2.2.2.2.1, hF.2.2.2.2.2.2.2.2.2.2.2.2.2.2.2.2.2.2.2.2.2.2.2.1, hF.2.2.2.2.2.2.2.2.2.2.2.2.2.2.2.2.2.2.2.2.2.2.2.2.1, hF.2.2.2.2.2.2.2.2.2.2.2.2.2.2.2.2.2.2.2.2.2.2.2.2.2.1, hF.2.2.2.2.2.2.2.2.2.2.2.2.2.2.2.2.2.2.2.2.2.2.2.2.2.2⟩, ⟨below_step hW.1 hb, fun q => (hW.2 q).below hb⟩⟩
        refine StepsI.cons rfl ?_ ?_
        · rintro L zA v7 ⟨zB, zS, qa, qc, rfl, rfl, hF, hW⟩ hL hm K hK
          have hb3 : zB 3 = false := by simpa using hL
          clear hL hm
          simp only [puts, Act.put, List.setIfInBounds_toArray, List.set_cons_zero, List.set_cons_succ]
          go_simp
          exact hK.out _ _ ⟨fun zj => if zj = 3 then true else zB zj, fun zd => if zd = 62 then .slice (some ⟨gv, 0, none⟩) q cv else zS zd, qa, qc, rfl, by kernel_rfl, ⟨hF.1, hF.2.1, hF.2.2.1, fun _ => rfl, hF.2.2.2.2.1, hF.2.2.2.2.2.1, hF.2.2.2.2.2.2.1, hF.2.2.2.2.2.2.2.1, hF.2.2.2.2.2.2.2.2.1, hF.2.2.2.2.2.2.2.2.2.1, hF.2.2.2.2.2.2.2.2.2.2.1, hF.2.2.2.2.2.2.2.2.2.2.2.1, hF.2.2.2.2.2.2.2.2.2.2.2.2.1, hF.2.2.2.2.2.2.2.2.2.2.2.2.2.1, hF.2.2.2.2.2.2.2.2.2.2.2.2.2.2.1, hF.2.2.2.2.2.2.2.2.2.2.2.2.2.2.2.1, hF.2.2.2.2.2.2.2.2.2.2.2.2.2.2.2.2.1, hF.2.2.2.2.2.2.2.2.2.2.2.2.2.2.2.2.2.1, hF.2.2.2.2.2.2.2.2.2.2.2.2.2.2.2.2.2.2.1, hF.2.2.2.2.2.2.2.2.2.2.2.2.2.2.2.2.2.2.2.1, hF.2.2.2.2.2.2.2.2.2.2.2.2.2.2.2.2.2.2.2.2.1, hF.2.2.2.2.2.2.2.2.2.2.2.2.2.2.2.2.2.2.2.2.2.1, hF.2.2.2.2.2.2.2.2.2.2.2.2.2.2.2.2.2.2.2.2.2.2.1, hF.2.2.2.2.2.2.2.2.2.2.2.2.2.2.2.2.2.2.2.2.2.2.2.1, hF.2.2.2.2.2.2.2.2.2.2.2.2.2.2.2.2.2.2.2.2.2.2.2.2.1, hF.2.2.2.2.2.2.2.2.2.2.2.2.2.2.2.2.2.2.2.2.2.2.2.2.2.1, hF.2.2.2.2.2.2.2.2.2.2.2.2.2.2.2.2.2.2.2.2.2.2.2.2.2.2⟩, hW⟩
        refine StepsI.cons rfl ?_ ?_
        · rintro L zA v7 ⟨zB, zS, qa, qc, rfl, rfl, hF, hW⟩ hL hm K hK
          have hb4 : zB 4 = false := by simpa using hL
          clear hL hm
          simp only [puts, Act.put, List.setIfInBounds_toArray, List.set_cons_zero, List.set_cons_succ]
          go_simp
          exact hK.out _ _ ⟨fun zj => if zj = 4 then true else zB zj, fun zd => if zd = 63 then .int .i64 (i : Int) else zS zd, qa, qc, rfl, by kernel_rfl, ⟨hF.1, hF.2.1, hF.2.2.1, hF.2.2.2.1, fun _ => rfl, hF.2.2.2.2.2.1, hF.2.2.2.2.2.2.1, hF.2.2.2.2.2.2.2.1, hF.2.2.2.2.2.2.2.2.1, hF.2.2.2.2.2.2.2.2.2.1, hF.2.2.2.2.2.2.2.2.2.2.1, hF.2.2.2.2.2.2.2.2.2.2.2.1, hF.2.2.2.2.2.2.2.2.2.2.2.2.1, hF.2.2.2.2.2.2.2.2.2.2.2.2.2.1, hF.2.2.2.2.2.2.2.2.2.2.2.2.2.2.1, hF.2.2.2.2.2.2.2.2.2.2.2.2.2.2.2.1, hF.2.2.2.2.2.2.2.2.2.2.2.2.2.2.2.2.1, hF.2.2.2.2.2.2.2.2.2.2.2.2.2.2.2.2.2.1, hF.2.2.2.2.2.2.2.2.2.2.2.2.2.2.2.2.2.2.1, hF.2.2.2.2.2.2.2.2.2.2.2.2.2.2.2.2.2.2.2.1, hF.2.2.2.2.2.2.2.2.2.2.2.2.2.2.2.2.2.2.2.2.1, hF.2.2.2.2.2.2.2.2.2.2.2.2.2.2.2.2.2.2.2.2.2.1, hF.2.2.2.2.2.2.2.2.2.2.2.2.2.2.2.2.2.2.2.2.2.2.1, hF.2.2.2.2.2.2.2.2.2.2.2.2.2.2.2.2.2.2.2.2.2.2.2.1, hF.2.2.2.2.2.2.2.2.2.2.2.2.2.2.2.2.2.2.2.2.2.2.2.2.1, hF.2.2.2.2.2.2.2.2.2.2.2.2.2.2.2.2.2.2.2.2.2.2.2.2.2.1, hF.2.2.2.2.2.2.2.2.2.2.2.2.2.2.2.2.2.2.2.2.2.2.2.2.2.2⟩, hW⟩
        refine StepsI.cons rfl ?_ ?_
        · rintro L zA v7 ⟨zB, zS, qa, qc, rfl, rfl, hF, hW⟩ hL hm K hK
          have hb5 : zB 5 = false := by simpa using hL
          have hb3 : zB 3 = true := by cases e : zB 3 with | false => (exfalso; revert hm; simp [metB, Region.binds, e]) | true => rfl
          have hb4 : zB 4 = true := by cases e : zB 4 with | false => (exfalso; revert hm; simp [metB, Region.binds, e]) | true => rfl
          have e3 : zS 62 = .slice (some ⟨gv, 0, none⟩) q cv := hF.2.2.2.1 hb3
          have e4 : zS 63 = .int .i64 (i : Int) := hF.2.2.2.2.1 hb4
          clear hL hm
          simp only [puts, Act.put, List.setIfInBounds_toArray, List.set_cons_zero, List.set_cons_succ]
          simp only [e3, e4]
          go_simp
          exact hK.out _ _ ⟨fun zj => if zj = 4 then true else if zj = 3 then true else if zj = 5 then true else zB zj, fun zd => if zd = 64 then .pointer (some ⟨gv, i, none⟩) else if zd = 63 then .int .i64 (i : Int) else if zd = 62 then .slice (some ⟨gv, 0, none⟩) q cv else zS zd, qa, qc, by simp [hb3, hb4], by kernel_rfl, ⟨hF.1, hF.2.1, hF.2.2.1, fun _ => rfl, fun _ => rfl, fun _ => rfl, hF.2.2.2.2.2.2.1, hF.2.2.2.2.2.2.2.1, hF.2.2.2.2.2.2.2.2.1, hF.2.2.2.2.2.2.2.2.2.1, hF.2.2.2.2.2.2.2.2.2.2.1, hF.2.2.2.2.2.2.2.2.2.2.2.1, hF.2.2.2.2.2.2.2.2.2.2.2.2.1, hF.2.2.2.2.2.2.2.2.2.2.2.2.2.1, hF.2.2.2.2.2.2.2.2.2.2.2.2.2.2.1, hF.2.2.2.2.2.2.2.2.2.2.2.2.2.2.2.1, hF.2.2.2.2.2.2.2.2.2.2.2.2.2.2.2.2.1, hF.2.2.2.2.2.2.2.2.2.2.2.2.2.2.2.2.2.1, hF.2.2.2.2.2.2.2.2.2.2.2.2.2.2.2.2.2.2.1, hF.2.2.2.2.2.2.2.2.2.2.2.2.2.2.2.2.2.2.2.1, hF.2.2.2.2.2.2.2.2.2.2.2.2.2.2.2.2.2.2.2.2.1, hF.2.2.2.2.2.2.2.2.2.2.2.2.2.2.2.2.2.2.2.2.2.1, hF.2.2.2.2.2.2.2.2.2.2.2.2.2.2.2.2.2.2.2.2.2.2.1, hF.2.2.2.2.2.2.2.2.2.2.2.2.2.2.2.2.2.2.2.2.2.2.2.1, hF.2.2.2.2.2.2.2.2.2.2.2.2.2.2.2.2.2.2.2.2.2.2.2.2.1, hF.2.2.2.2.2.2.2.2.2.2.2.2.2.2.2.2.2.2.2.2.2.2.2.2.2.1, hF.2.2.2.2.2.2.2.2.2.2.2.2.2.2.2.2.2.2.2.2.2.2.2.2.2.2⟩, hW⟩
        refine StepsI.cons rfl ?_ ?_
        · rintro L zA v7 ⟨zB, zS, qa, qc, rfl, rfl, hF, hW⟩ hL hm K hK
          have hb6 : zB 6 = false := by simpa using hL
          have hb5 : zB 5 = true := by cases e : zB 5 with | false => (exfalso; revert hm; simp [metB, Region.binds, e]) | true => rfl
          have e5 : zS 64 = .pointer (some ⟨gv, i, none⟩) := hF.2.2.2.2.2.1 hb5
          clear hL hm
          simp only [puts, Act.put, List.setIfInBounds_toArray, List.set_cons_zero, List.set_cons_succ]
          simp only [e5]
          have d0 := hX6 _ hW.1
          go_simp
          exact hK.out _ _ ⟨fun zj => if zj = 5 then true else if zj = 6 then true else zB zj, fun zd => if zd = 65 then .int .i64 x else if zd = 64 then .pointer (some ⟨gv, i, none⟩) else zS zd, qa, qc, by simp [hb5], by kernel_rfl, ⟨hF.1, hF.2.1, hF.2.2.1, hF.2.2.2.1, hF.2.2.2.2.1, fun _ => rfl, fun _ => rfl, hF.2.2.2.2.2.2.2.1, hF.2.2.2.2.2.2.2.2.1, hF.2.2.2.2.2.2.2.2.2.1, hF.2.2.2.2.2.2.2.2.2.2.1, hF.2.2.2.2.2.2.2.2.2.2.2.1, hF.2.2.2.2.2.2.2.2.2.2.2.2.1, hF.2.2.2.2.2.2.2.2.2.2.2.2.2.1, hF.2.2.2.2.2.2.2.2.2.2.2.2.2.2.1, hF.2.2.2.2.2.2.2.2.2.2.2.2.2.2.2.1, hF.2.2.2.2.2.2.2.2.2.2.2.2.2.2.2.2.1, hF.2.2.2.2.2.2.2.2.2.2.2.2.2.2.2.2.2.1, hF.2.2.2.2.2.2.2.2.2.2.2.2.2.2.2.2.2.2.1, hF.2.2.2.2.2.2.2.2.2.2.2.2.2.2.2.2.2.2.2.1, hF.2.2.2.2.2.2.2.2.2.2.2.2.2.2.2.2.2.2.2.2.1, hF.2.2.2.2.2.2.2.2.2.2.2.2.2.2.2.2.2.2.2.2.2.1, hF.2.2.2.2.2.2.2.2.2.2.2.2.2.2.2.2.2.2.2.2.2.2.1, hF.2.2.2.2.2.2.2.2.2.2.2.2.2.2.2.2.2.2.2.2.2.2.2.1, hF.2.2.2.2.2.2.2.2.2.2.2.2.2.2.2.2.2.2.2.2.2.2.2.2.1, hF.2.2.2.2.2.2.2.2.2.2.2.2.2.2.2.2.2.2.2.2.2.2.2.2.2.1, hF.2.2.2.2.2.2.2.2.2.2.2.2.2.2.2.2.2.2.2.2.2.2.2.2.2.2⟩, hW⟩
        refine StepsI.cons rfl ?_ ?_
        · rintro L zA v7 ⟨zB, zS, qa, qc, rfl, rfl, hF, hW⟩ hL hm K hK
          have hb7 : zB 7 = false := by simpa using hL
          have hb2 : zB 2 = true := by cases e : zB 2 with | false => (exfalso; revert hm; simp [metB, Region.binds, e]) | true => rfl
          have hb6 : zB 6 = true := by cases e : zB 6 with | false => (exfalso; revert hm; simp [metB, Region.binds, e]) | true => rfl
          have e2 : zS 61 = .agg #[.int .i64 r1, .int .i64 r2] := hF.2.2.1 hb2
          have e6 : zS 65 = .int .i64 x := hF.2.2.2.2.2.2.1 hb6
          clear hL hm
          simp only [puts, Act.put, List.setIfInBounds_toArray, List.set_cons_zero, List.set_cons_succ]
          simp only [e2, e6]
          go_simp
          refine (HRH.out _).mono ?_
          rintro e v72 ⟨rfl, hb⟩
          go_wp2_with fail
          exact hK.out _ _ ⟨fun zj => if zj = 6 then true else if zj = 2 then true else if zj = 7 then true else zB zj, fun zd => if zd = 66 then .bool true else if zd = 65 then .int .i64 x else if zd = 61 then .agg #[.int .i64 r1, .int .i64 r2] else zS zd, qa, qc, by simp [hb2, hb6], by kernel_rfl, ⟨hF.1, hF.2.1, fun _ => rfl, hF.2.2.2.1, hF.2.2.2.2.1, hF.2.2.2.2.2.1, fun _ => rfl, fun _ => rfl, hF.2.2.2.2.2.2.2.2.1, hF.2.2.2.2.2.2.2.2.2.1, hF.2.2.2.2.2.2.2.2.2.2.1, hF.2.2.2.2.2.2.2.2.2.2.2.1, hF.2.2.2.2.2.2.2.2.2.2.2.2.1, hF.2.2.2.2.2.2.2.2.2.2.2.2.2.1, hF.2.2.2.2.2.2.2.2.2.2.2.2.2.2.1, hF.2.2.2.2.2.2.2.2.2.2.2.2.2.2.2.1, hF.2.2.2.2.2.2.2.2.2.2.2.2.2.2.2.2.1, hF.2.2.2.2.2.2.2.2.2.2.2.2.2.2.2.2.2.1, hF.2.2.2.2.2.2.2.2.2.2.2.2.2.2.2.2.2.2.1, hF.2.2.2.2.2.2.2.2.2.2.2.2.2.2.2.2.2.2.2.1, hF.2.2.2.2.2.2.2.2.2.2.2.2.2.2.2.2.2.2.2.2.1, hF.2.2.2.2.2.2.2.2.2.2.2.2.2.2.2.2.2.2.2.2.2.1, hF.2.2.2.2.2.2.2.2.2.2.2.2.2.2.2.2.2.2.2.2.2.2.1, hF.2.2.2.2.2.2.2.2.2.2.2.2.2.2.2.2.2.2.2.2.2.2.2.1, hF.2.2.2.2.2.2.2.2.2.2.2.2.2.2.2.2.2.2.2.2.2.2.2.2.1, hF.2.2.2.2.2.2.2.2.2.2.2.2.2.2.2.2.2.2.2.2.2.2.2.2.2.1, hF.2.2.2.2.2.2.2.2.2.2.2.2.2.2.2.2.2.2.2.2.2.2.2.2.2.2⟩, ⟨below_step hW.1 hb, fun q => (hW.2 q).below hb⟩⟩
        refine StepsI.cons rfl ?_ ?_
        · rintro L zA v7 ⟨zB, zS, qa, qc, rfl, rfl, hF, hW⟩ hL hm K hK
          have hb8 : zB 8 = false := by simpa using hL
          have hb7 : zB 7 = true := by cases e : zB 7 with | false => (exfalso; revert hm; simp [metB, Region.binds, e]) | true => rfl
          have e7 : zS 66 = .bool true := hF.2.2.2.2.2.2.2.1 hb7
          clear hL hm
          simp only [puts, Act.put, List.setIfInBounds_toArray, List.set_cons_zero, List.set_cons_succ]
          simp only [e7]
          go_simp
          exact hK.out _ _ ⟨fun zj => if zj = 7 then true else if zj = 8 then true else zB zj, fun zd => if zd = 67 then .bool false else if zd = 66 then .bool true else zS zd, qa, qc, by simp [hb7], by kernel_rfl, ⟨hF.1, hF.2.1, hF.2.2.1, hF.2.2.2.1, hF.2.2.2.2.1, hF.2.2.2.2.2.1, hF.2.2.2.2.2.2.1, fun _ => rfl, fun _ => rfl, hF.2.2.2.2.2.2.2.2.2.1, hF.2.2.2.2.2.2.2.2.2.2.1, hF.2.2.2.2.2.2.2.2.2.2.2.1, hF.2.2.2.2.2.2.2.2.2.2.2.2.1, hF.2.2.2.2.2.2.2.2.2.2.2.2.2.1, hF.2.2.2.2.2.2.2.2.2.2.2.2.2.2.1, hF.2.2.2.2.2.2.2.2.2.2.2.2.2.2.2.1, hF.2.2.2.2.2.2.2.2.2.2.2.2.2.2.2.2.1, hF.2.2.2.2.2.2.2.2.2.2.2.2.2.2.2.2.2.1, hF.2.2.2.2.2.2.2.2.2.2.2.2.2.2.2.2.2.2.1, hF.2.2.2.2.2.2.2.2.2.2.2.2.2.2.2.2.2.2.2.1, hF.2.2.2.2.2.2.2.2.2.2.2.2.2.2.2.2.2.2.2.2.1, hF.2.2.2.2.2.2.2.2.2.2.2.2.2.2.2.2.2.2.2.2.2.1, hF.2.2.2.2.2.2.2.2.2.2.2.2.2.2.2.2.2.2.2.2.2.2.1, hF.2.2.2.2.2.2.2.2.2.2.2.2.2.2.2.2.2.2.2.2.2.2.2.1, hF.2.2.2.2.2.2.2.2.2.2.2.2.2.2.2.2.2.2.2.2.2.2.2.2.1, hF.2.2.2.2.2.2.2.2.2.2.2.2.2.2.2.2.2.2.2.2.2.2.2.2.2.1, hF.2.2.2.2.2.2.2.2.2.2.2.2.2.2.2.2.2.2.2.2.2.2.2.2.2.2⟩, hW⟩
        refine StepsI.cons rfl ?_ ?_
        · rintro L zA v7 ⟨zB, zS, qa, qc, rfl, rfl, hF, hW⟩ hL hm K hK
          have hb9 : zB 9 = false := by simpa using hL
          have hb8 : zB 8 = true := by cases e : zB 8 with | false => (exfalso; revert hm; simp [metB, Region.binds, e]) | true => rfl
          have e8 : zS 67 = .bool false := hF.2.2.2.2.2.2.2.2.1 hb8
          clear hL hm
          simp only [puts, Act.put, List.setIfInBounds_toArray, List.set_cons_zero, List.set_cons_succ]
          simp only [e8]
          go_simp
          exact hK.out _ _ ⟨fun zj => if zj = 8 then true else if zj = 9 then true else zB zj, fun zd => if zd = 68 then .bool false else if zd = 67 then .bool false else zS zd, qa, qc, by simp [hb8], by kernel_rfl, ⟨hF.1, hF.2.1, hF.2.2.1, hF.2.2.2.1, hF.2.2.2.2.1, hF.2.2.2.2.2.1, hF.2.2.2.2.2.2.1, hF.2.2.2.2.2.2.2.1, fun _ => rfl, fun _ => rfl, hF.2.2.2.2.2.2.2.2.2.2.1, hF.2.2.2.2.2.2.2.2.2.2.2.1, hF.2.2.2.2.2.2.2.2.2.2.2.2.1, hF.2.2.2.2.2.2.2.2.2.2.2.2.2.1, hF.2.2.2.2.2.2.2.2.2.2.2.2.2.2.1, hF.2.2.2.2.2.2.2.2.2.2.2.2.2.2.2.1, hF.2.2.2.2.2.2.2.2.2.2.2.2.2.2.2.2.1, hF.2.2.2.2.2.2.2.2.2.2.2.2.2.2.2.2.2.1, hF.2.2.2.2.2.2.2.2.2.2.2.2.2.2.2.2.2.2.1, hF.2.2.2.2.2.2.2.2.2.2.2.2.2.2.2.2.2.2.2.1, hF.2.2.2.2.2.2.2.2.2.2.2.2.2.2.2.2.2.2.2.2.1, hF.2.2.2.2.2.2.2.2.2.2.2.2.2.2.2.2.2.2.2.2.2.1, hF.2.2.2.2.2.2.2.2.2.2.2.2.2.2.2.2.2.2.2.2.2.2.1, hF.2.2.2.2.2.2.2.2.2.2.2.2.2.2.2.2.2.2.2.2.2.2.2.1, hF.2.2.2.2.2.2.2.2.2.2.2.2.2.2.2.2.2.2.2.2.2.2.2.2.1, hF.2.2.2.2.2.2.2.2.2.2.2.2.2.2.2.2.2.2.2.2.2.2.2.2.2.1, hF.2.2.2.2.2.2.2.2.2.2.2.2.2.2.2.2.2.2.2.2.2.2.2.2.2.2⟩, hW⟩
        refine StepsI.cons rfl ?_ ?_
        · rintro L zA v7 ⟨zB, zS, qa, qc, rfl, rfl, hF, hW⟩ hL hm K hK
          have hb10 : zB 10 = false := by simpa using hL
          have hb9 : zB 9 = true := by cases e : zB 9 with | false => (exfalso; revert hm; simp [metB, Region.binds, e]) | true => rfl
          have e9 : zS 68 = .bool false := hF.2.2.2.2.2.2.2.2.2.1 hb9
          clear hL hm
          simp only [puts, Act.put, List.setIfInBounds_toArray, List.set_cons_zero, List.set_cons_succ]
          simp only [e9]
          obtain ⟨f0, f1⟩ := hF6 _ hW.1
          go_simp
          exact hK.out _ _ ⟨fun zj => if zj = 9 then true else if zj = 10 then true else zB zj, fun zd => if zd = 69 then .agg #[.int .i64 (q : Int), .slice ao l.length cp] else if zd = 68 then .bool false else zS zd, qa, qc, by simp [hb9], by kernel_rfl, ⟨hF.1, hF.2.1, hF.2.2.1, hF.2.2.2.1, hF.2.2.2.2.1, hF.2.2.2.2.2.1, hF.2.2.2.2.2.2.1, hF.2.2.2.2.2.2.2.1, hF.2.2.2.2.2.2.2.2.1, fun _ => rfl, fun _ => rfl, hF.2.2.2.2.2.2.2.2.2.2.2.1, hF.2.2.2.2.2.2.2.2.2.2.2.2.1, hF.2.2.2.2.2.2.2.2.2.2.2.2.2.1, hF.2.2.2.2.2.2.2.2.2.2.2.2.2.2.1, hF.2.2.2.2.2.2.2.2.2.2.2.2.2.2.2.1, hF.2.2.2.2.2.2.2.2.2.2.2.2.2.2.2.2.1, hF.2.2.2.2.2.2.2.2.2.2.2.2.2.2.2.2.2.1, hF.2.2.2.2.2.2.2.2.2.2.2.2.2.2.2.2.2.2.1, hF.2.2.2.2.2.2.2.2.2.2.2.2.2.2.2.2.2.2.2.1, hF.2.2.2.2.2.2.2.2.2.2.2.2.2.2.2.2.2.2.2.2.1, hF.2.2.2.2.2.2.2.2.2.2.2.2.2.2.2.2.2.2.2.2.2.1, hF.2.2.2.2.2.2.2.2.2.2.2.2.2.2.2.2.2.2.2.2.2.2.1, hF.2.2.2.2.2.2.2.2.2.2.2.2.2.2.2.2.2.2.2.2.2.2.2.1, hF.2.2.2.2.2.2.2.2.2.2.2.2.2.2.2.2.2.2.2.2.2.2.2.2.1, hF.2.2.2.2.2.2.2.2.2.2.2.2.2.2.2.2.2.2.2.2.2.2.2.2.2.1, hF.2.2.2.2.2.2.2.2.2.2.2.2.2.2.2.2.2.2.2.2.2.2.2.2.2.2⟩, hW⟩
        refine StepsI.cons rfl ?_ ?_
        · rintro L zA v7 ⟨zB, zS, qa, qc, rfl, rfl, hF, hW⟩ hL hm K hK
          have hb11 : zB 11 = false := by simpa using hL
          have hb9 : zB 9 = true := by cases e : zB 9 with | false => (exfalso; revert hm; simp [metB, Region.binds, e]) | true => rfl
          have e9 : zS 68 = .bool false := hF.2.2.2.2.2.2.2.2.2.1 hb9
          clear hL hm
          simp only [puts, Act.put, List.setIfInBounds_toArray, List.set_cons_zero, List.set_cons_succ]
          simp only [e9]
          go_simp
          exact hK.out _ _ ⟨fun zj => if zj = 9 then true else if zj = 11 then true else zB zj, fun zd => if zd = 70 then .int .i64 (i : Int) else if zd = 68 then .bool false else zS zd, qa, qc, by simp [hb9], by kernel_rfl, ⟨hF.1, hF.2.1, hF.2.2.1, hF.2.2.2.1, hF.2.2.2.2.1, hF.2.2.2.2.2.1, hF.2.2.2.2.2.2.1, hF.2.2.2.2.2.2.2.1, hF.2.2.2.2.2.2.2.2.1, fun _ => rfl, hF.2.2.2.2.2.2.2.2.2.2.1, fun _ => rfl, hF.2.2.2.2.2.2.2.2.2.2.2.2.1, hF.2.2.2.2.2.2.2.2.2.2.2.2.2.1, hF.2.2.2.2.2.2.2.2.2.2.2.2.2.2.1, hF.2.2.2.2.2.2.2.2.2.2.2.2.2.2.2.1, hF.2.2.2.2.2.2.2.2.2.2.2.2.2.2.2.2.1, hF.2.2.2.2.2.2.2.2.2.2.2.2.2.2.2.2.2.1, hF.2.2.2.2.2.2.2.2.2.2.2.2.2.2.2.2.2.2.1, hF.2.2.2.2.2.2.2.2.2.2.2.2.2.2.2.2.2.2.2.1, hF.2.2.2.2.2.2.2.2.2.2.2.2.2.2.2.2.2.2.2.2.1, hF.2.2.2.2.2.2.2.2.2.2.2.2.2.2.2.2.2.2.2.2.2.1, hF.2.2.2.2.2.2.2.2.2.2.2.2.2.2.2.2.2.2.2.2.2.2.1, hF.2.2.2.2.2.2.2.2.2.2.2.2.2.2.2.2.2.2.2.2.2.2.2.1, hF.2.2.2.2.2.2.2.2.2.2.2.2.2.2.2.2.2.2.2.2.2.2.2.2.1, hF.2.2.2.2.2.2.2.2.2.2.2.2.2.2.2.2.2.2.2.2.2.2.2.2.2.1, hF.2.2.2.2.2.2.2.2.2.2.2.2.2.2.2.2.2.2.2.2.2.2.2.2.2.2⟩, hW⟩
        refine StepsI.cons rfl ?_ ?_
        · rintro L zA v7 ⟨zB, zS, qa, qc, rfl, rfl, hF, hW⟩ hL hm K hK
          have hb12 : zB 12 = false := by simpa using hL
          have hb9 : zB 9 = true := by cases e : zB 9 with | false => (exfalso; revert hm; simp [metB, Region.binds, e]) | true => rfl
          have e9 : zS 68 = .bool false := hF.2.2.2.2.2.2.2.2.2.1 hb9
          clear hL hm
          simp only [puts, Act.put, List.setIfInBounds_toArray, List.set_cons_zero, List.set_cons_succ]
          simp only [e9]
          go_simp
          exact hK.out _ _ ⟨fun zj => if zj = 9 then true else if zj = 12 then true else zB zj, fun zd => if zd = 71 then .slice (some ⟨gv, 0, none⟩) q cv else if zd = 68 then .bool false else zS zd, qa, qc, by simp [hb9], by kernel_rfl, ⟨hF.1, hF.2.1, hF.2.2.1, hF.2.2.2.1, hF.2.2.2.2.1, hF.2.2.2.2.2.1, hF.2.2.2.2.2.2.1, hF.2.2.2.2.2.2.2.1, hF.2.2.2.2.2.2.2.2.1, fun _ => rfl, hF.2.2.2.2.2.2.2.2.2.2.1, hF.2.2.2.2.2.2.2.2.2.2.2.1, fun _ => rfl, hF.2.2.2.2.2.2.2.2.2.2.2.2.2.1, hF.2.2.2.2.2.2.2.2.2.2.2.2.2.2.1, hF.2.2.2.2.2.2.2.2.2.2.2.2.2.2.2.1, hF.2.2.2.2.2.2.2.2.2.2.2.2.2.2.2.2.1, hF.2.2.2.2.2.2.2.2.2.2.2.2.2.2.2.2.2.1, hF.2.2.2.2.2.2.2.2.2.2.2.2.2.2.2.2.2.2.1, hF.2.2.2.2.2.2.2.2.2.2.2.2.2.2.2.2.2.2.2.1, hF.2.2.2.2.2.2.2.2.2.2.2.2.2.2.2.2.2.2.2.2.1, hF.2.2.2.2.2.2.2.2.2.2.2.2.2.2.2.2.2.2.2.2.2.1, hF.2.2.2.2.2.2.2.2.2.2.2.2.2.2.2.2.2.2.2.2.2.2.1, hF.2.2.2.2.2.2.2.2.2.2.2.2.2.2.2.2.2.2.2.2.2.2.2.1, hF.2.2.2.2.2.2.2.2.2.2.2.2.2.2.2.2.2.2.2.2.2.2.2.2.1, hF.2.2.2.2.2.2.2.2.2.2.2.2.2.2.2.2.2.2.2.2.2.2.2.2.2.1, hF.2.2.2.2.2.2.2.2.2.2.2.2.2.2.2.2.2.2.2.2.2.2.2.2.2.2⟩, hW⟩
        refine StepsI.cons rfl ?_ ?_
        · rintro L zA v7 ⟨zB, zS, qa, qc, rfl, rfl, hF, hW⟩ hL hm K hK
          have hb13 : zB 13 = false := by simpa using hL
          have hb9 : zB 9 = true := by cases e : zB 9 with | false => (exfalso; revert hm; simp [metB, Region.binds, e]) | true => rfl
          have e9 : zS 68 = .bool false := hF.2.2.2.2.2.2.2.2.2.1 hb9
          clear hL hm
          simp only [puts, Act.put, List.setIfInBounds_toArray, List.set_cons_zero, List.set_cons_succ]
          simp only [e9]
          go_simp
          exact hK.out _ _ ⟨fun zj => if zj = 9 then true else if zj = 13 then true else zB zj, fun zd => if zd = 72 then .int .i64 (i : Int) else if zd = 68 then .bool false else zS zd, qa, qc, by simp [hb9], by kernel_rfl, ⟨hF.1, hF.2.1, hF.2.2.1, hF.2.2.2.1, hF.2.2.2.2.1, hF.2.2.2.2.2.1, hF.2.2.2.2.2.2.1, hF.2.2.2.2.2.2.2.1, hF.2.2.2.2.2.2.2.2.1, fun _ => rfl, hF.2.2.2.2.2.2.2.2.2.2.1, hF.2.2.2.2.2.2.2.2.2.2.2.1, hF.2.2.2.2.2.2.2.2.2.2.2.2.1, fun _ => rfl, hF.2.2.2.2.2.2.2.2.2.2.2.2.2.2.1, hF.2.2.2.2.2.2.2.2.2.2.2.2.2.2.2.1, hF.2.2.2.2.2.2.2.2.2.2.2.2.2.2.2.2.1, hF.2.2.2.2.2.2.2.2.2.2.2.2.2.2.2.2.2.1, hF.2.2.2.2.2.2.2.2.2.2.2.2.2.2.2.2.2.2.1, hF.2.2.2.2.2.2.2.2.2.2.2.2.2.2.2.2.2.2.2.1, hF.2.2.2.2.2.2.2.2.2.2.2.2.2.2.2.2.2.2.2.2.1, hF.2.2.2.2.2.2.2.2.2.2.2.2.2.2.2.2.2.2.2.2.2.1, hF.2.2.2.2.2.2.2.2.2.2.2.2.2.2.2.2.2.2.2.2.2.2.1, hF.2.2.2.2.2.2.2.2.2.2.2.2.2.2.2.2.2.2.2.2.2.2.2.1, hF.2.2.2.2.2.2.2.2.2.2.2.2.2.2.2.2.2.2.2.2.2.2.2.2.1, hF.2.2.2.2.2.2.2.2.2.2.2.2.2.2.2.2.2.2.2.2.2.2.2.2.2.1, hF.2.2.2.2.2.2.2.2.2.2.2.2.2.2.2.2.2.2.2.2.2.2.2.2.2.2⟩, hW⟩
        refine StepsI.cons rfl ?_ ?_
        · rintro L zA v7 ⟨zB, zS, qa, qc, rfl, rfl, hF, hW⟩ hL hm K hK
          have hb14 : zB 14 = false := by simpa using hL
          have hb9 : zB 9 = true := by cases e : zB 9 with | false => (exfalso; revert hm; simp [metB, Region.binds, e]) | true => rfl
          have hb12 : zB 12 = true := by cases e : zB 12 with | false => (exfalso; revert hm; simp [metB, Region.binds, e]) | true => rfl
          have hb13 : zB 13 = true := by cases e : zB 13 with | false => (exfalso; revert hm; simp [metB, Region.binds, e]) | true => rfl
          have e9 : zS 68 = .bool false := hF.2.2.2.2.2.2.2.2.2.1 hb9
          have e12 : zS 71 = .slice (some ⟨gv, 0, none⟩) q cv := hF.2.2.2.2.2.2.2.2.2.2.2.2.1 hb12
          have e13 : zS 72 = .int .i64 (i : Int) := hF.2.2.2.2.2.2.2.2.2.2.2.2.2.1 hb13
          clear hL hm
          simp only [puts, Act.put, List.setIfInBounds_toArray, List.set_cons_zero, List.set_cons_succ]
          simp only [e9, e12, e13]
          go_simp
          exact hK.out _ _ ⟨fun zj => if zj = 13 then true else if zj = 12 then true else if zj = 9 then true else if zj = 14 then true else zB zj, fun zd => if zd = 73 then .pointer (some ⟨gv, i, none⟩) else if zd = 72 then .int .i64 (i : Int) else if zd = 71 then .slice (some ⟨gv, 0, none⟩) q cv else if zd = 68 then .bool false else zS zd, qa, qc, by simp [hb9, hb12, hb13], by kernel_rfl, ⟨hF.1, hF.2.1, hF.2.2.1, hF.2.2.2.1, hF.2.2.2.2.1, hF.2.2.2.2.2.1, hF.2.2.2.2.2.2.1, hF.2.2.2.2.2.2.2.1, hF.2.2.2.2.2.2.2.2.1, fun _ => rfl, hF.2.2.2.2.2.2.2.2.2.2.1, hF.2.2.2.2.2.2.2.2.2.2.2.1, fun _ => rfl, fun _ => rfl, fun _ => rfl, hF.2.2.2.2.2.2.2.2.2.2.2.2.2.2.2.1, hF.2.2.2.2.2.2.2.2.2.2.2.2.2.2.2.2.1, hF.2.2.2.2.2.2.2.2.2.2.2.2.2.2.2.2.2.1, hF.2.2.2.2.2.2.2.2.2.2.2.2.2.2.2.2.2.2.1, hF.2.2.2.2.2.2.2.2.2.2.2.2.2.2.2.2.2.2.2.1, hF.2.2.2.2.2.2.2.2.2.2.2.2.2.2.2.2.2.2.2.2.1, hF.2.2.2.2.2.2.2.2.2.2.2.2.2.2.2.2.2.2.2.2.2.1, hF.2.2.2.2.2.2.2.2.2.2.2.2.2.2.2.2.2.2.2.2.2.2.1, hF.2.2.2.2.2.2.2.2.2.2.2.2.2.2.2.2.2.2.2.2.2.2.2.1, hF.2.2.2.2.2.2.2.2.2.2.2.2.2.2.2.2.2.2.2.2.2.2.2.2.1, hF.2.2.2.2.2.2.2.2.2.2.2.2.2.2.2.2.2.2.2.2.2.2.2.2.2.1, hF.2.2.2.2.2.2.2.2.2.2.2.2.2.2.2.2.2.2.2.2.2.2.2.2.2.2⟩, hW⟩
        refine StepsI.cons rfl ?_ ?_
        · rintro L zA v7 ⟨zB, zS, qa, qc, rfl, rfl, hF, hW⟩ hL hm K hK
          have hb15 : zB 15 = false := by simpa using hL
          have hb9 : zB 9 = true := by cases e : zB 9 with | false => (exfalso; revert hm; simp [metB, Region.binds, e]) | true => rfl
          have hb14 : zB 14 = true := by cases e : zB 14 with | false => (exfalso; revert hm; simp [metB, Region.binds, e]) | true => rfl
          have e9 : zS 68 = .bool false := hF.2.2.2.2.2.2.2.2.2.1 hb9
          have e14 : zS 73 = .pointer (some ⟨gv, i, none⟩) := hF.2.2.2.2.2.2.2.2.2.2.2.2.2.2.1 hb14
          clear hL hm
          simp only [puts, Act.put, List.setIfInBounds_toArray, List.set_cons_zero, List.set_cons_succ]
          simp only [e9, e14]
          have d0 := hX6 _ hW.1
          go_simp
          exact hK.out _ _ ⟨fun zj => if zj = 14 then true else if zj = 9 then true else if zj = 15 then true else zB zj, fun zd => if zd = 74 then .int .i64 x else if zd = 73 then .pointer (some ⟨gv, i, none⟩) else if zd = 68 then .bool false else zS zd, qa, qc, by simp [hb9, hb14], by kernel_rfl, ⟨hF.1, hF.2.1, hF.2.2.1, hF.2.2.2.1, hF.2.2.2.2.1, hF.2.2.2.2.2.1, hF.2.2.2.2.2.2.1, hF.2.2.2.2.2.2.2.1, hF.2.2.2.2.2.2.2.2.1, fun _ => rfl, hF.2.2.2.2.2.2.2.2.2.2.1, hF.2.2.2.2.2.2.2.2.2.2.2.1, hF.2.2.2.2.2.2.2.2.2.2.2.2.1, hF.2.2.2.2.2.2.2.2.2.2.2.2.2.1, fun _ => rfl, fun _ => rfl, hF.2.2.2.2.2.2.2.2.2.2.2.2.2.2.2.2.1, hF.2.2.2.2.2.2.2.2.2.2.2.2.2.2.2.2.2.1, hF.2.2.2.2.2.2.2.2.2.2.2.2.2.2.2.2.2.2.1, hF.2.2.2.2.2.2.2.2.2.2.2.2.2.2.2.2.2.2.2.1, hF.2.2.2.2.2.2.2.2.2.2.2.2.2.2.2.2.2.2.2.2.1, hF.2.2.2.2.2.2.2.2.2.2.2.2.2.2.2.2.2.2.2.2.2.1, hF.2.2.2.2.2.2.2.2.2.2.2.2.2.2.2.2.2.2.2.2.2.2.1, hF.2.2.2.2.2.2.2.2.2.2.2.2.2.2.2.2.2.2.2.2.2.2.2.1, hF.2.2.2.2.2.2.2.2.2.2.2.2.2.2.2.2.2.2.2.2.2.2.2.2.1, hF.2.2.2.2.2.2.2.2.2.2.2.2.2.2.2.2.2.2.2.2.2.2.2.2.2.1, hF.2.2.2.2.2.2.2.2.2.2.2.2.2.2.2.2.2.2.2.2.2.2.2.2.2.2⟩, hW⟩
        refine StepsI.cons rfl ?_ ?_
        · rintro L zA v7 ⟨zB, zS, qa, qc, rfl, rfl, hF, hW⟩ hL hm K hK
          have hb16 : zB 16 = false := by simpa using hL
          have hb9 : zB 9 = true := by cases e : zB 9 with | false => (exfalso; revert hm; simp [metB, Region.binds, e]) | true => rfl
          have e9 : zS 68 = .bool false := hF.2.2.2.2.2.2.2.2.2.1 hb9
          clear hL hm
          simp only [puts, Act.put, List.setIfInBounds_toArray, List.set_cons_zero, List.set_cons_succ]
          simp only [e9]
          go_simp
          exact hK.out _ _ ⟨fun zj => if zj = 9 then true else if zj = 16 then true else zB zj, fun zd => if zd = 75 then .slice (some ⟨gv, 0, none⟩) q cv else if zd = 68 then .bool false else zS zd, qa, qc, by simp [hb9], by kernel_rfl, ⟨hF.1, hF.2.1, hF.2.2.1, hF.2.2.2.1, hF.2.2.2.2.1, hF.2.2.2.2.2.1, hF.2.2.2.2.2.2.1, hF.2.2.2.2.2.2.2.1, hF.2.2.2.2.2.2.2.2.1, fun _ => rfl, hF.2.2.2.2.2.2.2.2.2.2.1, hF.2.2.2.2.2.2.2.2.2.2.2.1, hF.2.2.2.2.2.2.2.2.2.2.2.2.1, hF.2.2.2.2.2.2.2.2.2.2.2.2.2.1, hF.2.2.2.2.2.2.2.2.2.2.2.2.2.2.1, hF.2.2.2.2.2.2.2.2.2.2.2.2.2.2.2.1, fun _ => rfl, hF.2.2.2.2.2.2.2.2.2.2.2.2.2.2.2.2.2.1, hF.2.2.2.2.2.2.2.2.2.2.2.2.2.2.2.2.2.2.1, hF.2.2.2.2.2.2.2.2.2.2.2.2.2.2.2.2.2.2.2.1, hF.2.2.2.2.2.2.2.2.2.2.2.2.2.2.2.2.2.2.2.2.1, hF.2.2.2.2.2.2.2.2.2.2.2.2.2.2.2.2.2.2.2.2.2.1, hF.2.2.2.2.2.2.2.2.2.2.2.2.2.2.2.2.2.2.2.2.2.2.1, hF.2.2.2.2.2.2.2.2.2.2.2.2.2.2.2.2.2.2.2.2.2.2.2.1, hF.2.2.2.2.2.2.2.2.2.2.2.2.2.2.2.2.2.2.2.2.2.2.2.2.1, hF.2.2.2.2.2.2.2.2.2.2.2.2.2.2.2.2.2.2.2.2.2.2.2.2.2.1, hF.2.2.2.2.2.2.2.2.2.2.2.2.2.2.2.2.2.2.2.2.2.2.2.2.2.2⟩, hW⟩
        refine StepsI.cons rfl ?_ ?_
        · rintro L zA v7 ⟨zB, zS, qa, qc, rfl, rfl, hF, hW⟩ hL hm K hK
          have hb17 : zB 17 = false := by simpa using hL
          have hb9 : zB 9 = true := by cases e : zB 9 with | false => (exfalso; revert hm; simp [metB, Region.binds, e]) | true => rfl
          have e9 : zS 68 = .bool false := hF.2.2.2.2.2.2.2.2.2.1 hb9
          clear hL hm
          simp only [puts, Act.put, List.setIfInBounds_toArray, List.set_cons_zero, List.set_cons_succ]
          simp only [e9]
          go_simp
          exact hK.out _ _ ⟨fun zj => if zj = 9 then true else if zj = 17 then true else zB zj, fun zd => if zd = 76 then .int .i64 (i : Int) else if zd = 68 then .bool false else zS zd, qa, qc, by simp [hb9], by kernel_rfl, ⟨hF.1, hF.2.1, hF.2.2.1, hF.2.2.2.1, hF.2.2.2.2.1, hF.2.2.2.2.2.1, hF.2.2.2.2.2.2.1, hF.2.2.2.2.2.2.2.1, hF.2.2.2.2.2.2.2.2.1, fun _ => rfl, hF.2.2.2.2.2.2.2.2.2.2.1, hF.2.2.2.2.2.2.2.2.2.2.2.1, hF.2.2.2.2.2.2.2.2.2.2.2.2.1, hF.2.2.2.2.2.2.2.2.2.2.2.2.2.1, hF.2.2.2.2.2.2.2.2.2.2.2.2.2.2.1, hF.2.2.2.2.2.2.2.2.2.2.2.2.2.2.2.1, hF.2.2.2.2.2.2.2.2.2.2.2.2.2.2.2.2.1, fun _ => rfl, hF.2.2.2.2.2.2.2.2.2.2.2.2.2.2.2.2.2.2.1, hF.2.2.2.2.2.2.2.2.2.2.2.2.2.2.2.2.2.2.2.1, hF.2.2.2.2.2.2.2.2.2.2.2.2.2.2.2.2.2.2.2.2.1, hF.2.2.2.2.2.2.2.2.2.2.2.2.2.2.2.2.2.2.2.2.2.1, hF.2.2.2.2.2.2.2.2.2.2.2.2.2.2.2.2.2.2.2.2.2.2.1, hF.2.2.2.2.2.2.2.2.2.2.2.2.2.2.2.2.2.2.2.2.2.2.2.1, hF.2.2.2.2.2.2.2.2.2.2.2.2.2.2.2.2.2.2.2.2.2.2.2.2.1, hF.2.2.2.2.2.2.2.2.2.2.2.2.2.2.2.2.2.2.2.2.2.2.2.2.2.1, hF.2.2.2.2.2.2.2.2.2.2.2.2.2.2.2.2.2.2.2.2.2.2.2.2.2.2⟩, hW⟩
        refine StepsI.cons rfl ?_ ?_
        · rintro L zA v7 ⟨zB, zS, qa, qc, rfl, rfl, hF, hW⟩ hL hm K hK
          have hb18 : zB 18 = false := by simpa using hL
          have hb9 : zB 9 = true := by cases e : zB 9 with | false => (exfalso; revert hm; simp [metB, Region.binds, e]) | true => rfl
          have hb16 : zB 16 = true := by cases e : zB 16 with | false => (exfalso; revert hm; simp [metB, Region.binds, e]) | true => rfl
          have hb17 : zB 17 = true := by cases e : zB 17 with | false => (exfalso; revert hm; simp [metB, Region.binds, e]) | true => rfl
          have e9 : zS 68 = .bool false := hF.2.2.2.2.2.2.2.2.2.1 hb9
          have e16 : zS 75 = .slice (some ⟨gv, 0, none⟩) q cv := hF.2.2.2.2.2.2.2.2.2.2.2.2.2.2.2.2.1 hb16
          have e17 : zS 76 = .int .i64 (i : Int) := hF.2.2.2.2.2.2.2.2.2.2.2.2.2.2.2.2.2.1 hb17
          clear hL hm
          simp only [puts, Act.put, List.setIfInBounds_toArray, List.set_cons_zero, List.set_cons_succ]
          simp only [e9, e16, e17]
          go_simp
          exact hK.out _ _ ⟨fun zj => if zj = 17 then true else if zj = 16 then true else if zj = 9 then true else if zj = 18 then true else zB zj, fun zd => if zd = 77 then .pointer (some ⟨gv, i, none⟩) else if zd = 76 then .int .i64 (i : Int) else if zd = 75 then .slice (some ⟨gv, 0, none⟩) q cv else if zd = 68 then .bool false else zS zd, qa, qc, by simp [hb9, hb16, hb17], by kernel_rfl, ⟨hF.1, hF.2.1, hF.2.2.1, hF.2.2.2.1, hF.2.2.2.2.1, hF.2.2.2.2.2.1, hF.2.2.2.2.2.2.1, hF.2.2.2.2.2.2.2.1, hF.2.2.2.2.2.2.2.2.1, fun _ => rfl, hF.2.2.2.2.2.2.2.2.2.2.1, hF.2.2.2.2.2.2.2.2.2.2.2.1, hF.2.2.2.2.2.2.2.2.2.2.2.2.1, hF.2.2.2.2.2.2.2.2.2.2.2.2.2.1, hF.2.2.2.2.2.2.2.2.2.2.2.2.2.2.1, hF.2.2.2.2.2.2.2.2.2.2.2.2.2.2.2.1, fun _ => rfl, fun _ => rfl, fun _ => rfl, hF.2.2.2.2.2.2.2.2.2.2.2.2.2.2.2.2.2.2.2.1, hF.2.2.2.2.2.2.2.2.2.2.2.2.2.2.2.2.2.2.2.2.1, hF.2.2.2.2.2.2.2.2.2.2.2.2.2.2.2.2.2.2.2.2.2.1, hF.2.2.2.2.2.2.2.2.2.2.2.2.2.2.2.2.2.2.2.2.2.2.1, hF.2.2.2.2.2.2.2.2.2.2.2.2.2.2.2.2.2.2.2.2.2.2.2.1, hF.2.2.2.2.2.2.2.2.2.2.2.2.2.2.2.2.2.2.2.2.2.2.2.2.1, hF.2.2.2.2.2.2.2.2.2.2.2.2.2.2.2.2.2.2.2.2.2.2.2.2.2.1, hF.2.2.2.2.2.2.2.2.2.2.2.2.2.2.2.2.2.2.2.2.2.2.2.2.2.2⟩, hW⟩
        refine StepsI.cons rfl ?_ ?_
        · rintro L zA v7 ⟨zB, zS, qa, qc, rfl, rfl, hF, hW⟩ hL hm K hK
          have hb19 : zB 19 = false := by simpa using hL
          have hb9 : zB 9 = true := by cases e : zB 9 with | false => (exfalso; revert hm; simp [metB, Region.binds, e]) | true => rfl
          have hb18 : zB 18 = true := by cases e : zB 18 with | false => (exfalso; revert hm; simp [metB, Region.binds, e]) | true => rfl
          have e9 : zS 68 = .bool false := hF.2.2.2.2.2.2.2.2.2.1 hb9
          have e18 : zS 77 = .pointer (some ⟨gv, i, none⟩) := hF.2.2.2.2.2.2.2.2.2.2.2.2.2.2.2.2.2.2.1 hb18
          clear hL hm
          simp only [puts, Act.put, List.setIfInBounds_toArray, List.set_cons_zero, List.set_cons_succ]
          simp only [e9, e18]
          have d0 := hX6 _ hW.1
          go_simp
          exact hK.out _ _ ⟨fun zj => if zj = 18 then true else if zj = 9 then true else if zj = 19 then true else zB zj, fun zd => if zd = 78 then .int .i64 x else if zd = 77 then .pointer (some ⟨gv, i, none⟩) else if zd = 68 then .bool false else zS zd, qa, qc, by simp [hb9, hb18], by kernel_rfl, ⟨hF.1, hF.2.1, hF.2.2.1, hF.2.2.2.1, hF.2.2.2.2.1, hF.2.2.2.2.2.1, hF.2.2.2.2.2.2.1, hF.2.2.2.2.2.2.2.1, hF.2.2.2.2.2.2.2.2.1, fun _ => rfl, hF.2.2.2.2.2.2.2.2.2.2.1, hF.2.2.2.2.2.2.2.2.2.2.2.1, hF.2.2.2.2.2.2.2.2.2.2.2.2.1, hF.2.2.2.2.2.2.2.2.2.2.2.2.2.1, hF.2.2.2.2.2.2.2.2.2.2.2.2.2.2.1, hF.2.2.2.2.2.2.2.2.2.2.2.2.2.2.2.1, hF.2.2.2.2.2.2.2.2.2.2.2.2.2.2.2.2.1, hF.2.2.2.2.2.2.2.2.2.2.2.2.2.2.2.2.2.1, fun _ => rfl, fun _ => rfl, hF.2.2.2.2.2.2.2.2.2.2.2.2.2.2.2.2.2.2.2.2.1, hF.2.2.2.2.2.2.2.2.2.2.2.2.2.2.2.2.2.2.2.2.2.1, hF.2.2.2.2.2.2.2.2.2.2.2.2.2.2.2.2.2.2.2.2.2.2.1, hF.2.2.2.2.2.2.2.2.2.2.2.2.2.2.2.2.2.2.2.2.2.2.2.1, hF.2.2.2.2.2.2.2.2.2.2.2.2.2.2.2.2.2.2.2.2.2.2.2.2.1, hF.2.2.2.2.2.2.2.2.2.2.2.2.2.2.2.2.2.2.2.2.2.2.2.2.2.1, hF.2.2.2.2.2.2.2.2.2.2.2.2.2.2.2.2.2.2.2.2.2.2.2.2.2.2⟩, hW⟩
        refine StepsI.cons rfl ?_ ?_
        · rintro L zA v7 ⟨zB, zS, qa, qc, rfl, rfl, hF, hW⟩ hL hm K hK
          have hb20 : zB 20 = false := by simpa using hL
          have hb9 : zB 9 = true := by cases e : zB 9 with | false => (exfalso; revert hm; simp [metB, Region.binds, e]) | true => rfl
          have hb19 : zB 19 = true := by cases e : zB 19 with | false => (exfalso; revert hm; simp [metB, Region.binds, e]) | true => rfl
          have e9 : zS 68 = .bool false := hF.2.2.2.2.2.2.2.2.2.1 hb9
          have e19 : zS 78 = .int .i64 x := hF.2.2.2.2.2.2.2.2.2.2.2.2.2.2.2.2.2.2.2.1 hb19
          clear hL hm
          simp only [puts, Act.put, List.setIfInBounds_toArray, List.set_cons_zero, List.set_cons_succ]
          simp only [e9, e19]
          go_simp
          exact hK.out _ _ ⟨fun zj => if zj = 19 then true else if zj = 9 then true else if zj = 20 then true else zB zj, fun zd => if zd = 79 then .int .i64 (x + 2) else if zd = 78 then .int .i64 x else if zd = 68 then .bool false else zS zd, qa, qc, by simp [hb9, hb19], by kernel_rfl, ⟨hF.1, hF.2.1, hF.2.2.1, hF.2.2.2.1, hF.2.2.2.2.1, hF.2.2.2.2.2.1, hF.2.2.2.2.2.2.1, hF.2.2.2.2.2.2.2.1, hF.2.2.2.2.2.2.2.2.1, fun _ => rfl, hF.2.2.2.2.2.2.2.2.2.2.1, hF.2.2.2.2.2.2.2.2.2.2.2.1, hF.2.2.2.2.2.2.2.2.2.2.2.2.1, hF.2.2.2.2.2.2.2.2.2.2.2.2.2.1, hF.2.2.2.2.2.2.2.2.2.2.2.2.2.2.1, hF.2.2.2.2.2.2.2.2.2.2.2.2.2.2.2.1, hF.2.2.2.2.2.2.2.2.2.2.2.2.2.2.2.2.1, hF.2.2.2.2.2.2.2.2.2.2.2.2.2.2.2.2.2.1, hF.2.2.2.2.2.2.2.2.2.2.2.2.2.2.2.2.2.2.1, fun _ => rfl, fun _ => rfl, hF.2.2.2.2.2.2.2.2.2.2.2.2.2.2.2.2.2.2.2.2.2.1, hF.2.2.2.2.2.2.2.2.2.2.2.2.2.2.2.2.2.2.2.2.2.2.1, hF.2.2.2.2.2.2.2.2.2.2.2.2.2.2.2.2.2.2.2.2.2.2.2.1, hF.2.2.2.2.2.2.2.2.2.2.2.2.2.2.2.2.2.2.2.2.2.2.2.2.1, hF.2.2.2.2.2.2.2.2.2.2.2.2.2.2.2.2.2.2.2.2.2.2.2.2.2.1, hF.2.2.2.2.2.2.2.2.2.2.2.2.2.2.2.2.2.2.2.2.2.2.2.2.2.2⟩, hW⟩
        refine StepsI.cons rfl ?_ ?_
        · rintro L zA v7 ⟨zB, zS, qa, qc, rfl, rfl, hF, hW⟩ hL hm K hK
          have hb21 : zB 21 = false := by simpa using hL
          have hb9 : zB 9 = true := by cases e : zB 9 with | false => (exfalso; revert hm; simp [metB, Region.binds, e]) | true => rfl
          have hb15 : zB 15 = true := by cases e : zB 15 with | false => (exfalso; revert hm; simp [metB, Region.binds, e]) | true => rfl
          have hb20 : zB 20 = true := by cases e : zB 20 with | false => (exfalso; revert hm; simp [metB, Region.binds, e]) | true => rfl
          have e9 : zS 68 = .bool false := hF.2.2.2.2.2.2.2.2.2.1 hb9
          have e15 : zS 74 = .int .i64 x := hF.2.2.2.2.2.2.2.2.2.2.2.2.2.2.2.1 hb15
          have e20 : zS 79 = .int .i64 (x + 2) := hF.2.2.2.2.2.2.2.2.2.2.2.2.2.2.2.2.2.2.2.2.1 hb20
          clear hL hm
          simp only [puts, Act.put, List.setIfInBounds_toArray, List.set_cons_zero, List.set_cons_succ]
          simp only [e9, e15, e20]
          go_simp
          exact hK.out _ _ ⟨fun zj => if zj = 20 then true else if zj = 15 then true else if zj = 9 then true else if zj = 21 then true else zB zj, fun zd => if zd = 80 then .agg #[.int .i64 x, .int .i64 (x + 2)] else if zd = 79 then .int .i64 (x + 2) else if zd = 74 then .int .i64 x else if zd = 68 then .bool false else zS zd, qa, qc, by simp [hb9, hb15, hb20], by kernel_rfl, ⟨hF.1, hF.2.1, hF.2.2.1, hF.2.2.2.1, hF.2.2.2.2.1, hF.2.2.2.2.2.1, hF.2.2.2.2.2.2.1, hF.2.2.2.2.2.2.2.1, hF.2.2.2.2.2.2.2.2.1, fun _ => rfl, hF.2.2.2.2.2.2.2.2.2.2.1, hF.2.2.2.2.2.2.2.2.2.2.2.1, hF.2.2.2.2.2.2.2.2.2.2.2.2.1, hF.2.2.2.2.2.2.2.2.2.2.2.2.2.1, hF.2.2.2.2.2.2.2.2.2.2.2.2.2.2.1, fun _ => rfl, hF.2.2.2.2.2.2.2.2.2.2.2.2.2.2.2.2.1, hF.2.2.2.2.2.2.2.2.2.2.2.2.2.2.2.2.2.1, hF.2.2.2.2.2.2.2.2.2.2.2.2.2.2.2.2.2.2.1, hF.2.2.2.2.2.2.2.2.2.2.2.2.2.2.2.2.2.2.2.1, fun _ => rfl, fun _ => rfl, hF.2.2.2.2.2.2.2.2.2.2.2.2.2.2.2.2.2.2.2.2.2.2.1, hF.2.2.2.2.2.2.2.2.2.2.2.2.2.2.2.2.2.2.2.2.2.2.2.1, hF.2.2.2.2.2.2.2.2.2.2.2.2.2.2.2.2.2.2.2.2.2.2.2.2.1, hF.2.2.2.2.2.2.2.2.2.2.2.2.2.2.2.2.2.2.2.2.2.2.2.2.2.1, hF.2.2.2.2.2.2.2.2.2.2.2.2.2.2.2.2.2.2.2.2.2.2.2.2.2.2⟩, hW⟩
        refine StepsI.cons rfl ?_ ?_
        · rintro L zA v7 ⟨zB, zS, qa, qc, rfl, rfl, hF, hW⟩ hL hm K hK
          have hb22 : zB 22 = false := by simpa using hL
          have hb9 : zB 9 = true := by cases e : zB 9 with | false => (exfalso; revert hm; simp [metB, Region.binds, e]) | true => rfl
          have hb10 : zB 10 = true := by cases e : zB 10 with | false => (exfalso; revert hm; simp [metB, Region.binds, e]) | true => rfl
          have hb11 : zB 11 = true := by cases e : zB 11 with | false => (exfalso; revert hm; simp [metB, Region.binds, e]) | true => rfl
          have hb21 : zB 21 = true := by cases e : zB 21 with | false => (exfalso; revert hm; simp [metB, Region.binds, e]) | true => rfl
          have e9 : zS 68 = .bool false := hF.2.2.2.2.2.2.2.2.2.1 hb9
          have e10 : zS 69 = .agg #[.int .i64 (q : Int), .slice ao l.length cp] := hF.2.2.2.2.2.2.2.2.2.2.1 hb10
          have e11 : zS 70 = .int .i64 (i : Int) := hF.2.2.2.2.2.2.2.2.2.2.2.1 hb11
          have e21 : zS 80 = .agg #[.int .i64 x, .int .i64 (x + 2)] := hF.2.2.2.2.2.2.2.2.2.2.2.2.2.2.2.2.2.2.2.2.2.1 hb21
          clear hL hm
          rw [hb22] at hW
          simp only [puts, Act.put, List.setIfInBounds_toArray, List.set_cons_zero, List.set_cons_succ]
          simp only [e9, e10, e11, e21]
          go_simp
          refine (HBN.out _ (K6.out.fL.below hW.1)).mono ?_
          rintro e v72 ⟨qa2, qc2, rfl, hO2, hb⟩
          go_wp2_with fail
          exact hK.out _ _ ⟨fun zj => if zj = 21 then true else if zj = 11 then true else if zj = 10 then true else if zj = 9 then true else if zj = 22 then true else zB zj, fun zd => if zd = 81 then .agg #[.int .i64 zb, .slice qa2 lb.length qc2] else if zd = 80 then .agg #[.int .i64 x, .int .i64 (x + 2)] else if zd = 70 then .int .i64 (i : Int) else if zd = 69 then .agg #[.int .i64 (q : Int), .slice ao l.length cp] else if zd = 68 then .bool false else zS zd, qa2, qc2, by simp [hb9, hb10, hb11, hb21], by kernel_rfl, ⟨hF.1, hF.2.1, hF.2.2.1, hF.2.2.2.1, hF.2.2.2.2.1, hF.2.2.2.2.2.1, hF.2.2.2.2.2.2.1, hF.2.2.2.2.2.2.2.1, hF.2.2.2.2.2.2.2.2.1, fun _ => rfl, fun _ => rfl, fun _ => rfl, hF.2.2.2.2.2.2.2.2.2.2.2.2.1, hF.2.2.2.2.2.2.2.2.2.2.2.2.2.1, hF.2.2.2.2.2.2.2.2.2.2.2.2.2.2.1, hF.2.2.2.2.2.2.2.2.2.2.2.2.2.2.2.1, hF.2.2.2.2.2.2.2.2.2.2.2.2.2.2.2.2.1, hF.2.2.2.2.2.2.2.2.2.2.2.2.2.2.2.2.2.1, hF.2.2.2.2.2.2.2.2.2.2.2.2.2.2.2.2.2.2.1, hF.2.2.2.2.2.2.2.2.2.2.2.2.2.2.2.2.2.2.2.1, hF.2.2.2.2.2.2.2.2.2.2.2.2.2.2.2.2.2.2.2.2.1, fun _ => rfl, fun _ => rfl, hF.2.2.2.2.2.2.2.2.2.2.2.2.2.2.2.2.2.2.2.2.2.2.2.1, hF.2.2.2.2.2.2.2.2.2.2.2.2.2.2.2.2.2.2.2.2.2.2.2.2.1, hF.2.2.2.2.2.2.2.2.2.2.2.2.2.2.2.2.2.2.2.2.2.2.2.2.2.1, hF.2.2.2.2.2.2.2.2.2.2.2.2.2.2.2.2.2.2.2.2.2.2.2.2.2.2⟩, ⟨below_step hW.1 hb, fun _ => hO2.at⟩⟩
        refine StepsI.cons rfl ?_ ?_
        · rintro L zA v7 ⟨zB, zS, qa, qc, rfl, rfl, hF, hW⟩ hL hm K hK
          have hb23 : zB 23 = false := by simpa using hL
          have hb9 : zB 9 = true := by cases e : zB 9 with | false => (exfalso; revert hm; simp [metB, Region.binds, e]) | true => rfl
          have e9 : zS 68 = .bool false := hF.2.2.2.2.2.2.2.2.2.1 hb9
          clear hL hm
          simp only [puts, Act.put, List.setIfInBounds_toArray, List.set_cons_zero, List.set_cons_succ]
          simp only [e9]
          go_simp
          exact hK.out _ _ ⟨fun zj => if zj = 9 then true else if zj = 23 then true else zB zj, fun zd => if zd = 82 then .slice (some ⟨gv, 0, none⟩) q cv else if zd = 68 then .bool false else zS zd, qa, qc, by simp [hb9], by kernel_rfl, ⟨hF.1, hF.2.1, hF.2.2.1, hF.2.2.2.1, hF.2.2.2.2.1, hF.2.2.2.2.2.1, hF.2.2.2.2.2.2.1, hF.2.2.2.2.2.2.2.1, hF.2.2.2.2.2.2.2.2.1, fun _ => rfl, hF.2.2.2.2.2.2.2.2.2.2.1, hF.2.2.2.2.2.2.2.2.2.2.2.1, hF.2.2.2.2.2.2.2.2.2.2.2.2.1, hF.2.2.2.2.2.2.2.2.2.2.2.2.2.1, hF.2.2.2.2.2.2.2.2.2.2.2.2.2.2.1, hF.2.2.2.2.2.2.2.2.2.2.2.2.2.2.2.1, hF.2.2.2.2.2.2.2.2.2.2.2.2.2.2.2.2.1, hF.2.2.2.2.2.2.2.2.2.2.2.2.2.2.2.2.2.1, hF.2.2.2.2.2.2.2.2.2.2.2.2.2.2.2.2.2.2.1, hF.2.2.2.2.2.2.2.2.2.2.2.2.2.2.2.2.2.2.2.1, hF.2.2.2.2.2.2.2.2.2.2.2.2.2.2.2.2.2.2.2.2.1, hF.2.2.2.2.2.2.2.2.2.2.2.2.2.2.2.2.2.2.2.2.2.1, hF.2.2.2.2.2.2.2.2.2.2.2.2.2.2.2.2.2.2.2.2.2.2.1, fun _ => rfl, hF.2.2.2.2.2.2.2.2.2.2.2.2.2.2.2.2.2.2.2.2.2.2.2.2.1, hF.2.2.2.2.2.2.2.2.2.2.2.2.2.2.2.2.2.2.2.2.2.2.2.2.2.1, hF.2.2.2.2.2.2.2.2.2.2.2.2.2.2.2.2.2.2.2.2.2.2.2.2.2.2⟩, hW⟩
        refine StepsI.cons rfl ?_ ?_
        · rintro L zA v7 ⟨zB, zS, qa, qc, rfl, rfl, hF, hW⟩ hL hm K hK
          have hb24 : zB 24 = false := by simpa using hL
          have hb9 : zB 9 = true := by cases e : zB 9 with | false => (exfalso; revert hm; simp [metB, Region.binds, e]) | true => rfl
          have hb22 : zB 22 = true := by cases e : zB 22 with | false => (exfalso; revert hm; simp [metB, Region.binds, e]) | true => rfl
          have hb23 : zB 23 = true := by cases e : zB 23 with | false => (exfalso; revert hm; simp [metB, Region.binds, e]) | true => rfl
          have e9 : zS 68 = .bool false := hF.2.2.2.2.2.2.2.2.2.1 hb9
          have e22 : zS 81 = .agg #[.int .i64 zb, .slice qa lb.length qc] := hF.2.2.2.2.2.2.2.2.2.2.2.2.2.2.2.2.2.2.2.2.2.2.1 hb22
          have e23 : zS 82 = .slice (some ⟨gv, 0, none⟩) q cv := hF.2.2.2.2.2.2.2.2.2.2.2.2.2.2.2.2.2.2.2.2.2.2.2.1 hb23
          clear hL hm
          rw [hb22] at hW
          simp only [puts, Act.put, List.setIfInBounds_toArray, List.set_cons_zero, List.set_cons_succ]
          simp only [e9, e22, e23]
          go_simp
          refine (HBH.out _ _ _ (hW.2 (by first | rfl | trivial)) (O6.out.below hW.1).at).mono ?_
          rintro e v72 ⟨rfl, hb⟩
          go_wp2_with fail
          exact hK.out _ _ ⟨fun zj => if zj = 23 then true else if zj = 22 then true else if zj = 9 then true else if zj = 24 then true else zB zj, fun zd => if zd = 83 then .bool true else if zd = 82 then .slice (some ⟨gv, 0, none⟩) q cv else if zd = 81 then .agg #[.int .i64 zb, .slice qa lb.length qc] else if zd = 68 then .bool false else zS zd, qa, qc, by simp [hb9, hb22, hb23], by kernel_rfl, ⟨hF.1, hF.2.1, hF.2.2.1, hF.2.2.2.1, hF.2.2.2.2.1, hF.2.2.2.2.2.1, hF.2.2.2.2.2.2.1, hF.2.2.2.2.2.2.2.1, hF.2.2.2.2.2.2.2.2.1, fun _ => rfl, hF.2.2.2.2.2.2.2.2.2.2.1, hF.2.2.2.2.2.2.2.2.2.2.2.1, hF.2.2.2.2.2.2.2.2.2.2.2.2.1, hF.2.2.2.2.2.2.2.2.2.2.2.2.2.1, hF.2.2.2.2.2.2.2.2.2.2.2.2.2.2.1, hF.2.2.2.2.2.2.2.2.2.2.2.2.2.2.2.1, hF.2.2.2.2.2.2.2.2.2.2.2.2.2.2.2.2.1, hF.2.2.2.2.2.2.2.2.2.2.2.2.2.2.2.2.2.1, hF.2.2.2.2.2.2.2.2.2.2.2.2.2.2.2.2.2.2.1, hF.2.2.2.2.2.2.2.2.2.2.2.2.2.2.2.2.2.2.2.1, hF.2.2.2.2.2.2.2.2.2.2.2.2.2.2.2.2.2.2.2.2.1, hF.2.2.2.2.2.2.2.2.2.2.2.2.2.2.2.2.2.2.2.2.2.1, fun _ => rfl, fun _ => rfl, fun _ => rfl, hF.2.2.2.2.2.2.2.2.2.2.2.2.2.2.2.2.2.2.2.2.2.2.2.2.2.1, hF.2.2.2.2.2.2.2.2.2.2.2.2.2.2.2.2.2.2.2.2.2.2.2.2.2.2⟩, ⟨below_step hW.1 hb, fun _ => (hW.2 (by first | rfl | trivial)).below hb⟩⟩
        refine StepsI.cons rfl ?_ ?_
        · rintro L zA v7 ⟨zB, zS, qa, qc, rfl, rfl, hF, hW⟩ hL hm K hK
          have hb25 : zB 25 = false := by simpa using hL
          have hb9 : zB 9 = true := by cases e : zB 9 with | false => (exfalso; revert hm; simp [metB, Region.binds, e]) | true => rfl
          have hb24 : zB 24 = true := by cases e : zB 24 with | false => (exfalso; revert hm; simp [metB, Region.binds, e]) | true => rfl
          have e9 : zS 68 = .bool false := hF.2.2.2.2.2.2.2.2.2.1 hb9
          have e24 : zS 83 = .bool true := hF.2.2.2.2.2.2.2.2.2.2.2.2.2.2.2.2.2.2.2.2.2.2.2.2.1 hb24
          clear hL hm
          simp only [puts, Act.put, List.setIfInBounds_toArray, List.set_cons_zero, List.set_cons_succ]
          simp only [e9, e24]
          go_simp
          exact hK.out _ _ ⟨fun zj => if zj = 24 then true else if zj = 9 then true else if zj = 25 then true else zB zj, fun zd => if zd = 84 then .bool false else if zd = 83 then .bool true else if zd = 68 then .bool false else zS zd, qa, qc, by simp [hb9, hb24], by kernel_rfl, ⟨hF.1, hF.2.1, hF.2.2.1, hF.2.2.2.1, hF.2.2.2.2.1, hF.2.2.2.2.2.1, hF.2.2.2.2.2.2.1, hF.2.2.2.2.2.2.2.1, hF.2.2.2.2.2.2.2.2.1, fun _ => rfl, hF.2.2.2.2.2.2.2.2.2.2.1, hF.2.2.2.2.2.2.2.2.2.2.2.1, hF.2.2.2.2.2.2.2.2.2.2.2.2.1, hF.2.2.2.2.2.2.2.2.2.2.2.2.2.1, hF.2.2.2.2.2.2.2.2.2.2.2.2.2.2.1, hF.2.2.2.2.2.2.2.2.2.2.2.2.2.2.2.1, hF.2.2.2.2.2.2.2.2.2.2.2.2.2.2.2.2.1, hF.2.2.2.2.2.2.2.2.2.2.2.2.2.2.2.2.2.1, hF.2.2.2.2.2.2.2.2.2.2.2.2.2.2.2.2.2.2.1, hF.2.2.2.2.2.2.2.2.2.2.2.2.2.2.2.2.2.2.2.1, hF.2.2.2.2.2.2.2.2.2.2.2.2.2.2.2.2.2.2.2.2.1, hF.2.2.2.2.2.2.2.2.2.2.2.2.2.2.2.2.2.2.2.2.2.1, hF.2.2.2.2.2.2.2.2.2.2.2.2.2.2.2.2.2.2.2.2.2.2.1, hF.2.2.2.2.2.2.2.2.2.2.2.2.2.2.2.2.2.2.2.2.2.2.2.1, fun _ => rfl, fun _ => rfl, hF.2.2.2.2.2.2.2.2.2.2.2.2.2.2.2.2.2.2.2.2.2.2.2.2.2.2⟩, hW⟩
        refine StepsI.cons rfl ?_ ?_
        · rintro L zA v7 ⟨zB, zS, qa, qc, rfl, rfl, hF, hW⟩ hL hm K hK
          have hb26 : zB 26 = false := by simpa using hL
          have hb9 : zB 9 = true := by cases e : zB 9 with | false => (exfalso; revert hm; simp [metB, Region.binds, e]) | true => rfl
          have hb25 : zB 25 = true := by cases e : zB 25 with | false => (exfalso; revert hm; simp [metB, Region.binds, e]) | true => rfl
          have e9 : zS 68 = .bool false := hF.2.2.2.2.2.2.2.2.2.1 hb9
          have e25 : zS 84 = .bool false := hF.2.2.2.2.2.2.2.2.2.2.2.2.2.2.2.2.2.2.2.2.2.2.2.2.2.1 hb25
          clear hL hm
          simp only [puts, Act.put, List.setIfInBounds_toArray, List.set_cons_zero, List.set_cons_succ]
          simp only [e9, e25]
          go_simp
          exact hK.out _ _ ⟨fun zj => if zj = 25 then true else if zj = 9 then true else if zj = 26 then true else zB zj, fun zd => if zd = 85 then .bool false else if zd = 84 then .bool false else if zd = 68 then .bool false else zS zd, qa, qc, by simp [hb9, hb25], by kernel_rfl, ⟨hF.1, hF.2.1, hF.2.2.1, hF.2.2.2.1, hF.2.2.2.2.1, hF.2.2.2.2.2.1, hF.2.2.2.2.2.2.1, hF.2.2.2.2.2.2.2.1, hF.2.2.2.2.2.2.2.2.1, fun _ => rfl, hF.2.2.2.2.2.2.2.2.2.2.1, hF.2.2.2.2.2.2.2.2.2.2.2.1, hF.2.2.2.2.2.2.2.2.2.2.2.2.1, hF.2.2.2.2.2.2.2.2.2.2.2.2.2.1, hF.2.2.2.2.2.2.2.2.2.2.2.2.2.2.1, hF.2.2.2.2.2.2.2.2.2.2.2.2.2.2.2.1, hF.2.2.2.2.2.2.2.2.2.2.2.2.2.2.2.2.1, hF.2.2.2.2.2.2.2.2.2.2.2.2.2.2.2.2.2.1, hF.2.2.2.2.2.2.2.2.2.2.2.2.2.2.2.2.2.2.1, hF.2.2.2.2.2.2.2.2.2.2.2.2.2.2.2.2.2.2.2.1, hF.2.2.2.2.2.2.2.2.2.2.2.2.2.2.2.2.2.2.2.2.1, hF.2.2.2.2.2.2.2.2.2.2.2.2.2.2.2.2.2.2.2.2.2.1, hF.2.2.2.2.2.2.2.2.2.2.2.2.2.2.2.2.2.2.2.2.2.2.1, hF.2.2.2.2.2.2.2.2.2.2.2.2.2.2.2.2.2.2.2.2.2.2.2.1, hF.2.2.2.2.2.2.2.2.2.2.2.2.2.2.2.2.2.2.2.2.2.2.2.2.1, fun _ => rfl, fun _ => rfl⟩, hW⟩
        exact StepsI.nil (by kernel_rfl)
      · rintro L zA v7 ⟨zB, zS, qa, qc, rfl, rfl, hF, hW⟩ hr
        have hu := all_up (by kernel_rfl) (N := 27) (by kernel_rfl) hr
        have hb0 : zB 0 = true := by simpa using hu 0 (by decide)
        have hb1 : zB 1 = true := by simpa using hu 1 (by decide)
        have hb2 : zB 2 = true := by simpa using hu 2 (by decide)
        have hb3 : zB 3 = true := by simpa using hu 3 (by decide)
        have hb4 : zB 4 = true := by simpa using hu 4 (by decide)
        have hb5 : zB 5 = true := by simpa using hu 5 (by decide)
        have hb6 : zB 6 = true := by simpa using hu 6 (by decide)
        have hb7 : zB 7 = true := by simpa using hu 7 (by decide)
        have hb8 : zB 8 = true := by simpa using hu 8 (by decide)
        have hb9 : zB 9 = true := by simpa using hu 9 (by decide)
        have hb10 : zB 10 = true := by simpa using hu 10 (by decide)
        have hb11 : zB 11 = true := by simpa using hu 11 (by decide)
        have hb12 : zB 12 = true := by simpa using hu 12 (by decide)
        have hb13 : zB 13 = true := by simpa using hu 13 (by decide)
        have hb14 : zB 14 = true := by simpa using hu 14 (by decide)
        have hb15 : zB 15 = true := by simpa using hu 15 (by decide)
        have hb16 : zB 16 = true := by simpa using hu 16 (by decide)
        have hb17 : zB 17 = true := by simpa using hu 17 (by decide)
        have hb18 : zB 18 = true := by simpa using hu 18 (by decide)
        have hb19 : zB 19 = true := by simpa using hu 19 (by decide)
        have hb20 : zB 20 = true := by simpa using hu 20 (by decide)
        have hb21 : zB 21 = true := by simpa using hu 21 (by decide)
        have hb22 : zB 22 = true := by simpa using hu 22 (by decide)
        have hb23 : zB 23 = true := by simpa using hu 23 (by decide)
        have hb24 : zB 24 = true := by simpa using hu 24 (by decide)
        have hb25 : zB 25 = true := by simpa using hu 25 (by decide)
        have hb26 : zB 26 = true := by simpa using hu 26 (by decide)
        have e0 : zS 59 = .agg #[.int .i64 (q : Int), .slice ao l.length cp] := hF.1 hb0
        have e1 : zS 60 = .int .i64 (i : Int) := hF.2.1 hb1
        have e2 : zS 61 = .agg #[.int .i64 r1, .int .i64 r2] := hF.2.2.1 hb2
        have e3 : zS 62 = .slice (some ⟨gv, 0, none⟩) q cv := hF.2.2.2.1 hb3
        have e4 : zS 63 = .int .i64 (i : Int) := hF.2.2.2.2.1 hb4
        have e5 : zS 64 = .pointer (some ⟨gv, i, none⟩) := hF.2.2.2.2.2.1 hb5
        have e6 : zS 65 = .int .i64 x := hF.2.2.2.2.2.2.1 hb6
        have e7 : zS 66 = .bool true := hF.2.2.2.2.2.2.2.1 hb7
        have e8 : zS 67 = .bool false := hF.2.2.2.2.2.2.2.2.1 hb8
        have e9 : zS 68 = .bool false := hF.2.2.2.2.2.2.2.2.2.1 hb9
        have e10 : zS 69 = .agg #[.int .i64 (q : Int), .slice ao l.length cp] := hF.2.2.2.2.2.2.2.2.2.2.1 hb10
        have e11 : zS 70 = .int .i64 (i : Int) := hF.2.2.2.2.2.2.2.2.2.2.2.1 hb11
        have e12 : zS 71 = .slice (some ⟨gv, 0, none⟩) q cv := hF.2.2.2.2.2.2.2.2.2.2.2.2.1 hb12
        have e13 : zS 72 = .int .i64 (i : Int) := hF.2.2.2.2.2.2.2.2.2.2.2.2.2.1 hb13
        have e14 : zS 73 = .pointer (some ⟨gv, i, none⟩) := hF.2.2.2.2.2.2.2.2.2.2.2.2.2.2.1 hb14
        have e15 : zS 74 = .int .i64 x := hF.2.2.2.2.2.2.2.2.2.2.2.2.2.2.2.1 hb15
        have e16 : zS 75 = .slice (some ⟨gv, 0, none⟩) q cv := hF.2.2.2.2.2.2.2.2.2.2.2.2.2.2.2.2.1 hb16
        have e17 : zS 76 = .int .i64 (i : Int) := hF.2.2.2.2.2.2.2.2.2.2.2.2.2.2.2.2.2.1 hb17
        have e18 : zS 77 = .pointer (some ⟨gv, i, none⟩) := hF.2.2.2.2.2.2.2.2.2.2.2.2.2.2.2.2.2.2.1 hb18
        have e19 : zS 78 = .int .i64 x := hF.2.2.2.2.2.2.2.2.2.2.2.2.2.2.2.2.2.2.2.1 hb19
        have e20 : zS 79 = .int .i64 (x + 2) := hF.2.2.2.2.2.2.2.2.2.2.2.2.2.2.2.2.2.2.2.2.1 hb20
        have e21 : zS 80 = .agg #[.int .i64 x, .int .i64 (x + 2)] := hF.2.2.2.2.2.2.2.2.2.2.2.2.2.2.2.2.2.2.2.2.2.1 hb21
        have e22 : zS 81 = .agg #[.int .i64 zb, .slice qa lb.length qc] := hF.2.2.2.2.2.2.2.2.2.2.2.2.2.2.2.2.2.2.2.2.2.2.1 hb22
        have e23 : zS 82 = .slice (some ⟨gv, 0, none⟩) q cv := hF.2.2.2.2.2.2.2.2.2.2.2.2.2.2.2.2.2.2.2.2.2.2.2.1 hb23
        have e24 : zS 83 = .bool true := hF.2.2.2.2.2.2.2.2.2.2.2.2.2.2.2.2.2.2.2.2.2.2.2.2.1 hb24
        have e25 : zS 84 = .bool false := hF.2.2.2.2.2.2.2.2.2.2.2.2.2.2.2.2.2.2.2.2.2.2.2.2.2.1 hb25
        have e26 : zS 85 = .bool false := hF.2.2.2.2.2.2.2.2.2.2.2.2.2.2.2.2.2.2.2.2.2.2.2.2.2.2 hb26
        rw [hb22] at hW
        clear hu hr hF
        simp only [puts, Act.put, List.setIfInBounds_toArray, List.set_cons_zero, List.set_cons_succ]
        simp only [e0, e1, e2, e3, e4, e5, e6, e7, e8, e9, e10, e11, e12, e13, e14, e15, e16, e17, e18, e19, e20, e21, e22, e23, e24, e25, e26]
        clear e0 e1 e2 e3 e4 e5 e6 e7 e8 e9 e10 e11 e12 e13 e14 e15 e16 e17 e18 e19 e20 e21 e22 e23 e24 e25 e26
        clear hb0 hb1 hb2 hb3 hb4 hb5 hb6 hb7 hb8 hb9 hb10 hb11 hb12 hb13 hb14 hb15 hb16 hb17 hb18 hb19 hb20 hb21 hb22 hb23 hb24 hb25 hb26
        clear zB zS
        have B7 := mkHid (below_step B6.out hW.1)
        have K7 := mkHid (K6.out.below hW.1)
        have O7 := mkHid (O6.out.below hW.1)
        clear hW hF6 hX6 HRG HRH HBN HBH K6 O6 B6 hx2
        by_cases hi0 : (i : Int) = 0
        · go_wp2
          go_roundg g
          case measure => omega
          case rel => exact ⟨u + 1, by omega, by go_num, K7.out⟩
        have hi1 : 1 ≤ i := by omega
        have d0 := O7.out.cell (p := i) (by rw [VL.out]; exact hi)
        rw [HX.out] at d0
        have d1 := O7.out.free i
        have hwc : IntKind.i64.wrap (x + c) = x + c := IntWalk.i64_in _ ⟨by omega, by omega⟩
        obtain ⟨f0, f1⟩ := K7.out.fF
        have hXg : ¬ X = gv := by have := K.out.fF.lt; have := O7.out.base_le.1; omega
        have hgX : ¬ gv = X := fun e => hXg e.symm
        obtain ⟨PB, PO⟩ := own_put B7.out O7.out i (x + c)
        have B8 := mkHid PB
        have O8 := mkHid PO
        obtain ⟨w8, hw8⟩ : ∃ s, v7.setCell ⟨gv, i, none⟩ (.int .i64 (x + c)) = s := ⟨_, rfl⟩
        rw [hw8] at B8 O8
        have K8 := mkHid (K.out.below B8.out)
        have HW8 := mkHid hw8
        clear PB PO hw8 B7 O7 K7
        -- forget
        obtain ⟨zf, hzf⟩ : ∃ r, outZ (forgF q l i) ((q : Int)).toNat = r := ⟨_, rfl⟩
        obtain ⟨lf, hlf⟩ : ∃ r, outL (forgF q l i) ((q : Int)).toNat = r := ⟨_, rfl⟩
        have HFG : Hid (∀ v', IntsAt v' ao l → Calls Try.prog 28 #[.agg #[.int .i64 q, .slice ao l.length cp], .int .i64 i] v' fun e w' => Gives v' w' e zf lf) := mkHid fun v' hI => by rw [← hzf, ← hlf]; exact iForget_any q l ao cp i v' HCP.out hI
        have HFH : Hid (∀ v' ab cb, IntsAt v' ab lf → IntsAt v' (some ⟨gv, 0, none⟩) (v.set i (x + c)) → Calls Try.prog 21 #[.agg #[.int .i64 zf, .slice ab lf.length cb], .slice (some ⟨gv, 0, none⟩) q cv] v' fun e w' => e = .returned (.bool true) ∧ Below v'.heap.size v' w') := mkHid fun v' ab cb hI hV => by
          have h := forg_has (x := x + c) HH.out HI.out hi1 ⟨by omega, by omega⟩
          rw [hzf, hlf] at h
          have h2 := iHas_any zf lf ab cb (v.set i (x + c)) (some ⟨gv, 0, none⟩) cv v' hI hV (by rw [List.length_set, VL.out]; unfold maxLen; omega)
          rw [h, List.length_set, VL.out] at h2
          exact h2
        obtain ⟨zs', hzs⟩ : ∃ r, outZ (shF q l i c) ((q : Int)).toNat = r := ⟨_, rfl⟩
        obtain ⟨ls', hls⟩ : ∃ r, outL (shF q l i c) ((q : Int)).toNat = r := ⟨_, rfl⟩
        have HSG : Hid (∀ v', IntsAt v' ao l → Calls Try.prog 29 #[.agg #[.int .i64 q, .slice ao l.length cp], .int .i64 i, .int .i64 c] v' fun e w' => Gives v' w' e zs' ls') := mkHid fun v' hI => by rw [← hzs, ← hls]; exact iShift_any q l ao cp i c v' HCP.out hI
        have HSH : Hid (∀ v' ab cb, IntsAt v' ab ls' → IntsAt v' (some ⟨gv, 0, none⟩) (v.set i (x + c)) → Calls Try.prog 21 #[.agg #[.int .i64 zs', .slice ab ls'.length cb], .slice (some ⟨gv, 0, none⟩) q cv] v' fun e w' => e = .returned (.bool true) ∧ Below v'.heap.size v' w') := mkHid fun v' ab cb hI hV => by
          have h := sh_has (c := c) HH.out HI.out hi1 (by rw [HX.out]; exact ⟨by omega, by omega⟩) ⟨by omega, by omega⟩
          rw [HX.out, hzs, hls] at h
          have h2 := iHas_any zs' ls' ab cb (v.set i (x + c)) (some ⟨gv, 0, none⟩) cv v' hI hV (by rw [List.length_set, VL.out]; unfold maxLen; omega)
          rw [h, List.length_set, VL.out] at h2
          exact h2
        clear hzf hlf hzs hls
        go_wp2_with fail
        rw [HW8.out]
        clear HW8 d0 d1 f0 f1
        refine (HFG.out _ K8.out.fL).mono ?_
        rintro e w9 ⟨ab, cb, rfl, hO, hb⟩
        have B9 := mkHid (below_step B8.out hb)
        have K9 := mkHid (K8.out.below hb)
        have O9 := mkHid (O8.out.below hb)
        have A9 := mkHid hO.at
        clear hO hb B8 K8 O8
        go_wp2_with fail
        refine (HFH.out _ _ _ A9.out O9.out.at).mono ?_
        rintro e w10 ⟨rfl, hb⟩
        have B10 := mkHid (below_step B9.out hb)
        have K10 := mkHid (K9.out.below hb)
        have O10 := mkHid (O9.out.below hb)
        clear hb B9 K9 O9 A9 HFG HFH
        obtain ⟨f0, f1⟩ := K10.out.fF
        go_wp2_with fail
        clear f0 f1
        refine (HSG.out _ K10.out.fL).mono ?_
        rintro e w11 ⟨ab2, cb2, rfl, hO, hb⟩
        have B11 := mkHid (below_step B10.out hb)
        have K11 := mkHid (K10.out.below hb)
        have O11 := mkHid (O10.out.below hb)
        have A11 := mkHid hO.at
        clear hO hb B10 K10 O10
        go_wp2_with fail
        refine (HSH.out _ _ _ A11.out O11.out.at).mono ?_
        rintro e w12 ⟨rfl, hb⟩
        have B12 := mkHid (below_step B11.out hb)
        have K12 := mkHid (K11.out.below hb)
        have O12 := mkHid (O11.out.below hb)
        clear hb B11 K11 O11 A11 HSG HSH
        -- the copy
        obtain ⟨yy, hyy⟩ : ∃ s, (v.set i (x + c)).getD j 0 = s := ⟨_, rfl⟩
        have HYY : Hid (i ≠ j → yy = y) := mkHid fun hne => by rw [← hyy, getD_put (by rw [VL.out]; exact hi), if_neg (fun e => hne e.symm)]; exact HY.out
        have hyb : -10 ≤ yy ∧ yy ≤ 21 := by
          rw [← hyy, getD_put (by rw [VL.out]; exact hi)]
          split
          · omega
          · rw [HY.out]; omega
        obtain ⟨hyb0, hyb1⟩ := hyb
        have d0 := O12.out.cell (p := j) (by rw [List.length_set, VL.out]; exact hj)
        rw [hyy] at d0
        have d1 := O12.out.free i
        have hwy : IntKind.i64.wrap (yy + c) = yy + c := IntWalk.i64_in _ ⟨by omega, by omega⟩
        obtain ⟨f0, f1⟩ := K12.out.fF
        obtain ⟨PB, PO⟩ := own_put B12.out O12.out i (yy + c)
        rw [List.set_set] at PO
        have D2 := mkHid (show w12.cell? ⟨gv, i, none⟩ = some (.int .i64 (x + c)) by have := O12.out.cell (p := i) (by rw [List.length_set, VL.out]; exact hi); rw [getD_put (by rw [VL.out]; exact hi), if_pos rfl] at this; exact this)
        have B13 := mkHid PB
        have O13 := mkHid PO
        obtain ⟨w13, hw13⟩ : ∃ s, w12.setCell ⟨gv, i, none⟩ (.int .i64 (yy + c)) = s := ⟨_, rfl⟩
        rw [hw13] at B13 O13
        have K13 := mkHid (K.out.below B13.out)
        have HW13 := mkHid hw13
        clear PB PO hw13 hyy B12 O12 K12
        by_cases hij : i = j
        · subst hij
          have hne : ((i : Int) != (i : Int)) = false := by simp
          go_wp2
          go_roundg g
          case measure => omega
          case rel => exact ⟨u + 1, by omega, by go_num, by first | exact K13.out | (rw [HW13.out]; exact K13.out)⟩
        have hne : ((i : Int) != (j : Int)) = true := by simp; omega
        have d2 := D2.out
        have e9 := HYY.out hij
        subst e9
        obtain ⟨zc, hzc⟩ : ∃ r, outZ (copyF q l i j c) ((q : Int)).toNat = r := ⟨_, rfl⟩
        obtain ⟨lc, hlc⟩ : ∃ r, outL (copyF q l i j c) ((q : Int)).toNat = r := ⟨_, rfl⟩
        have HCG : Hid (∀ v', IntsAt v' ao l → Calls Try.prog 30 #[.agg #[.int .i64 q, .slice ao l.length cp], .int .i64 i, .int .i64 j, .int .i64 c] v' fun e w' => Gives v' w' e zc lc) := mkHid fun v' hI => by rw [← hzc, ← hlc]; exact iCopy_any q l ao cp i j c v' HCP.out hI
        have HCH : Hid (∀ v' ab cb, IntsAt v' ab lc → IntsAt v' (some ⟨gv, 0, none⟩) (v.set i (yy + c)) → Calls Try.prog 21 #[.agg #[.int .i64 zc, .slice ab lc.length cb], .slice (some ⟨gv, 0, none⟩) q cv] v' fun e w' => e = .returned (.bool true) ∧ Below v'.heap.size v' w') := mkHid fun v' ab cb hI hV => by
          have h := copy_has (c := c) HH.out HI.out HJ.out hij hi1 (by rw [HY.out]; exact ⟨by omega, by omega⟩) ⟨by omega, by omega⟩
          rw [HY.out, hzc, hlc] at h
          have h2 := iHas_any zc lc ab cb (v.set i (yy + c)) (some ⟨gv, 0, none⟩) cv v' hI hV (by rw [List.length_set, VL.out]; unfold maxLen; omega)
          rw [h, List.length_set, VL.out] at h2
          exact h2
        clear hzc hlc
        go_wp2_with fail
        rw [HW13.out]
        clear HW13 d0 d1 d2 f0 f1
        refine (HCG.out _ K13.out.fL).mono ?_
        rintro e w14 ⟨ab3, cb3, rfl, hO, hb⟩
        have K14 := mkHid (K13.out.below hb)
        have O14 := mkHid (O13.out.below hb)
        have A14 := mkHid hO.at
        clear hO hb B13 K13 O13
        go_wp2_with fail
        refine (HCH.out _ _ _ A14.out O14.out.at).mono ?_
        rintro e w15 ⟨rfl, hb⟩
        have K15 := mkHid (K14.out.below hb)
        clear hb K14 O14 A14 HCG HCH
        go_wp2
        go_roundg g
        case measure => omega
        case rel => exact ⟨u + 1, by omega, by go_num, K15.out⟩
theorem open_bytes {H : Type} {enc : TypeId × Value → H} {W : World} {a : Option Addr} {len cap : Nat} {x : DataW H} {p : List MemPlace} (h : DataW.Trod enc Try.prog W 0 (fun _ => true) true 22 (.slice a len cap) x p) : Bytes W W.heap.size a len ∧ len ≤ maxLen := by
  obtain ⟨fuel, hf⟩ := h
  rcases open_ints Try.underlying22 Try.underlying5 (by kernel_rfl) hf with ⟨hcs, _⟩ | ⟨ad, l, c, zs, hcs, _, hl, hm, hz, _, hcell, hwz⟩
  · simp [Value.cells] at hcs
    exact ⟨.inl hcs.2.1, by rw [hcs.2.1]; exact Nat.zero_le _⟩
  · simp [Value.cells] at hcs
    obtain ⟨rfl, rfl, rfl⟩ := hcs
    refine ⟨?_, by omega⟩
    by_cases h0 : len = 0
    · exact .inl h0
    · have hzl : zs.length = cap := by simpa using hz
      obtain ⟨b, off, rfl, hc⟩ := ints_at hcell (by omega)
      refine .inr ⟨b, off, rfl, World.block_lt_of_cell? W _ (hc 0 (by omega)), fun i hi => ?_⟩
      have hmem : zs.getD i 0 ∈ zs := by
        rw [List.getD_eq_getElem?_getD, List.getElem?_eq_getElem (by omega)]
        exact List.getElem_mem _
      have hw := bounds_u8 (hwz _ hmem)
      exact ⟨_, hw.1, hw.2, hc i (by omega)⟩

set_option maxRecDepth 100000 in
theorem law_lifted (os : Os) (started : os.Started) (H : Type) (enc : TypeId × Value → H) :
    ReturnsInHanded {} Try.checked os 4 .any (Rows.fnFactsMoveSpec.pre6 enc Try.prog Try.f4 Rows.fnFactsMoveRow.domain false) (Rows.fnFactsMoveSpec.post enc Try.prog Try.f4 false true false false) := by
  refine returnsInHanded_of_change (C := Try.checked) Try.own started (by kernel_rfl) Try.func4
    (ChangeSpec.witness6 (enc := enc) (C := Try.checked) false ⟨#[], #[.slice none 0 0, .slice none 0 0], []⟩ 8 (by kernel_rfl) (by kernel_rfl) (by kernel_rfl) (by kernel_rfl)) ?_
  intro W base args ds gs before hval0 hW hcnd _
  have hval : ∀ (j : Nat) t v, Try.f4.params[j]? = some t → args[j]? = some v → Value.okWide Try.prog W .any base t v := hval0
  have hW' := hW
  obtain ⟨p, q, hA0, hV, rfl, hfz, hnd⟩ := hW
  have hA : DataW.TrodAll enc Try.prog W 0 (fun _ => true) true Try.f4.params.toList args.toList ds p := hA0
  rw [Try.params4] at hA hval
  obtain ⟨v0, vs0, d0, ds0, p0, q0, hargs, rfl, rfl, h0, r0⟩ := trodAll_cons hA
  obtain ⟨v1, vs1, d1, ds1, p1, q1, rfl, rfl, rfl, h1, r1⟩ := trodAll_cons r0
  obtain ⟨rfl, rfl, rfl⟩ := trodAll_nil r1
  obtain rfl : args = #[v0, v1] := by cases args; simp_all
  obtain ⟨rfl, rfl⟩ := trodVars_none hV
  obtain ⟨a0, len0, cap0, rfl⟩ := okWide_slice Try.underlying22 (hval 0 22 v0 rfl rfl)
  obtain ⟨a1, len1, cap1, rfl⟩ := okWide_slice Try.underlying22 (hval 1 22 v1 rfl rfl)
  have lt0 : ∀ x ∈ p0, x.block < W.heap.size := by obtain ⟨m, hm⟩ := h0; exact DataW.trod_lt m _ _ _ hm
  have lt1 : ∀ x ∈ p1, x.block < W.heap.size := by obtain ⟨m, hm⟩ := h1; exact DataW.trod_lt m _ _ _ hm
  clear hA0 hval0
  refine (law_walk a0 a1 len0 cap0 len1 cap1 W (open_bytes h0).2 (open_bytes h1).2 (open_bytes h0).1 (open_bytes h1).1).mono fun e W' ⟨he, bel⟩ => ?_
  subst he
  exact ⟨_, rfl, _, _, _, [], _, [], hW', trodAll_mk1 (shut_bool Try.underlying4 _), (trodAll_cons_mk (Below.trod Try.laidOut (by kernel_rfl) (of_decide_eq_true (by kernel_rfl)) h0 bel lt0) (trodAll_cons_mk (Below.trod Try.laidOut (by kernel_rfl) (of_decide_eq_true (by kernel_rfl)) h1 bel lt1) trodAll_mk0)), rfl, bel.frame _, fun h => by cases h⟩

theorem law_holds : Rows.FnFactsMoveSaid :=
  OpenClaim.holds_of_wide 4 Try.f4 rfl rfl rfl rfl rfl rfl rfl ⟨rfl, rfl, rfl, rfl, rfl⟩ rfl rfl rfl rfl rfl (by kernel_rfl) Try.func4 (by kernel_rfl)
    (of_decide_eq_true (by kernel_rfl)) (by unfold Func.isWrapper; first | (rw [if_pos (by decide +kernel)]; kernel_rfl) | (rw [if_neg (by decide +kernel)]; exact ⟨rfl, rfl⟩))
    (fun os started H enc _ => law_lifted os started H enc)

#print axioms law_holds
end Go.Proofs.Ytgclngofigffdaa
