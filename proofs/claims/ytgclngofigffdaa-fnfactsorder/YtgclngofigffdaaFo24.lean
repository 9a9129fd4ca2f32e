/-
  CONTRACT of the specification's FactsMeet.
-/
import Derived.Test.YtgclngofigffdaaFo10
import Derived.Test.YtgclngofigffdaaFo14
namespace Go.Proofs.Ytgclngofigffdaa
open Go.RowKit

/-- The first u numbers of both, the lesser of each two. -/
def minL (l l' : List Int) (u : Nat) : List Int := (List.range u).map fun p => min (l.getD p 0) (l'.getD p 0)
theorem minL_len (l l' : List Int) (u : Nat) : (minL l l' u).length = u := by simp [minL]
theorem minL_next (l l' : List Int) (u : Nat) : minL l l' (u + 1) = minL l l' u ++ [min (l.getD u 0) (l'.getD u 0)] := by
  unfold minL
  rw [List.range_succ, List.map_append]; rfl
theorem minL_all {n : Nat} {l l' : List Int} : minL l l' (n * n) = mk n (fun a b => min (tab n l a b) (tab n l' a b)) := by
  refine mk_of (minL_len _ _ _) (fun a b ha hb => ?_)
  rw [List.getD_eq_getElem?_getD]
  simp only [minL, List.getElem?_map]
  rw [List.getElem?_range (idx_lt ha hb)]; rfl
theorem metF_ok {n : Nat} {l l' : List Int} (h : okF n l = true) (h' : okF n l' = true) : metF n l n l' = cloO n (fun a b => min (tab n l a b) (tab n l' a b)) := by
  unfold metF
  rw [h, h']
  simp
set_option maxRecDepth 100000 in
set_option maxHeartbeats 3200000 in
theorem sMeet_any (z : Int) (l : List Int) (a : Option Addr) (c : Nat) (z' : Int) (l' : List Int) (a' : Option Addr) (c' : Nat) (w : World) (hl : IntsAt w a l) (hl' : IntsAt w a' l') : Calls Try.prog 15 #[.agg #[.int .i64 z, .slice a l.length c], .agg #[.int .i64 z', .slice a' l'.length c']] w fun e w' => Gives w w' e (outZ (metF z l z' l') z.toNat) (outL (metF z l z' l') z.toNat) := by
  have HL := mkHid hl
  have HL' := mkHid hl'
  have B0 := mkHid ((((Below.refl w.heap.size w).alloc (Nat.le_refl _) (.cells #[.int .i64 z, .slice a l.length c] 26)).alloc (by simp) (.cells #[.int .i64 z', .slice a' l'.length c'] 26)).alloc (by simp; omega) (.cells #[.int .i64 0, .slice none 0 0] 26))
  have T0 := mkHid (((Fc.new w z a l.length c 26).alloc (.cells #[.int .i64 z', .slice a' l'.length c'] 26)).alloc (.cells #[.int .i64 0, .slice none 0 0] 26))
  have U0 : Hid (Fc (((w.alloc (.cells #[.int .i64 z, .slice a l.length c] 26)).alloc (.cells #[.int .i64 z', .slice a' l'.length c'] 26)).alloc (.cells #[.int .i64 0, .slice none 0 0] 26)) (w.heap.size + 1) z' a' l'.length c') := mkHid (by have := (Fc.new (w.alloc (.cells #[.int .i64 z, .slice a l.length c] 26)) z' a' l'.length c' 26).alloc (.cells #[.int .i64 0, .slice none 0 0] 26); simpa using this)
  have Z0 : Hid (Fz (((w.alloc (.cells #[.int .i64 z, .slice a l.length c] 26)).alloc (.cells #[.int .i64 z', .slice a' l'.length c'] 26)).alloc (.cells #[.int .i64 0, .slice none 0 0] 26)) (w.heap.size + 2)) := mkHid (by have := Fz.new ((w.alloc (.cells #[.int .i64 z, .slice a l.length c] 26)).alloc (.cells #[.int .i64 z', .slice a' l'.length c'] 26)); simpa using this)
  have HOKA : Hid (∀ v, IntsAt v a l → Calls Try.prog 18 #[.agg #[.int .i64 z, .slice a l.length c]] v fun e w' => e = .returned (.bool (okF z l)) ∧ Below v.heap.size v w') := mkHid fun v hv => sOkF_any z l a c v hv
  have HOKB : Hid (∀ v, IntsAt v a' l' → Calls Try.prog 18 #[.agg #[.int .i64 z', .slice a' l'.length c']] v fun e w' => e = .returned (.bool (okF z' l')) ∧ Below v.heap.size v w') := mkHid fun v hv => sOkF_any z' l' a' c' v hv
  have HNO : Hid ((okF z l && (okF z' l' && decide (z = z'))) = false → metF z l z' l' = none) := mkHid fun h => by unfold metF; rw [h]; rfl
  have HYES : Hid (okF z l = true → okF z' l' = true → z = z' → ∃ n : Nat, z = n ∧ z' = n ∧ 1 ≤ n ∧ n ≤ 13 ∧ l.length = n * n ∧ l'.length = n * n ∧ metF z l z' l' = cloO n (fun a b => min (tab n l a b) (tab n l' a b)) ∧ Bd n (fun a b => min (tab n l a b) (tab n l' a b)) 10000000) := mkHid fun h1 h2 h3 => by
    subst h3
    obtain ⟨n, rfl, q1, q2, q3, _, q5⟩ := ok_of h1
    obtain ⟨n', e, _, _, q3', _, q5'⟩ := ok_of h2
    obtain rfl : n = n' := by omega
    exact ⟨n, rfl, rfl, q1, q2, q3, q3', metF_ok h1 h2, met_bd q5 q5'⟩
  obtain ⟨R, hR⟩ : ∃ R, metF z l z' l' = R := ⟨_, rfl⟩
  rw [hR] at HNO HYES
  rw [hR]
  obtain ⟨zn, hzn⟩ : ∃ zn, z.toNat = zn := ⟨_, rfl⟩
  have HZN := mkHid hzn
  rw [hzn]
  obtain ⟨k1, hk1⟩ : ∃ k, okF z l = k := ⟨_, rfl⟩
  obtain ⟨k2, hk2⟩ : ∃ k, okF z' l' = k := ⟨_, rfl⟩
  rw [hk1] at HOKA HNO HYES
  rw [hk2] at HOKB HNO HYES
  clear hl hl' hR hzn hk1 hk2
  go_enter Try.func15, Try.ntmps15
  go_wp2_with fail
  refine (HOKA.out _ (HL.out.below B0.out)).mono ?_
  rintro e w1 ⟨rfl, hb1⟩
  have B1 := mkHid (below_step B0.out hb1)
  have T1 := mkHid (T0.out.below hb1)
  have U1 := mkHid (U0.out.below hb1)
  have Z1 := mkHid (Z0.out.below hb1)
  clear hb1 B0 T0 U0 Z0
  cases k1
  · have e1 : Hid (R = none) := mkHid (HNO.out rfl)
    obtain ⟨⟨z0, z1⟩, z2, z3⟩ := Z1.out
    go_wp2
    refine bodyPost_ret (v := .agg #[.int .i64 0, .slice none 0 0]) (by simp [results, Try.results15, go_sem, z0, z1]) rfl ?_
    rw [e1.out]
    exact ⟨none, 0, rfl, OwnI.nil _ _, none_shut B1.out (by omega) _ _⟩
  · obtain ⟨u0, u1⟩ := U1.out
    go_wp2_with fail
    refine (HOKB.out _ (HL'.out.below B1.out)).mono ?_
    rintro e w2 ⟨rfl, hb2⟩
    have B2 := mkHid (below_step B1.out hb2)
    have T2 := mkHid (T1.out.below hb2)
    have U2 := mkHid (U1.out.below hb2)
    have Z2 := mkHid (Z1.out.below hb2)
    clear hb2 B1 T1 U1 Z1 u0 u1
    cases k2
    · have e1 : Hid (R = none) := mkHid (HNO.out rfl)
      obtain ⟨⟨z0, z1⟩, z2, z3⟩ := Z2.out
      go_wp2
      refine bodyPost_ret (v := .agg #[.int .i64 0, .slice none 0 0]) (by simp [results, Try.results15, go_sem, z0, z1]) rfl ?_
      rw [e1.out]
      exact ⟨none, 0, rfl, OwnI.nil _ _, none_shut B2.out (by omega) _ _⟩
    · obtain ⟨t0, t1⟩ := T2.out
      obtain ⟨u0, u1⟩ := U2.out
      by_cases hzz : z = z'
      · obtain ⟨n, rfl, rfl, h1, h2, hll, hll', hRe, hbd⟩ := HYES.out (by trivial) (by trivial) hzz
        obtain rfl : n = zn := by have := HZN.out; simpa using this
        have HR := mkHid hRe
        have hsq := sq_le h2
        have hsp := sq_pos h1
        have HALL : Hid (minL l l' (n * n) = mk n (fun a b => min (tab n l a b) (tab n l' a b))) := mkHid minL_all
        have HCL : Hid (∀ (a : Option Addr) (c1 : Nat) (v : World), IntsAt v a (mk n (fun a b => min (tab n l a b) (tab n l' a b))) → Calls Try.prog 53 #[.int .i64 n, .slice a (mk n (fun a b => min (tab n l a b) (tab n l' a b))).length c1] v fun e w' => Gives v w' e (outZ (cloO n (fun a b => min (tab n l a b) (tab n l' a b))) n) (outL (cloO n (fun a b => min (tab n l a b) (tab n l' a b))) n)) := mkHid fun a c1 v hv => sCloseD n _ h1 h2 hbd a c1 v hv
        rw [← HR.out] at HCL
        rw [← HALL.out] at HCL
        obtain ⟨q, hq⟩ : ∃ q, n * n = q := ⟨_, rfl⟩
        rw [hq] at hll hll' hsq hsp HCL
        rw [minL_len] at HCL
        obtain ⟨i0, hi, hzz'⟩ := Option.map_eq_some_iff.1 Try.info3
        simp only [Prod.mk.injEq] at hzz'
        obtain ⟨hz0, hz1, hz2⟩ := hzz'
        have HI := mkHid (show Try.prog.info? 3 = some i0 ∧ i0.zero = some (.int .i64 0) ∧ i0.size = 1 ∧ i0.bytes = 8 from ⟨hi, hz0, hz1, hz2⟩)
        have HNX : Hid (∀ u, minL l l' (u + 1) = minL l l' u ++ [min (l.getD u 0) (l'.getD u 0)]) := mkHid fun u => minL_next l l' u
        have HML : Hid (∀ u, (minL l l' u).length = u) := mkHid fun u => minL_len l l' u
        have HM0 : Hid (minL l l' 0 = []) := mkHid rfl
        obtain ⟨M, hM⟩ : ∃ M, minL l l' = M := ⟨_, rfl⟩
        rw [hM] at HCL HNX HML HM0
        have HLQ := mkHid hll
        have HLQ' := mkHid hll'
        rw [hll] at T2 t1
        rw [hll'] at U2 u1
        have s2 := Z2.out.lt
        have E2 : Hid (OwnI (w2.alloc (.cells #[] 3)) (w.heap.size + 3) (.slice (some ⟨w2.heap.size, 0, none⟩) 0 0) []) := mkHid (OwnI.fresh (by omega) (heap_alloc_last w2 (.cells #[] 3)))
        have A2 := (Below.refl w2.heap.size w2).alloc (Nat.le_refl _) (.cells #[] 3)
        have B3 := mkHid (B2.out.alloc B2.out.size (.cells #[] 3))
        have T3 := mkHid (T2.out.below A2)
        have U3 := mkHid (U2.out.below A2)
        have Z3 := mkHid (Z2.out.below A2)
        obtain ⟨w3, hw3⟩ : ∃ w3, w2.alloc (.cells #[] 3) = w3 := ⟨_, rfl⟩
        obtain ⟨g0, hg0⟩ : ∃ g0, w2.heap.size = g0 := ⟨_, rfl⟩
        have HW3 := mkHid hw3
        rw [hw3] at E2 B3 T3 U3 Z3
        rw [hg0] at E2
        clear hRe hbd hi hz0 hz1 hz2 hll hll' hq hM A2 B2 T2 U2 Z2 hzz hw3
        go_wp2_with fail
        rw [HW3.out]
        go_loopg [5, 6] q (fun gh s5 s wr => ∃ (u : Nat) (ao : Option Addr) (cap : Nat), u + gh = q ∧ s = .int .i64 u ∧ s5 = .slice ao u cap ∧ OwnI wr (w.heap.size + 3) (.slice ao u cap) (M u) ∧ Fc wr w.heap.size n a q c ∧ Fc wr (w.heap.size + 1) n a' q c' ∧ Fz wr (w.heap.size + 2) ∧ Below w.heap.size w wr)
        case atStart => exact ⟨0, some ⟨g0, 0, none⟩, 0, by omega, rfl, rfl, by rw [HM0.out]; exact E2.out, T3.out, U3.out, Z3.out, B3.out⟩
        case round =>
          obtain ⟨u, ao, cap, hug, rfl, rfl, hO, hT, hU, hZ, hB⟩ := hrel
          have HO := mkHid hO
          have HT := mkHid hT
          have HU := mkHid hU
          have HZ := mkHid hZ
          have HB := mkHid hB
          clear hO hB E2 T3 U3 Z3 B3 t0 t1 u0 u1
          obtain ⟨t0, t1⟩ := hT
          obtain ⟨u0, u1⟩ := hU
          cases gk with
          | zero =>
            have hlt : ¬ ((u : Int) < (q : Int)) := by omega
            have e : u = q := by omega
            subst e
            have HC2 := mkHid (HCL.out ao cap wr HO.out.at)
            clear hZ
            go_wp2_with fail
            refine HC2.out.mono ?_
            rintro e w9 ⟨ao', cap', rfl, ho, hb9⟩
            obtain ⟨⟨z0, z1⟩, z2, z3⟩ := HZ.out.below hb9
            have HE := mkHid (fun v0 v1 => Gives.shut (b := w.heap.size + 2) HB.out (by omega) HZ.out.lt ho hb9 v0 v1)
            clear hb9 ho
            go_wp2
            exact bodyPost_ret (v := .agg #[.int .i64 (outZ R n), .slice ao' (outL R n).length cap']) (by simp [results, Try.results15, go_sem, z0, z1]) rfl ⟨ao', cap', rfl, (HE.out _ _).1, (HE.out _ _).2⟩
          | succ gh =>
            have hlt : (u : Int) < (q : Int) := by omega
            obtain ⟨b, o, rfl, cx⟩ := IntsAt.get' (HL.out.below HB.out) (k := u) (by have := HLQ.out; omega)
            obtain ⟨b', o', rfl, cy⟩ := IntsAt.get' (HL'.out.below HB.out) (k := u) (by have := HLQ'.out; omega)
            have HX := mkHid (HNX.out u)
            obtain ⟨x, hx⟩ : ∃ x, l.getD u 0 = x := ⟨_, rfl⟩
            obtain ⟨y, hy⟩ : ∃ y, l'.getD u 0 = y := ⟨_, rfl⟩
            rw [hx] at cx HX
            rw [hy] at cy HX
            have hbw : b < w.heap.size := by
              obtain ⟨_, _, e, cw⟩ := IntsAt.get' HL.out (k := u) (by have := HLQ.out; omega)
              cases e
              exact World.block_lt_of_cell? w _ cw
            have hbw' : b' < w.heap.size := by
              obtain ⟨_, _, e, cw⟩ := IntsAt.get' HL'.out (k := u) (by have := HLQ'.out; omega)
              cases e
              exact World.block_lt_of_cell? w _ cw
            have HS : Hid (∀ v, Below (w.heap.size + 3) wr v → v.cell? ⟨w.heap.size, 1, none⟩ = some (.slice (some ⟨b, o, none⟩) q c) ∧ v.cell? ⟨w.heap.size + 1, 1, none⟩ = some (.slice (some ⟨b', o', none⟩) q c') ∧ v.cell? ⟨b, o + u, none⟩ = some (.int .i64 x) ∧ v.cell? ⟨b', o' + u, none⟩ = some (.int .i64 y)) := mkHid fun v hv =>
              ⟨(hv.cell (p := ⟨w.heap.size, 1, none⟩) (by show w.heap.size < _; omega)).trans t1, (hv.cell (p := ⟨w.heap.size + 1, 1, none⟩) (by show w.heap.size + 1 < _; omega)).trans u1, (hv.cell (p := ⟨b, o + u, none⟩) (by show b < _; omega)).trans cx, (hv.cell (p := ⟨b', o' + u, none⟩) (by show b' < _; omega)).trans cy⟩
            have sz := HZ.out.lt
            clear hx hy hZ
            go_wp2_with fail
            go_region_held3 (fun v => v.cell? ⟨w.heap.size, 1, none⟩ = some (.slice (some ⟨b, o, none⟩) q c) ∧ v.cell? ⟨w.heap.size + 1, 1, none⟩ = some (.slice (some ⟨b', o', none⟩) q c') ∧ v.cell? ⟨b, o + u, none⟩ = some (.int .i64 x) ∧ v.cell? ⟨b', o' + u, none⟩ = some (.int .i64 y))
              (first | exact HS.out _ (Below.refl _ _).drew | exact HS.out _ (Below.refl _ _) | exact HS.out _ ((Below.refl _ _).drew.alloc (by show w.heap.size + 3 ≤ wr.heap.size; omega) _) | exact HS.out _ hB4)
              (first | (go_at_call 54; refine (sMin_any _ _ _).mono ?_; rintro e w' ⟨rfl, rfl⟩) | (refine step_append_lies _ (by rfl) _ _ _ (by rfl) (w.heap.size + 3) 3 i0 (.int .i64 0) 1 8 Try.underlying24 HI.out.1 HI.out.2.1 HI.out.2.2.1 HI.out.2.2.2 rfl (by decide) (.slice ao u cap) u (ints (M u)) (by rfl) (World.ownsRow.alloc (by have := OwnI.drew HO.out; unfold OwnI at this; rwa [HML.out] at this) (.cells #[.int .i64 (min x y)] 3)) ⟨wr.heap.size, 0, none⟩ 1 1 [.int .i64 (min x y)] (by rfl) (by rfl) (World.news_of_block (heap_alloc_last wr.drew _)) (fun u hu => by simp at hu; rcases hu with rfl; rfl) (by decide) (by unfold maxLen; omega) (by omega) (by simp; omega) (wr.heap.size + 1) (by simp) ?_; intro g' cap' w4 hown hgrow hat hlt4; have hB4 : Below (w.heap.size + 3) wr w4 := ((Below.refl _ _).drew.alloc (by show w.heap.size + 3 ≤ wr.heap.size; omega) _).grown hgrow (by simp; omega) (fun q' hq' => by have := HO.out.lt hq'; omega)))
            all_goals
              have O4 : Hid (OwnI w4 (w.heap.size + 3) (.slice (some ⟨g', 0, none⟩) (u + 1) cap') (M (u + 1))) := mkHid (by
                unfold OwnI
                rw [HML.out, HX.out, ← ints_snoc]
                exact hown)
              have hof : ∀ b, b < w.heap.size + 3 → some b ≠ Value.ownBlock (.slice ao u cap) := fun b hb e => by have := HO.out.lt e.symm; omega
              have T4 := mkHid (((HT.out.drew).alloc (.cells #[.int .i64 (min x y)] 3)).grown hgrow (hof _ (by omega)))
              have U4 := mkHid (((HU.out.drew).alloc (.cells #[.int .i64 (min x y)] 3)).grown hgrow (hof _ (by omega)))
              have Z4 := mkHid (((HZ.out.drew).alloc (.cells #[.int .i64 (min x y)] 3)).grown hgrow (hof _ (by omega)))
              have B4 := mkHid (HB.out.trans (hB4.mono (by omega)))
              clear hown hgrow hat hlt4 hB4 hof cx cy t0 t1 u0 u1
              go_wp2
              go_roundg gh
              case measure => omega
              case rel => exact ⟨u + 1, some ⟨g', 0, none⟩, cap', by omega, by go_num, rfl, O4.out, T4.out, U4.out, Z4.out, B4.out⟩
      · have e1 : Hid (R = none) := mkHid (HNO.out (by rw [decide_eq_false hzz]; rfl))
        have hbz : (z != z') = true := by simp [hzz]
        obtain ⟨⟨z0, z1⟩, z2, z3⟩ := Z2.out
        clear hzz
        go_wp2
        refine bodyPost_ret (v := .agg #[.int .i64 0, .slice none 0 0]) (by simp [results, Try.results15, go_sem, z0, z1]) rfl ?_
        rw [e1.out]
        exact ⟨none, 0, rfl, OwnI.nil _ _, none_shut B2.out (by omega) _ _⟩
end Go.Proofs.Ytgclngofigffdaa
