/-
  CONTRACT of the specification's FactsWiden.
-/
import Derived.Test.YtgclngofigffdaaFo13
namespace Go.Proofs.Ytgclngofigffdaa
open Go.RowKit

theorem Cal.grew {w0 v v' : World} {al st : Bool} {X : Nat} {sa : Option Addr} {sc sc' : Nat} {rz : Int} {rl : List Int} {g0 g : Nat} (h : Cal w0 false al st X sa sc rz rl v) (hg : v.grownBy v' (some g0)) (hg0 : w0.heap.size ≤ g0) (hx : al = true → X ≠ g0) (ho : OwnI v' w0.heap.size (.slice (some ⟨g, 0, none⟩) rl.length sc') rl) (hgg : g = g0 ∨ g = v.heap.size) : Cal w0 true al st X (some ⟨g, 0, none⟩) sc' rz rl v' := by
  have e : st = false := by cases hs : st; rfl; exact absurd (h.sf hs).1 (by decide)
  subst e
  refine ⟨h.bel.grown hg h.bel.size (fun q hq => by cases hq; exact hg0), fun e => (by cases e), fun _ => ho, fun e => ⟨(h.box e).1, fun e2 => ((h.box e).2.1 e2).grown hg (some_ne (hx e)), fun e2 => (by cases e2)⟩, fun _ e q hq => ?_⟩
  have e2 : g = q := Option.some.inj hq
  have h1 := ((h.box e).2.1 rfl).lt
  have h2 := hx e
  omega
theorem mk_wid {n : Nat} {f g : Tab} {st : List Int} {i j : Nat} (hi : i < n) (hj : j < n) : (mk n (widP n f g st (i * n + j))).set (i * n + j) (widT f g st i j) = mk n (widP n f g st (i * n + j + 1)) := by
  rw [mk_set _ hi hj]
  exact mk_congr (fun a b _ hb => widP_next hj hb)
theorem mk_same {n : Nat} {f g : Tab} {st : List Int} {i j : Nat} (hj : j < n) (h : ¬ f i j < g i j) : mk n (widP n f g st (i * n + j)) = mk n (widP n f g st (i * n + j + 1)) := by
  refine mk_congr (fun a b _ hb => ?_)
  rw [← widP_next hj hb]
  split
  · rename_i e
    obtain ⟨rfl, rfl⟩ := e
    rw [widP_at]
    unfold widT
    rw [if_neg h]
  · rfl
set_option maxRecDepth 100000 in
set_option maxHeartbeats 6400000 in
theorem sWiden_any (z : Int) (l : List Int) (a : Option Addr) (c : Nat) (z' : Int) (l' : List Int) (a' : Option Addr) (c' : Nat) (st : List Int) (gs cs : Nat) (w : World) (hstm : st.length ≤ maxLen) (hl : IntsAt w a l) (hl' : IntsAt w a' l') (hst : IntsIn w st gs 0) : Calls Try.prog 16 #[.agg #[.int .i64 z, .slice a l.length c], .agg #[.int .i64 z', .slice a' l'.length c'], .slice (some ⟨gs, 0, none⟩) st.length cs] w fun e w' => Gives w w' e (widR z l z' l' st).1 (widR z l z' l' st).2 := by
  have HST := mkHid hst
  have HSM := mkHid hstm
  have HL := mkHid hl
  have HL' := mkHid hl'
  have B0 := mkHid ((((Below.refl w.heap.size w).alloc (Nat.le_refl _) (.cells #[.int .i64 z, .slice a l.length c] 26)).alloc (by simp) (.cells #[.int .i64 z', .slice a' l'.length c'] 26)).alloc (by simp; omega) (.cells #[.int .i64 0, .slice none 0 0] 26))
  have T0 : Hid (Fc (((w.alloc (.cells #[.int .i64 z, .slice a l.length c] 26)).alloc (.cells #[.int .i64 z', .slice a' l'.length c'] 26)).alloc (.cells #[.int .i64 0, .slice none 0 0] 26)) w.heap.size z a l.length c) := mkHid (((Fc.new w z a l.length c 26).alloc _).alloc _)
  have U0 : Hid (Fc (((w.alloc (.cells #[.int .i64 z, .slice a l.length c] 26)).alloc (.cells #[.int .i64 z', .slice a' l'.length c'] 26)).alloc (.cells #[.int .i64 0, .slice none 0 0] 26)) (w.heap.size + 1) z' a' l'.length c') := mkHid (by have := (Fc.new (w.alloc (.cells #[.int .i64 z, .slice a l.length c] 26)) z' a' l'.length c' 26).alloc (.cells #[.int .i64 0, .slice none 0 0] 26); simpa using this)
  have Z0 : Hid (Fz (((w.alloc (.cells #[.int .i64 z, .slice a l.length c] 26)).alloc (.cells #[.int .i64 z', .slice a' l'.length c'] 26)).alloc (.cells #[.int .i64 0, .slice none 0 0] 26)) (w.heap.size + 2)) := mkHid (by have := Fz.new ((w.alloc (.cells #[.int .i64 z, .slice a l.length c] 26)).alloc (.cells #[.int .i64 z', .slice a' l'.length c'] 26)); simpa using this)
  have HCB : Hid (∀ v, IntsAt v a' l' → Calls Try.prog 17 #[.agg #[.int .i64 z', .slice a' l'.length c']] v fun e w' => Gives v w' e (outZ (cF z' l') z'.toNat) (outL (cF z' l') z'.toNat)) := mkHid fun v hv => sClose_any z' l' a' c' v hv
  have HNA : Hid (∀ v, Calls Try.prog 51 #[.agg #[.int .i64 z, .slice a l.length c]] v fun e w' => e = .returned (.bool (noF z l)) ∧ Below v.heap.size v w') := mkHid fun v => by rw [← noN_eq]; exact sNoF_any z a l.length c v
  obtain ⟨zy, hzy⟩ : ∃ x, outZ (cF z' l') z'.toNat = x := ⟨_, rfl⟩
  obtain ⟨ly, hly⟩ : ∃ x, outL (cF z' l') z'.toNat = x := ⟨_, rfl⟩
  rw [hzy, hly] at HCB
  have HZY := mkHid hzy
  have HLY := mkHid hly
  have HFB := mkHid (cF_fine z' l')
  clear hl hl' hzy hly hst hstm
  go_enter Try.func16, Try.ntmps16
  go_wp2_with fail
  refine (sPair_any z l a c z' l' a' c' _ (HL.out.below B0.out) (HL'.out.below B0.out)).mono ?_
  rintro e w3 ⟨rfl, hb⟩
  have B3 := mkHid (below_step B0.out hb)
  have T3 := mkHid (T0.out.below hb)
  have U3 := mkHid (U0.out.below hb)
  have Z3 := mkHid (Z0.out.below hb)
  clear hb B0 T0 U0 Z0
  cases hgo : goB z l z' l'
  · have e1 : Hid (widR z l z' l' st = (0, [])) := mkHid (widR_no (by rw [hgo]; rfl))
    obtain ⟨⟨z0, z1⟩, z2, z3⟩ := Z3.out
    go_wp2
    refine bodyPost_ret (v := .agg #[.int .i64 0, .slice none 0 0]) (by simp [results, Try.results16, go_sem, z0, z1]) rfl ?_
    rw [e1.out]
    exact ⟨none, 0, rfl, OwnI.nil _ _, none_shut B3.out (by omega) _ _⟩
  · have HGO := mkHid hgo
    clear hgo
    go_wp2_with fail
    refine (sSteps_of st gs 0 cs _ HSM.out (HST.out.below B3.out)).mono ?_
    rintro e w4 ⟨rfl, hb⟩
    have B4 := mkHid (below_step B3.out hb)
    have T4 := mkHid (T3.out.below hb)
    have U4 := mkHid (U3.out.below hb)
    have Z4 := mkHid (Z3.out.below hb)
    clear hb B3 T3 U3 Z3
    cases hso : stepsB st
    · have e1 : Hid (widR z l z' l' st = (0, [])) := mkHid (widR_no (by rw [hso]; simp))
      obtain ⟨⟨z0, z1⟩, z2, z3⟩ := Z4.out
      go_wp2
      refine bodyPost_ret (v := .agg #[.int .i64 0, .slice none 0 0]) (by simp [results, Try.results16, go_sem, z0, z1]) rfl ?_
      rw [e1.out]
      exact ⟨none, 0, rfl, OwnI.nil _ _, none_shut B4.out (by omega) _ _⟩
    · have HSO := mkHid hso
      obtain ⟨u0, u1⟩ := U4.out
      have s4 := Z4.out.lt
      clear hso
      go_wp2_with fail
      refine (HCB.out _ (HL'.out.below B4.out)).mono ?_
      rintro e w6 ⟨ya, yc, rfl, yo, hb6⟩
      obtain ⟨by1, hby⟩ : ∃ b, w6.heap.size = b := ⟨_, rfl⟩
      have A6 := (Below.refl w6.heap.size w6).alloc (Nat.le_refl _) (.cells #[.int .i64 zy, .slice ya ly.length yc] 26)
      have Y6 := mkHid (Fc.new w6 zy ya ly.length yc 26)
      rw [hby] at Y6
      have B6 := mkHid (below_step (below_step B4.out hb6) A6)
      have C6 := mkHid (below_step hb6 A6)
      have P6 := mkHid (yo.below A6)
      have T6 := mkHid ((T4.out.below hb6).below A6)
      have Z6 := mkHid ((Z4.out.below hb6).below A6)
      have hy6 : w.heap.size + 2 < by1 := by have := hb6.size; omega
      clear hb6 A6 yo u0 u1 T4 U4
      obtain ⟨t0, t1⟩ := T6.out
      obtain ⟨wy, hwy⟩ : ∃ wy, w4 = wy := ⟨_, rfl⟩
      rw [hwy] at B4 Z4 C6 P6
      go_wp2_with fail
      refine (HNA.out _).mono ?_
      rintro e w8 ⟨rfl, hb8⟩
      have B8 := mkHid (below_step B6.out hb8)
      have C8 := mkHid (below_step C6.out hb8)
      have P8 := mkHid (P6.out.below hb8)
      have Y8 := mkHid (Y6.out.below hb8)
      have T8 := mkHid (T6.out.below hb8)
      have Z8 := mkHid (Z6.out.below hb8)
      clear hb8 B6 C6 P6 Y6 T6 Z6 t0 t1 hby hwy
      cases hn1 : noF z l with
      | true =>
        have e1 : Hid (widR z l z' l' st = (zy, ly)) := mkHid (by rw [widR_one HGO.out HSO.out hn1, HZY.out, HLY.out])
        obtain ⟨y0, y1⟩ := Y8.out
        obtain ⟨⟨z0, z1⟩, z2, z3⟩ := Z8.out
        have HE := mkHid (fun v0 v1 => Gives.shut (b := w.heap.size + 2) B4.out (by omega) Z4.out.lt P8.out C8.out v0 v1)
        clear hn1
        go_wp2
        refine bodyPost_ret (v := .agg #[.int .i64 zy, .slice ya ly.length yc]) (by simp [results, Try.results16, go_sem, z0, z1]) rfl ?_
        rw [e1.out]
        exact ⟨ya, yc, rfl, (HE.out _ _).1, (HE.out _ _).2⟩
      | false =>
        obtain ⟨n, hzn, h1, h2, h3, hmk, hfine⟩ := ok_of (go_ok1 HGO.out hn1)
        have HN1 := mkHid hn1
        have HFACT := mkHid (show z = (n : Int) ∧ 1 ≤ n ∧ n ≤ 13 ∧ l = mk n (tab n l) ∧ Fine n (tab n l) from ⟨hzn, h1, h2, hmk, hfine⟩)
        have HLP : Hid (0 < l.length ∧ l.length ≤ 169) := mkHid (by rw [h3]; exact ⟨sq_pos h1, sq_le h2⟩)
        obtain ⟨b, o, rfl, c0⟩ := IntsAt.get' HL.out (k := 0) HLP.out.1
        have HLC := mkHid c0
        have HSRC : Hid (∀ v, Below w.heap.size w v → ∀ (j : Nat) (u : Value), (ints l)[j]? = some u → v.cell? ((⟨b, o, none⟩ : Addr).add j) = some u) := mkHid fun v hv j u hu => by
          rcases HL.out.below hv with h0 | ⟨b', o', e, hc⟩
          · rw [h0] at hu; simp [ints] at hu
          · cases e
            rw [ints_get] at hu
            cases hx : l[j]? with
            | none => rw [hx] at hu; cases hu
            | some x => rw [hx] at hu; cases hu; rw [Addr.add_mid]; exact hc j x hx
        obtain ⟨i0, hi, hzz'⟩ := Option.map_eq_some_iff.1 Try.info3
        simp only [Prod.mk.injEq] at hzz'
        obtain ⟨hz0, hz1, hz2⟩ := hzz'
        have HI := mkHid (show Try.prog.info? 3 = some i0 ∧ i0.zero = some (.int .i64 0) ∧ i0.size = 1 ∧ i0.bytes = 8 from ⟨hi, hz0, hz1, hz2⟩)
        have B8k := mkHid B8.out
        clear hn1 hzn h1 h2 h3 hmk hfine hi hz0 hz1 hz2 c0 B4 C8 Z4 s4
        go_wp2_with fail
        refine wp_region_inv2 (fun zA0 L zA v => ∃ (zB : Nat → Bool) (zS : Nat → Value) (g0 : Nat) (sa : Option Addr) (sc : Nat) (X : Nat), L = #[zB 0, zB 1, zB 2, zB 3, zB 4, zB 5, zB 6, zB 7, zB 8] ∧ zA = puts zA0 [(27, zS 27), (28, zS 28), (29, zS 29), (30, zS 30), (31, zS 31), (32, zS 32), (33, zS 33), (8, zS 8)] ∧ ((zB 0 = true → zS 27 = .pointer (some ⟨w.heap.size, 0, none⟩)) ∧ (zB 1 = true → zS 28 = .int .i64 z) ∧ (zB 2 = true → zS 29 = .slice (some ⟨g0, 0, none⟩) 0 0) ∧ (zB 3 = true → zS 30 = .pointer (some ⟨w.heap.size, 1, none⟩)) ∧ (zB 4 = true → zS 31 = .slice (some ⟨b, o, none⟩) l.length c) ∧ (zB 5 = true → zS 32 = .slice sa l.length sc) ∧ (zB 6 = true → zS 33 = .agg #[.int .i64 z, .slice sa l.length sc]) ∧ (zB 7 = true → zS 8 = .pointer (some ⟨X, 0, none⟩))) ∧ Cal w8 (zB 5) (zB 7) (zB 8) X sa sc z l v ∧ ((zB 2) = true → (zB 5) = false → OwnI v w8.heap.size (.slice (some ⟨g0, 0, none⟩) 0 0) [] ∧ w8.heap.size ≤ g0 ∧ ((zB 7) = true → X ≠ g0)) ∧ ((zB 5) = true → ∃ g, sa = some ⟨g, 0, none⟩) ∧ ((zB 6) = true → (zB 5) = true)) (by kernel_rfl) ?_ ?_ ?_
        · exact ⟨fun _ => false, fun _ => undef, 0, none, 0, 0, rfl, by kernel_rfl, ⟨fun e => ft e, fun e => ft e, fun e => ft e, fun e => ft e, fun e => ft e, fun e => ft e, fun e => ft e, fun e => ft e⟩, ⟨Cal.start (Below.refl _ _).drew, fun e => ft e, fun e => ft e, fun e => ft e⟩⟩
        · refine StepsI.cons rfl ?_ ?_
          · rintro L zA v ⟨zB, zS, g0, sa, sc, X, rfl, rfl, hF, hW⟩ hL hm K hK
            have hb0 : zB 0 = false := by simpa using hL
            clear hL hm
            simp only [puts, Act.put, List.setIfInBounds_toArray, List.set_cons_zero, List.set_cons_succ]
            go_simp
            exact hK.out _ _ ⟨fun zj => if zj = 0 then true else zB zj, fun zd => if zd = 27 then .pointer (some ⟨w.heap.size, 0, none⟩) else zS zd, g0, sa, sc, X, rfl, by kernel_rfl, ⟨fun _ => rfl, hF.2.1, hF.2.2.1, hF.2.2.2.1, hF.2.2.2.2.1, hF.2.2.2.2.2.1, hF.2.2.2.2.2.2.1, hF.2.2.2.2.2.2.2⟩, hW⟩
          refine StepsI.cons rfl ?_ ?_
          · rintro L zA v ⟨zB, zS, g0, sa, sc, X, rfl, rfl, hF, hW⟩ hL hm K hK
            have hb1 : zB 1 = false := by simpa using hL
            have hb0 : zB 0 = true := by cases e : zB 0 with | false => (exfalso; revert hm; simp [metB, Region.binds, e]) | true => rfl
            have e0 : zS 27 = .pointer (some ⟨w.heap.size, 0, none⟩) := hF.1 hb0
            clear hL hm
            simp only [puts, Act.put, List.setIfInBounds_toArray, List.set_cons_zero, List.set_cons_succ]
            simp only [e0]
            obtain ⟨q0, q1⟩ := T8.out.below hW.1.bel
            go_simp
            exact hK.out _ _ ⟨fun zj => if zj = 0 then true else if zj = 1 then true else zB zj, fun zd => if zd = 28 then .int .i64 z else if zd = 27 then .pointer (some ⟨w.heap.size, 0, none⟩) else zS zd, g0, sa, sc, X, by simp [hb0], by kernel_rfl, ⟨fun _ => rfl, fun _ => rfl, hF.2.2.1, hF.2.2.2.1, hF.2.2.2.2.1, hF.2.2.2.2.2.1, hF.2.2.2.2.2.2.1, hF.2.2.2.2.2.2.2⟩, hW⟩
          refine StepsI.cons rfl ?_ ?_
          · rintro L zA v ⟨zB, zS, g0, sa, sc, X, rfl, rfl, hF, hW⟩ hL hm K hK
            have hb2 : zB 2 = false := by simpa using hL
            clear hL hm
            rw [hb2] at hW
            simp only [puts, Act.put, List.setIfInBounds_toArray, List.set_cons_zero, List.set_cons_succ]
            obtain ⟨hC, k2, k5, k6⟩ := hW
            have hst : zB 5 = false → zB 8 = false := fun e => by cases h : zB 8 with | false => rfl | true => exact absurd (hC.sf h).1 (by rw [e]; decide)
            go_simp
            exact hK.out _ _ ⟨fun zj => if zj = 2 then true else zB zj, fun zd => if zd = 29 then .slice (some ⟨v.heap.size, 0, none⟩) 0 0 else zS zd, v.heap.size, sa, sc, X, rfl, by kernel_rfl, ⟨hF.1, hF.2.1, fun _ => rfl, hF.2.2.2.1, hF.2.2.2.2.1, hF.2.2.2.2.2.1, hF.2.2.2.2.2.2.1, hF.2.2.2.2.2.2.2⟩, ⟨hC.below ((Below.refl _ _).alloc (Nat.le_refl _) _), fun _ e5 => ⟨OwnI.fresh hC.bel.size (heap_alloc_last v _), hC.bel.size, fun e7 => by have := ((hC.box e7).2.1 (hst e5)).lt; omega⟩, k5, k6⟩⟩
          refine StepsI.cons rfl ?_ ?_
          · rintro L zA v ⟨zB, zS, g0, sa, sc, X, rfl, rfl, hF, hW⟩ hL hm K hK
            have hb3 : zB 3 = false := by simpa using hL
            clear hL hm
            simp only [puts, Act.put, List.setIfInBounds_toArray, List.set_cons_zero, List.set_cons_succ]
            go_simp
            exact hK.out _ _ ⟨fun zj => if zj = 3 then true else zB zj, fun zd => if zd = 30 then .pointer (some ⟨w.heap.size, 1, none⟩) else zS zd, g0, sa, sc, X, rfl, by kernel_rfl, ⟨hF.1, hF.2.1, hF.2.2.1, fun _ => rfl, hF.2.2.2.2.1, hF.2.2.2.2.2.1, hF.2.2.2.2.2.2.1, hF.2.2.2.2.2.2.2⟩, hW⟩
          refine StepsI.cons rfl ?_ ?_
          · rintro L zA v ⟨zB, zS, g0, sa, sc, X, rfl, rfl, hF, hW⟩ hL hm K hK
            have hb4 : zB 4 = false := by simpa using hL
            have hb3 : zB 3 = true := by cases e : zB 3 with | false => (exfalso; revert hm; simp [metB, Region.binds, e]) | true => rfl
            have e3 : zS 30 = .pointer (some ⟨w.heap.size, 1, none⟩) := hF.2.2.2.1 hb3
            clear hL hm
            simp only [puts, Act.put, List.setIfInBounds_toArray, List.set_cons_zero, List.set_cons_succ]
            simp only [e3]
            obtain ⟨q0, q1⟩ := T8.out.below hW.1.bel
            go_simp
            exact hK.out _ _ ⟨fun zj => if zj = 3 then true else if zj = 4 then true else zB zj, fun zd => if zd = 31 then .slice (some ⟨b, o, none⟩) l.length c else if zd = 30 then .pointer (some ⟨w.heap.size, 1, none⟩) else zS zd, g0, sa, sc, X, by simp [hb3], by kernel_rfl, ⟨hF.1, hF.2.1, hF.2.2.1, fun _ => rfl, fun _ => rfl, hF.2.2.2.2.2.1, hF.2.2.2.2.2.2.1, hF.2.2.2.2.2.2.2⟩, hW⟩
          refine StepsI.cons rfl ?_ ?_
          · rintro L zA v ⟨zB, zS, g0, sa, sc, X, rfl, rfl, hF, hW⟩ hL hm K hK
            have hb5 : zB 5 = false := by simpa using hL
            have hb2 : zB 2 = true := by cases e : zB 2 with | false => (exfalso; revert hm; simp [metB, Region.binds, e]) | true => rfl
            have hb4 : zB 4 = true := by cases e : zB 4 with | false => (exfalso; revert hm; simp [metB, Region.binds, e]) | true => rfl
            have e2 : zS 29 = .slice (some ⟨g0, 0, none⟩) 0 0 := hF.2.2.1 hb2
            have e4 : zS 31 = .slice (some ⟨b, o, none⟩) l.length c := hF.2.2.2.2.1 hb4
            clear hL hm
            rw [hb5] at hW
            rw [hb2] at hW
            simp only [puts, Act.put, List.setIfInBounds_toArray, List.set_cons_zero, List.set_cons_succ]
            simp only [e2, e4]
            obtain ⟨hC, k2, k5, k6⟩ := hW
            obtain ⟨k2a, k2b, k2c⟩ := k2 rfl rfl
            rw [if_pos (by rfl)]
            refine wp_append_lies _ _ _ 24 rfl w8.heap.size 3 i0 (.int .i64 0) 1 8 Try.underlying24 HI.out.1 HI.out.2.1 HI.out.2.2.1 HI.out.2.2.2 rfl (by decide) (.slice (some ⟨g0, 0, none⟩) 0 0) 0 [] rfl k2a ⟨b, o, none⟩ l.length c (ints l) rfl (by rw [ints_len]; omega) (HSRC.out _ (below_step B8.out hC.bel)) (one_cell_ints l) HLP.out.1 (by have := HLP.out.2; unfold maxLen; omega) (by have := HLP.out.2; omega) hC.bel.size v.heap.size rfl ?_
            intro g cap v2 hown hgrow hat hlt4
            have hown2 : OwnI v2 w8.heap.size (.slice (some ⟨g, 0, none⟩) l.length cap) l := by unfold OwnI; simpa using hown
            have hgg : g = g0 ∨ g = v.heap.size := hat.imp (fun e => (Option.some.inj e).symm) id
            simp only [Nat.zero_add]
            exact hK.out _ _ ⟨fun zj => if zj = 4 then true else if zj = 2 then true else if zj = 5 then true else zB zj, fun zd => if zd = 32 then .slice (some ⟨g, 0, none⟩) l.length cap else if zd = 31 then .slice (some ⟨b, o, none⟩) l.length c else if zd = 29 then .slice (some ⟨g0, 0, none⟩) 0 0 else zS zd, g0, (some ⟨g, 0, none⟩), cap, X, by simp [hb2, hb4], by kernel_rfl, ⟨hF.1, hF.2.1, fun _ => rfl, hF.2.2.2.1, fun _ => rfl, fun _ => rfl, fun e => ft (k6 e), hF.2.2.2.2.2.2.2⟩, ⟨hC.grew hgrow k2b k2c hown2 hgg, fun _ e => tf e, fun _ => ⟨g, rfl⟩, fun _ => rfl⟩⟩
          refine StepsI.cons rfl ?_ ?_
          · rintro L zA v ⟨zB, zS, g0, sa, sc, X, rfl, rfl, hF, hW⟩ hL hm K hK
            have hb6 : zB 6 = false := by simpa using hL
            have hb1 : zB 1 = true := by cases e : zB 1 with | false => (exfalso; revert hm; simp [metB, Region.binds, e]) | true => rfl
            have hb5 : zB 5 = true := by cases e : zB 5 with | false => (exfalso; revert hm; simp [metB, Region.binds, e]) | true => rfl
            have e1 : zS 28 = .int .i64 z := hF.2.1 hb1
            have e5 : zS 32 = .slice sa l.length sc := hF.2.2.2.2.2.1 hb5
            clear hL hm
            rw [hb6] at hW
            rw [hb5] at hW
            simp only [puts, Act.put, List.setIfInBounds_toArray, List.set_cons_zero, List.set_cons_succ]
            simp only [e1, e5]
            obtain ⟨hC, k2, k5, k6⟩ := hW
            go_simp
            exact hK.out _ _ ⟨fun zj => if zj = 5 then true else if zj = 1 then true else if zj = 6 then true else zB zj, fun zd => if zd = 33 then .agg #[.int .i64 z, .slice sa l.length sc] else if zd = 32 then .slice sa l.length sc else if zd = 28 then .int .i64 z else zS zd, g0, sa, sc, X, by simp [hb1, hb5], by kernel_rfl, ⟨hF.1, fun _ => rfl, hF.2.2.1, hF.2.2.2.1, hF.2.2.2.2.1, fun _ => rfl, fun _ => rfl, hF.2.2.2.2.2.2.2⟩, ⟨hC, k2, k5, fun _ => rfl⟩⟩
          refine StepsI.cons rfl ?_ ?_
          · rintro L zA v ⟨zB, zS, g0, sa, sc, X, rfl, rfl, hF, hW⟩ hL hm K hK
            have hb7 : zB 7 = false := by simpa using hL
            clear hL hm
            rw [hb7] at hW
            simp only [puts, Act.put, List.setIfInBounds_toArray, List.set_cons_zero, List.set_cons_succ]
            obtain ⟨hC, k2, k5, k6⟩ := hW
            go_simp
            exact hK.out _ _ ⟨fun zj => if zj = 7 then true else zB zj, fun zd => if zd = 8 then .pointer (some ⟨v.heap.size, 0, none⟩) else zS zd, g0, sa, sc, v.heap.size, rfl, by kernel_rfl, ⟨hF.1, hF.2.1, hF.2.2.1, hF.2.2.2.1, hF.2.2.2.2.1, hF.2.2.2.2.2.1, hF.2.2.2.2.2.2.1, fun _ => rfl⟩, ⟨hC.alloc, fun e e2 => ⟨(k2 e e2).1.below ((Below.refl _ _).alloc (Nat.le_refl _) _), (k2 e e2).2.1, fun _ => by have := (k2 e e2).1.lt (q := g0) rfl; omega⟩, k5, k6⟩⟩
          refine StepsI.cons rfl ?_ ?_
          · rintro L zA v ⟨zB, zS, g0, sa, sc, X, rfl, rfl, hF, hW⟩ hL hm K hK
            have hb8 : zB 8 = false := by simpa using hL
            have hb5 : zB 5 = true := by cases e : zB 5 with | false => (exfalso; revert hm; simp [metB, Region.binds, e]) | true => rfl
            have hb6 : zB 6 = true := by cases e : zB 6 with | false => (exfalso; revert hm; simp [metB, Region.binds, e]) | true => rfl
            have hb7 : zB 7 = true := by cases e : zB 7 with | false => (exfalso; revert hm; simp [metB, Region.binds, e]) | true => rfl
            have e5 : zS 32 = .slice sa l.length sc := hF.2.2.2.2.2.1 hb5
            have e6 : zS 33 = .agg #[.int .i64 z, .slice sa l.length sc] := hF.2.2.2.2.2.2.1 hb6
            have e7 : zS 8 = .pointer (some ⟨X, 0, none⟩) := hF.2.2.2.2.2.2.2 hb7
            clear hL hm
            rw [hb8] at hW
            rw [hb5] at hW
            rw [hb6] at hW
            rw [hb7] at hW
            simp only [puts, Act.put, List.setIfInBounds_toArray, List.set_cons_zero, List.set_cons_succ]
            simp only [e5, e6, e7]
            obtain ⟨hC, k2, k5, k6⟩ := hW
            obtain ⟨⟨y0, y1⟩, y2, y3⟩ := (hC.box rfl).2.1 rfl
            go_simp
            exact hK.out _ _ ⟨fun zj => if zj = 7 then true else if zj = 6 then true else if zj = 5 then true else if zj = 8 then true else zB zj, fun zd => if zd = 8 then .pointer (some ⟨X, 0, none⟩) else if zd = 33 then .agg #[.int .i64 z, .slice sa l.length sc] else if zd = 32 then .slice sa l.length sc else zS zd, g0, sa, sc, X, by simp [hb5, hb6, hb7], by kernel_rfl, ⟨hF.1, hF.2.1, hF.2.2.1, hF.2.2.2.1, hF.2.2.2.2.1, fun _ => rfl, fun _ => rfl, fun _ => rfl⟩, ⟨hC.store, fun _ e => tf e, fun _ => k5 rfl, fun _ => rfl⟩⟩
          exact StepsI.nil (by kernel_rfl)
        · rintro L zA v ⟨zB, zS, g0, sa, sc, X, rfl, rfl, hF, hW⟩ hr
          have hu := all_up (by kernel_rfl) (N := 9) (by kernel_rfl) hr
          have hb0 : zB 0 = true := by simpa using hu 0 (by decide)
          have hb1 : zB 1 = true := by simpa using hu 1 (by decide)
          have hb2 : zB 2 = true := by simpa using hu 2 (by decide)
          have hb3 : zB 3 = true := by simpa using hu 3 (by decide)
          have hb4 : zB 4 = true := by simpa using hu 4 (by decide)
          have hb5 : zB 5 = true := by simpa using hu 5 (by decide)
          have hb6 : zB 6 = true := by simpa using hu 6 (by decide)
          have hb7 : zB 7 = true := by simpa using hu 7 (by decide)
          have hb8 : zB 8 = true := by simpa using hu 8 (by decide)
          have e0 : zS 27 = .pointer (some ⟨w.heap.size, 0, none⟩) := hF.1 hb0
          have e1 : zS 28 = .int .i64 z := hF.2.1 hb1
          have e2 : zS 29 = .slice (some ⟨g0, 0, none⟩) 0 0 := hF.2.2.1 hb2
          have e3 : zS 30 = .pointer (some ⟨w.heap.size, 1, none⟩) := hF.2.2.2.1 hb3
          have e4 : zS 31 = .slice (some ⟨b, o, none⟩) l.length c := hF.2.2.2.2.1 hb4
          have e5 : zS 32 = .slice sa l.length sc := hF.2.2.2.2.2.1 hb5
          have e6 : zS 33 = .agg #[.int .i64 z, .slice sa l.length sc] := hF.2.2.2.2.2.2.1 hb6
          have e7 : zS 8 = .pointer (some ⟨X, 0, none⟩) := hF.2.2.2.2.2.2.2 hb7
          rw [hb2] at hW
          rw [hb5] at hW
          rw [hb6] at hW
          rw [hb7] at hW
          rw [hb8] at hW
          clear hu hr hF
          simp only [puts, Act.put, List.setIfInBounds_toArray, List.set_cons_zero, List.set_cons_succ]
          simp only [e0, e1, e2, e3, e4, e5, e6, e7]
          clear e0 e1 e2 e3 e4 e5 e6 e7
          clear hb0 hb1 hb2 hb3 hb4 hb5 hb6 hb7 hb8
          clear zB zS
          obtain ⟨hC, -, k5, -⟩ := hW
          obtain ⟨g1, rfl⟩ := k5 rfl
          obtain ⟨hbel, hX0, hXf, hXo, hXn⟩ := hC.all
          have B9 := mkHid (below_step B8.out hbel)
          have T9 := mkHid (T8.out.below hbel)
          have Z9 := mkHid (Z8.out.below hbel)
          have Y9 := mkHid (Y8.out.below hbel)
          have P9 := mkHid (P8.out.below hbel)
          have X9 := mkHid hXf
          have O9 := mkHid hXo
          have hXg : X ≠ g1 := hXn g1 rfl
          have hg1 : w8.heap.size ≤ g1 := (hXo.lt (q := g1) rfl).1
          have PN : Hid (∀ q', Value.ownBlock (.slice ya ly.length yc) = some q' → g1 ≠ q') := mkHid fun q' hq' => by have := (P8.out.lt hq').2; omega
          have ly8 := Y8.out.lt
          have lz8 := Z8.out.lt
          have lt8 := T8.out.lt
          clear hC hXf hXo hXn B8 T8 Y8 P8 k5
          obtain ⟨y0, y1⟩ := Y9.out
          have C9 := mkHid hbel
          go_wp2_with fail
          refine (sNoF_any zy ya ly.length yc _).mono ?_
          rintro e wa ⟨rfl, hba⟩
          have Ba := mkHid (below_step B9.out hba)
          have Ta := mkHid (T9.out.below hba)
          have Za := mkHid (Z9.out.below hba)
          have Ya := mkHid (Y9.out.below hba)
          have Pa := mkHid (P9.out.below hba)
          have Xa := mkHid (X9.out.below hba)
          have Oa := mkHid (O9.out.below hba)
          have Ca := mkHid (below_step C9.out hba)
          clear hba B9 T9 Z9 Y9 P9 X9 O9 C9 y0 y1
          cases hc2 : cF z' l' with
          | none =>
            have e1 : Hid (widR z l z' l' st = (z, l)) := mkHid (widR_other HGO.out HSO.out HN1.out hc2)
            have hno : noN zy ly.length = true := by rw [← HZY.out, ← HLY.out, hc2]; rfl
            rw [hno]
            obtain ⟨x0, x1⟩ := Xa.out
            obtain ⟨⟨z0, z1⟩, z2, z3⟩ := Za.out
            have HE := mkHid (fun v0 v1 => Gives.shut (b := w.heap.size + 2) B8k.out (by omega) Z8.out.lt Oa.out Ca.out v0 v1)
            clear hno hc2
            go_wp2
            refine bodyPost_ret (v := .agg #[.int .i64 z, .slice (some ⟨g1, 0, none⟩) l.length sc]) (by simp [results, Try.results16, go_sem, z0, z1]) rfl ?_
            rw [e1.out]
            exact ⟨_, _, rfl, (HE.out _ _).1, (HE.out _ _).2⟩
          | some gg =>
            obtain ⟨k1, k2, k3⟩ := HFB.out gg hc2
            have hno : noN zy ly.length = false := by
              rw [← HZY.out, hc2]
              unfold noN
              rw [decide_eq_false (fun e => by have := e.1; simp [outZ] at this; omega)]
            rw [hno]
            have hzz := go_same1 HGO.out HN1.out hc2
            obtain ⟨hzn, h1, h2, hmk, hfine⟩ := HFACT.out
            have hto : z.toNat = n := by rw [hzn, Int.toNat_natCast]
            have e1 : Hid (widR z l z' l' st = (z, mk n (widT (tab n l) gg st))) := mkHid (by rw [widR_both HGO.out HSO.out HN1.out hc2, hto])
            have ely : ly = mk n gg := by rw [← HLY.out, hc2, ← hzz, hto]; rfl
            obtain ⟨F, hF⟩ : ∃ F, tab n l = F := ⟨_, rfl⟩
            rw [hF] at e1 hmk hfine
            have hll : l.length = n * n := by rw [hmk, mk_len]
            have hll' : ly.length = n * n := by rw [ely, mk_len]
            have hsq := sq_le h2
            rw [hll] at Oa Xa Ta
            rw [hll'] at Pa Ya PN
            have HSTV : Hid (valsB st = true ∧ st.length ≤ 20) := mkHid (by
              have := HSO.out
              unfold stepsB at this
              rw [Bool.and_eq_true, Bool.and_eq_true] at this
              exact ⟨this.2.1, of_decide_eq_true this.1⟩)
            have O0 : Hid (OwnI wa w8.heap.size (.slice (some ⟨g1, 0, none⟩) (n * n) sc) (mk n (widP n F gg st 0))) := mkHid (by rw [widP_zero, ← hmk]; exact Oa.out)
            have HLM : Hid (l = mk n F) := mkHid hmk
            have P0 : Hid (OwnI wa wy.heap.size (.slice ya (n * n) yc) (mk n gg)) := mkHid (by rw [← ely]; exact Pa.out)
            rw [hzn] at Xa Ta
            have HALL : Hid (mk n (widP n F gg st (n * n)) = mk n (widT F gg st)) := mkHid (mk_congr (fun a b ha hb => widP_all ha hb))
            have hn13 : n ≤ 13 := h2
            rw [← hzz, hto] at k3
            have HGF := mkHid k3.bd
            have HZN := mkHid hzn
            obtain ⟨s, hs⟩ : ∃ s, n * n = s := ⟨_, rfl⟩
            rw [hs] at O0 P0 Xa Ta Ya PN HALL hsq
            have HS2 := mkHid hs
            have hyb : by1 ≠ g1 := by omega
            have htg : w.heap.size ≠ g1 := by omega
            have hzg : w.heap.size + 2 ≠ g1 := by omega
            have hgw : w.heap.size ≤ g1 := by omega
            clear hno hc2 hzz hto ely hF hmk hfine hll hll' k1 k2 k3 Oa Pa HFACT HN1 hzn h1 h2 hs
            have t00 := Ta.out.1
            go_wp2_with fail
            go_loopg [9] n (fun gh q wr => ∃ i : Nat, i + gh = n ∧ q = .int .i64 i ∧ OwnI wr w8.heap.size (.slice (some ⟨g1, 0, none⟩) s sc) (mk n (widP n F gg st (i * n))) ∧ Fc wr X n (some ⟨g1, 0, none⟩) s sc ∧ OwnI wr wy.heap.size (.slice ya s yc) (mk n gg) ∧ Fc wr by1 zy ya s yc ∧ Fc wr w.heap.size n (some ⟨b, o, none⟩) s c ∧ Fz wr (w.heap.size + 2) ∧ Below w.heap.size w wr ∧ Below w8.heap.size w8 wr)
            case atStart => exact ⟨0, by omega, rfl, by rw [Nat.zero_mul]; exact O0.out, Xa.out, P0.out, Ya.out, Ta.out, Za.out, Ba.out, Ca.out⟩
            case round =>
              obtain ⟨i, hig, rfl, h_1, h_2, h_3, h_4, h_5, h_6, h_7, h_8⟩ := hrel
              have N1 := mkHid h_1
              have N2 := mkHid h_2
              have N3 := mkHid h_3
              have N4 := mkHid h_4
              have N5 := mkHid h_5
              have N6 := mkHid h_6
              have N7 := mkHid h_7
              have N8 := mkHid h_8
              clear h_1 h_2 h_3 h_4 h_5 h_6 h_7 h_8 O0 Xa P0 Ya Ta Za Ba Ca t00
              have t00 := N5.out.1
              cases gk with
              | zero =>
                have hlt : ¬ ((i : Int) < (n : Int)) := by omega
                have e : i = n := by omega
                subst e
                obtain ⟨x0, x1⟩ := N2.out
                obtain ⟨⟨z0, z1⟩, z2, z3⟩ := N6.out
                have hs2 := HS2.out
                have NF : Hid (OwnI wr w8.heap.size (.slice (some ⟨g1, 0, none⟩) (mk i (widT F gg st)).length sc) (mk i (widT F gg st))) := mkHid (by rw [mk_len, hs2, ← HALL.out, ← hs2]; rw [hs2]; have := N1.out; rw [hs2] at this; exact this)
                have HE := mkHid (fun v0 v1 => Gives.shut (b := w.heap.size + 2) B8k.out (by omega) Z8.out.lt NF.out N8.out v0 v1)
                clear hs2
                go_wp2
                refine bodyPost_ret (v := .agg #[.int .i64 i, .slice (some ⟨g1, 0, none⟩) s sc]) (by simp [results, Try.results16, go_sem, z0, z1]) rfl ?_
                rw [e1.out]
                refine ⟨some ⟨g1, 0, none⟩, sc, ?_, (HE.out _ _).1, (HE.out _ _).2⟩
                show _ = Ending.returned (.agg #[.int .i64 z, .slice (some ⟨g1, 0, none⟩) (mk i (widT F gg st)).length sc])
                rw [mk_len, HS2.out, HZN.out]
              | succ gh =>
                have hlt : (i : Int) < (n : Int) := by omega
                go_wp2_with fail
                go_loopg [10] n (fun g2 q wr => ∃ j : Nat, j + g2 = n ∧ q = .int .i64 j ∧ OwnI wr w8.heap.size (.slice (some ⟨g1, 0, none⟩) s sc) (mk n (widP n F gg st (i * n + j))) ∧ Fc wr X n (some ⟨g1, 0, none⟩) s sc ∧ OwnI wr wy.heap.size (.slice ya s yc) (mk n gg) ∧ Fc wr by1 zy ya s yc ∧ Fc wr w.heap.size n (some ⟨b, o, none⟩) s c ∧ Fz wr (w.heap.size + 2) ∧ Below w.heap.size w wr ∧ Below w8.heap.size w8 wr)
                case atStart => exact ⟨0, by omega, rfl, N1.out, N2.out, N3.out, N4.out, N5.out, N6.out, N7.out, N8.out⟩
                case round =>
                  obtain ⟨j, hjg, rfl, h_1, h_2, h_3, h_4, h_5, h_6, h_7, h_8⟩ := hrel
                  have M1 := mkHid h_1
                  have M2 := mkHid h_2
                  have M3 := mkHid h_3
                  have M4 := mkHid h_4
                  have M5 := mkHid h_5
                  have M6 := mkHid h_6
                  have M7 := mkHid h_7
                  have M8 := mkHid h_8
                  clear h_1 h_2 h_3 h_4 h_5 h_6 h_7 h_8 N1 N2 N3 N4 N5 N6 N7 N8 t00
                  have t00 := M5.out.1
                  cases gk with
                  | zero =>
                    have hlt2 : ¬ ((j : Int) < (n : Int)) := by omega
                    have e : j = n := by omega
                    subst e
                    go_wp2
                    go_roundg gh
                    case measure => omega
                    case rel => exact ⟨i + 1, by omega, by go_num, by rw [Nat.succ_mul]; exact M1.out, M2.out, M3.out, M4.out, M5.out, M6.out, M7.out, M8.out⟩
                  | succ g2 =>
                    have hlt2 : (j : Int) < (n : Int) := by omega
                    have hi : i < n := by omega
                    have hj : j < n := by omega
                    have hks : i * n + j < s := by rw [← HS2.out]; exact idx_lt hi hj
                    have t01 := M5.out.2
                    have y01 := M4.out.2
                    have x01 := M2.out.2
                    have hm1 : IntKind.i64.wrap ((i : Int) * (n : Int)) = ((i * n : Nat) : Int) := by rw [Int.natCast_mul]; refine IntWalk.i64_in _ ?_; rw [← Int.natCast_mul]; omega
                    have hm2 : IntKind.i64.wrap (((i * n : Nat) : Int) + (j : Int)) = ((i * n + j : Nat) : Int) := by rw [Int.natCast_add]; refine IntWalk.i64_in _ ?_; omega
                    obtain ⟨yb, yo, rfl, cy⟩ := IntsAt.get' M3.out.at (k := i * n + j) (by rw [mk_len, HS2.out]; exact hks)
                    have ca : wr.cell? ⟨b, o + (i * n + j), none⟩ = some (.int .i64 (F i j)) := by
                      have h := HL.out.below M7.out
                      rw [HLM.out] at h
                      obtain ⟨b2, o2, e2, c2⟩ := IntsAt.get' h (k := i * n + j) (by rw [mk_len, HS2.out]; exact hks)
                      cases e2
                      rw [mk_V n F i j hi hj] at c2
                      exact c2
                    rw [mk_V n gg i j hi hj] at cy
                    have co := M1.out.cell (p := i * n + j) (by rw [mk_len, HS2.out]; exact hks)
                    have fo := M1.out.free (i * n + j)
                    have bg := HGF.out i j hi hj
                    have GRO := M1.out
                    by_cases hgt : gg i j > F i j
                    · have HNX : Hid ((mk n (widP n F gg st (i * n + j))).set (i * n + j) (stepM (gg i j) (capT i j) st) = mk n (widP n F gg st (i * n + j + 1))) := mkHid (by
                        have := mk_wid (f := F) (g := gg) (st := st) hi hj
                        rw [show widT F gg st i j = stepM (gg i j) (capT i j) st from if_pos hgt] at this
                        exact this)
                      have K0 := (M1.out.stored (i * n + j) (stepM (gg i j) (capT i j) st)).1
                      rw [HNX.out] at K0
                      obtain ⟨x, hx⟩ : ∃ x, F i j = x := ⟨_, rfl⟩
                      obtain ⟨y, hy⟩ : ∃ y, gg i j = y := ⟨_, rfl⟩
                      rw [hx] at ca hgt
                      rw [hy] at cy hgt HNX K0
                      obtain ⟨k, hk⟩ : ∃ k, i * n + j = k := ⟨_, rfl⟩
                      rw [hk] at hm2 cy ca co fo K0 hks
                      obtain ⟨k', hk'⟩ : ∃ k', i * n = k' := ⟨_, rfl⟩
                      rw [hk'] at hm1 hm2
                      have hks2 : (k : Int) < (s : Int) := by omega
                      have HK := mkHid hk
                      have gr := grown_setCell wr ⟨g1, k, none⟩ (.int .i64 (stepM y (capT i j) st))
                      have K1 := mkHid (K0.below (Below.refl _ _).drew.drew)
                      have K2 := mkHid ((M2.out.grown gr (some_ne hXg)).below (Below.refl _ _).drew.drew)
                      have K3 := mkHid ((M3.out.grown gr (fun q hq => some_ne (by show g1 ≠ q; exact PN.out q hq))).below (Below.refl _ _).drew.drew)
                      have K4 := mkHid ((M4.out.grown gr (some_ne hyb)).below (Below.refl _ _).drew.drew)
                      have K5 := mkHid ((M5.out.grown gr (some_ne htg)).below (Below.refl _ _).drew.drew)
                      have K6 := mkHid ((M6.out.grown gr (some_ne hzg)).below (Below.refl _ _).drew.drew)
                      have K7 := mkHid (below_step (M7.out.grown gr M7.out.size (fun q hq => by cases hq; exact hgw)) (Below.refl _ _).drew.drew)
                      have K8 := mkHid (below_step (M8.out.grown gr M8.out.size (fun q hq => by cases hq; exact hg1)) (Below.refl _ _).drew.drew)
                      have HSTP : Hid (IntsAt wr (some ⟨gs, 0, none⟩) st) := mkHid (HST.out.below M7.out).at
                      have hgy : g1 ≠ yb := PN.out yb rfl
                      have hgb : g1 ≠ b := by have := World.block_lt_of_cell? w _ (HLC.out); have h3 : b < w.heap.size := this; omega
                      have HSS : Hid (∀ u, (wr.setCell ⟨g1, k, none⟩ u).cell? ⟨X, 1, none⟩ = some (.slice (some ⟨g1, 0, none⟩) s sc) ∧ (wr.setCell ⟨g1, k, none⟩ u).cell? ⟨by1, 1, none⟩ = some (.slice (some ⟨yb, yo, none⟩) s yc) ∧ (wr.setCell ⟨g1, k, none⟩ u).cell? ⟨yb, yo + k, none⟩ = some (.int .i64 y)) := mkHid fun u => ⟨by rw [World.cell?_setCell_far _ _ _ _ (fun e => hXg e.symm)]; exact x01, by rw [World.cell?_setCell_far _ _ _ _ (fun e => hyb e.symm)]; exact y01, by rw [World.cell?_setCell_far _ _ _ _ hgy]; exact cy⟩
                      clear hx hy hk hk' gr K0 bg GRO M1 M2 M3 M4 M5 M6 M7 M8
                      go_wp2_with fail
                      go_region_held3 (fun v => v.cell? ⟨by1, 1, none⟩ = some (.slice (some ⟨yb, yo, none⟩) s yc) ∧ v.cell? ⟨w.heap.size, 1, none⟩ = some (.slice (some ⟨b, o, none⟩) s c) ∧ v.cell? ⟨yb, yo + k, none⟩ = some (.int .i64 y) ∧ v.cell? ⟨b, o + k, none⟩ = some (.int .i64 x))
                        (first | exact ⟨y01, t01, cy, ca⟩)
                        (fail)
                      go_wp2_with fail
                      go_region_held3 (fun v => v.cell? ⟨X, 1, none⟩ = some (.slice (some ⟨g1, 0, none⟩) s sc) ∧ v.cell? ⟨by1, 1, none⟩ = some (.slice (some ⟨yb, yo, none⟩) s yc) ∧ v.cell? ⟨yb, yo + k, none⟩ = some (.int .i64 y))
                        (first | exact ⟨x01, y01, cy⟩ | exact HSS.out _)
                        (first | (go_at_call 57; refine (sCap_any i j _).mono ?_; rintro e w' ⟨rfl, rfl⟩) | (go_at_call 56; refine (sStep_any y (capT i j) st _ _ _ HSTV.out.1 HSTV.out.2 (HSTP.out.below (Below.refl _ _).drew.drew)).mono ?_; rintro e w' ⟨rfl, rfl⟩))
                      clear x01 y01 t01 cy ca co fo HSS
                      go_wp2
                      go_roundg g2
                      case measure => omega
                      case rel => exact ⟨j + 1, by omega, by go_num, by rw [show i * n + (j + 1) = k + 1 by have := HK.out; omega]; exact K1.out, K2.out, K3.out, K4.out, K5.out, K6.out, K7.out, K8.out⟩
                    · have HNX : Hid (mk n (widP n F gg st (i * n + j)) = mk n (widP n F gg st (i * n + j + 1))) := mkHid (mk_same hj (by omega))
                      have K1 := mkHid (M1.out.below (Below.refl _ _).drew)
                      rw [HNX.out] at K1
                      have K2 := mkHid (M2.out.below (Below.refl _ _).drew)
                      have K3 := mkHid (M3.out.below (Below.refl _ _).drew)
                      have K4 := mkHid (M4.out.below (Below.refl _ _).drew)
                      have K5 := mkHid (M5.out.below (Below.refl _ _).drew)
                      have K6 := mkHid (M6.out.below (Below.refl _ _).drew)
                      have K7 := mkHid M7.out.drew
                      have K8 := mkHid M8.out.drew
                      obtain ⟨x, hx⟩ : ∃ x, F i j = x := ⟨_, rfl⟩
                      obtain ⟨y, hy⟩ : ∃ y, gg i j = y := ⟨_, rfl⟩
                      rw [hx] at ca hgt
                      rw [hy] at cy hgt
                      obtain ⟨k, hk⟩ : ∃ k, i * n + j = k := ⟨_, rfl⟩
                      rw [hk] at hm2 cy ca hks
                      obtain ⟨k', hk'⟩ : ∃ k', i * n = k' := ⟨_, rfl⟩
                      rw [hk'] at hm1 hm2
                      have hks2 : (k : Int) < (s : Int) := by omega
                      clear hx hy hk hk' bg GRO co fo M1 M2 M3 M4 M5 M6 M7 M8
                      go_wp2_with fail
                      go_region_held3 (fun v => v.cell? ⟨by1, 1, none⟩ = some (.slice (some ⟨yb, yo, none⟩) s yc) ∧ v.cell? ⟨w.heap.size, 1, none⟩ = some (.slice (some ⟨b, o, none⟩) s c) ∧ v.cell? ⟨yb, yo + k, none⟩ = some (.int .i64 y) ∧ v.cell? ⟨b, o + k, none⟩ = some (.int .i64 x))
                        (first | exact ⟨y01, t01, cy, ca⟩)
                        (fail)
                      clear x01 y01 t01 cy ca
                      go_wp2
                      go_roundg g2
                      case measure => omega
                      case rel => exact ⟨j + 1, by omega, by go_num, K1.out, K2.out, K3.out, K4.out, K5.out, K6.out, K7.out, K8.out⟩
end Go.Proofs.Ytgclngofigffdaa
