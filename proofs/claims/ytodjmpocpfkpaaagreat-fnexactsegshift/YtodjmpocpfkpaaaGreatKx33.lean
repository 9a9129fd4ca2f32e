/-
  CONTRACT of the specification's l12Shift.
-/
import Derived.Test.YtodjmpocpfkpaaaGreatKx31
import Derived.Test.YtodjmpocpfkpaaaGreatKx20
namespace Go.Proofs.YtodjmpocpfkpaaaGreat
open Go.RowKit

theorem tot_map_sh (n v c : Int) : ∀ B : List (List Y), tot (B.map (shB n v c)) ≤ tot B
  | [] => Nat.le_refl _
  | b :: B => by
    have h1 := tot_map_sh n v c B
    have h2 := sh_len n v c b
    simp only [List.map_cons, tot]
    omega
theorem first_sh {n v c : Int} {B : List (List Y)} (hn : 2 ≤ n ∧ n ≤ 13) (hv : 1 ≤ v) (h : ((0, 0) : Y) ∈ B.headD []) : (B.map (shB n v c))[0]? ≠ some [] := by
  cases B with
  | nil => simp
  | cons b B =>
    have h : ((0, 0) : Y) ∈ b := h
    simp only [List.map_cons, List.getElem?_cons_zero]
    intro e
    have e := Option.some.inj e
    have er : rnY v c (0, 0) = (0, 0) := by unfold rnY; rw [if_neg]; show ¬ (0 : Int) = v; omega
    have hs : symOkB n 0 0 = true := symOkB_iff (p := (0, 0)) |>.2 ⟨⟨by omega, hn.2⟩, ⟨Int.le_refl _, by show (0 : Int) ≤ n - 1; omega⟩, ⟨by decide, by decide⟩⟩
    have : ((0, 0) : Y) ∈ shB n v c b := List.mem_filter.2 ⟨List.mem_map.2 ⟨(0, 0), h, er⟩, hs⟩
    rw [e] at this
    simp at this
set_option maxRecDepth 100000 in
set_option maxHeartbeats 6400000 in
theorem lShift_any (n lv v c : Int) (S : SG) (A0 : SAd) (w : World) (hs : Small S) (hok : OkS n lv S.B S.V S.M) (hv : 1 ≤ v) (hc : -2000000 ≤ c ∧ c ≤ 2000000) (hl : SegAt w A0 S) :
    Calls Tryz.prog 35 #[.int .i64 n, .agg #[.slice A0.a0 S.B.length A0.c0, .slice A0.a1 S.V.length A0.c1, .slice A0.a2 S.M.length A0.c2], .int .i64 v, .int .i64 c] w fun e w' => GivesS w w' e (shS n v c S) := by
  obtain ⟨TS, hTS⟩ : ∃ z, shS n v c S = z := ⟨_, rfl⟩
  have HTS := mkHid hTS
  rw [hTS]
  clear hTS
  obtain ⟨ti, hti, hz⟩ := Option.map_eq_some_iff.1 infoY
  simp only [Prod.mk.injEq] at hz
  obtain ⟨hz0, hz1, hz2⟩ := hz
  have HI := mkHid (show Tryz.prog.info? 65 = some ti ∧ ti.zero = some (.agg #[.int .i64 0, .int .i64 0]) ∧ ti.size = 2 ∧ ti.bytes = 16 from ⟨hti, hz0, hz1, hz2⟩)
  clear hti hz0 hz1 hz2
  have HSM := mkHid hs
  have HOK := mkHid hok
  have HVC := mkHid (And.intro hv hc)
  have HK1 := mkHid hok.k1
  obtain ⟨tb, hti, hz⟩ := Option.map_eq_some_iff.1 infoB'
  simp only [Prod.mk.injEq] at hz
  obtain ⟨hz0, hz1, hz2⟩ := hz
  have HIB := mkHid (show Tryz.prog.info? 63 = some tb ∧ tb.zero = some (.slice none 0 0) ∧ tb.size = 1 ∧ tb.bytes = 24 from ⟨hti, hz0, hz1, hz2⟩)
  clear hti hz0 hz1 hz2
  obtain ⟨bb, ob, hab, hlb, hqb⟩ := hl.b.cons hok.k1
  have HLS := mkHid hl
  have HAB : Hid (A0.a0 = some ⟨bb, ob, none⟩) := mkHid hab
  have HRB : Hid (∀ (i : Nat) (l : List Y), S.B[i]? = some l → ∃ ao cap, (∀ v, Below w.heap.size w v → v.cell? ⟨bb, ob + i, none⟩ = some (.slice ao l.length cap)) ∧ At eY w ao l) := mkHid fun i l h => by obtain ⟨ao, cap, h1, h2⟩ := hqb i l h; exact ⟨ao, cap, fun v hv => (hv.cell (p := ⟨bb, ob + i, none⟩) hlb).trans h1, h2⟩
  obtain ⟨w0, hw0⟩ : ∃ z : World, ((w.alloc (.cells #[.slice A0.a0 S.B.length A0.c0, .slice A0.a1 S.V.length A0.c1, .slice A0.a2 S.M.length A0.c2] 31)).alloc (.cells #[.slice none 0 0, .slice none 0 0, .slice none 0 0] 31)).alloc (.cells #[.slice none 0 0, .slice A0.a1 S.V.length A0.c1, .slice A0.a2 S.M.length A0.c2] 31) = z := ⟨_, rfl⟩
  obtain ⟨X1, hX⟩ : ∃ z, w.heap.size = z := ⟨_, rfl⟩
  have HXX := mkHid hX
  have HB0 : Hid (Below w.heap.size w w0) := mkHid (by rw [← hw0]; exact bl_alloc (bl_alloc (bl_alloc (Below.refl _ _) _) _) _)
  have HZ0 : Hid (w0.heap[X1]? = some (.cells (sgC A0 S) 31 (0, 0)) ∧ w0.heap[X1 + 1]? = some (.cells (sgC noA noS) 31 (0, 0)) ∧ w0.heap[X1 + 1 + 1]? = some (.cells (sgC ⟨none, 0, A0.a1, A0.c1, A0.a2, A0.c2⟩ ⟨[], S.V, S.M⟩) 31 (0, 0)) ∧ w0.heap.size = X1 + 3) := mkHid (by
    rw [← hw0, ← hX]
    refine ⟨?_, ?_, heap_new _ _ (by simp), by simp⟩
    · rw [heap_old _ _ (by simp; omega), heap_old _ _ (by simp)]; exact heap_new _ _ rfl
    · rw [heap_old _ _ (by simp)]; exact heap_new _ _ (by simp))
  obtain ⟨X2, hX2⟩ : ∃ z, X1 + 1 = z := ⟨_, rfl⟩
  obtain ⟨Bx, hBx⟩ : ∃ z, X2 + 1 = z := ⟨_, rfl⟩
  obtain ⟨base, hbase⟩ : ∃ z, Bx + 1 = z := ⟨_, rfl⟩
  rw [hX2, hBx] at HZ0
  have HNN : Hid (w.heap.size = X1 ∧ X2 = X1 + 1 ∧ Bx = X2 + 1 ∧ base = Bx + 1) := mkHid ⟨hX, hX2.symm, hBx.symm, hbase.symm⟩
  have HW0 := mkHid hw0
  have HE2 := mkHid hX2
  have HE3 := mkHid hBx
  clear hl hs hok hv hc hab hlb hqb hw0 hbase hX2 hBx
  go_enter Tryz.func35, Tryz.ntmps35
  go_wp2
  rw [HE2.out, HE3.out]
  clear hX HE2 HE3
  go_loopg [10] S.B.length (fun g s10 wr => ∃ (i : Nat) (A : SAd), i ≤ S.B.length ∧ s10 = .int .i64 (i : Int) ∧ S.B.length - i ≤ g ∧ GrowB wr base Bx ⟨A.a0, A.c0, A0.a1, A0.c1, A0.a2, A0.c2⟩ ⟨(S.B.take i).map (shB n v c), S.V, S.M⟩ ∧ Kp base Bx w0 wr ∧ base ≤ wr.heap.size)
  case atStart =>
    refine ⟨0, noA, Nat.zero_le _, rfl, by omega, ?_, ?_, ?_⟩
    · rw [HW0.out]; exact ⟨HZ0.out.2.2.1, OwnYY.nil _ _⟩
    · rw [HW0.out]; exact Kp.refl _ _ _
    · rw [HW0.out]; have := HZ0.out.2.2.2; have := HNN.out; omega
  case round =>
    obtain ⟨i, A, hi, rfl, hg, hgb, hkp, hbs⟩ := hrel
    have hib : i ≤ 1048576 := by have := HSM.out.b; omega
    have HKP := mkHid hkp
    have HBE : Hid (Below w.heap.size w wr) := mkHid (Kp.below HB0.out hkp (by have := HNN.out; omega) (by have := HNN.out; omega))
    have HX1 : Hid (wr.heap[X1]? = some (.cells (sgC A0 S) 31 (0, 0))) := mkHid ((hkp.block X1 (by have := HNN.out; omega) (by have := HNN.out; omega)).trans HZ0.out.1)
    have HX2 : Hid (wr.heap[X2]? = some (.cells (sgC noA noS) 31 (0, 0))) := mkHid ((hkp.block X2 (by have := HNN.out; omega) (by have := HNN.out; omega)).trans HZ0.out.2.1)
    have e0 := heap_cell HX1.out 0
    simp only [sgC] at e0
    simp at e0
    rw [HAB.out] at e0
    obtain ⟨Z, hZ⟩ : ∃ z : SG, ⟨(S.B.take i).map (shB n v c), S.V, S.M⟩ = z := ⟨_, rfl⟩
    rw [hZ] at hgb
    have HZ := mkHid hZ.symm
    by_cases hlt : i < S.B.length
    · obtain ⟨l, hlx⟩ : ∃ l, S.B[i]? = some l := ⟨_, List.getElem?_eq_getElem hlt⟩
      have HLX := mkHid hlx
      obtain ⟨al, cl, hrow, hal⟩ := HRB.out i l hlx
      have hll : l.length ≤ 1048576 := HSM.out.row i l hlx
      have HSX : Hid (∀ p, p ∈ l → -1000 ≤ p.2 ∧ p.2 ≤ 1000) := mkHid fun p hp => ((HOK.out.rows l (List.mem_of_getElem? hlx)).sym p hp).2.2
      have HAL : Hid (∀ v, Below wr.heap.size wr v → At eY v al l) := mkHid fun v h => hal.below (below_step HBE.out h)
      have HX5 : Hid (∀ v, Below wr.heap.size wr v → v.cell? ⟨X1, 0, none⟩ = some (.slice (some ⟨bb, ob, none⟩) S.B.length A0.c0)) := mkHid fun v h => (h.cell (p := ⟨X1, 0, none⟩) (heap_lt HX1.out)).trans e0
      have HR5 : Hid (∀ v, Below wr.heap.size wr v → v.cell? ⟨bb, ob + i, none⟩ = some (.slice al l.length cl)) := mkHid fun v h => hrow v (below_step HBE.out h)
      obtain ⟨A, hA⟩ : ∃ z : SAd, ⟨A.a0, A.c0, A0.a1, A0.c1, A0.a2, A0.c2⟩ = z := ⟨_, rfl⟩
      rw [hA] at hgb
      have HG := mkHid hgb
      have HAE : Hid (A.a1 = A0.a1 ∧ A.c1 = A0.c1 ∧ A.a2 = A0.a2 ∧ A.c2 = A0.c2) := mkHid (by rw [← hA]; exact ⟨rfl, rfl, rfl, rfl⟩)
      obtain ⟨vs, hvs, hin⟩ := hgb.b
      have HVS := mkHid hvs
      have HIN := mkHid hin
      have HNB : Hid (Z.B.length ≤ 1048576) := mkHid (by rw [HZ.out]; simp; omega)
      have i1 : (i : Int) < (S.B.length : Int) := by omega
      have i0 : (0 : Int) ≤ (i : Int) := by omega
      have HFN : Hid (Own eY 65 (wr.alloc (.cells #[] 65)) wr.heap.size (.slice (some ⟨wr.heap.size, 0, none⟩) 0 0) []) := mkHid (fresh_y (Nat.le_refl _) (by have := heap_alloc_new wr (.cells #[] 65); simpa using this))
      clear hlx hrow hal hgb hA hvs hin hkp hZ
      go_wp2
      clear e0
      obtain ⟨wo, hwo⟩ : ∃ x, x = wr := ⟨_, rfl⟩
      subst hwo
      go_loopg [11, 12] l.length (fun g s11 s12 z => ∃ (j : Nat) (a : Option Addr) (cc : Nat), j ≤ l.length ∧ s12 = .int .i64 j ∧ l.length - j ≤ g ∧ s11 = .slice a (shB n v c (l.take j)).length cc ∧ Own eY 65 z wo.heap.size (.slice a (shB n v c (l.take j)).length cc) (shB n v c (l.take j)) ∧ Below wo.heap.size wo z)
      case atStart => exact ⟨0, _, 0, Nat.zero_le _, rfl, by omega, rfl, HFN.out, bl_alloc (Below.refl _ _) _⟩
      case round =>
        clear HFN
        obtain ⟨j, a, cc, hj, rfl, hgj, rfl, hown, hbel⟩ := hrel
        obtain ⟨L0, hL0⟩ : ∃ z, shB n v c (l.take j) = z := ⟨_, rfl⟩
        rw [hL0] at hown ⊢
        obtain ⟨kk, hkk⟩ : ∃ kk, L0.length = kk := ⟨_, rfl⟩
        have hkl : kk ≤ 1048576 := by rw [← hkk, ← hL0]; exact Nat.le_trans (sh_len _ _ _ _) (by rw [List.length_take]; omega)
        rw [hkk] at hown ⊢
        have HOW := mkHid hown
        have HKK := mkHid hkk
        have HBZ := mkHid hbel
        have hszr := hbel.size
        have HL0 := mkHid hL0
        have r1 := HR5.out _ hbel
        have r0 := HX5.out _ hbel
        clear hown hL0 hkk
        by_cases hlt2 : j < l.length
        · obtain ⟨x, hx⟩ : ∃ x, l[j]? = some x := ⟨_, List.getElem?_eq_getElem hlt2⟩
          obtain ⟨b, off, hab, _, hq⟩ := (HAL.out _ hbel).cons (by omega)
          subst hab
          obtain ⟨c0, c1⟩ := get_y hq hx
          have HXY := mkHid hx
          have hxb := HSX.out x (List.mem_of_getElem? hx)
          have hcb := HVC.out.2
          have j0 : (0 : Int) ≤ (j : Int) := by omega
          have j1 : (j : Int) < (l.length : Int) := by omega
          clear hq hx hbel
          by_cases hxv : x.1 = v
          · obtain ⟨z, hz⟩ : ∃ z, x.2 - c = z := ⟨_, rfl⟩
            have hwz : IntKind.i64.wrap (x.2 - c) = z := by rw [IntWalk.i64_in _ (by omega)]; exact hz
            have hev : (x.1 == v) = true := beq_iff_eq.2 hxv
            have HRE : Hid (rnY v c x = (x.1, z)) := mkHid (by simp [rnY, hxv, hz])
            clear hz hxv
            obtain ⟨w5, hw5⟩ : ∃ y : World, wr.alloc (.cells #[.int .i64 x.1, .int .i64 z] 65) = y := ⟨_, rfl⟩
            obtain ⟨Zt, hZt⟩ : ∃ y, wr.heap.size = y := ⟨_, rfl⟩
            have HB5 : Hid (Below wr.heap.size wr w5) := mkHid (by rw [← hw5]; exact bl_alloc (Below.refl _ _) _)
            have d0 : w5.cell? ⟨Zt, 0, none⟩ = some (.int .i64 x.1) := by rw [← hw5, ← hZt]; simp [go_sem]
            have d1 : w5.cell? ⟨Zt, 1, none⟩ = some (.int .i64 z) := by rw [← hw5, ← hZt]; simp [go_sem]
            have HD5 := mkHid (And.intro d0 d1)
            have hZl : Zt < w5.heap.size := World.block_lt_of_cell? w5 _ d0
            go_wp2_with fail
            clear hw5 hZt c0 c1 d0 d1 r0 r1 hev hxb hcb
            refine (sSymOk_any n x.1 z _).mono ?_
            rintro e w6 ⟨rfl, hb⟩
            have d0 := ((bcell hb).1 _ _ hZl).trans HD5.out.1
            have d1 := ((bcell hb).1 _ _ hZl).trans HD5.out.2
            have BE6 := mkHid (below_step (below_step HBZ.out HB5.out) hb)
            have O6 := mkHid ((HOW.out.below HB5.out).below hb)
            have hsz6 := BE6.out.size
            clear hb HB5 HOW HBZ HD5 hZl
            cases h2 : symOkB n x.1 z
            · have HE : Hid (shB n v c (l.take (j + 1)) = L0) := mkHid (by rw [sh_no HXY.out (by rw [HRE.out]; exact h2), HL0.out])
              go_wp2
              clear d0 d1
              go_roundg (l.length - (j + 1))
              case measure => omega
              case rel => exact ⟨j + 1, a, cc, by omega, by go_num, Nat.le_refl _, by rw [HE.out, HKK.out], by rw [HE.out, HKK.out]; exact O6.out, BE6.out⟩
            · have HE : Hid (shB n v c (l.take (j + 1)) = L0 ++ [(x.1, z)]) := mkHid (by rw [sh_yes HXY.out (by rw [HRE.out]; exact h2), HL0.out, HRE.out])
              have HO4 : Hid (w6.ownsRow wo.heap.size 65 2 (.slice a kk cc) kk (eY.flat L0)) := mkHid (by have h := O6.out; unfold Own at h; rw [HKK.out] at h; exact h)
              go_wp2_with (at_builtin; refine wpList_append_lies _ rfl _ _ 63 rfl wo.heap.size 65 ti (.agg #[.int .i64 0, .int .i64 0]) 2 16 Tryz.underlying63 HI.out.1 HI.out.2.1 HI.out.2.2.1 HI.out.2.2.2 rfl (by decide) _ _ _ rfl (World.ownsRow.alloc HO4.out _) ⟨w6.heap.size, 0, none⟩ 1 1 [.int .i64 x.1, .int .i64 z] rfl rfl ?c1 ?c2 (by decide) ?c3 ?c4 ?c5 (w6.heap.size + 1) (by simp) ?_)
              case c1 => exact two_new _ _ _ _
              case c2 => first | rfl | (intro u hu; simp at hu; rcases hu with rfl | rfl <;> rfl) | exact ⟨rfl, rfl⟩
              case c3 => unfold maxLen; omega
              case c4 => omega
              case c5 => first | omega | (simp; omega)
              intro g' c' w7 hown' hgrow hat' _
              have HK1 : Hid ((L0 ++ [(x.1, z)]).length = kk + 1) := mkHid (by rw [List.length_append, HKK.out]; rfl)
              have O7 : Hid (Own eY 65 w7 wo.heap.size (.slice (some ⟨g', 0, none⟩) (kk + 1) c') (L0 ++ [(x.1, z)])) := mkHid (by
                unfold Own
                rw [HK1.out, El.flat_app]
                exact hown')
              have BE7 : Hid (Below wo.heap.size wo w7) := mkHid ((BE6.out.alloc BE6.out.size _).grown hgrow (by simp; omega) (fun q hq => by have := (World.ownsRow.lt HO4.out q hq).1; omega))
              clear hown' hgrow hat' d0 d1
              go_wp2
              go_roundg (l.length - (j + 1))
              case measure => omega
              case rel => exact ⟨j + 1, some ⟨g', 0, none⟩, c', by omega, by go_num, Nat.le_refl _, by rw [HE.out, HK1.out], by rw [HE.out, HK1.out]; exact O7.out, BE7.out⟩
          · have hev : (x.1 == v) = false := beq_eq_false_iff_ne.2 hxv
            have HRE : Hid (rnY v c x = (x.1, x.2)) := mkHid (by simp [rnY, hxv])
            clear hxv
            obtain ⟨w5, hw5⟩ : ∃ y : World, wr.alloc (.cells #[.int .i64 x.1, .int .i64 x.2] 65) = y := ⟨_, rfl⟩
            obtain ⟨Zt, hZt⟩ : ∃ y, wr.heap.size = y := ⟨_, rfl⟩
            have HB5 : Hid (Below wr.heap.size wr w5) := mkHid (by rw [← hw5]; exact bl_alloc (Below.refl _ _) _)
            have d0 : w5.cell? ⟨Zt, 0, none⟩ = some (.int .i64 x.1) := by rw [← hw5, ← hZt]; simp [go_sem]
            have d1 : w5.cell? ⟨Zt, 1, none⟩ = some (.int .i64 x.2) := by rw [← hw5, ← hZt]; simp [go_sem]
            have HD5 := mkHid (And.intro d0 d1)
            have hZl : Zt < w5.heap.size := World.block_lt_of_cell? w5 _ d0
            go_wp2_with fail
            clear hw5 hZt c0 c1 d0 d1 r0 r1 hev hxb hcb
            refine (sSymOk_any n x.1 x.2 _).mono ?_
            rintro e w6 ⟨rfl, hb⟩
            have d0 := ((bcell hb).1 _ _ hZl).trans HD5.out.1
            have d1 := ((bcell hb).1 _ _ hZl).trans HD5.out.2
            have BE6 := mkHid (below_step (below_step HBZ.out HB5.out) hb)
            have O6 := mkHid ((HOW.out.below HB5.out).below hb)
            have hsz6 := BE6.out.size
            clear hb HB5 HOW HBZ HD5 hZl
            cases h2 : symOkB n x.1 x.2
            · have HE : Hid (shB n v c (l.take (j + 1)) = L0) := mkHid (by rw [sh_no HXY.out (by rw [HRE.out]; exact h2), HL0.out])
              go_wp2
              clear d0 d1
              go_roundg (l.length - (j + 1))
              case measure => omega
              case rel => exact ⟨j + 1, a, cc, by omega, by go_num, Nat.le_refl _, by rw [HE.out, HKK.out], by rw [HE.out, HKK.out]; exact O6.out, BE6.out⟩
            · have HE : Hid (shB n v c (l.take (j + 1)) = L0 ++ [(x.1, x.2)]) := mkHid (by rw [sh_yes HXY.out (by rw [HRE.out]; exact h2), HL0.out, HRE.out])
              have HO4 : Hid (w6.ownsRow wo.heap.size 65 2 (.slice a kk cc) kk (eY.flat L0)) := mkHid (by have h := O6.out; unfold Own at h; rw [HKK.out] at h; exact h)
              go_wp2_with (at_builtin; refine wpList_append_lies _ rfl _ _ 63 rfl wo.heap.size 65 ti (.agg #[.int .i64 0, .int .i64 0]) 2 16 Tryz.underlying63 HI.out.1 HI.out.2.1 HI.out.2.2.1 HI.out.2.2.2 rfl (by decide) _ _ _ rfl (World.ownsRow.alloc HO4.out _) ⟨w6.heap.size, 0, none⟩ 1 1 [.int .i64 x.1, .int .i64 x.2] rfl rfl ?c1 ?c2 (by decide) ?c3 ?c4 ?c5 (w6.heap.size + 1) (by simp) ?_)
              case c1 => exact two_new _ _ _ _
              case c2 => first | rfl | (intro u hu; simp at hu; rcases hu with rfl | rfl <;> rfl) | exact ⟨rfl, rfl⟩
              case c3 => unfold maxLen; omega
              case c4 => omega
              case c5 => first | omega | (simp; omega)
              intro g' c' w7 hown' hgrow hat' _
              have HK1 : Hid ((L0 ++ [(x.1, x.2)]).length = kk + 1) := mkHid (by rw [List.length_append, HKK.out]; rfl)
              have O7 : Hid (Own eY 65 w7 wo.heap.size (.slice (some ⟨g', 0, none⟩) (kk + 1) c') (L0 ++ [(x.1, x.2)])) := mkHid (by
                unfold Own
                rw [HK1.out, El.flat_app]
                exact hown')
              have BE7 : Hid (Below wo.heap.size wo w7) := mkHid ((BE6.out.alloc BE6.out.size _).grown hgrow (by simp; omega) (fun q hq => by have := (World.ownsRow.lt HO4.out q hq).1; omega))
              clear hown' hgrow hat' d0 d1
              go_wp2
              go_roundg (l.length - (j + 1))
              case measure => omega
              case rel => exact ⟨j + 1, some ⟨g', 0, none⟩, c', by omega, by go_num, Nat.le_refl _, by rw [HE.out, HK1.out], by rw [HE.out, HK1.out]; exact O7.out, BE7.out⟩
        · have j1 : ¬ (j : Int) < (l.length : Int) := by omega
          have el : l.take j = l := List.take_of_length_le (by omega)
          have HLE : Hid (shB n v c l = L0) := mkHid (by rw [← HL0.out, el])
          have HG2 := mkHid (HG.out.below hbel)
          have HO4 : Hid (wr.ownsRow base 63 1 (.slice A.a0 Z.B.length A.c0) Z.B.length vs) := mkHid (owns_below HVS.out hbel)
          have x0 := HG2.out.g3.c0
          have y0 := HG2.out.g3.f0
          have hnb := HNB.out
          clear el hbel
          go_wp2_with (at_builtin; refine wpList_append_lies _ rfl _ _ 28 rfl base 63 tb (.slice none 0 0) 1 24 Tryz.underlying28 HIB.out.1 HIB.out.2.1 HIB.out.2.2.1 HIB.out.2.2.2 rfl (by decide) _ _ _ rfl (World.ownsRow.alloc HO4.out _) ⟨wr.heap.size, 0, none⟩ 1 1 [.slice a kk cc] rfl rfl ?k1 ?k2 (by decide) ?k3 ?k4 ?k5 (wr.heap.size + 1) (by simp) ?_)
          case k2 => first | rfl | (intro u hu; simp at hu; subst hu; rfl)
          case k3 => unfold maxLen; omega
          case k4 => omega
          case k5 => first | omega | (simp; omega)
          intro g' c' w7 hown' hgrow hat' _
          have HA7 : Hid (Aft wo (fun z => Own eY 65 z wo.heap.size (.slice a L0.length cc) L0) (Value.ownBlock (.slice A.a0 Z.B.length A.c0)) (fun z => z.ownsRow base 63 1 (.slice (some ⟨g', 0, none⟩) (Z.B.length + 1) c') (Z.B.length + 1) (vs ++ [.slice a L0.length cc])) w7) := mkHid ⟨_, bl_alloc HBZ.out (.cells #[.slice a kk cc] 63), by rw [HKK.out]; exact HOW.out.below (bl_alloc (Below.refl _ _) _), hgrow, by rw [HKK.out]; exact hown'⟩
          have hX7 := HA7.out.box (Bx := Bx) HG.out.box (fun z hz q e hq => by subst hq; obtain ⟨c7, h7⟩ := owns_block (owns_below HVS.out hz) e; have h8 := (hz.block _ HG.out.lt).trans HG.out.box; rw [h7] at h8; simp at h8)
          have HX7 := mkHid hX7
          have f0 := heap_cell hX7 0
          have f1 := heap_free hX7 0
          simp only [sgC] at f0
          simp at f0
          have HFI : Hid (GrowB (w7.setCell ⟨Bx, 0, none⟩ (.slice (some ⟨g', 0, none⟩) (Z.B.length + 1) c')) base Bx ⟨some ⟨g', 0, none⟩, c', A.a1, A.c1, A.a2, A.c2⟩ ⟨Z.B ++ [L0], Z.V, Z.M⟩ ∧ Kp base Bx wo (w7.setCell ⟨Bx, 0, none⟩ (.slice (some ⟨g', 0, none⟩) (Z.B.length + 1) c'))) := mkHid (HG.out.stepB hbs HVS.out HIN.out ⟨w7, HA7.out, rfl⟩)
          have HSE : Hid ((⟨(S.B.take (i + 1)).map (shB n v c), S.V, S.M⟩ : SG) = ⟨Z.B ++ [L0], Z.V, Z.M⟩) := mkHid (by rw [HZ.out]; simp [take_snoc HLX.out, HLE.out])
          clear hown' hgrow hat' r0 r1 x0 y0 hX7
          go_wp2
          clear f0 f1
          go_roundg (S.B.length - (i + 1))
          case measure => omega
          case rel => exact ⟨i + 1, ⟨some ⟨g', 0, none⟩, c', none, 0, none, 0⟩, by omega, by go_num, Nat.le_refl _, (by rw [HSE.out]; have h := HFI.out.1; rw [HAE.out.1, HAE.out.2.1, HAE.out.2.2.1, HAE.out.2.2.2] at h; exact h), HKP.out.trans HFI.out.2, Nat.le_trans hbs HFI.out.2.size⟩
    · have i1 : ¬ (i : Int) < (S.B.length : Int) := by omega
      have hel : S.B.take i = S.B := List.take_of_length_le (by omega)
      have HZE : Hid (Z = ⟨S.B.map (shB n v c), S.V, S.M⟩) := mkHid (by rw [← hZ, hel])
      have HSA : Hid (SegAt wr ⟨A.a0, A.c0, A0.a1, A0.c1, A0.a2, A0.c2⟩ Z) := mkHid (by have hb := hgb.b; rw [HZE.out] at hb ⊢; exact ⟨hb.at, (HLS.out.below HBE.out).v, (HLS.out.below HBE.out).m⟩)
      have HSM2 : Hid (Small Z) := mkHid (by rw [HZE.out]; have h := HSM.out; exact ⟨by simpa using h.b, Nat.le_trans (tot_map_sh n v c S.B) h.t, h.v, h.m⟩)
      have HF1 : Hid (1 ≤ Z.B.length ∧ Z.V.length + 1 = Z.B.length ∧ Z.M.length + 1 = Z.B.length) := mkHid (by rw [HZE.out]; have h := HOK.out; exact ⟨by simpa using h.k1, by simpa using h.v, by simpa using h.m⟩)
      have HF0 : Hid (Z.B[0]? ≠ some []) := mkHid (by rw [HZE.out]; exact first_sh HOK.out.len.1 HVC.out.1 HOK.out.first)
      have HTE : Hid (TS = tidyS Z) := mkHid (by rw [← HTS.out, HZE.out]; rfl)
      obtain ⟨q0, q1, q2, _, _, _⟩ := hgb.g3
      clear hgb hkp hZ hel
      go_wp2_with fail
      clear q0 q1 q2
      refine (tidy_any Z ⟨A.a0, A.c0, A0.a1, A0.c1, A0.a2, A0.c2⟩ _ HSM2.out HF1.out.1 HF1.out.2.1 HF1.out.2.2 HF0.out HSA.out).mono ?_
      obtain ⟨TZ, hTZ⟩ : ∃ z, tidyS Z = z := ⟨_, rfl⟩
      rw [hTZ] at HTE
      rw [hTZ]
      rintro e wx ⟨A', rfl, hO, hb⟩
      have hx2 := (hb.block X2 (heap_lt HX2.out)).trans HX2.out
      have z0 := heap_cell hx2 0
      have z1 := heap_cell hx2 1
      have z2 := heap_cell hx2 2
      have y0 := heap_free hx2 0
      have y1 := heap_free hx2 1
      have y2 := heap_free hx2 2
      simp only [sgC, noA, noS] at z0 z1 z2
      simp at z0 z1 z2
      have HF : Hid (GivesS w (put3 wx X2 (.slice A'.a0 TZ.B.length A'.c0) (.slice A'.a1 TZ.V.length A'.c1) (.slice A'.a2 TZ.M.length A'.c2)) (.returned (.agg #[.slice A'.a0 TZ.B.length A'.c0, .slice A'.a1 TZ.V.length A'.c1, .slice A'.a2 TZ.M.length A'.c2])) TS) := mkHid (by rw [HTE.out]; exact gives_shut hO (by have := HNN.out; omega) (Nat.le_refl _) (below_step HBE.out hb) (by have := HNN.out; omega))
      clear hx2 hO hb hTZ
      go_wp2
      refine bodyPost_ret (v := .agg #[.slice A'.a0 TZ.B.length A'.c0, .slice A'.a1 TZ.V.length A'.c1, .slice A'.a2 TZ.M.length A'.c2]) (by simp [results, Tryz.results35, go_sem, *]) rfl HF.out
end Go.Proofs.YtodjmpocpfkpaaaGreat
