/-
  CONTRACTS of the specification's l10Drop and SegDrop.
-/
import Derived.Test.YtodjmpocpfkpaaaGreatKc32
import Derived.Test.YtodjmpocpfkpaaaGreatKc16
namespace Go.Proofs.YtodjmpocpfkpaaaGreat
open Go.RowKit

/-- A Seg in a box whose bounds alone are of our own. -/
structure GrowB (w : World) (base X : Nat) (A : SAd) (S : SG) : Prop where
 box : w.heap[X]? = some (.cells (sgC A S) 31 (0, 0))
 b : OwnYY w base (.slice A.a0 S.B.length A.c0) S.B
theorem GrowB.lt {w : World} {base X : Nat} {A : SAd} {S : SG} (h : GrowB w base X A S) : X < w.heap.size := heap_lt h.box
theorem GrowB.below {w w' : World} {base X : Nat} {A : SAd} {S : SG} (h : GrowB w base X A S) (hb : Below w.heap.size w w') : GrowB w' base X A S := ⟨(hb.block X h.lt).trans h.box, h.b.below hb⟩
theorem GrowB.g3 {w : World} {base X : Nat} {A : SAd} {S : SG} (h : GrowB w base X A S) : G3 w X (.slice A.a0 S.B.length A.c0) (.slice A.a1 S.V.length A.c1) (.slice A.a2 S.M.length A.c2) :=
 ⟨heap_cell h.box 0, heap_cell h.box 1, heap_cell h.box 2, heap_free h.box 0, heap_free h.box 1, heap_free h.box 2⟩
theorem GrowB.stepB {wr va : World} {base Bx : Nat} {A : SAd} {S : SG} {g c : Nat} {gr : Option Addr} {cr : Nat} {x : List Y} {vs : List Value} (h : GrowB wr base Bx A S) (hbs : base ≤ wr.heap.size) (hvs : wr.ownsRow base 63 1 (.slice A.a0 S.B.length A.c0) S.B.length vs) (hin : Inn wr base vs S.B)
  (hf : ∃ vc, Aft wr (fun v => Own eY 65 v wr.heap.size (.slice gr x.length cr) x) (Value.ownBlock (.slice A.a0 S.B.length A.c0)) (fun v => v.ownsRow base 63 1 (.slice (some ⟨g, 0, none⟩) (S.B.length + 1) c) (S.B.length + 1) (vs ++ [.slice gr x.length cr])) vc ∧ va = vc.setCell ⟨Bx, 0, none⟩ (.slice (some ⟨g, 0, none⟩) (S.B.length + 1) c)) :
  GrowB va base Bx ⟨some ⟨g, 0, none⟩, c, A.a1, A.c1, A.a2, A.c2⟩ ⟨S.B ++ [x], S.V, S.M⟩ ∧ Kp base Bx wr va := by
 obtain ⟨vc, ha, rfl⟩ := hf
 refine ⟨?_, ha.kp hbs (fun q hq => (World.ownsRow.lt hvs q hq).1) _ _ _⟩
 have hX := ha.box (Bx := Bx) h.box (fun v hv q e hq => by subst hq; obtain ⟨c7, h7⟩ := owns_block (owns_below hvs hv) e; have h8 := (hv.block _ h.lt).trans h.box; rw [h7] at h8; simp at h8)
 obtain ⟨vb, h1, h2, h3, h4⟩ := ha
 have e : (S.B ++ [x]).length = S.B.length + 1 := by simp
 have ho := OwnYY.more hin hbs h1 h2 hvs h3 (by rw [e]; exact h4)
 rw [e] at ho
 refine ⟨by rw [heap_set_self hX]; simp [sgC], ?_⟩
 rw [e]
 exact ho.keptT (Only.set vc Bx 0 _) (fun q cur e => by cases e; exact not_typ ⟨_, hX⟩ (by decide) cur) (fun q cur e => by cases e; exact not_typ ⟨_, hX⟩ (by decide) cur)
theorem drop_tidyS (lv : Int) (T : List Y) (S : SG) (h : 1 ≤ S.B.length) : dropSG lv T S = tidyS ⟨S.B.map (outD lv T), S.V, S.M⟩ := by
 obtain ⟨B, V, M⟩ := S
 cases B with
 | nil => simp at h
 | cons b B => rfl
theorem tot_map_le (lv : Int) (T : List Y) : ∀ B : List (List Y), tot (B.map (outD lv T)) ≤ tot B
 | [] => Nat.le_refl _
 | b :: B => by
  have h1 := tot_map_le lv T B
  have h2 := outD_len lv T b
  simp only [List.map_cons, tot]
  omega
theorem first_kept {lv : Int} {T : List Y} {B : List (List Y)} (h : ((0, 0) : Y) ∈ B.headD []) : (B.map (outD lv T))[0]? ≠ some [] := by
 cases B with
 | nil => simp
 | cons b B =>
  have h : ((0, 0) : Y) ∈ b := h
  simp only [List.map_cons, List.getElem?_cons_zero]
  intro e
  have e := Option.some.inj e
  have : ((0, 0) : Y) ∈ outD lv T b := List.mem_filter.2 ⟨h, by simp [keepD]⟩
  rw [e] at this
  simp at this
set_option maxRecDepth 100000 in
set_option maxHeartbeats 3200000 in
theorem lDrop_any (n lv : Int) (S : SG) (A0 : SAd) (T : List Y) (aT : Option Addr) (cT : Nat) (w : World) (hs : Small S) (hok : OkS n lv S.B S.V S.M) (hT : T.length ≤ 1048576) (hl : SegAt w A0 S) (hlT : At eY w aT T) :
  Calls Tryz.prog 41 #[.int .i64 lv, .agg #[.slice A0.a0 S.B.length A0.c0, .slice A0.a1 S.V.length A0.c1, .slice A0.a2 S.M.length A0.c2], .slice aT T.length cT] w fun e w' => GivesS w w' e (dropSG lv T S) := by
 obtain ⟨TS, hTS⟩ : ∃ z, dropSG lv T S = z := ⟨_, rfl⟩
 have HTS := mkHid hTS
 rw [hTS]
 clear hTS
 have HSM := mkHid hs
 have HOK := mkHid hok
 have HT := mkHid hT
 have HK1 := mkHid hok.k1
 obtain ⟨tb, hti, hz⟩ := Option.map_eq_some_iff.1 infoB'
 simp only [Prod.mk.injEq] at hz
 obtain ⟨hz0, hz1, hz2⟩ := hz
 have HIB := mkHid (show Tryz.prog.info? 63 = some tb ∧ tb.zero = some (.slice none 0 0) ∧ tb.size = 1 ∧ tb.bytes = 24 from ⟨hti, hz0, hz1, hz2⟩)
 clear hti hz0 hz1 hz2
 obtain ⟨tv, hti, hz⟩ := Option.map_eq_some_iff.1 infoV'
 simp only [Prod.mk.injEq] at hz
 obtain ⟨hz0, hz1, hz2⟩ := hz
 have HIV := mkHid (show Tryz.prog.info? 71 = some tv ∧ tv.zero = some (.agg #[.int .i64 0, .int .i64 0, .bool false]) ∧ tv.size = 3 ∧ tv.bytes = 24 from ⟨hti, hz0, hz1, hz2⟩)
 clear hti hz0 hz1 hz2
 obtain ⟨tm, hti, hz⟩ := Option.map_eq_some_iff.1 infoM'
 simp only [Prod.mk.injEq] at hz
 obtain ⟨hz0, hz1, hz2⟩ := hz
 have HIM := mkHid (show Tryz.prog.info? 4 = some tm ∧ tm.zero = some (.bool false) ∧ tm.size = 1 ∧ tm.bytes = 1 from ⟨hti, hz0, hz1, hz2⟩)
 clear hti hz0 hz1 hz2
 obtain ⟨bb, ob, hab, hlb, hqb⟩ := hl.b.cons hok.k1
 have HLS := mkHid hl
 have HLT := mkHid hlT
 have HAB : Hid (A0.a0 = some ⟨bb, ob, none⟩) := mkHid hab
 have HRB : Hid (∀ (i : Nat) (l : List Y), S.B[i]? = some l → ∃ ao cap, (∀ v, Below w.heap.size w v → v.cell? ⟨bb, ob + i, none⟩ = some (.slice ao l.length cap)) ∧ At eY w ao l) := mkHid fun i l h => by obtain ⟨ao, cap, h1, h2⟩ := hqb i l h; exact ⟨ao, cap, fun v hv => (hv.cell (p := ⟨bb, ob + i, none⟩) hlb).trans h1, h2⟩
 obtain ⟨w0, hw0⟩ : ∃ z : World, ((w.alloc (.cells #[.slice A0.a0 S.B.length A0.c0, .slice A0.a1 S.V.length A0.c1, .slice A0.a2 S.M.length A0.c2] 31)).alloc (.cells #[.slice none 0 0, .slice none 0 0, .slice none 0 0] 31)).alloc (.cells #[.slice none 0 0, .slice A0.a1 S.V.length A0.c1, .slice A0.a2 S.M.length A0.c2] 31) = z := ⟨_, rfl⟩
 obtain ⟨X1, hX⟩ : ∃ z, w.heap.size = z := ⟨_, rfl⟩
 have HXX := mkHid hX
 have HB0 : Hid (Below w.heap.size w w0) := mkHid (by rw [← hw0]; exact bl_alloc (bl_alloc (bl_alloc (Below.refl _ _) _) _) _)
 have HZ0 : Hid (w0.heap[X1]? = some (.cells (sgC A0 S) 31 (0, 0)) ∧ w0.heap[X1 + 1]? = some (.cells (sgC noA noS) 31 (0, 0)) ∧ w0.heap[X1 + 1 + 1]? = some (.cells (sgC ⟨none, 0, A0.a1, A0.c1, A0.a2, A0.c2⟩ ⟨[], S.V, S.M⟩) 31 (0, 0)) ∧ w0.heap.size = X1 + 3) := mkHid (by
  rw [← hw0, ← hX]
  refine ⟨?_, ?_, heap_new _ _ (by simp), by simp⟩
  ·rw [heap_old _ _ (by simp; omega), heap_old _ _ (by simp)]; exact heap_new _ _ rfl
  ·rw [heap_old _ _ (by simp)]; exact heap_new _ _ (by simp))
 obtain ⟨X2, hX2⟩ : ∃ z, X1 + 1 = z := ⟨_, rfl⟩
 obtain ⟨Bx, hBx⟩ : ∃ z, X2 + 1 = z := ⟨_, rfl⟩
 obtain ⟨base, hbase⟩ : ∃ z, Bx + 1 = z := ⟨_, rfl⟩
 rw [hX2, hBx] at HZ0
 have HNN : Hid (w.heap.size = X1 ∧ X2 = X1 + 1 ∧ Bx = X2 + 1 ∧ base = Bx + 1) := mkHid ⟨hX, hX2.symm, hBx.symm, hbase.symm⟩
 have HW0 := mkHid hw0
 have HE2 := mkHid hX2
 have HE3 := mkHid hBx
 clear hl hs hok hT hlT hab hlb hqb hw0 hbase hX2 hBx
 go_enter Tryz.func41, Tryz.ntmps41
 go_wp2
 rw [HE2.out, HE3.out]
 clear hX HE2 HE3
 go_loopg [8] S.B.length (fun g s8 wr => ∃ (i : Nat) (A : SAd), i ≤ S.B.length ∧ s8 = .int .i64 (i : Int) ∧ S.B.length - i ≤ g ∧ GrowB wr base Bx ⟨A.a0, A.c0, A0.a1, A0.c1, A0.a2, A0.c2⟩ ⟨(S.B.take i).map (outD lv T), S.V, S.M⟩ ∧ Kp base Bx w0 wr ∧ base ≤ wr.heap.size)
 case atStart =>
  refine ⟨0, noA, Nat.zero_le _, rfl, by omega, ?_, ?_, ?_⟩
  ·rw [HW0.out]; exact ⟨HZ0.out.2.2.1, OwnYY.nil _ _⟩
  ·rw [HW0.out]; exact Kp.refl _ _ _
  ·rw [HW0.out]; have := HZ0.out.2.2.2; have := HNN.out; omega
 case round =>
  obtain ⟨i, A, hi, rfl, hg, hgb, hkp, hbs⟩ := hrel
  have hib : i ≤ 1048576 := by have := HSM.out.b; omega
  have HKP := mkHid hkp
  have HBE : Hid (Below w.heap.size w wr) := mkHid (Kp.below HB0.out hkp (by have := HNN.out; omega) (by have := HNN.out; omega))
  have HX1 : Hid (wr.heap[X1]? = some (.cells (sgC A0 S) 31 (0, 0))) := mkHid ((hkp.block X1 (by have := HNN.out; omega) (by have := HNN.out; omega)).trans HZ0.out.1)
  have HX2 : Hid (wr.heap[X2]? = some (.cells (sgC noA noS) 31 (0, 0))) := mkHid ((hkp.block X2 (by have := HNN.out; omega) (by have := HNN.out; omega)).trans HZ0.out.2.1)
  have e0 := heap_cell HX1.out 0
  simp only [sgC] at e0
  simp at e0
  rw [HAB.out] at e0
  obtain ⟨Z, hZ⟩ : ∃ z : SG, ⟨(S.B.take i).map (outD lv T), S.V, S.M⟩ = z := ⟨_, rfl⟩
  rw [hZ] at hgb
  have HZ := mkHid hZ.symm
  by_cases hlt : i < S.B.length
  ·obtain ⟨l, hlx⟩ : ∃ l, S.B[i]? = some l := ⟨_, List.getElem?_eq_getElem hlt⟩
   have HLX := mkHid hlx
   obtain ⟨al, cl, hrow, hal⟩ := HRB.out i l hlx
   obtain ⟨lo, hlo⟩ : ∃ z, outD lv T l = z := ⟨_, rfl⟩
   have HLO := mkHid hlo
   have HCO : Hid (∀ v, At eY v al l → At eY v aT T → Calls Tryz.prog 62 #[.slice al l.length cl, .int .i64 lv, .slice aT T.length cT] v fun e w' => Below v.heap.size v w' ∧ ∃ (g : Option Addr) (c : Nat), e = .returned (.slice g lo.length c) ∧ Own eY 65 w' v.heap.size (.slice g lo.length c) lo) := mkHid fun v h1 h2 => by rw [← hlo]; exact sWithout_any l T lv al aT cl cT v (HSM.out.row i l HLX.out) HT.out h1 h2
   have HAL : Hid (∀ v, Below wr.heap.size wr v → At eY v al l) := mkHid fun v h => hal.below (below_step HBE.out h)
   have HAT : Hid (∀ v, Below wr.heap.size wr v → At eY v aT T) := mkHid fun v h => HLT.out.below (below_step HBE.out h)
   have HX5 : Hid (∀ v, Below wr.heap.size wr v → v.cell? ⟨X1, 0, none⟩ = some (.slice (some ⟨bb, ob, none⟩) S.B.length A0.c0)) := mkHid fun v h => (h.cell (p := ⟨X1, 0, none⟩) (heap_lt HX1.out)).trans e0
   have HR5 : Hid (∀ v, Below wr.heap.size wr v → v.cell? ⟨bb, ob + i, none⟩ = some (.slice al l.length cl)) := mkHid fun v h => hrow v (below_step HBE.out h)
   obtain ⟨A, hA⟩ : ∃ z : SAd, ⟨A.a0, A.c0, A0.a1, A0.c1, A0.a2, A0.c2⟩ = z := ⟨_, rfl⟩
   rw [hA] at hgb
   have HG := mkHid hgb
   have HAE : Hid (A.a1 = A0.a1 ∧ A.c1 = A0.c1 ∧ A.a2 = A0.a2 ∧ A.c2 = A0.c2) := mkHid (by rw [← hA]; exact ⟨rfl, rfl, rfl, rfl⟩)
   obtain ⟨vs, hvs, hin⟩ := hgb.b
   have HVS := mkHid hvs
   have HIN := mkHid hin
   have HNB : Hid (Z.B.length ≤ 1048576) := mkHid (by rw [HZ.out]; simp; omega)
   have i1 : (i : Int) < (S.B.length : Int) := by omega
   have i0 : (0 : Int) ≤ (i : Int) := by omega
   clear hlx hrow hal hlo hgb hA hvs hin hkp hZ
   go_wp2_with fail
   clear e0
   refine wp_region_inv2 (fun zA0 L zA va => ∃ (zB : Nat → Bool) (zS : Nat → Value) (g : Option Addr) (c : Nat) (R : Nat) (ga : Nat) (ca : Nat), L = #[zB 0, zB 1, zB 2, zB 3, zB 4, zB 5, zB 6, zB 7, zB 8, zB 9, zB 10, zB 11, zB 12, zB 13] ∧ zA = puts zA0 [(21, zS 21), (22, zS 22), (23, zS 23), (24, zS 24), (25, zS 25), (26, zS 26), (27, zS 27), (28, zS 28), (29, zS 29), (30, zS 30), (31, zS 31), (32, zS 32), (33, zS 33)] ∧ ((zB 0 = true → zS 21 = .pointer (some ⟨Bx, 0, none⟩)) ∧ (zB 1 = true → zS 22 = .slice A.a0 Z.B.length A.c0) ∧ (zB 2 = true → zS 23 = .pointer (some ⟨X1, 0, none⟩)) ∧ (zB 3 = true → zS 24 = .slice (some ⟨bb, ob, none⟩) S.B.length A0.c0) ∧ (zB 4 = true → zS 25 = .int .i64 (i : Int)) ∧ (zB 5 = true → zS 26 = .pointer (some ⟨bb, ob + i, none⟩)) ∧ (zB 6 = true → zS 27 = .slice al l.length cl) ∧ (zB 7 = true → zS 28 = .int .i64 lv) ∧ (zB 8 = true → zS 29 = .slice aT T.length cT) ∧ (zB 9 = true → zS 30 = .slice g lo.length c) ∧ (zB 10 = true → zS 31 = .slice (some ⟨R, 0, none⟩) 1 1) ∧ (zB 11 = true → zS 32 = .slice (some ⟨ga, 0, none⟩) (Z.B.length + 1) ca) ∧ (zB 12 = true → zS 33 = .pointer (some ⟨Bx, 0, none⟩))) ∧ (Ap wr va (zB 9) (zB 10) (zB 11) (zB 13) (fun v => Own eY 65 v wr.heap.size (.slice g lo.length c) lo) R [.slice g lo.length c] (Value.ownBlock (.slice A.a0 Z.B.length A.c0)) (fun v => v.ownsRow base 63 1 (.slice (some ⟨ga, 0, none⟩) (Z.B.length + 1) ca) (Z.B.length + 1) (vs ++ [.slice g lo.length c])) Bx 0 (.slice (some ⟨ga, 0, none⟩) (Z.B.length + 1) ca)) ∧ ((zB 5) = true → (zB 3) = true) ∧ ((zB 9) = true → (zB 6) = true) ∧ ((zB 10) = true → (zB 9) = true) ∧ ((zB 11) = true → (zB 1) = true ∧ (zB 10) = true) ∧ ((zB 13) = true → (zB 11) = true) ∧ ((zB 6) = true → (zB 5) = true)) (by kernel_rfl) ?_ ?_ ?_
   ·exact ⟨fun _ => false, fun zd => if zd = 33 then u33 else if zd = 32 then u32 else if zd = 31 then u31 else if zd = 30 then u30 else if zd = 29 then u29 else if zd = 28 then u28 else if zd = 27 then u27 else if zd = 26 then u26 else if zd = 25 then u25 else if zd = 24 then u24 else if zd = 23 then u23 else if zd = 22 then u22 else if zd = 21 then u21 else undef, none, 0, 0, 0, 0, rfl, by kernel_rfl, ⟨fun e => ft e, fun e => ft e, fun e => ft e, fun e => ft e, fun e => ft e, fun e => ft e, fun e => ft e, fun e => ft e, fun e => ft e, fun e => ft e, fun e => ft e, fun e => ft e, fun e => ft e⟩, ⟨Ap.start _ _ _ _ _ _ _ _ _, fun e => ft e, fun e => ft e, fun e => ft e, fun e => ft e, fun e => ft e, fun e => ft e⟩⟩
   ·refine StepsI.cons rfl ?_ ?_
    ·rintro L zA va ⟨zB, zS, g, c, R, ga, ca, rfl, rfl, hF, hW⟩ hL hm K hK
     have hb0 : zB 0 = false := by simpa using hL
     clear hL hm
     simp only [pE]
     have HWz := mkHid hW
     clear hW
     go_simp
     have hW := HWz.out
     clear HWz
     exact hK.out _ _ ⟨fun zj => if zj = 0 then true else zB zj, fun zd => if zd = 21 then .pointer (some ⟨Bx, 0, none⟩) else zS zd, g, c, R, ga, ca, rfl, by kernel_rfl, ⟨fun _ => rfl, hF.2.1, hF.2.2.1, hF.2.2.2.1, hF.2.2.2.2.1, hF.2.2.2.2.2.1, hF.2.2.2.2.2.2.1, hF.2.2.2.2.2.2.2.1, hF.2.2.2.2.2.2.2.2.1, hF.2.2.2.2.2.2.2.2.2.1, hF.2.2.2.2.2.2.2.2.2.2.1, hF.2.2.2.2.2.2.2.2.2.2.2.1, hF.2.2.2.2.2.2.2.2.2.2.2.2⟩, hW⟩
    refine StepsI.cons rfl ?_ ?_
    ·rintro L zA va ⟨zB, zS, g, c, R, ga, ca, rfl, rfl, hF, hW⟩ hL hm K hK
     have hb1 : zB 1 = false := by simpa using hL
     have hb0 : zB 0 = true := mt 0 hm (by kernel_rfl)
     have e0 : zS 21 = .pointer (some ⟨Bx, 0, none⟩) := hF.1 hb0
     clear hL hm
     rw [hb1] at hW
     simp only [pE]
     simp only [e0]
     have hf11 : zB 11 = false := by cases e : zB 11 with | false => rfl | true => exact ft ((hW.2.2.2.2.1 e).1)
     have hf13 : zB 13 = false := by cases e : zB 13 with | false => rfl | true => exact ft (hf11.symm.trans (hW.2.2.2.2.2.1 e))
     have hpre := hW.1.pre hf11
     obtain ⟨q0, q1, q2, _, _, _⟩ := (HG.out.below hpre).g3
     have HWz := mkHid hW
     clear hW
     go_simp
     have hW := HWz.out
     clear HWz
     exact hK.out _ _ ⟨fun zj => if zj = 0 then true else if zj = 1 then true else zB zj, fun zd => if zd = 22 then .slice A.a0 Z.B.length A.c0 else if zd = 21 then .pointer (some ⟨Bx, 0, none⟩) else zS zd, g, c, R, ga, ca, by simp [hb0], by kernel_rfl, ⟨fun _ => rfl, fun _ => rfl, hF.2.2.1, hF.2.2.2.1, hF.2.2.2.2.1, hF.2.2.2.2.2.1, hF.2.2.2.2.2.2.1, hF.2.2.2.2.2.2.2.1, hF.2.2.2.2.2.2.2.2.1, hF.2.2.2.2.2.2.2.2.2.1, hF.2.2.2.2.2.2.2.2.2.2.1, hF.2.2.2.2.2.2.2.2.2.2.2.1, hF.2.2.2.2.2.2.2.2.2.2.2.2⟩, ⟨hW.1, hW.2.1, hW.2.2.1, hW.2.2.2.1, fun e => ft (hf11.symm.trans e), fun e => ft (hf13.symm.trans e), hW.2.2.2.2.2.2⟩⟩
    refine StepsI.cons rfl ?_ ?_
    ·rintro L zA va ⟨zB, zS, g, c, R, ga, ca, rfl, rfl, hF, hW⟩ hL hm K hK
     have hb2 : zB 2 = false := by simpa using hL
     clear hL hm
     simp only [pE]
     have HWz := mkHid hW
     clear hW
     go_simp
     have hW := HWz.out
     clear HWz
     exact hK.out _ _ ⟨fun zj => if zj = 2 then true else zB zj, fun zd => if zd = 23 then .pointer (some ⟨X1, 0, none⟩) else zS zd, g, c, R, ga, ca, rfl, by kernel_rfl, ⟨hF.1, hF.2.1, fun _ => rfl, hF.2.2.2.1, hF.2.2.2.2.1, hF.2.2.2.2.2.1, hF.2.2.2.2.2.2.1, hF.2.2.2.2.2.2.2.1, hF.2.2.2.2.2.2.2.2.1, hF.2.2.2.2.2.2.2.2.2.1, hF.2.2.2.2.2.2.2.2.2.2.1, hF.2.2.2.2.2.2.2.2.2.2.2.1, hF.2.2.2.2.2.2.2.2.2.2.2.2⟩, hW⟩
    refine StepsI.cons rfl ?_ ?_
    ·rintro L zA va ⟨zB, zS, g, c, R, ga, ca, rfl, rfl, hF, hW⟩ hL hm K hK
     have hb3 : zB 3 = false := by simpa using hL
     have hb2 : zB 2 = true := mt 2 hm (by kernel_rfl)
     have e2 : zS 23 = .pointer (some ⟨X1, 0, none⟩) := hF.2.2.1 hb2
     clear hL hm
     rw [hb3] at hW
     simp only [pE]
     simp only [e2]
     have hf5 : zB 5 = false := by cases e : zB 5 with | false => rfl | true => exact ft ((hW.2.1 e))
     have hf6 : zB 6 = false := by cases e : zB 6 with | false => rfl | true => exact ft (hf5.symm.trans (hW.2.2.2.2.2.2 e))
     have hf9 : zB 9 = false := by cases e : zB 9 with | false => rfl | true => exact ft (hf6.symm.trans (hW.2.2.1 e))
     have hf10 : zB 10 = false := by cases e : zB 10 with | false => rfl | true => exact ft (hf9.symm.trans (hW.2.2.2.1 e))
     have hf11 : zB 11 = false := by cases e : zB 11 with | false => rfl | true => exact ft (hf10.symm.trans (hW.2.2.2.2.1 e).2)
     have hf13 : zB 13 = false := by cases e : zB 13 with | false => rfl | true => exact ft (hf11.symm.trans (hW.2.2.2.2.2.1 e))
     have hpre := hW.1.pre hf11
     have q0 := HX5.out va hpre
     have HWz := mkHid hW
     clear hW
     go_simp
     have hW := HWz.out
     clear HWz
     exact hK.out _ _ ⟨fun zj => if zj = 2 then true else if zj = 3 then true else zB zj, fun zd => if zd = 24 then .slice (some ⟨bb, ob, none⟩) S.B.length A0.c0 else if zd = 23 then .pointer (some ⟨X1, 0, none⟩) else zS zd, g, c, R, ga, ca, by simp [hb2], by kernel_rfl, ⟨hF.1, hF.2.1, fun _ => rfl, fun _ => rfl, hF.2.2.2.2.1, hF.2.2.2.2.2.1, hF.2.2.2.2.2.2.1, hF.2.2.2.2.2.2.2.1, hF.2.2.2.2.2.2.2.2.1, hF.2.2.2.2.2.2.2.2.2.1, hF.2.2.2.2.2.2.2.2.2.2.1, hF.2.2.2.2.2.2.2.2.2.2.2.1, hF.2.2.2.2.2.2.2.2.2.2.2.2⟩, ⟨hW.1, fun e => ft (hf5.symm.trans e), fun e => ft (hf9.symm.trans e), fun e => ft (hf10.symm.trans e), fun e => ft (hf11.symm.trans e), fun e => ft (hf13.symm.trans e), fun e => ft (hf6.symm.trans e)⟩⟩
    refine StepsI.cons rfl ?_ ?_
    ·rintro L zA va ⟨zB, zS, g, c, R, ga, ca, rfl, rfl, hF, hW⟩ hL hm K hK
     have hb4 : zB 4 = false := by simpa using hL
     clear hL hm
     simp only [pE]
     have HWz := mkHid hW
     clear hW
     go_simp
     have hW := HWz.out
     clear HWz
     exact hK.out _ _ ⟨fun zj => if zj = 4 then true else zB zj, fun zd => if zd = 25 then .int .i64 (i : Int) else zS zd, g, c, R, ga, ca, rfl, by kernel_rfl, ⟨hF.1, hF.2.1, hF.2.2.1, hF.2.2.2.1, fun _ => rfl, hF.2.2.2.2.2.1, hF.2.2.2.2.2.2.1, hF.2.2.2.2.2.2.2.1, hF.2.2.2.2.2.2.2.2.1, hF.2.2.2.2.2.2.2.2.2.1, hF.2.2.2.2.2.2.2.2.2.2.1, hF.2.2.2.2.2.2.2.2.2.2.2.1, hF.2.2.2.2.2.2.2.2.2.2.2.2⟩, hW⟩
    refine StepsI.cons rfl ?_ ?_
    ·rintro L zA va ⟨zB, zS, g, c, R, ga, ca, rfl, rfl, hF, hW⟩ hL hm K hK
     have hb5 : zB 5 = false := by simpa using hL
     have hb3 : zB 3 = true := mt 3 hm (by kernel_rfl)
     have hb4 : zB 4 = true := mt 4 hm (by kernel_rfl)
     have e3 : zS 24 = .slice (some ⟨bb, ob, none⟩) S.B.length A0.c0 := hF.2.2.2.1 hb3
     have e4 : zS 25 = .int .i64 (i : Int) := hF.2.2.2.2.1 hb4
     clear hL hm
     rw [hb5] at hW
     rw [hb3] at hW
     simp only [pE]
     simp only [e3, e4]
     have hf6 : zB 6 = false := by cases e : zB 6 with | false => rfl | true => exact ft ((hW.2.2.2.2.2.2 e))
     have hf9 : zB 9 = false := by cases e : zB 9 with | false => rfl | true => exact ft (hf6.symm.trans (hW.2.2.1 e))
     have hf10 : zB 10 = false := by cases e : zB 10 with | false => rfl | true => exact ft (hf9.symm.trans (hW.2.2.2.1 e))
     have hf11 : zB 11 = false := by cases e : zB 11 with | false => rfl | true => exact ft (hf10.symm.trans (hW.2.2.2.2.1 e).2)
     have hf13 : zB 13 = false := by cases e : zB 13 with | false => rfl | true => exact ft (hf11.symm.trans (hW.2.2.2.2.2.1 e))
     have HWz := mkHid hW
     clear hW
     go_simp
     have hW := HWz.out
     clear HWz
     exact hK.out _ _ ⟨fun zj => if zj = 4 then true else if zj = 3 then true else if zj = 5 then true else zB zj, fun zd => if zd = 26 then .pointer (some ⟨bb, ob + i, none⟩) else if zd = 25 then .int .i64 (i : Int) else if zd = 24 then .slice (some ⟨bb, ob, none⟩) S.B.length A0.c0 else zS zd, g, c, R, ga, ca, by simp [hb3, hb4], by kernel_rfl, ⟨hF.1, hF.2.1, hF.2.2.1, fun _ => rfl, fun _ => rfl, fun _ => rfl, hF.2.2.2.2.2.2.1, hF.2.2.2.2.2.2.2.1, hF.2.2.2.2.2.2.2.2.1, hF.2.2.2.2.2.2.2.2.2.1, hF.2.2.2.2.2.2.2.2.2.2.1, hF.2.2.2.2.2.2.2.2.2.2.2.1, hF.2.2.2.2.2.2.2.2.2.2.2.2⟩, ⟨hW.1, fun _ => rfl, fun e => ft (hf9.symm.trans e), fun e => ft (hf10.symm.trans e), fun e => ft (hf11.symm.trans e), fun e => ft (hf13.symm.trans e), fun e => ft (hf6.symm.trans e)⟩⟩
    refine StepsI.cons rfl ?_ ?_
    ·rintro L zA va ⟨zB, zS, g, c, R, ga, ca, rfl, rfl, hF, hW⟩ hL hm K hK
     have hb6 : zB 6 = false := by simpa using hL
     have hb5 : zB 5 = true := mt 5 hm (by kernel_rfl)
     have e5 : zS 26 = .pointer (some ⟨bb, ob + i, none⟩) := hF.2.2.2.2.2.1 hb5
     clear hL hm
     rw [hb6] at hW
     rw [hb5] at hW
     simp only [pE]
     simp only [e5]
     have hf9 : zB 9 = false := by cases e : zB 9 with | false => rfl | true => exact ft ((hW.2.2.1 e))
     have hf10 : zB 10 = false := by cases e : zB 10 with | false => rfl | true => exact ft (hf9.symm.trans (hW.2.2.2.1 e))
     have hf11 : zB 11 = false := by cases e : zB 11 with | false => rfl | true => exact ft (hf10.symm.trans (hW.2.2.2.2.1 e).2)
     have hf13 : zB 13 = false := by cases e : zB 13 with | false => rfl | true => exact ft (hf11.symm.trans (hW.2.2.2.2.2.1 e))
     have hpre := hW.1.pre hf11
     have q0 := HR5.out va hpre
     have HWz := mkHid hW
     clear hW
     go_simp
     have hW := HWz.out
     clear HWz
     exact hK.out _ _ ⟨fun zj => if zj = 5 then true else if zj = 6 then true else zB zj, fun zd => if zd = 27 then .slice al l.length cl else if zd = 26 then .pointer (some ⟨bb, ob + i, none⟩) else zS zd, g, c, R, ga, ca, by simp [hb5], by kernel_rfl, ⟨hF.1, hF.2.1, hF.2.2.1, hF.2.2.2.1, hF.2.2.2.2.1, fun _ => rfl, fun _ => rfl, hF.2.2.2.2.2.2.2.1, hF.2.2.2.2.2.2.2.2.1, hF.2.2.2.2.2.2.2.2.2.1, hF.2.2.2.2.2.2.2.2.2.2.1, hF.2.2.2.2.2.2.2.2.2.2.2.1, hF.2.2.2.2.2.2.2.2.2.2.2.2⟩, ⟨hW.1, hW.2.1, fun e => ft (hf9.symm.trans e), fun e => ft (hf10.symm.trans e), fun e => ft (hf11.symm.trans e), fun e => ft (hf13.symm.trans e), fun _ => rfl⟩⟩
    refine StepsI.cons rfl ?_ ?_
    ·rintro L zA va ⟨zB, zS, g, c, R, ga, ca, rfl, rfl, hF, hW⟩ hL hm K hK
     have hb7 : zB 7 = false := by simpa using hL
     clear hL hm
     simp only [pE]
     have HWz := mkHid hW
     clear hW
     go_simp
     have hW := HWz.out
     clear HWz
     exact hK.out _ _ ⟨fun zj => if zj = 7 then true else zB zj, fun zd => if zd = 28 then .int .i64 lv else zS zd, g, c, R, ga, ca, rfl, by kernel_rfl, ⟨hF.1, hF.2.1, hF.2.2.1, hF.2.2.2.1, hF.2.2.2.2.1, hF.2.2.2.2.2.1, hF.2.2.2.2.2.2.1, fun _ => rfl, hF.2.2.2.2.2.2.2.2.1, hF.2.2.2.2.2.2.2.2.2.1, hF.2.2.2.2.2.2.2.2.2.2.1, hF.2.2.2.2.2.2.2.2.2.2.2.1, hF.2.2.2.2.2.2.2.2.2.2.2.2⟩, hW⟩
    refine StepsI.cons rfl ?_ ?_
    ·rintro L zA va ⟨zB, zS, g, c, R, ga, ca, rfl, rfl, hF, hW⟩ hL hm K hK
     have hb8 : zB 8 = false := by simpa using hL
     clear hL hm
     simp only [pE]
     have HWz := mkHid hW
     clear hW
     go_simp
     have hW := HWz.out
     clear HWz
     exact hK.out _ _ ⟨fun zj => if zj = 8 then true else zB zj, fun zd => if zd = 29 then .slice aT T.length cT else zS zd, g, c, R, ga, ca, rfl, by kernel_rfl, ⟨hF.1, hF.2.1, hF.2.2.1, hF.2.2.2.1, hF.2.2.2.2.1, hF.2.2.2.2.2.1, hF.2.2.2.2.2.2.1, hF.2.2.2.2.2.2.2.1, fun _ => rfl, hF.2.2.2.2.2.2.2.2.2.1, hF.2.2.2.2.2.2.2.2.2.2.1, hF.2.2.2.2.2.2.2.2.2.2.2.1, hF.2.2.2.2.2.2.2.2.2.2.2.2⟩, hW⟩
    refine StepsI.cons rfl ?_ ?_
    ·rintro L zA va ⟨zB, zS, g, c, R, ga, ca, rfl, rfl, hF, hW⟩ hL hm K hK
     have hb9 : zB 9 = false := by simpa using hL
     have hb6 : zB 6 = true := mt 6 hm (by kernel_rfl)
     have hb7 : zB 7 = true := mt 7 hm (by kernel_rfl)
     have hb8 : zB 8 = true := mt 8 hm (by kernel_rfl)
     have e6 : zS 27 = .slice al l.length cl := hF.2.2.2.2.2.2.1 hb6
     have e7 : zS 28 = .int .i64 lv := hF.2.2.2.2.2.2.2.1 hb7
     have e8 : zS 29 = .slice aT T.length cT := hF.2.2.2.2.2.2.2.2.1 hb8
     clear hL hm
     rw [hb9] at hW
     rw [hb6] at hW
     simp only [pE]
     simp only [e6, e7, e8]
     have hf10 : zB 10 = false := by cases e : zB 10 with | false => rfl | true => exact ft ((hW.2.2.2.1 e))
     have hf11 : zB 11 = false := by cases e : zB 11 with | false => rfl | true => exact ft (hf10.symm.trans (hW.2.2.2.2.1 e).2)
     have hf13 : zB 13 = false := by cases e : zB 13 with | false => rfl | true => exact ft (hf11.symm.trans (hW.2.2.2.2.2.1 e))
     have hpre := hW.1.pre hf11
     have HWz := mkHid hW
     clear hW
     go_simp
     have hW := HWz.out
     clear HWz
     refine (HCO.out va (HAL.out va hpre) (HAT.out va hpre)).mono ?_
     rintro e va2 ⟨hb, g9, c9, rfl, hown9⟩
     have HWz := mkHid hW
     clear hW
     go_wp2_with fail
     have hW := HWz.out
     clear HWz
     exact hK.out _ _ ⟨fun zj => if zj = 8 then true else if zj = 7 then true else if zj = 6 then true else if zj = 9 then true else zB zj, fun zd => if zd = 30 then .slice g9 lo.length c9 else if zd = 29 then .slice aT T.length cT else if zd = 28 then .int .i64 lv else if zd = 27 then .slice al l.length cl else zS zd, g9, c9, R, ga, ca, by simp [hb6, hb7, hb8], by kernel_rfl, ⟨hF.1, hF.2.1, hF.2.2.1, hF.2.2.2.1, hF.2.2.2.2.1, hF.2.2.2.2.2.1, fun _ => rfl, fun _ => rfl, fun _ => rfl, fun _ => rfl, hF.2.2.2.2.2.2.2.2.2.2.1, hF.2.2.2.2.2.2.2.2.2.2.2.1, hF.2.2.2.2.2.2.2.2.2.2.2.2⟩, ⟨hW.1.elem hf10 hf11 hf13 hb (hown9.mono hpre.size), hW.2.1, fun _ => rfl, fun e => ft (hf10.symm.trans e), fun e => ft (hf11.symm.trans e), fun e => ft (hf13.symm.trans e), fun _ => hW.2.2.2.2.2.2 (by trivial)⟩⟩
    refine StepsI.cons rfl ?_ ?_
    ·rintro L zA va ⟨zB, zS, g, c, R, ga, ca, rfl, rfl, hF, hW⟩ hL hm K hK
     have hb10 : zB 10 = false := by simpa using hL
     have hb9 : zB 9 = true := mt 9 hm (by kernel_rfl)
     have e9 : zS 30 = .slice g lo.length c := hF.2.2.2.2.2.2.2.2.2.1 hb9
     clear hL hm
     rw [hb10] at hW
     rw [hb9] at hW
     simp only [pE]
     simp only [e9]
     have hf11 : zB 11 = false := by cases e : zB 11 with | false => rfl | true => exact ft ((hW.2.2.2.2.1 e).2)
     have hf13 : zB 13 = false := by cases e : zB 13 with | false => rfl | true => exact ft (hf11.symm.trans (hW.2.2.2.2.2.1 e))
     have hpre := hW.1.pre hf11
     have HWz := mkHid hW
     clear hW
     go_simp
     have hW := HWz.out
     clear HWz
     exact hK.out _ _ ⟨fun zj => if zj = 9 then true else if zj = 10 then true else zB zj, fun zd => if zd = 31 then .slice (some ⟨va.heap.size, 0, none⟩) 1 1 else if zd = 30 then .slice g lo.length c else zS zd, g, c, va.heap.size, ga, ca, by simp [hb9], by kernel_rfl, ⟨hF.1, hF.2.1, hF.2.2.1, hF.2.2.2.1, hF.2.2.2.2.1, hF.2.2.2.2.2.1, hF.2.2.2.2.2.2.1, hF.2.2.2.2.2.2.2.1, hF.2.2.2.2.2.2.2.2.1, fun _ => rfl, fun _ => rfl, hF.2.2.2.2.2.2.2.2.2.2.2.1, hF.2.2.2.2.2.2.2.2.2.2.2.2⟩, ⟨hW.1.lay hf11 hf13 (fun _ _ h hb => Own.below h hb) rfl, hW.2.1, hW.2.2.1, fun _ => rfl, fun e => ft (hf11.symm.trans e), fun e => ft (hf13.symm.trans e), hW.2.2.2.2.2.2⟩⟩
    refine StepsI.cons rfl ?_ ?_
    ·rintro L zA va ⟨zB, zS, g, c, R, ga, ca, rfl, rfl, hF, hW⟩ hL hm K hK
     have hb11 : zB 11 = false := by simpa using hL
     have hb1 : zB 1 = true := mt 1 hm (by kernel_rfl)
     have hb10 : zB 10 = true := mt 10 hm (by kernel_rfl)
     have e1 : zS 22 = .slice A.a0 Z.B.length A.c0 := hF.2.1 hb1
     have e10 : zS 31 = .slice (some ⟨R, 0, none⟩) 1 1 := hF.2.2.2.2.2.2.2.2.2.2.1 hb10
     clear hL hm
     rw [hb11] at hW
     rw [hb1] at hW
     rw [hb10] at hW
     simp only [pE]
     simp only [e1, e10]
     have hf13 : zB 13 = false := by cases e : zB 13 with | false => rfl | true => exact ft ((hW.2.2.2.2.2.1 e))
     have hpre := hW.1.pre rfl
     rw [if_pos (by rfl)]
     refine wp_append_lies _ _ _ 28 rfl base 63 tb (.slice none 0 0) 1 24 Tryz.underlying28 HIB.out.1 HIB.out.2.1 HIB.out.2.2.1 HIB.out.2.2.2 rfl (by decide) (.slice A.a0 Z.B.length A.c0) Z.B.length (vs) rfl (owns_below HVS.out hpre) ⟨R, 0, none⟩ 1 1 [.slice g lo.length c] rfl rfl (hW.1.tmp rfl rfl) (fun u hu => by simp at hu; subst hu; rfl) (by decide) (by have := HNB.out; unfold maxLen; omega) (by have := HNB.out; omega) (Nat.le_trans hbs hpre.size) va.heap.size rfl ?_
     intro ga9 ca9 va2 hown hgrow hat9 hlt9
     exact hK.out _ _ ⟨fun zj => if zj = 10 then true else if zj = 1 then true else if zj = 11 then true else zB zj, fun zd => if zd = 32 then .slice (some ⟨ga9, 0, none⟩) (Z.B.length + 1) ca9 else if zd = 31 then .slice (some ⟨R, 0, none⟩) 1 1 else if zd = 22 then .slice A.a0 Z.B.length A.c0 else zS zd, g, c, R, ga9, ca9, by simp [hb1, hb10], by kernel_rfl, ⟨hF.1, fun _ => rfl, hF.2.2.1, hF.2.2.2.1, hF.2.2.2.2.1, hF.2.2.2.2.2.1, hF.2.2.2.2.2.2.1, hF.2.2.2.2.2.2.2.1, hF.2.2.2.2.2.2.2.2.1, hF.2.2.2.2.2.2.2.2.2.1, fun _ => rfl, fun _ => rfl, hF.2.2.2.2.2.2.2.2.2.2.2.2⟩, ⟨hW.1.app ((hW.2.2.2.1 rfl)) hf13 hgrow hown, hW.2.1, hW.2.2.1, hW.2.2.2.1, fun _ => ⟨rfl, rfl⟩, fun e => ft (hf13.symm.trans e), hW.2.2.2.2.2.2⟩⟩
    refine StepsI.cons rfl ?_ ?_
    ·rintro L zA va ⟨zB, zS, g, c, R, ga, ca, rfl, rfl, hF, hW⟩ hL hm K hK
     have hb12 : zB 12 = false := by simpa using hL
     clear hL hm
     simp only [pE]
     have HWz := mkHid hW
     clear hW
     go_simp
     have hW := HWz.out
     clear HWz
     exact hK.out _ _ ⟨fun zj => if zj = 12 then true else zB zj, fun zd => if zd = 33 then .pointer (some ⟨Bx, 0, none⟩) else zS zd, g, c, R, ga, ca, rfl, by kernel_rfl, ⟨hF.1, hF.2.1, hF.2.2.1, hF.2.2.2.1, hF.2.2.2.2.1, hF.2.2.2.2.2.1, hF.2.2.2.2.2.2.1, hF.2.2.2.2.2.2.2.1, hF.2.2.2.2.2.2.2.2.1, hF.2.2.2.2.2.2.2.2.2.1, hF.2.2.2.2.2.2.2.2.2.2.1, hF.2.2.2.2.2.2.2.2.2.2.2.1, fun _ => rfl⟩, hW⟩
    refine StepsI.cons rfl ?_ ?_
    ·rintro L zA va ⟨zB, zS, g, c, R, ga, ca, rfl, rfl, hF, hW⟩ hL hm K hK
     have hb13 : zB 13 = false := by simpa using hL
     have hb11 : zB 11 = true := mt 11 hm (by kernel_rfl)
     have hb12 : zB 12 = true := mt 12 hm (by kernel_rfl)
     have e11 : zS 32 = .slice (some ⟨ga, 0, none⟩) (Z.B.length + 1) ca := hF.2.2.2.2.2.2.2.2.2.2.2.1 hb11
     have e12 : zS 33 = .pointer (some ⟨Bx, 0, none⟩) := hF.2.2.2.2.2.2.2.2.2.2.2.2 hb12
     clear hL hm
     rw [hb13] at hW
     rw [hb11] at hW
     simp only [pE]
     simp only [e11, e12]
     have hbx := (hW.1.aft rfl rfl).box HG.out.box (fun v hv q e hq => by subst hq; obtain ⟨c7, h7⟩ := owns_block (owns_below HVS.out hv) e; have h8 := (hv.block _ (heap_lt HG.out.box)).trans HG.out.box; rw [h7] at h8; simp at h8)
     have q0 := heap_cell hbx 0
     have f0 := heap_free hbx 0
     simp only [sgC] at q0
     simp at q0
     have HWz := mkHid hW
     clear hW
     go_simp
     have hW := HWz.out
     clear HWz
     exact hK.out _ _ ⟨fun zj => if zj = 12 then true else if zj = 11 then true else if zj = 13 then true else zB zj, fun zd => if zd = 33 then .pointer (some ⟨Bx, 0, none⟩) else if zd = 32 then .slice (some ⟨ga, 0, none⟩) (Z.B.length + 1) ca else zS zd, g, c, R, ga, ca, by simp [hb11, hb12], by kernel_rfl, ⟨hF.1, hF.2.1, hF.2.2.1, hF.2.2.2.1, hF.2.2.2.2.1, hF.2.2.2.2.2.1, hF.2.2.2.2.2.2.1, hF.2.2.2.2.2.2.2.1, hF.2.2.2.2.2.2.2.2.1, hF.2.2.2.2.2.2.2.2.2.1, hF.2.2.2.2.2.2.2.2.2.2.1, fun _ => rfl, fun _ => rfl⟩, ⟨hW.1.store, hW.2.1, hW.2.2.1, hW.2.2.2.1, hW.2.2.2.2.1, fun _ => rfl, hW.2.2.2.2.2.2⟩⟩
    exact StepsI.nil (by kernel_rfl)
   ·rintro L zA va ⟨zB, zS, g, c, R, ga, ca, rfl, rfl, hF, hW⟩ hr
    have hu := all_up (by kernel_rfl) (N := 14) (by kernel_rfl) hr
    have hb0 : zB 0 = true := by simpa using hu 0 (by decide)
    have hb1 : zB 1 = true := by simpa using hu 1 (by decide)
    have hb2 : zB 2 = true := by simpa using hu 2 (by decide)
    have hb3 : zB 3 = true := by simpa using hu 3 (by decide)
    have hb4 : zB 4 = true := by simpa using hu 4 (by decide)
    have hb5 : zB 5 = true := by simpa using hu 5 (by decide)
    have hb6 : zB 6 = true := by simpa using hu 6 (by decide)
    have hb7 : zB 7 = true := by simpa using hu 7 (by decide)
    have hb8 : zB 8 = true := by simpa using hu 8 (by decide)
    have hb9 : zB 9 = true := by simpa using hu 9 (by decide)
    have hb10 : zB 10 = true := by simpa using hu 10 (by decide)
    have hb11 : zB 11 = true := by simpa using hu 11 (by decide)
    have hb12 : zB 12 = true := by simpa using hu 12 (by decide)
    have hb13 : zB 13 = true := by simpa using hu 13 (by decide)
    have e0 : zS 21 = .pointer (some ⟨Bx, 0, none⟩) := hF.1 hb0
    have e1 : zS 22 = .slice A.a0 Z.B.length A.c0 := hF.2.1 hb1
    have e2 : zS 23 = .pointer (some ⟨X1, 0, none⟩) := hF.2.2.1 hb2
    have e3 : zS 24 = .slice (some ⟨bb, ob, none⟩) S.B.length A0.c0 := hF.2.2.2.1 hb3
    have e4 : zS 25 = .int .i64 (i : Int) := hF.2.2.2.2.1 hb4
    have e5 : zS 26 = .pointer (some ⟨bb, ob + i, none⟩) := hF.2.2.2.2.2.1 hb5
    have e6 : zS 27 = .slice al l.length cl := hF.2.2.2.2.2.2.1 hb6
    have e7 : zS 28 = .int .i64 lv := hF.2.2.2.2.2.2.2.1 hb7
    have e8 : zS 29 = .slice aT T.length cT := hF.2.2.2.2.2.2.2.2.1 hb8
    have e9 : zS 30 = .slice g lo.length c := hF.2.2.2.2.2.2.2.2.2.1 hb9
    have e10 : zS 31 = .slice (some ⟨R, 0, none⟩) 1 1 := hF.2.2.2.2.2.2.2.2.2.2.1 hb10
    have e11 : zS 32 = .slice (some ⟨ga, 0, none⟩) (Z.B.length + 1) ca := hF.2.2.2.2.2.2.2.2.2.2.2.1 hb11
    have e12 : zS 33 = .pointer (some ⟨Bx, 0, none⟩) := hF.2.2.2.2.2.2.2.2.2.2.2.2 hb12
    rw [hb1] at hW
    rw [hb3] at hW
    rw [hb5] at hW
    rw [hb6] at hW
    rw [hb9] at hW
    rw [hb10] at hW
    rw [hb11] at hW
    rw [hb13] at hW
    clear hu hr hF
    simp only [pE]
    simp only [e0, e1, e2, e3, e4, e5, e6, e7, e8, e9, e10, e11, e12]
    clear e0 e1 e2 e3 e4 e5 e6 e7 e8 e9 e10 e11 e12
    clear hb0 hb1 hb2 hb3 hb4 hb5 hb6 hb7 hb8 hb9 hb10 hb11 hb12 hb13
    clear zB zS
    obtain ⟨hg9, hk9⟩ := HG.out.stepB hbs HVS.out HIN.out (hW.1.fin rfl)
    have HG9 := mkHid hg9
    have HK9 := mkHid (HKP.out.trans hk9)
    have hbs9 : base ≤ va.heap.size := Nat.le_trans hbs hk9.size
    clear hW hg9 hk9 HG HVS HIN HX5 HR5 hbs
    go_wp2
    go_roundg (S.B.length - (i + 1))
    case measure => omega
    case rel => exact ⟨i + 1, ⟨some ⟨ga, 0, none⟩, ca, none, 0, none, 0⟩, by omega, by go_num, Nat.le_refl _, (by have h := HG9.out; rw [HZ.out, HAE.out.1, HAE.out.2.1, HAE.out.2.2.1, HAE.out.2.2.2] at h; simpa [take_snoc HLX.out, HLO.out] using h), HK9.out, hbs9⟩
  ·have i1 : ¬ (i : Int) < (S.B.length : Int) := by omega
   have hel : S.B.take i = S.B := List.take_of_length_le (by omega)
   have HZE : Hid (Z = ⟨S.B.map (outD lv T), S.V, S.M⟩) := mkHid (by rw [← hZ, hel])
   have HSA : Hid (SegAt wr ⟨A.a0, A.c0, A0.a1, A0.c1, A0.a2, A0.c2⟩ Z) := mkHid (by have hb := hgb.b; rw [HZE.out] at hb ⊢; exact ⟨hb.at, (HLS.out.below HBE.out).v, (HLS.out.below HBE.out).m⟩)
   have HSM2 : Hid (Small Z) := mkHid (by rw [HZE.out]; have h := HSM.out; exact ⟨by simpa using h.b, Nat.le_trans (tot_map_le lv T S.B) h.t, h.v, h.m⟩)
   have HF1 : Hid (1 ≤ Z.B.length ∧ Z.V.length + 1 = Z.B.length ∧ Z.M.length + 1 = Z.B.length) := mkHid (by rw [HZE.out]; have h := HOK.out; exact ⟨by simpa using h.k1, by simpa using h.v, by simpa using h.m⟩)
   have HF0 : Hid (Z.B[0]? ≠ some []) := mkHid (by rw [HZE.out]; exact first_kept HOK.out.first)
   have HTE : Hid (TS = tidyS Z) := mkHid (by rw [← HTS.out, HZE.out]; exact drop_tidyS lv T S HK1.out)
   obtain ⟨q0, q1, q2, _, _, _⟩ := hgb.g3
   clear hgb hkp hZ hel
   go_wp2_with fail
   clear q0 q1 q2
   refine (tidy_any Z ⟨A.a0, A.c0, A0.a1, A0.c1, A0.a2, A0.c2⟩ _ HSM2.out HF1.out.1 HF1.out.2.1 HF1.out.2.2 HF0.out HSA.out).mono ?_
   obtain ⟨TZ, hTZ⟩ : ∃ z, tidyS Z = z := ⟨_, rfl⟩
   rw [hTZ] at HTE
   rw [hTZ]
   rintro e wx ⟨A', rfl, hO, hb⟩
   have hx2 := (hb.block X2 (heap_lt HX2.out)).trans HX2.out
   have z0 := heap_cell hx2 0
   have z1 := heap_cell hx2 1
   have z2 := heap_cell hx2 2
   have y0 := heap_free hx2 0
   have y1 := heap_free hx2 1
   have y2 := heap_free hx2 2
   simp only [sgC, noA, noS] at z0 z1 z2
   simp at z0 z1 z2
   have HF : Hid (GivesS w (put3 wx X2 (.slice A'.a0 TZ.B.length A'.c0) (.slice A'.a1 TZ.V.length A'.c1) (.slice A'.a2 TZ.M.length A'.c2)) (.returned (.agg #[.slice A'.a0 TZ.B.length A'.c0, .slice A'.a1 TZ.V.length A'.c1, .slice A'.a2 TZ.M.length A'.c2])) TS) := mkHid (by rw [HTE.out]; exact gives_shut hO (by have := HNN.out; omega) (Nat.le_refl _) (below_step HBE.out hb) (by have := HNN.out; omega))
   clear hx2 hO hb hTZ
   go_wp2
   refine bodyPost_ret (v := .agg #[.slice A'.a0 TZ.B.length A'.c0, .slice A'.a1 TZ.V.length A'.c1, .slice A'.a2 TZ.M.length A'.c2]) (by simp [results, Tryz.results41, go_sem, *]) rfl HF.out
end Go.Proofs.YtodjmpocpfkpaaaGreat
