/-
  CONTRACT of the program's link.seg: a row of links given out as a Seg of its own.
-/
import Derived.Test.YtihpajiololfoaaGreatSh06
import Derived.Test.YtihpajiololfoaaGreatSh12
namespace Go.Proofs.YtihpajiololfoaaGreat
open Go.RowKit

theorem infoB' : (Tryz.prog.info? 113).map (fun i => (i.zero, i.size, i.bytes)) = some (some (.slice none 0 0), 1, 24) := by kernel_rfl
theorem infoV' : (Tryz.prog.info? 55).map (fun i => (i.zero, i.size, i.bytes)) = some (some (.agg #[.int .i64 0, .int .i64 0, .bool false]), 3, 24) := by kernel_rfl
theorem infoM' : (Tryz.prog.info? 4).map (fun i => (i.zero, i.size, i.bytes)) = some (some (.bool false), 1, 1) := by kernel_rfl
theorem growS_first {w1 : World} {base c : Nat} {g : Option Addr} {l : List Y} (ho : Own eY 49 w1 base (.slice g l.length c) l) (hb : base ≤ w1.heap.size) :
  GrowS ((w1.alloc (.cells #[.slice g l.length c] 113)).alloc (.cells #[.slice (some ⟨w1.heap.size, 0, none⟩) 1 1, .slice none 0 0, .slice none 0 0] 35)) base (w1.heap.size + 1) ⟨some ⟨w1.heap.size, 0, none⟩, 1, none, 0, none, 0⟩ ⟨[l], [], []⟩ ∧ Below w1.heap.size w1 ((w1.alloc (.cells #[.slice g l.length c] 113)).alloc (.cells #[.slice (some ⟨w1.heap.size, 0, none⟩) 1 1, .slice none 0 0, .slice none 0 0] 35)) := by
 have hal : Below w1.heap.size w1 ((w1.alloc (.cells #[.slice g l.length c] 113)).alloc (.cells #[.slice (some ⟨w1.heap.size, 0, none⟩) 1 1, .slice none 0 0, .slice none 0 0] 35)) := bl_alloc (bl_alloc (Below.refl _ _) _) _
 refine ⟨⟨heap_new _ _ (by simp), ⟨[.slice g l.length c], ⟨rfl, .inr ⟨w1.heap.size, 1, _, rfl, hb, by rw [heap_old _ _ (by simp)]; exact heap_new _ _ rfl, Nat.le_refl _, by unfold maxLen; omega, rfl, rfl⟩⟩, ?_⟩, Own.nil _ _ _ _, Own.nil _ _ _ _⟩, hal⟩
 exact Inn.snoc (n0 := base) (vs := []) (ls := []) (Inn.nil _ _) (fun i v q h => by simp at h) (Nat.le_refl _) (ho.below hal)
theorem Chain.cut {w : World} {X : Nat} {k k' : Lk} {r : List Lk} (h : Chain w X (k :: k' :: r)) : ∃ X', LinkAt w X k (some ⟨X', 0, none⟩) ∧ Chain w X' (k' :: r) := h
set_option maxRecDepth 100000 in
set_option maxHeartbeats 6400000 in
theorem seg_any (k0 : Lk) (r0 : List Lk) (X : Nat) (w : World) (hn : (k0 :: r0).length ≤ 1048576) (hl : ∀ k, k ∈ k0 :: r0 → k.b.length ≤ 1048576) (hc : Chain w X (k0 :: r0)) :
  Calls Tryz.prog 45 #[.pointer (some ⟨X, 0, none⟩)] w fun e w' => GivesS w w' e (segL (k0 :: r0)) := by
 have HN := mkHid hn
 have HLK := mkHid hl
 obtain ⟨tb, hti, hz⟩ := Option.map_eq_some_iff.1 infoB'
 simp only [Prod.mk.injEq] at hz
 obtain ⟨hz0, hz1, hz2⟩ := hz
 have HIB := mkHid (show Tryz.prog.info? 113 = some tb ∧ tb.zero = some (.slice none 0 0) ∧ tb.size = 1 ∧ tb.bytes = 24 from ⟨hti, hz0, hz1, hz2⟩)
 clear hti hz0 hz1 hz2
 obtain ⟨tv, hti, hz⟩ := Option.map_eq_some_iff.1 infoV'
 simp only [Prod.mk.injEq] at hz
 obtain ⟨hz0, hz1, hz2⟩ := hz
 have HIV := mkHid (show Tryz.prog.info? 55 = some tv ∧ tv.zero = some (.agg #[.int .i64 0, .int .i64 0, .bool false]) ∧ tv.size = 3 ∧ tv.bytes = 24 from ⟨hti, hz0, hz1, hz2⟩)
 clear hti hz0 hz1 hz2
 obtain ⟨tm, hti, hz⟩ := Option.map_eq_some_iff.1 infoM'
 simp only [Prod.mk.injEq] at hz
 obtain ⟨hz0, hz1, hz2⟩ := hz
 have HIM := mkHid (show Tryz.prog.info? 4 = some tm ∧ tm.zero = some (.bool false) ∧ tm.size = 1 ∧ tm.bytes = 1 from ⟨hti, hz0, hz1, hz2⟩)
 clear hti hz0 hz1 hz2
 obtain ⟨ks, hks⟩ : ∃ z, k0 :: r0 = z := ⟨_, rfl⟩
 have HK0 := mkHid hks
 rw [hks]
 obtain ⟨p0, hlk⟩ := hc.head
 obtain ⟨ao, cap, c0, hat⟩ := hlk.mem
 obtain ⟨w0, hw0⟩ : ∃ z : World, w.alloc (.cells #[.slice none 0 0, .slice none 0 0, .slice none 0 0] 35) = z := ⟨_, rfl⟩
 obtain ⟨Q, hQ⟩ : ∃ z, w.heap.size = z := ⟨_, rfl⟩
 obtain ⟨base, hbase⟩ : ∃ z, w0.heap.size = z := ⟨_, rfl⟩
 have hal : Below w.heap.size w w0 := by rw [← hw0]; exact bl_alloc (Below.refl _ _) _
 have HQ0 : Hid (w0.heap[Q]? = some (.cells #[.slice none 0 0, .slice none 0 0, .slice none 0 0] 35 (0, 0))) := mkHid (by rw [← hw0]; exact heap_new _ _ hQ.symm)
 have HSZ : Hid (base = Q + 1) := mkHid (by rw [← hbase, ← hw0, ← hQ]; simp)
 have HAT := mkHid (hat.below hal)
 have HAL0 := mkHid hal
 have HCH := mkHid hc
 have d0 : w0.cell? ⟨X, 0, none⟩ = some (.slice ao k0.b.length cap) := (hlk.below hal).mem.elim (fun _ h => by have := (hal.cell (p := ⟨X, 0, none⟩) hlk.lt).trans c0; exact this)
 clear hc hlk hat c0 hal hn hl
 go_enter Tryz.func45, Tryz.ntmps45
 go_wp2_with fail
 clear hw0 d0
 refine (clone_any k0.b ao cap _ (HLK.out k0 List.mem_cons_self) HAT.out).mono ?_
 rintro e w1 ⟨hb, g, c, rfl, hown⟩
 obtain ⟨wA, hwA⟩ : ∃ z, ((w1.alloc (.cells #[.slice g k0.b.length c] 113)).alloc (.cells #[.slice (some ⟨w1.heap.size, 0, none⟩) 1 1, .slice none 0 0, .slice none 0 0] 35)) = z := ⟨_, rfl⟩
 obtain ⟨Bx, hBx⟩ : ∃ z, w1.heap.size + 1 = z := ⟨_, rfl⟩
 have hfst := growS_first hown hb.size
 rw [hwA, hBx, hbase] at hfst
 rw [hbase] at hb
 have HG0 := mkHid hfst.1
 have hb1 : Below base w0 wA := hb.trans (hfst.2.mono (by rw [← hbase]; exact hb.size))
 have HBQ : Hid (wA.heap[Q]? = some (.cells #[.slice none 0 0, .slice none 0 0, .slice none 0 0] 35 (0, 0))) := mkHid ((hb1.block Q (by have := HSZ.out; omega)).trans HQ0.out)
 have HBA : Hid (Below w.heap.size w wA) := mkHid (HAL0.out.trans (hb1.mono (by rw [hQ]; have := HSZ.out; omega)))
 have HBW : Hid (w.heap.size ≤ base) := mkHid (by rw [hQ]; have := HSZ.out; omega)
 have HBX : Hid (w.heap.size ≤ Bx) := mkHid (by have := hb.size; have := HSZ.out; omega)
 have hbA : base ≤ wA.heap.size := by rw [← hbase]; exact hb1.size
 have HQN : Hid (Q ≠ Bx ∧ Q < base) := mkHid (by have := hb.size; have := HSZ.out; omega)
 clear hb hown hfst hb1
 have HB0 := mkHid hbase
 have HQ9 := mkHid hQ
 have HQQ := mkHid hBx
 clear hbase hQ hks
 have HWA := mkHid hwA
 clear hwA
 go_wp2
 clear hBx HQQ
 go_loopg [4] r0.length (fun g s4 wr => ∃ (dn : List Lk) (k : Lk) (r : List Lk) (Xa : Nat) (A : SAd), s4 = .pointer (some ⟨Xa, 0, none⟩) ∧ r.length ≤ g ∧ ks = dn ++ k :: r ∧ Chain w Xa (k :: r) ∧ GrowS wr base Bx A ⟨dn.map Lk.b ++ [k.b], dn.map Lk.v, dn.map Lk.m⟩ ∧ Kp base Bx wA wr ∧ base ≤ wr.heap.size)
 case atStart =>
  refine ⟨[], k0, r0, X, ⟨some ⟨w1.heap.size, 0, none⟩, 1, none, 0, none, 0⟩, rfl, Nat.le_refl _, HK0.out.symm, HCH.out, ?_, ?_, ?_⟩
  ·rw [HWA.out]; exact HG0.out
  ·rw [HWA.out]; exact Kp.refl _ _ _
  ·rw [HWA.out]; exact hbA
 case round =>
  obtain ⟨dn, k, r, Xa, A, rfl, hgr, hkk, hch, hgs, hkp, hbs⟩ := hrel
  have HKS := mkHid hkk
  have HKP := mkHid hkp
  have HBE : Hid (Below w.heap.size w wr) := mkHid (Kp.below HBA.out hkp HBW.out HBX.out)
  have HKN : Hid (dn.length + r.length + 1 ≤ 1048576) := mkHid (by have h := HN.out; rw [HK0.out, hkk] at h; simp at h; omega)
  have HKB : Hid (∀ z, z ∈ k :: r → z.b.length ≤ 1048576) := mkHid fun z hz => HLK.out z (by rw [HK0.out, hkk]; exact List.mem_append_right _ hz)
  cases r with
  | nil =>
   have HCL := mkHid ((show LinkAt w Xa k none from hch).below HBE.out)
   have HSE : Hid (segL ks = ⟨dn.map Lk.b ++ [k.b], dn.map Lk.v, dn.map Lk.m⟩) := mkHid (by rw [hkk]; simp [segL])
   have HGS := mkHid hgs
   have c6 := HCL.out.nx
   obtain ⟨S, hS⟩ : ∃ z, (⟨dn.map Lk.b ++ [k.b], dn.map Lk.v, dn.map Lk.m⟩ : SG) = z := ⟨_, rfl⟩
   rw [hS] at HGS HSE
   have HQB : Hid (wr.heap[Q]? = some (.cells #[.slice none 0 0, .slice none 0 0, .slice none 0 0] 35 (0, 0))) := mkHid ((hkp.block Q HQN.out.2 HQN.out.1).trans HBQ.out)
   obtain ⟨q0, q1, q2, _, _, _⟩ := HGS.out.g3
   have z0 := heap_cell HQB.out 0
   have z1 := heap_cell HQB.out 1
   have z2 := heap_cell HQB.out 2
   have y0 := heap_free HQB.out 0
   have y1 := heap_free HQB.out 1
   have y2 := heap_free HQB.out 2
   simp at z0 z1 z2
   clear hkk hch hgs hkp hS
   go_wp2
   have hO := HGS.out.owns
   have hO1 := (hO.outs (outs_set wr Q 0 (.slice A.a0 S.B.length A.c0)) (.inr (by have := HSZ.out; omega)))
   have hO2 := (hO1.outs (outs_set _ Q 1 (.slice A.a1 S.V.length A.c1)) (.inr (by have := HSZ.out; omega)))
   have hO3 := (hO2.outs (outs_set _ Q 2 (.slice A.a2 S.M.length A.c2)) (.inr (by have := HSZ.out; omega)))
   have hBF := ((HBE.out.setCell (p := ⟨Q, 0, none⟩) (by rw [HQ9.out]; exact Nat.le_refl _) (.slice A.a0 S.B.length A.c0)).setCell (p := ⟨Q, 1, none⟩) (by rw [HQ9.out]; exact Nat.le_refl _) (.slice A.a1 S.V.length A.c1)).setCell (p := ⟨Q, 2, none⟩) (by rw [HQ9.out]; exact Nat.le_refl _) (.slice A.a2 S.M.length A.c2)
   rw [HSE.out]
   refine bodyPost_ret (v := .agg #[.slice A.a0 S.B.length A.c0, .slice A.a1 S.V.length A.c1, .slice A.a2 S.M.length A.c2]) (by simp [results, Tryz.results45, go_sem, *]) rfl ⟨A, rfl, hO3.mono HBW.out (by simp [go_sem]), hBF⟩
  | cons k9 r =>
   obtain ⟨Xn, hla, hcn⟩ := hch.cut
   have HCN := mkHid hcn
   have HLA0 := mkHid hla
   have HLA := mkHid (hla.below HBE.out)
   have hgr : r.length < gk := by simp at hgr; omega
   obtain ⟨S, hS⟩ : ∃ z, (⟨dn.map Lk.b ++ [k.b], dn.map Lk.v, dn.map Lk.m⟩ : SG) = z := ⟨_, rfl⟩
   rw [hS] at hgs
   have HS := mkHid hS
   have HG := mkHid hgs
   obtain ⟨vs, hvs, hin⟩ := hgs.b
   have HVS := mkHid hvs
   have HIN := mkHid hin
   obtain ⟨pn, hln⟩ := hcn.head
   obtain ⟨ao9, cap9, hc9, hat9⟩ := (hln.below HBE.out).mem
   obtain ⟨l, hl9⟩ : ∃ z, k9.b = z := ⟨_, rfl⟩
   obtain ⟨x, hx9⟩ : ∃ z, k.v = z := ⟨_, rfl⟩
   obtain ⟨mm, hm9⟩ : ∃ z, k.m = z := ⟨_, rfl⟩
   have HL9 := mkHid hl9.symm
   have HX9 := mkHid hx9
   have HM9 := mkHid hm9
   have HLL : Hid (l.length ≤ 1048576) := mkHid (by rw [← hl9]; exact HKB.out k9 (by simp))
   rw [hl9] at hc9 hat9
   have HAL := mkHid hat9
   have HC0 : Hid (∀ v, Below wr.heap.size wr v → v.cell? ⟨Xn, 0, none⟩ = some (.slice ao9 l.length cap9)) := mkHid fun v h => (h.cell (p := ⟨Xn, 0, none⟩) (World.block_lt_of_cell? wr _ hc9)).trans hc9
   have HNB : Hid (S.B.length ≤ 1048576) := mkHid (by have := HKN.out; rw [← hS]; simp; omega)
   have HSL : Hid (S.V.length ≤ 1048576 ∧ S.M.length ≤ 1048576) := mkHid (by have := HKN.out; rw [← hS]; simp; omega)
   have c6 := HLA.out.nx
   clear hla hcn hS hgs hvs hin hln hl9 hx9 hm9 hc9 hat9 hkk hch hkp
   go_wp2_with fail
   clear c6
   refine wp_region_inv2 (fun zA0 L zA va => ∃ (zB : Nat → Bool) (zS : Nat → Value) (g : Option Addr) (c : Nat) (R : Nat) (ga : Nat) (ca : Nat), L = #[zB 0, zB 1, zB 2, zB 3, zB 4, zB 5, zB 6, zB 7, zB 8, zB 9, zB 10, zB 11, zB 12, zB 13, zB 14] ∧ zA = puts zA0 [(23, zS 23), (24, zS 24), (25, zS 25), (26, zS 26), (27, zS 27), (28, zS 28), (29, zS 29), (30, zS 30), (31, zS 31), (32, zS 32), (33, zS 33), (34, zS 34), (35, zS 35), (36, zS 36)] ∧ ((zB 0 = true → zS 23 = .pointer (some ⟨Bx, 0, none⟩)) ∧ (zB 1 = true → zS 24 = .slice A.a0 S.B.length A.c0) ∧ (zB 2 = true → zS 25 = .pointer (some ⟨Xa, 0, none⟩)) ∧ (zB 3 = true → zS 26 = .pointer (some ⟨Xa, 0, none⟩)) ∧ (zB 4 = true → zS 27 = .pointer (some ⟨Xa, 6, none⟩)) ∧ (zB 5 = true → zS 28 = .pointer (some ⟨Xn, 0, none⟩)) ∧ (zB 6 = true → zS 29 = .pointer (some ⟨Xn, 0, none⟩)) ∧ (zB 7 = true → zS 30 = .pointer (some ⟨Xn, 0, none⟩)) ∧ (zB 8 = true → zS 31 = .pointer (some ⟨Xn, 0, none⟩)) ∧ (zB 9 = true → zS 32 = .slice ao9 l.length cap9) ∧ (zB 10 = true → zS 33 = .slice g l.length c) ∧ (zB 11 = true → zS 34 = .slice (some ⟨R, 0, none⟩) 1 1) ∧ (zB 12 = true → zS 35 = .slice (some ⟨ga, 0, none⟩) (S.B.length + 1) ca) ∧ (zB 13 = true → zS 36 = .pointer (some ⟨Bx, 0, none⟩))) ∧ (Ap wr va (zB 10) (zB 11) (zB 12) (zB 14) (fun v => Own eY 49 v wr.heap.size (.slice g l.length c) l) R [.slice g l.length c] (Value.ownBlock (.slice A.a0 S.B.length A.c0)) (fun v => v.ownsRow base 113 1 (.slice (some ⟨ga, 0, none⟩) (S.B.length + 1) ca) (S.B.length + 1) (vs ++ [.slice g l.length c])) Bx 0 (.slice (some ⟨ga, 0, none⟩) (S.B.length + 1) ca)) ∧ ((zB 6) = true → (zB 5) = true) ∧ ((zB 7) = true → (zB 6) = true) ∧ ((zB 8) = true → (zB 7) = true) ∧ ((zB 10) = true → (zB 9) = true) ∧ ((zB 11) = true → (zB 10) = true) ∧ ((zB 12) = true → (zB 1) = true ∧ (zB 11) = true) ∧ ((zB 14) = true → (zB 12) = true) ∧ ((zB 9) = true → (zB 8) = true)) (by kernel_rfl) ?_ ?_ ?_
   ·exact ⟨fun _ => false, fun zd => if zd = 36 then u36 else if zd = 35 then u35 else if zd = 34 then u34 else if zd = 33 then u33 else if zd = 32 then u32 else if zd = 31 then u31 else if zd = 30 then u30 else if zd = 29 then u29 else if zd = 28 then u28 else if zd = 27 then u27 else if zd = 26 then u26 else if zd = 25 then u25 else if zd = 24 then u24 else if zd = 23 then u23 else undef, none, 0, 0, 0, 0, rfl, by kernel_rfl, ⟨fun e => ft e, fun e => ft e, fun e => ft e, fun e => ft e, fun e => ft e, fun e => ft e, fun e => ft e, fun e => ft e, fun e => ft e, fun e => ft e, fun e => ft e, fun e => ft e, fun e => ft e, fun e => ft e⟩, ⟨Ap.start _ _ _ _ _ _ _ _ _, fun e => ft e, fun e => ft e, fun e => ft e, fun e => ft e, fun e => ft e, fun e => ft e, fun e => ft e, fun e => ft e⟩⟩
   ·refine StepsI.cons rfl ?_ ?_
    ·rintro L zA va ⟨zB, zS, g, c, R, ga, ca, rfl, rfl, hF, hW⟩ hL hm K hK
     have hb0 : zB 0 = false := by simpa using hL
     clear hL hm
     simp only [pE]
     have HWz := mkHid hW
     clear hW
     go_simp
     have hW := HWz.out
     clear HWz
     exact hK.out _ _ ⟨fun zj => if zj = 0 then true else zB zj, fun zd => if zd = 23 then .pointer (some ⟨Bx, 0, none⟩) else zS zd, g, c, R, ga, ca, rfl, by kernel_rfl, ⟨fun _ => rfl, hF.2.1, hF.2.2.1, hF.2.2.2.1, hF.2.2.2.2.1, hF.2.2.2.2.2.1, hF.2.2.2.2.2.2.1, hF.2.2.2.2.2.2.2.1, hF.2.2.2.2.2.2.2.2.1, hF.2.2.2.2.2.2.2.2.2.1, hF.2.2.2.2.2.2.2.2.2.2.1, hF.2.2.2.2.2.2.2.2.2.2.2.1, hF.2.2.2.2.2.2.2.2.2.2.2.2.1, hF.2.2.2.2.2.2.2.2.2.2.2.2.2⟩, hW⟩
    refine StepsI.cons rfl ?_ ?_
    ·rintro L zA va ⟨zB, zS, g, c, R, ga, ca, rfl, rfl, hF, hW⟩ hL hm K hK
     have hb1 : zB 1 = false := by simpa using hL
     have hb0 : zB 0 = true := mt 0 hm (by kernel_rfl)
     have e0 : zS 23 = .pointer (some ⟨Bx, 0, none⟩) := hF.1 hb0
     clear hL hm
     rw [hb1] at hW
     simp only [pE]
     simp only [e0]
     have hf12 : zB 12 = false := by cases e : zB 12 with | false => rfl | true => exact ft ((hW.2.2.2.2.2.2.1 e).1)
     have hf14 : zB 14 = false := by cases e : zB 14 with | false => rfl | true => exact ft (hf12.symm.trans (hW.2.2.2.2.2.2.2.1 e))
     have hpre := hW.1.pre hf12
     obtain ⟨q0, q1, q2, _, _, _⟩ := (HG.out.below hpre).g3
     have HWz := mkHid hW
     clear hW
     go_simp
     have hW := HWz.out
     clear HWz
     exact hK.out _ _ ⟨fun zj => if zj = 0 then true else if zj = 1 then true else zB zj, fun zd => if zd = 24 then .slice A.a0 S.B.length A.c0 else if zd = 23 then .pointer (some ⟨Bx, 0, none⟩) else zS zd, g, c, R, ga, ca, by simp [hb0], by kernel_rfl, ⟨fun _ => rfl, fun _ => rfl, hF.2.2.1, hF.2.2.2.1, hF.2.2.2.2.1, hF.2.2.2.2.2.1, hF.2.2.2.2.2.2.1, hF.2.2.2.2.2.2.2.1, hF.2.2.2.2.2.2.2.2.1, hF.2.2.2.2.2.2.2.2.2.1, hF.2.2.2.2.2.2.2.2.2.2.1, hF.2.2.2.2.2.2.2.2.2.2.2.1, hF.2.2.2.2.2.2.2.2.2.2.2.2.1, hF.2.2.2.2.2.2.2.2.2.2.2.2.2⟩, ⟨hW.1, hW.2.1, hW.2.2.1, hW.2.2.2.1, hW.2.2.2.2.1, hW.2.2.2.2.2.1, fun e => ft (hf12.symm.trans e), fun e => ft (hf14.symm.trans e), hW.2.2.2.2.2.2.2.2⟩⟩
    refine StepsI.cons rfl ?_ ?_
    ·rintro L zA va ⟨zB, zS, g, c, R, ga, ca, rfl, rfl, hF, hW⟩ hL hm K hK
     have hb2 : zB 2 = false := by simpa using hL
     clear hL hm
     simp only [pE]
     have HWz := mkHid hW
     clear hW
     go_simp
     have hW := HWz.out
     clear HWz
     exact hK.out _ _ ⟨fun zj => if zj = 2 then true else zB zj, fun zd => if zd = 25 then .pointer (some ⟨Xa, 0, none⟩) else zS zd, g, c, R, ga, ca, rfl, by kernel_rfl, ⟨hF.1, hF.2.1, fun _ => rfl, hF.2.2.2.1, hF.2.2.2.2.1, hF.2.2.2.2.2.1, hF.2.2.2.2.2.2.1, hF.2.2.2.2.2.2.2.1, hF.2.2.2.2.2.2.2.2.1, hF.2.2.2.2.2.2.2.2.2.1, hF.2.2.2.2.2.2.2.2.2.2.1, hF.2.2.2.2.2.2.2.2.2.2.2.1, hF.2.2.2.2.2.2.2.2.2.2.2.2.1, hF.2.2.2.2.2.2.2.2.2.2.2.2.2⟩, hW⟩
    refine StepsI.cons rfl ?_ ?_
    ·rintro L zA va ⟨zB, zS, g, c, R, ga, ca, rfl, rfl, hF, hW⟩ hL hm K hK
     have hb3 : zB 3 = false := by simpa using hL
     have hb2 : zB 2 = true := mt 2 hm (by kernel_rfl)
     have e2 : zS 25 = .pointer (some ⟨Xa, 0, none⟩) := hF.2.2.1 hb2
     clear hL hm
     simp only [pE]
     simp only [e2]
     have HWz := mkHid hW
     clear hW
     go_simp
     have hW := HWz.out
     clear HWz
     exact hK.out _ _ ⟨fun zj => if zj = 2 then true else if zj = 3 then true else zB zj, fun zd => if zd = 26 then .pointer (some ⟨Xa, 0, none⟩) else if zd = 25 then .pointer (some ⟨Xa, 0, none⟩) else zS zd, g, c, R, ga, ca, by simp [hb2], by kernel_rfl, ⟨hF.1, hF.2.1, fun _ => rfl, fun _ => rfl, hF.2.2.2.2.1, hF.2.2.2.2.2.1, hF.2.2.2.2.2.2.1, hF.2.2.2.2.2.2.2.1, hF.2.2.2.2.2.2.2.2.1, hF.2.2.2.2.2.2.2.2.2.1, hF.2.2.2.2.2.2.2.2.2.2.1, hF.2.2.2.2.2.2.2.2.2.2.2.1, hF.2.2.2.2.2.2.2.2.2.2.2.2.1, hF.2.2.2.2.2.2.2.2.2.2.2.2.2⟩, hW⟩
    refine StepsI.cons rfl ?_ ?_
    ·rintro L zA va ⟨zB, zS, g, c, R, ga, ca, rfl, rfl, hF, hW⟩ hL hm K hK
     have hb4 : zB 4 = false := by simpa using hL
     have hb3 : zB 3 = true := mt 3 hm (by kernel_rfl)
     have e3 : zS 26 = .pointer (some ⟨Xa, 0, none⟩) := hF.2.2.2.1 hb3
     clear hL hm
     simp only [pE]
     simp only [e3]
     have HWz := mkHid hW
     clear hW
     go_simp
     have hW := HWz.out
     clear HWz
     exact hK.out _ _ ⟨fun zj => if zj = 3 then true else if zj = 4 then true else zB zj, fun zd => if zd = 27 then .pointer (some ⟨Xa, 6, none⟩) else if zd = 26 then .pointer (some ⟨Xa, 0, none⟩) else zS zd, g, c, R, ga, ca, by simp [hb3], by kernel_rfl, ⟨hF.1, hF.2.1, hF.2.2.1, fun _ => rfl, fun _ => rfl, hF.2.2.2.2.2.1, hF.2.2.2.2.2.2.1, hF.2.2.2.2.2.2.2.1, hF.2.2.2.2.2.2.2.2.1, hF.2.2.2.2.2.2.2.2.2.1, hF.2.2.2.2.2.2.2.2.2.2.1, hF.2.2.2.2.2.2.2.2.2.2.2.1, hF.2.2.2.2.2.2.2.2.2.2.2.2.1, hF.2.2.2.2.2.2.2.2.2.2.2.2.2⟩, hW⟩
    refine StepsI.cons rfl ?_ ?_
    ·rintro L zA va ⟨zB, zS, g, c, R, ga, ca, rfl, rfl, hF, hW⟩ hL hm K hK
     have hb5 : zB 5 = false := by simpa using hL
     have hb4 : zB 4 = true := mt 4 hm (by kernel_rfl)
     have e4 : zS 27 = .pointer (some ⟨Xa, 6, none⟩) := hF.2.2.2.2.1 hb4
     clear hL hm
     rw [hb5] at hW
     simp only [pE]
     simp only [e4]
     have hf6 : zB 6 = false := by cases e : zB 6 with | false => rfl | true => exact ft ((hW.2.1 e))
     have hf7 : zB 7 = false := by cases e : zB 7 with | false => rfl | true => exact ft (hf6.symm.trans (hW.2.2.1 e))
     have hf8 : zB 8 = false := by cases e : zB 8 with | false => rfl | true => exact ft (hf7.symm.trans (hW.2.2.2.1 e))
     have hf9 : zB 9 = false := by cases e : zB 9 with | false => rfl | true => exact ft (hf8.symm.trans (hW.2.2.2.2.2.2.2.2 e))
     have hf10 : zB 10 = false := by cases e : zB 10 with | false => rfl | true => exact ft (hf9.symm.trans (hW.2.2.2.2.1 e))
     have hf11 : zB 11 = false := by cases e : zB 11 with | false => rfl | true => exact ft (hf10.symm.trans (hW.2.2.2.2.2.1 e))
     have hf12 : zB 12 = false := by cases e : zB 12 with | false => rfl | true => exact ft (hf11.symm.trans (hW.2.2.2.2.2.2.1 e).2)
     have hf14 : zB 14 = false := by cases e : zB 14 with | false => rfl | true => exact ft (hf12.symm.trans (hW.2.2.2.2.2.2.2.1 e))
     have hpre := hW.1.pre hf12
     have c6 := (HLA.out.below hpre).nx
     have HWz := mkHid hW
     clear hW
     go_simp
     have hW := HWz.out
     clear HWz
     exact hK.out _ _ ⟨fun zj => if zj = 4 then true else if zj = 5 then true else zB zj, fun zd => if zd = 28 then .pointer (some ⟨Xn, 0, none⟩) else if zd = 27 then .pointer (some ⟨Xa, 6, none⟩) else zS zd, g, c, R, ga, ca, by simp [hb4], by kernel_rfl, ⟨hF.1, hF.2.1, hF.2.2.1, hF.2.2.2.1, fun _ => rfl, fun _ => rfl, hF.2.2.2.2.2.2.1, hF.2.2.2.2.2.2.2.1, hF.2.2.2.2.2.2.2.2.1, hF.2.2.2.2.2.2.2.2.2.1, hF.2.2.2.2.2.2.2.2.2.2.1, hF.2.2.2.2.2.2.2.2.2.2.2.1, hF.2.2.2.2.2.2.2.2.2.2.2.2.1, hF.2.2.2.2.2.2.2.2.2.2.2.2.2⟩, ⟨hW.1, fun e => ft (hf6.symm.trans e), fun e => ft (hf7.symm.trans e), fun e => ft (hf8.symm.trans e), fun e => ft (hf10.symm.trans e), fun e => ft (hf11.symm.trans e), fun e => ft (hf12.symm.trans e), fun e => ft (hf14.symm.trans e), fun e => ft (hf9.symm.trans e)⟩⟩
    refine StepsI.cons rfl ?_ ?_
    ·rintro L zA va ⟨zB, zS, g, c, R, ga, ca, rfl, rfl, hF, hW⟩ hL hm K hK
     have hb6 : zB 6 = false := by simpa using hL
     have hb5 : zB 5 = true := mt 5 hm (by kernel_rfl)
     have e5 : zS 28 = .pointer (some ⟨Xn, 0, none⟩) := hF.2.2.2.2.2.1 hb5
     clear hL hm
     rw [hb6] at hW
     rw [hb5] at hW
     simp only [pE]
     simp only [e5]
     have hf7 : zB 7 = false := by cases e : zB 7 with | false => rfl | true => exact ft ((hW.2.2.1 e))
     have hf8 : zB 8 = false := by cases e : zB 8 with | false => rfl | true => exact ft (hf7.symm.trans (hW.2.2.2.1 e))
     have hf9 : zB 9 = false := by cases e : zB 9 with | false => rfl | true => exact ft (hf8.symm.trans (hW.2.2.2.2.2.2.2.2 e))
     have hf10 : zB 10 = false := by cases e : zB 10 with | false => rfl | true => exact ft (hf9.symm.trans (hW.2.2.2.2.1 e))
     have hf11 : zB 11 = false := by cases e : zB 11 with | false => rfl | true => exact ft (hf10.symm.trans (hW.2.2.2.2.2.1 e))
     have hf12 : zB 12 = false := by cases e : zB 12 with | false => rfl | true => exact ft (hf11.symm.trans (hW.2.2.2.2.2.2.1 e).2)
     have hf14 : zB 14 = false := by cases e : zB 14 with | false => rfl | true => exact ft (hf12.symm.trans (hW.2.2.2.2.2.2.2.1 e))
     have HWz := mkHid hW
     clear hW
     go_simp
     have hW := HWz.out
     clear HWz
     exact hK.out _ _ ⟨fun zj => if zj = 5 then true else if zj = 6 then true else zB zj, fun zd => if zd = 29 then .pointer (some ⟨Xn, 0, none⟩) else if zd = 28 then .pointer (some ⟨Xn, 0, none⟩) else zS zd, g, c, R, ga, ca, by simp [hb5], by kernel_rfl, ⟨hF.1, hF.2.1, hF.2.2.1, hF.2.2.2.1, hF.2.2.2.2.1, fun _ => rfl, fun _ => rfl, hF.2.2.2.2.2.2.2.1, hF.2.2.2.2.2.2.2.2.1, hF.2.2.2.2.2.2.2.2.2.1, hF.2.2.2.2.2.2.2.2.2.2.1, hF.2.2.2.2.2.2.2.2.2.2.2.1, hF.2.2.2.2.2.2.2.2.2.2.2.2.1, hF.2.2.2.2.2.2.2.2.2.2.2.2.2⟩, ⟨hW.1, fun _ => rfl, fun e => ft (hf7.symm.trans e), fun e => ft (hf8.symm.trans e), fun e => ft (hf10.symm.trans e), fun e => ft (hf11.symm.trans e), fun e => ft (hf12.symm.trans e), fun e => ft (hf14.symm.trans e), fun e => ft (hf9.symm.trans e)⟩⟩
    refine StepsI.cons rfl ?_ ?_
    ·rintro L zA va ⟨zB, zS, g, c, R, ga, ca, rfl, rfl, hF, hW⟩ hL hm K hK
     have hb7 : zB 7 = false := by simpa using hL
     have hb6 : zB 6 = true := mt 6 hm (by kernel_rfl)
     have e6 : zS 29 = .pointer (some ⟨Xn, 0, none⟩) := hF.2.2.2.2.2.2.1 hb6
     clear hL hm
     rw [hb7] at hW
     rw [hb6] at hW
     simp only [pE]
     simp only [e6]
     have hf8 : zB 8 = false := by cases e : zB 8 with | false => rfl | true => exact ft ((hW.2.2.2.1 e))
     have hf9 : zB 9 = false := by cases e : zB 9 with | false => rfl | true => exact ft (hf8.symm.trans (hW.2.2.2.2.2.2.2.2 e))
     have hf10 : zB 10 = false := by cases e : zB 10 with | false => rfl | true => exact ft (hf9.symm.trans (hW.2.2.2.2.1 e))
     have hf11 : zB 11 = false := by cases e : zB 11 with | false => rfl | true => exact ft (hf10.symm.trans (hW.2.2.2.2.2.1 e))
     have hf12 : zB 12 = false := by cases e : zB 12 with | false => rfl | true => exact ft (hf11.symm.trans (hW.2.2.2.2.2.2.1 e).2)
     have hf14 : zB 14 = false := by cases e : zB 14 with | false => rfl | true => exact ft (hf12.symm.trans (hW.2.2.2.2.2.2.2.1 e))
     have HWz := mkHid hW
     clear hW
     go_simp
     have hW := HWz.out
     clear HWz
     exact hK.out _ _ ⟨fun zj => if zj = 6 then true else if zj = 7 then true else zB zj, fun zd => if zd = 30 then .pointer (some ⟨Xn, 0, none⟩) else if zd = 29 then .pointer (some ⟨Xn, 0, none⟩) else zS zd, g, c, R, ga, ca, by simp [hb6], by kernel_rfl, ⟨hF.1, hF.2.1, hF.2.2.1, hF.2.2.2.1, hF.2.2.2.2.1, hF.2.2.2.2.2.1, fun _ => rfl, fun _ => rfl, hF.2.2.2.2.2.2.2.2.1, hF.2.2.2.2.2.2.2.2.2.1, hF.2.2.2.2.2.2.2.2.2.2.1, hF.2.2.2.2.2.2.2.2.2.2.2.1, hF.2.2.2.2.2.2.2.2.2.2.2.2.1, hF.2.2.2.2.2.2.2.2.2.2.2.2.2⟩, ⟨hW.1, hW.2.1, fun _ => rfl, fun e => ft (hf8.symm.trans e), fun e => ft (hf10.symm.trans e), fun e => ft (hf11.symm.trans e), fun e => ft (hf12.symm.trans e), fun e => ft (hf14.symm.trans e), fun e => ft (hf9.symm.trans e)⟩⟩
    refine StepsI.cons rfl ?_ ?_
    ·rintro L zA va ⟨zB, zS, g, c, R, ga, ca, rfl, rfl, hF, hW⟩ hL hm K hK
     have hb8 : zB 8 = false := by simpa using hL
     have hb7 : zB 7 = true := mt 7 hm (by kernel_rfl)
     have e7 : zS 30 = .pointer (some ⟨Xn, 0, none⟩) := hF.2.2.2.2.2.2.2.1 hb7
     clear hL hm
     rw [hb8] at hW
     rw [hb7] at hW
     simp only [pE]
     simp only [e7]
     have hf9 : zB 9 = false := by cases e : zB 9 with | false => rfl | true => exact ft ((hW.2.2.2.2.2.2.2.2 e))
     have hf10 : zB 10 = false := by cases e : zB 10 with | false => rfl | true => exact ft (hf9.symm.trans (hW.2.2.2.2.1 e))
     have hf11 : zB 11 = false := by cases e : zB 11 with | false => rfl | true => exact ft (hf10.symm.trans (hW.2.2.2.2.2.1 e))
     have hf12 : zB 12 = false := by cases e : zB 12 with | false => rfl | true => exact ft (hf11.symm.trans (hW.2.2.2.2.2.2.1 e).2)
     have hf14 : zB 14 = false := by cases e : zB 14 with | false => rfl | true => exact ft (hf12.symm.trans (hW.2.2.2.2.2.2.2.1 e))
     have HWz := mkHid hW
     clear hW
     go_simp
     have hW := HWz.out
     clear HWz
     exact hK.out _ _ ⟨fun zj => if zj = 7 then true else if zj = 8 then true else zB zj, fun zd => if zd = 31 then .pointer (some ⟨Xn, 0, none⟩) else if zd = 30 then .pointer (some ⟨Xn, 0, none⟩) else zS zd, g, c, R, ga, ca, by simp [hb7], by kernel_rfl, ⟨hF.1, hF.2.1, hF.2.2.1, hF.2.2.2.1, hF.2.2.2.2.1, hF.2.2.2.2.2.1, hF.2.2.2.2.2.2.1, fun _ => rfl, fun _ => rfl, hF.2.2.2.2.2.2.2.2.2.1, hF.2.2.2.2.2.2.2.2.2.2.1, hF.2.2.2.2.2.2.2.2.2.2.2.1, hF.2.2.2.2.2.2.2.2.2.2.2.2.1, hF.2.2.2.2.2.2.2.2.2.2.2.2.2⟩, ⟨hW.1, hW.2.1, hW.2.2.1, fun _ => rfl, fun e => ft (hf10.symm.trans e), fun e => ft (hf11.symm.trans e), fun e => ft (hf12.symm.trans e), fun e => ft (hf14.symm.trans e), fun e => ft (hf9.symm.trans e)⟩⟩
    refine StepsI.cons rfl ?_ ?_
    ·rintro L zA va ⟨zB, zS, g, c, R, ga, ca, rfl, rfl, hF, hW⟩ hL hm K hK
     have hb9 : zB 9 = false := by simpa using hL
     have hb8 : zB 8 = true := mt 8 hm (by kernel_rfl)
     have e8 : zS 31 = .pointer (some ⟨Xn, 0, none⟩) := hF.2.2.2.2.2.2.2.2.1 hb8
     clear hL hm
     rw [hb9] at hW
     rw [hb8] at hW
     simp only [pE]
     simp only [e8]
     have hf10 : zB 10 = false := by cases e : zB 10 with | false => rfl | true => exact ft ((hW.2.2.2.2.1 e))
     have hf11 : zB 11 = false := by cases e : zB 11 with | false => rfl | true => exact ft (hf10.symm.trans (hW.2.2.2.2.2.1 e))
     have hf12 : zB 12 = false := by cases e : zB 12 with | false => rfl | true => exact ft (hf11.symm.trans (hW.2.2.2.2.2.2.1 e).2)
     have hf14 : zB 14 = false := by cases e : zB 14 with | false => rfl | true => exact ft (hf12.symm.trans (hW.2.2.2.2.2.2.2.1 e))
     have hpre := hW.1.pre hf12
     have c0 := HC0.out va hpre
     have HWz := mkHid hW
     clear hW
     go_simp
     have hW := HWz.out
     clear HWz
     exact hK.out _ _ ⟨fun zj => if zj = 8 then true else if zj = 9 then true else zB zj, fun zd => if zd = 32 then .slice ao9 l.length cap9 else if zd = 31 then .pointer (some ⟨Xn, 0, none⟩) else zS zd, g, c, R, ga, ca, by simp [hb8], by kernel_rfl, ⟨hF.1, hF.2.1, hF.2.2.1, hF.2.2.2.1, hF.2.2.2.2.1, hF.2.2.2.2.2.1, hF.2.2.2.2.2.2.1, hF.2.2.2.2.2.2.2.1, fun _ => rfl, fun _ => rfl, hF.2.2.2.2.2.2.2.2.2.2.1, hF.2.2.2.2.2.2.2.2.2.2.2.1, hF.2.2.2.2.2.2.2.2.2.2.2.2.1, hF.2.2.2.2.2.2.2.2.2.2.2.2.2⟩, ⟨hW.1, hW.2.1, hW.2.2.1, hW.2.2.2.1, fun e => ft (hf10.symm.trans e), fun e => ft (hf11.symm.trans e), fun e => ft (hf12.symm.trans e), fun e => ft (hf14.symm.trans e), fun _ => rfl⟩⟩
    refine StepsI.cons rfl ?_ ?_
    ·rintro L zA va ⟨zB, zS, g, c, R, ga, ca, rfl, rfl, hF, hW⟩ hL hm K hK
     have hb10 : zB 10 = false := by simpa using hL
     have hb9 : zB 9 = true := mt 9 hm (by kernel_rfl)
     have e9 : zS 32 = .slice ao9 l.length cap9 := hF.2.2.2.2.2.2.2.2.2.1 hb9
     clear hL hm
     rw [hb10] at hW
     rw [hb9] at hW
     simp only [pE]
     simp only [e9]
     have hf11 : zB 11 = false := by cases e : zB 11 with | false => rfl | true => exact ft ((hW.2.2.2.2.2.1 e))
     have hf12 : zB 12 = false := by cases e : zB 12 with | false => rfl | true => exact ft (hf11.symm.trans (hW.2.2.2.2.2.2.1 e).2)
     have hf14 : zB 14 = false := by cases e : zB 14 with | false => rfl | true => exact ft (hf12.symm.trans (hW.2.2.2.2.2.2.2.1 e))
     have hpre := hW.1.pre hf12
     have HWz := mkHid hW
     clear hW
     go_simp
     have hW := HWz.out
     clear HWz
     refine (clone_any l ao9 cap9 _ HLL.out (HAL.out.below hpre)).mono ?_
     rintro e va2 ⟨hb, g9, c9, rfl, hown9⟩
     have HWz := mkHid hW
     clear hW
     go_wp2_with fail
     have hW := HWz.out
     clear HWz
     exact hK.out _ _ ⟨fun zj => if zj = 9 then true else if zj = 10 then true else zB zj, fun zd => if zd = 33 then .slice g9 l.length c9 else if zd = 32 then .slice ao9 l.length cap9 else zS zd, g9, c9, R, ga, ca, by simp [hb9], by kernel_rfl, ⟨hF.1, hF.2.1, hF.2.2.1, hF.2.2.2.1, hF.2.2.2.2.1, hF.2.2.2.2.2.1, hF.2.2.2.2.2.2.1, hF.2.2.2.2.2.2.2.1, hF.2.2.2.2.2.2.2.2.1, fun _ => rfl, fun _ => rfl, hF.2.2.2.2.2.2.2.2.2.2.2.1, hF.2.2.2.2.2.2.2.2.2.2.2.2.1, hF.2.2.2.2.2.2.2.2.2.2.2.2.2⟩, ⟨hW.1.elem hf11 hf12 hf14 hb (hown9.mono hpre.size), hW.2.1, hW.2.2.1, hW.2.2.2.1, fun _ => rfl, fun e => ft (hf11.symm.trans e), fun e => ft (hf12.symm.trans e), fun e => ft (hf14.symm.trans e), fun _ => hW.2.2.2.2.2.2.2.2 (by trivial)⟩⟩
    refine StepsI.cons rfl ?_ ?_
    ·rintro L zA va ⟨zB, zS, g, c, R, ga, ca, rfl, rfl, hF, hW⟩ hL hm K hK
     have hb11 : zB 11 = false := by simpa using hL
     have hb10 : zB 10 = true := mt 10 hm (by kernel_rfl)
     have e10 : zS 33 = .slice g l.length c := hF.2.2.2.2.2.2.2.2.2.2.1 hb10
     clear hL hm
     rw [hb11] at hW
     rw [hb10] at hW
     simp only [pE]
     simp only [e10]
     have hf12 : zB 12 = false := by cases e : zB 12 with | false => rfl | true => exact ft ((hW.2.2.2.2.2.2.1 e).2)
     have hf14 : zB 14 = false := by cases e : zB 14 with | false => rfl | true => exact ft (hf12.symm.trans (hW.2.2.2.2.2.2.2.1 e))
     have hpre := hW.1.pre hf12
     have HWz := mkHid hW
     clear hW
     go_simp
     have hW := HWz.out
     clear HWz
     exact hK.out _ _ ⟨fun zj => if zj = 10 then true else if zj = 11 then true else zB zj, fun zd => if zd = 34 then .slice (some ⟨va.heap.size, 0, none⟩) 1 1 else if zd = 33 then .slice g l.length c else zS zd, g, c, va.heap.size, ga, ca, by simp [hb10], by kernel_rfl, ⟨hF.1, hF.2.1, hF.2.2.1, hF.2.2.2.1, hF.2.2.2.2.1, hF.2.2.2.2.2.1, hF.2.2.2.2.2.2.1, hF.2.2.2.2.2.2.2.1, hF.2.2.2.2.2.2.2.2.1, hF.2.2.2.2.2.2.2.2.2.1, fun _ => rfl, fun _ => rfl, hF.2.2.2.2.2.2.2.2.2.2.2.2.1, hF.2.2.2.2.2.2.2.2.2.2.2.2.2⟩, ⟨hW.1.lay hf12 hf14 (fun _ _ h hb => Own.below h hb) rfl, hW.2.1, hW.2.2.1, hW.2.2.2.1, hW.2.2.2.2.1, fun _ => rfl, fun e => ft (hf12.symm.trans e), fun e => ft (hf14.symm.trans e), hW.2.2.2.2.2.2.2.2⟩⟩
    refine StepsI.cons rfl ?_ ?_
    ·rintro L zA va ⟨zB, zS, g, c, R, ga, ca, rfl, rfl, hF, hW⟩ hL hm K hK
     have hb12 : zB 12 = false := by simpa using hL
     have hb1 : zB 1 = true := mt 1 hm (by kernel_rfl)
     have hb11 : zB 11 = true := mt 11 hm (by kernel_rfl)
     have e1 : zS 24 = .slice A.a0 S.B.length A.c0 := hF.2.1 hb1
     have e11 : zS 34 = .slice (some ⟨R, 0, none⟩) 1 1 := hF.2.2.2.2.2.2.2.2.2.2.2.1 hb11
     clear hL hm
     rw [hb12] at hW
     rw [hb1] at hW
     rw [hb11] at hW
     simp only [pE]
     simp only [e1, e11]
     have hf14 : zB 14 = false := by cases e : zB 14 with | false => rfl | true => exact ft ((hW.2.2.2.2.2.2.2.1 e))
     have hpre := hW.1.pre rfl
     rw [if_pos (by rfl)]
     refine wp_append_lies _ _ _ 32 rfl base 113 tb (.slice none 0 0) 1 24 Tryz.underlying32 HIB.out.1 HIB.out.2.1 HIB.out.2.2.1 HIB.out.2.2.2 rfl (by decide) (.slice A.a0 S.B.length A.c0) S.B.length (vs) rfl (owns_below HVS.out hpre) ⟨R, 0, none⟩ 1 1 [.slice g l.length c] rfl rfl (hW.1.tmp rfl rfl) (fun u hu => by simp at hu; subst hu; rfl) (by decide) (by have := HNB.out; unfold maxLen; omega) (by have := HNB.out; omega) (Nat.le_trans hbs hpre.size) va.heap.size rfl ?_
     intro ga9 ca9 va2 hown hgrow hat9 hlt9
     exact hK.out _ _ ⟨fun zj => if zj = 11 then true else if zj = 1 then true else if zj = 12 then true else zB zj, fun zd => if zd = 35 then .slice (some ⟨ga9, 0, none⟩) (S.B.length + 1) ca9 else if zd = 34 then .slice (some ⟨R, 0, none⟩) 1 1 else if zd = 24 then .slice A.a0 S.B.length A.c0 else zS zd, g, c, R, ga9, ca9, by simp [hb1, hb11], by kernel_rfl, ⟨hF.1, fun _ => rfl, hF.2.2.1, hF.2.2.2.1, hF.2.2.2.2.1, hF.2.2.2.2.2.1, hF.2.2.2.2.2.2.1, hF.2.2.2.2.2.2.2.1, hF.2.2.2.2.2.2.2.2.1, hF.2.2.2.2.2.2.2.2.2.1, hF.2.2.2.2.2.2.2.2.2.2.1, fun _ => rfl, fun _ => rfl, hF.2.2.2.2.2.2.2.2.2.2.2.2.2⟩, ⟨hW.1.app ((hW.2.2.2.2.2.1 rfl)) hf14 hgrow hown, hW.2.1, hW.2.2.1, hW.2.2.2.1, hW.2.2.2.2.1, hW.2.2.2.2.2.1, fun _ => ⟨rfl, rfl⟩, fun e => ft (hf14.symm.trans e), hW.2.2.2.2.2.2.2.2⟩⟩
    refine StepsI.cons rfl ?_ ?_
    ·rintro L zA va ⟨zB, zS, g, c, R, ga, ca, rfl, rfl, hF, hW⟩ hL hm K hK
     have hb13 : zB 13 = false := by simpa using hL
     clear hL hm
     simp only [pE]
     have HWz := mkHid hW
     clear hW
     go_simp
     have hW := HWz.out
     clear HWz
     exact hK.out _ _ ⟨fun zj => if zj = 13 then true else zB zj, fun zd => if zd = 36 then .pointer (some ⟨Bx, 0, none⟩) else zS zd, g, c, R, ga, ca, rfl, by kernel_rfl, ⟨hF.1, hF.2.1, hF.2.2.1, hF.2.2.2.1, hF.2.2.2.2.1, hF.2.2.2.2.2.1, hF.2.2.2.2.2.2.1, hF.2.2.2.2.2.2.2.1, hF.2.2.2.2.2.2.2.2.1, hF.2.2.2.2.2.2.2.2.2.1, hF.2.2.2.2.2.2.2.2.2.2.1, hF.2.2.2.2.2.2.2.2.2.2.2.1, hF.2.2.2.2.2.2.2.2.2.2.2.2.1, fun _ => rfl⟩, hW⟩
    refine StepsI.cons rfl ?_ ?_
    ·rintro L zA va ⟨zB, zS, g, c, R, ga, ca, rfl, rfl, hF, hW⟩ hL hm K hK
     have hb14 : zB 14 = false := by simpa using hL
     have hb12 : zB 12 = true := mt 12 hm (by kernel_rfl)
     have hb13 : zB 13 = true := mt 13 hm (by kernel_rfl)
     have e12 : zS 35 = .slice (some ⟨ga, 0, none⟩) (S.B.length + 1) ca := hF.2.2.2.2.2.2.2.2.2.2.2.2.1 hb12
     have e13 : zS 36 = .pointer (some ⟨Bx, 0, none⟩) := hF.2.2.2.2.2.2.2.2.2.2.2.2.2 hb13
     clear hL hm
     rw [hb14] at hW
     rw [hb12] at hW
     simp only [pE]
     simp only [e12, e13]
     have hbx := (hW.1.aft rfl rfl).box HG.out.box (fun v hv q e hq => by subst hq; obtain ⟨c7, h7⟩ := owns_block (owns_below HVS.out hv) e; have h8 := (hv.block _ (heap_lt HG.out.box)).trans HG.out.box; rw [h7] at h8; simp at h8)
     have q0 := heap_cell hbx 0
     have f0 := heap_free hbx 0
     simp only [sgC] at q0
     simp at q0
     have HWz := mkHid hW
     clear hW
     go_simp
     have hW := HWz.out
     clear HWz
     exact hK.out _ _ ⟨fun zj => if zj = 13 then true else if zj = 12 then true else if zj = 14 then true else zB zj, fun zd => if zd = 36 then .pointer (some ⟨Bx, 0, none⟩) else if zd = 35 then .slice (some ⟨ga, 0, none⟩) (S.B.length + 1) ca else zS zd, g, c, R, ga, ca, by simp [hb12, hb13], by kernel_rfl, ⟨hF.1, hF.2.1, hF.2.2.1, hF.2.2.2.1, hF.2.2.2.2.1, hF.2.2.2.2.2.1, hF.2.2.2.2.2.2.1, hF.2.2.2.2.2.2.2.1, hF.2.2.2.2.2.2.2.2.1, hF.2.2.2.2.2.2.2.2.2.1, hF.2.2.2.2.2.2.2.2.2.2.1, hF.2.2.2.2.2.2.2.2.2.2.2.1, fun _ => rfl, fun _ => rfl⟩, ⟨hW.1.store, hW.2.1, hW.2.2.1, hW.2.2.2.1, hW.2.2.2.2.1, hW.2.2.2.2.2.1, hW.2.2.2.2.2.2.1, fun _ => rfl, hW.2.2.2.2.2.2.2.2⟩⟩
    exact StepsI.nil (by kernel_rfl)
   ·rintro L zA va ⟨zB, zS, g, c, R, ga, ca, rfl, rfl, hF, hW⟩ hr
    have hu := all_up (by kernel_rfl) (N := 15) (by kernel_rfl) hr
    have hb0 : zB 0 = true := by simpa using hu 0 (by decide)
    have hb1 : zB 1 = true := by simpa using hu 1 (by decide)
    have hb2 : zB 2 = true := by simpa using hu 2 (by decide)
    have hb3 : zB 3 = true := by simpa using hu 3 (by decide)
    have hb4 : zB 4 = true := by simpa using hu 4 (by decide)
    have hb5 : zB 5 = true := by simpa using hu 5 (by decide)
    have hb6 : zB 6 = true := by simpa using hu 6 (by decide)
    have hb7 : zB 7 = true := by simpa using hu 7 (by decide)
    have hb8 : zB 8 = true := by simpa using hu 8 (by decide)
    have hb9 : zB 9 = true := by simpa using hu 9 (by decide)
    have hb10 : zB 10 = true := by simpa using hu 10 (by decide)
    have hb11 : zB 11 = true := by simpa using hu 11 (by decide)
    have hb12 : zB 12 = true := by simpa using hu 12 (by decide)
    have hb13 : zB 13 = true := by simpa using hu 13 (by decide)
    have hb14 : zB 14 = true := by simpa using hu 14 (by decide)
    have e0 : zS 23 = .pointer (some ⟨Bx, 0, none⟩) := hF.1 hb0
    have e1 : zS 24 = .slice A.a0 S.B.length A.c0 := hF.2.1 hb1
    have e2 : zS 25 = .pointer (some ⟨Xa, 0, none⟩) := hF.2.2.1 hb2
    have e3 : zS 26 = .pointer (some ⟨Xa, 0, none⟩) := hF.2.2.2.1 hb3
    have e4 : zS 27 = .pointer (some ⟨Xa, 6, none⟩) := hF.2.2.2.2.1 hb4
    have e5 : zS 28 = .pointer (some ⟨Xn, 0, none⟩) := hF.2.2.2.2.2.1 hb5
    have e6 : zS 29 = .pointer (some ⟨Xn, 0, none⟩) := hF.2.2.2.2.2.2.1 hb6
    have e7 : zS 30 = .pointer (some ⟨Xn, 0, none⟩) := hF.2.2.2.2.2.2.2.1 hb7
    have e8 : zS 31 = .pointer (some ⟨Xn, 0, none⟩) := hF.2.2.2.2.2.2.2.2.1 hb8
    have e9 : zS 32 = .slice ao9 l.length cap9 := hF.2.2.2.2.2.2.2.2.2.1 hb9
    have e10 : zS 33 = .slice g l.length c := hF.2.2.2.2.2.2.2.2.2.2.1 hb10
    have e11 : zS 34 = .slice (some ⟨R, 0, none⟩) 1 1 := hF.2.2.2.2.2.2.2.2.2.2.2.1 hb11
    have e12 : zS 35 = .slice (some ⟨ga, 0, none⟩) (S.B.length + 1) ca := hF.2.2.2.2.2.2.2.2.2.2.2.2.1 hb12
    have e13 : zS 36 = .pointer (some ⟨Bx, 0, none⟩) := hF.2.2.2.2.2.2.2.2.2.2.2.2.2 hb13
    rw [hb1] at hW
    rw [hb5] at hW
    rw [hb6] at hW
    rw [hb7] at hW
    rw [hb8] at hW
    rw [hb9] at hW
    rw [hb10] at hW
    rw [hb11] at hW
    rw [hb12] at hW
    rw [hb14] at hW
    clear hu hr hF
    simp only [pE]
    simp only [e0, e1, e2, e3, e4, e5, e6, e7, e8, e9, e10, e11, e12, e13]
    clear e0 e1 e2 e3 e4 e5 e6 e7 e8 e9 e10 e11 e12 e13
    clear hb0 hb1 hb2 hb3 hb4 hb5 hb6 hb7 hb8 hb9 hb10 hb11 hb12 hb13 hb14
    clear zB zS
    obtain ⟨hg9, hk9⟩ := HG.out.stepB hbs HVS.out HIN.out (hW.1.fin rfl)
    have hbs2 : base ≤ va.heap.size := Nat.le_trans hbs hk9.size
    obtain ⟨S1, hS1⟩ : ∃ z, (⟨S.B ++ [l], S.V, S.M⟩ : SG) = z := ⟨_, rfl⟩
    have HS1 := mkHid hS1.symm
    obtain ⟨A1, hA1⟩ : ∃ z, (⟨some ⟨ga, 0, none⟩, ca, A.a1, A.c1, A.a2, A.c2⟩ : SAd) = z := ⟨_, rfl⟩
    rw [hS1, hA1] at hg9
    have HG1 := mkHid hg9
    have HK1 := mkHid (HKP.out.trans hk9)
    have HX1 : Hid (∀ v, Below va.heap.size va v → v.cell? ⟨Xa, 2, none⟩ = some (.int .i64 x.1) ∧ v.cell? ⟨Xa, 3, none⟩ = some (.int .i64 x.2.1) ∧ v.cell? ⟨Xa, 4, none⟩ = some (.bool x.2.2)) := mkHid fun v h => by have h2 := (HLA0.out.below (Kp.below HBA.out HK1.out HBW.out HBX.out)).below h; rw [← HX9.out]; exact ⟨h2.v0, h2.v1, h2.v2⟩
    have HNV : Hid (S1.V.length ≤ 1048576) := mkHid (by have := HSL.out.1; rw [HS1.out]; exact this)
    have hbs := hbs2
    clear hW hg9 hk9 hbs2 HG hS1 hA1 HC0 HVS HIN HAL
    go_wp2_with fail
    refine wp_region_inv2 (fun zA0 L zA vb => ∃ (zB : Nat → Bool) (zS : Nat → Value) (R : Nat) (ga : Nat) (ca : Nat), L = #[zB 0, zB 1, zB 2, zB 3, zB 4, zB 5, zB 6, zB 7, zB 8, zB 9] ∧ zA = puts zA0 [(37, zS 37), (38, zS 38), (39, zS 39), (40, zS 40), (41, zS 41), (42, zS 42), (43, zS 43), (44, zS 44), (45, zS 45)] ∧ ((zB 0 = true → zS 37 = .pointer (some ⟨Bx, 1, none⟩)) ∧ (zB 1 = true → zS 38 = .slice A1.a1 S1.V.length A1.c1) ∧ (zB 2 = true → zS 39 = .pointer (some ⟨Xa, 0, none⟩)) ∧ (zB 3 = true → zS 40 = .pointer (some ⟨Xa, 0, none⟩)) ∧ (zB 4 = true → zS 41 = .pointer (some ⟨Xa, 2, none⟩)) ∧ (zB 5 = true → zS 42 = .agg #[.int .i64 x.1, .int .i64 x.2.1, .bool x.2.2]) ∧ (zB 6 = true → zS 43 = .slice (some ⟨R, 0, none⟩) 1 1) ∧ (zB 7 = true → zS 44 = .slice (some ⟨ga, 0, none⟩) (S1.V.length + 1) ca) ∧ (zB 8 = true → zS 45 = .pointer (some ⟨Bx, 1, none⟩))) ∧ (Ap va vb true (zB 6) (zB 7) (zB 9) (fun _ => True) R [.int .i64 x.1, .int .i64 x.2.1, .bool x.2.2] (Value.ownBlock (.slice A1.a1 S1.V.length A1.c1)) (fun v => v.ownsRow base 55 3 (.slice (some ⟨ga, 0, none⟩) (S1.V.length + 1) ca) (S1.V.length + 1) (eV.flat S1.V ++ [.int .i64 x.1, .int .i64 x.2.1, .bool x.2.2])) Bx 1 (.slice (some ⟨ga, 0, none⟩) (S1.V.length + 1) ca)) ∧ ((zB 6) = true → (zB 5) = true) ∧ ((zB 7) = true → (zB 1) = true ∧ (zB 6) = true) ∧ ((zB 9) = true → (zB 7) = true)) (by kernel_rfl) ?_ ?_ ?_
    ·exact ⟨fun _ => false, fun zd => if zd = 45 then u45 else if zd = 44 then u44 else if zd = 43 then u43 else if zd = 42 then u42 else if zd = 41 then u41 else if zd = 40 then u40 else if zd = 39 then u39 else if zd = 38 then u38 else if zd = 37 then u37 else undef, 0, 0, 0, rfl, by kernel_rfl, ⟨fun e => ft e, fun e => ft e, fun e => ft e, fun e => ft e, fun e => ft e, fun e => ft e, fun e => ft e, fun e => ft e, fun e => ft e⟩, ⟨Ap.start1 _ _ _ _ _ _ _ _, fun e => ft e, fun e => ft e, fun e => ft e⟩⟩
    ·refine StepsI.cons rfl ?_ ?_
     ·rintro L zA vb ⟨zB, zS, R, ga, ca, rfl, rfl, hF, hW⟩ hL hm K hK
      have hb0 : zB 0 = false := by simpa using hL
      clear hL hm
      simp only [pE]
      have HWz := mkHid hW
      clear hW
      go_simp
      have hW := HWz.out
      clear HWz
      exact hK.out _ _ ⟨fun zj => if zj = 0 then true else zB zj, fun zd => if zd = 37 then .pointer (some ⟨Bx, 1, none⟩) else zS zd, R, ga, ca, rfl, by kernel_rfl, ⟨fun _ => rfl, hF.2.1, hF.2.2.1, hF.2.2.2.1, hF.2.2.2.2.1, hF.2.2.2.2.2.1, hF.2.2.2.2.2.2.1, hF.2.2.2.2.2.2.2.1, hF.2.2.2.2.2.2.2.2⟩, hW⟩
     refine StepsI.cons rfl ?_ ?_
     ·rintro L zA vb ⟨zB, zS, R, ga, ca, rfl, rfl, hF, hW⟩ hL hm K hK
      have hb1 : zB 1 = false := by simpa using hL
      have hb0 : zB 0 = true := mt 0 hm (by kernel_rfl)
      have e0 : zS 37 = .pointer (some ⟨Bx, 1, none⟩) := hF.1 hb0
      clear hL hm
      rw [hb1] at hW
      simp only [pE]
      simp only [e0]
      have hf7 : zB 7 = false := by cases e : zB 7 with | false => rfl | true => exact ft ((hW.2.2.1 e).1)
      have hf9 : zB 9 = false := by cases e : zB 9 with | false => rfl | true => exact ft (hf7.symm.trans (hW.2.2.2 e))
      have hpre := hW.1.pre hf7
      obtain ⟨q0, q1, q2, _, _, _⟩ := (HG1.out.below hpre).g3
      have HWz := mkHid hW
      clear hW
      go_simp
      have hW := HWz.out
      clear HWz
      exact hK.out _ _ ⟨fun zj => if zj = 0 then true else if zj = 1 then true else zB zj, fun zd => if zd = 38 then .slice A1.a1 S1.V.length A1.c1 else if zd = 37 then .pointer (some ⟨Bx, 1, none⟩) else zS zd, R, ga, ca, by simp [hb0], by kernel_rfl, ⟨fun _ => rfl, fun _ => rfl, hF.2.2.1, hF.2.2.2.1, hF.2.2.2.2.1, hF.2.2.2.2.2.1, hF.2.2.2.2.2.2.1, hF.2.2.2.2.2.2.2.1, hF.2.2.2.2.2.2.2.2⟩, ⟨hW.1, hW.2.1, fun e => ft (hf7.symm.trans e), fun e => ft (hf9.symm.trans e)⟩⟩
     refine StepsI.cons rfl ?_ ?_
     ·rintro L zA vb ⟨zB, zS, R, ga, ca, rfl, rfl, hF, hW⟩ hL hm K hK
      have hb2 : zB 2 = false := by simpa using hL
      clear hL hm
      simp only [pE]
      have HWz := mkHid hW
      clear hW
      go_simp
      have hW := HWz.out
      clear HWz
      exact hK.out _ _ ⟨fun zj => if zj = 2 then true else zB zj, fun zd => if zd = 39 then .pointer (some ⟨Xa, 0, none⟩) else zS zd, R, ga, ca, rfl, by kernel_rfl, ⟨hF.1, hF.2.1, fun _ => rfl, hF.2.2.2.1, hF.2.2.2.2.1, hF.2.2.2.2.2.1, hF.2.2.2.2.2.2.1, hF.2.2.2.2.2.2.2.1, hF.2.2.2.2.2.2.2.2⟩, hW⟩
     refine StepsI.cons rfl ?_ ?_
     ·rintro L zA vb ⟨zB, zS, R, ga, ca, rfl, rfl, hF, hW⟩ hL hm K hK
      have hb3 : zB 3 = false := by simpa using hL
      have hb2 : zB 2 = true := mt 2 hm (by kernel_rfl)
      have e2 : zS 39 = .pointer (some ⟨Xa, 0, none⟩) := hF.2.2.1 hb2
      clear hL hm
      simp only [pE]
      simp only [e2]
      have HWz := mkHid hW
      clear hW
      go_simp
      have hW := HWz.out
      clear HWz
      exact hK.out _ _ ⟨fun zj => if zj = 2 then true else if zj = 3 then true else zB zj, fun zd => if zd = 40 then .pointer (some ⟨Xa, 0, none⟩) else if zd = 39 then .pointer (some ⟨Xa, 0, none⟩) else zS zd, R, ga, ca, by simp [hb2], by kernel_rfl, ⟨hF.1, hF.2.1, fun _ => rfl, fun _ => rfl, hF.2.2.2.2.1, hF.2.2.2.2.2.1, hF.2.2.2.2.2.2.1, hF.2.2.2.2.2.2.2.1, hF.2.2.2.2.2.2.2.2⟩, hW⟩
     refine StepsI.cons rfl ?_ ?_
     ·rintro L zA vb ⟨zB, zS, R, ga, ca, rfl, rfl, hF, hW⟩ hL hm K hK
      have hb4 : zB 4 = false := by simpa using hL
      have hb3 : zB 3 = true := mt 3 hm (by kernel_rfl)
      have e3 : zS 40 = .pointer (some ⟨Xa, 0, none⟩) := hF.2.2.2.1 hb3
      clear hL hm
      simp only [pE]
      simp only [e3]
      have HWz := mkHid hW
      clear hW
      go_simp
      have hW := HWz.out
      clear HWz
      exact hK.out _ _ ⟨fun zj => if zj = 3 then true else if zj = 4 then true else zB zj, fun zd => if zd = 41 then .pointer (some ⟨Xa, 2, none⟩) else if zd = 40 then .pointer (some ⟨Xa, 0, none⟩) else zS zd, R, ga, ca, by simp [hb3], by kernel_rfl, ⟨hF.1, hF.2.1, hF.2.2.1, fun _ => rfl, fun _ => rfl, hF.2.2.2.2.2.1, hF.2.2.2.2.2.2.1, hF.2.2.2.2.2.2.2.1, hF.2.2.2.2.2.2.2.2⟩, hW⟩
     refine StepsI.cons rfl ?_ ?_
     ·rintro L zA vb ⟨zB, zS, R, ga, ca, rfl, rfl, hF, hW⟩ hL hm K hK
      have hb5 : zB 5 = false := by simpa using hL
      have hb4 : zB 4 = true := mt 4 hm (by kernel_rfl)
      have e4 : zS 41 = .pointer (some ⟨Xa, 2, none⟩) := hF.2.2.2.2.1 hb4
      clear hL hm
      rw [hb5] at hW
      simp only [pE]
      simp only [e4]
      have hf6 : zB 6 = false := by cases e : zB 6 with | false => rfl | true => exact ft ((hW.2.1 e))
      have hf7 : zB 7 = false := by cases e : zB 7 with | false => rfl | true => exact ft (hf6.symm.trans (hW.2.2.1 e).2)
      have hf9 : zB 9 = false := by cases e : zB 9 with | false => rfl | true => exact ft (hf7.symm.trans (hW.2.2.2 e))
      have hpre := hW.1.pre hf7
      obtain ⟨c2, c3, c4⟩ := HX1.out vb hpre
      have HWz := mkHid hW
      clear hW
      go_simp
      have hW := HWz.out
      clear HWz
      exact hK.out _ _ ⟨fun zj => if zj = 4 then true else if zj = 5 then true else zB zj, fun zd => if zd = 42 then .agg #[.int .i64 x.1, .int .i64 x.2.1, .bool x.2.2] else if zd = 41 then .pointer (some ⟨Xa, 2, none⟩) else zS zd, R, ga, ca, by simp [hb4], by kernel_rfl, ⟨hF.1, hF.2.1, hF.2.2.1, hF.2.2.2.1, fun _ => rfl, fun _ => rfl, hF.2.2.2.2.2.2.1, hF.2.2.2.2.2.2.2.1, hF.2.2.2.2.2.2.2.2⟩, ⟨hW.1, fun e => ft (hf6.symm.trans e), fun e => ft (hf7.symm.trans e), fun e => ft (hf9.symm.trans e)⟩⟩
     refine StepsI.cons rfl ?_ ?_
     ·rintro L zA vb ⟨zB, zS, R, ga, ca, rfl, rfl, hF, hW⟩ hL hm K hK
      have hb6 : zB 6 = false := by simpa using hL
      have hb5 : zB 5 = true := mt 5 hm (by kernel_rfl)
      have e5 : zS 42 = .agg #[.int .i64 x.1, .int .i64 x.2.1, .bool x.2.2] := hF.2.2.2.2.2.1 hb5
      clear hL hm
      rw [hb6] at hW
      rw [hb5] at hW
      simp only [pE]
      simp only [e5]
      have hf7 : zB 7 = false := by cases e : zB 7 with | false => rfl | true => exact ft ((hW.2.2.1 e).2)
      have hf9 : zB 9 = false := by cases e : zB 9 with | false => rfl | true => exact ft (hf7.symm.trans (hW.2.2.2 e))
      have hpre := hW.1.pre hf7
      have HWz := mkHid hW
      clear hW
      go_simp
      have hW := HWz.out
      clear HWz
      exact hK.out _ _ ⟨fun zj => if zj = 5 then true else if zj = 6 then true else zB zj, fun zd => if zd = 43 then .slice (some ⟨vb.heap.size, 0, none⟩) 1 1 else if zd = 42 then .agg #[.int .i64 x.1, .int .i64 x.2.1, .bool x.2.2] else zS zd, vb.heap.size, ga, ca, by simp [hb5], by kernel_rfl, ⟨hF.1, hF.2.1, hF.2.2.1, hF.2.2.2.1, hF.2.2.2.2.1, fun _ => rfl, fun _ => rfl, hF.2.2.2.2.2.2.2.1, hF.2.2.2.2.2.2.2.2⟩, ⟨hW.1.lay hf7 hf9 (fun _ _ _ _ => True.intro) rfl, fun _ => rfl, fun e => ft (hf7.symm.trans e), fun e => ft (hf9.symm.trans e)⟩⟩
     refine StepsI.cons rfl ?_ ?_
     ·rintro L zA vb ⟨zB, zS, R, ga, ca, rfl, rfl, hF, hW⟩ hL hm K hK
      have hb7 : zB 7 = false := by simpa using hL
      have hb1 : zB 1 = true := mt 1 hm (by kernel_rfl)
      have hb6 : zB 6 = true := mt 6 hm (by kernel_rfl)
      have e1 : zS 38 = .slice A1.a1 S1.V.length A1.c1 := hF.2.1 hb1
      have e6 : zS 43 = .slice (some ⟨R, 0, none⟩) 1 1 := hF.2.2.2.2.2.2.1 hb6
      clear hL hm
      rw [hb7] at hW
      rw [hb1] at hW
      rw [hb6] at hW
      simp only [pE]
      simp only [e1, e6]
      have hf9 : zB 9 = false := by cases e : zB 9 with | false => rfl | true => exact ft ((hW.2.2.2 e))
      have hpre := hW.1.pre rfl
      rw [if_pos (by rfl)]
      refine wp_append_lies _ _ _ 33 rfl base 55 tv (.agg #[.int .i64 0, .int .i64 0, .bool false]) 3 24 Tryz.underlying33 HIV.out.1 HIV.out.2.1 HIV.out.2.2.1 HIV.out.2.2.2 rfl (by decide) (.slice A1.a1 S1.V.length A1.c1) S1.V.length (eV.flat S1.V) rfl ((HG1.out.below hpre).v) ⟨R, 0, none⟩ 1 1 [.int .i64 x.1, .int .i64 x.2.1, .bool x.2.2] rfl rfl (hW.1.tmp rfl rfl) (fun u hu => by simp at hu; rcases hu with rfl | rfl | rfl <;> rfl) (by decide) (by have := HNV.out; unfold maxLen; omega) (by have := HNV.out; omega) (Nat.le_trans hbs hpre.size) vb.heap.size rfl ?_
      intro ga9 ca9 vb2 hown hgrow hat9 hlt9
      exact hK.out _ _ ⟨fun zj => if zj = 6 then true else if zj = 1 then true else if zj = 7 then true else zB zj, fun zd => if zd = 44 then .slice (some ⟨ga9, 0, none⟩) (S1.V.length + 1) ca9 else if zd = 43 then .slice (some ⟨R, 0, none⟩) 1 1 else if zd = 38 then .slice A1.a1 S1.V.length A1.c1 else zS zd, R, ga9, ca9, by simp [hb1, hb6], by kernel_rfl, ⟨hF.1, fun _ => rfl, hF.2.2.1, hF.2.2.2.1, hF.2.2.2.2.1, hF.2.2.2.2.2.1, fun _ => rfl, fun _ => rfl, hF.2.2.2.2.2.2.2.2⟩, ⟨hW.1.app (rfl) hf9 hgrow hown, hW.2.1, fun _ => ⟨rfl, rfl⟩, fun e => ft (hf9.symm.trans e)⟩⟩
     refine StepsI.cons rfl ?_ ?_
     ·rintro L zA vb ⟨zB, zS, R, ga, ca, rfl, rfl, hF, hW⟩ hL hm K hK
      have hb8 : zB 8 = false := by simpa using hL
      clear hL hm
      simp only [pE]
      have HWz := mkHid hW
      clear hW
      go_simp
      have hW := HWz.out
      clear HWz
      exact hK.out _ _ ⟨fun zj => if zj = 8 then true else zB zj, fun zd => if zd = 45 then .pointer (some ⟨Bx, 1, none⟩) else zS zd, R, ga, ca, rfl, by kernel_rfl, ⟨hF.1, hF.2.1, hF.2.2.1, hF.2.2.2.1, hF.2.2.2.2.1, hF.2.2.2.2.2.1, hF.2.2.2.2.2.2.1, hF.2.2.2.2.2.2.2.1, fun _ => rfl⟩, hW⟩
     refine StepsI.cons rfl ?_ ?_
     ·rintro L zA vb ⟨zB, zS, R, ga, ca, rfl, rfl, hF, hW⟩ hL hm K hK
      have hb9 : zB 9 = false := by simpa using hL
      have hb7 : zB 7 = true := mt 7 hm (by kernel_rfl)
      have hb8 : zB 8 = true := mt 8 hm (by kernel_rfl)
      have e7 : zS 44 = .slice (some ⟨ga, 0, none⟩) (S1.V.length + 1) ca := hF.2.2.2.2.2.2.2.1 hb7
      have e8 : zS 45 = .pointer (some ⟨Bx, 1, none⟩) := hF.2.2.2.2.2.2.2.2 hb8
      clear hL hm
      rw [hb9] at hW
      rw [hb7] at hW
      simp only [pE]
      simp only [e7, e8]
      have hbx := (hW.1.aft rfl rfl).box HG1.out.box (fun v hv q e hq => by subst hq; obtain ⟨c7, h7⟩ := (HG1.out.below hv).v.block e; have h8 := (HG1.out.below hv).box; rw [h7] at h8; simp at h8)
      have q0 := heap_cell hbx 1
      have f0 := heap_free hbx 1
      simp only [sgC] at q0
      simp at q0
      have HWz := mkHid hW
      clear hW
      go_simp
      have hW := HWz.out
      clear HWz
      exact hK.out _ _ ⟨fun zj => if zj = 8 then true else if zj = 7 then true else if zj = 9 then true else zB zj, fun zd => if zd = 45 then .pointer (some ⟨Bx, 1, none⟩) else if zd = 44 then .slice (some ⟨ga, 0, none⟩) (S1.V.length + 1) ca else zS zd, R, ga, ca, by simp [hb7, hb8], by kernel_rfl, ⟨hF.1, hF.2.1, hF.2.2.1, hF.2.2.2.1, hF.2.2.2.2.1, hF.2.2.2.2.2.1, hF.2.2.2.2.2.2.1, fun _ => rfl, fun _ => rfl⟩, ⟨hW.1.store, hW.2.1, hW.2.2.1, fun _ => rfl⟩⟩
     exact StepsI.nil (by kernel_rfl)
    ·rintro L zA vb ⟨zB, zS, R, ga, ca, rfl, rfl, hF, hW⟩ hr
     have hu := all_up (by kernel_rfl) (N := 10) (by kernel_rfl) hr
     have hb0 : zB 0 = true := by simpa using hu 0 (by decide)
     have hb1 : zB 1 = true := by simpa using hu 1 (by decide)
     have hb2 : zB 2 = true := by simpa using hu 2 (by decide)
     have hb3 : zB 3 = true := by simpa using hu 3 (by decide)
     have hb4 : zB 4 = true := by simpa using hu 4 (by decide)
     have hb5 : zB 5 = true := by simpa using hu 5 (by decide)
     have hb6 : zB 6 = true := by simpa using hu 6 (by decide)
     have hb7 : zB 7 = true := by simpa using hu 7 (by decide)
     have hb8 : zB 8 = true := by simpa using hu 8 (by decide)
     have hb9 : zB 9 = true := by simpa using hu 9 (by decide)
     have e0 : zS 37 = .pointer (some ⟨Bx, 1, none⟩) := hF.1 hb0
     have e1 : zS 38 = .slice A1.a1 S1.V.length A1.c1 := hF.2.1 hb1
     have e2 : zS 39 = .pointer (some ⟨Xa, 0, none⟩) := hF.2.2.1 hb2
     have e3 : zS 40 = .pointer (some ⟨Xa, 0, none⟩) := hF.2.2.2.1 hb3
     have e4 : zS 41 = .pointer (some ⟨Xa, 2, none⟩) := hF.2.2.2.2.1 hb4
     have e5 : zS 42 = .agg #[.int .i64 x.1, .int .i64 x.2.1, .bool x.2.2] := hF.2.2.2.2.2.1 hb5
     have e6 : zS 43 = .slice (some ⟨R, 0, none⟩) 1 1 := hF.2.2.2.2.2.2.1 hb6
     have e7 : zS 44 = .slice (some ⟨ga, 0, none⟩) (S1.V.length + 1) ca := hF.2.2.2.2.2.2.2.1 hb7
     have e8 : zS 45 = .pointer (some ⟨Bx, 1, none⟩) := hF.2.2.2.2.2.2.2.2 hb8
     rw [hb1] at hW
     rw [hb5] at hW
     rw [hb6] at hW
     rw [hb7] at hW
     rw [hb9] at hW
     clear hu hr hF
     simp only [pE]
     simp only [e0, e1, e2, e3, e4, e5, e6, e7, e8]
     clear e0 e1 e2 e3 e4 e5 e6 e7 e8
     clear hb0 hb1 hb2 hb3 hb4 hb5 hb6 hb7 hb8 hb9
     clear zB zS
     obtain ⟨hg9, hk9⟩ := HG1.out.stepV (x := x) hbs (hW.1.fin rfl)
     have hbs2 : base ≤ vb.heap.size := Nat.le_trans hbs hk9.size
     obtain ⟨S2, hS2⟩ : ∃ z, (⟨S1.B, S1.V ++ [x], S1.M⟩ : SG) = z := ⟨_, rfl⟩
     have HS2 := mkHid hS2.symm
     obtain ⟨A2, hA2⟩ : ∃ z, (⟨A1.a0, A1.c0, some ⟨ga, 0, none⟩, ca, A1.a2, A1.c2⟩ : SAd) = z := ⟨_, rfl⟩
     rw [hS2, hA2] at hg9
     have HG2 := mkHid hg9
     have HK2 := mkHid (HK1.out.trans hk9)
     have HX2 : Hid (∀ v, Below vb.heap.size vb v → v.cell? ⟨Xa, 5, none⟩ = some (.bool mm)) := mkHid fun v h => by have h2 := ((HLA0.out.below (Kp.below HBA.out HK2.out HBW.out HBX.out)).below h).m; rw [HM9.out] at h2; exact h2
     have HNM : Hid (S2.M.length ≤ 1048576) := mkHid (by have := HSL.out.2; rw [HS2.out, HS1.out]; exact this)
     have hbs := hbs2
     clear hW hg9 hk9 hbs2 HG1 HK1 hS2 hA2 HX1
     go_wp2_with fail
     refine wp_region_inv2 (fun zA0 L zA vc => ∃ (zB : Nat → Bool) (zS : Nat → Value) (R : Nat) (ga : Nat) (ca : Nat), L = #[zB 0, zB 1, zB 2, zB 3, zB 4, zB 5, zB 6, zB 7, zB 8, zB 9] ∧ zA = puts zA0 [(46, zS 46), (47, zS 47), (48, zS 48), (49, zS 49), (50, zS 50), (51, zS 51), (52, zS 52), (53, zS 53), (54, zS 54)] ∧ ((zB 0 = true → zS 46 = .pointer (some ⟨Bx, 2, none⟩)) ∧ (zB 1 = true → zS 47 = .slice A2.a2 S2.M.length A2.c2) ∧ (zB 2 = true → zS 48 = .pointer (some ⟨Xa, 0, none⟩)) ∧ (zB 3 = true → zS 49 = .pointer (some ⟨Xa, 0, none⟩)) ∧ (zB 4 = true → zS 50 = .pointer (some ⟨Xa, 5, none⟩)) ∧ (zB 5 = true → zS 51 = .bool mm) ∧ (zB 6 = true → zS 52 = .slice (some ⟨R, 0, none⟩) 1 1) ∧ (zB 7 = true → zS 53 = .slice (some ⟨ga, 0, none⟩) (S2.M.length + 1) ca) ∧ (zB 8 = true → zS 54 = .pointer (some ⟨Bx, 2, none⟩))) ∧ (Ap vb vc true (zB 6) (zB 7) (zB 9) (fun _ => True) R [.bool mm] (Value.ownBlock (.slice A2.a2 S2.M.length A2.c2)) (fun v => v.ownsRow base 4 1 (.slice (some ⟨ga, 0, none⟩) (S2.M.length + 1) ca) (S2.M.length + 1) (eB.flat S2.M ++ [.bool mm])) Bx 2 (.slice (some ⟨ga, 0, none⟩) (S2.M.length + 1) ca)) ∧ ((zB 6) = true → (zB 5) = true) ∧ ((zB 7) = true → (zB 1) = true ∧ (zB 6) = true) ∧ ((zB 9) = true → (zB 7) = true)) (by kernel_rfl) ?_ ?_ ?_
     ·exact ⟨fun _ => false, fun zd => if zd = 54 then u54 else if zd = 53 then u53 else if zd = 52 then u52 else if zd = 51 then u51 else if zd = 50 then u50 else if zd = 49 then u49 else if zd = 48 then u48 else if zd = 47 then u47 else if zd = 46 then u46 else undef, 0, 0, 0, rfl, by kernel_rfl, ⟨fun e => ft e, fun e => ft e, fun e => ft e, fun e => ft e, fun e => ft e, fun e => ft e, fun e => ft e, fun e => ft e, fun e => ft e⟩, ⟨Ap.start1 _ _ _ _ _ _ _ _, fun e => ft e, fun e => ft e, fun e => ft e⟩⟩
     ·refine StepsI.cons rfl ?_ ?_
      ·rintro L zA vc ⟨zB, zS, R, ga, ca, rfl, rfl, hF, hW⟩ hL hm K hK
       have hb0 : zB 0 = false := by simpa using hL
       clear hL hm
       simp only [pE]
       have HWz := mkHid hW
       clear hW
       go_simp
       have hW := HWz.out
       clear HWz
       exact hK.out _ _ ⟨fun zj => if zj = 0 then true else zB zj, fun zd => if zd = 46 then .pointer (some ⟨Bx, 2, none⟩) else zS zd, R, ga, ca, rfl, by kernel_rfl, ⟨fun _ => rfl, hF.2.1, hF.2.2.1, hF.2.2.2.1, hF.2.2.2.2.1, hF.2.2.2.2.2.1, hF.2.2.2.2.2.2.1, hF.2.2.2.2.2.2.2.1, hF.2.2.2.2.2.2.2.2⟩, hW⟩
      refine StepsI.cons rfl ?_ ?_
      ·rintro L zA vc ⟨zB, zS, R, ga, ca, rfl, rfl, hF, hW⟩ hL hm K hK
       have hb1 : zB 1 = false := by simpa using hL
       have hb0 : zB 0 = true := mt 0 hm (by kernel_rfl)
       have e0 : zS 46 = .pointer (some ⟨Bx, 2, none⟩) := hF.1 hb0
       clear hL hm
       rw [hb1] at hW
       simp only [pE]
       simp only [e0]
       have hf7 : zB 7 = false := by cases e : zB 7 with | false => rfl | true => exact ft ((hW.2.2.1 e).1)
       have hf9 : zB 9 = false := by cases e : zB 9 with | false => rfl | true => exact ft (hf7.symm.trans (hW.2.2.2 e))
       have hpre := hW.1.pre hf7
       obtain ⟨q0, q1, q2, _, _, _⟩ := (HG2.out.below hpre).g3
       have HWz := mkHid hW
       clear hW
       go_simp
       have hW := HWz.out
       clear HWz
       exact hK.out _ _ ⟨fun zj => if zj = 0 then true else if zj = 1 then true else zB zj, fun zd => if zd = 47 then .slice A2.a2 S2.M.length A2.c2 else if zd = 46 then .pointer (some ⟨Bx, 2, none⟩) else zS zd, R, ga, ca, by simp [hb0], by kernel_rfl, ⟨fun _ => rfl, fun _ => rfl, hF.2.2.1, hF.2.2.2.1, hF.2.2.2.2.1, hF.2.2.2.2.2.1, hF.2.2.2.2.2.2.1, hF.2.2.2.2.2.2.2.1, hF.2.2.2.2.2.2.2.2⟩, ⟨hW.1, hW.2.1, fun e => ft (hf7.symm.trans e), fun e => ft (hf9.symm.trans e)⟩⟩
      refine StepsI.cons rfl ?_ ?_
      ·rintro L zA vc ⟨zB, zS, R, ga, ca, rfl, rfl, hF, hW⟩ hL hm K hK
       have hb2 : zB 2 = false := by simpa using hL
       clear hL hm
       simp only [pE]
       have HWz := mkHid hW
       clear hW
       go_simp
       have hW := HWz.out
       clear HWz
       exact hK.out _ _ ⟨fun zj => if zj = 2 then true else zB zj, fun zd => if zd = 48 then .pointer (some ⟨Xa, 0, none⟩) else zS zd, R, ga, ca, rfl, by kernel_rfl, ⟨hF.1, hF.2.1, fun _ => rfl, hF.2.2.2.1, hF.2.2.2.2.1, hF.2.2.2.2.2.1, hF.2.2.2.2.2.2.1, hF.2.2.2.2.2.2.2.1, hF.2.2.2.2.2.2.2.2⟩, hW⟩
      refine StepsI.cons rfl ?_ ?_
      ·rintro L zA vc ⟨zB, zS, R, ga, ca, rfl, rfl, hF, hW⟩ hL hm K hK
       have hb3 : zB 3 = false := by simpa using hL
       have hb2 : zB 2 = true := mt 2 hm (by kernel_rfl)
       have e2 : zS 48 = .pointer (some ⟨Xa, 0, none⟩) := hF.2.2.1 hb2
       clear hL hm
       simp only [pE]
       simp only [e2]
       have HWz := mkHid hW
       clear hW
       go_simp
       have hW := HWz.out
       clear HWz
       exact hK.out _ _ ⟨fun zj => if zj = 2 then true else if zj = 3 then true else zB zj, fun zd => if zd = 49 then .pointer (some ⟨Xa, 0, none⟩) else if zd = 48 then .pointer (some ⟨Xa, 0, none⟩) else zS zd, R, ga, ca, by simp [hb2], by kernel_rfl, ⟨hF.1, hF.2.1, fun _ => rfl, fun _ => rfl, hF.2.2.2.2.1, hF.2.2.2.2.2.1, hF.2.2.2.2.2.2.1, hF.2.2.2.2.2.2.2.1, hF.2.2.2.2.2.2.2.2⟩, hW⟩
      refine StepsI.cons rfl ?_ ?_
      ·rintro L zA vc ⟨zB, zS, R, ga, ca, rfl, rfl, hF, hW⟩ hL hm K hK
       have hb4 : zB 4 = false := by simpa using hL
       have hb3 : zB 3 = true := mt 3 hm (by kernel_rfl)
       have e3 : zS 49 = .pointer (some ⟨Xa, 0, none⟩) := hF.2.2.2.1 hb3
       clear hL hm
       simp only [pE]
       simp only [e3]
       have HWz := mkHid hW
       clear hW
       go_simp
       have hW := HWz.out
       clear HWz
       exact hK.out _ _ ⟨fun zj => if zj = 3 then true else if zj = 4 then true else zB zj, fun zd => if zd = 50 then .pointer (some ⟨Xa, 5, none⟩) else if zd = 49 then .pointer (some ⟨Xa, 0, none⟩) else zS zd, R, ga, ca, by simp [hb3], by kernel_rfl, ⟨hF.1, hF.2.1, hF.2.2.1, fun _ => rfl, fun _ => rfl, hF.2.2.2.2.2.1, hF.2.2.2.2.2.2.1, hF.2.2.2.2.2.2.2.1, hF.2.2.2.2.2.2.2.2⟩, hW⟩
      refine StepsI.cons rfl ?_ ?_
      ·rintro L zA vc ⟨zB, zS, R, ga, ca, rfl, rfl, hF, hW⟩ hL hm K hK
       have hb5 : zB 5 = false := by simpa using hL
       have hb4 : zB 4 = true := mt 4 hm (by kernel_rfl)
       have e4 : zS 50 = .pointer (some ⟨Xa, 5, none⟩) := hF.2.2.2.2.1 hb4
       clear hL hm
       rw [hb5] at hW
       simp only [pE]
       simp only [e4]
       have hf6 : zB 6 = false := by cases e : zB 6 with | false => rfl | true => exact ft ((hW.2.1 e))
       have hf7 : zB 7 = false := by cases e : zB 7 with | false => rfl | true => exact ft (hf6.symm.trans (hW.2.2.1 e).2)
       have hf9 : zB 9 = false := by cases e : zB 9 with | false => rfl | true => exact ft (hf7.symm.trans (hW.2.2.2 e))
       have hpre := hW.1.pre hf7
       have c5 := HX2.out vc hpre
       have HWz := mkHid hW
       clear hW
       go_simp
       have hW := HWz.out
       clear HWz
       exact hK.out _ _ ⟨fun zj => if zj = 4 then true else if zj = 5 then true else zB zj, fun zd => if zd = 51 then .bool mm else if zd = 50 then .pointer (some ⟨Xa, 5, none⟩) else zS zd, R, ga, ca, by simp [hb4], by kernel_rfl, ⟨hF.1, hF.2.1, hF.2.2.1, hF.2.2.2.1, fun _ => rfl, fun _ => rfl, hF.2.2.2.2.2.2.1, hF.2.2.2.2.2.2.2.1, hF.2.2.2.2.2.2.2.2⟩, ⟨hW.1, fun e => ft (hf6.symm.trans e), fun e => ft (hf7.symm.trans e), fun e => ft (hf9.symm.trans e)⟩⟩
      refine StepsI.cons rfl ?_ ?_
      ·rintro L zA vc ⟨zB, zS, R, ga, ca, rfl, rfl, hF, hW⟩ hL hm K hK
       have hb6 : zB 6 = false := by simpa using hL
       have hb5 : zB 5 = true := mt 5 hm (by kernel_rfl)
       have e5 : zS 51 = .bool mm := hF.2.2.2.2.2.1 hb5
       clear hL hm
       rw [hb6] at hW
       rw [hb5] at hW
       simp only [pE]
       simp only [e5]
       have hf7 : zB 7 = false := by cases e : zB 7 with | false => rfl | true => exact ft ((hW.2.2.1 e).2)
       have hf9 : zB 9 = false := by cases e : zB 9 with | false => rfl | true => exact ft (hf7.symm.trans (hW.2.2.2 e))
       have hpre := hW.1.pre hf7
       have HWz := mkHid hW
       clear hW
       go_simp
       have hW := HWz.out
       clear HWz
       exact hK.out _ _ ⟨fun zj => if zj = 5 then true else if zj = 6 then true else zB zj, fun zd => if zd = 52 then .slice (some ⟨vc.heap.size, 0, none⟩) 1 1 else if zd = 51 then .bool mm else zS zd, vc.heap.size, ga, ca, by simp [hb5], by kernel_rfl, ⟨hF.1, hF.2.1, hF.2.2.1, hF.2.2.2.1, hF.2.2.2.2.1, fun _ => rfl, fun _ => rfl, hF.2.2.2.2.2.2.2.1, hF.2.2.2.2.2.2.2.2⟩, ⟨hW.1.lay hf7 hf9 (fun _ _ _ _ => True.intro) rfl, fun _ => rfl, fun e => ft (hf7.symm.trans e), fun e => ft (hf9.symm.trans e)⟩⟩
      refine StepsI.cons rfl ?_ ?_
      ·rintro L zA vc ⟨zB, zS, R, ga, ca, rfl, rfl, hF, hW⟩ hL hm K hK
       have hb7 : zB 7 = false := by simpa using hL
       have hb1 : zB 1 = true := mt 1 hm (by kernel_rfl)
       have hb6 : zB 6 = true := mt 6 hm (by kernel_rfl)
       have e1 : zS 47 = .slice A2.a2 S2.M.length A2.c2 := hF.2.1 hb1
       have e6 : zS 52 = .slice (some ⟨R, 0, none⟩) 1 1 := hF.2.2.2.2.2.2.1 hb6
       clear hL hm
       rw [hb7] at hW
       rw [hb1] at hW
       rw [hb6] at hW
       simp only [pE]
       simp only [e1, e6]
       have hf9 : zB 9 = false := by cases e : zB 9 with | false => rfl | true => exact ft ((hW.2.2.2 e))
       have hpre := hW.1.pre rfl
       rw [if_pos (by rfl)]
       refine wp_append_lies _ _ _ 24 rfl base 4 tm (.bool false) 1 1 Tryz.underlying24 HIM.out.1 HIM.out.2.1 HIM.out.2.2.1 HIM.out.2.2.2 rfl (by decide) (.slice A2.a2 S2.M.length A2.c2) S2.M.length (eB.flat S2.M) rfl ((HG2.out.below hpre).m) ⟨R, 0, none⟩ 1 1 [.bool mm] rfl rfl (hW.1.tmp rfl rfl) (fun u hu => by simp at hu; subst hu; rfl) (by decide) (by have := HNM.out; unfold maxLen; omega) (by have := HNM.out; omega) (Nat.le_trans hbs hpre.size) vc.heap.size rfl ?_
       intro ga9 ca9 vc2 hown hgrow hat9 hlt9
       exact hK.out _ _ ⟨fun zj => if zj = 6 then true else if zj = 1 then true else if zj = 7 then true else zB zj, fun zd => if zd = 53 then .slice (some ⟨ga9, 0, none⟩) (S2.M.length + 1) ca9 else if zd = 52 then .slice (some ⟨R, 0, none⟩) 1 1 else if zd = 47 then .slice A2.a2 S2.M.length A2.c2 else zS zd, R, ga9, ca9, by simp [hb1, hb6], by kernel_rfl, ⟨hF.1, fun _ => rfl, hF.2.2.1, hF.2.2.2.1, hF.2.2.2.2.1, hF.2.2.2.2.2.1, fun _ => rfl, fun _ => rfl, hF.2.2.2.2.2.2.2.2⟩, ⟨hW.1.app (rfl) hf9 hgrow hown, hW.2.1, fun _ => ⟨rfl, rfl⟩, fun e => ft (hf9.symm.trans e)⟩⟩
      refine StepsI.cons rfl ?_ ?_
      ·rintro L zA vc ⟨zB, zS, R, ga, ca, rfl, rfl, hF, hW⟩ hL hm K hK
       have hb8 : zB 8 = false := by simpa using hL
       clear hL hm
       simp only [pE]
       have HWz := mkHid hW
       clear hW
       go_simp
       have hW := HWz.out
       clear HWz
       exact hK.out _ _ ⟨fun zj => if zj = 8 then true else zB zj, fun zd => if zd = 54 then .pointer (some ⟨Bx, 2, none⟩) else zS zd, R, ga, ca, rfl, by kernel_rfl, ⟨hF.1, hF.2.1, hF.2.2.1, hF.2.2.2.1, hF.2.2.2.2.1, hF.2.2.2.2.2.1, hF.2.2.2.2.2.2.1, hF.2.2.2.2.2.2.2.1, fun _ => rfl⟩, hW⟩
      refine StepsI.cons rfl ?_ ?_
      ·rintro L zA vc ⟨zB, zS, R, ga, ca, rfl, rfl, hF, hW⟩ hL hm K hK
       have hb9 : zB 9 = false := by simpa using hL
       have hb7 : zB 7 = true := mt 7 hm (by kernel_rfl)
       have hb8 : zB 8 = true := mt 8 hm (by kernel_rfl)
       have e7 : zS 53 = .slice (some ⟨ga, 0, none⟩) (S2.M.length + 1) ca := hF.2.2.2.2.2.2.2.1 hb7
       have e8 : zS 54 = .pointer (some ⟨Bx, 2, none⟩) := hF.2.2.2.2.2.2.2.2 hb8
       clear hL hm
       rw [hb9] at hW
       rw [hb7] at hW
       simp only [pE]
       simp only [e7, e8]
       have hbx := (hW.1.aft rfl rfl).box HG2.out.box (fun v hv q e hq => by subst hq; obtain ⟨c7, h7⟩ := (HG2.out.below hv).m.block e; have h8 := (HG2.out.below hv).box; rw [h7] at h8; simp at h8)
       have q0 := heap_cell hbx 2
       have f0 := heap_free hbx 2
       simp only [sgC] at q0
       simp at q0
       have HWz := mkHid hW
       clear hW
       go_simp
       have hW := HWz.out
       clear HWz
       exact hK.out _ _ ⟨fun zj => if zj = 8 then true else if zj = 7 then true else if zj = 9 then true else zB zj, fun zd => if zd = 54 then .pointer (some ⟨Bx, 2, none⟩) else if zd = 53 then .slice (some ⟨ga, 0, none⟩) (S2.M.length + 1) ca else zS zd, R, ga, ca, by simp [hb7, hb8], by kernel_rfl, ⟨hF.1, hF.2.1, hF.2.2.1, hF.2.2.2.1, hF.2.2.2.2.1, hF.2.2.2.2.2.1, hF.2.2.2.2.2.2.1, fun _ => rfl, fun _ => rfl⟩, ⟨hW.1.store, hW.2.1, hW.2.2.1, fun _ => rfl⟩⟩
      exact StepsI.nil (by kernel_rfl)
     ·rintro L zA vc ⟨zB, zS, R, ga, ca, rfl, rfl, hF, hW⟩ hr
      have hu := all_up (by kernel_rfl) (N := 10) (by kernel_rfl) hr
      have hb0 : zB 0 = true := by simpa using hu 0 (by decide)
      have hb1 : zB 1 = true := by simpa using hu 1 (by decide)
      have hb2 : zB 2 = true := by simpa using hu 2 (by decide)
      have hb3 : zB 3 = true := by simpa using hu 3 (by decide)
      have hb4 : zB 4 = true := by simpa using hu 4 (by decide)
      have hb5 : zB 5 = true := by simpa using hu 5 (by decide)
      have hb6 : zB 6 = true := by simpa using hu 6 (by decide)
      have hb7 : zB 7 = true := by simpa using hu 7 (by decide)
      have hb8 : zB 8 = true := by simpa using hu 8 (by decide)
      have hb9 : zB 9 = true := by simpa using hu 9 (by decide)
      have e0 : zS 46 = .pointer (some ⟨Bx, 2, none⟩) := hF.1 hb0
      have e1 : zS 47 = .slice A2.a2 S2.M.length A2.c2 := hF.2.1 hb1
      have e2 : zS 48 = .pointer (some ⟨Xa, 0, none⟩) := hF.2.2.1 hb2
      have e3 : zS 49 = .pointer (some ⟨Xa, 0, none⟩) := hF.2.2.2.1 hb3
      have e4 : zS 50 = .pointer (some ⟨Xa, 5, none⟩) := hF.2.2.2.2.1 hb4
      have e5 : zS 51 = .bool mm := hF.2.2.2.2.2.1 hb5
      have e6 : zS 52 = .slice (some ⟨R, 0, none⟩) 1 1 := hF.2.2.2.2.2.2.1 hb6
      have e7 : zS 53 = .slice (some ⟨ga, 0, none⟩) (S2.M.length + 1) ca := hF.2.2.2.2.2.2.2.1 hb7
      have e8 : zS 54 = .pointer (some ⟨Bx, 2, none⟩) := hF.2.2.2.2.2.2.2.2 hb8
      rw [hb1] at hW
      rw [hb5] at hW
      rw [hb6] at hW
      rw [hb7] at hW
      rw [hb9] at hW
      clear hu hr hF
      simp only [pE]
      simp only [e0, e1, e2, e3, e4, e5, e6, e7, e8]
      clear e0 e1 e2 e3 e4 e5 e6 e7 e8
      clear hb0 hb1 hb2 hb3 hb4 hb5 hb6 hb7 hb8 hb9
      clear zB zS
      obtain ⟨hg9, hk9⟩ := HG2.out.stepM (x := mm) hbs (hW.1.fin rfl)
      have HG3 := mkHid hg9
      have HK3 := mkHid (HK2.out.trans hk9)
      have hbs3 : base ≤ vc.heap.size := Nat.le_trans hbs hk9.size
      have HL3 := mkHid (HLA0.out.below (Kp.below HBA.out HK3.out HBW.out HBX.out))
      clear hW hg9 hk9 hbs HG2 HK2
      have c6 := HL3.out.nx
      go_wp2
      go_roundg r.length
      case measure => exact hgr
      case rel => exact ⟨dn ++ [k], k9, r, Xn, _, rfl, Nat.le_refl _, by rw [HKS.out]; simp, HCN.out, (by have h := HG3.out; rw [HS2.out, HS1.out, ← HS.out, HL9.out, ← HX9.out, ← HM9.out] at h; simpa using h), HK3.out, hbs3⟩
end Go.Proofs.YtihpajiololfoaaGreat
