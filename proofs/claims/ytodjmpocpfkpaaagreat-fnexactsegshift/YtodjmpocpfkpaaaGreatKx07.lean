/-
  CONTRACTS of the law's eqSeg, markSeg, heldSeg.
  FOR THE LAWS OVER SEGS: what came in, opened.
  CONTRACTS of finding a term: l10Find, l10In, slices.Index, Contains, Equal.
-/
import Derived.Test.YtodjmpocpfkpaaaGreatKx04
import Derived.Test.YtodjmpocpfkpaaaGreatKx06
import Derived.Test.YtodjmpocpfkpaaaGreatKx05
import Derived.ProofKit
import Derived.OpenShut
import Derived.ChangeOld
import Derived.ChangeSlices
import Derived.Lib.SmallJoins
import Derived.Deep.Slices
import Derived.Deep.SlicePairs
namespace Go.Proofs.YtodjmpocpfkpaaaGreat
open Go.RowKit

structure Small (S : SG) : Prop where
 b : S.B.length ≤ 1048576
 t : tot S.B ≤ 1048576
 v : S.V.length ≤ 1048576
 m : S.M.length ≤ 1048576
theorem Small.row {S : SG} (h : Small S) (i : Nat) (l : List Y) (hl : S.B[i]? = some l) : l.length ≤ 1048576 := Nat.le_trans (tot_get hl) h.t
set_option maxRecDepth 100000 in
set_option maxHeartbeats 1600000 in
theorem eqSeg_same (S : SG) (A A' : SAd) (w : World) (hs : Small S) (hl : SegAt w A S) (hl' : SegAt w A' S) :
  Calls Tryz.prog 10 #[.agg #[.slice A.a0 S.B.length A.c0, .slice A.a1 S.V.length A.c1, .slice A.a2 S.M.length A.c2], .agg #[.slice A'.a0 S.B.length A'.c0, .slice A'.a1 S.V.length A'.c1, .slice A'.a2 S.M.length A'.c2]] w fun e w' => e = .returned (.bool true) ∧ Below w.heap.size w w' := by
 have HS := mkHid hs
 have HL := mkHid hl
 have HL' := mkHid hl'
 clear hs hl hl'
 obtain ⟨w0, hw0⟩ : ∃ x : World, (w.alloc (.cells #[.slice A.a0 S.B.length A.c0, .slice A.a1 S.V.length A.c1, .slice A.a2 S.M.length A.c2] 31)).alloc (.cells #[.slice A'.a0 S.B.length A'.c0, .slice A'.a1 S.V.length A'.c1, .slice A'.a2 S.M.length A'.c2] 31) = x := ⟨_, rfl⟩
 obtain ⟨X, hX⟩ : ∃ x, w.heap.size = x := ⟨_, rfl⟩
 have HB : Hid (Below X w w0) := mkHid (by rw [← hw0, ← hX]; exact bl_alloc (bl_alloc (Below.refl _ _) _) _)
 have P0 : Hid (G3 w0 X (.slice A.a0 S.B.length A.c0) (.slice A.a1 S.V.length A.c1) (.slice A.a2 S.M.length A.c2)) := mkHid (by rw [← hw0, ← hX]; constructor <;> simp [go_sem])
 have P1 : Hid (G3 w0 (X + 1) (.slice A'.a0 S.B.length A'.c0) (.slice A'.a1 S.V.length A'.c1) (.slice A'.a2 S.M.length A'.c2)) := mkHid (by rw [← hw0, ← hX]; constructor <;> simp [go_sem])
 have HX := mkHid hX
 have L0 : Hid (SegAt w0 A S) := mkHid (HL.out.below (by rw [hX]; exact HB.out))
 have L1 : Hid (SegAt w0 A' S) := mkHid (HL'.out.below (by rw [hX]; exact HB.out))
 obtain ⟨q0, q1, q2, _, _, _⟩ := P0.out
 obtain ⟨p0, p1, p2, _, _, _⟩ := P1.out
 clear HL HL'
 go_enter Tryz.func10, Tryz.ntmps10
 go_wp2_with fail
 clear hw0 hX q0 q1 q2 p0 p1 p2
 refine (eqSymSS_ok S.B A.a0 A'.a0 A.c0 A'.c0 _ (by have := HS.out.b; unfold maxLen; omega) (fun i l hl => by have := HS.out.row i l hl; unfold maxLen; omega) L0.out.b L1.out.b).mono ?_
 rintro e w1 ⟨rfl, hb⟩
 have R0 := mkHid (P0.out.below hb)
 have R1 := mkHid (P1.out.below hb)
 have M0 := mkHid (L0.out.below hb)
 have M1 := mkHid (L1.out.below hb)
 have HB1 : Hid (Below X w w1) := mkHid (HB.out.trans (hb.mono (by have := HX.out; have := HB.out.size; omega)))
 have HS1 : Hid (X ≤ w1.heap.size) := mkHid (by have := HX.out; have := HB1.out.size; omega)
 clear hb P0 P1 L0 L1 HB
 obtain ⟨q0, q1, q2, _, _, _⟩ := R0.out
 obtain ⟨p0, p1, p2, _, _, _⟩ := R1.out
 go_wp2_with fail
 clear q0 q1 q2 p0 p1 p2
 refine (eqValS_same S.V A.a1 A'.a1 A.c1 A'.c1 _ (by have := HS.out.v; unfold maxLen; omega) M0.out.v M1.out.v).mono ?_
 rintro e w2 ⟨rfl, hb⟩
 have P0 := mkHid (R0.out.below hb)
 have P1 := mkHid (R1.out.below hb)
 have L0 := mkHid (M0.out.below hb)
 have L1 := mkHid (M1.out.below hb)
 have HB2 : Hid (Below X w w2) := mkHid (HB1.out.trans (hb.mono HS1.out))
 have HS2 : Hid (X ≤ w2.heap.size) := mkHid (by have := HX.out; have := HB2.out.size; omega)
 clear hb R0 R1 M0 M1 HB1
 obtain ⟨q0, q1, q2, _, _, _⟩ := P0.out
 obtain ⟨p0, p1, p2, _, _, _⟩ := P1.out
 go_wp2_with fail
 clear q0 q1 q2 p0 p1 p2
 refine (eqBoolS_same S.M A.a2 A'.a2 A.c2 A'.c2 _ (by have := HS.out.m; unfold maxLen; omega) L0.out.m L1.out.m).mono ?_
 rintro e w3 ⟨rfl, hb⟩
 have HB3 : Hid (Below X w w3) := mkHid (HB2.out.trans (hb.mono HS2.out))
 clear hb
 go_wp2
 go_ret
 exact ⟨rfl, by rw [HX.out]; exact HB3.out⟩
def marksS (k0 : Int) (S : SG) : SG := ⟨marksYY k0 S.B, marksV (k0 + (tot S.B : Int) * 2) S.V.length, marksB (k0 + (tot S.B : Int) * 2 + (S.V.length : Int) * 3) S.M.length⟩
def cntS (S : SG) : Int := (tot S.B : Int) * 2 + (S.V.length : Int) * 3 + (S.M.length : Int)
theorem cntS_nonneg (S : SG) : 0 ≤ cntS S := by unfold cntS; omega
theorem Outs.alloc {lo hi : Nat} {a b : World} (h : Outs lo hi a b) (o : Obj) : Outs lo hi a (b.alloc o) := h.step ((Below.refl _ _).alloc (Nat.le_refl _) _)
set_option maxRecDepth 100000 in
set_option maxHeartbeats 1600000 in
theorem markSeg_ok (S : SG) (A : SAd) (lo hi : Nat) (k0 : Int) (w : World) (hs : Small S) (h0 : 0 ≤ k0) (h1 : k0 ≤ 10000000) (hhi : hi ≤ w.heap.size) (hl : OwnS w lo hi A S) :
  Calls Tryz.prog 11 #[.agg #[.slice A.a0 S.B.length A.c0, .slice A.a1 S.V.length A.c1, .slice A.a2 S.M.length A.c2], .int .i64 k0] w fun e w' => e = .returned (.int .i64 (k0 + cntS S)) ∧ OwnS w' lo hi A (marksS k0 S) ∧ Outs lo hi w w' := by
 have HS := mkHid hs
 have hs1 := hs.t
 have hs2 := hs.v
 have hs3 := hs.m
 have HL := mkHid hl
 clear hs hl
 obtain ⟨w0, hw0⟩ : ∃ x : World, w.alloc (.cells #[.slice A.a0 S.B.length A.c0, .slice A.a1 S.V.length A.c1, .slice A.a2 S.M.length A.c2] 31) = x := ⟨_, rfl⟩
 obtain ⟨X, hX⟩ : ∃ x, w.heap.size = x := ⟨_, rfl⟩
 rw [hX] at hhi
 have HB : Hid (Below w.heap.size w w0) := mkHid (by rw [← hw0]; exact bl_alloc (Below.refl _ _) _)
 have P0 : Hid (G3 w0 X (.slice A.a0 S.B.length A.c0) (.slice A.a1 S.V.length A.c1) (.slice A.a2 S.M.length A.c2)) := mkHid (by rw [← hw0, ← hX]; exact G3.new _ _ _ _ _)
 have L0 := mkHid (HL.out.below HB.out)
 have U0 : Hid (Outs lo hi w w0) := mkHid ((Outs.refl lo hi w).step HB.out)
 obtain ⟨q0, q1, q2, _, _, _⟩ := P0.out
 clear HL HB
 go_enter Tryz.func11, Tryz.ntmps11
 go_wp2_with fail
 clear hw0 hX q0 q1 q2
 refine (markSymSS_ok S.B A.a0 A.c0 lo hi k0 _ (by have := HS.out.b; omega) (fun i l hl => by have := HS.out.row i l hl; omega) (by omega) h0 (by omega) L0.out.b).mono ?_
 rintro e w1 ⟨rfl, hb, hu, hk⟩
 have B1 := mkHid hb
 have U1 := mkHid (U0.out.trans hu)
 have P1 := mkHid (P0.out.outs hu (.inr hhi))
 have V1 : Hid (Own eV 71 w1 lo (.slice A.a1 S.V.length A.c1) S.V) := mkHid (owns_keeps L0.out.v hk (by decide))
 have M1 : Hid (Own eB 4 w1 lo (.slice A.a2 S.M.length A.c2) S.M) := mkHid (owns_keeps L0.out.m hk (by decide))
 have VT := mkHid L0.out.vt
 have MT := mkHid L0.out.mt
 clear hb hu hk U0 P0 L0
 obtain ⟨k1, hk1⟩ : ∃ k, k0 + (tot S.B : Int) * 2 = k := ⟨_, rfl⟩
 have HK1 := mkHid hk1
 have hk1a : 0 ≤ k1 := by omega
 have hk1b : k1 ≤ 20000000 := by omega
 rw [hk1]
 clear hk1
 obtain ⟨q0, q1, q2, _, _, _⟩ := P1.out
 go_wp2_with fail
 clear q0 q1 q2
 refine (markValS_ok S.V A.a1 A.c1 lo k1 _ (by omega) hk1a (by omega) V1.out).mono ?_
 rintro e w2 ⟨rfl, hv, hg⟩
 have V2 := mkHid hv
 have hk : Keeps 71 w1 w2 := Keeps.grown hg fun q hq => by obtain ⟨cur, hc⟩ := V1.out.block hq; exact ⟨cur, _, hc⟩
 have U2 := mkHid (U1.out.grown hg fun q hq => ⟨(V1.out.lt hq).1, VT.out q hq⟩)
 have B2 := mkHid (B1.out.keeps hk (by decide) (by decide))
 have M2 : Hid (Own eB 4 w2 lo (.slice A.a2 S.M.length A.c2) S.M) := mkHid (owns_keeps M1.out hk (by decide))
 have P2 := mkHid (P1.out.outs ((Outs.refl lo hi w1).grown hg fun q hq => ⟨(V1.out.lt hq).1, VT.out q hq⟩) (.inr hhi))
 clear hv hg hk U1 B1 M1 P1 V1
 obtain ⟨k2, hk2⟩ : ∃ k, k1 + (S.V.length : Int) * 3 = k := ⟨_, rfl⟩
 have HK2 := mkHid hk2
 have hk2a : 0 ≤ k2 := by omega
 have hk2b : k2 ≤ 30000000 := by omega
 rw [hk2]
 clear hk2
 obtain ⟨q0, q1, q2, _, _, _⟩ := P2.out
 go_wp2_with fail
 clear q0 q1 q2
 refine (markBoolS_ok S.M A.a2 A.c2 lo k2 _ (by omega) hk2a (by omega) M2.out).mono ?_
 rintro e w3 ⟨rfl, hm, hg⟩
 have hk : Keeps 4 w2 w3 := Keeps.grown hg fun q hq => by obtain ⟨cur, hc⟩ := M2.out.block hq; exact ⟨cur, _, hc⟩
 have U3 := mkHid (U2.out.grown hg fun q hq => ⟨(M2.out.lt hq).1, MT.out q hq⟩)
 have OS : Hid (OwnS w3 lo hi A (marksS k0 S)) := mkHid (by
  have e1 : k0 + (tot S.B : Int) * 2 = k1 := HK1.out
  have e2 : k1 + (S.V.length : Int) * 3 = k2 := HK2.out
  unfold marksS
  rw [e1, e2]
  refine ⟨?_, ?_, ?_, ?_, ?_⟩
  ·show OwnT w3 lo hi (.slice A.a0 (marksYY k0 S.B).length A.c0) _
   rw [marksYY_len]
   exact B2.out.keeps hk (by decide) (by decide)
  ·show Own eV 71 w3 lo (.slice A.a1 (marksV k1 S.V.length).length A.c1) _
   rw [marksV_len]
   exact owns_keeps V2.out hk (by decide)
  ·show ∀ q, Value.ownBlock (.slice A.a1 (marksV k1 S.V.length).length A.c1) = some q → q < hi
   rw [marksV_len]
   exact VT.out
  ·show Own eB 4 w3 lo (.slice A.a2 (marksB k2 S.M.length).length A.c2) _
   rw [marksB_len]
   exact hm
  ·show ∀ q, Value.ownBlock (.slice A.a2 (marksB k2 S.M.length).length A.c2) = some q → q < hi
   rw [marksB_len]
   exact MT.out)
 clear hm hg hk U2 B2 M2 V2 P2
 go_wp2
 go_ret
 exact ⟨ret_int' (by rw [← HK2.out, ← HK1.out]; unfold cntS; omega), OS.out, U3.out⟩
set_option maxRecDepth 100000 in
set_option maxHeartbeats 1600000 in
theorem heldSeg_ok (S : SG) (A : SAd) (k0 : Int) (w : World) (hs : Small S) (h0 : 0 ≤ k0) (h1 : k0 ≤ 10000000) (hl : SegAt w A (marksS k0 S)) :
  Calls Tryz.prog 12 #[.agg #[.slice A.a0 S.B.length A.c0, .slice A.a1 S.V.length A.c1, .slice A.a2 S.M.length A.c2], .int .i64 k0] w fun e w' => e = .returned (.int .i64 (k0 + cntS S)) ∧ Below w.heap.size w w' := by
 have HS := mkHid hs
 have hs1 := hs.t
 have hs2 := hs.v
 have hs3 := hs.m
 have HL := mkHid hl
 clear hs hl
 obtain ⟨w0, hw0⟩ : ∃ x : World, w.alloc (.cells #[.slice A.a0 S.B.length A.c0, .slice A.a1 S.V.length A.c1, .slice A.a2 S.M.length A.c2] 31) = x := ⟨_, rfl⟩
 obtain ⟨X, hX⟩ : ∃ x, w.heap.size = x := ⟨_, rfl⟩
 have HB : Hid (Below w.heap.size w w0) := mkHid (by rw [← hw0]; exact bl_alloc (Below.refl _ _) _)
 have P0 : Hid (G3 w0 X (.slice A.a0 S.B.length A.c0) (.slice A.a1 S.V.length A.c1) (.slice A.a2 S.M.length A.c2)) := mkHid (by rw [← hw0, ← hX]; exact G3.new _ _ _ _ _)
 have L0 := mkHid (HL.out.below HB.out)
 obtain ⟨q0, q1, q2, _, _, _⟩ := P0.out
 clear HL
 go_enter Tryz.func12, Tryz.ntmps12
 go_wp2_with fail
 clear hw0 hX q0 q1 q2
 refine (heldSymSS_ok S.B A.a0 A.c0 k0 _ (by have := HS.out.b; omega) (fun i l hl => by have := HS.out.row i l hl; omega) (by omega) h0 (by omega) L0.out.b).mono ?_
 rintro e w1 ⟨rfl, hb⟩
 have HB1 := mkHid (below_step HB.out hb)
 have P1 := mkHid (P0.out.below hb)
 have L1 := mkHid (L0.out.below hb)
 clear hb HB P0 L0
 obtain ⟨k1, hk1⟩ : ∃ k, k0 + (tot S.B : Int) * 2 = k := ⟨_, rfl⟩
 have HK1 := mkHid hk1
 have hk1a : 0 ≤ k1 := by omega
 have hk1b : k1 ≤ 20000000 := by omega
 have hk1c : ¬ k1 < 0 := by omega
 have V1 : Hid (At eV w1 A.a1 (marksV k1 S.V.length)) := mkHid (by rw [← hk1]; exact L1.out.v)
 have M1 : Hid (At eB w1 A.a2 (marksB (k1 + (S.V.length : Int) * 3) S.M.length)) := mkHid (by rw [← hk1]; exact L1.out.m)
 rw [hk1]
 clear hk1 L1
 obtain ⟨q0, q1, q2, _, _, _⟩ := P1.out
 go_wp2_with fail
 clear q0 q1 q2
 refine (heldValS_ok S.V.length A.a1 A.c1 k1 _ (by omega) hk1a (by omega) V1.out).mono ?_
 rintro e w2 ⟨rfl, hb⟩
 have HB2 := mkHid (below_step HB1.out hb)
 have P2 := mkHid (P1.out.below hb)
 have M2 := mkHid (M1.out.below hb)
 clear hb HB1 P1 V1 M1
 obtain ⟨k2, hk2⟩ : ∃ k, k1 + (S.V.length : Int) * 3 = k := ⟨_, rfl⟩
 have HK2 := mkHid hk2
 have hk2a : 0 ≤ k2 := by omega
 have hk2b : k2 ≤ 30000000 := by omega
 have hk2c : ¬ k2 < 0 := by omega
 rw [hk2] at M2
 rw [hk2]
 clear hk2
 obtain ⟨q0, q1, q2, _, _, _⟩ := P2.out
 go_wp2_with fail
 clear q0 q1 q2
 refine (heldBoolS_ok S.M.length A.a2 A.c2 k2 _ (by omega) hk2a (by omega) M2.out).mono ?_
 rintro e w3 ⟨rfl, hb⟩
 have HB3 := mkHid (below_step HB2.out hb)
 clear hb HB2 P2 M2
 obtain ⟨k3, hk3⟩ : ∃ k, k2 + (S.M.length : Int) * 1 = k := ⟨_, rfl⟩
 have hk3c : ¬ k3 < 0 := by omega
 have HK3 : Hid (k3 = k0 + cntS S) := mkHid (by rw [← hk3, ← HK2.out, ← HK1.out]; unfold cntS; omega)
 rw [hk3]
 clear hk3
 go_wp2
 go_ret
 exact ⟨ret_int' HK3.out, HB3.out⟩
end Go.Proofs.YtodjmpocpfkpaaaGreat
namespace Go.Proofs.YtodjmpocpfkpaaaGreat
open Go.ChangeShapes Go.WideShapes Go.ChangeAt Go.RowKit Go.Joins Go.Deep

theorem Tryz.own : ownKnob Tryz.prog.godebug = none := by kernel_rfl
theorem Tryz.laidOut : laidOutB Tryz.prog = true := by kernel_rfl
theorem Tryz.cells75 : Tryz.prog.cellsOf 75 = 3 := by kernel_rfl
theorem Tryz.cells73 : Tryz.prog.cellsOf 73 = 2 := by kernel_rfl
theorem Tryz.cells3 : Tryz.prog.cellsOf 3 = 1 := by kernel_rfl
theorem Tryz.cells4 : Tryz.prog.cellsOf 4 = 1 := by kernel_rfl
theorem Tryz.cells94 : Tryz.prog.cellsOf 94 = 2 := by kernel_rfl
theorem Tryz.cells60 : Tryz.prog.cellsOf 60 = 1 := by kernel_rfl
theorem Tryz.cells22 : Tryz.prog.cellsOf 22 = 1 := by kernel_rfl
theorem Tryz.cells23 : Tryz.prog.cellsOf 23 = 1 := by kernel_rfl
theorem Tryz.cells24 : Tryz.prog.cellsOf 24 = 1 := by kernel_rfl
theorem Tryz.cells26 : Tryz.prog.cellsOf 26 = 3 := by kernel_rfl

variable {H : Type} {enc : TypeId × Value → H} {W : World}

set_option maxRecDepth 100000 in
theorem open_val3 {n : Nat} {cs : List Value} {x : DataW H × List MemPlace} (h : DataW.trod enc Tryz.prog W 0 (fun _ => true) true n 75 cs = some x) : ∃ y : VV, cs = eV.enc y := by
 obtain ⟨y0, y1, m, _, hlen, h0, h1⟩ := trod_struct2 Tryz.underlying75 h
 rw [Tryz.cells75] at hlen
 match cs, hlen with
 | [c0, c1, c2], _ =>
  simp [Tryz.cells73, Tryz.cells4] at h0 h1
  obtain ⟨z0, z1, m', _, _, g0, g1⟩ := trod_struct2 Tryz.underlying73 h0
  simp [Tryz.cells3] at g0 g1
  obtain ⟨a, e0, _, _⟩ := DataW.trod_int Tryz.underlying3 g0
  obtain ⟨b, e1, _, _⟩ := DataW.trod_int Tryz.underlying3 g1
  obtain ⟨s, e2, _⟩ := DataW.trod_bool Tryz.underlying4 h1
  simp at e0 e1 e2
  subst e0 e1 e2
  exact ⟨(a, b, s), rfl⟩
set_option maxRecDepth 100000 in
theorem open_sym2 {n : Nat} {cs : List Value} {x : DataW H × List MemPlace} (h : DataW.trod enc Tryz.prog W 0 (fun _ => true) true n 94 cs = some x) : ∃ y : Y, cs = eY.enc y := by
 obtain ⟨y0, y1, m, _, hlen, h0, h1⟩ := trod_struct2 Tryz.underlying94 h
 rw [Tryz.cells94] at hlen
 match cs, hlen with
 | [c0, c1], _ =>
  simp [Tryz.cells3] at h0 h1
  obtain ⟨a, e0, _, _⟩ := DataW.trod_int Tryz.underlying3 h0
  obtain ⟨b, e1, _, _⟩ := DataW.trod_int Tryz.underlying3 h1
  simp at e0 e1
  subst e0 e1
  exact ⟨(a, b), rfl⟩
theorem open_bool1 {n : Nat} {cs : List Value} {x : DataW H × List MemPlace} (h : DataW.trod enc Tryz.prog W 0 (fun _ => true) true n 4 cs = some x) (hl : cs.length = 1) : ∃ y : Bool, cs = eB.enc y := by
 obtain ⟨s, e, _⟩ := DataW.trod_bool Tryz.underlying4 h
 match cs, hl with
 | [c], _ => simp at e; subst e; exact ⟨s, rfl⟩
theorem list_of_fn {α : Type} (f : Nat → α) (n : Nat) : ∃ l : List α, l.length = n ∧ ∀ i x, l[i]? = some x → i < n ∧ x = f i := by
 refine ⟨(List.range n).map f, by simp, fun i x hx => ?_⟩
 obtain ⟨hi, e⟩ := List.getElem?_eq_some_iff.1 hx
 simp at hi e
 exact ⟨hi, e.symm⟩
/-- A slice that came in, out of what its elements are. -/
theorem open_row {α : Type} (E : El α) [Inhabited α] {T U : TypeId} (hT : Tryz.prog.underlying T = some (.slice U)) (hU : Tryz.prog.cellsOf U = E.k)
  (he : ∀ {n : Nat} {cs : List Value} {x : DataW H × List MemPlace}, DataW.trod enc Tryz.prog W 0 (fun _ => true) true n U cs = some x → cs.length = E.k → ∃ y : α, cs = E.enc y)
  {n : Nat} {a : Option Addr} {len cap : Nat} {x : DataW H × List MemPlace} (h : DataW.trod enc Tryz.prog W 0 (fun _ => true) true n T [.slice a len cap] = some x) :
  ∃ l : List α, len = l.length ∧ l.length ≤ maxLen ∧ At E W a l := by
 rcases open_slice hT h with ⟨hcs, _⟩ | ⟨ad, len', cap', m, n, D, Pl, hcs, _, hl, hm, hmm, _, hall⟩
 ·simp at hcs
  exact ⟨[], hcs.2.1, by simp, .inl rfl⟩
 ·simp at hcs
  obtain ⟨rfl, rfl, rfl⟩ := hcs
  by_cases h0 : len = 0
  ·exact ⟨[], h0, by simp, .inl rfl⟩
  simp only [if_true] at hmm
  rw [hU] at hall
  have each : ∀ i, i < len → ∃ y : α, ∀ (j : Nat) (v : Value), (E.enc y)[j]? = some v → W.cell? (ad.add (i * E.k + j)) = some v := by
   intro i hi
   obtain ⟨cs', h1, h2⟩ := hall i (by omega)
   obtain ⟨hq1, hq2, hc⟩ := World.cells?_some h1
   have hcl : cs'.length = E.k := by first | exact hq1 | exact hq2
   obtain ⟨y, rfl⟩ := he h2 hcl
   refine ⟨y, fun j v hv => ?_⟩
   have hj : j < E.k := by have := (List.getElem?_eq_some_iff.1 hv).1; rwa [E.len] at this
   have e0 := hc j (by first | exact hj | omega)
   rw [add_add] at e0
   rw [e0]
   first | exact hv | simpa using hv
  obtain ⟨f, hf'⟩ := choose_lt each
  obtain ⟨l, hwl, hws⟩ := list_of_fn f len
  obtain ⟨b, off, spot⟩ := ad
  have hsp : spot = none := by
   have hp := E.pos
   have hq := E.len (f 0)
   obtain ⟨v0, hj⟩ : ∃ v, (E.enc (f 0))[0]? = some v := ⟨_, List.getElem?_eq_getElem (by omega)⟩
   have := World.cell?_spot (hf' 0 (by omega) 0 v0 hj)
   simpa [Addr.add] using this
  subst hsp
  refine ⟨l, hwl.symm, by omega, .inr ⟨b, off, rfl, fun i x hx j v hv => ?_⟩⟩
  obtain ⟨hi, rfl⟩ := hws i x hx
  have e0 := hf' i hi j v hv
  rw [add_plain] at e0
  rw [Nat.add_assoc]
  exact e0
instance : Inhabited (List Y × Option Addr × Nat) := ⟨([], none, 0)⟩
theorem open_bnds {n : Nat} {a : Option Addr} {len cap : Nat} {x : DataW H × List MemPlace} (h : DataW.trod enc Tryz.prog W 0 (fun _ => true) true n 22 [.slice a len cap] = some x) :
  ∃ ls : List (List Y), len = ls.length ∧ ls.length ≤ maxLen ∧ (∀ (i : Nat) (l : List Y), ls[i]? = some l → l.length ≤ maxLen) ∧ BndsAt W a ls := by
 rcases open_slice Tryz.underlying22 h with ⟨hcs, _⟩ | ⟨ad, len', cap', m, n, D, Pl, hcs, _, hl, hm, hmm, _, hall⟩
 ·simp at hcs
  exact ⟨[], hcs.2.1, by simp, fun i l h => by simp at h, .inl rfl⟩
 ·simp at hcs
  obtain ⟨rfl, rfl, rfl⟩ := hcs
  by_cases h0 : len = 0
  ·exact ⟨[], h0, by simp, fun i l h => by simp at h, .inl rfl⟩
  simp only [if_true] at hmm
  rw [Tryz.cells60] at hall
  have each : ∀ i, i < len → ∃ y : List Y × Option Addr × Nat, W.cell? (ad.add i) = some (.slice y.2.1 y.1.length y.2.2) ∧ y.1.length ≤ maxLen ∧ At eY W y.2.1 y.1 := by
   intro i hi
   obtain ⟨cs', h1, h2⟩ := hall i (by omega)
   obtain ⟨_, hcl, hc⟩ := World.cells?_some h1
   obtain ⟨u, a1, l1, c1, rfl, rfl⟩ : ∃ (u : Value) (a1 : Option Addr) (l1 c1 : Nat), cs' = [u] ∧ u = .slice a1 l1 c1 := by
    rcases open_slice Tryz.underlying60 h2 with ⟨hcs, _⟩ | ⟨ad, len', cap', _, _, _, _, hcs, _⟩
    ·exact ⟨_, none, 0, 0, hcs, rfl⟩
    ·exact ⟨_, some ad, len', cap', hcs, rfl⟩
   obtain ⟨l, rfl, hml, hat⟩ := open_row eY Tryz.underlying60 Tryz.cells94 (fun h _ => open_sym2 h) h2
   refine ⟨(l, a1, c1), ?_, hml, hat⟩
   have e0 := hc 0 (by omega)
   rw [add_add] at e0
   simpa using e0
  obtain ⟨f, hf'⟩ := choose_lt each
  obtain ⟨ys, hwl, hws⟩ := list_of_fn f len
  obtain ⟨b, off, spot⟩ := ad
  have hsp : spot = none := by
   have := World.cell?_spot (hf' 0 (by omega)).1
   simpa [Addr.add] using this
  subst hsp
  refine ⟨ys.map (·.1), by simp [hwl], by simp; omega, fun i l hl => ?_, .inr ⟨b, off, rfl, fun i l hl => ?_⟩⟩
  ·rw [List.getElem?_map] at hl
   obtain ⟨y, hy, rfl⟩ := Option.map_eq_some_iff.1 hl
   obtain ⟨hi, rfl⟩ := hws i y hy
   exact (hf' i hi).2.1
  ·rw [List.getElem?_map] at hl
   obtain ⟨y, hy, rfl⟩ := Option.map_eq_some_iff.1 hl
   obtain ⟨hi, rfl⟩ := hws i y hy
   obtain ⟨e0, _, e1⟩ := hf' i hi
   rw [add_plain] at e0
   exact ⟨_, _, e0, e1⟩
structure Lim (S : SG) : Prop where
 b : S.B.length ≤ maxLen
 r : ∀ (i : Nat) (l : List Y), S.B[i]? = some l → l.length ≤ maxLen
 v : S.V.length ≤ maxLen
 m : S.M.length ≤ maxLen
theorem slice_cs {t e : TypeId} {fuel : Nat} {cs : List Value} {x : DataW H × List MemPlace} (ht : Tryz.prog.underlying t = some (.slice e)) (h : DataW.trod enc Tryz.prog W 0 (fun _ => true) true fuel t cs = some x) : ∃ (a : Option Addr) (l c : Nat), cs = [.slice a l c] := by
 rcases open_slice ht h with ⟨hcs, _⟩ | ⟨ad, len', cap', _, _, _, _, hcs, _⟩
 ·exact ⟨none, 0, 0, hcs⟩
 ·exact ⟨some ad, len', cap', hcs⟩
set_option maxRecDepth 100000 in
theorem open_seg {b0 : Nat} {v : Value} {d : DataW H} {p : List MemPlace} (hv : Value.okWide Tryz.prog W .any b0 26 v) (h : DataW.Trod enc Tryz.prog W 0 (fun _ => true) true 26 v d p) :
  ∃ (S : SG) (A : SAd), v = .agg #[.slice A.a0 S.B.length A.c0, .slice A.a1 S.V.length A.c1, .slice A.a2 S.M.length A.c2] ∧ Lim S ∧ SegAt W A S := by
 obtain ⟨cs, rfl, hsz⟩ := okWide_struct Tryz.underlying26 hv
 obtain ⟨c0, c1, c2, rfl⟩ := array3 (hsz.trans Tryz.cells26)
 obtain ⟨fuel, hf⟩ := h
 obtain ⟨y0, y1, y2, m, _, hlen, h0, h1, h2⟩ := trod_struct3 Tryz.underlying26 hf
 simp [Value.cells, Tryz.cells22, Tryz.cells23, Tryz.cells24] at h0 h1 h2
 obtain ⟨a0, l0, r0, e0⟩ := slice_cs Tryz.underlying22 h0
 obtain ⟨a1, l1, r1, e1⟩ := slice_cs Tryz.underlying23 h1
 obtain ⟨a2, l2, r2, e2⟩ := slice_cs Tryz.underlying24 h2
 simp at e0 e1 e2
 subst e0 e1 e2
 obtain ⟨B, rfl, hb, hr, hB⟩ := open_bnds h0
 obtain ⟨V, rfl, hv', hV⟩ := open_row eV Tryz.underlying23 Tryz.cells75 (fun h _ => open_val3 h) h1
 obtain ⟨M, rfl, hm, hM⟩ := open_row eB Tryz.underlying24 Tryz.cells4 (fun h hl => open_bool1 h hl) h2
 exact ⟨⟨B, V, M⟩, ⟨a0, r0, a1, r1, a2, r2⟩, rfl, ⟨hb, hr, hv', hm⟩, ⟨hB, hV, hM⟩⟩
end Go.Proofs.YtodjmpocpfkpaaaGreat
namespace Go.Proofs.YtodjmpocpfkpaaaGreat
open Go.RowKit

theorem eql_sym (w : World) (a b c d : Int) : (Go.binOp .eql 65 (.agg #[.int .i64 a, .int .i64 b]) (.agg #[.int .i64 c, .int .i64 d])).run Tryz.prog w = .ok (.bool (eqB a b c d)) w := by
 have u3 := Tryz.underlying3
 have a3 := Tryz.isAgg3
 have z3 := Tryz.sizeOf3
 have hS : Tryz.prog.underlying 65 = some (.struct (Tryz.prog.fieldsOf 65)) := by kernel_rfl
 have hp : Tryz.prog.stoodInHeld 65 = false := by kernel_rfl
 rw [run_eql_struct, show (10000 : Nat) = 9999 + 1 from rfl, run_equalIn_agg w 9999 65 _ _ hS hp]
 simp only [Program.fieldsOf, Tryz.underlying65]
 go_simp
 unfold eqB
 by_cases h1 : a = c <;> by_cases h2 : b = d <;> simp [h1, h2]
theorem eqB_y (x y : Y) : eqB x.1 x.2 y.1 y.2 = decide (x = y) := by
 unfold eqB
 obtain ⟨a, b⟩ := x
 obtain ⟨c, d⟩ := y
 rw [decide_eq_decide]
 simp
theorem mem_take_succ {l : List Y} {k : Nat} {x t : Y} (hx : l[k]? = some x) (h : t ∉ l.take k) (hn : x ≠ t) : t ∉ l.take (k + 1) := by
 rw [List.take_add_one, hx]
 simp [h]
 exact fun e => hn e.symm
set_option maxRecDepth 100000 in
set_option maxHeartbeats 1600000 in
theorem l10Find_any (l : List Y) (a : Option Addr) (c : Nat) (t : Y) (w : World) (hn : l.length ≤ maxLen) (hl : At eY w a l) :
  Calls Tryz.prog 82 #[.slice a l.length c, .agg #[.int .i64 t.1, .int .i64 t.2]] w fun e w' => Below w.heap.size w w' ∧ ∃ r : Int, e = .returned (.int .i64 r) ∧ (0 ≤ r ↔ t ∈ l) := by
 unfold maxLen at hn
 have hEq := eql_sym
 obtain ⟨w0, hw0⟩ : ∃ x : World, w.alloc (.cells #[.int .i64 t.1, .int .i64 t.2] 65) = x := ⟨_, rfl⟩
 obtain ⟨X, hX⟩ : ∃ x, w.heap.size = x := ⟨_, rfl⟩
 have HX := mkHid hX
 have HB : Hid (Below w.heap.size w w0) := mkHid (by rw [← hw0]; exact bl_alloc (Below.refl _ _) _)
 have P0 : Hid (Box w0 X t.1 t.2) := mkHid (by rw [← hw0, ← hX]; exact Box.new' _ _ _ _)
 have HL := mkHid (hl.below HB.out)
 clear hl
 go_enter Tryz.func82, Tryz.ntmps82
 go_wp2
 clear hw0 hX
 go_loopg [5] l.length (fun g s5 wr => ∃ (k : Nat), k ≤ l.length ∧ s5 = .int .i64 k ∧ l.length - k ≤ g ∧ t ∉ l.take k ∧ Below w0.heap.size w0 wr)
 case atStart => exact ⟨0, Nat.zero_le _, rfl, by omega, by simp, Below.refl _ _⟩
 case round =>
  obtain ⟨k, hk, rfl, hgk, hnot, hbel⟩ := hrel
  have HN := mkHid hnot
  have HB1 := mkHid hbel
  clear hnot
  by_cases hlt : k < l.length
  ·obtain ⟨x, hx⟩ : ∃ x, l[k]? = some x := ⟨_, List.getElem?_eq_getElem hlt⟩
   obtain ⟨b, off, rfl, _, hq⟩ := (HL.out.below hbel).cons (by omega)
   obtain ⟨c0, c1⟩ := get_y hq hx
   obtain ⟨q0, q1, _, _⟩ := P0.out.below hbel
   have HX := mkHid hx
   clear hq hbel hx
   have i0 : (0 : Int) ≤ (k : Int) := by omega
   have i1 : (k : Int) < (l.length : Int) := by omega
   by_cases he : x = t
   ·have he2 : eqB x.1 x.2 t.1 t.2 = true := by rw [eqB_y]; exact decide_eq_true he
    have HE := mkHid he
    clear he
    go_wp2
    go_quiet (fail)
    go_wp2
    go_ret
    refine ⟨below_step HB.out ⟨HB1.out.os, HB1.out.tape, HB1.out.output, HB1.out.size, HB1.out.block⟩, k, rfl, ⟨fun _ => ?_, fun _ => by omega⟩⟩
    rw [← HE.out]
    exact List.mem_of_getElem? HX.out
   ·have he2 : eqB x.1 x.2 t.1 t.2 = false := by rw [eqB_y]; exact decide_eq_false he
    have HE := mkHid (mem_take_succ HX.out HN.out he)
    clear he
    go_wp2
    go_quiet (fail)
    go_wp2
    go_roundg (l.length - (k + 1))
    case measure => omega
    case rel => exact ⟨k + 1, by omega, by go_num, Nat.le_refl _, HE.out, ⟨HB1.out.os, HB1.out.tape, HB1.out.output, HB1.out.size, HB1.out.block⟩⟩
  ·have e : k = l.length := by omega
   subst e
   have hnot := HN.out
   rw [List.take_length] at hnot
   have HN := mkHid hnot
   clear hnot hbel
   go_wp2
   go_ret
   exact ⟨below_step HB.out HB1.out, -1, rfl, ⟨fun h => absurd h (by omega), fun h => absurd h HN.out⟩⟩
set_option maxRecDepth 100000 in
set_option maxHeartbeats 1600000 in
theorem index_any (l : List Y) (a : Option Addr) (c : Nat) (t : Y) (w : World) (hn : l.length ≤ maxLen) (hl : At eY w a l) :
  Calls Tryz.prog 85 #[.slice a l.length c, .agg #[.int .i64 t.1, .int .i64 t.2]] w fun e w' => Below w.heap.size w w' ∧ ∃ r : Int, e = .returned (.int .i64 r) ∧ (0 ≤ r ↔ t ∈ l) := by
 unfold maxLen at hn
 have hEq := eql_sym
 obtain ⟨w0, hw0⟩ : ∃ x : World, w.alloc (.cells #[.int .i64 t.1, .int .i64 t.2] 65) = x := ⟨_, rfl⟩
 obtain ⟨X, hX⟩ : ∃ x, w.heap.size = x := ⟨_, rfl⟩
 have HX := mkHid hX
 have HB : Hid (Below w.heap.size w w0) := mkHid (by rw [← hw0]; exact bl_alloc (Below.refl _ _) _)
 have P0 : Hid (Box w0 X t.1 t.2) := mkHid (by rw [← hw0, ← hX]; exact Box.new' _ _ _ _)
 have HL := mkHid (hl.below HB.out)
 clear hl
 go_enter Tryz.func85, Tryz.ntmps85
 go_wp2
 clear hw0 hX
 go_loopg [8, 5] l.length (fun g s8 s5 wr => ∃ (k : Nat), k ≤ l.length ∧ s8 = .int .i64 k ∧ l.length - k ≤ g ∧ t ∉ l.take k ∧ Below w0.heap.size w0 wr)
 case atStart => exact ⟨0, Nat.zero_le _, rfl, by omega, by simp, Below.refl _ _⟩
 case round =>
  obtain ⟨k, hk, rfl, hgk, hnot, hbel⟩ := hrel
  have HN := mkHid hnot
  have HB1 := mkHid hbel
  clear hnot
  by_cases hlt : k < l.length
  ·obtain ⟨x, hx⟩ : ∃ x, l[k]? = some x := ⟨_, List.getElem?_eq_getElem hlt⟩
   obtain ⟨b, off, rfl, _, hq⟩ := (HL.out.below hbel).cons (by omega)
   obtain ⟨c0, c1⟩ := get_y hq hx
   obtain ⟨q0, q1, _, _⟩ := P0.out.below hbel
   have HX := mkHid hx
   clear hq hbel hx
   have i0 : (0 : Int) ≤ (k : Int) := by omega
   have i1 : (k : Int) < (l.length : Int) := by omega
   by_cases he : x = t
   ·have he2 : eqB t.1 t.2 x.1 x.2 = true := by rw [eqB_y]; exact decide_eq_true he.symm
    have HE := mkHid he
    clear he
    go_wp2
    go_quiet (fail)
    go_wp2
    go_ret
    refine ⟨below_step HB.out ⟨HB1.out.os, HB1.out.tape, HB1.out.output, HB1.out.size, HB1.out.block⟩, k, rfl, ⟨fun _ => ?_, fun _ => by omega⟩⟩
    rw [← HE.out]
    exact List.mem_of_getElem? HX.out
   ·have he2 : eqB t.1 t.2 x.1 x.2 = false := by rw [eqB_y]; exact decide_eq_false (fun e => he e.symm)
    have HE := mkHid (mem_take_succ HX.out HN.out he)
    clear he
    go_wp2
    go_quiet (fail)
    go_wp2
    go_roundg (l.length - (k + 1))
    case measure => omega
    case rel => exact ⟨k + 1, by omega, by go_num, Nat.le_refl _, HE.out, ⟨HB1.out.os, HB1.out.tape, HB1.out.output, HB1.out.size, HB1.out.block⟩⟩
  ·have e : k = l.length := by omega
   subst e
   have hnot := HN.out
   rw [List.take_length] at hnot
   have HN := mkHid hnot
   clear hnot hbel
   go_wp2
   go_ret
   exact ⟨below_step HB.out HB1.out, -1, rfl, ⟨fun h => absurd h (by omega), fun h => absurd h HN.out⟩⟩
set_option maxRecDepth 100000 in
set_option maxHeartbeats 1600000 in
theorem contains_any (l : List Y) (a : Option Addr) (c : Nat) (t : Y) (w : World) (hn : l.length ≤ maxLen) (hl : At eY w a l) :
  Calls Tryz.prog 68 #[.slice a l.length c, .agg #[.int .i64 t.1, .int .i64 t.2]] w fun e w' => e = .returned (.bool (decide (t ∈ l))) ∧ Below w.heap.size w w' := by
 obtain ⟨d, hd⟩ : ∃ d, decide (t ∈ l) = d := ⟨_, rfl⟩
 have HD := mkHid hd
 rw [hd]
 clear hd
 obtain ⟨w0, hw0⟩ : ∃ x : World, w.alloc (.cells #[.int .i64 t.1, .int .i64 t.2] 65) = x := ⟨_, rfl⟩
 obtain ⟨X, hX⟩ : ∃ x, w.heap.size = x := ⟨_, rfl⟩
 have HB : Hid (Below w.heap.size w w0) := mkHid (by rw [← hw0]; exact bl_alloc (Below.refl _ _) _)
 have P0 : Hid (Box w0 X t.1 t.2) := mkHid (by rw [← hw0, ← hX]; exact Box.new' _ _ _ _)
 obtain ⟨q0, q1, _, _⟩ := P0.out
 go_enter Tryz.func68, Tryz.ntmps68
 go_wp2_with fail
 clear hw0 hX q0 q1
 refine (index_any l a c t _ hn (hl.below HB.out)).mono ?_
 rintro e w1 ⟨hb, r, rfl, hr⟩
 have HB1 := mkHid (below_step HB.out hb)
 have HR : Hid (decide (0 ≤ r) = d) := mkHid (by rw [← HD.out]; exact decide_eq_decide.2 hr)
 clear hb hr
 go_wp2
 go_ret
 exact ⟨ret_bool HR.out, HB1.out⟩
theorem neq_sym (w : World) (a b c d : Int) : (Go.binOp .neq 65 (.agg #[.int .i64 a, .int .i64 b]) (.agg #[.int .i64 c, .int .i64 d])).run Tryz.prog w = .ok (.bool (!eqB a b c d)) w := by
 have u3 := Tryz.underlying3
 have a3 := Tryz.isAgg3
 have z3 := Tryz.sizeOf3
 have hS : Tryz.prog.underlying 65 = some (.struct (Tryz.prog.fieldsOf 65)) := by kernel_rfl
 have hp : Tryz.prog.stoodInHeld 65 = false := by kernel_rfl
 rw [run_neq_struct, show (10000 : Nat) = 9999 + 1 from rfl, run_equalIn_agg w 9999 65 _ _ hS hp]
 simp only [Program.fieldsOf, Tryz.underlying65]
 go_simp
 unfold eqB
 by_cases h1 : a = c <;> by_cases h2 : b = d <;> simp [h1, h2]
end Go.Proofs.YtodjmpocpfkpaaaGreat
