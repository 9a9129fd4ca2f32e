/-
  CONTRACTS of the law's eqSeg, markSeg, heldSeg.
-/
import Derived.Test.YtbfmljogfljhdaaGreatSb
import Derived.Test.YtbfmljogfljhdaaGreatLty
import Derived.Test.YtbfmljogfljhdaaGreatLmv
import Derived.Test.YtbfmljogfljhdaaGreatLmb
import Derived.Test.YtbfmljogfljhdaaGreatLhv
import Derived.Test.YtbfmljogfljhdaaGreatLhb
import Derived.Test.YtbfmljogfljhdaaGreatRre
namespace Go.Proofs.YtbfmljogfljhdaaGreat
open Go.RowKit

structure Small (S : SG) : Prop where
  b : S.B.length ≤ 1048576
  t : tot S.B ≤ 1048576
  v : S.V.length ≤ 1048576
  m : S.M.length ≤ 1048576
theorem Small.row {S : SG} (h : Small S) (i : Nat) (l : List Y) (hl : S.B[i]? = some l) : l.length ≤ 1048576 := Nat.le_trans (tot_get hl) h.t
set_option maxRecDepth 100000 in
set_option maxHeartbeats 1600000 in
theorem eqSeg_same (S : SG) (A A' : SAd) (w : World) (hs : Small S) (hl : SegAt w A S) (hl' : SegAt w A' S) :
    Calls Tryz.prog 22 #[.agg #[.slice A.a0 S.B.length A.c0, .slice A.a1 S.V.length A.c1, .slice A.a2 S.M.length A.c2], .agg #[.slice A'.a0 S.B.length A'.c0, .slice A'.a1 S.V.length A'.c1, .slice A'.a2 S.M.length A'.c2]] w fun e w' => e = .returned (.bool true) ∧ Below w.heap.size w w' := by
  have HS := mkHid hs
  have HL := mkHid hl
  have HL' := mkHid hl'
  clear hs hl hl'
  obtain ⟨w0, hw0⟩ : ∃ x : World, (w.alloc (.cells #[.slice A.a0 S.B.length A.c0, .slice A.a1 S.V.length A.c1, .slice A.a2 S.M.length A.c2] 28)).alloc (.cells #[.slice A'.a0 S.B.length A'.c0, .slice A'.a1 S.V.length A'.c1, .slice A'.a2 S.M.length A'.c2] 28) = x := ⟨_, rfl⟩
  obtain ⟨X, hX⟩ : ∃ x, w.heap.size = x := ⟨_, rfl⟩
  have HB : Hid (Below X w w0) := mkHid (by rw [← hw0, ← hX]; exact bl_alloc (bl_alloc (Below.refl _ _) _) _)
  have P0 : Hid (G3 w0 X (.slice A.a0 S.B.length A.c0) (.slice A.a1 S.V.length A.c1) (.slice A.a2 S.M.length A.c2)) := mkHid (by rw [← hw0, ← hX]; constructor <;> simp [go_sem])
  have P1 : Hid (G3 w0 (X + 1) (.slice A'.a0 S.B.length A'.c0) (.slice A'.a1 S.V.length A'.c1) (.slice A'.a2 S.M.length A'.c2)) := mkHid (by rw [← hw0, ← hX]; constructor <;> simp [go_sem])
  have HX := mkHid hX
  have L0 : Hid (SegAt w0 A S) := mkHid (HL.out.below (by rw [hX]; exact HB.out))
  have L1 : Hid (SegAt w0 A' S) := mkHid (HL'.out.below (by rw [hX]; exact HB.out))
  obtain ⟨q0, q1, q2, _, _, _⟩ := P0.out
  obtain ⟨p0, p1, p2, _, _, _⟩ := P1.out
  clear HL HL'
  go_enter Tryz.func22, Tryz.ntmps22
  go_wp2_with fail
  clear hw0 hX q0 q1 q2 p0 p1 p2
  refine (eqSymSS_ok S.B A.a0 A'.a0 A.c0 A'.c0 _ (by have := HS.out.b; unfold maxLen; omega) (fun i l hl => by have := HS.out.row i l hl; unfold maxLen; omega) L0.out.b L1.out.b).mono ?_
  rintro e w1 ⟨rfl, hb⟩
  have R0 := mkHid (P0.out.below hb)
  have R1 := mkHid (P1.out.below hb)
  have M0 := mkHid (L0.out.below hb)
  have M1 := mkHid (L1.out.below hb)
  have HB1 : Hid (Below X w w1) := mkHid (HB.out.trans (hb.mono (by have := HX.out; have := HB.out.size; omega)))
  have HS1 : Hid (X ≤ w1.heap.size) := mkHid (by have := HX.out; have := HB1.out.size; omega)
  clear hb P0 P1 L0 L1 HB
  obtain ⟨q0, q1, q2, _, _, _⟩ := R0.out
  obtain ⟨p0, p1, p2, _, _, _⟩ := R1.out
  go_wp2_with fail
  clear q0 q1 q2 p0 p1 p2
  refine (eqValS_same S.V A.a1 A'.a1 A.c1 A'.c1 _ (by have := HS.out.v; unfold maxLen; omega) M0.out.v M1.out.v).mono ?_
  rintro e w2 ⟨rfl, hb⟩
  have P0 := mkHid (R0.out.below hb)
  have P1 := mkHid (R1.out.below hb)
  have L0 := mkHid (M0.out.below hb)
  have L1 := mkHid (M1.out.below hb)
  have HB2 : Hid (Below X w w2) := mkHid (HB1.out.trans (hb.mono HS1.out))
  have HS2 : Hid (X ≤ w2.heap.size) := mkHid (by have := HX.out; have := HB2.out.size; omega)
  clear hb R0 R1 M0 M1 HB1
  obtain ⟨q0, q1, q2, _, _, _⟩ := P0.out
  obtain ⟨p0, p1, p2, _, _, _⟩ := P1.out
  go_wp2_with fail
  clear q0 q1 q2 p0 p1 p2
  refine (eqBoolS_same S.M A.a2 A'.a2 A.c2 A'.c2 _ (by have := HS.out.m; unfold maxLen; omega) L0.out.m L1.out.m).mono ?_
  rintro e w3 ⟨rfl, hb⟩
  have HB3 : Hid (Below X w w3) := mkHid (HB2.out.trans (hb.mono HS2.out))
  clear hb
  go_wp2
  go_ret
  exact ⟨rfl, by rw [HX.out]; exact HB3.out⟩
def marksS (k0 : Int) (S : SG) : SG := ⟨marksYY k0 S.B, marksV (k0 + (tot S.B : Int) * 2) S.V.length, marksB (k0 + (tot S.B : Int) * 2 + (S.V.length : Int) * 3) S.M.length⟩
def cntS (S : SG) : Int := (tot S.B : Int) * 2 + (S.V.length : Int) * 3 + (S.M.length : Int)
theorem cntS_nonneg (S : SG) : 0 ≤ cntS S := by unfold cntS; omega
theorem Small.cnt {S : SG} (h : Small S) : cntS S ≤ 6291456 := by have := h.t; have := h.v; have := h.m; unfold cntS; omega
theorem Outs.alloc {lo hi : Nat} {a b : World} (h : Outs lo hi a b) (o : Obj) : Outs lo hi a (b.alloc o) := h.step ((Below.refl _ _).alloc (Nat.le_refl _) _)
set_option maxRecDepth 100000 in
set_option maxHeartbeats 1600000 in
theorem markSeg_ok (S : SG) (A : SAd) (lo hi : Nat) (k0 : Int) (w : World) (hs : Small S) (h0 : 0 ≤ k0) (h1 : k0 ≤ 10000000) (hhi : hi ≤ w.heap.size) (hl : OwnS w lo hi A S) :
    Calls Tryz.prog 28 #[.agg #[.slice A.a0 S.B.length A.c0, .slice A.a1 S.V.length A.c1, .slice A.a2 S.M.length A.c2], .int .i64 k0] w fun e w' => e = .returned (.int .i64 (k0 + cntS S)) ∧ OwnS w' lo hi A (marksS k0 S) ∧ Outs lo hi w w' := by
  have HS := mkHid hs
  have hs1 := hs.t
  have hs2 := hs.v
  have hs3 := hs.m
  have HL := mkHid hl
  clear hs hl
  obtain ⟨w0, hw0⟩ : ∃ x : World, w.alloc (.cells #[.slice A.a0 S.B.length A.c0, .slice A.a1 S.V.length A.c1, .slice A.a2 S.M.length A.c2] 28) = x := ⟨_, rfl⟩
  obtain ⟨X, hX⟩ : ∃ x, w.heap.size = x := ⟨_, rfl⟩
  rw [hX] at hhi
  have HB : Hid (Below w.heap.size w w0) := mkHid (by rw [← hw0]; exact bl_alloc (Below.refl _ _) _)
  have P0 : Hid (G3 w0 X (.slice A.a0 S.B.length A.c0) (.slice A.a1 S.V.length A.c1) (.slice A.a2 S.M.length A.c2)) := mkHid (by rw [← hw0, ← hX]; exact G3.new _ _ _ _ _)
  have L0 := mkHid (HL.out.below HB.out)
  have U0 : Hid (Outs lo hi w w0) := mkHid ((Outs.refl lo hi w).step HB.out)
  obtain ⟨q0, q1, q2, _, _, _⟩ := P0.out
  clear HL HB
  go_enter Tryz.func28, Tryz.ntmps28
  go_wp2_with fail
  clear hw0 hX q0 q1 q2
  refine (markSymSS_ok S.B A.a0 A.c0 lo hi k0 _ (by have := HS.out.b; omega) (fun i l hl => by have := HS.out.row i l hl; omega) (by omega) h0 (by omega) L0.out.b).mono ?_
  rintro e w1 ⟨rfl, hb, hu, hk⟩
  have B1 := mkHid hb
  have U1 := mkHid (U0.out.trans hu)
  have P1 := mkHid (P0.out.outs hu (.inr hhi))
  have V1 : Hid (Own eV 82 w1 lo (.slice A.a1 S.V.length A.c1) S.V) := mkHid (owns_keeps L0.out.v hk (by decide))
  have M1 : Hid (Own eB 4 w1 lo (.slice A.a2 S.M.length A.c2) S.M) := mkHid (owns_keeps L0.out.m hk (by decide))
  have VT := mkHid L0.out.vt
  have MT := mkHid L0.out.mt
  clear hb hu hk U0 P0 L0
  obtain ⟨k1, hk1⟩ : ∃ k, k0 + (tot S.B : Int) * 2 = k := ⟨_, rfl⟩
  have HK1 := mkHid hk1
  have hk1a : 0 ≤ k1 := by omega
  have hk1b : k1 ≤ 20000000 := by omega
  rw [hk1]
  clear hk1
  obtain ⟨q0, q1, q2, _, _, _⟩ := P1.out
  go_wp2_with fail
  clear q0 q1 q2
  refine (markValS_ok S.V A.a1 A.c1 lo k1 _ (by omega) hk1a (by omega) V1.out).mono ?_
  rintro e w2 ⟨rfl, hv, hg⟩
  have V2 := mkHid hv
  have hk : Keeps 82 w1 w2 := Keeps.grown hg fun q hq => by obtain ⟨cur, hc⟩ := V1.out.block hq; exact ⟨cur, _, hc⟩
  have U2 := mkHid (U1.out.grown hg fun q hq => ⟨(V1.out.lt hq).1, VT.out q hq⟩)
  have B2 := mkHid (B1.out.keeps hk (by decide) (by decide))
  have M2 : Hid (Own eB 4 w2 lo (.slice A.a2 S.M.length A.c2) S.M) := mkHid (owns_keeps M1.out hk (by decide))
  have P2 := mkHid (P1.out.outs ((Outs.refl lo hi w1).grown hg fun q hq => ⟨(V1.out.lt hq).1, VT.out q hq⟩) (.inr hhi))
  clear hv hg hk U1 B1 M1 P1 V1
  obtain ⟨k2, hk2⟩ : ∃ k, k1 + (S.V.length : Int) * 3 = k := ⟨_, rfl⟩
  have HK2 := mkHid hk2
  have hk2a : 0 ≤ k2 := by omega
  have hk2b : k2 ≤ 30000000 := by omega
  rw [hk2]
  clear hk2
  obtain ⟨q0, q1, q2, _, _, _⟩ := P2.out
  go_wp2_with fail
  clear q0 q1 q2
  refine (markBoolS_ok S.M A.a2 A.c2 lo k2 _ (by omega) hk2a (by omega) M2.out).mono ?_
  rintro e w3 ⟨rfl, hm, hg⟩
  have hk : Keeps 4 w2 w3 := Keeps.grown hg fun q hq => by obtain ⟨cur, hc⟩ := M2.out.block hq; exact ⟨cur, _, hc⟩
  have U3 := mkHid (U2.out.grown hg fun q hq => ⟨(M2.out.lt hq).1, MT.out q hq⟩)
  have OS : Hid (OwnS w3 lo hi A (marksS k0 S)) := mkHid (by
    have e1 : k0 + (tot S.B : Int) * 2 = k1 := HK1.out
    have e2 : k1 + (S.V.length : Int) * 3 = k2 := HK2.out
    unfold marksS
    rw [e1, e2]
    refine ⟨?_, ?_, ?_, ?_, ?_⟩
    · show OwnT w3 lo hi (.slice A.a0 (marksYY k0 S.B).length A.c0) _
      rw [marksYY_len]
      exact B2.out.keeps hk (by decide) (by decide)
    · show Own eV 82 w3 lo (.slice A.a1 (marksV k1 S.V.length).length A.c1) _
      rw [marksV_len]
      exact owns_keeps V2.out hk (by decide)
    · show ∀ q, Value.ownBlock (.slice A.a1 (marksV k1 S.V.length).length A.c1) = some q → q < hi
      rw [marksV_len]
      exact VT.out
    · show Own eB 4 w3 lo (.slice A.a2 (marksB k2 S.M.length).length A.c2) _
      rw [marksB_len]
      exact hm
    · show ∀ q, Value.ownBlock (.slice A.a2 (marksB k2 S.M.length).length A.c2) = some q → q < hi
      rw [marksB_len]
      exact MT.out)
  clear hm hg hk U2 B2 M2 V2 P2
  go_wp2
  go_ret
  exact ⟨ret_int' (by rw [← HK2.out, ← HK1.out]; unfold cntS; omega), OS.out, U3.out⟩
set_option maxRecDepth 100000 in
set_option maxHeartbeats 1600000 in
theorem heldSeg_ok (S : SG) (A : SAd) (k0 : Int) (w : World) (hs : Small S) (h0 : 0 ≤ k0) (h1 : k0 ≤ 10000000) (hl : SegAt w A (marksS k0 S)) :
    Calls Tryz.prog 30 #[.agg #[.slice A.a0 S.B.length A.c0, .slice A.a1 S.V.length A.c1, .slice A.a2 S.M.length A.c2], .int .i64 k0] w fun e w' => e = .returned (.int .i64 (k0 + cntS S)) ∧ Below w.heap.size w w' := by
  have HS := mkHid hs
  have hs1 := hs.t
  have hs2 := hs.v
  have hs3 := hs.m
  have HL := mkHid hl
  clear hs hl
  obtain ⟨w0, hw0⟩ : ∃ x : World, w.alloc (.cells #[.slice A.a0 S.B.length A.c0, .slice A.a1 S.V.length A.c1, .slice A.a2 S.M.length A.c2] 28) = x := ⟨_, rfl⟩
  obtain ⟨X, hX⟩ : ∃ x, w.heap.size = x := ⟨_, rfl⟩
  have HB : Hid (Below w.heap.size w w0) := mkHid (by rw [← hw0]; exact bl_alloc (Below.refl _ _) _)
  have P0 : Hid (G3 w0 X (.slice A.a0 S.B.length A.c0) (.slice A.a1 S.V.length A.c1) (.slice A.a2 S.M.length A.c2)) := mkHid (by rw [← hw0, ← hX]; exact G3.new _ _ _ _ _)
  have L0 := mkHid (HL.out.below HB.out)
  obtain ⟨q0, q1, q2, _, _, _⟩ := P0.out
  clear HL
  go_enter Tryz.func30, Tryz.ntmps30
  go_wp2_with fail
  clear hw0 hX q0 q1 q2
  refine (heldSymSS_ok S.B A.a0 A.c0 k0 _ (by have := HS.out.b; omega) (fun i l hl => by have := HS.out.row i l hl; omega) (by omega) h0 (by omega) L0.out.b).mono ?_
  rintro e w1 ⟨rfl, hb⟩
  have HB1 := mkHid (below_step HB.out hb)
  have P1 := mkHid (P0.out.below hb)
  have L1 := mkHid (L0.out.below hb)
  clear hb HB P0 L0
  obtain ⟨k1, hk1⟩ : ∃ k, k0 + (tot S.B : Int) * 2 = k := ⟨_, rfl⟩
  have HK1 := mkHid hk1
  have hk1a : 0 ≤ k1 := by omega
  have hk1b : k1 ≤ 20000000 := by omega
  have hk1c : ¬ k1 < 0 := by omega
  have V1 : Hid (At eV w1 A.a1 (marksV k1 S.V.length)) := mkHid (by rw [← hk1]; exact L1.out.v)
  have M1 : Hid (At eB w1 A.a2 (marksB (k1 + (S.V.length : Int) * 3) S.M.length)) := mkHid (by rw [← hk1]; exact L1.out.m)
  rw [hk1]
  clear hk1 L1
  obtain ⟨q0, q1, q2, _, _, _⟩ := P1.out
  go_wp2_with fail
  clear q0 q1 q2
  refine (heldValS_ok S.V.length A.a1 A.c1 k1 _ (by omega) hk1a (by omega) V1.out).mono ?_
  rintro e w2 ⟨rfl, hb⟩
  have HB2 := mkHid (below_step HB1.out hb)
  have P2 := mkHid (P1.out.below hb)
  have M2 := mkHid (M1.out.below hb)
  clear hb HB1 P1 V1 M1
  obtain ⟨k2, hk2⟩ : ∃ k, k1 + (S.V.length : Int) * 3 = k := ⟨_, rfl⟩
  have HK2 := mkHid hk2
  have hk2a : 0 ≤ k2 := by omega
  have hk2b : k2 ≤ 30000000 := by omega
  have hk2c : ¬ k2 < 0 := by omega
  rw [hk2] at M2
  rw [hk2]
  clear hk2
  obtain ⟨q0, q1, q2, _, _, _⟩ := P2.out
  go_wp2_with fail
  clear q0 q1 q2
  refine (heldBoolS_ok S.M.length A.a2 A.c2 k2 _ (by omega) hk2a (by omega) M2.out).mono ?_
  rintro e w3 ⟨rfl, hb⟩
  have HB3 := mkHid (below_step HB2.out hb)
  clear hb HB2 P2 M2
  obtain ⟨k3, hk3⟩ : ∃ k, k2 + (S.M.length : Int) * 1 = k := ⟨_, rfl⟩
  have hk3c : ¬ k3 < 0 := by omega
  have HK3 : Hid (k3 = k0 + cntS S) := mkHid (by rw [← hk3, ← HK2.out, ← HK1.out]; unfold cntS; omega)
  rw [hk3]
  clear hk3
  go_wp2
  go_ret
  exact ⟨ret_int' HK3.out, HB3.out⟩
end Go.Proofs.YtbfmljogfljhdaaGreat
