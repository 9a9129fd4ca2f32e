/-
  CONTRACTS of both FactsRanges.
-/
import Derived.Test.YthhajdjpglpkoaaAt
namespace Go.Proofs.Ythhajdjpglpkoaa
open Go.RowKit

/-- What FactsRange answers. -/
def rngO (o : Option Tab) (n : Nat) (i : Int) : Int × Int := match o with
  | some f => if symB i n then (-(f 0 i.toNat), f i.toNat 0) else (1, 0)
  | none => (1, 0)
def rngF (z : Int) (l : List Int) (i : Int) : Int × Int := rngO ((okO z l).bind (cloO z.toNat)) z.toNat i
theorem symB_out {n : Nat} {o : Option Tab} {i : Int} (h : symB i (outZ o n) = true) : ∃ f, o = some f ∧ symB i n = true := by
  cases o with
  | none =>
    unfold symB at h
    have h := of_decide_eq_true h
    simp [outZ] at h
    omega
  | some f => exact ⟨f, rfl, h⟩
theorem rngO_no {n : Nat} {o : Option Tab} {i : Int} (h : symB i (outZ o n) = false) : rngO o n i = (1, 0) := by
  cases o with
  | none => rfl
  | some f => unfold rngO; rw [show symB i n = false from h]; rfl
theorem Box.drew {v : World} {b : Nat} {x y : Int} (h : Box v b x y) : Box v.drew b x y := h.below (Below.refl _ _).drew
theorem Box.grown {v v' : World} {b : Nat} {x y : Int} {row : Option Nat} (h : Box v b x y) (hg : v.grownBy v' row) (hr : some b ≠ row) : Box v' b x y :=
  ⟨(hg.cell_far ⟨b, 0, none⟩ h.lt hr).trans h.1, (hg.cell_far ⟨b, 1, none⟩ h.lt hr).trans h.2.1, (hg.frozen_far ⟨b, 0, none⟩ h.lt hr).trans h.2.2.1, (hg.frozen_far ⟨b, 1, none⟩ h.lt hr).trans h.2.2.2⟩
theorem Box.new (w : World) (x y : Int) (T : TypeId) : Box (w.alloc (.cells #[.int .i64 x, .int .i64 y] T)) w.heap.size x y := by
  refine ⟨?_, ?_, ?_, ?_⟩ <;> simp [go_sem]
theorem ret_pair {p : Int × Int} {x y : Int} (h : p = (x, y)) : Ending.returned (.agg #[.int .i64 x, .int .i64 y]) = .returned (.agg #[.int .i64 p.1, .int .i64 p.2]) := by rw [h]
theorem pair_shut {w w1 : World} {b : Nat} (hB : Below w.heap.size w w1) (hb : w.heap.size ≤ b) (v0 v1 : Value) : Below w.heap.size w ((w1.setCell ⟨b, 0, none⟩ v0).setCell ⟨b, 1, none⟩ v1) :=
  (hB.setCell (p := ⟨b, 0, none⟩) hb _).setCell (p := ⟨b, 1, none⟩) hb _
set_option maxRecDepth 100000 in
set_option maxHeartbeats 1600000 in
theorem iRange_any (z : Int) (l : List Int) (a : Option Addr) (c0 : Nat) (i : Int) (w : World) (hc : l.length ≤ c0) (hl : IntsAt w a l) : Calls Try.prog 50 #[.agg #[.int .i64 z, .slice a l.length c0], .int .i64 i] w fun e w' => e = .returned (.agg #[.int .i64 (rngF z l i).1, .int .i64 (rngF z l i).2]) ∧ Below w.heap.size w w' := by
  have HC := mkHid hc
  have HL := mkHid hl
  have HF := mkHid (okO_fine z l)
  have HG := mkHid (clo_fineO (okO_fine z l))
  have B0 := mkHid (((Below.refl w.heap.size w).alloc (Nat.le_refl _) (.cells #[.int .i64 z, .slice a l.length c0] 24)).alloc (by simp) (.cells #[.int .i64 0, .int .i64 0] 51))
  have Z0 := mkHid (Box.new (w.alloc (.cells #[.int .i64 z, .slice a l.length c0] 24)) 0 0 51)
  have HD : Hid (∀ v, IntsAt v a l → Calls Try.prog 66 #[.agg #[.int .i64 z, .slice a l.length c0]] v fun e w' => e = .returned (.agg (D z.toNat (okO z l))) ∧ Below v.heap.size v w') := mkHid fun v hv => diffsD z l a c0 v HC.out hv
  obtain ⟨G, hG, hGl⟩ := D_out z.toNat ((okO z l).bind (cloO z.toNat))
  have HCL : Hid (∀ v, Calls Try.prog 67 #[.agg (D z.toNat (okO z l))] v fun e w' => e = .returned (.agg (dA (outZ ((okO z l).bind (cloO z.toNat)) z.toNat) G)) ∧ Below v.heap.size v w') := mkHid fun v => by rw [← hG]; exact closedD z.toNat (okO z l) (okO_fine z l).good v
  have HRF : Hid (rngF z l i = rngO ((okO z l).bind (cloO z.toNat)) z.toNat i) := mkHid rfl
  have HDG : Hid (D z.toNat ((okO z l).bind (cloO z.toNat)) = dA (outZ ((okO z l).bind (cloO z.toNat)) z.toNat) G) := mkHid hG
  obtain ⟨R, hR⟩ : ∃ R, rngF z l i = R := ⟨_, rfl⟩
  rw [hR] at HRF
  rw [hR]
  obtain ⟨n, hn⟩ : ∃ n, z.toNat = n := ⟨_, rfl⟩
  rw [hn] at HD HCL HF HG HRF HDG
  obtain ⟨o1, ho1⟩ : ∃ o, okO z l = o := ⟨_, rfl⟩
  rw [ho1] at HD HCL HRF HG HDG
  obtain ⟨o2, ho2⟩ : ∃ o, o1.bind (cloO n) = o := ⟨_, rfl⟩
  rw [ho2] at HCL HRF HG HDG
  have HCLO : Hid (∀ f, o2 = some f → Closed n f) := mkHid fun f e => by
    rw [← ho2] at e
    cases h1 : o1 with
    | none => rw [h1] at e; cases e
    | some g =>
      rw [h1] at e
      simp only [Option.bind_some, cloO] at e
      split at e
      · rename_i hc
        cases e
        exact clo_closed ((HF.out g (by rw [ho1, h1])).2.2.diag) hc
      · cases e
  have HGL := mkHid hGl
  clear hc hl hG hGl hR hn ho1 ho2
  have hzc := zc64
  go_enter Try.func50, Try.ntmps50
  go_wp2_with fail
  refine (HD.out _ (HL.out.below B0.out)).mono ?_
  rintro e w0 ⟨rfl, hb0⟩
  have B0' := mkHid (below_step B0.out hb0)
  have Z0' : Hid (Box w0 (w.heap.size + 1) 0 0) := mkHid (by have := Z0.out.below hb0; simpa using this)
  clear hb0 B0 Z0
  go_wp2_with fail
  refine (HCL.out _).mono ?_
  rintro e w1 ⟨rfl, hb1⟩
  have B1 := mkHid (below_step B0'.out hb1)
  have Z1 := mkHid (Z0'.out.below hb1)
  have s1 := Z1.out.lt
  have N1 := mkHid (Dif.new w1 (n := 0) zs_len 64)
  clear hb1 B0' Z0'
  go_wp2_with (first | (refine wp_store64 N1.out HGL.out rfl rfl rfl rfl ?_; intro w2 hD2 hg2) | (refine wp_load64 hD2 rfl rfl rfl ?_))
  have B2 := mkHid ((B1.out.alloc B1.out.size _).grown hg2 (by have := B1.out.size; simp; omega) (fun q hq => by cases hq; exact B1.out.size))
  have Z2 := mkHid ((Z1.out.below ((Below.refl _ _).alloc (Nat.le_refl _) _)).grown hg2 (some_ne (by omega)))
  have D2 := mkHid hD2
  obtain ⟨b1, hb1⟩ : ∃ b, w1.heap.size = b := ⟨_, rfl⟩
  rw [hb1] at D2
  rw [hb1]
  have hwb : w.heap.size + 1 < b1 := by omega
  clear hD2 hg2 N1 B1 Z1 s1 hb1
  refine (hasSym_any (outZ o2 n) G i _).mono ?_
  rintro e w3 ⟨rfl, hb3⟩
  have B3 := mkHid (below_step B2.out hb3)
  have Z3 := mkHid (Z2.out.below hb3)
  have D3 := mkHid (D2.out.below hb3)
  clear hb3 B2 Z2 D2
  cases hi : symB i (outZ o2 n)
  · have e1 : Hid (R = (1, 0)) := mkHid (HRF.out.trans (rngO_no hi))
    go_wp2_with fail
    refine (iNone_any _).mono ?_
    rintro e w4 ⟨rfl, hb4⟩
    have B4 := mkHid (below_step B3.out hb4)
    obtain ⟨z0, z1, z2, z3⟩ := Z3.out.below hb4
    clear hb4
    go_wp2
    exact bodyPost_ret (v := .agg #[.int .i64 1, .int .i64 0]) (by simp [results, Try.results50, go_sem, z0, z1]) rfl ⟨ret_pair e1.out, pair_shut B4.out (Nat.le_succ _) _ _⟩
  · obtain ⟨f, rfl, hs⟩ := symB_out hi
    obtain ⟨h1, h2, h3⟩ := HG.out f rfl
    obtain ⟨i', rfl, hi'⟩ := sym_nat (o := some f) (n := n) hi
    have e1 : Hid (R = (-(f 0 i'), f i' 0)) := mkHid (by rw [HRF.out]; unfold rngO; rw [hs]; simp)
    have hgr : grid n f = G := by
      have := HDG.out
      simp only [D] at this
      have h2 : (dL n (grid n f)) = dL (outZ (some f) n) G := by have := congrArg Array.toList this; simpa [dA] using this
      have h3 : ints (grid n f) = ints G := (List.cons.inj h2).2
      apply List.ext_getElem?
      intro p
      have h4 : (ints (grid n f))[p]? = (ints G)[p]? := by rw [h3]
      rw [ints_get, ints_get] at h4
      cases h5 : (grid n f)[p]? <;> cases h6 : G[p]? <;> simp [h5, h6] at h4 ⊢
      exact h4
    have HV := grid_V h2 f
    rw [hgr] at HV
    have hx1 := HV 0 i' (by omega) hi'
    have hx2 := HV i' 0 hi' (by omega)
    obtain ⟨x1, hf1⟩ : ∃ x, f 0 i' = x := ⟨_, rfl⟩
    obtain ⟨x2, hf2⟩ : ∃ x, f i' 0 = x := ⟨_, rfl⟩
    have q1 := h3 0 i' (by omega) hi'
    have q2 := cap_le 0 i'
    rw [hf1] at hx1 q1 e1
    rw [hf2] at hx2 e1
    have c1 := D3.out.at (i := 0) (j := i') (by omega) (by omega) hx1
    have c2 := D3.out.at (i := i') (j := 0) (by omega) (by omega) hx2
    rw [show 1 + 0 * 13 + i' = 1 + i' by omega] at c1
    rw [show 1 + i' * 13 + 0 = 1 + i' * 13 by omega] at c2
    have hw1 : IntKind.i64.wrap (-x1) = -x1 := IntWalk.i64_in _ (by omega)
    obtain ⟨z0, z1, z2, z3⟩ := Z3.out
    have a0 : (0 : Int) ≤ (i' : Int) := by omega
    have a1 : (i' : Int) < 13 := by omega
    clear hi hs HRF HDG HG HF hgr HV hx1 hx2 hf1 hf2 q1 q2 h3
    go_wp2_with fail
    go_region
    go_wp2
    refine bodyPost_ret (v := .agg #[.int .i64 (-x1), .int .i64 x2]) (by simp [results, Try.results50, go_sem, z0, z1]) rfl ⟨ret_pair e1.out, ?_⟩
    exact (pair_shut B3.out (Nat.le_succ _) _ _).drew
end Go.Proofs.Ythhajdjpglpkoaa
