/-
  CONTRACTS of both FactsRanges.
  CONTRACTS of the cursor that draws numbers from bytes: pick, once, size, l01Open: they answer some number within bounds, and write the cursor's own block alone.
  CONTRACTS of the program's functions on ranges: RangeOk, RangeHas, spanOf, cutDown, RangeMeet, RangeNeg, RangeAdd.
  CONTRACTS of the specification's RangeAdd, RangeSub, RangeMul, RangeMeet, RangeJoin.
  GUARDS: models (plain); CONTRACTS of l02IsCond, l06Without of the specification, guardLess, withoutOnly of the program.
  CONTRACTS of the drawing of numbers and ranges: number, l06DrawRange: they answer some numbers, and write the cursor's own block alone.
  CONTRACT of the specification's FactsBound.
-/
import Derived.Test.YtgclngofigffdaaFm10
import Derived.Test.YtgclngofigffdaaFm00
import Derived.Deep.AppendLies
import Derived.ProofKit
import Derived.OpenShut
import Derived.ChangeOld
import Derived.Lib.SmallJoins
import Derived.Deep.QuietTactic
import Derived.BigQuiet
import Derived.Test.YtgclngofigffdaaFm02
import Derived.Test.YtgclngofigffdaaFm09
namespace Go.Proofs.Ytgclngofigffdaa
open Go.RowKit

/-- What FactsRange answers. -/
def rngO (o : Option Tab) (n : Nat) (i : Int) : Int × Int := match o with
  | some f => if symB i n then (-(f 0 i.toNat), f i.toNat 0) else (1, 0)
  | none => (1, 0)
def rngF (z : Int) (l : List Int) (i : Int) : Int × Int := rngO ((okO z l).bind (cloO z.toNat)) z.toNat i
theorem symB_out {n : Nat} {o : Option Tab} {i : Int} (h : symB i (outZ o n) = true) : ∃ f, o = some f ∧ symB i n = true := by
  cases o with
  | none =>
    unfold symB at h
    have h := of_decide_eq_true h
    simp [outZ] at h
    omega
  | some f => exact ⟨f, rfl, h⟩
theorem rngO_no {n : Nat} {o : Option Tab} {i : Int} (h : symB i (outZ o n) = false) : rngO o n i = (1, 0) := by
  cases o with
  | none => rfl
  | some f => unfold rngO; rw [show symB i n = false from h]; rfl
theorem Box.drew {v : World} {b : Nat} {x y : Int} (h : Box v b x y) : Box v.drew b x y := h.below (Below.refl _ _).drew
theorem Box.grownR {v v' : World} {b : Nat} {x y : Int} {row : Option Nat} (h : Box v b x y) (hg : v.grownBy v' row) (hr : some b ≠ row) : Box v' b x y :=
  ⟨(hg.cell_far ⟨b, 0, none⟩ h.lt hr).trans h.1, (hg.cell_far ⟨b, 1, none⟩ h.lt hr).trans h.2.1, (hg.frozen_far ⟨b, 0, none⟩ h.lt hr).trans h.2.2.1, (hg.frozen_far ⟨b, 1, none⟩ h.lt hr).trans h.2.2.2⟩
theorem Box.new (w : World) (x y : Int) (T : TypeId) : Box (w.alloc (.cells #[.int .i64 x, .int .i64 y] T)) w.heap.size x y := by
  refine ⟨?_, ?_, ?_, ?_⟩ <;> simp [go_sem]
theorem ret_pair {p : Int × Int} {x y : Int} (h : p = (x, y)) : Ending.returned (.agg #[.int .i64 x, .int .i64 y]) = .returned (.agg #[.int .i64 p.1, .int .i64 p.2]) := by rw [h]
theorem pair_shut {w w1 : World} {b : Nat} (hB : Below w.heap.size w w1) (hb : w.heap.size ≤ b) (v0 v1 : Value) : Below w.heap.size w ((w1.setCell ⟨b, 0, none⟩ v0).setCell ⟨b, 1, none⟩ v1) :=
  (hB.setCell (p := ⟨b, 0, none⟩) hb _).setCell (p := ⟨b, 1, none⟩) hb _
set_option maxRecDepth 100000 in
set_option maxHeartbeats 1600000 in
theorem iRange_any (z : Int) (l : List Int) (a : Option Addr) (c0 : Nat) (i : Int) (w : World) (hc : l.length ≤ c0) (hl : IntsAt w a l) : Calls Try.prog 26 #[.agg #[.int .i64 z, .slice a l.length c0], .int .i64 i] w fun e w' => e = .returned (.agg #[.int .i64 (rngF z l i).1, .int .i64 (rngF z l i).2]) ∧ Below w.heap.size w w' := by
  have HC := mkHid hc
  have HL := mkHid hl
  have HF := mkHid (okO_fine z l)
  have HG := mkHid (clo_fineO (okO_fine z l))
  have B0 := mkHid (((Below.refl w.heap.size w).alloc (Nat.le_refl _) (.cells #[.int .i64 z, .slice a l.length c0] 26)).alloc (by simp) (.cells #[.int .i64 0, .int .i64 0] 44))
  have Z0 := mkHid (Box.new (w.alloc (.cells #[.int .i64 z, .slice a l.length c0] 26)) 0 0 44)
  have HD : Hid (∀ v, IntsAt v a l → Calls Try.prog 39 #[.agg #[.int .i64 z, .slice a l.length c0]] v fun e w' => e = .returned (.agg (D z.toNat (okO z l))) ∧ Below v.heap.size v w') := mkHid fun v hv => diffsD z l a c0 v HC.out hv
  obtain ⟨G, hG, hGl⟩ := D_out z.toNat ((okO z l).bind (cloO z.toNat))
  have HCL : Hid (∀ v, Calls Try.prog 40 #[.agg (D z.toNat (okO z l))] v fun e w' => e = .returned (.agg (dA (outZ ((okO z l).bind (cloO z.toNat)) z.toNat) G)) ∧ Below v.heap.size v w') := mkHid fun v => by rw [← hG]; exact closedD z.toNat (okO z l) (okO_fine z l).good v
  have HRF : Hid (rngF z l i = rngO ((okO z l).bind (cloO z.toNat)) z.toNat i) := mkHid rfl
  have HDG : Hid (D z.toNat ((okO z l).bind (cloO z.toNat)) = dA (outZ ((okO z l).bind (cloO z.toNat)) z.toNat) G) := mkHid hG
  obtain ⟨R, hR⟩ : ∃ R, rngF z l i = R := ⟨_, rfl⟩
  rw [hR] at HRF
  rw [hR]
  obtain ⟨n, hn⟩ : ∃ n, z.toNat = n := ⟨_, rfl⟩
  rw [hn] at HD HCL HF HG HRF HDG
  obtain ⟨o1, ho1⟩ : ∃ o, okO z l = o := ⟨_, rfl⟩
  rw [ho1] at HD HCL HRF HG HDG
  obtain ⟨o2, ho2⟩ : ∃ o, o1.bind (cloO n) = o := ⟨_, rfl⟩
  rw [ho2] at HCL HRF HG HDG
  have HCLO : Hid (∀ f, o2 = some f → Closed n f) := mkHid fun f e => by
    rw [← ho2] at e
    cases h1 : o1 with
    | none => rw [h1] at e; cases e
    | some g =>
      rw [h1] at e
      simp only [Option.bind_some, cloO] at e
      split at e
      · rename_i hc
        cases e
        exact clo_closed ((HF.out g (by rw [ho1, h1])).2.2.diag) hc
      · cases e
  have HGL := mkHid hGl
  clear hc hl hG hGl hR hn ho1 ho2
  have hzc := zc64
  go_enter Try.func26, Try.ntmps26
  go_wp2_with fail
  refine (HD.out _ (HL.out.below B0.out)).mono ?_
  rintro e w0 ⟨rfl, hb0⟩
  have B0' := mkHid (below_step B0.out hb0)
  have Z0' : Hid (Box w0 (w.heap.size + 1) 0 0) := mkHid (by have := Z0.out.below hb0; simpa using this)
  clear hb0 B0 Z0
  go_wp2_with fail
  refine (HCL.out _).mono ?_
  rintro e w1 ⟨rfl, hb1⟩
  have B1 := mkHid (below_step B0'.out hb1)
  have Z1 := mkHid (Z0'.out.below hb1)
  have s1 := Z1.out.lt
  have N1 := mkHid (Dif.new w1 (n := 0) zs_len 59)
  clear hb1 B0' Z0'
  go_wp2_with (first | (refine wp_store64 N1.out HGL.out rfl rfl rfl rfl ?_; intro w2 hD2 hg2) | (refine wp_load64 hD2 rfl rfl rfl ?_))
  have B2 := mkHid ((B1.out.alloc B1.out.size _).grown hg2 (by have := B1.out.size; simp; omega) (fun q hq => by cases hq; exact B1.out.size))
  have Z2 := mkHid ((Z1.out.below ((Below.refl _ _).alloc (Nat.le_refl _) _)).grownR hg2 (some_ne (by omega)))
  have D2 := mkHid hD2
  obtain ⟨b1, hb1⟩ : ∃ b, w1.heap.size = b := ⟨_, rfl⟩
  rw [hb1] at D2
  rw [hb1]
  have hwb : w.heap.size + 1 < b1 := by omega
  clear hD2 hg2 N1 B1 Z1 s1 hb1
  refine (hasSym_any (outZ o2 n) G i _).mono ?_
  rintro e w3 ⟨rfl, hb3⟩
  have B3 := mkHid (below_step B2.out hb3)
  have Z3 := mkHid (Z2.out.below hb3)
  have D3 := mkHid (D2.out.below hb3)
  clear hb3 B2 Z2 D2
  cases hi : symB i (outZ o2 n)
  · have e1 : Hid (R = (1, 0)) := mkHid (HRF.out.trans (rngO_no hi))
    go_wp2_with fail
    refine (iNone_any _).mono ?_
    rintro e w4 ⟨rfl, hb4⟩
    have B4 := mkHid (below_step B3.out hb4)
    obtain ⟨z0, z1, z2, z3⟩ := Z3.out.below hb4
    clear hb4
    go_wp2
    exact bodyPost_ret (v := .agg #[.int .i64 1, .int .i64 0]) (by simp [results, Try.results26, go_sem, z0, z1]) rfl ⟨ret_pair e1.out, pair_shut B4.out (Nat.le_succ _) _ _⟩
  · obtain ⟨f, rfl, hs⟩ := symB_out hi
    obtain ⟨h1, h2, h3⟩ := HG.out f rfl
    obtain ⟨i', rfl, hi'⟩ := sym_nat (o := some f) (n := n) hi
    have e1 : Hid (R = (-(f 0 i'), f i' 0)) := mkHid (by rw [HRF.out]; unfold rngO; rw [hs]; simp)
    have hgr : grid n f = G := by
      have := HDG.out
      simp only [D] at this
      have h2 : (dL n (grid n f)) = dL (outZ (some f) n) G := by have := congrArg Array.toList this; simpa [dA] using this
      have h3 : ints (grid n f) = ints G := (List.cons.inj h2).2
      apply List.ext_getElem?
      intro p
      have h4 : (ints (grid n f))[p]? = (ints G)[p]? := by rw [h3]
      rw [ints_get, ints_get] at h4
      cases h5 : (grid n f)[p]? <;> cases h6 : G[p]? <;> simp [h5, h6] at h4 ⊢
      exact h4
    have HV := grid_V h2 f
    rw [hgr] at HV
    have hx1 := HV 0 i' (by omega) hi'
    have hx2 := HV i' 0 hi' (by omega)
    obtain ⟨x1, hf1⟩ : ∃ x, f 0 i' = x := ⟨_, rfl⟩
    obtain ⟨x2, hf2⟩ : ∃ x, f i' 0 = x := ⟨_, rfl⟩
    have q1 := h3 0 i' (by omega) hi'
    have q2 := cap_le 0 i'
    rw [hf1] at hx1 q1 e1
    rw [hf2] at hx2 e1
    have c1 := D3.out.at (i := 0) (j := i') (by omega) (by omega) hx1
    have c2 := D3.out.at (i := i') (j := 0) (by omega) (by omega) hx2
    rw [show 1 + 0 * 13 + i' = 1 + i' by omega] at c1
    rw [show 1 + i' * 13 + 0 = 1 + i' * 13 by omega] at c2
    have hw1 : IntKind.i64.wrap (-x1) = -x1 := IntWalk.i64_in _ (by omega)
    obtain ⟨z0, z1, z2, z3⟩ := Z3.out
    have a0 : (0 : Int) ≤ (i' : Int) := by omega
    have a1 : (i' : Int) < 13 := by omega
    clear hi hs HRF HDG HG HF hgr HV hx1 hx2 hf1 hf2 q1 q2 h3
    go_wp2_with fail
    go_region
    go_wp2
    refine bodyPost_ret (v := .agg #[.int .i64 (-x1), .int .i64 x2]) (by simp [results, Try.results26, go_sem, z0, z1]) rfl ⟨ret_pair e1.out, ?_⟩
    exact (pair_shut B3.out (Nat.le_succ _) _ _).drew
end Go.Proofs.Ytgclngofigffdaa
namespace Go.Proofs.Ytgclngofigffdaa
open Go.RowKit

theorem grown_trans {a b c : World} {r : Option Nat} (h : a.grownBy b r) (k : b.grownBy c r) : a.grownBy c r := World.grownBy.trans h k
/-- Bytes that a slice holds. -/
def Bytes (w : World) (cb : Nat) (a : Option Addr) (n : Nat) : Prop := n = 0 ∨ ∃ b off, a = some ⟨b, off, none⟩ ∧ b < cb ∧ ∀ i, i < n → ∃ z : Int, 0 ≤ z ∧ z ≤ 255 ∧ w.cell? ⟨b, off + i, none⟩ = some (.int .u8 z)
def Cur (w : World) (cb : Nat) (a : Option Addr) (n cap bud : Nat) : Prop := ∃ (x : Nat) (seed : Int), w.heap[cb]? = some (.cells #[.slice a n cap, .int .i64 x, .int .i64 seed] 81 (0, 0)) ∧ x + 2 * bud ≤ 1000000 ∧ 0 ≤ seed ∧ seed ≤ 65521 ∧ n ≤ 1048576 ∧ Bytes w cb a n

theorem Bytes.grown {w w' : World} {cb n : Nat} {a : Option Addr} (h : Bytes w cb a n) (hg : w.grownBy w' (some cb)) : Bytes w' cb a n := by
  rcases h with h | ⟨b, off, e, hne, hc⟩
  · exact .inl h
  · refine .inr ⟨b, off, e, hne, fun i hi => ?_⟩
    obtain ⟨z, h0, h1, h2⟩ := hc i hi
    exact ⟨z, h0, h1, hg.cell h2 (by simp; omega)⟩
theorem grown_set (w : World) (cb i : Nat) (v : Value) : w.grownBy (w.setCell ⟨cb, i, none⟩ v) (some cb) :=
  ⟨rfl, rfl, rfl, by simp [World.setCell], fun k _ hk => Below.heap_setCell _ _ _ _ (fun e => hk (by simp [e]))⟩
theorem grown_drew (w : World) (k : Nat) (r : Option Nat) : w.grownBy (w.drewN k) r := ⟨rfl, rfl, rfl, Nat.le_refl _, fun _ _ _ => rfl⟩
theorem set1 {w : World} {cb : Nat} {A B C v : Value} (h : w.heap[cb]? = some (.cells #[A, B, C] 81 (0, 0))) : (w.setCell ⟨cb, 1, none⟩ v).heap[cb]? = some (.cells #[A, v, C] 81 (0, 0)) := heap_setCell_same w cb 1 _ 81 v h
theorem set2 {w : World} {cb : Nat} {A B C v : Value} (h : w.heap[cb]? = some (.cells #[A, B, C] 81 (0, 0))) : (w.setCell ⟨cb, 2, none⟩ v).heap[cb]? = some (.cells #[A, B, v] 81 (0, 0)) := heap_setCell_same w cb 2 _ 81 v h
theorem cur_one {w w' : World} {cb n cap bud x : Nat} {a : Option Addr} {seed' : Int} (hh : w'.heap[cb]? = some (.cells #[.slice a n cap, .int .i64 ((x : Int) + 1), .int .i64 seed'] 81 (0, 0))) (hx : x + 2 * (bud + 1) ≤ 1000000) (h0 : 0 ≤ seed') (h1 : seed' ≤ 65521) (hn : n ≤ 1048576) (hb : Bytes w cb a n) (hg : w.grownBy w' (some cb)) : Cur w' cb a n cap bud :=
  ⟨x + 1, seed', by rw [hh]; rfl, by omega, h0, h1, hn, hb.grown hg⟩
theorem cur_two {w w' : World} {cb n cap bud x : Nat} {a : Option Addr} {seed : Int} (hh : w'.heap[cb]? = some (.cells #[.slice a n cap, .int .i64 ((x : Int) + 1 + 1), .int .i64 seed] 81 (0, 0))) (hx : x + 2 * (bud + 1) ≤ 1000000) (h0 : 0 ≤ seed) (h1 : seed ≤ 65521) (hn : n ≤ 1048576) (hb : Bytes w cb a n) (hg : w.grownBy w' (some cb)) : Cur w' cb a n cap bud :=
  ⟨x + 2, seed, by rw [hh]; rfl, by omega, h0, h1, hn, hb.grown hg⟩

set_option maxHeartbeats 2000000 in
theorem pick_any (m : Int) (cb n cap bud : Nat) (a : Option Addr) (w : World) (hm : m ≤ 1000000) (hC : Cur w cb a n cap (bud + 1)) :
    Calls Try.prog 72 #[.pointer (some ⟨cb, 0, none⟩), .int .i64 m] w fun e w' => ∃ r : Int, e = .returned (.int .i64 r) ∧ 0 ≤ r ∧ (r < m ∨ r = 0) ∧ Cur w' cb a n cap bud ∧ w.grownBy w' (some cb) := by
  obtain ⟨x, seed, hh, hx1, hs0, hs1, hn, hby⟩ := hC
  have c0 : w.cell? ⟨cb, 0, none⟩ = some (.slice a n cap) := by rw [Lib.cell_of_heap hh]; rfl
  have c1 : w.cell? ⟨cb, 1, none⟩ = some (.int .i64 x) := by rw [Lib.cell_of_heap hh]; rfl
  have c2 : w.cell? ⟨cb, 2, none⟩ = some (.int .i64 seed) := by rw [Lib.cell_of_heap hh]; rfl
  have f1 := Lib.frozen_of_heap hh 1
  have f2 := Lib.frozen_of_heap hh 2
  have HH := mkHid hh
  have HY := mkHid hby
  clear hh hby
  by_cases h2 : m < 2
  · go_enter Try.func72, Try.ntmps72
    go_wp2
    go_ret
    exact ⟨0, rfl, by omega, .inr rfl, ⟨x, seed, HH.out, by omega, hs0, hs1, hn, HY.out⟩, ⟨rfl, rfl, rfl, Nat.le_refl _, fun _ _ _ => rfl⟩⟩
  · by_cases hin : (x : Int) < (n : Int)
    · obtain ⟨b, off, rfl, hbc, hb⟩ := HY.out.resolve_left (by omega)
      obtain ⟨z, hz0, hz1, hz⟩ := hb x (by omega)
      by_cases h200 : 200 < m ∧ (x : Int) + 1 < (n : Int)
      · obtain ⟨h20, h21⟩ := h200
        obtain ⟨z2, hz20, hz21, hz2⟩ := hb (x + 1) (by omega)
        have hd : decide (200 < m) = true := by simpa using h20
        have hd2 : decide ((x : Int) + 1 < (n : Int)) = true := by simpa using h21
        have e0 : ∀ K, ((w.drewN K).setCell ⟨cb, 1, none⟩ (.int .i64 ((x : Int) + 1))).cell? ⟨cb, 0, none⟩ = some (.slice (some ⟨b, off, none⟩) n cap) := fun K => by rw [Lib.cell_of_heap (set1 (w := w.drewN K) HH.out)]; rfl
        have e1 : ∀ K, ((w.drewN K).setCell ⟨cb, 1, none⟩ (.int .i64 ((x : Int) + 1))).cell? ⟨cb, 1, none⟩ = some (.int .i64 ((x : Int) + 1)) := fun K => by rw [Lib.cell_of_heap (set1 (w := w.drewN K) HH.out)]; rfl
        have e2 : ∀ K, ((w.drewN K).setCell ⟨cb, 1, none⟩ (.int .i64 ((x : Int) + 1))).cell? ⟨b, off + (x + 1), none⟩ = some (.int .u8 z2) := fun K => (grown_set (w.drewN K) cb 1 _).cell hz2 (by simp; omega)
        have e3 : ∀ K, ((w.drewN K).setCell ⟨cb, 1, none⟩ (.int .i64 ((x : Int) + 1))).frozen? ⟨cb, 1, none⟩ = false := fun K => Lib.frozen_of_heap (set1 (w := w.drewN K) HH.out) 1
        go_enter Try.func72, Try.ntmps72
        go_wp2
        go_quiet (fail)
        go_wp2
        go_quiet (fail)
        go_wp2
        go_quiet (fail)
        go_wp2
        go_quiet (fail)
        go_wp2
        go_ret
        refine ⟨_, rfl, Int.emod_nonneg _ (by omega), .inl (Int.emod_lt_of_pos _ (by omega)), ?_, ?_⟩
        · exact cur_two (seed := seed) (set1 (w := ((w.drewN _).setCell ⟨cb, 1, none⟩ (.int .i64 ((x : Int) + 1))).drewN _) (set1 (w := w.drewN _) HH.out)) hx1 hs0 hs1 hn HY.out (grown_trans (grown_trans (grown_drew _ _ _) (grown_set _ _ _ _)) (grown_trans (grown_drew _ _ _) (grown_set _ _ _ _)))
        · exact grown_trans (grown_trans (grown_drew _ _ _) (grown_set _ _ _ _)) (grown_trans (grown_drew _ _ _) (grown_set _ _ _ _))
      · by_cases h20 : 200 < m
        · have hd : decide (200 < m) = true := by simpa using h20
          have hd2 : decide ((x : Int) + 1 < (n : Int)) = false := by simp; omega
          clear h200
          go_enter Try.func72, Try.ntmps72
          go_wp2
          go_quiet (fail)
          go_wp2
          go_quiet (fail)
          go_wp2
          go_quiet (fail)
          go_wp2
          go_ret
          refine ⟨_, rfl, Int.emod_nonneg _ (by omega), .inl (Int.emod_lt_of_pos _ (by omega)), ?_, ?_⟩
          · exact cur_one (seed' := seed) (set1 (w := w.drewN _) HH.out) hx1 hs0 hs1 hn HY.out (grown_trans (grown_drew _ _ _) (grown_set _ _ _ _))
          · exact grown_trans (grown_drew _ _ _) (grown_set _ _ _ _)
        · have hd : decide (200 < m) = false := by simp; omega
          clear h200
          go_enter Try.func72, Try.ntmps72
          go_wp2
          go_quiet (fail)
          go_wp2
          go_quiet (fail)
          go_wp2
          go_quiet (fail)
          go_wp2
          go_ret
          refine ⟨_, rfl, Int.emod_nonneg _ (by omega), .inl (Int.emod_lt_of_pos _ (by omega)), ?_, ?_⟩
          · exact cur_one (seed' := seed) (set1 (w := w.drewN _) HH.out) hx1 hs0 hs1 hn HY.out (grown_trans (grown_drew _ _ _) (grown_set _ _ _ _))
          · exact grown_trans (grown_drew _ _ _) (grown_set _ _ _ _)
    · by_cases hn0 : 0 < (n : Int)
      · obtain ⟨b, off, rfl, hbc, hb⟩ := HY.out.resolve_left (by omega)
        obtain ⟨z, hz0, hz1, hz⟩ := hb (x % n) (Nat.mod_lt _ (by omega))
        have s0 : 0 ≤ (seed * 1103 + 12345) % 65521 ∧ (seed * 1103 + 12345) % 65521 ≤ 65521 := by omega
        obtain ⟨s0, s1⟩ := s0
        have e0 : ∀ K v, ((w.drewN K).setCell ⟨cb, 2, none⟩ v).cell? ⟨cb, 0, none⟩ = some (.slice (some ⟨b, off, none⟩) n cap) := fun K v => by rw [Lib.cell_of_heap (set2 (w := w.drewN K) HH.out)]; rfl
        have e1 : ∀ K v, ((w.drewN K).setCell ⟨cb, 2, none⟩ v).cell? ⟨cb, 1, none⟩ = some (.int .i64 (x : Int)) := fun K v => by rw [Lib.cell_of_heap (set2 (w := w.drewN K) HH.out)]; rfl
        have e4 : ∀ K v, ((w.drewN K).setCell ⟨cb, 2, none⟩ v).cell? ⟨cb, 2, none⟩ = some v := fun K v => by rw [Lib.cell_of_heap (set2 (w := w.drewN K) HH.out)]; rfl
        have e2 : ∀ K v, ((w.drewN K).setCell ⟨cb, 2, none⟩ v).cell? ⟨b, off + x % n, none⟩ = some (.int .u8 z) := fun K v => (grown_set (w.drewN K) cb 2 _).cell hz (by simp; omega)
        have e3 : ∀ K v, ((w.drewN K).setCell ⟨cb, 2, none⟩ v).frozen? ⟨cb, 1, none⟩ = false := fun K v => Lib.frozen_of_heap (set2 (w := w.drewN K) HH.out) 1
        have hmod0 : (0 : Int) ≤ (x : Int) % (n : Int) := by omega
        have hmod1 : (x : Int) % (n : Int) < (n : Int) := Int.emod_lt_of_pos _ hn0
        go_enter Try.func72, Try.ntmps72
        go_wp2
        go_quiet (fail)
        go_wp2
        go_quiet (fail)
        go_wp2
        go_ret
        refine ⟨_, rfl, Int.emod_nonneg _ (by omega), .inl (Int.emod_lt_of_pos _ (by omega)), ?_, ?_⟩
        · exact cur_one (seed' := (seed * 1103 + 12345) % 65521) (set1 (w := ((w.drewN _).setCell ⟨cb, 2, none⟩ (.int .i64 ((seed * 1103 + 12345) % 65521))).drewN _) (set2 (w := w.drewN _) HH.out)) hx1 s0 s1 hn HY.out (grown_trans (grown_trans (grown_drew _ _ _) (grown_set _ _ _ _)) (grown_trans (grown_drew _ _ _) (grown_set _ _ _ _)))
        · exact grown_trans (grown_trans (grown_drew _ _ _) (grown_set _ _ _ _)) (grown_trans (grown_drew _ _ _) (grown_set _ _ _ _))
      · go_enter Try.func72, Try.ntmps72
        go_wp2
        go_quiet (fail)
        go_wp2
        go_ret
        have s0 : 0 ≤ (seed * 1103 + 12345) % 65521 ∧ (seed * 1103 + 12345) % 65521 ≤ 65521 := by omega
        refine ⟨0, rfl, by omega, .inr rfl, ?_, ?_⟩
        · exact cur_one (seed' := (seed * 1103 + 12345) % 65521) (set1 (set2 (w := w.drewN _) HH.out)) hx1 s0.1 s0.2 hn HY.out (grown_trans (grown_drew _ _ _) (grown_trans (grown_set _ _ _ _) (grown_set _ _ _ _)))
        · exact grown_trans (grown_drew _ _ _) (grown_trans (grown_set _ _ _ _) (grown_set _ _ _ _))

set_option maxHeartbeats 400000 in
theorem open_any (n cap : Nat) (a : Option Addr) (w : World) (hn : n ≤ 1048576) (hb : Bytes w w.heap.size a n) :
    Calls Try.prog 35 #[.slice a n cap] w fun e w' => e = .returned (.pointer (some ⟨w.heap.size, 0, none⟩)) ∧ Cur w' w.heap.size a n cap 499999 ∧ Below w.heap.size w w' := by
  have HB := mkHid hb
  clear hb
  go_enter Try.func35, Try.ntmps35
  go_wp2
  go_ret
  have hg : w.grownBy (w.alloc (.cells #[.slice a n cap, .int .i64 0, .int .i64 (7 + (n : Int) % 1000)] 81)) (some w.heap.size) := World.grownBy_alloc w _ _
  exact ⟨rfl, ⟨0, 7 + (n : Int) % 1000, heap_alloc_new w _, by omega, by omega, by omega, hn, HB.out.grown hg⟩, (Below.refl _ _).alloc (Nat.le_refl _) _⟩
end Go.Proofs.Ytgclngofigffdaa
namespace Go.Proofs.Ytgclngofigffdaa
open Go.RowKit

end Go.Proofs.Ytgclngofigffdaa
namespace Go.Proofs.Ytgclngofigffdaa
open Go.RowKit

end Go.Proofs.Ytgclngofigffdaa
namespace Go.Proofs.Ytgclngofigffdaa
open Go.RowKit
attribute [local go_sem] nlt2 nlt3 nlt4 nle2 nle3 nle4 drew_size drew_cell drew_frozen

end Go.Proofs.Ytgclngofigffdaa
namespace Go.Proofs.Ytgclngofigffdaa
open Go.RowKit
attribute [local go_sem] nlt2 nlt3 nlt4 nle2 nle3 nle4 drew_size drew_cell drew_frozen

theorem Cur.lt {w : World} {cb n cap bud : Nat} {a : Option Addr} (h : Cur w cb a n cap bud) : cb < w.heap.size := by
  obtain ⟨x, seed, hh, _⟩ := h
  exact (Array.getElem?_eq_some_iff.1 hh).1
theorem Cur.below {w w' : World} {cb n cap bud : Nat} {a : Option Addr} (h : Cur w cb a n cap bud) (hb : Below w.heap.size w w') : Cur w' cb a n cap bud := by
  have hlt := h.lt
  obtain ⟨x, seed, hh, h1, h2, h3, h4, hby⟩ := h
  refine ⟨x, seed, (hb.block cb hlt).trans hh, h1, h2, h3, h4, ?_⟩
  rcases hby with h | ⟨b, off, e, hbl, hc⟩
  · exact .inl h
  · refine .inr ⟨b, off, e, hbl, fun i hi => ?_⟩
    obtain ⟨z, z0, z1, hz⟩ := hc i hi
    exact ⟨z, z0, z1, (hb.cell (p := ⟨b, off + i, none⟩) (by show b < _; omega)).trans hz⟩
theorem grown_of_below {w w' : World} (hb : Below w.heap.size w w') (r : Option Nat) : w.grownBy w' r := ⟨hb.os, hb.tape, hb.output, hb.size, fun i hi _ => hb.block i hi⟩
theorem below_alloc (w : World) (o : Obj) : Below w.heap.size w (w.alloc o) := (Below.refl _ _).alloc (Nat.le_refl _) o
theorem Cur.alloc {w : World} {cb n cap bud : Nat} {a : Option Addr} (h : Cur w cb a n cap bud) (o : Obj) : Cur (w.alloc o) cb a n cap bud := h.below (below_alloc w o)
theorem grown_cell {w w' : World} {cb b i : Nat} (hg : w.grownBy w' (some cb)) (hb : b < w.heap.size) (hne : b ≠ cb) : w'.cell? ⟨b, i, none⟩ = w.cell? ⟨b, i, none⟩ :=
  World.cell?_of_block (w := w) (hg.block b hb (fun e => hne (Option.some.inj e)))
set_option maxHeartbeats 3200000 in
theorem number_any (cb n cap bud : Nat) (a : Option Addr) (w : World) (hC : Cur w cb a n cap (bud + 2)) :
    Calls Try.prog 79 #[.pointer (some ⟨cb, 0, none⟩)] w fun e w' => ∃ r : Int, e = .returned (.int .i64 r) ∧ -9223372036854775808 ≤ r ∧ r ≤ 9223372036854775807 ∧ Cur w' cb a n cap bud ∧ w.grownBy w' (some cb) := by
  have HC := mkHid hC
  clear hC
  go_enter Try.func79, Try.ntmps79
  go_wp2_with fail
  refine (pick_any 8 cb n cap (bud + 1) a _ (by omega) HC.out).mono ?_
  rintro e w1 ⟨r, rfl, r0, r1, hC1, hG1⟩
  have HC1 := mkHid hC1
  have HG1 := mkHid hG1
  clear hC1 hG1 HC
  by_cases e0 : r = 0
  · subst e0
    go_wp2_with fail
    refine (pick_any 256 cb n cap bud a _ (by omega) HC1.out).mono ?_
    rintro e w2 ⟨q, rfl, q0, q1, hC2, hG2⟩
    have HC2 := mkHid hC2
    have HG2 := mkHid hG2
    clear hC2 hG2 HC1
    have q2 : q ≤ 256 := by omega
    go_wp2
    go_ret
    exact ⟨_, rfl, by omega, by omega, HC2.out, grown_trans HG1.out HG2.out⟩
  · by_cases e1 : r = 1
    · subst e1
      go_wp2_with fail
      refine (pick_any 8 cb n cap bud a _ (by omega) (HC1.out.alloc _)).mono ?_
      rintro e w2 ⟨q, rfl, q0, q1, hC2, hG2⟩
      have HC2 := mkHid hC2
      have HG2 := mkHid hG2
      have hne : w1.heap.size ≠ cb := by have := HC1.out.lt; omega
      have HK : Hid (∀ i, w2.cell? ⟨w1.heap.size, i, none⟩ = (w1.alloc (.cells #[.int .i64 1000000, .int .i64 (-1000000), .int .i64 1000001, .int .i64 (-1000001), .int .i64 2000000, .int .i64 9223372036854775807, .int .i64 (-9223372036854775808), .int .i64 1001] 3)).cell? ⟨w1.heap.size, i, none⟩) := mkHid (fun i => grown_cell hG2 (by simp) hne)
      have HG := mkHid (grown_trans (grown_trans HG1.out (grown_of_below (below_alloc w1 _) (some cb))) HG2.out)
      clear hC2 hG2 HC1 HG1 HG2
      have q2 : q < 8 := by omega
      obtain ⟨m, rfl⟩ : ∃ m : Nat, q = m := ⟨q.toNat, by omega⟩
      have c0 := HK.out m
      have hm : m < 8 := by omega
      clear q1 HK
      rcases (by omega : m = 0 ∨ m = 1 ∨ m = 2 ∨ m = 3 ∨ m = 4 ∨ m = 5 ∨ m = 6 ∨ m = 7) with rfl | rfl | rfl | rfl | rfl | rfl | rfl | rfl
      all_goals
        simp [go_sem] at c0
        go_wp2
        go_ret
        exact ⟨_, rfl, by omega, by omega, HC2.out, HG.out⟩
    · by_cases e2 : r = 2
      · subst e2
        go_wp2_with fail
        refine (pick_any 65000 cb n cap bud a _ (by omega) HC1.out).mono ?_
        rintro e w2 ⟨q, rfl, q0, q1, hC2, hG2⟩
        have HC2 := mkHid hC2
        have HG2 := mkHid hG2
        clear hC2 hG2 HC1
        have q2 : q ≤ 65000 := by omega
        go_wp2
        go_ret
        exact ⟨_, rfl, by omega, by omega, HC2.out, grown_trans HG1.out HG2.out⟩
      · go_wp2_with fail
        refine (pick_any 12 cb n cap bud a _ (by omega) HC1.out).mono ?_
        rintro e w2 ⟨q, rfl, q0, q1, hC2, hG2⟩
        have HC2 := mkHid hC2
        have HG2 := mkHid hG2
        clear hC2 hG2 HC1
        have q2 : q ≤ 12 := by omega
        go_wp2
        go_ret
        exact ⟨_, rfl, by omega, by omega, HC2.out, grown_trans HG1.out HG2.out⟩
end Go.Proofs.Ytgclngofigffdaa
namespace Go.Proofs.Ytgclngofigffdaa
open Go.RowKit

end Go.Proofs.Ytgclngofigffdaa
