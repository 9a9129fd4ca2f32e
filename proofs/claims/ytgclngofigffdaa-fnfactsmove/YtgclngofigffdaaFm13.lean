/-
  CONTRACT of the program's FactsShift.
-/
import Derived.Test.YtgclngofigffdaaFm11
namespace Go.Proofs.Ytgclngofigffdaa
open Go.RowKit

/-- What is said of symbol i and the first u others is moved. -/
def shP (i u : Nat) (c : Int) (f : Tab) : Tab := fun a b => if a = i ∧ b < u ∧ b ≠ i then min (f i b + c) (capT i b) else if b = i ∧ a < u ∧ a ≠ i then min (f a i - c) (capT a i) else f a b
def shT (i : Nat) (c : Int) (f : Tab) : Tab := fun a b => if a = i ∧ b ≠ i then min (f i b + c) (capT i b) else if b = i ∧ a ≠ i then min (f a i - c) (capT a i) else f a b
theorem shP_none (i : Nat) (c : Int) (f : Tab) : shP i 0 c f = f := by
  funext a b
  unfold shP
  rw [if_neg (by omega), if_neg (by omega)]
theorem shP_all {n i : Nat} (c : Int) (f : Tab) {a b : Nat} (ha : a < n) (hb : b < n) : shP i n c f a b = shT i c f a b := by
  unfold shP shT
  by_cases h : a = i ∧ b ≠ i
  · rw [if_pos ⟨h.1, hb, h.2⟩, if_pos h]
  · rw [if_neg (fun e => h ⟨e.1, e.2.2⟩), if_neg h]
    by_cases h2 : b = i ∧ a ≠ i
    · rw [if_pos ⟨h2.1, ha, h2.2⟩, if_pos h2]
    · rw [if_neg (fun e => h2 ⟨e.1, e.2.2⟩), if_neg h2]
theorem shP_skip (i : Nat) (c : Int) (f : Tab) : shP i (i + 1) c f = shP i i c f := by
  funext a b
  unfold shP
  by_cases h : a = i ∧ b < i ∧ b ≠ i
  · rw [if_pos h, if_pos (by omega)]
  · rw [if_neg h, if_neg (by omega)]
    by_cases h2 : b = i ∧ a < i ∧ a ≠ i
    · rw [if_pos h2, if_pos (by omega)]
    · rw [if_neg h2, if_neg (by omega)]
theorem shP_step {i j : Nat} (c : Int) (f : Tab) (hij : j ≠ i) {a b : Nat} : (if a = j ∧ b = i then min (shP i j c f j i - c) (capT j i) else if a = i ∧ b = j then min (shP i j c f i j + c) (capT i j) else shP i j c f a b) = shP i (j + 1) c f a b := by
  have e1 : shP i j c f j i = f j i := by unfold shP; rw [if_neg (by omega), if_neg (by omega)]
  have e2 : shP i j c f i j = f i j := by unfold shP; rw [if_neg (by omega), if_neg (by omega)]
  rw [e1, e2]
  unfold shP
  by_cases h1 : a = j ∧ b = i
  · obtain ⟨rfl, rfl⟩ := h1
    rw [if_pos ⟨rfl, rfl⟩, if_neg (by omega), if_pos (by omega)]
  · rw [if_neg h1]
    by_cases h2 : a = i ∧ b = j
    · obtain ⟨rfl, rfl⟩ := h2
      rw [if_pos ⟨rfl, rfl⟩, if_pos (by omega)]
    · rw [if_neg h2]
      by_cases h3 : a = i ∧ b < j ∧ b ≠ i
      · rw [if_pos h3, if_pos (by omega)]
      · have h3' : ¬ (a = i ∧ b < j + 1 ∧ b ≠ i) := by omega
        rw [if_neg h3, if_neg h3']
        by_cases h4 : b = i ∧ a < j ∧ a ≠ i
        · rw [if_pos h4, if_pos (by omega)]
        · have h4' : ¬ (b = i ∧ a < j + 1 ∧ a ≠ i) := by omega
          rw [if_neg h4, if_neg h4']
theorem shP_row {i j : Nat} (c : Int) (f : Tab) : shP i j c f i j = f i j := by unfold shP; rw [if_neg (by omega), if_neg (by omega)]
theorem shP_col {i j : Nat} (c : Int) (f : Tab) : shP i j c f j i = f j i := by unfold shP; rw [if_neg (by omega), if_neg (by omega)]
theorem clo_fine2 {n : Nat} {f : Tab} (hle : ∀ a b, a < n → b < n → f a b ≤ capT a b) (hd : ∀ a, a < n → f a a ≤ 0) (hc : cloB n f = true) : Fine n (clo n f) := fun a b ha hb => by
  have hcz := clo_closed hd hc
  have q1 := clo_le n f a b
  have q2 := clo_le n f b a
  have q3 := closed_low hcz ha hb
  have q5 := hle a b ha hb
  have q6 := hle b a hb ha
  have q7 := cap_le b a
  exact ⟨by omega, by omega, fun e => by subst e; exact hcz.1 a ha⟩
theorem shT_bd {n : Nat} {f : Tab} (h : Fine n f) {i : Nat} (hi : i < n) {c : Int} (h0 : -2000000 ≤ c) (h1 : c ≤ 2000000) : Bd n (shT i c f) 10000000 := fun a b ha hb => by
  have q1 := h a b ha hb
  have q2 := h i b hi hb
  have q3 := h a i ha hi
  have q4 := cap_le a b
  have q5 := cap_le i b
  have q6 := cap_le a i
  unfold shT
  split
  · omega
  · split <;> omega
theorem shT_cap {n : Nat} {f : Tab} (h : Fine n f) {i : Nat} (c : Int) : (∀ a b, a < n → b < n → shT i c f a b ≤ capT a b) ∧ ∀ a, a < n → shT i c f a a ≤ 0 := by
  refine ⟨fun a b ha hb => ?_, fun a ha => ?_⟩
  · have q1 := h a b ha hb
    unfold shT
    split
    · rename_i e; obtain ⟨rfl, _⟩ := e; omega
    · split
      · rename_i e; obtain ⟨rfl, _⟩ := e; omega
      · omega
  · have q1 := (h a a ha ha).2.2 rfl
    unfold shT
    rw [if_neg (by omega), if_neg (by omega)]
    omega
/-- What may be moved. -/
def shB (i c m : Int) : Bool := setB i m && btw c (-2000000) 2000000
/-- What FactsShift answers. -/
def shF (z : Int) (l : List Int) (i c : Int) : Option Tab := if shB i c (outZ (okO z l) z.toNat) then (((okO z l).bind (cloO z.toNat)).map (shT i.toNat c)).bind (cloO z.toNat) else none
theorem sh_nat {n : Nat} {o : Option Tab} {i c : Int} (h : shB i c (outZ o n) = true) : (∃ k : Nat, i = k ∧ 1 ≤ k ∧ k < n) ∧ -2000000 ≤ c ∧ c ≤ 2000000 := by
  unfold shB at h
  rw [Bool.and_eq_true] at h
  have := of_decide_eq_true h.2
  exact ⟨set_nat h.1, this.1, this.2⟩
theorem sh_good {n : Nat} {o : Option Tab} (h : FineO n o) {i : Nat} (hi : i < n) {c : Int} (h0 : -2000000 ≤ c) (h1 : c ≤ 2000000) : GoodO n (o.map (shT i c)) := fun g e => by
  cases o with
  | none => cases e
  | some f => cases e; obtain ⟨q1, q2, q3⟩ := h f rfl; exact ⟨q1, q2, shT_bd q3 hi h0 h1⟩
theorem shF_fine (z : Int) (l : List Int) (i c : Int) : FineO z.toNat (shF z l i c) := by
  unfold shF
  split
  · rename_i h
    intro g e
    have hf := clo_fineO (okO_fine z l)
    cases ho : (okO z l).bind (cloO z.toNat) with
    | none => rw [ho] at e; cases e
    | some f =>
      rw [ho] at e hf
      obtain ⟨q1, q2, q3⟩ := hf f rfl
      simp only [Option.map_some, Option.bind_some, cloO] at e
      split at e
      · rename_i hc
        cases e
        have := shT_cap q3 (i := i.toNat) c
        exact ⟨q1, q2, clo_fine2 this.1 this.2 hc⟩
      · cases e
  · exact fun f e => by cases e
theorem gridP_two {n : Nat} (hn : n ≤ 13) (f : Tab) {i j : Nat} (hi : i < n) (hj : j < n) (x y : Int) : ((grid n f).set (i * 13 + j) x).set (j * 13 + i) y = grid n (fun a b => if a = j ∧ b = i then y else if a = i ∧ b = j then x else f a b) := by
  rw [grid_set hn f hi hj, grid_set hn _ hj hi]
theorem sh_tab (n : Nat) (o : Option Tab) (h : FineO n o) (i : Nat) (hi : i < n) (c : Int) : ∃ (m : Nat) (P : Nat → List Int), D n o = dA m (P 0) ∧ D n (o.map (shT i c)) = dA m (P m) ∧ m ≤ 13 ∧ (0 < m → i < m) ∧ (∀ u, (P u).length = 169) ∧
    ∀ j, j < m → (j = i → P (j + 1) = P j) ∧ (j ≠ i → ∃ x1 x2, (P j).getD (i * 13 + j) 0 = x1 ∧ (P j).getD (j * 13 + i) 0 = x2 ∧ (-2000000 ≤ x1 ∧ x1 ≤ 2000000) ∧ (-2000000 ≤ x2 ∧ x2 ≤ 2000000) ∧ ((P j).set (i * 13 + j) (min (x1 + c) (capT i j))).set (j * 13 + i) (min (x2 - c) (capT j i)) = P (j + 1)) := by
  cases o with
  | none => exact ⟨0, fun _ => zs, rfl, rfl, by omega, fun h => by omega, fun _ => zs_len, fun j hj => by omega⟩
  | some f =>
    obtain ⟨h1, h2, h3⟩ := h f rfl
    refine ⟨n, fun u => grid n (shP i u c f), by show dA n (grid n f) = dA n (grid n (shP i 0 c f)); rw [shP_none], ?_, h2, fun _ => hi, fun u => grid_len _ _, fun j hj => ⟨fun e => ?_, fun e => ⟨f i j, f j i, ?_, ?_, ?_, ?_, ?_⟩⟩⟩
    · show dA n (grid n (shT i c f)) = dA n (grid n (shP i n c f))
      rw [grid_congr h2 fun a b ha hb => shP_all c f ha hb]
    · subst e
      show grid n (shP j (j + 1) c f) = grid n (shP j j c f)
      rw [shP_skip]
    · exact (grid_V h2 _ i j hi hj).trans (shP_row c f)
    · exact (grid_V h2 _ j i hj hi).trans (shP_col c f)
    · have := h3 i j hi hj; have := cap_le i j; omega
    · have := h3 j i hj hi; have := cap_le j i; omega
    · show ((grid n (shP i j c f)).set (i * 13 + j) (min (f i j + c) (capT i j))).set (j * 13 + i) (min (f j i - c) (capT j i)) = grid n (shP i (j + 1) c f)
      rw [gridP_two h2 _ hi hj]
      refine grid_congr h2 fun a b _ _ => ?_
      have := shP_step c f e (a := a) (b := b)
      rw [shP_row, shP_col] at this
      exact this
set_option maxRecDepth 100000 in
set_option maxHeartbeats 1600000 in
theorem iShift_any (z : Int) (l : List Int) (a : Option Addr) (c0 : Nat) (i c : Int) (w : World) (hc : l.length ≤ c0) (hl : IntsAt w a l) : Calls Try.prog 29 #[.agg #[.int .i64 z, .slice a l.length c0], .int .i64 i, .int .i64 c] w fun e w' => Gives w w' e (outZ (shF z l i c) z.toNat) (outL (shF z l i c) z.toNat) := by
  have HC := mkHid hc
  have HL := mkHid hl
  have HF := mkHid (okO_fine z l)
  have B0 := mkHid (((Below.refl w.heap.size w).alloc (Nat.le_refl _) (.cells #[.int .i64 z, .slice a l.length c0] 26)).alloc (by simp) (.cells #[.int .i64 0, .slice none 0 0] 26))
  have Z0 := mkHid (Fz.new (w.alloc (.cells #[.int .i64 z, .slice a l.length c0] 26)))
  obtain ⟨G, hG, hGl⟩ := D_out z.toNat (okO z l)
  have HD : Hid (∀ v, IntsAt v a l → Calls Try.prog 39 #[.agg #[.int .i64 z, .slice a l.length c0]] v fun e w' => e = .returned (.agg (dA (outZ (okO z l) z.toNat) G)) ∧ Below v.heap.size v w') := mkHid fun v hv => by rw [← hG]; exact diffsD z l a c0 v HC.out hv
  have HCL : Hid (∀ v, Calls Try.prog 40 #[.agg (dA (outZ (okO z l) z.toNat) G)] v fun e w' => e = .returned (.agg (D z.toNat ((okO z l).bind (cloO z.toNat)))) ∧ Below v.heap.size v w') := mkHid fun v => by rw [← hG]; exact closedD z.toNat (okO z l) (okO_fine z l).good v
  have HF2 := mkHid (clo_fineO (okO_fine z l))
  have HCF : Hid (∀ v, shB i c (outZ (okO z l) z.toNat) = true → Calls Try.prog 40 #[.agg (D z.toNat (((okO z l).bind (cloO z.toNat)).map (shT i.toNat c)))] v fun e w' => e = .returned (.agg (D z.toNat (shF z l i c))) ∧ Below v.heap.size v w') := mkHid fun v h0 => by
    have hf : shF z l i c = (((okO z l).bind (cloO z.toNat)).map (shT i.toNat c)).bind (cloO z.toNat) := by unfold shF; rw [h0]; rfl
    rw [hf]
    obtain ⟨⟨i', rfl, _, hi'⟩, h3, h4⟩ := sh_nat h0
    exact closedD z.toNat _ (sh_good (clo_fineO (okO_fine z l)) (by simpa using hi') h3 h4) v
  have HFA := mkHid (shF_fine z l i c)
  have HNO : Hid (shB i c (outZ (okO z l) z.toNat) = false → shF z l i c = none) := mkHid fun h => by unfold shF; rw [h]; rfl
  have HNAT : Hid (shB i c (outZ (okO z l) z.toNat) = true → (∃ k : Nat, i = k ∧ 1 ≤ k ∧ k < z.toNat) ∧ -2000000 ≤ c ∧ c ≤ 2000000) := mkHid fun h => sh_nat h
  obtain ⟨R, hR⟩ : ∃ R, shF z l i c = R := ⟨_, rfl⟩
  rw [hR] at HCF HFA HNO
  rw [hR]
  obtain ⟨n, hn⟩ : ∃ n, z.toNat = n := ⟨_, rfl⟩
  rw [hn] at HD HCL HCF HFA HNO HF HF2 HNAT
  rw [hn]
  obtain ⟨m, hm⟩ : ∃ m, outZ (okO z l) n = m := ⟨_, rfl⟩
  rw [hm] at HD HCL HCF HNO HNAT
  obtain ⟨o2, ho2⟩ : ∃ o2, (okO z l).bind (cloO n) = o2 := ⟨_, rfl⟩
  rw [ho2] at HCL HCF HF2
  clear ho2
  have HGL := mkHid hGl
  clear hc hl hG hGl hR hn hm
  have hzc := zc64
  go_enter Try.func29, Try.ntmps29
  go_wp2_with fail
  refine (HD.out _ (HL.out.below B0.out)).mono ?_
  rintro e w1 ⟨rfl, hb1⟩
  have B1 := mkHid (below_step B0.out hb1)
  have Z1 : Hid (Fz w1 (w.heap.size + 1)) := mkHid (by have := Z0.out.below hb1; simpa using this)
  have s1 := Z1.out.lt
  have N1 := mkHid (Dif.new w1 (n := 0) zs_len 59)
  clear hb1 B0 Z0
  go_wp2_with (first | (refine wp_store64 N1.out HGL.out rfl rfl rfl rfl ?_; intro w2 hD2 hg2) | (refine wp_load64 hD2 rfl rfl rfl ?_))
  have B2 := mkHid ((B1.out.alloc B1.out.size _).grown hg2 (by have := B1.out.size; simp; omega) (fun q hq => by cases hq; exact B1.out.size))
  have Z2 := mkHid ((Z1.out.alloc _).grown hg2 (some_ne (by omega)))
  have D2 := mkHid hD2
  obtain ⟨b1, hb1⟩ : ∃ b, w1.heap.size = b := ⟨_, rfl⟩
  rw [hb1] at D2
  rw [hb1]
  have hwb : w.heap.size + 1 < b1 := by omega
  clear hD2 hg2 N1 B1 Z1 s1 hb1
  refine (canSet_any m G HGL.out i _).mono ?_
  rintro e w3 ⟨rfl, hb3⟩
  have B3 := mkHid (below_step B2.out hb3)
  have Z3 := mkHid (Z2.out.below hb3)
  have D3 := mkHid (D2.out.below hb3)
  clear hb3 B2 Z2 D2
  cases hi : setB i m
  · have e1 : Hid (R = none) := mkHid (HNO.out (by unfold shB; rw [hi]; rfl))
    obtain ⟨⟨z0, z1⟩, z2, z3⟩ := Z3.out
    go_wp2
    refine bodyPost_ret (v := .agg #[.int .i64 0, .slice none 0 0]) (by simp [results, Try.results29, go_sem, z0, z1]) rfl ?_
    rw [e1.out]
    exact ⟨none, 0, rfl, OwnI.nil _ _, none_shut B3.out (Nat.le_succ _) _ _⟩
  · cases hcb : btw c (-2000000) 2000000
    · have e1 : Hid (R = none) := mkHid (HNO.out (by unfold shB; rw [hi, hcb]; rfl))
      obtain ⟨⟨z0, z1⟩, z2, z3⟩ := Z3.out
      go_wp2_with (first | (go_at_call 69; refine (isGap_any _ _).mono ?_; rintro e w' ⟨rfl, rfl⟩))
      refine bodyPost_ret (v := .agg #[.int .i64 0, .slice none 0 0]) (by simp [results, Try.results29, go_sem, z0, z1]) rfl ?_
      rw [e1.out]
      exact ⟨none, 0, rfl, OwnI.nil _ _, none_shut B3.out (Nat.le_succ _) _ _⟩
    · have hcp : shB i c m = true := by unfold shB; rw [hi, hcb]; rfl
      have HCF2 := mkHid (fun v => HCF.out v hcp)
      obtain ⟨⟨i', rfl, hi0, hi1⟩, hc0, hc1⟩ := HNAT.out hcp
      rw [show ((i' : Int)).toNat = i' from Int.toNat_natCast i'] at HCF2
      clear hcp hi HCF HNO HNAT
      go_wp2_with (first | (go_at_call 69; refine (isGap_any _ _).mono ?_; rintro e w' ⟨rfl, rfl⟩) | (refine wp_load64 D3.out rfl rfl rfl ?_))
      refine (HCL.out _).mono ?_
      rintro e w5 ⟨rfl, hb5⟩
      have B5 := mkHid (below_step B3.out hb5)
      have Z5 := mkHid (Z3.out.below hb5)
      have D5 := mkHid (D3.out.below hb5)
      clear hb5 B3 Z3 D3
      obtain ⟨m2, P, e2, e3, hm2, him, hPl, hst⟩ := sh_tab n o2 HF2.out i' hi1 c
      rw [e2]
      rw [e3] at HCF2
      have HPL := mkHid hPl
      have HST := mkHid hst
      have hwb1 : w.heap.size + 1 ≠ b1 := by omega
      clear e2 e3 hPl hst
      go_wp2_with (first | (refine wp_store64 D5.out (HPL.out 0) rfl rfl rfl rfl ?_; intro w6 hD6 hg6; have c6 := hD6.size))
      have B6 := mkHid (B5.out.grown hg6 B5.out.size (fun q hq => by cases hq; omega))
      have Z6 := mkHid (Z5.out.grown hg6 (some_ne (by omega)))
      have D6 := mkHid hD6
      clear hD6 hg6 B5 Z5 D5 c6
      have hMin : ∀ (v : World) (ts : Array TypeId) (t : TypeId) (x y : Int), (Builtin.min_ ts t #[.int .i64 x, .int .i64 y]).run Try.prog v = .ok (.int .i64 (min x y)) v := run_min_M
      go_loopg [25] m2 (fun gh s wr => ∃ j : Nat, j + gh = m2 ∧ s = .int .i64 j ∧ Dif wr b1 m2 (P j) ∧ Fz wr (w.heap.size + 1) ∧ Below w.heap.size w wr)
      case atStart => exact ⟨0, by omega, rfl, D6.out, Z6.out, B6.out⟩
      case round =>
        obtain ⟨j, hjg, rfl, hDr, hZr, hBr⟩ := hrel
        have HDr := mkHid hDr
        have HZr := mkHid hZr
        have HBr := mkHid hBr
        clear hZr hBr D6 Z6 B6
        cases gk with
        | zero =>
          have hlt : ¬ ((j : Int) < (m2 : Int)) := by omega
          have e : j = m2 := by omega
          subst e
          clear hDr
          go_wp2_with (first | (refine wp_load64 HDr.out rfl rfl rfl ?_))
          refine (HCF2.out _).mono ?_
          rintro e w7 ⟨rfl, hb7⟩
          have B7 := mkHid (below_step HBr.out hb7)
          have Z7 := mkHid (HZr.out.below hb7)
          clear hb7
          go_wp2_with fail
          refine (factsD n _ HFA.out.good _).mono ?_
          rintro e w9 ⟨ao, cap, rfl, ho, hb9⟩
          obtain ⟨⟨z0, z1⟩, z2, z3⟩ := Z7.out.below hb9
          have HE := mkHid (fun v0 v1 => Gives.shut (b := w.heap.size + 1) B7.out (Nat.le_succ _) Z7.out.lt ho hb9 v0 v1)
          clear hb9 ho
          go_wp2
          exact bodyPost_ret (v := .agg #[.int .i64 (outZ R n), .slice ao (outL R n).length cap]) (by simp [results, Try.results29, go_sem, z0, z1]) rfl ⟨ao, cap, rfl, (HE.out _ _).1, (HE.out _ _).2⟩
        | succ gh =>
          have hlt : (j : Int) < (m2 : Int) := by omega
          obtain ⟨hs1, hs2⟩ := HST.out j (by omega)
          by_cases hji : j = i'
          · have HS := mkHid (hs1 hji)
            have hbj : ((j : Int) != (i' : Int)) = false := by simp [hji]
            clear hs1 hs2 hji hDr
            go_wp2
            go_roundg gh
            case measure => omega
            case rel => exact ⟨j + 1, by omega, by go_num, by rw [HS.out]; exact HDr.out, HZr.out, HBr.out⟩
          · have hbj : ((j : Int) != (i' : Int)) = true := by simp; omega
            obtain ⟨x1, x2, hx1, hx2, bx1, bx2, hS⟩ := hs2 hji
            have HS := mkHid hS
            have hi2 := him (by omega)
            have c1 := hDr.at (i := i') (j := j) (by omega) (by omega) hx1
            have c2 := hDr.at (i := j) (j := i') (by omega) (by omega) hx2
            have f1 := hDr.free (o := 1 + i' * 13 + j) (by omega)
            have f2 := hDr.free (o := 1 + j * 13 + i') (by omega)
            have hn1 : ¬ (1 + i' * 13 + j = 1 + j * 13 + i') := by omega
            have hn2 : ¬ (1 + j * 13 + i' = 1 + i' * 13 + j) := by omega
            have hw1 : IntKind.i64.wrap (x1 + c) = x1 + c := IntWalk.i64_in _ (by omega)
            have hw2 : IntKind.i64.wrap (x2 - c) = x2 - c := IntWalk.i64_in _ (by omega)
            have a0 : (0 : Int) ≤ (i' : Int) := by omega
            have a1 : (i' : Int) < 13 := by omega
            have a2 : (0 : Int) ≤ (j : Int) := by omega
            have a3 : (j : Int) < 13 := by omega
            clear hs1 hs2 hji hS hx1 hx2 hDr bx1 bx2
            obtain ⟨y1, hy1⟩ : ∃ y, min (x1 + c) (capT i' j) = y := ⟨_, rfl⟩
            obtain ⟨y2, hy2⟩ : ∃ y, min (x2 - c) (capT j i') = y := ⟨_, rfl⟩
            rw [hy1, hy2] at HS
            go_wp2_with fail
            go_region_with (go_at_call 48; refine (iCap_any _ _ _).mono ?_; rintro e w' ⟨rfl, rfl⟩)
            all_goals
              have D7 := mkHid ((HDr.out.put (i := i') (j := j) (by omega) (by omega) y1).drew)
              have Z7 := mkHid ((HZr.out.grown (grown_setCell wr ⟨b1, 1 + i' * 13 + j, none⟩ (.int .i64 y1)) (some_ne hwb1)).below (Below.refl _ _).drew)
              have B7 := mkHid (HBr.out.setCell (p := ⟨b1, 1 + i' * 13 + j, none⟩) (by show w.heap.size ≤ b1; omega) (.int .i64 y1)).drew
              have c3 : (wr.setCell ⟨b1, 1 + i' * 13 + j, none⟩ (.int .i64 y1)).drew.cell? ⟨b1, 1 + j * 13 + i', none⟩ = some (.int .i64 x2) := by
                show (wr.setCell ⟨b1, 1 + i' * 13 + j, none⟩ (.int .i64 y1)).cell? ⟨b1, 1 + j * 13 + i', none⟩ = _
                rw [World.cell?_setCell_other _ _ _ _ (fun e => hn1 (congrArg Addr.off e))]; exact c2
              have f3 := D7.out.free (o := 1 + j * 13 + i') (by omega)
              obtain ⟨w7, hw7⟩ : ∃ w7, (wr.setCell ⟨b1, 1 + i' * 13 + j, none⟩ (.int .i64 y1)).drew = w7 := ⟨_, rfl⟩
              rw [hw7] at D7 Z7 B7 c3 f3
              rw [hw7]
              clear hw7 c1 c2 f1 f2
              go_wp2_with fail
              go_region_with (go_at_call 48; refine (iCap_any _ _ _).mono ?_; rintro e w' ⟨rfl, rfl⟩)
              all_goals
                have D8 : Hid (Dif (w7.setCell ⟨b1, 1 + j * 13 + i', none⟩ (.int .i64 y2)).drew b1 m2 (P (j + 1))) := mkHid (by rw [← HS.out]; exact (D7.out.put (i := j) (j := i') (by omega) (by omega) y2).drew)
                have Z8 := mkHid ((Z7.out.grown (grown_setCell w7 ⟨b1, 1 + j * 13 + i', none⟩ (.int .i64 y2)) (some_ne hwb1)).below (Below.refl _ _).drew)
                have B8 := mkHid (B7.out.setCell (p := ⟨b1, 1 + j * 13 + i', none⟩) (by show w.heap.size ≤ b1; omega) (.int .i64 y2)).drew
                obtain ⟨w8, hw8⟩ : ∃ w8, (w7.setCell ⟨b1, 1 + j * 13 + i', none⟩ (.int .i64 y2)).drew = w8 := ⟨_, rfl⟩
                rw [hw8] at D8 Z8 B8
                rw [hw8]
                clear hw8 c3 f3
                go_wp2
                go_roundg gh
                case measure => omega
                case rel => exact ⟨j + 1, by omega, by go_num, D8.out, Z8.out, B8.out⟩
end Go.Proofs.Ytgclngofigffdaa
