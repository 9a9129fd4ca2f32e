/-
  CONTRACT of the program's freed.
  CONTRACT of the program's FactsForget.
-/
import Derived.Test.YtgclngofigffdaaFm07
import Derived.Test.YtgclngofigffdaaFm10
namespace Go.Proofs.Ytgclngofigffdaa
open Go.RowKit

/-- The first u of what is said of symbol i are the caps. -/
def freeP (i u : Nat) (f : Tab) : Tab := fun a b => if a = i ∧ b < u ∨ b = i ∧ a < u then capT a b else f a b
def freeT (i : Nat) (f : Tab) : Tab := fun a b => if a = i ∨ b = i then capT a b else f a b
theorem freeP_none (i : Nat) (f : Tab) : freeP i 0 f = f := by
  funext a b
  unfold freeP
  rw [if_neg (by omega)]
theorem freeP_all {n i : Nat} (f : Tab) {a b : Nat} (ha : a < n) (hb : b < n) : freeP i n f a b = freeT i f a b := by
  unfold freeP freeT
  by_cases h : a = i ∨ b = i
  · rw [if_pos (by omega), if_pos h]
  · rw [if_neg (by omega), if_neg h]
theorem free_step {n i j : Nat} (hn : n ≤ 13) (f : Tab) (hi : i < n) (hj : j < n) : ((grid n (freeP i j f)).set (i * 13 + j) (capT i j)).set (j * 13 + i) (capT j i) = grid n (freeP i (j + 1) f) := by
  rw [grid_set hn _ hi hj, grid_set hn _ hj hi]
  refine grid_congr hn fun a b _ _ => ?_
  unfold freeP
  by_cases h1 : a = j ∧ b = i
  · obtain ⟨rfl, rfl⟩ := h1
    rw [if_pos ⟨rfl, rfl⟩, if_pos (by omega)]
  · rw [if_neg h1]
    by_cases h2 : a = i ∧ b = j
    · obtain ⟨rfl, rfl⟩ := h2
      rw [if_pos ⟨rfl, rfl⟩, if_pos (by omega)]
    · rw [if_neg h2]
      by_cases h3 : a = i ∧ b < j ∨ b = i ∧ a < j
      · rw [if_pos h3, if_pos (by omega)]
      · rw [if_neg h3, if_neg (by omega)]
set_option maxRecDepth 100000 in
set_option maxHeartbeats 3200000 in
theorem freed_some (n : Nat) (f : Tab) (h2 : n ≤ 13) (i : Nat) (hi : i < n) (w : World) : Calls Try.prog 68 #[.agg (dA n (grid n f)), .int .i64 i] w fun e w' => e = .returned (.agg (dA n (grid n (freeT i f)))) ∧ Below w.heap.size w w' := by
  have hz := zc64
  have h0 := dA0 n (grid n f)
  have D0 : Hid (Dif ((w.alloc (.cells (dA n (grid n f)) 59)).alloc (.cells (dA 0 zs) 59)) w.heap.size n (grid n (freeP i 0 f))) := mkHid (by rw [freeP_none]; exact (Dif.new w (n := n) (grid_len n f) 59).alloc (.cells (dA 0 zs) 59))
  have R0 := mkHid (Dif.new (w.alloc (.cells (dA n (grid n f)) 59)) (n := 0) zs_len 59)
  have B0 := mkHid (((Below.refl w.heap.size w).alloc (Nat.le_refl _) (.cells (dA n (grid n f)) 59)).alloc (by simp) (.cells (dA 0 zs) 59))
  have HEND : Hid (grid n (freeP i n f) = grid n (freeT i f)) := mkHid (grid_congr h2 fun a b ha hb => freeP_all f ha hb)
  have HGL := mkHid (grid_len n (freeT i f))
  have HST : Hid (∀ j, j < n → ((grid n (freeP i j f)).set (i * 13 + j) (capT i j)).set (j * 13 + i) (capT j i) = grid n (freeP i (j + 1) f)) := mkHid fun j hj => free_step h2 f hi hj
  obtain ⟨P, hP⟩ : ∃ P : Nat → List Int, (fun u => grid n (freeP i u f)) = P := ⟨_, rfl⟩
  have e0 : ∀ u, grid n (freeP i u f) = P u := fun u => by rw [← hP]
  have HPL : Hid (∀ u, (P u).length = 169) := mkHid fun u => by rw [← e0]; exact grid_len _ _
  simp only [e0] at D0 HEND HST
  obtain ⟨E, hE⟩ : ∃ E, grid n (freeT i f) = E := ⟨_, rfl⟩
  rw [hE] at HEND HGL
  rw [hE]
  obtain ⟨G, hG⟩ : ∃ G, grid n f = G := ⟨_, rfl⟩
  rw [hG] at D0 R0 B0 h0
  rw [hG]
  clear hP e0 hE hG
  go_enter Try.func68, Try.ntmps68
  go_wp2
  go_loopg [8] n (fun g s wr => ∃ (j : Nat), j + g = n ∧ s = .int .i64 j ∧ Dif wr w.heap.size n (P j) ∧ Dif wr (w.heap.size + 1) 0 zs ∧ Below w.heap.size w wr)
  case atStart => exact ⟨0, by omega, rfl, D0.out, by simpa using R0.out, B0.out⟩
  case round =>
    obtain ⟨j, hjg, rfl, hD, hR, hB⟩ := hrel
    have HD := mkHid hD
    have HR := mkHid hR
    have HB := mkHid hB
    clear hR hB D0 R0 B0
    cases gk with
    | zero =>
      have hlt : ¬ ((j : Int) < (n : Int)) := by omega
      have e : j = n := by omega
      subst e
      rw [HEND.out] at HD
      clear hD
      go_wp2_with (first | (refine wp_load64 HD.out rfl rfl rfl ?_) | (refine wp_store64 HR.out HGL.out rfl rfl rfl rfl ?_; intro w2 hD2 hg2))
      exact ret64 rfl hD2 rfl rfl ⟨rfl, HB.out.grown hg2 HB.out.size (fun q hq => by cases hq; omega)⟩
    | succ g =>
      have hlt : (j : Int) < (n : Int) := by omega
      obtain ⟨x1, hx1⟩ : ∃ x, (P j).getD (i * 13 + j) 0 = x := ⟨_, rfl⟩
      obtain ⟨x2, hx2⟩ : ∃ x, (P j).getD (j * 13 + i) 0 = x := ⟨_, rfl⟩
      have c1 := hD.at (i := i) (j := j) (by omega) (by omega) hx1
      have c2 := hD.at (i := j) (j := i) (by omega) (by omega) hx2
      have f1 := hD.free (o := 1 + i * 13 + j) (by omega)
      have f2 := hD.free (o := 1 + j * 13 + i) (by omega)
      have a0 : (0 : Int) ≤ (i : Int) := by omega
      have a1 : (i : Int) < 13 := by omega
      have a2 : (0 : Int) ≤ (j : Int) := by omega
      have a3 : (j : Int) < 13 := by omega
      have HS := mkHid (HST.out j (by omega))
      clear hx1 hx2 hD
      by_cases hij : i = j
      · subst hij
        clear c2 f2 a2 a3
        go_wp2_with fail
        go_region_with (go_at_call 48; refine (iCap_any _ _ _).mono ?_; rintro e w' ⟨rfl, rfl⟩)
        all_goals
          have D2 : Hid (Dif ((wr.setCell ⟨w.heap.size, 1 + i * 13 + i, none⟩ (.int .i64 (capT i i))).setCell ⟨w.heap.size, 1 + i * 13 + i, none⟩ (.int .i64 (capT i i))).drew w.heap.size n (P (i + 1))) := mkHid (by rw [← HS.out]; exact ((HD.out.put (by omega) (by omega) _).put (by omega) (by omega) _).drew)
          have R2 := mkHid (((HR.out.grown (grown_setCell wr ⟨w.heap.size, 1 + i * 13 + i, none⟩ (.int .i64 (capT i i))) (some_ne (Nat.succ_ne_self _))).grown (grown_setCell _ ⟨w.heap.size, 1 + i * 13 + i, none⟩ (.int .i64 (capT i i))) (some_ne (Nat.succ_ne_self _))).drew)
          have B2 := mkHid ((HB.out.setCell (p := ⟨w.heap.size, 1 + i * 13 + i, none⟩) (Nat.le_refl _) (.int .i64 (capT i i))).setCell (p := ⟨w.heap.size, 1 + i * 13 + i, none⟩) (Nat.le_refl _) (.int .i64 (capT i i))).drew
          obtain ⟨w2, hw2⟩ : ∃ w2, ((wr.setCell ⟨w.heap.size, 1 + i * 13 + i, none⟩ (.int .i64 (capT i i))).setCell ⟨w.heap.size, 1 + i * 13 + i, none⟩ (.int .i64 (capT i i))).drew = w2 := ⟨_, rfl⟩
          rw [hw2] at D2 R2 B2
          rw [hw2]
          clear hw2 c1 f1
          go_wp2
          go_roundg g
          case measure => omega
          case rel => exact ⟨i + 1, by omega, by go_num, D2.out, R2.out, B2.out⟩
      · have hn1 : ¬ (1 + i * 13 + j = 1 + j * 13 + i) := by omega
        have hn2 : ¬ (1 + j * 13 + i = 1 + i * 13 + j) := by omega
        have HIJ := mkHid hij
        clear hij
        go_wp2_with fail
        go_region_with (go_at_call 48; refine (iCap_any _ _ _).mono ?_; rintro e w' ⟨rfl, rfl⟩)
        all_goals
          have D2 : Hid (Dif ((wr.setCell ⟨w.heap.size, 1 + i * 13 + j, none⟩ (.int .i64 (capT i j))).setCell ⟨w.heap.size, 1 + j * 13 + i, none⟩ (.int .i64 (capT j i))).drew w.heap.size n (P (j + 1))) := mkHid (by rw [← HS.out]; exact ((HD.out.put (by omega) (by omega) _).put (by omega) (by omega) _).drew)
          have R2 := mkHid (((HR.out.grown (grown_setCell wr ⟨w.heap.size, 1 + i * 13 + j, none⟩ (.int .i64 (capT i j))) (some_ne (Nat.succ_ne_self _))).grown (grown_setCell _ ⟨w.heap.size, 1 + j * 13 + i, none⟩ (.int .i64 (capT j i))) (some_ne (Nat.succ_ne_self _))).drew)
          have B2 := mkHid ((HB.out.setCell (p := ⟨w.heap.size, 1 + i * 13 + j, none⟩) (Nat.le_refl _) (.int .i64 (capT i j))).setCell (p := ⟨w.heap.size, 1 + j * 13 + i, none⟩) (Nat.le_refl _) (.int .i64 (capT j i))).drew
          obtain ⟨w2, hw2⟩ : ∃ w2, ((wr.setCell ⟨w.heap.size, 1 + i * 13 + j, none⟩ (.int .i64 (capT i j))).setCell ⟨w.heap.size, 1 + j * 13 + i, none⟩ (.int .i64 (capT j i))).drew = w2 := ⟨_, rfl⟩
          rw [hw2] at D2 R2 B2
          rw [hw2]
          clear hw2 c1 f1 c2 f2
          go_wp2
          go_roundg g
          case measure => omega
          case rel => exact ⟨j + 1, by omega, by go_num, D2.out, R2.out, B2.out⟩
end Go.Proofs.Ytgclngofigffdaa
namespace Go.Proofs.Ytgclngofigffdaa
open Go.RowKit

set_option maxRecDepth 100000 in
set_option maxHeartbeats 800000 in
theorem freed_none (i : Int) (w : World) : Calls Try.prog 68 #[.agg (dA 0 zs), .int .i64 i] w fun e w' => e = .returned (.agg (dA 0 zs)) ∧ Below w.heap.size w w' := by
  have hz := zc64
  have h0 := dA0 0 zs
  have D0 := mkHid ((Dif.new w (n := 0) zs_len 59).alloc (.cells (dA 0 zs) 59))
  have R0 : Hid (Dif ((w.alloc (.cells (dA 0 zs) 59)).alloc (.cells (dA 0 zs) 59)) (w.heap.size + 1) 0 zs) := mkHid (by have := Dif.new (w.alloc (.cells (dA 0 zs) 59)) (n := 0) zs_len 59; simpa using this)
  have B0 := mkHid (((Below.refl w.heap.size w).alloc (Nat.le_refl _) (.cells (dA 0 zs) 59)).alloc (by simp) (.cells (dA 0 zs) 59))
  go_enter Try.func68, Try.ntmps68
  go_wp2
  go_loopg [8] 0 (fun g s wr => s = .int .i64 0 ∧ wr = (w.alloc (.cells (dA 0 zs) 59)).alloc (.cells (dA 0 zs) 59))
  case atStart => exact ⟨rfl, rfl⟩
  case round =>
    obtain ⟨rfl, hw⟩ := hrel
    rw [← hw] at D0 R0 B0
    clear hw
    go_wp2_with (first | (refine wp_load64 D0.out rfl rfl rfl ?_) | (refine wp_store64 R0.out zs_len rfl rfl rfl rfl ?_; intro w2 hD2 hg2))
    exact ret64 rfl hD2 rfl rfl ⟨rfl, B0.out.grown hg2 B0.out.size (fun q hq => by cases hq; omega)⟩
theorem freedD (n : Nat) (o : Option Tab) (ho : GoodO n o) (i : Nat) (hi : ∀ f, o = some f → i < n) (w : World) : Calls Try.prog 68 #[.agg (D n o), .int .i64 i] w fun e w' => e = .returned (.agg (D n (o.map (freeT i)))) ∧ Below w.heap.size w w' := by
  cases o with
  | none => exact freed_none i w
  | some f => exact freed_some n f (ho f rfl).2.1 i (hi f rfl) w
theorem free_fine {n : Nat} {o : Option Tab} (h : FineO n o) (i : Nat) : FineO n (o.map (freeT i)) := fun g e => by
  cases o with
  | none => cases e
  | some f =>
    obtain ⟨h1, h2, h3⟩ := h f rfl
    cases e
    refine ⟨h1, h2, fun a b ha hb => ?_⟩
    have q := h3 a b ha hb
    have q2 := cap_le a b
    unfold freeT
    split
    · exact ⟨by omega, by omega, fun e => if_pos e⟩
    · exact q
theorem set_nat {n : Nat} {o : Option Tab} {i : Int} (h : setB i (outZ o n) = true) : ∃ k : Nat, i = k ∧ 1 ≤ k ∧ k < n := by
  unfold setB at h
  have h := of_decide_eq_true h
  refine ⟨i.toNat, by omega, by omega, ?_⟩
  have : outZ o n ≤ n := by unfold outZ; split <;> omega
  omega
/-- What FactsForget answers. -/
def forgF (z : Int) (l : List Int) (i : Int) : Option Tab := if setB i (outZ (okO z l) z.toNat) then ((okO z l).bind (cloO z.toNat)).map (freeT i.toNat) else none
theorem forgF_fine (z : Int) (l : List Int) (i : Int) : FineO z.toNat (forgF z l i) := by
  unfold forgF
  split
  · exact free_fine (clo_fineO (okO_fine z l)) _
  · exact fun f e => by cases e
set_option maxRecDepth 100000 in
set_option maxHeartbeats 1600000 in
theorem iForget_any (z : Int) (l : List Int) (a : Option Addr) (c0 : Nat) (i : Int) (w : World) (hc : l.length ≤ c0) (hl : IntsAt w a l) : Calls Try.prog 28 #[.agg #[.int .i64 z, .slice a l.length c0], .int .i64 i] w fun e w' => Gives w w' e (outZ (forgF z l i) z.toNat) (outL (forgF z l i) z.toNat) := by
  have HC := mkHid hc
  have HL := mkHid hl
  have HF := mkHid (okO_fine z l)
  have B0 := mkHid (((Below.refl w.heap.size w).alloc (Nat.le_refl _) (.cells #[.int .i64 z, .slice a l.length c0] 26)).alloc (by simp) (.cells #[.int .i64 0, .slice none 0 0] 26))
  have Z0 := mkHid (Fz.new (w.alloc (.cells #[.int .i64 z, .slice a l.length c0] 26)))
  obtain ⟨G, hG, hGl⟩ := D_out z.toNat (okO z l)
  have HD : Hid (∀ v, IntsAt v a l → Calls Try.prog 39 #[.agg #[.int .i64 z, .slice a l.length c0]] v fun e w' => e = .returned (.agg (dA (outZ (okO z l) z.toNat) G)) ∧ Below v.heap.size v w') := mkHid fun v hv => by rw [← hG]; exact diffsD z l a c0 v HC.out hv
  have HCL : Hid (∀ v, Calls Try.prog 40 #[.agg (dA (outZ (okO z l) z.toNat) G)] v fun e w' => e = .returned (.agg (D z.toNat ((okO z l).bind (cloO z.toNat)))) ∧ Below v.heap.size v w') := mkHid fun v => by rw [← hG]; exact closedD z.toNat (okO z l) (okO_fine z l).good v
  have HFR : Hid (∀ v, setB i (outZ (okO z l) z.toNat) = true → Calls Try.prog 68 #[.agg (D z.toNat ((okO z l).bind (cloO z.toNat))), .int .i64 i] v fun e w' => e = .returned (.agg (D z.toNat (forgF z l i))) ∧ Below v.heap.size v w') := mkHid fun v h => by
    have hf : forgF z l i = ((okO z l).bind (cloO z.toNat)).map (freeT i.toNat) := by unfold forgF; rw [h]; rfl
    obtain ⟨i', rfl, _, hi'⟩ := set_nat h
    rw [hf]
    have := freedD z.toNat _ (clo_fineO (okO_fine z l)).good i' (fun _ _ => hi') v
    simpa using this
  have HFA := mkHid (forgF_fine z l i)
  have HNO : Hid (setB i (outZ (okO z l) z.toNat) = false → forgF z l i = none) := mkHid fun h => by unfold forgF; rw [h]; rfl
  obtain ⟨R, hR⟩ : ∃ R, forgF z l i = R := ⟨_, rfl⟩
  rw [hR] at HFR HFA HNO
  rw [hR]
  obtain ⟨n, hn⟩ : ∃ n, z.toNat = n := ⟨_, rfl⟩
  rw [hn] at HD HCL HFR HFA HNO HF
  rw [hn]
  obtain ⟨m, hm⟩ : ∃ m, outZ (okO z l) n = m := ⟨_, rfl⟩
  rw [hm] at HD HCL HFR HNO
  obtain ⟨o2, ho2⟩ : ∃ o2, (okO z l).bind (cloO n) = o2 := ⟨_, rfl⟩
  rw [ho2] at HCL HFR
  clear ho2
  have HGL := mkHid hGl
  clear hc hl hG hGl hR hn hm
  have hzc := zc64
  go_enter Try.func28, Try.ntmps28
  go_wp2_with fail
  refine (HD.out _ (HL.out.below B0.out)).mono ?_
  rintro e w1 ⟨rfl, hb1⟩
  have B1 := mkHid (below_step B0.out hb1)
  have Z1 : Hid (Fz w1 (w.heap.size + 1)) := mkHid (by have := Z0.out.below hb1; simpa using this)
  have s1 := Z1.out.lt
  have N1 := mkHid (Dif.new w1 (n := 0) zs_len 59)
  clear hb1 B0 Z0
  go_wp2_with (first | (refine wp_store64 N1.out HGL.out rfl rfl rfl rfl ?_; intro w2 hD2 hg2) | (refine wp_load64 hD2 rfl rfl rfl ?_))
  have B2 := mkHid ((B1.out.alloc B1.out.size _).grown hg2 (by have := B1.out.size; simp; omega) (fun q hq => by cases hq; exact B1.out.size))
  have Z2 := mkHid ((Z1.out.alloc _).grown hg2 (some_ne (by omega)))
  have D2 := mkHid hD2
  obtain ⟨b1, hb1⟩ : ∃ b, w1.heap.size = b := ⟨_, rfl⟩
  rw [hb1] at D2
  rw [hb1]
  have hwb : w.heap.size + 1 < b1 := by omega
  clear hD2 hg2 N1 B1 Z1 s1 hb1
  refine (canSet_any m G HGL.out i _).mono ?_
  rintro e w3 ⟨rfl, hb3⟩
  have B3 := mkHid (below_step B2.out hb3)
  have Z3 := mkHid (Z2.out.below hb3)
  have D3 := mkHid (D2.out.below hb3)
  clear hb3 B2 Z2 D2
  cases hi : setB i m
  · have e1 : Hid (R = none) := mkHid (HNO.out hi)
    obtain ⟨⟨z0, z1⟩, z2, z3⟩ := Z3.out
    go_wp2
    refine bodyPost_ret (v := .agg #[.int .i64 0, .slice none 0 0]) (by simp [results, Try.results28, go_sem, z0, z1]) rfl ?_
    rw [e1.out]
    exact ⟨none, 0, rfl, OwnI.nil _ _, none_shut B3.out (Nat.le_succ _) _ _⟩
  · have HFR2 := mkHid (fun v => HFR.out v hi)
    clear hi
    go_wp2_with (first | (refine wp_load64 D3.out rfl rfl rfl ?_))
    refine (HCL.out _).mono ?_
    rintro e w5 ⟨rfl, hb5⟩
    have B5 := mkHid (below_step B3.out hb5)
    have Z5 := mkHid (Z3.out.below hb5)
    clear hb5 B3 Z3 D3
    go_wp2_with fail
    refine (HFR2.out _).mono ?_
    rintro e w6 ⟨rfl, hb6⟩
    have B6 := mkHid (below_step B5.out hb6)
    have Z6 := mkHid (Z5.out.below hb6)
    clear hb6 B5 Z5
    go_wp2_with fail
    refine (factsD n _ HFA.out.good _).mono ?_
    rintro e w9 ⟨ao, cap, rfl, ho, hb9⟩
    obtain ⟨⟨z0, z1⟩, z2, z3⟩ := Z6.out.below hb9
    have HE := mkHid (fun v0 v1 => Gives.shut (b := w.heap.size + 1) B6.out (Nat.le_succ _) Z6.out.lt ho hb9 v0 v1)
    clear hb9 ho
    go_wp2
    exact bodyPost_ret (v := .agg #[.int .i64 (outZ R n), .slice ao (outL R n).length cap]) (by simp [results, Try.results28, go_sem, z0, z1]) rfl ⟨ao, cap, rfl, (HE.out _ _).1, (HE.out _ _).2⟩
end Go.Proofs.Ytgclngofigffdaa
