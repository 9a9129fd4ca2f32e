/-
  CONTRACT of the program's FactsForget.
-/
import Derived.Test.YthhajdjpglpkoaaFr
import Derived.Test.YthhajdjpglpkoaaAt
namespace Go.Proofs.Ythhajdjpglpkoaa
open Go.RowKit

set_option maxRecDepth 100000 in
set_option maxHeartbeats 800000 in
theorem freed_none (i : Int) (w : World) : Calls Try.prog 58 #[.agg (dA 0 zs), .int .i64 i] w fun e w' => e = .returned (.agg (dA 0 zs)) ∧ Below w.heap.size w w' := by
  have hz := zc64
  have h0 := dA0 0 zs
  have D0 := mkHid ((Dif.new w (n := 0) zs_len 64).alloc (.cells (dA 0 zs) 64))
  have R0 : Hid (Dif ((w.alloc (.cells (dA 0 zs) 64)).alloc (.cells (dA 0 zs) 64)) (w.heap.size + 1) 0 zs) := mkHid (by have := Dif.new (w.alloc (.cells (dA 0 zs) 64)) (n := 0) zs_len 64; simpa using this)
  have B0 := mkHid (((Below.refl w.heap.size w).alloc (Nat.le_refl _) (.cells (dA 0 zs) 64)).alloc (by simp) (.cells (dA 0 zs) 64))
  go_enter Try.func58, Try.ntmps58
  go_wp2
  go_loopg [8] 0 (fun g s wr => s = .int .i64 0 ∧ wr = (w.alloc (.cells (dA 0 zs) 64)).alloc (.cells (dA 0 zs) 64))
  case atStart => exact ⟨rfl, rfl⟩
  case round =>
    obtain ⟨rfl, hw⟩ := hrel
    rw [← hw] at D0 R0 B0
    clear hw
    go_wp2_with (first | (refine wp_load64 D0.out rfl rfl rfl ?_) | (refine wp_store64 R0.out zs_len rfl rfl rfl rfl ?_; intro w2 hD2 hg2))
    exact ret64 rfl hD2 rfl rfl ⟨rfl, B0.out.grown hg2 B0.out.size (fun q hq => by cases hq; omega)⟩
theorem freedD (n : Nat) (o : Option Tab) (ho : GoodO n o) (i : Nat) (hi : ∀ f, o = some f → i < n) (w : World) : Calls Try.prog 58 #[.agg (D n o), .int .i64 i] w fun e w' => e = .returned (.agg (D n (o.map (freeT i)))) ∧ Below w.heap.size w w' := by
  cases o with
  | none => exact freed_none i w
  | some f => exact freed_some n f (ho f rfl).2.1 i (hi f rfl) w
theorem free_fine {n : Nat} {o : Option Tab} (h : FineO n o) (i : Nat) : FineO n (o.map (freeT i)) := fun g e => by
  cases o with
  | none => cases e
  | some f =>
    obtain ⟨h1, h2, h3⟩ := h f rfl
    cases e
    refine ⟨h1, h2, fun a b ha hb => ?_⟩
    have q := h3 a b ha hb
    have q2 := cap_le a b
    unfold freeT
    split
    · exact ⟨by omega, by omega, fun e => if_pos e⟩
    · exact q
theorem set_nat {n : Nat} {o : Option Tab} {i : Int} (h : setB i (outZ o n) = true) : ∃ k : Nat, i = k ∧ 1 ≤ k ∧ k < n := by
  unfold setB at h
  have h := of_decide_eq_true h
  refine ⟨i.toNat, by omega, by omega, ?_⟩
  have : outZ o n ≤ n := by unfold outZ; split <;> omega
  omega
/-- What FactsForget answers. -/
def forgF (z : Int) (l : List Int) (i : Int) : Option Tab := if setB i (outZ (okO z l) z.toNat) then ((okO z l).bind (cloO z.toNat)).map (freeT i.toNat) else none
theorem forgF_fine (z : Int) (l : List Int) (i : Int) : FineO z.toNat (forgF z l i) := by
  unfold forgF
  split
  · exact free_fine (clo_fineO (okO_fine z l)) _
  · exact fun f e => by cases e
set_option maxRecDepth 100000 in
set_option maxHeartbeats 1600000 in
theorem iForget_any (z : Int) (l : List Int) (a : Option Addr) (c0 : Nat) (i : Int) (w : World) (hc : l.length ≤ c0) (hl : IntsAt w a l) : Calls Try.prog 44 #[.agg #[.int .i64 z, .slice a l.length c0], .int .i64 i] w fun e w' => Gives w w' e (outZ (forgF z l i) z.toNat) (outL (forgF z l i) z.toNat) := by
  have HC := mkHid hc
  have HL := mkHid hl
  have HF := mkHid (okO_fine z l)
  have B0 := mkHid (((Below.refl w.heap.size w).alloc (Nat.le_refl _) (.cells #[.int .i64 z, .slice a l.length c0] 24)).alloc (by simp) (.cells #[.int .i64 0, .slice none 0 0] 24))
  have Z0 := mkHid (Fz.new (w.alloc (.cells #[.int .i64 z, .slice a l.length c0] 24)))
  obtain ⟨G, hG, hGl⟩ := D_out z.toNat (okO z l)
  have HD : Hid (∀ v, IntsAt v a l → Calls Try.prog 66 #[.agg #[.int .i64 z, .slice a l.length c0]] v fun e w' => e = .returned (.agg (dA (outZ (okO z l) z.toNat) G)) ∧ Below v.heap.size v w') := mkHid fun v hv => by rw [← hG]; exact diffsD z l a c0 v HC.out hv
  have HCL : Hid (∀ v, Calls Try.prog 67 #[.agg (dA (outZ (okO z l) z.toNat) G)] v fun e w' => e = .returned (.agg (D z.toNat ((okO z l).bind (cloO z.toNat)))) ∧ Below v.heap.size v w') := mkHid fun v => by rw [← hG]; exact closedD z.toNat (okO z l) (okO_fine z l).good v
  have HFR : Hid (∀ v, setB i (outZ (okO z l) z.toNat) = true → Calls Try.prog 58 #[.agg (D z.toNat ((okO z l).bind (cloO z.toNat))), .int .i64 i] v fun e w' => e = .returned (.agg (D z.toNat (forgF z l i))) ∧ Below v.heap.size v w') := mkHid fun v h => by
    have hf : forgF z l i = ((okO z l).bind (cloO z.toNat)).map (freeT i.toNat) := by unfold forgF; rw [h]; rfl
    obtain ⟨i', rfl, _, hi'⟩ := set_nat h
    rw [hf]
    have := freedD z.toNat _ (clo_fineO (okO_fine z l)).good i' (fun _ _ => hi') v
    simpa using this
  have HFA := mkHid (forgF_fine z l i)
  have HNO : Hid (setB i (outZ (okO z l) z.toNat) = false → forgF z l i = none) := mkHid fun h => by unfold forgF; rw [h]; rfl
  obtain ⟨R, hR⟩ : ∃ R, forgF z l i = R := ⟨_, rfl⟩
  rw [hR] at HFR HFA HNO
  rw [hR]
  obtain ⟨n, hn⟩ : ∃ n, z.toNat = n := ⟨_, rfl⟩
  rw [hn] at HD HCL HFR HFA HNO HF
  rw [hn]
  obtain ⟨m, hm⟩ : ∃ m, outZ (okO z l) n = m := ⟨_, rfl⟩
  rw [hm] at HD HCL HFR HNO
  obtain ⟨o2, ho2⟩ : ∃ o2, (okO z l).bind (cloO n) = o2 := ⟨_, rfl⟩
  rw [ho2] at HCL HFR
  clear ho2
  have HGL := mkHid hGl
  clear hc hl hG hGl hR hn hm
  have hzc := zc64
  go_enter Try.func44, Try.ntmps44
  go_wp2_with fail
  refine (HD.out _ (HL.out.below B0.out)).mono ?_
  rintro e w1 ⟨rfl, hb1⟩
  have B1 := mkHid (below_step B0.out hb1)
  have Z1 : Hid (Fz w1 (w.heap.size + 1)) := mkHid (by have := Z0.out.below hb1; simpa using this)
  have s1 := Z1.out.lt
  have N1 := mkHid (Dif.new w1 (n := 0) zs_len 64)
  clear hb1 B0 Z0
  go_wp2_with (first | (refine wp_store64 N1.out HGL.out rfl rfl rfl rfl ?_; intro w2 hD2 hg2) | (refine wp_load64 hD2 rfl rfl rfl ?_))
  have B2 := mkHid ((B1.out.alloc B1.out.size _).grown hg2 (by have := B1.out.size; simp; omega) (fun q hq => by cases hq; exact B1.out.size))
  have Z2 := mkHid ((Z1.out.alloc _).grown hg2 (some_ne (by omega)))
  have D2 := mkHid hD2
  obtain ⟨b1, hb1⟩ : ∃ b, w1.heap.size = b := ⟨_, rfl⟩
  rw [hb1] at D2
  rw [hb1]
  have hwb : w.heap.size + 1 < b1 := by omega
  clear hD2 hg2 N1 B1 Z1 s1 hb1
  refine (canSet_any m G HGL.out i _).mono ?_
  rintro e w3 ⟨rfl, hb3⟩
  have B3 := mkHid (below_step B2.out hb3)
  have Z3 := mkHid (Z2.out.below hb3)
  have D3 := mkHid (D2.out.below hb3)
  clear hb3 B2 Z2 D2
  cases hi : setB i m
  · have e1 : Hid (R = none) := mkHid (HNO.out hi)
    obtain ⟨⟨z0, z1⟩, z2, z3⟩ := Z3.out
    go_wp2
    refine bodyPost_ret (v := .agg #[.int .i64 0, .slice none 0 0]) (by simp [results, Try.results44, go_sem, z0, z1]) rfl ?_
    rw [e1.out]
    exact ⟨none, 0, rfl, OwnI.nil _ _, none_shut B3.out (Nat.le_succ _) _ _⟩
  · have HFR2 := mkHid (fun v => HFR.out v hi)
    clear hi
    go_wp2_with (first | (refine wp_load64 D3.out rfl rfl rfl ?_))
    refine (HCL.out _).mono ?_
    rintro e w5 ⟨rfl, hb5⟩
    have B5 := mkHid (below_step B3.out hb5)
    have Z5 := mkHid (Z3.out.below hb5)
    clear hb5 B3 Z3 D3
    go_wp2_with fail
    refine (HFR2.out _).mono ?_
    rintro e w6 ⟨rfl, hb6⟩
    have B6 := mkHid (below_step B5.out hb6)
    have Z6 := mkHid (Z5.out.below hb6)
    clear hb6 B5 Z5
    go_wp2_with fail
    refine (factsD n _ HFA.out.good _).mono ?_
    rintro e w9 ⟨ao, cap, rfl, ho, hb9⟩
    obtain ⟨⟨z0, z1⟩, z2, z3⟩ := Z6.out.below hb9
    have HE := mkHid (fun v0 v1 => Gives.shut (b := w.heap.size + 1) B6.out (Nat.le_succ _) Z6.out.lt ho hb9 v0 v1)
    clear hb9 ho
    go_wp2
    exact bodyPost_ret (v := .agg #[.int .i64 (outZ R n), .slice ao (outL R n).length cap]) (by simp [results, Try.results44, go_sem, z0, z1]) rfl ⟨ao, cap, rfl, (HE.out _ _).1, (HE.out _ _).2⟩
end Go.Proofs.Ythhajdjpglpkoaa
