/-
  CONTRACT of the program's FactsCopy.
-/
import Derived.Test.YtgclngofigffdaaFm11
namespace Go.Proofs.Ytgclngofigffdaa
open Go.RowKit

/-- What may be copied. -/
def cpB (i j c m : Int) : Bool := setB i m && (symB j m && (!(i == j) && btw c (-2000000) 2000000))
/-- What FactsCopy answers. -/
def copyF (z : Int) (l : List Int) (i j c : Int) : Option Tab := if cpB i j c (outZ (okO z l) z.toNat) then addO z.toNat j.toNat i.toNat (-c) (addO z.toNat i.toNat j.toNat c (forgF z l i)) else none
theorem cp_nat {n : Nat} {o : Option Tab} {i j c : Int} (h : cpB i j c (outZ o n) = true) : setB i (outZ o n) = true ∧ (∃ k : Nat, i = k ∧ 1 ≤ k ∧ k < n) ∧ (∃ k : Nat, j = k ∧ k < n) ∧ -2000000 ≤ c ∧ c ≤ 2000000 := by
  unfold cpB at h
  rw [Bool.and_eq_true, Bool.and_eq_true, Bool.and_eq_true] at h
  have := of_decide_eq_true h.2.2.2
  exact ⟨h.1, set_nat h.1, sym_nat h.2.1, this.1, this.2⟩
theorem copyF_fine (z : Int) (l : List Int) (i j c : Int) : FineO z.toNat (copyF z l i j c) := by
  unfold copyF
  split
  · rename_i h
    obtain ⟨_, ⟨i', rfl, _, hi'⟩, ⟨j', rfl, hj'⟩, _⟩ := cp_nat h
    exact addO_good (addO_good (forgF_fine z l i') (fun f _ => ⟨by simpa using hi', by simpa using hj'⟩) c) (fun f _ => ⟨by simpa using hj', by simpa using hi'⟩) (-c)
  · exact fun f e => by cases e
set_option maxRecDepth 100000 in
set_option maxHeartbeats 1600000 in
theorem iCopy_any (z : Int) (l : List Int) (a : Option Addr) (c0 : Nat) (i j c : Int) (w : World) (hc : l.length ≤ c0) (hl : IntsAt w a l) : Calls Try.prog 30 #[.agg #[.int .i64 z, .slice a l.length c0], .int .i64 i, .int .i64 j, .int .i64 c] w fun e w' => Gives w w' e (outZ (copyF z l i j c) z.toNat) (outL (copyF z l i j c) z.toNat) := by
  have HC := mkHid hc
  have HL := mkHid hl
  have HF := mkHid (okO_fine z l)
  have B0 := mkHid (((Below.refl w.heap.size w).alloc (Nat.le_refl _) (.cells #[.int .i64 z, .slice a l.length c0] 26)).alloc (by simp) (.cells #[.int .i64 0, .slice none 0 0] 26))
  have Z0 := mkHid (Fz.new (w.alloc (.cells #[.int .i64 z, .slice a l.length c0] 26)))
  obtain ⟨G, hG, hGl⟩ := D_out z.toNat (okO z l)
  have HD : Hid (∀ v, IntsAt v a l → Calls Try.prog 39 #[.agg #[.int .i64 z, .slice a l.length c0]] v fun e w' => e = .returned (.agg (dA (outZ (okO z l) z.toNat) G)) ∧ Below v.heap.size v w') := mkHid fun v hv => by rw [← hG]; exact diffsD z l a c0 v HC.out hv
  have HCL : Hid (∀ v, Calls Try.prog 40 #[.agg (dA (outZ (okO z l) z.toNat) G)] v fun e w' => e = .returned (.agg (D z.toNat ((okO z l).bind (cloO z.toNat)))) ∧ Below v.heap.size v w') := mkHid fun v => by rw [← hG]; exact closedD z.toNat (okO z l) (okO_fine z l).good v
  have HFR : Hid (∀ v, cpB i j c (outZ (okO z l) z.toNat) = true → Calls Try.prog 68 #[.agg (D z.toNat ((okO z l).bind (cloO z.toNat))), .int .i64 i] v fun e w' => e = .returned (.agg (D z.toNat (forgF z l i))) ∧ Below v.heap.size v w') := mkHid fun v h0 => by
    obtain ⟨h, ⟨i', rfl, _, hi'⟩, _⟩ := cp_nat h0
    have hf : forgF z l i' = ((okO z l).bind (cloO z.toNat)).map (freeT i') := by unfold forgF; rw [h]; simp
    rw [hf]
    exact freedD z.toNat _ (clo_fineO (okO_fine z l)).good i' (fun _ _ => hi') v
  have HA1 : Hid (∀ v, cpB i j c (outZ (okO z l) z.toNat) = true → Calls Try.prog 62 #[.agg (D z.toNat (forgF z l i)), .int .i64 i, .int .i64 j, .int .i64 c] v fun e w' => e = .returned (.agg (D z.toNat (addO z.toNat i.toNat j.toNat c (forgF z l i)))) ∧ Below v.heap.size v w') := mkHid fun v h0 => by
    obtain ⟨h, ⟨i', rfl, _, hi'⟩, ⟨j', rfl, hj'⟩, _⟩ := cp_nat h0
    have := addedD z.toNat _ (forgF_fine z l i').good i' j' (fun _ _ => ⟨hi', hj'⟩) c v
    simpa using this
  have HA2 : Hid (∀ v, cpB i j c (outZ (okO z l) z.toNat) = true → Calls Try.prog 62 #[.agg (D z.toNat (addO z.toNat i.toNat j.toNat c (forgF z l i))), .int .i64 j, .int .i64 i, .int .i64 (-c)] v fun e w' => e = .returned (.agg (D z.toNat (copyF z l i j c))) ∧ Below v.heap.size v w') := mkHid fun v h0 => by
    have hf : copyF z l i j c = addO z.toNat j.toNat i.toNat (-c) (addO z.toNat i.toNat j.toNat c (forgF z l i)) := by unfold copyF; rw [h0]; rfl
    rw [hf]
    obtain ⟨h, ⟨i', rfl, _, hi'⟩, ⟨j', rfl, hj'⟩, _⟩ := cp_nat h0
    have := addedD z.toNat (addO z.toNat i' j' c (forgF z l i')) (addO_good (forgF_fine z l i') (fun f _ => ⟨hi', hj'⟩) c).good j' i' (fun _ _ => ⟨hj', hi'⟩) (-c) v
    simpa using this
  have HWC : Hid (cpB i j c (outZ (okO z l) z.toNat) = true → IntKind.i64.wrap (-c) = -c) := mkHid fun h0 => by
    obtain ⟨_, _, _, h3, h4⟩ := cp_nat h0
    exact IntWalk.i64_in _ (by omega)
  have HFA := mkHid (copyF_fine z l i j c)
  have HNO : Hid (cpB i j c (outZ (okO z l) z.toNat) = false → copyF z l i j c = none) := mkHid fun h => by unfold copyF; rw [h]; rfl
  obtain ⟨R, hR⟩ : ∃ R, copyF z l i j c = R := ⟨_, rfl⟩
  rw [hR] at HA2 HFA HNO
  rw [hR]
  obtain ⟨R1, hR1⟩ : ∃ R, addO z.toNat i.toNat j.toNat c (forgF z l i) = R := ⟨_, rfl⟩
  rw [hR1] at HA1 HA2
  obtain ⟨R0, hR0⟩ : ∃ R, forgF z l i = R := ⟨_, rfl⟩
  rw [hR0] at HA1 HFR
  obtain ⟨n, hn⟩ : ∃ n, z.toNat = n := ⟨_, rfl⟩
  rw [hn] at HD HCL HFR HFA HNO HF HA1 HA2 HWC
  rw [hn]
  obtain ⟨m, hm⟩ : ∃ m, outZ (okO z l) n = m := ⟨_, rfl⟩
  rw [hm] at HD HCL HFR HNO HA1 HA2 HWC
  obtain ⟨o2, ho2⟩ : ∃ o2, (okO z l).bind (cloO n) = o2 := ⟨_, rfl⟩
  rw [ho2] at HCL HFR
  clear ho2 hR0 hR1
  have HGL := mkHid hGl
  clear hc hl hG hGl hR hn hm
  have hzc := zc64
  go_enter Try.func30, Try.ntmps30
  go_wp2_with fail
  refine (HD.out _ (HL.out.below B0.out)).mono ?_
  rintro e w1 ⟨rfl, hb1⟩
  have B1 := mkHid (below_step B0.out hb1)
  have Z1 : Hid (Fz w1 (w.heap.size + 1)) := mkHid (by have := Z0.out.below hb1; simpa using this)
  have s1 := Z1.out.lt
  have N1 := mkHid (Dif.new w1 (n := 0) zs_len 59)
  clear hb1 B0 Z0
  go_wp2_with (first | (refine wp_store64 N1.out HGL.out rfl rfl rfl rfl ?_; intro w2 hD2 hg2) | (refine wp_load64 hD2 rfl rfl rfl ?_))
  have B2 := mkHid ((B1.out.alloc B1.out.size _).grown hg2 (by have := B1.out.size; simp; omega) (fun q hq => by cases hq; exact B1.out.size))
  have Z2 := mkHid ((Z1.out.alloc _).grown hg2 (some_ne (by omega)))
  have D2 := mkHid hD2
  obtain ⟨b1, hb1⟩ : ∃ b, w1.heap.size = b := ⟨_, rfl⟩
  rw [hb1] at D2
  rw [hb1]
  have hwb : w.heap.size + 1 < b1 := by omega
  clear hD2 hg2 N1 B1 Z1 s1 hb1
  refine (canSet_any m G HGL.out i _).mono ?_
  rintro e w3 ⟨rfl, hb3⟩
  have B3 := mkHid (below_step B2.out hb3)
  have Z3 := mkHid (Z2.out.below hb3)
  have D3 := mkHid (D2.out.below hb3)
  clear hb3 B2 Z2 D2
  cases hi : setB i m
  · have e1 : Hid (R = none) := mkHid (HNO.out (by unfold cpB; rw [hi]; rfl))
    obtain ⟨⟨z0, z1⟩, z2, z3⟩ := Z3.out
    go_wp2
    refine bodyPost_ret (v := .agg #[.int .i64 0, .slice none 0 0]) (by simp [results, Try.results30, go_sem, z0, z1]) rfl ?_
    rw [e1.out]
    exact ⟨none, 0, rfl, OwnI.nil _ _, none_shut B3.out (Nat.le_succ _) _ _⟩
  · go_wp2_with fail
    refine wpo_load64 D3.out rfl rfl ?_
    go_wp2_with fail
    refine (hasSym_any m G j _).mono ?_
    rintro e w4 ⟨rfl, hb4⟩
    have B4 := mkHid (below_step B3.out hb4)
    have Z4 := mkHid (Z3.out.below hb4)
    have D4 := mkHid (D3.out.below hb4)
    clear hb4 B3 Z3 D3
    cases hj : symB j m
    · have e1 : Hid (R = none) := mkHid (HNO.out (by unfold cpB; rw [hi, hj]; rfl))
      obtain ⟨⟨z0, z1⟩, z2, z3⟩ := Z4.out
      go_wp2
      refine bodyPost_ret (v := .agg #[.int .i64 0, .slice none 0 0]) (by simp [results, Try.results30, go_sem, z0, z1]) rfl ?_
      rw [e1.out]
      exact ⟨none, 0, rfl, OwnI.nil _ _, none_shut B4.out (Nat.le_succ _) _ _⟩
    · cases hij : (i == j)
      · cases hc : btw c (-2000000) 2000000
        · have e1 : Hid (R = none) := mkHid (HNO.out (by unfold cpB; rw [hi, hj, hij, hc]; rfl))
          obtain ⟨⟨z0, z1⟩, z2, z3⟩ := Z4.out
          go_wp2_with (first | (go_at_call 69; refine (isGap_any _ _).mono ?_; rintro e w' ⟨rfl, rfl⟩))
          refine bodyPost_ret (v := .agg #[.int .i64 0, .slice none 0 0]) (by simp [results, Try.results30, go_sem, z0, z1]) rfl ?_
          rw [e1.out]
          exact ⟨none, 0, rfl, OwnI.nil _ _, none_shut B4.out (Nat.le_succ _) _ _⟩
        · have hcp : cpB i j c m = true := by unfold cpB; rw [hi, hj, hij, hc]; rfl
          have HFR2 := mkHid (fun v => HFR.out v hcp)
          have HA12 := mkHid (fun v => HA1.out v hcp)
          have HA22 := mkHid (fun v => HA2.out v hcp)
          have hwc := HWC.out hcp
          clear hcp hi hj HFR HA1 HA2 HWC
          go_wp2_with (first | (go_at_call 69; refine (isGap_any _ _).mono ?_; rintro e w' ⟨rfl, rfl⟩) | (refine wp_load64 D4.out rfl rfl rfl ?_))
          refine (HCL.out _).mono ?_
          rintro e w5 ⟨rfl, hb5⟩
          have B5 := mkHid (below_step B4.out hb5)
          have Z5 := mkHid (Z4.out.below hb5)
          clear hb5 B4 Z4 D4
          go_wp2_with fail
          refine (HFR2.out _).mono ?_
          rintro e w6 ⟨rfl, hb6⟩
          have B6 := mkHid (below_step B5.out hb6)
          have Z6 := mkHid (Z5.out.below hb6)
          clear hb6 B5 Z5
          go_wp2_with fail
          refine (HA12.out _).mono ?_
          rintro e w7 ⟨rfl, hb7⟩
          have B7 := mkHid (below_step B6.out hb7)
          have Z7 := mkHid (Z6.out.below hb7)
          clear hb7 B6 Z6
          go_wp2_with fail
          refine (HA22.out _).mono ?_
          rintro e w8 ⟨rfl, hb8⟩
          have B8 := mkHid (below_step B7.out hb8)
          have Z8 := mkHid (Z7.out.below hb8)
          clear hb8 B7 Z7
          go_wp2_with fail
          refine (factsD n _ HFA.out.good _).mono ?_
          rintro e w9 ⟨ao, cap, rfl, ho, hb9⟩
          obtain ⟨⟨z0, z1⟩, z2, z3⟩ := Z8.out.below hb9
          have HE := mkHid (fun v0 v1 => Gives.shut (b := w.heap.size + 1) B8.out (Nat.le_succ _) Z8.out.lt ho hb9 v0 v1)
          clear hb9 ho
          go_wp2
          exact bodyPost_ret (v := .agg #[.int .i64 (outZ R n), .slice ao (outL R n).length cap]) (by simp [results, Try.results30, go_sem, z0, z1]) rfl ⟨ao, cap, rfl, (HE.out _ _).1, (HE.out _ _).2⟩
      · have e1 : Hid (R = none) := mkHid (HNO.out (by unfold cpB; rw [hi, hj, hij]; rfl))
        obtain ⟨⟨z0, z1⟩, z2, z3⟩ := Z4.out
        go_wp2
        refine bodyPost_ret (v := .agg #[.int .i64 0, .slice none 0 0]) (by simp [results, Try.results30, go_sem, z0, z1]) rfl ?_
        rw [e1.out]
        exact ⟨none, 0, rfl, OwnI.nil _ _, none_shut B4.out (Nat.le_succ _) _ _⟩
end Go.Proofs.Ytgclngofigffdaa
