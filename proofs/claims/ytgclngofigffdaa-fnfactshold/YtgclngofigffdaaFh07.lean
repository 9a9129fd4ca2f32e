/-
  CONTRACT of the program's FactsAdd.
  CONTRACT of the specification's FactsClose.
-/
import Derived.Test.YtgclngofigffdaaFh06
namespace Go.Proofs.Ytgclngofigffdaa
open Go.RowKit

set_option maxRecDepth 100000 in
set_option maxHeartbeats 800000 in
theorem added_none (i j c : Int) (w : World) : Calls Try.prog 62 #[.agg (dA 0 zs), .int .i64 i, .int .i64 j, .int .i64 c] w fun e w' => e = .returned (.agg (dA 0 zs)) ∧ Below w.heap.size w w' := by
  have hz := zc64
  have D0 := mkHid ((Dif.new w (n := 0) zs_len 59).alloc (.cells (dA 0 zs) 59))
  have R0 := mkHid (Dif.new (w.alloc (.cells (dA 0 zs) 59)) (n := 0) zs_len 59)
  have B0 := mkHid (((Below.refl w.heap.size w).alloc (Nat.le_refl _) (.cells (dA 0 zs) 59)).alloc (by simp) (.cells (dA 0 zs) 59))
  go_enter Try.func62, Try.ntmps62
  go_wp2_with (first | (refine wp_load64 D0.out rfl rfl rfl ?_))
  refine (isNone_any 0 zs _).mono ?_
  rintro e2 w1 ⟨rfl, hb1⟩
  have R1 : Hid (Dif w1 (w.heap.size + 1) 0 zs) := mkHid (by have := R0.out.below hb1; simpa using this)
  have B1 := mkHid (below_step B0.out hb1)
  have hn0 : decide ((0 : Int) = 0) = true := rfl
  rw [hn0]
  clear hb1
  go_wp2_with (first | (refine wp_store64 R1.out zs_len rfl rfl rfl rfl ?_; intro w2 hD2 hg2))
  exact ret64 rfl hD2 rfl rfl ⟨rfl, B1.out.grown hg2 B1.out.size (fun q hq => by cases hq; omega)⟩
theorem addedD (n : Nat) (o : Option Tab) (ho : GoodO n o) (i j : Nat) (hi : ∀ f, o = some f → i < n ∧ j < n) (c : Int) (w : World) : Calls Try.prog 62 #[.agg (D n o), .int .i64 i, .int .i64 j, .int .i64 c] w fun e w' => e = .returned (.agg (D n (addO n i j c o))) ∧ Below w.heap.size w w' := by
  cases o with
  | none => exact added_none i j c w
  | some f =>
    obtain ⟨h1, h2, h3⟩ := ho f rfl
    obtain ⟨h4, h5⟩ := hi f rfl
    exact added_some n f h1 h2 h3 i j h4 h5 c w
theorem addO_good {n : Nat} {o : Option Tab} (h : FineO n o) {i j : Nat} (hi : ∀ f, o = some f → i < n ∧ j < n) (c : Int) : FineO n (addO n i j c o) := fun g e => by
  cases o with
  | none => cases e
  | some f =>
    obtain ⟨h1, h2, h3⟩ := h f rfl
    obtain ⟨h4, h5⟩ := hi f rfl
    simp only [addO, Option.bind_some] at e
    split at e
    · cases e
    · rename_i hc
      unfold cloO at e
      split at e
      · rename_i hcl
        cases e
        refine ⟨h1, h2, fun a b ha hb => ?_⟩
        have hd : ∀ a, a < n → setT f i j c a a ≤ 0 := fun a ha => by
          have q1 := (h3 a a ha ha).2.2 rfl
          have q2 := h3 i j h4 h5
          unfold setT
          split
          · rename_i hh
            have q3 := (h3 i j h4 h5).2.2 (hh.1.symm.trans hh.2)
            omega
          · omega
        have hcz := clo_closed hd hcl
        have q1 := clo_le n (setT f i j c) a b
        have q2 := clo_le n (setT f i j c) b a
        have q3 := closed_low hcz ha hb
        have q4 : ∀ a b, a < n → b < n → setT f i j c a b ≤ capT a b := fun a b ha hb => by
          have := h3 a b ha hb
          unfold setT
          split
          · rename_i hh; obtain ⟨rfl, rfl⟩ := hh; omega
          · omega
        have q5 := q4 a b ha hb
        have q6 := q4 b a hb ha
        have q7 := cap_le b a
        exact ⟨by omega, by omega, fun e => by subst e; exact hcz.1 a ha⟩
      · cases e
/-- What FactsAdd answers. -/
def addF (z : Int) (l : List Int) (i j c : Int) : Option Tab := if symB i (outZ (okO z l) z.toNat) && symB j (outZ (okO z l) z.toNat) then addO z.toNat i.toNat j.toNat c (okO z l) else none
theorem D_out (n : Nat) (o : Option Tab) : ∃ G, D n o = dA (outZ o n) G ∧ G.length = 169 := by
  cases o with
  | none => exact ⟨zs, rfl, zs_len⟩
  | some f => exact ⟨grid n f, rfl, grid_len n f⟩
theorem sym_nat {n : Nat} {o : Option Tab} {i : Int} (h : symB i (outZ o n) = true) : ∃ k : Nat, i = k ∧ k < n := by
  unfold symB at h
  have h := of_decide_eq_true h
  refine ⟨i.toNat, by omega, ?_⟩
  have : outZ o n ≤ n := by unfold outZ; split <;> omega
  omega
set_option maxRecDepth 100000 in
set_option maxHeartbeats 1600000 in
theorem iAdd_any (z : Int) (l : List Int) (a : Option Addr) (c0 : Nat) (i j c : Int) (w : World) (hc : l.length ≤ c0) (hl : IntsAt w a l) : Calls Try.prog 23 #[.agg #[.int .i64 z, .slice a l.length c0], .int .i64 i, .int .i64 j, .int .i64 c] w fun e w' => Gives w w' e (outZ (addF z l i j c) z.toNat) (outL (addF z l i j c) z.toNat) := by
  have HC := mkHid hc
  have HL := mkHid hl
  have HF := mkHid (okO_fine z l)
  have B0 := mkHid (((Below.refl w.heap.size w).alloc (Nat.le_refl _) (.cells #[.int .i64 z, .slice a l.length c0] 26)).alloc (by simp) (.cells #[.int .i64 0, .slice none 0 0] 26))
  have Z0 := mkHid (Fz.new (w.alloc (.cells #[.int .i64 z, .slice a l.length c0] 26)))
  obtain ⟨G, hG, hGl⟩ := D_out z.toNat (okO z l)
  have HD : Hid (∀ v, IntsAt v a l → Calls Try.prog 39 #[.agg #[.int .i64 z, .slice a l.length c0]] v fun e w' => e = .returned (.agg (dA (outZ (okO z l) z.toNat) G)) ∧ Below v.heap.size v w') := mkHid fun v hv => by rw [← hG]; exact diffsD z l a c0 v HC.out hv
  have HA : Hid (∀ v, symB i (outZ (okO z l) z.toNat) = true → symB j (outZ (okO z l) z.toNat) = true → Calls Try.prog 62 #[.agg (dA (outZ (okO z l) z.toNat) G), .int .i64 i, .int .i64 j, .int .i64 c] v fun e w' => e = .returned (.agg (D z.toNat (addF z l i j c))) ∧ Below v.heap.size v w') := mkHid fun v h1 h2 => by
    obtain ⟨i', rfl, hi'⟩ := sym_nat h1
    obtain ⟨j', rfl, hj'⟩ := sym_nat h2
    have : addF z l i' j' c = addO z.toNat i' j' c (okO z l) := by unfold addF; rw [h1, h2]; rfl
    rw [this, ← hG]
    exact addedD z.toNat (okO z l) (okO_fine z l).good i' j' (fun f _ => ⟨hi', hj'⟩) c v
  have HFA : Hid (FineO z.toNat (addF z l i j c)) := mkHid (by
    unfold addF
    split
    · rename_i h
      rw [Bool.and_eq_true] at h
      obtain ⟨i', rfl, hi'⟩ := sym_nat h.1
      obtain ⟨j', rfl, hj'⟩ := sym_nat h.2
      exact addO_good (okO_fine z l) (fun f _ => ⟨by simpa using hi', by simpa using hj'⟩) c
    · exact fun f e => by cases e)
  have HNO : Hid ((symB i (outZ (okO z l) z.toNat) && symB j (outZ (okO z l) z.toNat)) = false → addF z l i j c = none) := mkHid fun h => by unfold addF; rw [h]; rfl
  obtain ⟨R, hR⟩ : ∃ R, addF z l i j c = R := ⟨_, rfl⟩
  rw [hR] at HA HFA HNO
  rw [hR]
  obtain ⟨n, hn⟩ : ∃ n, z.toNat = n := ⟨_, rfl⟩
  rw [hn] at HD HA HFA HNO HF
  rw [hn]
  obtain ⟨m, hm⟩ : ∃ m, outZ (okO z l) n = m := ⟨_, rfl⟩
  rw [hm] at HD HA HNO
  have HGL := mkHid hGl
  clear hc hl hG hGl hR hn hm
  have hzc := zc64
  go_enter Try.func23, Try.ntmps23
  go_wp2_with fail
  refine (HD.out _ (HL.out.below B0.out)).mono ?_
  rintro e w1 ⟨rfl, hb1⟩
  have B1 := mkHid (below_step B0.out hb1)
  have Z1 : Hid (Fz w1 (w.heap.size + 1)) := mkHid (by have := Z0.out.below hb1; simpa using this)
  have s1 := Z1.out.lt
  have N1 := mkHid (Dif.new w1 (n := 0) zs_len 59)
  clear hb1 B0 Z0
  go_wp2_with (first | (refine wp_store64 N1.out HGL.out rfl rfl rfl rfl ?_; intro w2 hD2 hg2) | (refine wp_load64 hD2 rfl rfl rfl ?_))
  have B2 := mkHid ((B1.out.alloc B1.out.size _).grown hg2 (by have := B1.out.size; simp; omega) (fun q hq => by cases hq; exact B1.out.size))
  have Z2 := mkHid ((Z1.out.alloc _).grown hg2 (some_ne (by omega)))
  have D2 := mkHid hD2
  obtain ⟨b1, hb1⟩ : ∃ b, w1.heap.size = b := ⟨_, rfl⟩
  rw [hb1] at D2
  rw [hb1]
  clear hD2 hg2 N1 B1 Z1 s1 hb1
  refine (hasSym_any m G i _).mono ?_
  rintro e w3 ⟨rfl, hb3⟩
  have B3 := mkHid (below_step B2.out hb3)
  have Z3 := mkHid (Z2.out.below hb3)
  have D3 := mkHid (D2.out.below hb3)
  clear hb3 B2 Z2 D2
  cases hi : symB i m
  · have e1 : Hid (R = none) := mkHid (HNO.out (by rw [hi]; rfl))
    obtain ⟨⟨z0, z1⟩, z2, z3⟩ := Z3.out
    go_wp2
    refine bodyPost_ret (v := .agg #[.int .i64 0, .slice none 0 0]) (by simp [results, Try.results23, go_sem, z0, z1]) rfl ?_
    rw [e1.out]
    exact ⟨none, 0, rfl, OwnI.nil _ _, (B3.out.setCell (p := ⟨w.heap.size + 1, 0, none⟩) (Nat.le_succ _) _).setCell (p := ⟨w.heap.size + 1, 1, none⟩) (Nat.le_succ _) _⟩
  · go_wp2_with fail
    refine wpo_load64 D3.out rfl rfl ?_
    go_wp2_with fail
    refine (hasSym_any m G j _).mono ?_
    rintro e w4 ⟨rfl, hb4⟩
    have B4 := mkHid (below_step B3.out hb4)
    have Z4 := mkHid (Z3.out.below hb4)
    have D4 := mkHid (D3.out.below hb4)
    clear hb4 B3 Z3 D3
    cases hj : symB j m
    · have e1 : Hid (R = none) := mkHid (HNO.out (by rw [hi, hj]; rfl))
      obtain ⟨⟨z0, z1⟩, z2, z3⟩ := Z4.out
      go_wp2
      refine bodyPost_ret (v := .agg #[.int .i64 0, .slice none 0 0]) (by simp [results, Try.results23, go_sem, z0, z1]) rfl ?_
      rw [e1.out]
      exact ⟨none, 0, rfl, OwnI.nil _ _, (B4.out.setCell (p := ⟨w.heap.size + 1, 0, none⟩) (Nat.le_succ _) _).setCell (p := ⟨w.heap.size + 1, 1, none⟩) (Nat.le_succ _) _⟩
    · have HA2 := mkHid (fun v => HA.out v hi hj)
      clear hi hj
      go_wp2_with (first | (refine wp_load64 D4.out rfl rfl rfl ?_))
      refine (HA2.out _).mono ?_
      rintro e w5 ⟨rfl, hb5⟩
      have B5 := mkHid (below_step B4.out hb5)
      have Z5 := mkHid (Z4.out.below hb5)
      clear hb5 B4 Z4 D4
      go_wp2_with fail
      refine (factsD n _ HFA.out.good _).mono ?_
      rintro e w6 ⟨ao, cap, rfl, ho, hb6⟩
      obtain ⟨⟨z0, z1⟩, z2, z3⟩ := Z5.out.below hb6
      have HE := mkHid (fun v0 v1 => Gives.shut (b := w.heap.size + 1) B5.out (Nat.le_succ _) Z5.out.lt ho hb6 v0 v1)
      clear hb6 ho B5 Z5
      go_wp2
      exact bodyPost_ret (v := .agg #[.int .i64 (outZ R n), .slice ao (outL R n).length cap]) (by simp [results, Try.results23, go_sem, z0, z1]) rfl ⟨ao, cap, rfl, (HE.out _ _).1, (HE.out _ _).2⟩
end Go.Proofs.Ytgclngofigffdaa
namespace Go.Proofs.Ytgclngofigffdaa
open Go.RowKit

/-- Nothing is answered: the block as it was made. -/
theorem none_shut {w w1 : World} {b : Nat} (hB : Below w.heap.size w w1) (hb : w.heap.size ≤ b) (v0 v1 : Value) : Below w.heap.size w ((w1.setCell ⟨b, 0, none⟩ v0).setCell ⟨b, 1, none⟩ v1) :=
  (hB.setCell (p := ⟨b, 0, none⟩) hb _).setCell (p := ⟨b, 1, none⟩) hb _
set_option maxRecDepth 100000 in
set_option maxHeartbeats 800000 in
theorem sClose_any (z : Int) (l : List Int) (a : Option Addr) (c : Nat) (w : World) (hl : IntsAt w a l) : Calls Try.prog 17 #[.agg #[.int .i64 z, .slice a l.length c]] w fun e w' => Gives w w' e (outZ ((okO z l).bind (cloO z.toNat)) z.toNat) (outL ((okO z l).bind (cloO z.toNat)) z.toNat) := by
  have HL := mkHid hl
  have B0 := mkHid (((Below.refl w.heap.size w).alloc (Nat.le_refl _) (.cells #[.int .i64 z, .slice a l.length c] 26)).alloc (by simp) (.cells #[.int .i64 0, .slice none 0 0] 26))
  have Z0 := mkHid (Fz.new (w.alloc (.cells #[.int .i64 z, .slice a l.length c] 26)))
  have T0 := mkHid ((Fc.new w z a l.length c 26).alloc (.cells #[.int .i64 0, .slice none 0 0] 26))
  cases hok : okF z l
  · have e1 : Hid (outZ ((okO z l).bind (cloO z.toNat)) z.toNat = 0 ∧ outL ((okO z l).bind (cloO z.toNat)) z.toNat = []) := mkHid (by rw [okO_no hok]; exact ⟨rfl, rfl⟩)
    rw [e1.out.1, e1.out.2]
    have HOK := mkHid hok
    clear hok hl
    go_enter Try.func17, Try.ntmps17
    go_wp2_with fail
    refine (sOkF_any z l a c _ (HL.out.below B0.out)).mono ?_
    rintro e w1 ⟨rfl, hb1⟩
    rw [HOK.out]
    have B1 := mkHid (below_step B0.out hb1)
    have Z1 : Hid (Fz w1 (w.heap.size + 1)) := mkHid (by have := Z0.out.below hb1; simpa using this)
    obtain ⟨⟨z0, z1⟩, z2, z3⟩ := Z1.out
    clear hb1
    go_wp2
    exact bodyPost_ret (v := .agg #[.int .i64 0, .slice none 0 0]) (by simp [results, Try.results17, go_sem, z0, z1]) rfl ⟨none, 0, rfl, OwnI.nil _ _, none_shut B1.out (Nat.le_succ _) _ _⟩
  · obtain ⟨n, hn, h1, h2, hll, hmk, hfine⟩ := ok_of hok
    subst hn
    have e1 : Hid (okO n l = some (tab n l)) := mkHid (okO_yes hok)
    have HC : Hid (∀ v, IntsAt v a l → Calls Try.prog 53 #[.int .i64 n, .slice a l.length c] v fun e w' => Gives v w' e (outZ (cloO n (tab n l)) n) (outL (cloO n (tab n l)) n)) := mkHid fun v hv => by
      have := sCloseD n (tab n l) h1 h2 hfine.bd a c v (by rw [← hmk]; exact hv)
      rwa [← hmk] at this
    rw [show ((n : Int)).toNat = n from Int.toNat_natCast n, e1.out]
    simp only [Option.bind_some]
    obtain ⟨o, ho⟩ : ∃ o, cloO n (tab n l) = o := ⟨_, rfl⟩
    rw [ho] at HC
    rw [ho]
    have HOK := mkHid hok
    clear hok hl hmk hfine hll ho e1
    go_enter Try.func17, Try.ntmps17
    go_wp2_with fail
    refine (sOkF_any n l a c _ (HL.out.below B0.out)).mono ?_
    rintro e w1 ⟨rfl, hb1⟩
    rw [HOK.out]
    have B1 := mkHid (below_step B0.out hb1)
    have Z1 : Hid (Fz w1 (w.heap.size + 1)) := mkHid (by have := Z0.out.below hb1; simpa using this)
    obtain ⟨t0, t1⟩ := T0.out.below hb1
    clear hb1
    go_wp2_with fail
    refine (HC.out _ (HL.out.below B1.out)).mono ?_
    rintro e w3 ⟨ao, cap, rfl, ho, hb3⟩
    obtain ⟨⟨z0, z1⟩, z2, z3⟩ := Z1.out.below hb3
    have HE := mkHid (fun v0 v1 => Gives.shut (b := w.heap.size + 1) B1.out (Nat.le_succ _) Z1.out.lt ho hb3 v0 v1)
    clear hb3 ho t0 t1
    go_wp2
    exact bodyPost_ret (v := .agg #[.int .i64 (outZ o n), .slice ao (outL o n).length cap]) (by simp [results, Try.results17, go_sem, z0, z1]) rfl ⟨ao, cap, rfl, (HE.out _ _).1, (HE.out _ _).2⟩
end Go.Proofs.Ytgclngofigffdaa
