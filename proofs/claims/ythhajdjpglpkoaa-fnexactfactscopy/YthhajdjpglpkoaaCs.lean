/-
  CONTRACT of the specification's FactsCopy.
-/
import Derived.Test.YthhajdjpglpkoaaCi
import Derived.Test.YthhajdjpglpkoaaFs
namespace Go.Proofs.Ythhajdjpglpkoaa
open Go.RowKit

theorem sAddlD (n : Nat) (o : Option Tab) (ho : GoodO n o) (a : Option Addr) (c0 i j : Nat) (hi : ∀ f, o = some f → i < n ∧ j < n) (c : Int) (w : World) (hA : IntsAt w a (outL o n)) : Calls Try.prog 80 #[.agg #[.int .i64 (outZ o n), .slice a (outL o n).length c0], .int .i64 i, .int .i64 j, .int .i64 c] w fun e w' => Gives w w' e (outZ (addO n i j c o) n) (outL (addO n i j c o) n) := by
  cases o with
  | none => exact sAddl_none a c0 i j c w
  | some f =>
    obtain ⟨h1, h2, h3⟩ := ho f rfl
    obtain ⟨h4, h5⟩ := hi f rfl
    exact sAddl_some n f h1 h2 h3 a c0 i j h4 h5 c w hA
set_option maxRecDepth 100000 in
set_option maxHeartbeats 1600000 in
theorem sCopy_any (z : Int) (l : List Int) (a : Option Addr) (c0 : Nat) (i j c : Int) (w : World) (hl : IntsAt w a l) : Calls Try.prog 47 #[.agg #[.int .i64 z, .slice a l.length c0], .int .i64 i, .int .i64 j, .int .i64 c] w fun e w' => Gives w w' e (outZ (copyF z l i j c) z.toNat) (outL (copyF z l i j c) z.toNat) := by
  have HL := mkHid hl
  have B0 := mkHid (((Below.refl w.heap.size w).alloc (Nat.le_refl _) (.cells #[.int .i64 z, .slice a l.length c0] 24)).alloc (by simp) (.cells #[.int .i64 0, .slice none 0 0] 24))
  have Z0 := mkHid (Fz.new (w.alloc (.cells #[.int .i64 z, .slice a l.length c0] 24)))
  have T0 := mkHid ((Fc.new w z a l.length c0 24).alloc (.cells #[.int .i64 0, .slice none 0 0] 24))
  cases hok : okF z l
  · have e1 : Hid (copyF z l i j c = none) := mkHid (by
      unfold copyF forgF
      rw [okO_no hok]
      split <;> (try split) <;> rfl)
    have HOK := mkHid hok
    clear hok hl
    go_enter Try.func47, Try.ntmps47
    go_wp2_with fail
    refine (sOkF_any z l a c0 _ (HL.out.below B0.out)).mono ?_
    rintro e w1 ⟨rfl, hb1⟩
    rw [HOK.out]
    have B1 := mkHid (below_step B0.out hb1)
    have Z1 : Hid (Fz w1 (w.heap.size + 1)) := mkHid (by have := Z0.out.below hb1; simpa using this)
    obtain ⟨⟨z0, z1⟩, z2, z3⟩ := Z1.out
    clear hb1
    go_wp2
    refine bodyPost_ret (v := .agg #[.int .i64 0, .slice none 0 0]) (by simp [results, Try.results47, go_sem, z0, z1]) rfl ?_
    rw [e1.out]
    exact ⟨none, 0, rfl, OwnI.nil _ _, none_shut B1.out (Nat.le_succ _) _ _⟩
  · obtain ⟨n, hn, h1, h2, hll, -, hfine⟩ := ok_of hok
    subst hn
    have hto : ((n : Int)).toNat = n := Int.toNat_natCast n
    have HO : Hid (outZ (okO n l) ((n : Int)).toNat = n) := mkHid (by rw [okO_yes hok, hto]; rfl)
    have HC : Hid (∀ (v : World), IntsAt v a l → Calls Try.prog 43 #[.agg #[.int .i64 n, .slice a l.length c0], .int .i64 i] v fun e w' => Gives v w' e (outZ (forgF n l i) n) (outL (forgF n l i) n)) := mkHid fun v hv => by
      have := sForget_any n l a c0 i v hv
      rwa [hto] at this
    have HA1 : Hid (∀ (a : Option Addr) (c1 : Nat) (v : World), cpB i j c n = true → IntsAt v a (outL (forgF n l i) n) → Calls Try.prog 80 #[.agg #[.int .i64 (outZ (forgF n l i) n), .slice a (outL (forgF n l i) n).length c1], .int .i64 i, .int .i64 j, .int .i64 c] v fun e w' => Gives v w' e (outZ (addO n i.toNat j.toNat c (forgF n l i)) n) (outL (addO n i.toNat j.toNat c (forgF n l i)) n)) := mkHid fun a c1 v h0 hv => by
      obtain ⟨h, ⟨i', rfl, _, hi'⟩, ⟨j', rfl, hj'⟩, _⟩ := cp_nat (o := some (tab n l)) (n := n) h0
      have := sAddlD n (forgF n l i') (by have := forgF_fine n l i'; rw [hto] at this; exact this.good) a c1 i' j' (fun _ _ => ⟨hi', hj'⟩) c v hv
      simpa using this
    have HA2 : Hid (∀ (a : Option Addr) (c1 : Nat) (v : World), cpB i j c n = true → IntsAt v a (outL (addO n i.toNat j.toNat c (forgF n l i)) n) → Calls Try.prog 80 #[.agg #[.int .i64 (outZ (addO n i.toNat j.toNat c (forgF n l i)) n), .slice a (outL (addO n i.toNat j.toNat c (forgF n l i)) n).length c1], .int .i64 j, .int .i64 i, .int .i64 (-c)] v fun e w' => Gives v w' e (outZ (copyF n l i j c) n) (outL (copyF n l i j c) n)) := mkHid fun a c1 v h0 hv => by
      have hf : copyF n l i j c = addO n j.toNat i.toNat (-c) (addO n i.toNat j.toNat c (forgF n l i)) := by unfold copyF; rw [HO.out, h0, hto]; rfl
      rw [hf]
      obtain ⟨h, ⟨i', rfl, _, hi'⟩, ⟨j', rfl, hj'⟩, _⟩ := cp_nat (o := some (tab n l)) (n := n) h0
      have hff := forgF_fine n l i'
      rw [hto] at hff
      simp only [Int.toNat_natCast] at hv ⊢
      exact sAddlD n (addO n i' j' c (forgF n l i')) (addO_good hff (fun f _ => ⟨hi', hj'⟩) c).good a c1 j' i' (fun _ _ => ⟨hj', hi'⟩) (-c) v hv
    have HWC : Hid (cpB i j c n = true → IntKind.i64.wrap (-c) = -c) := mkHid fun h0 => by
      obtain ⟨_, _, _, h3, h4⟩ := cp_nat (o := some (tab n l)) (n := n) h0
      exact IntWalk.i64_in _ (by omega)
    have HNO : Hid (cpB i j c n = false → copyF n l i j c = none) := mkHid fun h => by unfold copyF; rw [HO.out, h]; rfl
    rw [hto]
    obtain ⟨R, hR⟩ : ∃ R, copyF n l i j c = R := ⟨_, rfl⟩
    rw [hR] at HA2 HNO
    rw [hR]
    obtain ⟨R1, hR1⟩ : ∃ R, addO n i.toNat j.toNat c (forgF n l i) = R := ⟨_, rfl⟩
    rw [hR1] at HA1 HA2
    obtain ⟨R0, hR0⟩ : ∃ R, forgF n l i = R := ⟨_, rfl⟩
    rw [hR0] at HA1 HC
    obtain ⟨k, hk⟩ : ∃ k : Int, (n : Int) - 1 = k := ⟨_, rfl⟩
    have hwk : IntKind.i64.wrap ((n : Int) - 1) = k := by rw [← hk]; exact IntWalk.i64_in _ (by omega)
    have hbi := btw_set i hk
    have hbj := btw_sym j hk
    have HOK := mkHid hok
    clear hok hl hfine hll HO hR hR1 hR0 hk hto
    go_enter Try.func47, Try.ntmps47
    go_wp2_with fail
    refine (sOkF_any n l a c0 _ (HL.out.below B0.out)).mono ?_
    rintro e w1 ⟨rfl, hb1⟩
    rw [HOK.out]
    have B1 := mkHid (below_step B0.out hb1)
    have Z1 : Hid (Fz w1 (w.heap.size + 1)) := mkHid (by have := Z0.out.below hb1; simpa using this)
    have T1 := mkHid (T0.out.below hb1)
    obtain ⟨t0, t1⟩ := T1.out
    clear hb1 B0 Z0 T0
    cases hcp : cpB i j c n
    · have e1 : Hid (R = none) := mkHid (HNO.out hcp)
      have hcc : Hid ((setB i n && (symB j n && (!(i == j) && btw c (-2000000) 2000000))) = false) := mkHid hcp
      clear hcp
      obtain ⟨⟨z0, z1⟩, z2, z3⟩ := Z1.out
      cases hi : setB i n
      · rw [hi] at hbi
        go_wp2_with (first | (go_at_call 55; refine (between_any _ _ _ _).mono ?_; rintro e w' ⟨rfl, rfl⟩))
        refine bodyPost_ret (v := .agg #[.int .i64 0, .slice none 0 0]) (by simp [results, Try.results47, go_sem, z0, z1]) rfl ?_
        rw [e1.out]
        exact ⟨none, 0, rfl, OwnI.nil _ _, none_shut B1.out (Nat.le_succ _) _ _⟩
      · rw [hi] at hbi
        cases hj : symB j n
        · rw [hj] at hbj
          go_wp2_with (first | (go_at_call 55; refine (between_any _ _ _ _).mono ?_; rintro e w' ⟨rfl, rfl⟩))
          refine bodyPost_ret (v := .agg #[.int .i64 0, .slice none 0 0]) (by simp [results, Try.results47, go_sem, z0, z1]) rfl ?_
          rw [e1.out]
          exact ⟨none, 0, rfl, OwnI.nil _ _, none_shut B1.out (Nat.le_succ _) _ _⟩
        · rw [hj] at hbj
          cases hij : (i == j)
          · have hc : btw c (-2000000) 2000000 = false := by have := hcc.out; rw [hi, hj, hij] at this; simpa using this
            go_wp2_with (first | (go_at_call 55; refine (between_any _ _ _ _).mono ?_; rintro e w' ⟨rfl, rfl⟩))
            refine bodyPost_ret (v := .agg #[.int .i64 0, .slice none 0 0]) (by simp [results, Try.results47, go_sem, z0, z1]) rfl ?_
            rw [e1.out]
            exact ⟨none, 0, rfl, OwnI.nil _ _, none_shut B1.out (Nat.le_succ _) _ _⟩
          · go_wp2_with (first | (go_at_call 55; refine (between_any _ _ _ _).mono ?_; rintro e w' ⟨rfl, rfl⟩))
            refine bodyPost_ret (v := .agg #[.int .i64 0, .slice none 0 0]) (by simp [results, Try.results47, go_sem, z0, z1]) rfl ?_
            rw [e1.out]
            exact ⟨none, 0, rfl, OwnI.nil _ _, none_shut B1.out (Nat.le_succ _) _ _⟩
    · have hwc := HWC.out hcp
      have HA12 := mkHid (fun a c1 v => HA1.out a c1 v hcp)
      have HA22 := mkHid (fun a c1 v => HA2.out a c1 v hcp)
      have hcc : (setB i n && (symB j n && (!(i == j) && btw c (-2000000) 2000000))) = true := hcp
      rw [Bool.and_eq_true, Bool.and_eq_true, Bool.and_eq_true] at hcc
      obtain ⟨g1, g2, g3, g4⟩ := hcc
      rw [g1] at hbi
      rw [g2] at hbj
      have hij : (i == j) = false := by simpa using g3
      clear hcp g1 g2 g3 HA1 HA2 HWC HNO
      go_wp2_with (first | (go_at_call 55; refine (between_any _ _ _ _).mono ?_; rintro e w' ⟨rfl, rfl⟩))
      refine (HC.out _ (HL.out.below B1.out)).mono ?_
      rintro e w3 ⟨sa, sc, rfl, so, hb3⟩
      have s1 := Z1.out.lt
      have B3 := mkHid ((below_step B1.out hb3).alloc (below_step B1.out hb3).size (.cells #[.int .i64 (outZ R0 n), .slice sa (outL R0 n).length sc] 24))
      have A3 := (Below.refl w3.heap.size w3).alloc (Nat.le_refl _) (.cells #[.int .i64 (outZ R0 n), .slice sa (outL R0 n).length sc] 24)
      have Z3 := mkHid ((Z1.out.below hb3).below A3)
      have O3 := mkHid (so.below A3).at
      clear so hb3 A3 t0 t1 B1 Z1 T1
      go_wp2_with fail
      refine (HA12.out sa sc _ O3.out).mono ?_
      rintro e w4 ⟨ta, tc, rfl, to, hb4⟩
      have B4 := mkHid (below_step B3.out hb4)
      have Z4 := mkHid (Z3.out.below hb4)
      have O4 := mkHid to.at
      clear to hb4 B3 Z3 O3
      go_wp2_with fail
      refine (HA22.out ta tc _ O4.out).mono ?_
      rintro e w9 ⟨ao, cap, rfl, ho, hb9⟩
      obtain ⟨⟨z0, z1⟩, z2, z3⟩ := Z4.out.below hb9
      have HE := mkHid (fun v0 v1 => Gives.shut (b := w.heap.size + 1) B4.out (Nat.le_succ _) Z4.out.lt ho hb9 v0 v1)
      clear hb9 ho
      go_wp2
      exact bodyPost_ret (v := .agg #[.int .i64 (outZ R n), .slice ao (outL R n).length cap]) (by simp [results, Try.results47, go_sem, z0, z1]) rfl ⟨ao, cap, rfl, (HE.out _ _).1, (HE.out _ _).2⟩
end Go.Proofs.Ythhajdjpglpkoaa
