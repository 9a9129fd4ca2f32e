/-
  CONTRACT of the specification's FactsAdd.
-/
import Derived.Test.YthhajdjpglpkoaaAs
namespace Go.Proofs.Ythhajdjpglpkoaa
open Go.RowKit

theorem btw_sym {n : Nat} (i : Int) {k : Int} (hk : (n : Int) - 1 = k) : btw i 0 k = symB i n := by unfold btw symB; rw [decide_eq_decide]; omega
theorem btw_set {n : Nat} (i : Int) {k : Int} (hk : (n : Int) - 1 = k) : btw i 1 k = setB i n := by unfold btw setB; rw [decide_eq_decide]; omega
theorem outZ_some (f : Tab) (n : Nat) : outZ (some f) n = n := rfl
set_option maxRecDepth 100000 in
set_option maxHeartbeats 1600000 in
theorem sAdd_any (z : Int) (l : List Int) (a : Option Addr) (c0 : Nat) (i j c : Int) (w : World) (hl : IntsAt w a l) : Calls Try.prog 41 #[.agg #[.int .i64 z, .slice a l.length c0], .int .i64 i, .int .i64 j, .int .i64 c] w fun e w' => Gives w w' e (outZ (addF z l i j c) z.toNat) (outL (addF z l i j c) z.toNat) := by
  have HL := mkHid hl
  have B0 := mkHid (((Below.refl w.heap.size w).alloc (Nat.le_refl _) (.cells #[.int .i64 z, .slice a l.length c0] 24)).alloc (by simp) (.cells #[.int .i64 0, .slice none 0 0] 24))
  have Z0 := mkHid (Fz.new (w.alloc (.cells #[.int .i64 z, .slice a l.length c0] 24)))
  have T0 := mkHid ((Fc.new w z a l.length c0 24).alloc (.cells #[.int .i64 0, .slice none 0 0] 24))
  cases hok : okF z l
  · have e1 : Hid (addF z l i j c = none) := mkHid (by
      unfold addF
      rw [okO_no hok]
      split <;> rfl)
    have HOK := mkHid hok
    clear hok hl
    go_enter Try.func41, Try.ntmps41
    go_wp2_with fail
    refine (sOkF_any z l a c0 _ (HL.out.below B0.out)).mono ?_
    rintro e w1 ⟨rfl, hb1⟩
    rw [HOK.out]
    have B1 := mkHid (below_step B0.out hb1)
    have Z1 : Hid (Fz w1 (w.heap.size + 1)) := mkHid (by have := Z0.out.below hb1; simpa using this)
    obtain ⟨⟨z0, z1⟩, z2, z3⟩ := Z1.out
    clear hb1
    go_wp2
    refine bodyPost_ret (v := .agg #[.int .i64 0, .slice none 0 0]) (by simp [results, Try.results41, go_sem, z0, z1]) rfl ?_
    rw [e1.out]
    exact ⟨none, 0, rfl, OwnI.nil _ _, none_shut B1.out (Nat.le_succ _) _ _⟩
  · obtain ⟨n, hn, h1, h2, hll, hmk, hfine⟩ := ok_of hok
    subst hn
    have hto : ((n : Int)).toNat = n := Int.toNat_natCast n
    have HO : Hid (okO n l = some (tab n l)) := mkHid (by rw [okO_yes hok, hto])
    have HF : Hid (addF n l i j c = if symB i n && symB j n then addO n i.toNat j.toNat c (some (tab n l)) else none) := mkHid (by unfold addF; rw [hto, HO.out]; rfl)
    have HA : Hid (∀ (v : World), symB i n = true → symB j n = true → IntsAt v a l → Calls Try.prog 80 #[.agg #[.int .i64 n, .slice a l.length c0], .int .i64 i, .int .i64 j, .int .i64 c] v fun e w' => Gives v w' e (outZ (addF n l i j c) n) (outL (addF n l i j c) n)) := mkHid fun v hi hj hv => by
      obtain ⟨i', rfl, hi'⟩ := sym_nat (o := some (tab n l)) hi
      obtain ⟨j', rfl, hj'⟩ := sym_nat (o := some (tab n l)) hj
      rw [HF.out, hi, hj]
      have := sAddl_some n (tab n l) h1 h2 hfine.bd a c0 i' j' hi' hj' c v (by rw [← hmk]; exact hv)
      rw [← hmk] at this
      simpa using this
    have HNO : Hid ((symB i n && symB j n) = false → addF n l i j c = none) := mkHid fun h => by rw [HF.out, h]; rfl
    rw [hto]
    obtain ⟨R, hR⟩ : ∃ R, addF n l i j c = R := ⟨_, rfl⟩
    rw [hR] at HA HNO
    rw [hR]
    obtain ⟨k, hk⟩ : ∃ k : Int, (n : Int) - 1 = k := ⟨_, rfl⟩
    have hwk : IntKind.i64.wrap ((n : Int) - 1) = k := by rw [← hk]; exact IntWalk.i64_in _ (by omega)
    have hbi := btw_sym i hk
    have hbj := btw_sym j hk
    have HOK := mkHid hok
    clear hok hl hmk hfine hll HO HF hR hk hto
    go_enter Try.func41, Try.ntmps41
    go_wp2_with fail
    refine (sOkF_any n l a c0 _ (HL.out.below B0.out)).mono ?_
    rintro e w1 ⟨rfl, hb1⟩
    rw [HOK.out]
    have B1 := mkHid (below_step B0.out hb1)
    have Z1 : Hid (Fz w1 (w.heap.size + 1)) := mkHid (by have := Z0.out.below hb1; simpa using this)
    obtain ⟨t0, t1⟩ := T0.out.below hb1
    clear hb1
    cases hi : symB i n
    · have e1 : Hid (R = none) := mkHid (HNO.out (by rw [hi]; rfl))
      rw [hi] at hbi
      obtain ⟨⟨z0, z1⟩, z2, z3⟩ := Z1.out
      go_wp2_with (first | (go_at_call 55; refine (between_any _ _ _ _).mono ?_; rintro e w' ⟨rfl, rfl⟩))
      refine bodyPost_ret (v := .agg #[.int .i64 0, .slice none 0 0]) (by simp [results, Try.results41, go_sem, z0, z1]) rfl ?_
      rw [e1.out]
      exact ⟨none, 0, rfl, OwnI.nil _ _, none_shut B1.out (Nat.le_succ _) _ _⟩
    · rw [hi] at hbi
      cases hj : symB j n
      · have e1 : Hid (R = none) := mkHid (HNO.out (by rw [hi, hj]; rfl))
        rw [hj] at hbj
        obtain ⟨⟨z0, z1⟩, z2, z3⟩ := Z1.out
        go_wp2_with (first | (go_at_call 55; refine (between_any _ _ _ _).mono ?_; rintro e w' ⟨rfl, rfl⟩))
        refine bodyPost_ret (v := .agg #[.int .i64 0, .slice none 0 0]) (by simp [results, Try.results41, go_sem, z0, z1]) rfl ?_
        rw [e1.out]
        exact ⟨none, 0, rfl, OwnI.nil _ _, none_shut B1.out (Nat.le_succ _) _ _⟩
      · rw [hj] at hbj
        have HA2 := mkHid (fun v => HA.out v hi hj)
        clear hi hj
        go_wp2_with (first | (go_at_call 55; refine (between_any _ _ _ _).mono ?_; rintro e w' ⟨rfl, rfl⟩))
        refine (HA2.out _ (HL.out.below B1.out)).mono ?_
        rintro e w3 ⟨ao, cap, rfl, ho, hb3⟩
        obtain ⟨⟨z0, z1⟩, z2, z3⟩ := Z1.out.below hb3
        have HE := mkHid (fun v0 v1 => Gives.shut (b := w.heap.size + 1) B1.out (Nat.le_succ _) Z1.out.lt ho hb3 v0 v1)
        clear hb3 ho t0 t1
        go_wp2
        exact bodyPost_ret (v := .agg #[.int .i64 (outZ R n), .slice ao (outL R n).length cap]) (by simp [results, Try.results41, go_sem, z0, z1]) rfl ⟨ao, cap, rfl, (HE.out _ _).1, (HE.out _ _).2⟩
theorem addF_fine (z : Int) (l : List Int) (i j c : Int) : FineO z.toNat (addF z l i j c) := by
  unfold addF
  split
  · rename_i h
    rw [Bool.and_eq_true] at h
    obtain ⟨i', rfl, hi'⟩ := sym_nat h.1
    obtain ⟨j', rfl, hj'⟩ := sym_nat h.2
    exact addO_good (okO_fine z l) (fun f _ => ⟨by simpa using hi', by simpa using hj'⟩) c
  · exact fun f e => by cases e
end Go.Proofs.Ythhajdjpglpkoaa
