/-
  CONTRACT of the specification's FactsRange.
-/
import Derived.Test.YthhajdjpglpkoaaRg
namespace Go.Proofs.Ythhajdjpglpkoaa
open Go.RowKit

theorem btw_symI (i : Int) {r k : Int} (hk : r - 1 = k) : btw i 0 k = symB i r := by unfold btw symB; rw [decide_eq_decide]; omega
theorem outZ_le (o : Option Tab) {n : Nat} (h : FineO n o) : 0 ≤ outZ o n ∧ outZ o n ≤ 13 := by
  cases o with
  | none => simp [outZ]
  | some f => have := h f rfl; simp [outZ]; omega
set_option maxRecDepth 100000 in
set_option maxHeartbeats 1600000 in
theorem sRange_any (z : Int) (l : List Int) (a : Option Addr) (c0 : Nat) (i : Int) (w : World) (hl : IntsAt w a l) : Calls Try.prog 49 #[.agg #[.int .i64 z, .slice a l.length c0], .int .i64 i] w fun e w' => e = .returned (.agg #[.int .i64 (rngF z l i).1, .int .i64 (rngF z l i).2]) ∧ Below w.heap.size w w' := by
  have HL := mkHid hl
  have HF := mkHid (okO_fine z l)
  have HG := mkHid (clo_fineO (okO_fine z l))
  have B0 := mkHid (((Below.refl w.heap.size w).alloc (Nat.le_refl _) (.cells #[.int .i64 z, .slice a l.length c0] 24)).alloc (by simp) (.cells #[.int .i64 0, .int .i64 0] 51))
  have Z0 := mkHid (Box.new (w.alloc (.cells #[.int .i64 z, .slice a l.length c0] 24)) 0 0 51)
  have HC : Hid (∀ v, IntsAt v a l → Calls Try.prog 30 #[.agg #[.int .i64 z, .slice a l.length c0]] v fun e w' => Gives v w' e (outZ ((okO z l).bind (cloO z.toNat)) z.toNat) (outL ((okO z l).bind (cloO z.toNat)) z.toNat)) := mkHid fun v hv => sClose_any z l a c0 v hv
  have HRF : Hid (rngF z l i = rngO ((okO z l).bind (cloO z.toNat)) z.toNat i) := mkHid rfl
  obtain ⟨R, hR⟩ : ∃ R, rngF z l i = R := ⟨_, rfl⟩
  rw [hR] at HRF
  rw [hR]
  obtain ⟨n, hn⟩ : ∃ n, z.toNat = n := ⟨_, rfl⟩
  rw [hn] at HC HF HG HRF
  obtain ⟨o1, ho1⟩ : ∃ o, okO z l = o := ⟨_, rfl⟩
  rw [ho1] at HC HRF HG HF
  obtain ⟨o2, ho2⟩ : ∃ o, o1.bind (cloO n) = o := ⟨_, rfl⟩
  rw [ho2] at HC HRF HG
  have HCLO : Hid (∀ f, o2 = some f → Closed n f) := mkHid fun f e => by
    rw [← ho2] at e
    cases h1 : o1 with
    | none => rw [h1] at e; cases e
    | some g =>
      rw [h1] at e
      simp only [Option.bind_some, cloO] at e
      split at e
      · rename_i hc
        cases e
        exact clo_closed ((HF.out g h1).2.2.diag) hc
      · cases e
  obtain ⟨rz, hrz⟩ : ∃ rz, outZ o2 n = rz := ⟨_, rfl⟩
  obtain ⟨rl, hrl⟩ : ∃ rl, outL o2 n = rl := ⟨_, rfl⟩
  rw [hrz, hrl] at HC
  have HRZ := mkHid hrz
  have HRL := mkHid hrl
  obtain ⟨ln, hln⟩ : ∃ ln, rl.length = ln := ⟨_, rfl⟩
  have HLN := mkHid hln
  obtain ⟨k, hk⟩ : ∃ k : Int, rz - 1 = k := ⟨_, rfl⟩
  have hwk : IntKind.i64.wrap (rz - 1) = k := by have := outZ_le o2 HG.out; rw [hrz] at this; rw [← hk]; exact IntWalk.i64_in _ (by omega)
  have hbi := btw_symI i hk
  clear hl hR hn ho1 ho2 hrz hrl hln hk
  go_enter Try.func49, Try.ntmps49
  go_wp2_with fail
  refine (HC.out _ (HL.out.below B0.out)).mono ?_
  rintro e w1 ⟨sa, sc, rfl, so, hb1⟩
  rw [HLN.out] at so
  rw [HLN.out]
  have A1 := (Below.refl w1.heap.size w1).alloc (Nat.le_refl _) (.cells #[.int .i64 rz, .slice sa ln sc] 24)
  have B1 := mkHid ((below_step B0.out hb1).alloc (below_step B0.out hb1).size (.cells #[.int .i64 rz, .slice sa ln sc] 24))
  have Z1 : Hid (Box w1 (w.heap.size + 1) 0 0) := mkHid (by have := Z0.out.below hb1; simpa using this)
  have Z2 : Hid (Box (w1.alloc (.cells #[.int .i64 rz, .slice sa ln sc] 24)) (w.heap.size + 1) 0 0) := mkHid (Z1.out.below A1)
  have O1 := mkHid so
  have s5 : w.heap.size + 1 < w1.heap.size := Z1.out.lt
  have s6 : w.heap.size + 1 ≠ w1.heap.size := by omega
  clear so hb1 A1 B0 Z0
  have hsz : symB i rz = symB i (outZ o2 n) := by rw [HRZ.out]
  cases hi : symB i rz
  · rw [hi] at hbi
    have e1 : Hid (R = (1, 0)) := mkHid (HRF.out.trans (rngO_no (by rw [← hsz, hi])))
    clear hsz hi
    go_wp2_with (first | (go_at_call 55; refine (between_any _ _ _ _).mono ?_; rintro e w' ⟨rfl, rfl⟩))
    refine (sNone_any _).mono ?_
    rintro e w4 ⟨rfl, hb4⟩
    have B4 := mkHid (below_step B1.out hb4)
    obtain ⟨z0, z1, z2, z3⟩ := Z2.out.below hb4
    clear hb4
    go_wp2
    exact bodyPost_ret (v := .agg #[.int .i64 1, .int .i64 0]) (by simp [results, Try.results49, go_sem, z0, z1]) rfl ⟨ret_pair e1.out, pair_shut B4.out (Nat.le_succ _) _ _⟩
  · rw [hi] at hbi
    obtain ⟨f, rfl, hs⟩ := symB_out (o := o2) (n := n) (i := i) (by rw [← hsz, hi])
    obtain rfl : (n : Int) = rz := HRZ.out
    obtain rfl : mk n f = rl := HRL.out
    obtain ⟨h1, h2, h3⟩ := HG.out f rfl
    obtain ⟨i', rfl, hi'⟩ := sym_nat (o := some f) (n := n) hi
    have e1 : Hid (R = (-(f 0 i'), f i' 0)) := mkHid (by rw [HRF.out]; unfold rngO; rw [hs]; simp)
    have hq : ln = n * n := by rw [← HLN.out, mk_len]
    have hsq := sq_le h2
    have hsp := sq_pos h1
    obtain ⟨g, rfl⟩ : ∃ g, sa = some ⟨g, 0, none⟩ := by
      rcases O1.out.2 with ⟨_, h⟩ | ⟨g, cap', cur, e, _⟩
      · rw [HLN.out] at h; omega
      · simp at e; exact ⟨g, e.1⟩
    obtain ⟨im, him⟩ : ∃ im, i' * n = im := ⟨_, rfl⟩
    have hiq : im + n ≤ ln := by rw [hq, ← him, show i' * n + n = (i' + 1) * n by rw [Nat.add_mul]; omega]; exact Nat.mul_le_mul_right n hi'
    have hwi : IntKind.i64.wrap ((i' : Int) * (n : Int)) = (im : Int) := by rw [show (i' : Int) * (n : Int) = ((i' * n : Nat) : Int) by simp, him]; exact IntWalk.i64_in _ (by omega)
    have c1 := O1.out.cell (p := i') (by rw [HLN.out]; omega)
    have c2 := O1.out.cell (p := im) (by rw [HLN.out]; omega)
    have v1 := mk_V n f 0 i' (by omega) hi'
    have v2 := mk_V n f i' 0 hi' (by omega)
    rw [show 0 * n + i' = i' by omega] at v1
    rw [him, Nat.add_zero] at v2
    rw [v1] at c1
    rw [v2] at c2
    obtain ⟨x1', hf1⟩ : ∃ x, f 0 i' = x := ⟨_, rfl⟩
    obtain ⟨x2', hf2⟩ : ∃ x, f i' 0 = x := ⟨_, rfl⟩
    have q1 := h3 0 i' (by omega) hi'
    have q2 := h3 i' 0 hi' (by omega)
    have q3 : capT 0 i' ≤ 1000000 ∧ capT i' 0 ≤ 1000000 := by
      unfold capT
      constructor
      · split; omega; rw [if_pos (.inl rfl)]; omega
      · split; omega; rw [if_pos (.inr rfl)]; omega
    have q4 := closed_low (HCLO.out f rfl) (i := 0) (j := i') (by omega) hi'
    rw [hf1] at c1 q1 e1 q4
    rw [hf2] at c2 q2 e1 q4
    have hMK : Hid (mkM (-x1') x2' = (-x1', x2')) := mkHid (by
      unfold mkM spanM
      rw [show max (-x1') (-1000000) = -x1' by omega, show min x2' 1000000 = x2' by omega, if_neg (by omega)])
    have hw1 : IntKind.i64.wrap (-x1') = -x1' := IntWalk.i64_in _ (by omega)
    have a0 : (0 : Int) ≤ (i' : Int) := by omega
    have a1 : (i' : Int) < (ln : Int) := by omega
    have a2 : (0 : Int) ≤ (im : Int) := by omega
    have a3 : (im : Int) < (ln : Int) := by omega
    obtain ⟨z0, z1, z2, z3⟩ := Z1.out
    have hgl := O1.out.base_le
    have hgn : g ≠ w1.heap.size := by omega
    have hgn2 := hgl.2
    clear hi hs HRF HG HF hf1 hf2 q1 q2 q3 q4 h3 v1 v2 him hsq hsp hsz hq
    go_wp2_with (first | (go_at_call 55; refine (between_any _ _ _ _).mono ?_; rintro e w' ⟨rfl, rfl⟩))
    go_region_with (go_at_call 86; refine (sMake_any _ _ _).mono ?_; rintro e w' ⟨rfl, hb⟩; obtain ⟨y0, y1, y2, y3⟩ := Z2.out.drew.below hb)
    all_goals
      have B4 := mkHid (below_step B1.out.drew hb)
      clear hb
      go_wp2
      refine bodyPost_ret (v := .agg #[.int .i64 (mkM (-x1') x2').1, .int .i64 (mkM (-x1') x2').2]) (by simp [results, Try.results49, go_sem, y0, y1]) rfl ⟨?_, pair_shut B4.out (Nat.le_succ _) _ _⟩
      rw [hMK.out]
      exact ret_pair e1.out
end Go.Proofs.Ythhajdjpglpkoaa
