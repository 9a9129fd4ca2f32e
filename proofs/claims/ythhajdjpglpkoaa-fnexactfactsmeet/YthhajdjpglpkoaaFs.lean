/-
  CONTRACT of the specification's FactsForget.
-/
import Derived.Test.YthhajdjpglpkoaaFi
namespace Go.Proofs.Ythhajdjpglpkoaa
open Go.RowKit

theorem free_stepS {n i j : Nat} (f : Tab) (hi : i < n) (hj : j < n) : ((mk n (freeP i j f)).set (i * n + j) (capT i j)).set (j * n + i) (capT j i) = mk n (freeP i (j + 1) f) := by
  rw [mk_set _ hi hj, mk_set _ hj hi]
  refine mk_congr fun a b _ _ => ?_
  unfold freeP
  by_cases h1 : a = j ∧ b = i
  · obtain ⟨rfl, rfl⟩ := h1
    rw [if_pos ⟨rfl, rfl⟩, if_pos (by omega)]
  · rw [if_neg h1]
    by_cases h2 : a = i ∧ b = j
    · obtain ⟨rfl, rfl⟩ := h2
      rw [if_pos ⟨rfl, rfl⟩, if_pos (by omega)]
    · rw [if_neg h2]
      by_cases h3 : a = i ∧ b < j ∨ b = i ∧ a < j
      · rw [if_pos h3, if_pos (by omega)]
      · rw [if_neg h3, if_neg (by omega)]
theorem Fc.drew {w : World} {b : Nat} {z : Int} {a : Option Addr} {n c : Nat} (h : Fc w b z a n c) : Fc w.drew b z a n c := h.below (Below.refl _ _).drew
theorem Fz.drew {w : World} {b : Nat} (h : Fz w b) : Fz w.drew b := h.below (Below.refl _ _).drew
theorem OwnI.drew {w : World} {base : Nat} {v : Value} {l : List Int} (h : OwnI w base v l) : OwnI w.drew base v l := h.below (Below.refl _ _).drew
theorem Gives.shut2 {w w5 : World} {b base : Nat} {ao : Option Addr} {cap : Nat} {l : List Int} (hbel : Below w.heap.size w w5) (hb : w.heap.size ≤ b) (h : OwnI w5 base (.slice ao l.length cap) l) (h5 : b < base) (v0 v1 : Value) :
    OwnI ((w5.setCell ⟨b, 0, none⟩ v0).setCell ⟨b, 1, none⟩ v1) w.heap.size (.slice ao l.length cap) l ∧ Below w.heap.size w ((w5.setCell ⟨b, 0, none⟩ v0).setCell ⟨b, 1, none⟩ v1) := by
  have hlo : ∀ q, Value.ownBlock (.slice ao l.length cap) = some q → some b ≠ some q := fun q hq => some_ne (by have := h.lt hq; omega)
  exact ⟨((h.mono (by omega)).grown (grown_setCell _ ⟨b, 0, none⟩ _) hlo).grown (grown_setCell _ ⟨b, 1, none⟩ _) hlo, (hbel.setCell (p := ⟨b, 0, none⟩) hb _).setCell (p := ⟨b, 1, none⟩) hb _⟩
set_option maxRecDepth 100000 in
set_option maxHeartbeats 3200000 in
theorem sForget_any (z : Int) (l : List Int) (a : Option Addr) (c0 : Nat) (i : Int) (w : World) (hl : IntsAt w a l) : Calls Try.prog 43 #[.agg #[.int .i64 z, .slice a l.length c0], .int .i64 i] w fun e w' => Gives w w' e (outZ (forgF z l i) z.toNat) (outL (forgF z l i) z.toNat) := by
  have HL := mkHid hl
  have B0 := mkHid (((Below.refl w.heap.size w).alloc (Nat.le_refl _) (.cells #[.int .i64 z, .slice a l.length c0] 24)).alloc (by simp) (.cells #[.int .i64 0, .slice none 0 0] 24))
  have Z0 := mkHid (Fz.new (w.alloc (.cells #[.int .i64 z, .slice a l.length c0] 24)))
  have T0 := mkHid ((Fc.new w z a l.length c0 24).alloc (.cells #[.int .i64 0, .slice none 0 0] 24))
  cases hok : okF z l
  · have e1 : Hid (forgF z l i = none) := mkHid (by
      unfold forgF
      rw [okO_no hok]
      split <;> rfl)
    have HOK := mkHid hok
    clear hok hl
    go_enter Try.func43, Try.ntmps43
    go_wp2_with fail
    refine (sOkF_any z l a c0 _ (HL.out.below B0.out)).mono ?_
    rintro e w1 ⟨rfl, hb1⟩
    rw [HOK.out]
    have B1 := mkHid (below_step B0.out hb1)
    have Z1 : Hid (Fz w1 (w.heap.size + 1)) := mkHid (by have := Z0.out.below hb1; simpa using this)
    obtain ⟨⟨z0, z1⟩, z2, z3⟩ := Z1.out
    clear hb1
    go_wp2
    refine bodyPost_ret (v := .agg #[.int .i64 0, .slice none 0 0]) (by simp [results, Try.results43, go_sem, z0, z1]) rfl ?_
    rw [e1.out]
    exact ⟨none, 0, rfl, OwnI.nil _ _, none_shut B1.out (Nat.le_succ _) _ _⟩
  · obtain ⟨n, hn, h1, h2, hll, -, hfine⟩ := ok_of hok
    subst hn
    have hto : ((n : Int)).toNat = n := Int.toNat_natCast n
    have HO : Hid (okO n l = some (tab n l)) := mkHid (by rw [okO_yes hok, hto])
    have HF : Hid (forgF n l i = if setB i n then (cloO n (tab n l)).map (freeT i.toNat) else none) := mkHid (by unfold forgF; rw [hto, HO.out]; rfl)
    have HC : Hid (∀ (v : World), IntsAt v a l → Calls Try.prog 30 #[.agg #[.int .i64 n, .slice a l.length c0]] v fun e w' => Gives v w' e (outZ (cloO n (tab n l)) n) (outL (cloO n (tab n l)) n)) := mkHid fun v hv => by
      have := sClose_any n l a c0 v hv
      rw [hto, HO.out] at this
      exact this
    have HNO : Hid (setB i n = false → forgF n l i = none) := mkHid fun h => by rw [HF.out, h]; rfl
    have HYES : Hid (setB i n = true → forgF n l i = (cloO n (tab n l)).map (freeT i.toNat)) := mkHid fun h => by rw [HF.out, h]; rfl
    rw [hto]
    obtain ⟨k, hk⟩ : ∃ k : Int, (n : Int) - 1 = k := ⟨_, rfl⟩
    have hwk : IntKind.i64.wrap ((n : Int) - 1) = k := by rw [← hk]; exact IntWalk.i64_in _ (by omega)
    have hbi := btw_set i hk
    have HOK := mkHid hok
    obtain ⟨o2, ho2⟩ : ∃ o2, cloO n (tab n l) = o2 := ⟨_, rfl⟩
    rw [ho2] at HC HYES
    obtain ⟨rz, hrz⟩ : ∃ rz, outZ o2 n = rz := ⟨_, rfl⟩
    obtain ⟨rl, hrl⟩ : ∃ rl, outL o2 n = rl := ⟨_, rfl⟩
    rw [hrz, hrl] at HC
    have HRZ := mkHid hrz
    have HRL := mkHid hrl
    obtain ⟨R, hR⟩ : ∃ R, forgF n l i = R := ⟨_, rfl⟩
    rw [hR] at HNO HYES
    rw [hR]
    obtain ⟨ln, hln⟩ : ∃ ln, rl.length = ln := ⟨_, rfl⟩
    have HLN := mkHid hln
    clear hok hl hfine hll HO HF hk hto ho2 hrz hrl hR hln
    go_enter Try.func43, Try.ntmps43
    go_wp2_with fail
    refine (sOkF_any n l a c0 _ (HL.out.below B0.out)).mono ?_
    rintro e w1 ⟨rfl, hb1⟩
    rw [HOK.out]
    have B1 := mkHid (below_step B0.out hb1)
    have Z1 : Hid (Fz w1 (w.heap.size + 1)) := mkHid (by have := Z0.out.below hb1; simpa using this)
    have T1 := mkHid (T0.out.below hb1)
    obtain ⟨t0, t1⟩ := T1.out
    clear hb1 B0 Z0 T0
    cases hi : setB i n
    · have e1 : Hid (R = none) := mkHid (HNO.out hi)
      rw [hi] at hbi
      obtain ⟨⟨z0, z1⟩, z2, z3⟩ := Z1.out
      go_wp2_with (first | (go_at_call 55; refine (between_any _ _ _ _).mono ?_; rintro e w' ⟨rfl, rfl⟩))
      refine bodyPost_ret (v := .agg #[.int .i64 0, .slice none 0 0]) (by simp [results, Try.results43, go_sem, z0, z1]) rfl ?_
      rw [e1.out]
      exact ⟨none, 0, rfl, OwnI.nil _ _, none_shut B1.out (Nat.le_succ _) _ _⟩
    · rw [hi] at hbi
      have HY := mkHid (HYES.out hi)
      obtain ⟨i', rfl, hi0, hi1⟩ := set_nat (o := some (tab n l)) (n := n) hi
      rw [show ((i' : Int)).toNat = i' from Int.toNat_natCast i'] at HY
      clear hi HYES HNO
      go_wp2_with (first | (go_at_call 55; refine (between_any _ _ _ _).mono ?_; rintro e w' ⟨rfl, rfl⟩))
      refine (HC.out _ (HL.out.below B1.out)).mono ?_
      rintro e w3 ⟨sa, sc, rfl, so, hb3⟩
      rw [HLN.out] at so
      rw [HLN.out]
      obtain ⟨b5, hb5⟩ : ∃ b, w3.heap.size = b := ⟨_, rfl⟩
      have s1 := Z1.out.lt
      have s3 := hb3.size
      have B3 := mkHid ((below_step B1.out hb3).alloc (below_step B1.out hb3).size (.cells #[.int .i64 rz, .slice sa ln sc] 24))
      have A3 := (Below.refl w3.heap.size w3).alloc (Nat.le_refl _) (.cells #[.int .i64 rz, .slice sa ln sc] 24)
      have Z3 := mkHid ((Z1.out.below hb3).below A3)
      have T3 := mkHid ((T1.out.below hb3).below A3)
      have X3 := mkHid (Fc.new w3 rz sa ln sc 24)
      have O3 := mkHid (so.below A3)
      have SL : Hid (∀ q, Value.ownBlock (.slice sa ln sc) = some q → w1.heap.size ≤ q ∧ q < b5) := mkHid fun q hq => by have := so.lt hq; omega
      rw [hb5] at X3
      have hs5 : w.heap.size + 1 < b5 := by omega
      clear so hb3 A3 t0 t1
      obtain ⟨x0, x1⟩ := X3.out
      go_wp2_with fail
      refine (sNoF_any rz sa ln sc _).mono ?_
      rintro e w4 ⟨rfl, hb4⟩
      have B4 := mkHid (below_step B3.out hb4)
      have Z4 := mkHid (Z3.out.below hb4)
      have T4 := mkHid (T3.out.below hb4)
      have X4 := mkHid (X3.out.below hb4)
      have O4 := mkHid (O3.out.below hb4)
      clear hb4 B3 Z3 T3 X3 O3 x0 x1 hb5
      cases o2 with
      | none =>
        have e1 : Hid (R = none) := mkHid HY.out
        obtain rfl : (0 : Int) = rz := HRZ.out
        obtain rfl : [] = rl := HRL.out
        obtain rfl : 0 = ln := HLN.out
        have hno : noN 0 0 = true := rfl
        rw [hno]
        obtain ⟨x0, x1⟩ := X4.out
        obtain ⟨⟨z0, z1⟩, z2, z3⟩ := Z4.out
        have HE := mkHid (fun v0 v1 => Gives.shut2 (b := w.heap.size + 1) (l := []) B4.out (Nat.le_succ _) O4.out s1 v0 v1)
        go_wp2
        refine bodyPost_ret (v := .agg #[.int .i64 0, .slice sa 0 sc]) (by simp [results, Try.results43, go_sem, z0, z1]) rfl ?_
        rw [e1.out]
        exact ⟨sa, sc, rfl, (HE.out _ _).1, (HE.out _ _).2⟩
      | some f =>
        have e1 : Hid (R = some (freeT i' f)) := mkHid HY.out
        obtain rfl : (n : Int) = rz := HRZ.out
        obtain rfl : mk n f = rl := HRL.out
        have hq1 := sq_le h2
        have hq0 := sq_pos h1
        have hln : ln = n * n := by rw [← HLN.out, mk_len]
        have HSTP : Hid (∀ j, j < n → ((mk n (freeP i' j f)).set (i' * n + j) (capT i' j)).set (j * n + i') (capT j i') = mk n (freeP i' (j + 1) f)) := mkHid fun j hj => free_stepS f hi1 hj
        have HEND : Hid (mk n (freeP i' n f) = mk n (freeT i' f)) := mkHid (mk_congr fun a b ha hb => freeP_all f ha hb)
        have HM0 : Hid (mk n (freeP i' 0 f) = mk n f) := mkHid (by rw [freeP_none])
        have HPL : Hid (∀ u, (mk n (freeP i' u f)).length = ln) := mkHid fun u => by rw [hln]; exact mk_len _ _
        have HTL : Hid ((mk n (freeT i' f)).length = ln) := mkHid (by rw [hln]; exact mk_len _ _)
        have HSQ : Hid (∀ j, j < n → j * n + n ≤ ln) := mkHid fun j hj => by rw [hln, show j * n + n = (j + 1) * n by rw [Nat.add_mul]; omega]; exact Nat.mul_le_mul_right n hj
        rw [← hln] at hq1 hq0
        obtain ⟨g, rfl⟩ : ∃ g, sa = some ⟨g, 0, none⟩ := by
          rcases O4.out.2 with ⟨_, h⟩ | ⟨g, cap', cur, e, _⟩
          · rw [HLN.out] at h; omega
          · simp at e; exact ⟨g, e.1⟩
        have hgl := SL.out g rfl
        have hno : noN (n : Int) ln = false := decide_eq_false fun h => by omega
        rw [hno]
        obtain ⟨P, hP⟩ : ∃ P : Nat → List Int, (fun u => mk n (freeP i' u f)) = P := ⟨_, rfl⟩
        have e0 : ∀ u, mk n (freeP i' u f) = P u := fun u => by rw [← hP]
        simp only [e0] at HSTP HEND HM0 HPL
        obtain ⟨im, him⟩ : ∃ im, i' * n = im := ⟨_, rfl⟩
        have hiq : im + n ≤ ln := by rw [← him]; exact HSQ.out i' hi1
        have hwi : IntKind.i64.wrap ((i' : Int) * (n : Int)) = (im : Int) := by rw [show (i' : Int) * (n : Int) = ((i' * n : Nat) : Int) by simp, him]; exact IntWalk.i64_in _ (by omega)
        rw [him] at HSTP
        rw [← HM0.out] at O4
        clear hln hP e0 him HY HRZ HRL HLN s3 SL HM0
        go_wp2_with fail
        go_loopg [6] n (fun gh s wr => ∃ (j : Nat), j + gh = n ∧ s = .int .i64 j ∧ OwnI wr w1.heap.size (.slice (some ⟨g, 0, none⟩) ln sc) (P j) ∧ Fc wr b5 n (some ⟨g, 0, none⟩) ln sc ∧ Fc wr w.heap.size n a l.length c0 ∧ Fz wr (w.heap.size + 1) ∧ Below w.heap.size w wr)
        case atStart => exact ⟨0, by omega, rfl, O4.out, X4.out, T4.out, Z4.out, B4.out⟩
        case round =>
          obtain ⟨j, hjg, rfl, hO, hX, hT, hZ, hB⟩ := hrel
          have HO := mkHid hO
          have HX := mkHid hX
          have HT := mkHid hT
          have HZ := mkHid hZ
          have HB := mkHid hB
          clear hO hB O4 X4 T4 Z4 B4
          obtain ⟨x0, x1⟩ := hX
          obtain ⟨t0, t1⟩ := hT
          cases gk with
          | zero =>
            have hlt : ¬ ((j : Int) < (n : Int)) := by omega
            have e : j = n := by omega
            subst e
            rw [HEND.out] at HO
            obtain ⟨⟨z0, z1⟩, z2, z3⟩ := hZ
            have HE : Hid (∀ v0 v1, OwnI ((wr.setCell ⟨w.heap.size + 1, 0, none⟩ v0).setCell ⟨w.heap.size + 1, 1, none⟩ v1) w.heap.size (.slice (some ⟨g, 0, none⟩) (mk j (freeT i' f)).length sc) (mk j (freeT i' f)) ∧ Below w.heap.size w ((wr.setCell ⟨w.heap.size + 1, 0, none⟩ v0).setCell ⟨w.heap.size + 1, 1, none⟩ v1)) := mkHid fun v0 v1 => Gives.shut2 HB.out (Nat.le_succ _) (by rw [HTL.out]; exact HO.out) s1 v0 v1
            rw [HTL.out] at HE
            have HTL2 : Hid (ln = (mk j (freeT i' f)).length) := mkHid HTL.out.symm
            go_wp2
            refine bodyPost_ret (v := .agg #[.int .i64 j, .slice (some ⟨g, 0, none⟩) ln sc]) (by simp [results, Try.results43, go_sem, z0, z1]) rfl ?_
            rw [e1.out]
            refine ⟨some ⟨g, 0, none⟩, sc, by show _ = Ending.returned (.agg #[.int .i64 j, .slice (some ⟨g, 0, none⟩) (mk j (freeT i' f)).length sc]); rw [← HTL2.out], ?_, (HE.out _ _).2⟩
            show OwnI _ _ (.slice (some ⟨g, 0, none⟩) (mk j (freeT i' f)).length sc) (mk j (freeT i' f))
            rw [← HTL2.out]
            exact (HE.out _ _).1
          | succ gh =>
            have hlt : (j : Int) < (n : Int) := by omega
            obtain ⟨jm, hjm⟩ : ∃ jm, j * n = jm := ⟨_, rfl⟩
            have hjq : jm + n ≤ ln := by rw [← hjm]; exact HSQ.out j (by omega)
            have hwj : IntKind.i64.wrap ((j : Int) * (n : Int)) = (jm : Int) := by rw [show (j : Int) * (n : Int) = ((j * n : Nat) : Int) by simp, hjm]; exact IntWalk.i64_in _ (by omega)
            have HS := mkHid (HSTP.out j (by omega))
            rw [hjm] at HS
            obtain ⟨p1, hp1⟩ : ∃ p, im + j = p := ⟨_, rfl⟩
            obtain ⟨p2, hp2⟩ : ∃ p, jm + i' = p := ⟨_, rfl⟩
            rw [hp1, hp2] at HS
            have hw1 : IntKind.i64.wrap ((im : Int) + (j : Int)) = (p1 : Int) := by rw [← hp1]; exact IntWalk.i64_in _ (by omega)
            have hw2 : IntKind.i64.wrap ((jm : Int) + (i' : Int)) = (p2 : Int) := by rw [← hp2]; exact IntWalk.i64_in _ (by omega)
            have c1 := HO.out.cell (p := p1) (by rw [HPL.out]; omega)
            have f1 := HO.out.free p1
            have a0 : (0 : Int) ≤ (p1 : Int) := by omega
            have a1 : (p1 : Int) < (ln : Int) := by omega
            have a2 : (0 : Int) ≤ (p2 : Int) := by omega
            have a3 : (p2 : Int) < (ln : Int) := by omega
            obtain ⟨y1, hy1⟩ : ∃ y, (P j).getD p1 0 = y := ⟨_, rfl⟩
            rw [hy1] at c1
            have hg0 : g ≠ b5 := by omega
            have hg1 : b5 ≠ g := by omega
            have hg2 : g ≠ w.heap.size := by omega
            have hg3 : w.heap.size ≠ g := by omega
            clear hjm hy1 hZ hp1 hp2
            go_wp2_with fail
            go_region_with (go_at_call 56; refine (sCap_any _ _ _).mono ?_; rintro e w' ⟨rfl, rfl⟩)
            all_goals
              have O2 := mkHid (HO.out.stored p1 (capT i' j)).1.drew
              have gr := (HO.out.stored p1 (capT i' j)).2
              have X2 := mkHid (HX.out.grown gr (some_ne hg1)).drew
              have T2 := mkHid (HT.out.grown gr (some_ne hg3)).drew
              have Z2 := mkHid (HZ.out.grown gr (some_ne (by omega))).drew
              have B2 := mkHid (HB.out.grown gr HB.out.size (fun q hq => by have e : g = q := Option.some.inj hq; omega)).drew
              obtain ⟨w2, hw2'⟩ : ∃ w2, (wr.setCell ⟨g, p1, none⟩ (.int .i64 (capT i' j))).drew = w2 := ⟨_, rfl⟩
              rw [hw2'] at O2 X2 T2 Z2 B2
              rw [hw2']
              clear hw2' gr c1 f1 x0 x1 t0 t1
              obtain ⟨x0, x1⟩ := X2.out
              obtain ⟨t0, t1⟩ := T2.out
              have c2 := O2.out.cell (p := p2) (by rw [List.length_set, HPL.out]; omega)
              have f2 := O2.out.free p2
              obtain ⟨y2, hy2⟩ : ∃ y, ((P j).set p1 (capT i' j)).getD p2 0 = y := ⟨_, rfl⟩
              rw [hy2] at c2
              clear hy2
              go_wp2_with fail
              go_region_with (go_at_call 56; refine (sCap_any _ _ _).mono ?_; rintro e w' ⟨rfl, rfl⟩)
              all_goals
                have O5 : Hid (OwnI (w2.setCell ⟨g, p2, none⟩ (.int .i64 (capT j i'))).drew w1.heap.size (.slice (some ⟨g, 0, none⟩) ln sc) (P (j + 1))) := mkHid (by rw [← HS.out]; exact (O2.out.stored p2 (capT j i')).1.drew)
                have gr := (O2.out.stored p2 (capT j i')).2
                have X5 := mkHid (X2.out.grown gr (some_ne hg1)).drew
                have T5 := mkHid (T2.out.grown gr (some_ne hg3)).drew
                have Z5 := mkHid (Z2.out.grown gr (some_ne (by omega))).drew
                have B5 := mkHid (B2.out.grown gr B2.out.size (fun q hq => by have e : g = q := Option.some.inj hq; omega)).drew
                obtain ⟨w5, hw5⟩ : ∃ w5, (w2.setCell ⟨g, p2, none⟩ (.int .i64 (capT j i'))).drew = w5 := ⟨_, rfl⟩
                rw [hw5] at O5 X5 T5 Z5 B5
                rw [hw5]
                clear hw5 gr c2 f2 x0 x1 t0 t1
                go_wp2
                go_roundg gh
                case measure => omega
                case rel => exact ⟨j + 1, by omega, by go_num, O5.out, X5.out, T5.out, Z5.out, B5.out⟩
end Go.Proofs.Ythhajdjpglpkoaa
