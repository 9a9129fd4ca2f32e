/-
  CONTRACT of the specification's FactsShift.
-/
import Derived.Test.YthhajdjpglpkoaaSi
import Derived.Test.YthhajdjpglpkoaaFs
import Derived.Deep.CutRange
import Derived.Deep.RegionHeld3
namespace Go.Proofs.Ythhajdjpglpkoaa
open Go.RowKit

theorem mk_two {n : Nat} (f : Tab) {i j : Nat} (hi : i < n) (hj : j < n) (x y : Int) : ((mk n f).set (i * n + j) x).set (j * n + i) y = mk n (fun a b => if a = j ∧ b = i then y else if a = i ∧ b = j then x else f a b) := by
  rw [mk_set f hi hj, mk_set _ hj hi]
theorem sh_stepS {n i j : Nat} (c : Int) (f : Tab) (hi : i < n) (hj : j < n) (hij : j ≠ i) : ((mk n (shP i j c f)).set (i * n + j) (min (f i j + c) (capT i j))).set (j * n + i) (min (f j i - c) (capT j i)) = mk n (shP i (j + 1) c f) := by
  rw [mk_two _ hi hj]
  refine mk_congr fun a b _ _ => ?_
  have := shP_step c f hij (a := a) (b := b)
  rw [shP_row, shP_col] at this
  exact this
set_option maxRecDepth 100000 in
set_option maxHeartbeats 8000000 in
theorem sShift_any (z : Int) (l : List Int) (a : Option Addr) (c0 : Nat) (i c : Int) (w : World) (hl : IntsAt w a l) : Calls Try.prog 45 #[.agg #[.int .i64 z, .slice a l.length c0], .int .i64 i, .int .i64 c] w fun e w' => Gives w w' e (outZ (shF z l i c) z.toNat) (outL (shF z l i c) z.toNat) := by
  have HL := mkHid hl
  have B0 := mkHid (((Below.refl w.heap.size w).alloc (Nat.le_refl _) (.cells #[.int .i64 z, .slice a l.length c0] 24)).alloc (by simp) (.cells #[.int .i64 0, .slice none 0 0] 24))
  have Z0 := mkHid (Fz.new (w.alloc (.cells #[.int .i64 z, .slice a l.length c0] 24)))
  have T0 := mkHid ((Fc.new w z a l.length c0 24).alloc (.cells #[.int .i64 0, .slice none 0 0] 24))
  cases hok : okF z l
  · have e1 : Hid (shF z l i c = none) := mkHid (by
      unfold shF
      rw [okO_no hok]
      split <;> rfl)
    have HOK := mkHid hok
    clear hok hl
    go_enter Try.func45, Try.ntmps45
    go_wp2_with fail
    refine (sOkF_any z l a c0 _ (HL.out.below B0.out)).mono ?_
    rintro e w1 ⟨rfl, hb1⟩
    rw [HOK.out]
    have B1 := mkHid (below_step B0.out hb1)
    have Z1 : Hid (Fz w1 (w.heap.size + 1)) := mkHid (by have := Z0.out.below hb1; simpa using this)
    obtain ⟨⟨z0, z1⟩, z2, z3⟩ := Z1.out
    clear hb1
    go_wp2
    refine bodyPost_ret (v := .agg #[.int .i64 0, .slice none 0 0]) (by simp [results, Try.results45, go_sem, z0, z1]) rfl ?_
    rw [e1.out]
    exact ⟨none, 0, rfl, OwnI.nil _ _, none_shut B1.out (Nat.le_succ _) _ _⟩
  · obtain ⟨n, hn, h1, h2, hll, -, hfine⟩ := ok_of hok
    subst hn
    have hto : ((n : Int)).toNat = n := Int.toNat_natCast n
    have HO : Hid (okO n l = some (tab n l)) := mkHid (by rw [okO_yes hok, hto])
    have HF : Hid (shF n l i c = if shB i c n then ((cloO n (tab n l)).map (shT i.toNat c)).bind (cloO n) else none) := mkHid (by unfold shF; rw [hto, HO.out]; rfl)
    have HFN : Hid (FineO n (cloO n (tab n l))) := mkHid (by have := clo_fineO (okO_fine n l); rw [hto, HO.out] at this; exact this)
    have HC : Hid (∀ (v : World), IntsAt v a l → Calls Try.prog 30 #[.agg #[.int .i64 n, .slice a l.length c0]] v fun e w' => Gives v w' e (outZ (cloO n (tab n l)) n) (outL (cloO n (tab n l)) n)) := mkHid fun v hv => by
      have := sClose_any n l a c0 v hv
      rw [hto, HO.out] at this
      exact this
    have HNO : Hid (shB i c n = false → shF n l i c = none) := mkHid fun h => by rw [HF.out, h]; rfl
    have HYES : Hid (shB i c n = true → shF n l i c = ((cloO n (tab n l)).map (shT i.toNat c)).bind (cloO n)) := mkHid fun h => by rw [HF.out, h]; rfl
    rw [hto]
    obtain ⟨k, hk⟩ : ∃ k : Int, (n : Int) - 1 = k := ⟨_, rfl⟩
    have hwk : IntKind.i64.wrap ((n : Int) - 1) = k := by rw [← hk]; exact IntWalk.i64_in _ (by omega)
    have hbi := btw_set i hk
    have HOK := mkHid hok
    obtain ⟨o2, ho2⟩ : ∃ o2, cloO n (tab n l) = o2 := ⟨_, rfl⟩
    rw [ho2] at HC HYES HFN
    obtain ⟨rz, hrz⟩ : ∃ rz, outZ o2 n = rz := ⟨_, rfl⟩
    obtain ⟨rl, hrl⟩ : ∃ rl, outL o2 n = rl := ⟨_, rfl⟩
    rw [hrz, hrl] at HC
    have HRZ := mkHid hrz
    have HRL := mkHid hrl
    obtain ⟨R, hR⟩ : ∃ R, shF n l i c = R := ⟨_, rfl⟩
    rw [hR] at HNO HYES
    rw [hR]
    obtain ⟨ln, hln⟩ : ∃ ln, rl.length = ln := ⟨_, rfl⟩
    have HLN := mkHid hln
    clear hok hl hfine hll HO HF hk hto ho2 hrz hrl hR hln
    go_enter Try.func45, Try.ntmps45
    go_wp2_with fail
    refine (sOkF_any n l a c0 _ (HL.out.below B0.out)).mono ?_
    rintro e w1 ⟨rfl, hb1⟩
    rw [HOK.out]
    have B1 := mkHid (below_step B0.out hb1)
    have Z1 : Hid (Fz w1 (w.heap.size + 1)) := mkHid (by have := Z0.out.below hb1; simpa using this)
    have T1 := mkHid (T0.out.below hb1)
    obtain ⟨t0, t1⟩ := T1.out
    clear hb1 B0 Z0 T0
    cases hi : setB i n
    · have e1 : Hid (R = none) := mkHid (HNO.out (by unfold shB; rw [hi]; rfl))
      rw [hi] at hbi
      obtain ⟨⟨z0, z1⟩, z2, z3⟩ := Z1.out
      go_wp2_with (first | (go_at_call 55; refine (between_any _ _ _ _).mono ?_; rintro e w' ⟨rfl, rfl⟩))
      refine bodyPost_ret (v := .agg #[.int .i64 0, .slice none 0 0]) (by simp [results, Try.results45, go_sem, z0, z1]) rfl ?_
      rw [e1.out]
      exact ⟨none, 0, rfl, OwnI.nil _ _, none_shut B1.out (Nat.le_succ _) _ _⟩
    · rw [hi] at hbi
      cases hcb : btw c (-2000000) 2000000
      · have e1 : Hid (R = none) := mkHid (HNO.out (by unfold shB; rw [hi, hcb]; rfl))
        obtain ⟨⟨z0, z1⟩, z2, z3⟩ := Z1.out
        go_wp2_with (first | (go_at_call 55; refine (between_any _ _ _ _).mono ?_; rintro e w' ⟨rfl, rfl⟩))
        refine bodyPost_ret (v := .agg #[.int .i64 0, .slice none 0 0]) (by simp [results, Try.results45, go_sem, z0, z1]) rfl ?_
        rw [e1.out]
        exact ⟨none, 0, rfl, OwnI.nil _ _, none_shut B1.out (Nat.le_succ _) _ _⟩
      · have hcp : shB i c n = true := by unfold shB; rw [hi, hcb]; rfl
        have HY := mkHid (HYES.out hcp)
        obtain ⟨⟨i', rfl, hi0, hi1⟩, hc0, hc1⟩ := sh_nat (o := some (tab n l)) (n := n) hcp
        rw [show ((i' : Int)).toNat = i' from Int.toNat_natCast i'] at HY
        clear hi HYES HNO hcp
        go_wp2_with (first | (go_at_call 55; refine (between_any _ _ _ _).mono ?_; rintro e w' ⟨rfl, rfl⟩))
        refine (HC.out _ (HL.out.below B1.out)).mono ?_
        rintro e w3 ⟨sa, sc, rfl, so, hb3⟩
        rw [HLN.out] at so
        rw [HLN.out]
        obtain ⟨b5, hb5⟩ : ∃ b, w3.heap.size = b := ⟨_, rfl⟩
        have s1 := Z1.out.lt
        have s3 := hb3.size
        have B3 := mkHid ((below_step B1.out hb3).alloc (below_step B1.out hb3).size (.cells #[.int .i64 rz, .slice sa ln sc] 24))
        have A3 := (Below.refl w3.heap.size w3).alloc (Nat.le_refl _) (.cells #[.int .i64 rz, .slice sa ln sc] 24)
        have Z3 := mkHid ((Z1.out.below hb3).below A3)
        have T3 := mkHid ((T1.out.below hb3).below A3)
        have X3 := mkHid (Fc.new w3 rz sa ln sc 24)
        have O3 := mkHid (so.below A3)
        have SL : Hid (∀ q, Value.ownBlock (.slice sa ln sc) = some q → w1.heap.size ≤ q ∧ q < b5) := mkHid fun q hq => by have := so.lt hq; omega
        rw [hb5] at X3
        have hs5 : w.heap.size + 1 < b5 := by omega
        clear so hb3 A3 t0 t1
        obtain ⟨x0, x1⟩ := X3.out
        go_wp2_with fail
        refine (sNoF_any rz sa ln sc _).mono ?_
        rintro e w4 ⟨rfl, hb4⟩
        have B4 := mkHid (below_step B3.out hb4)
        have Z4 := mkHid (Z3.out.below hb4)
        have T4 := mkHid (T3.out.below hb4)
        have X4 := mkHid (X3.out.below hb4)
        have O4 := mkHid (O3.out.below hb4)
        clear hb4 B3 Z3 T3 X3 O3 x0 x1 hb5
        cases o2 with
        | none =>
          have e1 : Hid (R = none) := mkHid HY.out
          obtain rfl : (0 : Int) = rz := HRZ.out
          obtain rfl : [] = rl := HRL.out
          obtain rfl : 0 = ln := HLN.out
          have hno : noN 0 0 = true := rfl
          rw [hno]
          obtain ⟨x0, x1⟩ := X4.out
          obtain ⟨⟨z0, z1⟩, z2, z3⟩ := Z4.out
          have HE := mkHid (fun v0 v1 => Gives.shut2 (b := w.heap.size + 1) (l := []) B4.out (Nat.le_succ _) O4.out s1 v0 v1)
          go_wp2
          refine bodyPost_ret (v := .agg #[.int .i64 0, .slice sa 0 sc]) (by simp [results, Try.results45, go_sem, z0, z1]) rfl ?_
          rw [e1.out]
          exact ⟨sa, sc, rfl, (HE.out _ _).1, (HE.out _ _).2⟩
        | some f =>
          have e1 : Hid (R = cloO n (shT i' c f)) := mkHid HY.out
          obtain ⟨-, -, h3⟩ := HFN.out f rfl
          have HSC : Hid (∀ (a : Option Addr) (c1 : Nat) (v : World), IntsAt v a (mk n (shT i' c f)) → Calls Try.prog 65 #[.int .i64 n, .slice a (mk n (shT i' c f)).length c1] v fun e w' => Gives v w' e (outZ (cloO n (shT i' c f)) n) (outL (cloO n (shT i' c f)) n)) := mkHid fun a c1 v hv => sCloseD n (shT i' c f) h1 h2 (shT_bd h3 hi1 hc0 hc1) a c1 v hv
          have HBD : Hid (∀ a b, a < n → b < n → -2000000 ≤ f a b ∧ f a b ≤ 2000000) := mkHid fun a b ha hb => by have := h3 a b ha hb; have := cap_le a b; omega
          obtain rfl : (n : Int) = rz := HRZ.out
          obtain rfl : mk n f = rl := HRL.out
          have hq1 := sq_le h2
          have hq0 := sq_pos h1
          have hln : ln = n * n := by rw [← HLN.out, mk_len]
          have HSTP : Hid (∀ j, j < n → j ≠ i' → ((mk n (shP i' j c f)).set (i' * n + j) (min (f i' j + c) (capT i' j))).set (j * n + i') (min (f j i' - c) (capT j i')) = mk n (shP i' (j + 1) c f)) := mkHid fun j hj e => sh_stepS c f hi1 hj e
          have HSKP : Hid (mk n (shP i' (i' + 1) c f) = mk n (shP i' i' c f)) := mkHid (by rw [shP_skip])
          have HEND : Hid (mk n (shP i' n c f) = mk n (shT i' c f)) := mkHid (mk_congr fun a b ha hb => shP_all c f ha hb)
          have HM0 : Hid (mk n (shP i' 0 c f) = mk n f) := mkHid (by rw [shP_none])
          have HRW : Hid (∀ j, j < n → (mk n (shP i' j c f)).getD (i' * n + j) 0 = f i' j) := mkHid fun j hj => (mk_V n _ i' j hi1 hj).trans (shP_row c f)
          have HCO : Hid (∀ j, j < n → (mk n (shP i' j c f)).getD (j * n + i') 0 = f j i') := mkHid fun j hj => (mk_V n _ j i' hj hi1).trans (shP_col c f)
          have HPL : Hid (∀ u, (mk n (shP i' u c f)).length = ln) := mkHid fun u => by rw [hln]; exact mk_len _ _
          have HTL : Hid ((mk n (shT i' c f)).length = ln) := mkHid (by rw [hln]; exact mk_len _ _)
          have HSQ : Hid (∀ j, j < n → j * n + n ≤ ln) := mkHid fun j hj => by rw [hln, show j * n + n = (j + 1) * n by rw [Nat.add_mul]; omega]; exact Nat.mul_le_mul_right n hj
          rw [← hln] at hq1 hq0
          obtain ⟨g, rfl⟩ : ∃ g, sa = some ⟨g, 0, none⟩ := by
            rcases O4.out.2 with ⟨_, h⟩ | ⟨g, cap', cur, e, _⟩
            · rw [HLN.out] at h; omega
            · simp at e; exact ⟨g, e.1⟩
          have hgl := SL.out g rfl
          have hno : noN (n : Int) ln = false := decide_eq_false fun h => by omega
          rw [hno]
          obtain ⟨P, hP⟩ : ∃ P : Nat → List Int, (fun u => mk n (shP i' u c f)) = P := ⟨_, rfl⟩
          have e0 : ∀ u, mk n (shP i' u c f) = P u := fun u => by rw [← hP]
          simp only [e0] at HSTP HEND HM0 HPL HRW HCO HSKP
          obtain ⟨im, him⟩ : ∃ im, i' * n = im := ⟨_, rfl⟩
          have hiq : im + n ≤ ln := by rw [← him]; exact HSQ.out i' hi1
          have hwi : IntKind.i64.wrap ((i' : Int) * (n : Int)) = (im : Int) := by rw [show (i' : Int) * (n : Int) = ((i' * n : Nat) : Int) by simp, him]; exact IntWalk.i64_in _ (by omega)
          rw [him] at HSTP HRW
          rw [← HM0.out] at O4
          have him' := him
          clear hln hP e0 him HY HRZ HRL HLN s3 SL HM0 h3
          go_wp2_with fail
          go_loopg [8] n (fun gh s wr => ∃ (j : Nat), j + gh = n ∧ s = .int .i64 j ∧ OwnI wr w1.heap.size (.slice (some ⟨g, 0, none⟩) ln sc) (P j) ∧ Fc wr b5 n (some ⟨g, 0, none⟩) ln sc ∧ Fc wr w.heap.size n a l.length c0 ∧ Fz wr (w.heap.size + 1) ∧ Below w.heap.size w wr)
          case atStart => exact ⟨0, by omega, rfl, O4.out, X4.out, T4.out, Z4.out, B4.out⟩
          case round =>
            obtain ⟨j, hjg, rfl, hO, hX, hT, hZ, hB⟩ := hrel
            have HO := mkHid hO
            have HX := mkHid hX
            have HT := mkHid hT
            have HZ := mkHid hZ
            have HB := mkHid hB
            clear hO hB O4 X4 T4 Z4 B4
            obtain ⟨x0, x1'⟩ := hX
            obtain ⟨t0, t1⟩ := hT
            cases gk with
            | zero =>
              have hlt : ¬ ((j : Int) < (n : Int)) := by omega
              have e : j = n := by omega
              subst e
              rw [HEND.out] at HO
              have HSC2 := mkHid (HSC.out (some ⟨g, 0, none⟩) sc wr HO.out.at)
              rw [HTL.out] at HSC2
              clear hZ
              go_wp2_with fail
              refine HSC2.out.mono ?_
              rintro e w9 ⟨ao, cap, rfl, ho, hb9⟩
              obtain ⟨⟨z0, z1⟩, z2, z3⟩ := HZ.out.below hb9
              have HE := mkHid (fun v0 v1 => Gives.shut (b := w.heap.size + 1) HB.out (Nat.le_succ _) HZ.out.lt ho hb9 v0 v1)
              clear hb9 ho
              go_wp2
              refine bodyPost_ret (v := .agg #[.int .i64 (outZ (cloO j (shT i' c f)) j), .slice ao (outL (cloO j (shT i' c f)) j).length cap]) (by simp [results, Try.results45, go_sem, z0, z1]) rfl ?_
              rw [e1.out]
              exact ⟨ao, cap, rfl, (HE.out _ _).1, (HE.out _ _).2⟩
            | succ gh =>
              have hlt : (j : Int) < (n : Int) := by omega
              obtain ⟨jm, hjm⟩ : ∃ jm, j * n = jm := ⟨_, rfl⟩
              have hjq : jm + n ≤ ln := by rw [← hjm]; exact HSQ.out j (by omega)
              have hwj : IntKind.i64.wrap ((j : Int) * (n : Int)) = (jm : Int) := by rw [show (j : Int) * (n : Int) = ((j * n : Nat) : Int) by simp, hjm]; exact IntWalk.i64_in _ (by omega)
              have hbnd1 := HBD.out i' j hi1 (by omega)
              have hbnd2 := HBD.out j i' (by omega) hi1
              by_cases hji : j = i'
              · have hbj : ((j : Int) != (i' : Int)) = false := by simp [hji]
                have HSK : Hid (P (j + 1) = P j) := mkHid (by rw [hji]; exact HSKP.out)
                clear hji hjm hZ
                go_wp2
                go_roundg gh
                case measure => omega
                case rel => exact ⟨j + 1, by omega, by go_num, by rw [HSK.out]; exact HO.out, HX.out, HT.out, HZ.out, HB.out⟩
              · have hbj : ((j : Int) != (i' : Int)) = true := by simp; omega
                have HS := mkHid (HSTP.out j (by omega) hji)
                have hv1 := HRW.out j (by omega)
                have hv2 := HCO.out j (by omega)
                rw [hjm] at HS hv2
                obtain ⟨x1, hx1⟩ : ∃ x, f i' j = x := ⟨_, rfl⟩
                obtain ⟨x2, hx2⟩ : ∃ x, f j i' = x := ⟨_, rfl⟩
                rw [hx1] at hv1 hbnd1 HS
                rw [hx2] at hv2 hbnd2 HS
                obtain ⟨y1, hy1⟩ : ∃ y, min (x1 + c) (capT i' j) = y := ⟨_, rfl⟩
                obtain ⟨y2, hy2⟩ : ∃ y, min (x2 - c) (capT j i') = y := ⟨_, rfl⟩
                rw [hy1, hy2] at HS
                obtain ⟨p1, hp1⟩ : ∃ p, im + j = p := ⟨_, rfl⟩
                obtain ⟨p2, hp2⟩ : ∃ p, jm + i' = p := ⟨_, rfl⟩
                rw [hp1, hp2] at HS
                rw [hp1] at hv1
                rw [hp2] at hv2
                have hp12 : p1 ≠ p2 := fun e => by
                  rw [← hp1, ← hp2, ← him', ← hjm] at e
                  exact hji (idx_inj (by omega) (by omega) e).1.symm
                have hw1 : IntKind.i64.wrap ((im : Int) + (j : Int)) = (p1 : Int) := by rw [← hp1]; exact IntWalk.i64_in _ (by omega)
                have hw2 : IntKind.i64.wrap ((jm : Int) + (i' : Int)) = (p2 : Int) := by rw [← hp2]; exact IntWalk.i64_in _ (by omega)
                have hw3 : IntKind.i64.wrap (x1 + c) = x1 + c := IntWalk.i64_in _ (by omega)
                have hw4 : IntKind.i64.wrap (x2 - c) = x2 - c := IntWalk.i64_in _ (by omega)
                have c1 := HO.out.cell (p := p1) (by rw [HPL.out]; omega)
                have f1 := HO.out.free p1
                rw [hv1] at c1
                have a0 : (0 : Int) ≤ (p1 : Int) := by omega
                have a1 : (p1 : Int) < (ln : Int) := by omega
                have a2 : (0 : Int) ≤ (p2 : Int) := by omega
                have a3 : (p2 : Int) < (ln : Int) := by omega
                have hg0 : g ≠ b5 := by omega
                have hg1 : b5 ≠ g := by omega
                have hg2 : g ≠ w.heap.size := by omega
                have hg3 : w.heap.size ≠ g := by omega
                clear hjm hZ hp1 hp2 hji hx1 hx2 hv1 hbnd1 hbnd2
                go_wp2_with fail
                go_cut [] from 31 to 89 (fun wx => wx = (wr.setCell ⟨g, p1, none⟩ (.int .i64 y1)).drew)
                case first =>
                  refine wp_region_held_drew (S := (fun w' => w'.cell? ⟨b5, 1, none⟩ = some (.slice (some ⟨g, 0, none⟩) ln sc) ∧ w'.cell? ⟨w.heap.size, 0, none⟩ = some (.int .i64 n))) (by kernel_rfl) ⟨x1', t0⟩ (fun _ => ?_)
                  refine wpAnyH_take (i := 0) (oi := { dst := some 40, op := Op.fieldAddr 24 (Operand.tmp 7) 1, type := 0, pos := "l07_facts.go:247", after := #[], guard := none }) (v := ?vr0_1) rfl (by kernel_rfl) (by kernel_rfl) (by kernel_rfl) (fun _ _ _ h => h) (Or.inl ⟨by rfl, ?hyr0_1⟩) (by assumption) ?restr0_1
                  case hyr0_1 => (intro w' hSw; (try dsimp only at hSw); go_simp; try with_reducible rfl)
                  try simp only [Act.put, List.setIfInBounds_toArray, List.set_cons_zero, List.set_cons_succ]
                  refine wpAnyH_take (i := 1) (oi := { dst := some 41, op := Op.load 22 (Operand.tmp 40), type := 22, pos := "l07_facts.go:247", after := #[{ on := 0, ground := Ground.data }], guard := none }) (v := ?vr0_2) rfl (by kernel_rfl) (by kernel_rfl) (by kernel_rfl) (fun _ _ _ h => h) (Or.inl ⟨by rfl, ?hyr0_2⟩) (by assumption) ?restr0_2
                  case hyr0_2 => (intro w' hSw; (try dsimp only at hSw); go_simp; try with_reducible rfl)
                  try simp only [Act.put, List.setIfInBounds_toArray, List.set_cons_zero, List.set_cons_succ]
                  refine wpAnyH_take (i := 2) (oi := { dst := some 42, op := Op.move (Operand.tmp 1), type := 3, pos := "l07_facts.go:247", after := #[], guard := none }) (v := ?vr0_3) rfl (by kernel_rfl) (by kernel_rfl) (by kernel_rfl) (fun _ _ _ h => h) (Or.inl ⟨by rfl, ?hyr0_3⟩) (by assumption) ?restr0_3
                  case hyr0_3 => (intro w' hSw; (try dsimp only at hSw); go_simp; try with_reducible rfl)
                  try simp only [Act.put, List.setIfInBounds_toArray, List.set_cons_zero, List.set_cons_succ]
                  refine wpAnyH_take (i := 3) (oi := { dst := some 43, op := Op.fieldAddr 24 (Operand.tmp 3) 0, type := 0, pos := "l07_facts.go:247", after := #[], guard := none }) (v := ?vr0_4) rfl (by kernel_rfl) (by kernel_rfl) (by kernel_rfl) (fun _ _ _ h => h) (Or.inl ⟨by rfl, ?hyr0_4⟩) (by assumption) ?restr0_4
                  case hyr0_4 => (intro w' hSw; (try dsimp only at hSw); go_simp; try with_reducible rfl)
                  try simp only [Act.put, List.setIfInBounds_toArray, List.set_cons_zero, List.set_cons_succ]
                  refine wpAnyH_take (i := 4) (oi := { dst := some 44, op := Op.load 3 (Operand.tmp 43), type := 3, pos := "l07_facts.go:247", after := #[{ on := 3, ground := Ground.data }], guard := none }) (v := ?vr0_5) rfl (by kernel_rfl) (by kernel_rfl) (by kernel_rfl) (fun _ _ _ h => h) (Or.inl ⟨by rfl, ?hyr0_5⟩) (by assumption) ?restr0_5
                  case hyr0_5 => (intro w' hSw; (try dsimp only at hSw); go_simp; try with_reducible rfl)
                  try simp only [Act.put, List.setIfInBounds_toArray, List.set_cons_zero, List.set_cons_succ]
                  refine wpAnyH_take (i := 5) (oi := { dst := some 45, op := Op.binOp BinOp.mul 3 (Operand.tmp 42) (Operand.tmp 44) 3, type := 3, pos := "l07_facts.go:247", after := #[{ on := 2, ground := Ground.data }, { on := 4, ground := Ground.data }], guard := none }) (v := ?vr0_6) rfl (by kernel_rfl) (by kernel_rfl) (by kernel_rfl) (fun _ _ _ h => h) (Or.inl ⟨by rfl, ?hyr0_6⟩) (by assumption) ?restr0_6
                  case hyr0_6 => (intro w' hSw; (try dsimp only at hSw); go_simp; try with_reducible rfl)
                  try simp only [Act.put, List.setIfInBounds_toArray, List.set_cons_zero, List.set_cons_succ]
                  refine wpAnyH_take (i := 6) (oi := { dst := some 46, op := Op.move (Operand.tmp 8), type := 3, pos := "l07_facts.go:247", after := #[], guard := none }) (v := ?vr0_7) rfl (by kernel_rfl) (by kernel_rfl) (by kernel_rfl) (fun _ _ _ h => h) (Or.inl ⟨by rfl, ?hyr0_7⟩) (by assumption) ?restr0_7
                  case hyr0_7 => (intro w' hSw; (try dsimp only at hSw); go_simp; try with_reducible rfl)
                  try simp only [Act.put, List.setIfInBounds_toArray, List.set_cons_zero, List.set_cons_succ]
                  refine wpAnyH_take (i := 7) (oi := { dst := some 47, op := Op.binOp BinOp.add 3 (Operand.tmp 45) (Operand.tmp 46) 3, type := 3, pos := "l07_facts.go:247", after := #[{ on := 5, ground := Ground.data }, { on := 6, ground := Ground.data }], guard := none }) (v := ?vr0_8) rfl (by kernel_rfl) (by kernel_rfl) (by kernel_rfl) (fun _ _ _ h => h) (Or.inl ⟨by rfl, ?hyr0_8⟩) (by assumption) ?restr0_8
                  case hyr0_8 => (intro w' hSw; (try dsimp only at hSw); go_simp; try with_reducible rfl)
                  try simp only [Act.put, List.setIfInBounds_toArray, List.set_cons_zero, List.set_cons_succ]
                  refine wpAnyH_take (i := 8) (oi := { dst := some 48, op := Op.fieldAddr 24 (Operand.tmp 7) 1, type := 0, pos := "l07_facts.go:247", after := #[], guard := none }) (v := ?vr0_9) rfl (by kernel_rfl) (by kernel_rfl) (by kernel_rfl) (fun _ _ _ h => h) (Or.inl ⟨by rfl, ?hyr0_9⟩) (by assumption) ?restr0_9
                  case hyr0_9 => (intro w' hSw; (try dsimp only at hSw); go_simp; try with_reducible rfl)
                  try simp only [Act.put, List.setIfInBounds_toArray, List.set_cons_zero, List.set_cons_succ]
                  refine wpAnyH_take (i := 9) (oi := { dst := some 49, op := Op.load 22 (Operand.tmp 48), type := 22, pos := "l07_facts.go:247", after := #[{ on := 8, ground := Ground.data }], guard := none }) (v := ?vr0_10) rfl (by kernel_rfl) (by kernel_rfl) (by kernel_rfl) (fun _ _ _ h => h) (Or.inl ⟨by rfl, ?hyr0_10⟩) (by assumption) ?restr0_10
                  case hyr0_10 => (intro w' hSw; (try dsimp only at hSw); go_simp; try with_reducible rfl)
                  try simp only [Act.put, List.setIfInBounds_toArray, List.set_cons_zero, List.set_cons_succ]
                  refine wpAnyH_take (i := 10) (oi := { dst := some 50, op := Op.move (Operand.tmp 1), type := 3, pos := "l07_facts.go:247", after := #[], guard := none }) (v := ?vr0_11) rfl (by kernel_rfl) (by kernel_rfl) (by kernel_rfl) (fun _ _ _ h => h) (Or.inl ⟨by rfl, ?hyr0_11⟩) (by assumption) ?restr0_11
                  case hyr0_11 => (intro w' hSw; (try dsimp only at hSw); go_simp; try with_reducible rfl)
                  try simp only [Act.put, List.setIfInBounds_toArray, List.set_cons_zero, List.set_cons_succ]
                  refine wpAnyH_take (i := 11) (oi := { dst := some 51, op := Op.fieldAddr 24 (Operand.tmp 3) 0, type := 0, pos := "l07_facts.go:247", after := #[], guard := none }) (v := ?vr0_12) rfl (by kernel_rfl) (by kernel_rfl) (by kernel_rfl) (fun _ _ _ h => h) (Or.inl ⟨by rfl, ?hyr0_12⟩) (by assumption) ?restr0_12
                  case hyr0_12 => (intro w' hSw; (try dsimp only at hSw); go_simp; try with_reducible rfl)
                  try simp only [Act.put, List.setIfInBounds_toArray, List.set_cons_zero, List.set_cons_succ]
                  refine wpAnyH_take (i := 12) (oi := { dst := some 52, op := Op.load 3 (Operand.tmp 51), type := 3, pos := "l07_facts.go:247", after := #[{ on := 11, ground := Ground.data }], guard := none }) (v := ?vr0_13) rfl (by kernel_rfl) (by kernel_rfl) (by kernel_rfl) (fun _ _ _ h => h) (Or.inl ⟨by rfl, ?hyr0_13⟩) (by assumption) ?restr0_13
                  case hyr0_13 => (intro w' hSw; (try dsimp only at hSw); go_simp; try with_reducible rfl)
                  try simp only [Act.put, List.setIfInBounds_toArray, List.set_cons_zero, List.set_cons_succ]
                  refine wpAnyH_take (i := 13) (oi := { dst := some 53, op := Op.binOp BinOp.mul 3 (Operand.tmp 50) (Operand.tmp 52) 3, type := 3, pos := "l07_facts.go:247", after := #[{ on := 10, ground := Ground.data }, { on := 12, ground := Ground.data }], guard := none }) (v := ?vr0_14) rfl (by kernel_rfl) (by kernel_rfl) (by kernel_rfl) (fun _ _ _ h => h) (Or.inl ⟨by rfl, ?hyr0_14⟩) (by assumption) ?restr0_14
                  case hyr0_14 => (intro w' hSw; (try dsimp only at hSw); go_simp; try with_reducible rfl)
                  try simp only [Act.put, List.setIfInBounds_toArray, List.set_cons_zero, List.set_cons_succ]
                  refine wpAnyH_take (i := 14) (oi := { dst := some 54, op := Op.move (Operand.tmp 8), type := 3, pos := "l07_facts.go:247", after := #[], guard := none }) (v := ?vr0_15) rfl (by kernel_rfl) (by kernel_rfl) (by kernel_rfl) (fun _ _ _ h => h) (Or.inl ⟨by rfl, ?hyr0_15⟩) (by assumption) ?restr0_15
                  case hyr0_15 => (intro w' hSw; (try dsimp only at hSw); go_simp; try with_reducible rfl)
                  try simp only [Act.put, List.setIfInBounds_toArray, List.set_cons_zero, List.set_cons_succ]
                  refine wpAnyH_take (i := 15) (oi := { dst := some 55, op := Op.binOp BinOp.add 3 (Operand.tmp 53) (Operand.tmp 54) 3, type := 3, pos := "l07_facts.go:247", after := #[{ on := 13, ground := Ground.data }, { on := 14, ground := Ground.data }], guard := none }) (v := ?vr0_16) rfl (by kernel_rfl) (by kernel_rfl) (by kernel_rfl) (fun _ _ _ h => h) (Or.inl ⟨by rfl, ?hyr0_16⟩) (by assumption) ?restr0_16
                  case hyr0_16 => (intro w' hSw; (try dsimp only at hSw); go_simp; try with_reducible rfl)
                  try simp only [Act.put, List.setIfInBounds_toArray, List.set_cons_zero, List.set_cons_succ]
                  refine wpAnyH_take (i := 16) (oi := { dst := some 56, op := Op.indexAddr 22 (Operand.tmp 49) (Operand.tmp 55), type := 0, pos := "l07_facts.go:247", after := #[{ on := 9, ground := Ground.data }, { on := 15, ground := Ground.data }], guard := none }) (v := ?vr0_17) rfl (by kernel_rfl) (by kernel_rfl) (by kernel_rfl) (fun _ _ _ h => h) (Or.inl ⟨by rfl, ?hyr0_17⟩) (by assumption) ?restr0_17
                  case hyr0_17 => (intro w' hSw; (try dsimp only at hSw); go_simp; try with_reducible rfl)
                  try simp only [Act.put, List.setIfInBounds_toArray, List.set_cons_zero, List.set_cons_succ]
                  refine wpAnyH_take (i := 18) (oi := { dst := some 58, op := Op.move (Operand.tmp 2), type := 3, pos := "l07_facts.go:247", after := #[], guard := none }) (v := ?vr0_18) rfl (by kernel_rfl) (by kernel_rfl) (by kernel_rfl) (fun _ _ _ h => h) (Or.inl ⟨by rfl, ?hyr0_18⟩) (by assumption) ?restr0_18
                  case hyr0_18 => (intro w' hSw; (try dsimp only at hSw); go_simp; try with_reducible rfl)
                  try simp only [Act.put, List.setIfInBounds_toArray, List.set_cons_zero, List.set_cons_succ]
                  refine wpAnyH_take (i := 20) (oi := { dst := some 60, op := Op.move (Operand.tmp 1), type := 3, pos := "l07_facts.go:247", after := #[], guard := none }) (v := ?vr0_19) rfl (by kernel_rfl) (by kernel_rfl) (by kernel_rfl) (fun _ _ _ h => h) (Or.inl ⟨by rfl, ?hyr0_19⟩) (by assumption) ?restr0_19
                  case hyr0_19 => (intro w' hSw; (try dsimp only at hSw); go_simp; try with_reducible rfl)
                  try simp only [Act.put, List.setIfInBounds_toArray, List.set_cons_zero, List.set_cons_succ]
                  refine wpAnyH_take (i := 21) (oi := { dst := some 61, op := Op.move (Operand.tmp 8), type := 3, pos := "l07_facts.go:247", after := #[], guard := none }) (v := ?vr0_20) rfl (by kernel_rfl) (by kernel_rfl) (by kernel_rfl) (fun _ _ _ h => h) (Or.inl ⟨by rfl, ?hyr0_20⟩) (by assumption) ?restr0_20
                  case hyr0_20 => (intro w' hSw; (try dsimp only at hSw); go_simp; try with_reducible rfl)
                  try simp only [Act.put, List.setIfInBounds_toArray, List.set_cons_zero, List.set_cons_succ]
                  refine wpAnyH_ready (rs := [17, 22]) (by kernel_rfl) (by simp) ?_
                  refine AllReadyH.cons (o := { dst := some 57, op := Op.load 3 (Operand.tmp 56), type := 3, pos := "l07_facts.go:247", after := #[{ on := 16, ground := Ground.data }], guard := none }) rfl (fun K hK => ?_) ?_
                  · go_simp
                    refine hK.out _ _ ?_ (fun _ => ?_)
                    · exact ⟨x1', t0⟩
                    clear hK K
                    try simp only [Act.put, List.setIfInBounds_toArray, List.set_cons_zero, List.set_cons_succ]
                    refine wpAnyH_take (i := 19) (oi := { dst := some 59, op := Op.binOp BinOp.add 3 (Operand.tmp 57) (Operand.tmp 58) 3, type := 3, pos := "l07_facts.go:247", after := #[{ on := 17, ground := Ground.data }, { on := 18, ground := Ground.data }], guard := none }) (v := ?vr0_21) rfl (by kernel_rfl) (by kernel_rfl) (by kernel_rfl) (fun _ _ _ h => h) (Or.inl ⟨by rfl, ?hyr0_21⟩) (by assumption) ?restr0_21
                    case hyr0_21 => (intro w' hSw; (try dsimp only at hSw); go_simp; try with_reducible rfl)
                    try simp only [Act.put, List.setIfInBounds_toArray, List.set_cons_zero, List.set_cons_succ]
                    refine wpAnyH_ready (rs := [22]) (by kernel_rfl) (by simp) ?_
                    refine AllReadyH.cons (o := { dst := some 62, op := Op.call { callee := Callee.value (Operand.func 56), args := #[Operand.tmp 60, Operand.tmp 61], argTypes := #[3, 3] }, type := 3, pos := "l07_facts.go:247", after := #[{ on := 20, ground := Ground.data }, { on := 21, ground := Ground.data }], guard := none }) rfl (fun K hK => ?_) ?_
                    · go_simp
                      refine (sCap_any _ _ _).mono ?_
                      rintro e w' ⟨rfl, rfl⟩
                      go_wp2_with fail
                      refine hK.out _ _ ?_ (fun _ => ?_)
                      · exact ⟨x1', t0⟩
                      clear hK K
                      try simp only [Act.put, List.setIfInBounds_toArray, List.set_cons_zero, List.set_cons_succ]
                      refine wpAnyH_ready (rs := [23]) (by kernel_rfl) (by simp) ?_
                      refine AllReadyH.cons (o := { dst := some 63, op := Op.call { callee := Callee.value (Operand.func 74), args := #[Operand.tmp 59, Operand.tmp 62], argTypes := #[3, 3] }, type := 3, pos := "l07_facts.go:247", after := #[{ on := 19, ground := Ground.data }, { on := 22, ground := Ground.data }, { on := 22, ground := Ground.chain }], guard := none }) rfl (fun K hK => ?_) ?_
                      · go_simp
                        refine (sMin_any _ _ _).mono ?_
                        rintro e w' ⟨rfl, rfl⟩
                        go_wp2_with fail
                        refine hK.out _ _ ?_ (fun _ => ?_)
                        · exact ⟨x1', t0⟩
                        clear hK K
                        try simp only [Act.put, List.setIfInBounds_toArray, List.set_cons_zero, List.set_cons_succ]
                        refine wpAnyH_take (i := 24) (oi := { dst := some 64, op := Op.indexAddr 22 (Operand.tmp 41) (Operand.tmp 47), type := 0, pos := "l07_facts.go:247", after := #[{ on := 1, ground := Ground.data }, { on := 7, ground := Ground.data }, { on := 0, ground := Ground.phase }, { on := 1, ground := Ground.phase }, { on := 2, ground := Ground.phase }, { on := 3, ground := Ground.phase }, { on := 4, ground := Ground.phase }, { on := 5, ground := Ground.phase }, { on := 6, ground := Ground.phase }, { on := 7, ground := Ground.phase }, { on := 8, ground := Ground.phase }, { on := 9, ground := Ground.phase }, { on := 10, ground := Ground.phase }, { on := 11, ground := Ground.phase }, { on := 12, ground := Ground.phase }, { on := 13, ground := Ground.phase }, { on := 14, ground := Ground.phase }, { on := 15, ground := Ground.phase }, { on := 16, ground := Ground.phase }, { on := 17, ground := Ground.phase }, { on := 18, ground := Ground.phase }, { on := 19, ground := Ground.phase }, { on := 20, ground := Ground.phase }, { on := 21, ground := Ground.phase }, { on := 22, ground := Ground.phase }, { on := 23, ground := Ground.phase }], guard := none }) (v := ?vr0_22) rfl (by kernel_rfl) (by kernel_rfl) (by kernel_rfl) (fun _ _ _ h => h) (Or.inl ⟨by rfl, ?hyr0_22⟩) (by assumption) ?restr0_22
                        case hyr0_22 => (intro w' hSw; (try dsimp only at hSw); go_simp; try with_reducible rfl)
                        try simp only [Act.put, List.setIfInBounds_toArray, List.set_cons_zero, List.set_cons_succ]
                        refine wpAnyH_ready (rs := [25]) (by kernel_rfl) (by simp) ?_
                        refine AllReadyH.cons (o := { dst := none, op := Op.store 3 (Operand.tmp 64) (Operand.tmp 63), type := 0, pos := "l07_facts.go:247", after := #[{ on := 24, ground := Ground.data }, { on := 23, ground := Ground.data }, { on := 23, ground := Ground.chain }, { on := 0, ground := Ground.phase }, { on := 1, ground := Ground.phase }, { on := 2, ground := Ground.phase }, { on := 3, ground := Ground.phase }, { on := 4, ground := Ground.phase }, { on := 5, ground := Ground.phase }, { on := 6, ground := Ground.phase }, { on := 7, ground := Ground.phase }, { on := 8, ground := Ground.phase }, { on := 9, ground := Ground.phase }, { on := 10, ground := Ground.phase }, { on := 11, ground := Ground.phase }, { on := 12, ground := Ground.phase }, { on := 13, ground := Ground.phase }, { on := 14, ground := Ground.phase }, { on := 15, ground := Ground.phase }, { on := 16, ground := Ground.phase }, { on := 17, ground := Ground.phase }, { on := 18, ground := Ground.phase }, { on := 19, ground := Ground.phase }, { on := 20, ground := Ground.phase }, { on := 21, ground := Ground.phase }, { on := 22, ground := Ground.phase }, { on := 23, ground := Ground.phase }], guard := none }) rfl (fun K hK => ?_) ?_
                        · go_simp
                          refine hK.out _ _ ?_ (fun _ => ?_)
                          · exact ⟨(World.cell?_setCell_far _ _ _ _ hg0).trans x1', (World.cell?_setCell_far _ _ _ _ hg2).trans t0⟩
                          clear hK K
                          try simp only [Act.put, List.setIfInBounds_toArray, List.set_cons_zero, List.set_cons_succ]
                          refine wpAnyH_done (by kernel_rfl) ?_ _
                          go_wp2
                          go_meet
                          case rel => rfl
                        exact AllReadyH.nil
                      exact AllReadyH.nil
                    exact AllReadyH.nil
                  refine AllReadyH.cons (o := { dst := some 62, op := Op.call { callee := Callee.value (Operand.func 56), args := #[Operand.tmp 60, Operand.tmp 61], argTypes := #[3, 3] }, type := 3, pos := "l07_facts.go:247", after := #[{ on := 20, ground := Ground.data }, { on := 21, ground := Ground.data }], guard := none }) rfl (fun K hK => ?_) ?_
                  · go_simp
                    refine (sCap_any _ _ _).mono ?_
                    rintro e w' ⟨rfl, rfl⟩
                    go_wp2_with fail
                    refine hK.out _ _ ?_ (fun _ => ?_)
                    · exact ⟨x1', t0⟩
                    clear hK K
                    try simp only [Act.put, List.setIfInBounds_toArray, List.set_cons_zero, List.set_cons_succ]
                    refine wpAnyH_ready (rs := [17]) (by kernel_rfl) (by simp) ?_
                    refine AllReadyH.cons (o := { dst := some 57, op := Op.load 3 (Operand.tmp 56), type := 3, pos := "l07_facts.go:247", after := #[{ on := 16, ground := Ground.data }], guard := none }) rfl (fun K hK => ?_) ?_
                    · go_simp
                      refine hK.out _ _ ?_ (fun _ => ?_)
                      · exact ⟨x1', t0⟩
                      clear hK K
                      try simp only [Act.put, List.setIfInBounds_toArray, List.set_cons_zero, List.set_cons_succ]
                      refine wpAnyH_take (i := 19) (oi := { dst := some 59, op := Op.binOp BinOp.add 3 (Operand.tmp 57) (Operand.tmp 58) 3, type := 3, pos := "l07_facts.go:247", after := #[{ on := 17, ground := Ground.data }, { on := 18, ground := Ground.data }], guard := none }) (v := ?vr0_23) rfl (by kernel_rfl) (by kernel_rfl) (by kernel_rfl) (fun _ _ _ h => h) (Or.inl ⟨by rfl, ?hyr0_23⟩) (by assumption) ?restr0_23
                      case hyr0_23 => (intro w' hSw; (try dsimp only at hSw); go_simp; try with_reducible rfl)
                      try simp only [Act.put, List.setIfInBounds_toArray, List.set_cons_zero, List.set_cons_succ]
                      refine wpAnyH_ready (rs := [23]) (by kernel_rfl) (by simp) ?_
                      refine AllReadyH.cons (o := { dst := some 63, op := Op.call { callee := Callee.value (Operand.func 74), args := #[Operand.tmp 59, Operand.tmp 62], argTypes := #[3, 3] }, type := 3, pos := "l07_facts.go:247", after := #[{ on := 19, ground := Ground.data }, { on := 22, ground := Ground.data }, { on := 22, ground := Ground.chain }], guard := none }) rfl (fun K hK => ?_) ?_
                      · go_simp
                        refine (sMin_any _ _ _).mono ?_
                        rintro e w' ⟨rfl, rfl⟩
                        go_wp2_with fail
                        refine hK.out _ _ ?_ (fun _ => ?_)
                        · exact ⟨x1', t0⟩
                        clear hK K
                        try simp only [Act.put, List.setIfInBounds_toArray, List.set_cons_zero, List.set_cons_succ]
                        refine wpAnyH_take (i := 24) (oi := { dst := some 64, op := Op.indexAddr 22 (Operand.tmp 41) (Operand.tmp 47), type := 0, pos := "l07_facts.go:247", after := #[{ on := 1, ground := Ground.data }, { on := 7, ground := Ground.data }, { on := 0, ground := Ground.phase }, { on := 1, ground := Ground.phase }, { on := 2, ground := Ground.phase }, { on := 3, ground := Ground.phase }, { on := 4, ground := Ground.phase }, { on := 5, ground := Ground.phase }, { on := 6, ground := Ground.phase }, { on := 7, ground := Ground.phase }, { on := 8, ground := Ground.phase }, { on := 9, ground := Ground.phase }, { on := 10, ground := Ground.phase }, { on := 11, ground := Ground.phase }, { on := 12, ground := Ground.phase }, { on := 13, ground := Ground.phase }, { on := 14, ground := Ground.phase }, { on := 15, ground := Ground.phase }, { on := 16, ground := Ground.phase }, { on := 17, ground := Ground.phase }, { on := 18, ground := Ground.phase }, { on := 19, ground := Ground.phase }, { on := 20, ground := Ground.phase }, { on := 21, ground := Ground.phase }, { on := 22, ground := Ground.phase }, { on := 23, ground := Ground.phase }], guard := none }) (v := ?vr0_24) rfl (by kernel_rfl) (by kernel_rfl) (by kernel_rfl) (fun _ _ _ h => h) (Or.inl ⟨by rfl, ?hyr0_24⟩) (by assumption) ?restr0_24
                        case hyr0_24 => (intro w' hSw; (try dsimp only at hSw); go_simp; try with_reducible rfl)
                        try simp only [Act.put, List.setIfInBounds_toArray, List.set_cons_zero, List.set_cons_succ]
                        refine wpAnyH_ready (rs := [25]) (by kernel_rfl) (by simp) ?_
                        refine AllReadyH.cons (o := { dst := none, op := Op.store 3 (Operand.tmp 64) (Operand.tmp 63), type := 0, pos := "l07_facts.go:247", after := #[{ on := 24, ground := Ground.data }, { on := 23, ground := Ground.data }, { on := 23, ground := Ground.chain }, { on := 0, ground := Ground.phase }, { on := 1, ground := Ground.phase }, { on := 2, ground := Ground.phase }, { on := 3, ground := Ground.phase }, { on := 4, ground := Ground.phase }, { on := 5, ground := Ground.phase }, { on := 6, ground := Ground.phase }, { on := 7, ground := Ground.phase }, { on := 8, ground := Ground.phase }, { on := 9, ground := Ground.phase }, { on := 10, ground := Ground.phase }, { on := 11, ground := Ground.phase }, { on := 12, ground := Ground.phase }, { on := 13, ground := Ground.phase }, { on := 14, ground := Ground.phase }, { on := 15, ground := Ground.phase }, { on := 16, ground := Ground.phase }, { on := 17, ground := Ground.phase }, { on := 18, ground := Ground.phase }, { on := 19, ground := Ground.phase }, { on := 20, ground := Ground.phase }, { on := 21, ground := Ground.phase }, { on := 22, ground := Ground.phase }, { on := 23, ground := Ground.phase }], guard := none }) rfl (fun K hK => ?_) ?_
                        · go_simp
                          refine hK.out _ _ ?_ (fun _ => ?_)
                          · exact ⟨(World.cell?_setCell_far _ _ _ _ hg0).trans x1', (World.cell?_setCell_far _ _ _ _ hg2).trans t0⟩
                          clear hK K
                          try simp only [Act.put, List.setIfInBounds_toArray, List.set_cons_zero, List.set_cons_succ]
                          refine wpAnyH_done (by kernel_rfl) ?_ _
                          go_wp2
                          go_meet
                          case rel => rfl
                        exact AllReadyH.nil
                      exact AllReadyH.nil
                    exact AllReadyH.nil
                  exact AllReadyH.nil
                case rest =>
                  have O2 := mkHid (HO.out.stored p1 y1).1.drew
                  have gr := (HO.out.stored p1 y1).2
                  have X2 := mkHid (HX.out.grown gr (some_ne hg1)).drew
                  have T2 := mkHid (HT.out.grown gr (some_ne hg3)).drew
                  have Z2 := mkHid (HZ.out.grown gr (some_ne (by omega))).drew
                  have B2 := mkHid (HB.out.grown gr HB.out.size (fun q hq => by have e : g = q := Option.some.inj hq; omega)).drew
                  rw [← hcut] at O2 X2 T2 Z2 B2
                  have c2 := O2.out.cell (p := p2) (by rw [List.length_set, HPL.out]; omega)
                  have f2 := O2.out.free p2
                  rw [getD_set, if_neg (fun e => hp12 e.1.symm), hv2] at c2
                  clear hcut gr c1 f1 x0 x1' t0 t1 hv2
                  obtain ⟨x0, x1'⟩ := X2.out
                  obtain ⟨t0, t1⟩ := T2.out
                  go_wp2_with fail
                  have O5 : Hid (OwnI (wc.setCell ⟨g, p2, none⟩ (.int .i64 y2)).drew w1.heap.size (.slice (some ⟨g, 0, none⟩) ln sc) (P (j + 1))) := mkHid (by rw [← HS.out]; exact (O2.out.stored p2 y2).1.drew)
                  have gr := (O2.out.stored p2 y2).2
                  have X5 := mkHid (X2.out.grown gr (some_ne hg1)).drew
                  have T5 := mkHid (T2.out.grown gr (some_ne hg3)).drew
                  have Z5 := mkHid (Z2.out.grown gr (some_ne (by omega))).drew
                  have B5 := mkHid (B2.out.grown gr B2.out.size (fun q hq => by have e : g = q := Option.some.inj hq; omega)).drew
                  have HE5 : Hid (∃ w5, (wc.setCell ⟨g, p2, none⟩ (.int .i64 y2)).drew = w5) := mkHid ⟨_, rfl⟩
                  clear gr
                  refine wp_region_held_drew (S := (fun w' => w'.cell? ⟨b5, 1, none⟩ = some (.slice (some ⟨g, 0, none⟩) ln sc) ∧ w'.cell? ⟨w.heap.size, 0, none⟩ = some (.int .i64 n))) (by kernel_rfl) ⟨x1', t0⟩ (fun _ => ?_)
                  refine wpAnyH_take (i := 0) (oi := { dst := some 65, op := Op.fieldAddr 24 (Operand.tmp 7) 1, type := 0, pos := "l07_facts.go:248", after := #[], guard := none }) (v := ?vr1_1) rfl (by kernel_rfl) (by kernel_rfl) (by kernel_rfl) (fun _ _ _ h => h) (Or.inl ⟨by rfl, ?hyr1_1⟩) (by assumption) ?restr1_1
                  case hyr1_1 => (intro w' hSw; (try dsimp only at hSw); go_simp; try with_reducible rfl)
                  try simp only [Act.put, List.setIfInBounds_toArray, List.set_cons_zero, List.set_cons_succ]
                  refine wpAnyH_take (i := 1) (oi := { dst := some 66, op := Op.load 22 (Operand.tmp 65), type := 22, pos := "l07_facts.go:248", after := #[{ on := 0, ground := Ground.data }], guard := none }) (v := ?vr1_2) rfl (by kernel_rfl) (by kernel_rfl) (by kernel_rfl) (fun _ _ _ h => h) (Or.inl ⟨by rfl, ?hyr1_2⟩) (by assumption) ?restr1_2
                  case hyr1_2 => (intro w' hSw; (try dsimp only at hSw); go_simp; try with_reducible rfl)
                  try simp only [Act.put, List.setIfInBounds_toArray, List.set_cons_zero, List.set_cons_succ]
                  refine wpAnyH_take (i := 2) (oi := { dst := some 67, op := Op.move (Operand.tmp 8), type := 3, pos := "l07_facts.go:248", after := #[], guard := none }) (v := ?vr1_3) rfl (by kernel_rfl) (by kernel_rfl) (by kernel_rfl) (fun _ _ _ h => h) (Or.inl ⟨by rfl, ?hyr1_3⟩) (by assumption) ?restr1_3
                  case hyr1_3 => (intro w' hSw; (try dsimp only at hSw); go_simp; try with_reducible rfl)
                  try simp only [Act.put, List.setIfInBounds_toArray, List.set_cons_zero, List.set_cons_succ]
                  refine wpAnyH_take (i := 3) (oi := { dst := some 68, op := Op.fieldAddr 24 (Operand.tmp 3) 0, type := 0, pos := "l07_facts.go:248", after := #[], guard := none }) (v := ?vr1_4) rfl (by kernel_rfl) (by kernel_rfl) (by kernel_rfl) (fun _ _ _ h => h) (Or.inl ⟨by rfl, ?hyr1_4⟩) (by assumption) ?restr1_4
                  case hyr1_4 => (intro w' hSw; (try dsimp only at hSw); go_simp; try with_reducible rfl)
                  try simp only [Act.put, List.setIfInBounds_toArray, List.set_cons_zero, List.set_cons_succ]
                  refine wpAnyH_take (i := 4) (oi := { dst := some 69, op := Op.load 3 (Operand.tmp 68), type := 3, pos := "l07_facts.go:248", after := #[{ on := 3, ground := Ground.data }], guard := none }) (v := ?vr1_5) rfl (by kernel_rfl) (by kernel_rfl) (by kernel_rfl) (fun _ _ _ h => h) (Or.inl ⟨by rfl, ?hyr1_5⟩) (by assumption) ?restr1_5
                  case hyr1_5 => (intro w' hSw; (try dsimp only at hSw); go_simp; try with_reducible rfl)
                  try simp only [Act.put, List.setIfInBounds_toArray, List.set_cons_zero, List.set_cons_succ]
                  refine wpAnyH_take (i := 5) (oi := { dst := some 70, op := Op.binOp BinOp.mul 3 (Operand.tmp 67) (Operand.tmp 69) 3, type := 3, pos := "l07_facts.go:248", after := #[{ on := 2, ground := Ground.data }, { on := 4, ground := Ground.data }], guard := none }) (v := ?vr1_6) rfl (by kernel_rfl) (by kernel_rfl) (by kernel_rfl) (fun _ _ _ h => h) (Or.inl ⟨by rfl, ?hyr1_6⟩) (by assumption) ?restr1_6
                  case hyr1_6 => (intro w' hSw; (try dsimp only at hSw); go_simp; try with_reducible rfl)
                  try simp only [Act.put, List.setIfInBounds_toArray, List.set_cons_zero, List.set_cons_succ]
                  refine wpAnyH_take (i := 6) (oi := { dst := some 71, op := Op.move (Operand.tmp 1), type := 3, pos := "l07_facts.go:248", after := #[], guard := none }) (v := ?vr1_7) rfl (by kernel_rfl) (by kernel_rfl) (by kernel_rfl) (fun _ _ _ h => h) (Or.inl ⟨by rfl, ?hyr1_7⟩) (by assumption) ?restr1_7
                  case hyr1_7 => (intro w' hSw; (try dsimp only at hSw); go_simp; try with_reducible rfl)
                  try simp only [Act.put, List.setIfInBounds_toArray, List.set_cons_zero, List.set_cons_succ]
                  refine wpAnyH_take (i := 7) (oi := { dst := some 72, op := Op.binOp BinOp.add 3 (Operand.tmp 70) (Operand.tmp 71) 3, type := 3, pos := "l07_facts.go:248", after := #[{ on := 5, ground := Ground.data }, { on := 6, ground := Ground.data }], guard := none }) (v := ?vr1_8) rfl (by kernel_rfl) (by kernel_rfl) (by kernel_rfl) (fun _ _ _ h => h) (Or.inl ⟨by rfl, ?hyr1_8⟩) (by assumption) ?restr1_8
                  case hyr1_8 => (intro w' hSw; (try dsimp only at hSw); go_simp; try with_reducible rfl)
                  try simp only [Act.put, List.setIfInBounds_toArray, List.set_cons_zero, List.set_cons_succ]
                  refine wpAnyH_take (i := 8) (oi := { dst := some 73, op := Op.fieldAddr 24 (Operand.tmp 7) 1, type := 0, pos := "l07_facts.go:248", after := #[], guard := none }) (v := ?vr1_9) rfl (by kernel_rfl) (by kernel_rfl) (by kernel_rfl) (fun _ _ _ h => h) (Or.inl ⟨by rfl, ?hyr1_9⟩) (by assumption) ?restr1_9
                  case hyr1_9 => (intro w' hSw; (try dsimp only at hSw); go_simp; try with_reducible rfl)
                  try simp only [Act.put, List.setIfInBounds_toArray, List.set_cons_zero, List.set_cons_succ]
                  refine wpAnyH_take (i := 9) (oi := { dst := some 74, op := Op.load 22 (Operand.tmp 73), type := 22, pos := "l07_facts.go:248", after := #[{ on := 8, ground := Ground.data }], guard := none }) (v := ?vr1_10) rfl (by kernel_rfl) (by kernel_rfl) (by kernel_rfl) (fun _ _ _ h => h) (Or.inl ⟨by rfl, ?hyr1_10⟩) (by assumption) ?restr1_10
                  case hyr1_10 => (intro w' hSw; (try dsimp only at hSw); go_simp; try with_reducible rfl)
                  try simp only [Act.put, List.setIfInBounds_toArray, List.set_cons_zero, List.set_cons_succ]
                  refine wpAnyH_take (i := 10) (oi := { dst := some 75, op := Op.move (Operand.tmp 8), type := 3, pos := "l07_facts.go:248", after := #[], guard := none }) (v := ?vr1_11) rfl (by kernel_rfl) (by kernel_rfl) (by kernel_rfl) (fun _ _ _ h => h) (Or.inl ⟨by rfl, ?hyr1_11⟩) (by assumption) ?restr1_11
                  case hyr1_11 => (intro w' hSw; (try dsimp only at hSw); go_simp; try with_reducible rfl)
                  try simp only [Act.put, List.setIfInBounds_toArray, List.set_cons_zero, List.set_cons_succ]
                  refine wpAnyH_take (i := 11) (oi := { dst := some 76, op := Op.fieldAddr 24 (Operand.tmp 3) 0, type := 0, pos := "l07_facts.go:248", after := #[], guard := none }) (v := ?vr1_12) rfl (by kernel_rfl) (by kernel_rfl) (by kernel_rfl) (fun _ _ _ h => h) (Or.inl ⟨by rfl, ?hyr1_12⟩) (by assumption) ?restr1_12
                  case hyr1_12 => (intro w' hSw; (try dsimp only at hSw); go_simp; try with_reducible rfl)
                  try simp only [Act.put, List.setIfInBounds_toArray, List.set_cons_zero, List.set_cons_succ]
                  refine wpAnyH_take (i := 12) (oi := { dst := some 77, op := Op.load 3 (Operand.tmp 76), type := 3, pos := "l07_facts.go:248", after := #[{ on := 11, ground := Ground.data }], guard := none }) (v := ?vr1_13) rfl (by kernel_rfl) (by kernel_rfl) (by kernel_rfl) (fun _ _ _ h => h) (Or.inl ⟨by rfl, ?hyr1_13⟩) (by assumption) ?restr1_13
                  case hyr1_13 => (intro w' hSw; (try dsimp only at hSw); go_simp; try with_reducible rfl)
                  try simp only [Act.put, List.setIfInBounds_toArray, List.set_cons_zero, List.set_cons_succ]
                  refine wpAnyH_take (i := 13) (oi := { dst := some 78, op := Op.binOp BinOp.mul 3 (Operand.tmp 75) (Operand.tmp 77) 3, type := 3, pos := "l07_facts.go:248", after := #[{ on := 10, ground := Ground.data }, { on := 12, ground := Ground.data }], guard := none }) (v := ?vr1_14) rfl (by kernel_rfl) (by kernel_rfl) (by kernel_rfl) (fun _ _ _ h => h) (Or.inl ⟨by rfl, ?hyr1_14⟩) (by assumption) ?restr1_14
                  case hyr1_14 => (intro w' hSw; (try dsimp only at hSw); go_simp; try with_reducible rfl)
                  try simp only [Act.put, List.setIfInBounds_toArray, List.set_cons_zero, List.set_cons_succ]
                  refine wpAnyH_take (i := 14) (oi := { dst := some 79, op := Op.move (Operand.tmp 1), type := 3, pos := "l07_facts.go:248", after := #[], guard := none }) (v := ?vr1_15) rfl (by kernel_rfl) (by kernel_rfl) (by kernel_rfl) (fun _ _ _ h => h) (Or.inl ⟨by rfl, ?hyr1_15⟩) (by assumption) ?restr1_15
                  case hyr1_15 => (intro w' hSw; (try dsimp only at hSw); go_simp; try with_reducible rfl)
                  try simp only [Act.put, List.setIfInBounds_toArray, List.set_cons_zero, List.set_cons_succ]
                  refine wpAnyH_take (i := 15) (oi := { dst := some 80, op := Op.binOp BinOp.add 3 (Operand.tmp 78) (Operand.tmp 79) 3, type := 3, pos := "l07_facts.go:248", after := #[{ on := 13, ground := Ground.data }, { on := 14, ground := Ground.data }], guard := none }) (v := ?vr1_16) rfl (by kernel_rfl) (by kernel_rfl) (by kernel_rfl) (fun _ _ _ h => h) (Or.inl ⟨by rfl, ?hyr1_16⟩) (by assumption) ?restr1_16
                  case hyr1_16 => (intro w' hSw; (try dsimp only at hSw); go_simp; try with_reducible rfl)
                  try simp only [Act.put, List.setIfInBounds_toArray, List.set_cons_zero, List.set_cons_succ]
                  refine wpAnyH_take (i := 16) (oi := { dst := some 81, op := Op.indexAddr 22 (Operand.tmp 74) (Operand.tmp 80), type := 0, pos := "l07_facts.go:248", after := #[{ on := 9, ground := Ground.data }, { on := 15, ground := Ground.data }], guard := none }) (v := ?vr1_17) rfl (by kernel_rfl) (by kernel_rfl) (by kernel_rfl) (fun _ _ _ h => h) (Or.inl ⟨by rfl, ?hyr1_17⟩) (by assumption) ?restr1_17
                  case hyr1_17 => (intro w' hSw; (try dsimp only at hSw); go_simp; try with_reducible rfl)
                  try simp only [Act.put, List.setIfInBounds_toArray, List.set_cons_zero, List.set_cons_succ]
                  refine wpAnyH_take (i := 18) (oi := { dst := some 83, op := Op.move (Operand.tmp 2), type := 3, pos := "l07_facts.go:248", after := #[], guard := none }) (v := ?vr1_18) rfl (by kernel_rfl) (by kernel_rfl) (by kernel_rfl) (fun _ _ _ h => h) (Or.inl ⟨by rfl, ?hyr1_18⟩) (by assumption) ?restr1_18
                  case hyr1_18 => (intro w' hSw; (try dsimp only at hSw); go_simp; try with_reducible rfl)
                  try simp only [Act.put, List.setIfInBounds_toArray, List.set_cons_zero, List.set_cons_succ]
                  refine wpAnyH_take (i := 20) (oi := { dst := some 85, op := Op.move (Operand.tmp 8), type := 3, pos := "l07_facts.go:248", after := #[], guard := none }) (v := ?vr1_19) rfl (by kernel_rfl) (by kernel_rfl) (by kernel_rfl) (fun _ _ _ h => h) (Or.inl ⟨by rfl, ?hyr1_19⟩) (by assumption) ?restr1_19
                  case hyr1_19 => (intro w' hSw; (try dsimp only at hSw); go_simp; try with_reducible rfl)
                  try simp only [Act.put, List.setIfInBounds_toArray, List.set_cons_zero, List.set_cons_succ]
                  refine wpAnyH_take (i := 21) (oi := { dst := some 86, op := Op.move (Operand.tmp 1), type := 3, pos := "l07_facts.go:248", after := #[], guard := none }) (v := ?vr1_20) rfl (by kernel_rfl) (by kernel_rfl) (by kernel_rfl) (fun _ _ _ h => h) (Or.inl ⟨by rfl, ?hyr1_20⟩) (by assumption) ?restr1_20
                  case hyr1_20 => (intro w' hSw; (try dsimp only at hSw); go_simp; try with_reducible rfl)
                  try simp only [Act.put, List.setIfInBounds_toArray, List.set_cons_zero, List.set_cons_succ]
                  refine wpAnyH_ready (rs := [17, 22]) (by kernel_rfl) (by simp) ?_
                  refine AllReadyH.cons (o := { dst := some 82, op := Op.load 3 (Operand.tmp 81), type := 3, pos := "l07_facts.go:248", after := #[{ on := 16, ground := Ground.data }], guard := none }) rfl (fun K hK => ?_) ?_
                  · go_simp
                    refine hK.out _ _ ?_ (fun _ => ?_)
                    · exact ⟨x1', t0⟩
                    clear hK K
                    try simp only [Act.put, List.setIfInBounds_toArray, List.set_cons_zero, List.set_cons_succ]
                    refine wpAnyH_take (i := 19) (oi := { dst := some 84, op := Op.binOp BinOp.sub 3 (Operand.tmp 82) (Operand.tmp 83) 3, type := 3, pos := "l07_facts.go:248", after := #[{ on := 17, ground := Ground.data }, { on := 18, ground := Ground.data }], guard := none }) (v := ?vr1_21) rfl (by kernel_rfl) (by kernel_rfl) (by kernel_rfl) (fun _ _ _ h => h) (Or.inl ⟨by rfl, ?hyr1_21⟩) (by assumption) ?restr1_21
                    case hyr1_21 => (intro w' hSw; (try dsimp only at hSw); go_simp; try with_reducible rfl)
                    try simp only [Act.put, List.setIfInBounds_toArray, List.set_cons_zero, List.set_cons_succ]
                    refine wpAnyH_ready (rs := [22]) (by kernel_rfl) (by simp) ?_
                    refine AllReadyH.cons (o := { dst := some 87, op := Op.call { callee := Callee.value (Operand.func 56), args := #[Operand.tmp 85, Operand.tmp 86], argTypes := #[3, 3] }, type := 3, pos := "l07_facts.go:248", after := #[{ on := 20, ground := Ground.data }, { on := 21, ground := Ground.data }], guard := none }) rfl (fun K hK => ?_) ?_
                    · go_simp
                      refine (sCap_any _ _ _).mono ?_
                      rintro e w' ⟨rfl, rfl⟩
                      go_wp2_with fail
                      refine hK.out _ _ ?_ (fun _ => ?_)
                      · exact ⟨x1', t0⟩
                      clear hK K
                      try simp only [Act.put, List.setIfInBounds_toArray, List.set_cons_zero, List.set_cons_succ]
                      refine wpAnyH_ready (rs := [23]) (by kernel_rfl) (by simp) ?_
                      refine AllReadyH.cons (o := { dst := some 88, op := Op.call { callee := Callee.value (Operand.func 74), args := #[Operand.tmp 84, Operand.tmp 87], argTypes := #[3, 3] }, type := 3, pos := "l07_facts.go:248", after := #[{ on := 19, ground := Ground.data }, { on := 22, ground := Ground.data }, { on := 22, ground := Ground.chain }], guard := none }) rfl (fun K hK => ?_) ?_
                      · go_simp
                        refine (sMin_any _ _ _).mono ?_
                        rintro e w' ⟨rfl, rfl⟩
                        go_wp2_with fail
                        refine hK.out _ _ ?_ (fun _ => ?_)
                        · exact ⟨x1', t0⟩
                        clear hK K
                        try simp only [Act.put, List.setIfInBounds_toArray, List.set_cons_zero, List.set_cons_succ]
                        refine wpAnyH_take (i := 24) (oi := { dst := some 89, op := Op.indexAddr 22 (Operand.tmp 66) (Operand.tmp 72), type := 0, pos := "l07_facts.go:248", after := #[{ on := 1, ground := Ground.data }, { on := 7, ground := Ground.data }, { on := 0, ground := Ground.phase }, { on := 1, ground := Ground.phase }, { on := 2, ground := Ground.phase }, { on := 3, ground := Ground.phase }, { on := 4, ground := Ground.phase }, { on := 5, ground := Ground.phase }, { on := 6, ground := Ground.phase }, { on := 7, ground := Ground.phase }, { on := 8, ground := Ground.phase }, { on := 9, ground := Ground.phase }, { on := 10, ground := Ground.phase }, { on := 11, ground := Ground.phase }, { on := 12, ground := Ground.phase }, { on := 13, ground := Ground.phase }, { on := 14, ground := Ground.phase }, { on := 15, ground := Ground.phase }, { on := 16, ground := Ground.phase }, { on := 17, ground := Ground.phase }, { on := 18, ground := Ground.phase }, { on := 19, ground := Ground.phase }, { on := 20, ground := Ground.phase }, { on := 21, ground := Ground.phase }, { on := 22, ground := Ground.phase }, { on := 23, ground := Ground.phase }], guard := none }) (v := ?vr1_22) rfl (by kernel_rfl) (by kernel_rfl) (by kernel_rfl) (fun _ _ _ h => h) (Or.inl ⟨by rfl, ?hyr1_22⟩) (by assumption) ?restr1_22
                        case hyr1_22 => (intro w' hSw; (try dsimp only at hSw); go_simp; try with_reducible rfl)
                        try simp only [Act.put, List.setIfInBounds_toArray, List.set_cons_zero, List.set_cons_succ]
                        refine wpAnyH_ready (rs := [25]) (by kernel_rfl) (by simp) ?_
                        refine AllReadyH.cons (o := { dst := none, op := Op.store 3 (Operand.tmp 89) (Operand.tmp 88), type := 0, pos := "l07_facts.go:248", after := #[{ on := 24, ground := Ground.data }, { on := 23, ground := Ground.data }, { on := 23, ground := Ground.chain }, { on := 0, ground := Ground.phase }, { on := 1, ground := Ground.phase }, { on := 2, ground := Ground.phase }, { on := 3, ground := Ground.phase }, { on := 4, ground := Ground.phase }, { on := 5, ground := Ground.phase }, { on := 6, ground := Ground.phase }, { on := 7, ground := Ground.phase }, { on := 8, ground := Ground.phase }, { on := 9, ground := Ground.phase }, { on := 10, ground := Ground.phase }, { on := 11, ground := Ground.phase }, { on := 12, ground := Ground.phase }, { on := 13, ground := Ground.phase }, { on := 14, ground := Ground.phase }, { on := 15, ground := Ground.phase }, { on := 16, ground := Ground.phase }, { on := 17, ground := Ground.phase }, { on := 18, ground := Ground.phase }, { on := 19, ground := Ground.phase }, { on := 20, ground := Ground.phase }, { on := 21, ground := Ground.phase }, { on := 22, ground := Ground.phase }, { on := 23, ground := Ground.phase }], guard := none }) rfl (fun K hK => ?_) ?_
                        · go_simp
                          refine hK.out _ _ ?_ (fun _ => ?_)
                          · exact ⟨(World.cell?_setCell_far _ _ _ _ hg0).trans x1', (World.cell?_setCell_far _ _ _ _ hg2).trans t0⟩
                          clear hK K
                          try simp only [Act.put, List.setIfInBounds_toArray, List.set_cons_zero, List.set_cons_succ]
                          refine wpAnyH_done (by kernel_rfl) ?_ _
                          obtain ⟨w5, hw5⟩ := HE5.out
                          rw [hw5] at O5 X5 T5 Z5 B5
                          rw [hw5]
                          clear hw5 c2 f2 x0 x1' t0 t1
                          go_wp2
                          go_roundg gh
                          case measure => omega
                          case rel => exact ⟨j + 1, by omega, by go_num, O5.out, X5.out, T5.out, Z5.out, B5.out⟩
                        exact AllReadyH.nil
                      exact AllReadyH.nil
                    exact AllReadyH.nil
                  refine AllReadyH.cons (o := { dst := some 87, op := Op.call { callee := Callee.value (Operand.func 56), args := #[Operand.tmp 85, Operand.tmp 86], argTypes := #[3, 3] }, type := 3, pos := "l07_facts.go:248", after := #[{ on := 20, ground := Ground.data }, { on := 21, ground := Ground.data }], guard := none }) rfl (fun K hK => ?_) ?_
                  · go_simp
                    refine (sCap_any _ _ _).mono ?_
                    rintro e w' ⟨rfl, rfl⟩
                    go_wp2_with fail
                    refine hK.out _ _ ?_ (fun _ => ?_)
                    · exact ⟨x1', t0⟩
                    clear hK K
                    try simp only [Act.put, List.setIfInBounds_toArray, List.set_cons_zero, List.set_cons_succ]
                    refine wpAnyH_ready (rs := [17]) (by kernel_rfl) (by simp) ?_
                    refine AllReadyH.cons (o := { dst := some 82, op := Op.load 3 (Operand.tmp 81), type := 3, pos := "l07_facts.go:248", after := #[{ on := 16, ground := Ground.data }], guard := none }) rfl (fun K hK => ?_) ?_
                    · go_simp
                      refine hK.out _ _ ?_ (fun _ => ?_)
                      · exact ⟨x1', t0⟩
                      clear hK K
                      try simp only [Act.put, List.setIfInBounds_toArray, List.set_cons_zero, List.set_cons_succ]
                      refine wpAnyH_take (i := 19) (oi := { dst := some 84, op := Op.binOp BinOp.sub 3 (Operand.tmp 82) (Operand.tmp 83) 3, type := 3, pos := "l07_facts.go:248", after := #[{ on := 17, ground := Ground.data }, { on := 18, ground := Ground.data }], guard := none }) (v := ?vr1_23) rfl (by kernel_rfl) (by kernel_rfl) (by kernel_rfl) (fun _ _ _ h => h) (Or.inl ⟨by rfl, ?hyr1_23⟩) (by assumption) ?restr1_23
                      case hyr1_23 => (intro w' hSw; (try dsimp only at hSw); go_simp; try with_reducible rfl)
                      try simp only [Act.put, List.setIfInBounds_toArray, List.set_cons_zero, List.set_cons_succ]
                      refine wpAnyH_ready (rs := [23]) (by kernel_rfl) (by simp) ?_
                      refine AllReadyH.cons (o := { dst := some 88, op := Op.call { callee := Callee.value (Operand.func 74), args := #[Operand.tmp 84, Operand.tmp 87], argTypes := #[3, 3] }, type := 3, pos := "l07_facts.go:248", after := #[{ on := 19, ground := Ground.data }, { on := 22, ground := Ground.data }, { on := 22, ground := Ground.chain }], guard := none }) rfl (fun K hK => ?_) ?_
                      · go_simp
                        refine (sMin_any _ _ _).mono ?_
                        rintro e w' ⟨rfl, rfl⟩
                        go_wp2_with fail
                        refine hK.out _ _ ?_ (fun _ => ?_)
                        · exact ⟨x1', t0⟩
                        clear hK K
                        try simp only [Act.put, List.setIfInBounds_toArray, List.set_cons_zero, List.set_cons_succ]
                        refine wpAnyH_take (i := 24) (oi := { dst := some 89, op := Op.indexAddr 22 (Operand.tmp 66) (Operand.tmp 72), type := 0, pos := "l07_facts.go:248", after := #[{ on := 1, ground := Ground.data }, { on := 7, ground := Ground.data }, { on := 0, ground := Ground.phase }, { on := 1, ground := Ground.phase }, { on := 2, ground := Ground.phase }, { on := 3, ground := Ground.phase }, { on := 4, ground := Ground.phase }, { on := 5, ground := Ground.phase }, { on := 6, ground := Ground.phase }, { on := 7, ground := Ground.phase }, { on := 8, ground := Ground.phase }, { on := 9, ground := Ground.phase }, { on := 10, ground := Ground.phase }, { on := 11, ground := Ground.phase }, { on := 12, ground := Ground.phase }, { on := 13, ground := Ground.phase }, { on := 14, ground := Ground.phase }, { on := 15, ground := Ground.phase }, { on := 16, ground := Ground.phase }, { on := 17, ground := Ground.phase }, { on := 18, ground := Ground.phase }, { on := 19, ground := Ground.phase }, { on := 20, ground := Ground.phase }, { on := 21, ground := Ground.phase }, { on := 22, ground := Ground.phase }, { on := 23, ground := Ground.phase }], guard := none }) (v := ?vr1_24) rfl (by kernel_rfl) (by kernel_rfl) (by kernel_rfl) (fun _ _ _ h => h) (Or.inl ⟨by rfl, ?hyr1_24⟩) (by assumption) ?restr1_24
                        case hyr1_24 => (intro w' hSw; (try dsimp only at hSw); go_simp; try with_reducible rfl)
                        try simp only [Act.put, List.setIfInBounds_toArray, List.set_cons_zero, List.set_cons_succ]
                        refine wpAnyH_ready (rs := [25]) (by kernel_rfl) (by simp) ?_
                        refine AllReadyH.cons (o := { dst := none, op := Op.store 3 (Operand.tmp 89) (Operand.tmp 88), type := 0, pos := "l07_facts.go:248", after := #[{ on := 24, ground := Ground.data }, { on := 23, ground := Ground.data }, { on := 23, ground := Ground.chain }, { on := 0, ground := Ground.phase }, { on := 1, ground := Ground.phase }, { on := 2, ground := Ground.phase }, { on := 3, ground := Ground.phase }, { on := 4, ground := Ground.phase }, { on := 5, ground := Ground.phase }, { on := 6, ground := Ground.phase }, { on := 7, ground := Ground.phase }, { on := 8, ground := Ground.phase }, { on := 9, ground := Ground.phase }, { on := 10, ground := Ground.phase }, { on := 11, ground := Ground.phase }, { on := 12, ground := Ground.phase }, { on := 13, ground := Ground.phase }, { on := 14, ground := Ground.phase }, { on := 15, ground := Ground.phase }, { on := 16, ground := Ground.phase }, { on := 17, ground := Ground.phase }, { on := 18, ground := Ground.phase }, { on := 19, ground := Ground.phase }, { on := 20, ground := Ground.phase }, { on := 21, ground := Ground.phase }, { on := 22, ground := Ground.phase }, { on := 23, ground := Ground.phase }], guard := none }) rfl (fun K hK => ?_) ?_
                        · go_simp
                          refine hK.out _ _ ?_ (fun _ => ?_)
                          · exact ⟨(World.cell?_setCell_far _ _ _ _ hg0).trans x1', (World.cell?_setCell_far _ _ _ _ hg2).trans t0⟩
                          clear hK K
                          try simp only [Act.put, List.setIfInBounds_toArray, List.set_cons_zero, List.set_cons_succ]
                          refine wpAnyH_done (by kernel_rfl) ?_ _
                          obtain ⟨w5, hw5⟩ := HE5.out
                          rw [hw5] at O5 X5 T5 Z5 B5
                          rw [hw5]
                          clear hw5 c2 f2 x0 x1' t0 t1
                          go_wp2
                          go_roundg gh
                          case measure => omega
                          case rel => exact ⟨j + 1, by omega, by go_num, O5.out, X5.out, T5.out, Z5.out, B5.out⟩
                        exact AllReadyH.nil
                      exact AllReadyH.nil
                    exact AllReadyH.nil
                  exact AllReadyH.nil
end Go.Proofs.Ythhajdjpglpkoaa
