/-
  CONTRACT of the program's facts: a table given out.
-/
import Derived.Test.YtmaejdomlggopaaDof
import Derived.OwnWalk
namespace Go.Proofs.Ytmaejdomlggopaa
open Go.RowKit

def mkR (n u : Nat) (f : Tab) : List Int := (List.range (u * n)).map fun p => f (p / n) (p % n)
theorem mkR_len (n u : Nat) (f : Tab) : (mkR n u f).length = u * n := by simp [mkR]
theorem mkR_next {n u : Nat} {f : Tab} : mkR n (u + 1) f = mkR n u f ++ rowL n u f := by
  apply List.ext_getElem?
  intro p
  have e : (u + 1) * n = u * n + n := by rw [Nat.add_mul]; omega
  by_cases h1 : p < u * n
  · rw [List.getElem?_append_left (by rw [mkR_len]; exact h1)]
    simp [mkR, h1, show p < (u + 1) * n by omega]
  · rw [List.getElem?_append_right (by rw [mkR_len]; omega), mkR_len]
    by_cases h2 : p < u * n + n
    · rw [rowL_get (by omega)]
      obtain ⟨j, rfl⟩ : ∃ j, p = u * n + j := ⟨p - u * n, by omega⟩
      have hj : j < n := by omega
      simp only [mkR, List.getElem?_map]
      rw [List.getElem?_range (by omega)]
      simp [idx_div hj, idx_mod hj]
    · rw [List.getElem?_eq_none (by rw [mkR_len]; omega), List.getElem?_eq_none (by rw [rowL_len]; omega)]
theorem ints_append (a b : List Int) : ints (a ++ b) = ints a ++ ints b := by simp [ints]
set_option maxRecDepth 100000 in
set_option maxHeartbeats 1600000 in
theorem facts_yes (n : Nat) (hn1 : 1 ≤ n) (hn2 : n ≤ 13) (f : Tab) (w : World) : Calls Try.prog 60 #[.agg (dA n (grid n f))] w fun e w' => Gives w w' e n (mk n f) := by
  obtain ⟨i0, hi, hz⟩ := Option.map_eq_some_iff.1 Try.info3
  simp only [Prod.mk.injEq] at hz
  obtain ⟨hz0, hz1, hz2⟩ := hz
  have HI := mkHid (show Try.prog.info? 3 = some i0 ∧ i0.zero = some (.int .i64 0) ∧ i0.size = 1 ∧ i0.bytes = 8 from ⟨hi, hz0, hz1, hz2⟩)
  have D0 := mkHid ((Dif.new w (n := n) (grid_len n f) 73).alloc (.cells #[.int .i64 0, .slice none 0 0] 27))
  have Z0 := mkHid (Fz.new (w.alloc (.cells (dA n (grid n f)) 73)))
  have B0 := mkHid (((Below.refl w.heap.size w).alloc (Nat.le_refl _) (.cells (dA n (grid n f)) 73)).alloc (by simp) (.cells #[.int .i64 0, .slice none 0 0] 27))
  have HV := mkHid (grid_V hn2 f)
  have hsq := wrap_sq hn2
  have hq1 := sq_le hn2
  obtain ⟨q, hq⟩ : ∃ q, n * n = q := ⟨_, rfl⟩
  rw [hq] at hsq hq1
  have HQ := mkHid hq
  have HMK : Hid (mkR n n f = mk n f) := mkHid rfl
  obtain ⟨G, hG⟩ : ∃ G, grid n f = G := ⟨_, rfl⟩
  rw [hG] at D0 Z0 B0 HV
  rw [hG]
  clear hi hz0 hz1 hz2 hq hG
  go_enter Try.func60, Try.ntmps60
  go_wp2_with (first | (refine wp_load64 D0.out rfl rfl rfl ?_))
  refine (isNone_any n G _).mono ?_
  rintro e w1 ⟨rfl, hb1⟩
  have D1 := mkHid (D0.out.below hb1)
  have Z1 : Hid (Fz w1 (w.heap.size + 1)) := mkHid (by have := Z0.out.below hb1; simpa using this)
  have B1 := mkHid (below_step B0.out hb1)
  have c0 := D1.out.size
  have hn0 : decide ((n : Int) = 0) = false := decide_eq_false (by omega)
  rw [hn0]
  have s1 := Z1.out.lt
  clear hb1 D0 Z0 B0
  go_wp2_with (first | (at_make; refine wpList_make_own _ rfl _ _ 22 rfl (w.heap.size + 2) 3 i0 (.int .i64 0) 1 Try.underlying22 HI.out.1 HI.out.2.1 HI.out.2.2.1 _ _ _ q rfl rfl rfl ?mk1 ?mk2 ?mk3 ?_; rotate_right; intro w2 ho2 hg2; have c2 := (D1.out.grown hg2 (by simp)).size))
  case mk1 => rw [HI.out.2.2.2]; omega
  case mk2 => unfold maxLen; omega
  case mk3 => omega
  have D2 := mkHid (D1.out.grown hg2 (by simp))
  have Z2 := mkHid (Z1.out.grown hg2 (by simp))
  have B2 := mkHid (B1.out.grown hg2 B1.out.size (fun q hq => by cases hq))
  have O2 : Hid (OwnI w2 (w.heap.size + 2) (.slice (some ⟨w1.heap.size, 0, none⟩) 0 q) []) := mkHid ho2
  have HSQ : Hid (∀ i, i < n → i * n + n ≤ q) := mkHid fun i hi => by rw [← HQ.out, show i * n + n = (i + 1) * n by rw [Nat.add_mul]; omega]; exact Nat.mul_le_mul_right n hi
  obtain ⟨g0, hg0⟩ : ∃ g, w1.heap.size = g := ⟨_, rfl⟩
  rw [hg0] at O2
  rw [hg0]
  clear hg2 ho2 D1 Z1 B1 c0 hg0
  go_loopg [3, 16] n (fun g s3 s wr => ∃ (i : Nat) (ao : Option Addr) (cap : Nat), i + g = n ∧ s = .int .i64 i ∧ s3 = .slice ao (mkR n i f).length cap ∧ OwnI wr (w.heap.size + 2) (.slice ao (mkR n i f).length cap) (mkR n i f) ∧ Dif wr w.heap.size n G ∧ Fz wr (w.heap.size + 1) ∧ Below w.heap.size w wr)
  case atStart => exact ⟨0, some ⟨g0, 0, none⟩, q, by omega, rfl, by simp [mkR], by simpa [mkR] using O2.out, D2.out, Z2.out, B2.out⟩
  case round =>
    obtain ⟨i, ao, cap, hig, rfl, rfl, hO, hD, hZ, hB⟩ := hrel
    have HO := mkHid hO
    have HD := mkHid hD
    have HZ := mkHid hZ
    have HB := mkHid hB
    clear hO hB D2 Z2 B2 O2 c2 s1
    have d0 := hD.size
    cases gk with
    | zero =>
      have hlt : ¬ ((i : Int) < (n : Int)) := by omega
      have e : i = n := by omega
      subst e
      rw [HMK.out] at HO
      rw [HMK.out]
      obtain ⟨⟨z0, z1⟩, z2, z3⟩ := hZ
      clear hD
      go_wp2
      refine bodyPost_ret (v := .agg #[.int .i64 i, .slice ao (mk i f).length cap]) (by simp [results, Try.results60, go_sem, z0, z1]) rfl ⟨ao, cap, rfl, ?_, ?_⟩
      · have hlo : ∀ q, Value.ownBlock (.slice ao (mk i f).length cap) = some q → some (w.heap.size + 1) ≠ some q := fun q hq => some_ne (by have := HO.out.lt hq; omega)
        exact (OwnI.grown (OwnI.grown (HO.out.mono (by omega)) (grown_setCell _ ⟨w.heap.size + 1, 0, none⟩ _) hlo) (grown_setCell _ ⟨w.heap.size + 1, 1, none⟩ _) hlo)
      · exact (HB.out.setCell (p := ⟨w.heap.size + 1, 0, none⟩) (Nat.le_succ _) _).setCell (p := ⟨w.heap.size + 1, 1, none⟩) (Nat.le_succ _) _
    | succ g =>
      have hlt : (i : Int) < (n : Int) := by omega
      clear hZ
      have a0 : (0 : Int) ≤ (i : Int) := by omega
      have a1 : (i : Int) < 13 := by omega
      have a2 : (n : Int) ≤ 13 := by omega
      obtain ⟨L, hL⟩ : ∃ L, mkR n i f = L := ⟨_, rfl⟩
      have HL : Hid (L.length = i * n) := mkHid (by rw [← hL, mkR_len])
      have HN : Hid (mkR n (i + 1) f = L ++ rowL n i f) := mkHid (by rw [mkR_next, hL])
      rw [hL] at HO
      rw [hL]
      have hLq : L.length + n ≤ q := by rw [HL.out]; exact HSQ.out i (by omega)
      have HSRC : Hid (∀ v, Dif v w.heap.size n G → ∀ j u, (ints (rowL n i f))[j]? = some u → v.cell? ((⟨w.heap.size, 1 + i * 13, none⟩ : Addr).add j) = some u) := mkHid fun v hv j u hu => by
        have hj : j < n := by have := (List.getElem?_eq_some_iff.1 hu).1; rw [ints_len, rowL_len] at this; exact this
        rw [ints_get, rowL_get hj] at hu
        rw [Addr.add_mid, ← hu]
        exact hv.at (by omega) (by omega) (HV.out i j (by omega) hj)
      clear hD hL
      go_wp2_with fail
      go_region_law (refine step_append_lies _ rfl (.tmp 19) (.tmp 25) 22 rfl (w.heap.size + 2) 3 i0 (.int .i64 0) 1 8 Try.underlying22 HI.out.1 HI.out.2.1 HI.out.2.2.1 HI.out.2.2.2 rfl (by decide) _ _ _ rfl (owns_below HO.out (Below.refl _ _).drew) ⟨w.heap.size, 1 + i * 13, none⟩ n 13 (ints (rowL n i f)) rfl (by rw [ints_len, rowL_len]; omega) (HSRC.out _ HD.out.drew) (fun v hv => by simp only [ints, List.mem_map] at hv; obtain ⟨x, _, rfl⟩ := hv; rfl) (by omega) (by unfold maxLen; omega) (by omega) (by have := HZ.out.lt; simp; omega) _ rfl ?_; intro g' cap' w3 ho3 hg3 hat3 hlt3)
      all_goals
        have hlen : (mkR n (i + 1) f).length = L.length + n := by rw [HN.out, List.length_append, rowL_len]
        have O3 : Hid (OwnI w3 (w.heap.size + 2) (.slice (some ⟨g', 0, none⟩) (mkR n (i + 1) f).length cap') (mkR n (i + 1) f)) := mkHid (by
          unfold OwnI
          rw [hlen, HN.out, ints_append]
          exact ho3)
        have hof : ∀ b, b < w.heap.size + 2 → some b ≠ Value.ownBlock (.slice ao L.length cap) := fun b hb e => by have := HO.out.lt e.symm; omega
        have D3 := mkHid (HD.out.drew.grown hg3 (hof _ (by omega)))
        have Z3 := mkHid ((HZ.out.below (Below.refl _ _).drew).grown hg3 (hof _ (by omega)))
        have B3 := mkHid (HB.out.drew.grown hg3 HB.out.size (fun q hq => by have := HO.out.lt hq; omega))
        have HLEN := mkHid hlen
        clear ho3 hg3 hof hlen hat3 hlt3 d0
        go_wp2
        go_roundg g
        case measure => omega
        case rel => exact ⟨i + 1, some ⟨g', 0, none⟩, cap', by omega, by go_num, by rw [HLEN.out], O3.out, D3.out, Z3.out, B3.out⟩
set_option maxRecDepth 100000 in
set_option maxHeartbeats 800000 in
theorem facts_no (w : World) : Calls Try.prog 60 #[.agg (dA 0 zs)] w fun e w' => Gives w w' e 0 [] := by
  have D0 := mkHid ((Dif.new w (n := 0) zs_len 73).alloc (.cells #[.int .i64 0, .slice none 0 0] 27))
  have Z0 := mkHid (Fz.new (w.alloc (.cells (dA 0 zs) 73)))
  have B0 := mkHid (((Below.refl w.heap.size w).alloc (Nat.le_refl _) (.cells (dA 0 zs) 73)).alloc (by simp) (.cells #[.int .i64 0, .slice none 0 0] 27))
  obtain ⟨G, hG⟩ : ∃ G, zs = G := ⟨_, rfl⟩
  rw [hG] at D0 Z0 B0
  rw [hG]
  clear hG
  go_enter Try.func60, Try.ntmps60
  go_wp2_with (first | (refine wp_load64 D0.out rfl rfl rfl ?_))
  refine (isNone_any 0 G _).mono ?_
  rintro e w1 ⟨rfl, hb1⟩
  have Z1 : Hid (Fz w1 (w.heap.size + 1)) := mkHid (by have := Z0.out.below hb1; simpa using this)
  have B1 := mkHid (below_step B0.out hb1)
  have hn0 : decide ((0 : Int) = 0) = true := rfl
  rw [hn0]
  obtain ⟨⟨z0, z1⟩, z2, z3⟩ := Z1.out
  clear hb1 D0 Z0 B0
  go_wp2
  refine bodyPost_ret (v := .agg #[.int .i64 0, .slice none 0 0]) (by simp [results, Try.results60, go_sem, z0, z1]) rfl ⟨none, 0, rfl, OwnI.nil _ _, ?_⟩
  exact (B1.out.setCell (p := ⟨w.heap.size + 1, 0, none⟩) (Nat.le_succ _) _).setCell (p := ⟨w.heap.size + 1, 1, none⟩) (Nat.le_succ _) _
end Go.Proofs.Ytmaejdomlggopaa
