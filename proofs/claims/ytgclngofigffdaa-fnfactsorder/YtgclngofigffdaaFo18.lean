/-
  CONTRACT of the specification's FactsLeq.
  CONTRACT of the specification's FactsJoin.
-/
import Derived.Test.YtgclngofigffdaaFo17
import Derived.Test.YtgclngofigffdaaFo11
namespace Go.Proofs.Ytgclngofigffdaa
open Go.RowKit

set_option maxRecDepth 100000 in
set_option maxHeartbeats 3200000 in
theorem sLeq_any (z : Int) (l : List Int) (a : Option Addr) (c : Nat) (z' : Int) (l' : List Int) (a' : Option Addr) (c' : Nat) (w : World) (hl : IntsAt w a l) (hl' : IntsAt w a' l') : Calls Try.prog 34 #[.agg #[.int .i64 z, .slice a l.length c], .agg #[.int .i64 z', .slice a' l'.length c']] w fun e w' => e = .returned (.bool (leqF z l z' l')) ∧ Below w.heap.size w w' := by
  have HL := mkHid hl
  have HL' := mkHid hl'
  have B0 := mkHid (((Below.refl w.heap.size w).alloc (Nat.le_refl _) (.cells #[.int .i64 z, .slice a l.length c] 26)).alloc (by simp) (.cells #[.int .i64 z', .slice a' l'.length c'] 26))
  have T0 : Hid (Fc ((w.alloc (.cells #[.int .i64 z, .slice a l.length c] 26)).alloc (.cells #[.int .i64 z', .slice a' l'.length c'] 26)) w.heap.size z a l.length c) := mkHid ((Fc.new w z a l.length c 26).alloc _)
  have U0 : Hid (Fc ((w.alloc (.cells #[.int .i64 z, .slice a l.length c] 26)).alloc (.cells #[.int .i64 z', .slice a' l'.length c'] 26)) (w.heap.size + 1) z' a' l'.length c') := mkHid (by have := Fc.new (w.alloc (.cells #[.int .i64 z, .slice a l.length c] 26)) z' a' l'.length c' 26; simpa using this)
  have HCA : Hid (∀ v, IntsAt v a l → Calls Try.prog 17 #[.agg #[.int .i64 z, .slice a l.length c]] v fun e w' => Gives v w' e (outZ (cF z l) z.toNat) (outL (cF z l) z.toNat)) := mkHid fun v hv => sClose_any z l a c v hv
  obtain ⟨zx, hzx⟩ : ∃ x, outZ (cF z l) z.toNat = x := ⟨_, rfl⟩
  obtain ⟨lx, hlx⟩ : ∃ x, outL (cF z l) z.toNat = x := ⟨_, rfl⟩
  rw [hzx, hlx] at HCA
  have HZX := mkHid hzx
  have HLX := mkHid hlx
  have HFA := mkHid (cF_fine z l)
  have HN' : Hid (∀ v, Calls Try.prog 51 #[.agg #[.int .i64 z', .slice a' l'.length c']] v fun e w' => e = .returned (.bool (noF z' l')) ∧ Below v.heap.size v w') := mkHid fun v => by rw [← noN_eq]; exact sNoF_any z' a' l'.length c' v
  clear hl hl' hzx hlx
  go_enter Try.func34, Try.ntmps34
  go_wp2_with fail
  refine (sPair_any z l a c z' l' a' c' _ (HL.out.below B0.out) (HL'.out.below B0.out)).mono ?_
  rintro e w4 ⟨rfl, hb⟩
  have B4 := mkHid (below_step B0.out hb)
  have T4 := mkHid (T0.out.below hb)
  have U4 := mkHid (U0.out.below hb)
  clear hb B0 T0 U0
  cases hgo : goB z l z' l'
  · have e1 : Hid (leqF z l z' l' = false) := mkHid (leqF_no hgo)
    go_wp2
    go_ret
    exact ⟨ret_bool e1.out.symm, B4.out⟩
  · have HGO := mkHid hgo
    obtain ⟨t0, t1⟩ := T4.out
    clear hgo
    go_wp2_with fail
    refine (HCA.out _ (HL.out.below B4.out)).mono ?_
    rintro e w5 ⟨xa, xc, rfl, xo, hb5⟩
    obtain ⟨bx, hbx⟩ : ∃ b, w5.heap.size = b := ⟨_, rfl⟩
    have A5 := (Below.refl w5.heap.size w5).alloc (Nat.le_refl _) (.cells #[.int .i64 zx, .slice xa lx.length xc] 26)
    have X5 := mkHid (Fc.new w5 zx xa lx.length xc 26)
    rw [hbx] at X5
    have B5 := mkHid (below_step (below_step B4.out hb5) A5)
    have O5 := mkHid (xo.below A5)
    have U5 := mkHid ((U4.out.below hb5).below A5)
    clear hb5 A5 xo t0 t1 B4 T4 U4
    obtain ⟨x0, x1⟩ := X5.out
    go_wp2_with fail
    refine (sNoF_any zx xa lx.length xc _).mono ?_
    rintro e w7 ⟨rfl, hb7⟩
    have B7 := mkHid (below_step B5.out hb7)
    have O7 := mkHid (O5.out.below hb7)
    have X7 := mkHid (X5.out.below hb7)
    have U7 := mkHid (U5.out.below hb7)
    clear hb7 B5 O5 X5 U5 x0 x1 hbx
    cases hc1 : cF z l with
    | none =>
      have e1 : Hid (leqF z l z' l' = true) := mkHid (leqF_one HGO.out hc1)
      have hno : noN zx lx.length = true := by rw [← HZX.out, ← HLX.out, hc1]; rfl
      rw [hno]
      clear hno hc1
      go_wp2
      go_ret
      exact ⟨ret_bool e1.out.symm, B7.out⟩
    | some f =>
      obtain ⟨h1, h2, h3⟩ := HFA.out f hc1
      have hno : noN zx lx.length = false := by
        rw [← HZX.out, hc1]
        unfold noN
        rw [decide_eq_false (fun e => by have := e.1; simp [outZ] at this; omega)]
      rw [hno]
      have HC1 := mkHid hc1
      obtain ⟨u0, u1⟩ := U7.out
      clear hno hc1 h1 h2 h3
      go_wp2_with fail
      refine (HN'.out _).mono ?_
      rintro e w8 ⟨rfl, hb8⟩
      have B8 := mkHid (below_step B7.out hb8)
      have O8 := mkHid (O7.out.below hb8)
      have X8 := mkHid (X7.out.below hb8)
      have U8 := mkHid (U7.out.below hb8)
      clear hb8 B7 O7 X7 U7 u0 u1
      cases hn2 : noF z' l' with
      | true =>
        have e1 : Hid (leqF z l z' l' = false) := mkHid (leqF_none HGO.out HC1.out hn2)
        clear hn2
        go_wp2
        go_ret
        exact ⟨ret_bool e1.out.symm, B8.out⟩
      | false =>
        obtain ⟨hzz, hok2, n, hzn, q1, q2, q3⟩ := go_ok HGO.out HC1.out hn2
        have hto : z.toNat = n := by rw [hzn, Int.toNat_natCast]
        have e1 : Hid (leqF z l z' l' = leL n f l') := mkHid (by rw [leqF_both HGO.out HC1.out hn2, hto])
        have elx : lx = mk n f := by rw [← HLX.out, HC1.out, hto]; rfl
        have hll : lx.length = n * n := by rw [elx, mk_len]
        have hsq := sq_le q2
        have HLL : Hid (leL n f l' = (List.range (n * n)).all fun p => decide (lx.getD p 0 ≤ l'.getD p 0)) := mkHid (by rw [elx]; rfl)
        obtain ⟨q, hq⟩ : ∃ q, n * n = q := ⟨_, rfl⟩
        rw [hq] at hll q3 hsq HLL
        have HLQ := mkHid hll
        have HLQ' := mkHid q3
        rw [hll] at O8 X8
        rw [q3] at U8
        have XI := mkHid O8.out.at
        have YI := mkHid (HL'.out.below B8.out)
        clear hzz hok2 hzn q1 q2 q3 hto elx hll hq hn2 HC1
        go_wp2_with fail
        go_loopg [6] q (fun gh s wr => ∃ u : Nat, u + gh = q ∧ s = .int .i64 u ∧ Below w8.heap.size w8 wr ∧ ∀ p, p < u → lx.getD p 0 ≤ l'.getD p 0)
        case atStart => exact ⟨0, by omega, rfl, Below.refl _ _, fun p hp => by omega⟩
        case round =>
          obtain ⟨u, hug, rfl, hB, hle⟩ := hrel
          have HB := mkHid hB
          have HLE := mkHid hle
          clear hB hle
          obtain ⟨t0, t1⟩ := X8.out.below HB.out
          obtain ⟨u0, u1⟩ := U8.out.below HB.out
          have BR := mkHid (below_step B8.out HB.out)
          cases gk with
          | zero =>
            have hlt : ¬ ((u : Int) < (q : Int)) := by omega
            have e : u = q := by omega
            subst e
            have e2 : Hid (true = leqF z l z' l') := mkHid (by rw [e1.out, HLL.out]; exact (List.all_eq_true.2 fun p hp => decide_eq_true (HLE.out p (List.mem_range.1 hp))).symm)
            go_wp2
            go_ret
            exact ⟨ret_bool e2.out, BR.out⟩
          | succ gh =>
            have hlt : (u : Int) < (q : Int) := by omega
            obtain ⟨b, o, rfl, cx⟩ := IntsAt.get' (XI.out.below HB.out) (k := u) (by have := HLQ.out; omega)
            obtain ⟨b', o', rfl, cy⟩ := IntsAt.get' (YI.out.below HB.out) (k := u) (by have := HLQ'.out; omega)
            have huq : u < q := by omega
            by_cases hgt : lx.getD u 0 > l'.getD u 0
            · have e2 : Hid (false = leqF z l z' l') := mkHid (by
                rw [e1.out, HLL.out]
                cases hall : (List.range q).all fun p => decide (lx.getD p 0 ≤ l'.getD p 0)
                · rfl
                · have := of_decide_eq_true (List.all_eq_true.1 hall u (List.mem_range.2 huq))
                  omega)
              obtain ⟨x, hx⟩ : ∃ x, lx.getD u 0 = x := ⟨_, rfl⟩
              obtain ⟨y, hy⟩ : ∃ y, l'.getD u 0 = y := ⟨_, rfl⟩
              rw [hx] at cx hgt
              rw [hy] at cy hgt
              clear hx hy huq
              go_wp2_with fail
              go_region_held3 (fun v => v.cell? ⟨bx, 1, none⟩ = some (.slice (some ⟨b, o, none⟩) q xc) ∧ v.cell? ⟨w.heap.size + 1, 1, none⟩ = some (.slice (some ⟨b', o', none⟩) q c') ∧ v.cell? ⟨b, o + u, none⟩ = some (.int .i64 x) ∧ v.cell? ⟨b', o' + u, none⟩ = some (.int .i64 y))
                (first | exact ⟨t1, u1, cx, cy⟩)
                (fail)
              go_wp2
              go_ret
              exact ⟨ret_bool e2.out, BR.out.drew⟩
            · have hnext : Hid (∀ p, p < u + 1 → lx.getD p 0 ≤ l'.getD p 0) := mkHid fun p hp => by
                by_cases e : p = u
                · subst e; omega
                · exact HLE.out p (by omega)
              obtain ⟨x, hx⟩ : ∃ x, lx.getD u 0 = x := ⟨_, rfl⟩
              obtain ⟨y, hy⟩ : ∃ y, l'.getD u 0 = y := ⟨_, rfl⟩
              rw [hx] at cx hgt
              rw [hy] at cy hgt
              have BN := mkHid HB.out.drew
              clear hx hy huq
              go_wp2_with fail
              go_region_held3 (fun v => v.cell? ⟨bx, 1, none⟩ = some (.slice (some ⟨b, o, none⟩) q xc) ∧ v.cell? ⟨w.heap.size + 1, 1, none⟩ = some (.slice (some ⟨b', o', none⟩) q c') ∧ v.cell? ⟨b, o + u, none⟩ = some (.int .i64 x) ∧ v.cell? ⟨b', o' + u, none⟩ = some (.int .i64 y))
                (first | exact ⟨t1, u1, cx, cy⟩)
                (fail)
              clear t0 t1 u0 u1 cx cy
              go_wp2
              go_roundg gh
              case measure => omega
              case rel => exact ⟨u + 1, by omega, by go_num, BN.out, hnext.out⟩
end Go.Proofs.Ytgclngofigffdaa
namespace Go.Proofs.Ytgclngofigffdaa
open Go.RowKit

/-- The first u numbers of both, the greater of each two. -/
def maxL (l l' : List Int) (u : Nat) : List Int := (List.range u).map fun p => max (l.getD p 0) (l'.getD p 0)
theorem maxL_len (l l' : List Int) (u : Nat) : (maxL l l' u).length = u := by simp [maxL]
theorem maxL_next (l l' : List Int) (u : Nat) : maxL l l' (u + 1) = maxL l l' u ++ [max (l.getD u 0) (l'.getD u 0)] := by
  unfold maxL
  rw [List.range_succ, List.map_append]; rfl
theorem maxL_all {n : Nat} (f g : Tab) : maxL (mk n f) (mk n g) (n * n) = mk n (fun a b => max (f a b) (g a b)) := by
  refine mk_of (maxL_len _ _ _) (fun a b ha hb => ?_)
  rw [List.getD_eq_getElem?_getD]
  simp only [maxL, List.getElem?_map]
  rw [List.getElem?_range (idx_lt ha hb)]
  show max ((mk n f).getD _ 0) ((mk n g).getD _ 0) = _
  rw [mk_V n f a b ha hb, mk_V n g a b ha hb]
theorem fine_max {n : Nat} {f g : Tab} (hf : Fine n f) (hg : Fine n g) : Fine n (fun a b => max (f a b) (g a b)) := fun i j hi hj => by
  have q1 := hf i j hi hj
  have q2 := hg i j hi hj
  refine ⟨?_, ?_, fun e => ?_⟩
  · show _ ≤ max (f i j) (g i j); omega
  · show max (f i j) (g i j) ≤ _; omega
  · show max (f i j) (g i j) = 0
    have := q1.2.2 e
    have := q2.2.2 e
    omega
/-- The greater of two closed tables is closed: closing it gives it back. -/
theorem join_close (n : Nat) (f g : Tab) (h1 : 1 ≤ n) (h2 : n ≤ 13) (hf : Closed n f) (hg : Closed n g) (ff : Fine n f) (fg : Fine n g) (a : Option Addr) (c : Nat) (w : World) (hA : IntsAt w a (mk n (fun a b => max (f a b) (g a b)))) : Calls Try.prog 53 #[.int .i64 n, .slice a (mk n (fun a b => max (f a b) (g a b))).length c] w fun e w' => Gives w w' e n (mk n (fun a b => max (f a b) (g a b))) := by
  have h := sCloseD n (fun a b => max (f a b) (g a b)) h1 h2 (fine_max ff fg).bd a c w hA
  have hc := closed_clo (closed_max hf hg)
  have e : cloO n (fun a b => max (f a b) (g a b)) = some (clo n (fun a b => max (f a b) (g a b))) := by unfold cloO; rw [if_pos hc.1]
  rw [e] at h
  refine h.mono fun e w' hh => ?_
  have e2 : outL (some (clo n (fun a b => max (f a b) (g a b)))) n = mk n (fun a b => max (f a b) (g a b)) := mk_congr (fun i j hi hj => hc.2 i j hi hj)
  rw [e2] at hh
  exact hh
set_option maxRecDepth 100000 in
set_option maxHeartbeats 3200000 in
theorem sJoin_any (z : Int) (l : List Int) (a : Option Addr) (c : Nat) (z' : Int) (l' : List Int) (a' : Option Addr) (c' : Nat) (w : World) (hl : IntsAt w a l) (hl' : IntsAt w a' l') : Calls Try.prog 14 #[.agg #[.int .i64 z, .slice a l.length c], .agg #[.int .i64 z', .slice a' l'.length c']] w fun e w' => Gives w w' e (joinR z l z' l').1 (joinR z l z' l').2 := by
  have HL := mkHid hl
  have HL' := mkHid hl'
  have B0 := mkHid ((((Below.refl w.heap.size w).alloc (Nat.le_refl _) (.cells #[.int .i64 z, .slice a l.length c] 26)).alloc (by simp) (.cells #[.int .i64 z', .slice a' l'.length c'] 26)).alloc (by simp; omega) (.cells #[.int .i64 0, .slice none 0 0] 26))
  have T0 : Hid (Fc (((w.alloc (.cells #[.int .i64 z, .slice a l.length c] 26)).alloc (.cells #[.int .i64 z', .slice a' l'.length c'] 26)).alloc (.cells #[.int .i64 0, .slice none 0 0] 26)) w.heap.size z a l.length c) := mkHid (((Fc.new w z a l.length c 26).alloc _).alloc _)
  have U0 : Hid (Fc (((w.alloc (.cells #[.int .i64 z, .slice a l.length c] 26)).alloc (.cells #[.int .i64 z', .slice a' l'.length c'] 26)).alloc (.cells #[.int .i64 0, .slice none 0 0] 26)) (w.heap.size + 1) z' a' l'.length c') := mkHid (by have := (Fc.new (w.alloc (.cells #[.int .i64 z, .slice a l.length c] 26)) z' a' l'.length c' 26).alloc (.cells #[.int .i64 0, .slice none 0 0] 26); simpa using this)
  have Z0 : Hid (Fz (((w.alloc (.cells #[.int .i64 z, .slice a l.length c] 26)).alloc (.cells #[.int .i64 z', .slice a' l'.length c'] 26)).alloc (.cells #[.int .i64 0, .slice none 0 0] 26)) (w.heap.size + 2)) := mkHid (by have := Fz.new ((w.alloc (.cells #[.int .i64 z, .slice a l.length c] 26)).alloc (.cells #[.int .i64 z', .slice a' l'.length c'] 26)); simpa using this)
  have HCA : Hid (∀ v, IntsAt v a l → Calls Try.prog 17 #[.agg #[.int .i64 z, .slice a l.length c]] v fun e w' => Gives v w' e (outZ (cF z l) z.toNat) (outL (cF z l) z.toNat)) := mkHid fun v hv => sClose_any z l a c v hv
  have HCB : Hid (∀ v, IntsAt v a' l' → Calls Try.prog 17 #[.agg #[.int .i64 z', .slice a' l'.length c']] v fun e w' => Gives v w' e (outZ (cF z' l') z'.toNat) (outL (cF z' l') z'.toNat)) := mkHid fun v hv => sClose_any z' l' a' c' v hv
  obtain ⟨zx, hzx⟩ : ∃ x, outZ (cF z l) z.toNat = x := ⟨_, rfl⟩
  obtain ⟨lx, hlx⟩ : ∃ x, outL (cF z l) z.toNat = x := ⟨_, rfl⟩
  obtain ⟨zy, hzy⟩ : ∃ x, outZ (cF z' l') z'.toNat = x := ⟨_, rfl⟩
  obtain ⟨ly, hly⟩ : ∃ x, outL (cF z' l') z'.toNat = x := ⟨_, rfl⟩
  rw [hzx, hlx] at HCA
  rw [hzy, hly] at HCB
  have HZX := mkHid hzx
  have HLX := mkHid hlx
  have HZY := mkHid hzy
  have HLY := mkHid hly
  have HFA := mkHid (cF_fine z l)
  have HFB := mkHid (cF_fine z' l')
  clear hl hl' hzx hlx hzy hly
  go_enter Try.func14, Try.ntmps14
  go_wp2_with fail
  refine (sPair_any z l a c z' l' a' c' _ (HL.out.below B0.out) (HL'.out.below B0.out)).mono ?_
  rintro e w4 ⟨rfl, hb⟩
  have B4 := mkHid (below_step B0.out hb)
  have T4 := mkHid (T0.out.below hb)
  have U4 := mkHid (U0.out.below hb)
  have Z4 := mkHid (Z0.out.below hb)
  clear hb B0 T0 U0 Z0
  cases hgo : goB z l z' l'
  · have e1 : Hid (joinR z l z' l' = (0, [])) := mkHid (joinR_no hgo)
    obtain ⟨⟨z0, z1⟩, z2, z3⟩ := Z4.out
    go_wp2
    refine bodyPost_ret (v := .agg #[.int .i64 0, .slice none 0 0]) (by simp [results, Try.results14, go_sem, z0, z1]) rfl ?_
    rw [e1.out]
    exact ⟨none, 0, rfl, OwnI.nil _ _, none_shut B4.out (by omega) _ _⟩
  · have HGO := mkHid hgo
    have B4k := mkHid B4.out
    obtain ⟨t0, t1⟩ := T4.out
    have s4 := Z4.out.lt
    clear hgo
    go_wp2_with fail
    refine (HCA.out _ (HL.out.below B4.out)).mono ?_
    rintro e w5 ⟨xa, xc, rfl, xo, hb5⟩
    obtain ⟨bx, hbx⟩ : ∃ b, w5.heap.size = b := ⟨_, rfl⟩
    have A5 := (Below.refl w5.heap.size w5).alloc (Nat.le_refl _) (.cells #[.int .i64 zx, .slice xa lx.length xc] 26)
    have X5 := mkHid (Fc.new w5 zx xa lx.length xc 26)
    rw [hbx] at X5
    have B5 := mkHid (below_step (below_step B4.out hb5) A5)
    have C5 := mkHid (below_step hb5 A5)
    have O5 := mkHid (xo.below A5)
    have T5 := mkHid ((T4.out.below hb5).below A5)
    have U5 := mkHid ((U4.out.below hb5).below A5)
    have Z5 := mkHid ((Z4.out.below hb5).below A5)
    have hx5 : w.heap.size + 2 < bx := by have := hb5.size; omega
    clear hb5 A5 xo t0 t1 B4 T4 U4
    obtain ⟨u0, u1⟩ := U5.out
    have s5 := X5.out.lt
    go_wp2_with fail
    refine (HCB.out _ (HL'.out.below B5.out)).mono ?_
    rintro e w6 ⟨ya, yc, rfl, yo, hb6⟩
    obtain ⟨by1, hby⟩ : ∃ b, w6.heap.size = b := ⟨_, rfl⟩
    have A6 := (Below.refl w6.heap.size w6).alloc (Nat.le_refl _) (.cells #[.int .i64 zy, .slice ya ly.length yc] 26)
    have Y6 := mkHid (Fc.new w6 zy ya ly.length yc 26)
    rw [hby] at Y6
    have B6 := mkHid (below_step (below_step B5.out hb6) A6)
    have C6 := mkHid (below_step (below_step C5.out hb6) A6)
    have E6 := mkHid (below_step hb6 A6)
    have O6 := mkHid ((O5.out.below hb6).below A6)
    have P6 := mkHid (yo.below A6)
    have X6 := mkHid ((X5.out.below hb6).below A6)
    have T6 := mkHid ((T5.out.below hb6).below A6)
    have Z6 := mkHid ((Z5.out.below hb6).below A6)
    have hy6 : bx < by1 := by have := hb6.size; omega
    clear hb6 A6 yo u0 u1
    obtain ⟨x0, x1⟩ := X6.out
    go_wp2_with fail
    refine (sNoF_any zx xa lx.length xc _).mono ?_
    rintro e w7 ⟨rfl, hb7⟩
    have B7 := mkHid (below_step B6.out hb7)
    have C7 := mkHid (below_step C6.out hb7)
    have E7 := mkHid (below_step E6.out hb7)
    have O7 := mkHid (O6.out.below hb7)
    have P7 := mkHid (P6.out.below hb7)
    have X7 := mkHid (X6.out.below hb7)
    have Y7 := mkHid (Y6.out.below hb7)
    have T7 := mkHid (T6.out.below hb7)
    have Z7 := mkHid (Z6.out.below hb7)
    clear hb7 B6 C6 E6 O6 P6 X6 Y6 T6 Z6 x0 x1 hbx hby
    cases hc1 : cF z l with
    | none =>
      have e1 : Hid (joinR z l z' l' = (zy, ly)) := mkHid (by rw [joinR_one HGO.out hc1, HZY.out, HLY.out])
      have hno : noN zx lx.length = true := by rw [← HZX.out, ← HLX.out, hc1]; rfl
      rw [hno]
      obtain ⟨y0, y1⟩ := Y7.out
      obtain ⟨⟨z0, z1⟩, z2, z3⟩ := Z7.out
      have HE := mkHid (fun v0 v1 => Gives.shut (b := w.heap.size + 2) B5.out (by omega) Z5.out.lt P7.out E7.out v0 v1)
      clear hno hc1
      go_wp2
      refine bodyPost_ret (v := .agg #[.int .i64 zy, .slice ya ly.length yc]) (by simp [results, Try.results14, go_sem, z0, z1]) rfl ?_
      rw [e1.out]
      exact ⟨ya, yc, rfl, (HE.out _ _).1, (HE.out _ _).2⟩
    | some f =>
      obtain ⟨h1, h2, h3⟩ := HFA.out f hc1
      have hno : noN zx lx.length = false := by
        rw [← HZX.out, hc1]
        unfold noN
        rw [decide_eq_false (fun e => by have := e.1; simp [outZ] at this; omega)]
      rw [hno]
      obtain ⟨y0, y1⟩ := Y7.out
      have HC1 := mkHid hc1
      have H123 := mkHid (show 1 ≤ z.toNat ∧ z.toNat ≤ 13 ∧ Fine z.toNat f from ⟨h1, h2, h3⟩)
      clear hno hc1 h1 h2 h3
      go_wp2_with fail
      refine (sNoF_any zy ya ly.length yc _).mono ?_
      rintro e w8 ⟨rfl, hb8⟩
      have B8 := mkHid (below_step B7.out hb8)
      have C8 := mkHid (below_step C7.out hb8)
      have O8 := mkHid (O7.out.below hb8)
      have P8 := mkHid (P7.out.below hb8)
      have X8 := mkHid (X7.out.below hb8)
      have Y8 := mkHid (Y7.out.below hb8)
      have T8 := mkHid (T7.out.below hb8)
      have Z8 := mkHid (Z7.out.below hb8)
      clear hb8 B7 C7 E7 O7 P7 X7 Y7 T7 Z7 y0 y1 B5 Z5
      cases hc2 : cF z' l' with
      | none =>
        have e1 : Hid (joinR z l z' l' = (zx, lx)) := mkHid (by rw [joinR_other HGO.out HC1.out hc2, ← HZX.out, ← HLX.out, HC1.out]; rfl)
        have hno : noN zy ly.length = true := by rw [← HZY.out, ← HLY.out, hc2]; rfl
        rw [hno]
        obtain ⟨x0, x1⟩ := X8.out
        obtain ⟨⟨z0, z1⟩, z2, z3⟩ := Z8.out
        have HE := mkHid (fun v0 v1 => Gives.shut (b := w.heap.size + 2) B4k.out (by omega) Z4.out.lt O8.out C8.out v0 v1)
        clear hno hc2
        go_wp2
        refine bodyPost_ret (v := .agg #[.int .i64 zx, .slice xa lx.length xc]) (by simp [results, Try.results14, go_sem, z0, z1]) rfl ?_
        rw [e1.out]
        exact ⟨xa, xc, rfl, (HE.out _ _).1, (HE.out _ _).2⟩
      | some g =>
        obtain ⟨k1, k2, k3⟩ := HFB.out g hc2
        have hno : noN zy ly.length = false := by
          rw [← HZY.out, hc2]
          unfold noN
          rw [decide_eq_false (fun e => by have := e.1; simp [outZ] at this; omega)]
        rw [hno]
        obtain ⟨hzz, n, hzn, h1, h2⟩ := go_same HGO.out HC1.out hc2
        subst hzz
        subst hzn
        have hto : ((n : Int)).toNat = n := Int.toNat_natCast n
        have ff := H123.out.2.2
        have cf := cF_closed HC1.out
        have cg := cF_closed hc2
        rw [hto] at ff cf cg k3
        have elx : lx = mk n f := by rw [← HLX.out, HC1.out, hto]; rfl
        have ely : ly = mk n g := by rw [← HLY.out, hc2, hto]; rfl
        have ezx : zx = n := by rw [← HZX.out, HC1.out, hto]; rfl
        have ezy : zy = n := by rw [← HZY.out, hc2, hto]; rfl
        subst ezx
        have e1 : Hid (joinR n l n l' = ((n : Int), mk n (fun a b => max (f a b) (g a b)))) := mkHid (by rw [joinR_both HGO.out HC1.out hc2, hto])
        have hll : lx.length = n * n := by rw [elx, mk_len]
        have hll' : ly.length = n * n := by rw [ely, mk_len]
        have hsq := sq_le h2
        have hsp := sq_pos h1
        have HALL : Hid (maxL lx ly (n * n) = mk n (fun a b => max (f a b) (g a b))) := mkHid (by rw [elx, ely]; exact maxL_all f g)
        have HCL : Hid (∀ (a : Option Addr) (c1 : Nat) (v : World), IntsAt v a (mk n (fun a b => max (f a b) (g a b))) → Calls Try.prog 53 #[.int .i64 n, .slice a (mk n (fun a b => max (f a b) (g a b))).length c1] v fun e w' => Gives v w' e n (mk n (fun a b => max (f a b) (g a b)))) := mkHid fun a c1 v hv => join_close n f g h1 h2 cf cg ff k3 a c1 v hv
        obtain ⟨RL, hRL⟩ : ∃ RL, mk n (fun a b => max (f a b) (g a b)) = RL := ⟨_, rfl⟩
        rw [hRL] at e1 HALL HCL
        obtain ⟨q, hq⟩ : ∃ q, n * n = q := ⟨_, rfl⟩
        rw [hq] at hll hll' hsq hsp HALL
        have HRQ : Hid (RL.length = q) := mkHid (by rw [← HALL.out, maxL_len])
        rw [← HALL.out] at HCL
        rw [maxL_len] at HCL
        have HLQ := mkHid hll
        have HLQ' := mkHid hll'
        rw [hll] at O8 X8
        rw [hll'] at P8 Y8
        obtain ⟨i0, hi, hzz'⟩ := Option.map_eq_some_iff.1 Try.info3
        simp only [Prod.mk.injEq] at hzz'
        obtain ⟨hz0, hz1, hz2⟩ := hzz'
        have HI := mkHid (show Try.prog.info? 3 = some i0 ∧ i0.zero = some (.int .i64 0) ∧ i0.size = 1 ∧ i0.bytes = 8 from ⟨hi, hz0, hz1, hz2⟩)
        have HNX : Hid (∀ u, maxL lx ly (u + 1) = maxL lx ly u ++ [max (lx.getD u 0) (ly.getD u 0)]) := mkHid fun u => maxL_next lx ly u
        have HML : Hid (∀ u, (maxL lx ly u).length = u) := mkHid fun u => maxL_len lx ly u
        have HM0 : Hid (maxL lx ly 0 = []) := mkHid rfl
        obtain ⟨M, hM⟩ : ∃ M, maxL lx ly = M := ⟨_, rfl⟩
        rw [hM] at HCL HNX HML HM0 HALL
        have XI := mkHid O8.out.at
        have YI := mkHid P8.out.at
        have E8 : Hid (OwnI (w8.alloc (.cells #[] 3)) w8.heap.size (.slice (some ⟨w8.heap.size, 0, none⟩) 0 0) []) := mkHid (OwnI.fresh (Nat.le_refl _) (heap_alloc_last w8 (.cells #[] 3)))
        have F8 := mkHid ((Below.refl w8.heap.size w8).alloc (Nat.le_refl _) (.cells #[] 3))
        obtain ⟨w9, hw9⟩ : ∃ w9, w8.alloc (.cells #[] 3) = w9 := ⟨_, rfl⟩
        have HW9 := mkHid hw9
        rw [hw9] at E8 F8
        have lbx := X8.out.lt
        have lby := Y8.out.lt
        have lbz := Z8.out.lt
        have lbt := T8.out.lt
        subst ezy
        clear hi hz0 hz1 hz2 hll hll' hq hM hw9 hno hc2 HC1 elx ely ff cf cg k1 k2 k3 hRL H123 h1 h2 O8 P8 hto
        go_wp2_with fail
        rw [HW9.out]
        go_loopg [7, 8] q (fun gh s7 s wr => ∃ (u : Nat) (ao : Option Addr) (cap : Nat), u + gh = q ∧ s = .int .i64 u ∧ s7 = .slice ao u cap ∧ OwnI wr w8.heap.size (.slice ao u cap) (M u) ∧ Below w8.heap.size w8 wr)
        case atStart => exact ⟨0, some ⟨w8.heap.size, 0, none⟩, 0, by omega, rfl, rfl, by rw [HM0.out]; exact E8.out, F8.out⟩
        case round =>
          obtain ⟨u, ao, cap, hug, rfl, rfl, hO, hB⟩ := hrel
          have HO := mkHid hO
          have HB := mkHid hB
          clear hO hB E8 F8
          obtain ⟨t0, t1⟩ := X8.out.below HB.out
          obtain ⟨u0, u1⟩ := Y8.out.below HB.out
          obtain ⟨a0, a1⟩ := T8.out.below HB.out
          cases gk with
          | zero =>
            have hlt : ¬ ((u : Int) < (q : Int)) := by omega
            have e : u = q := by omega
            subst e
            have HC2 := mkHid (HCL.out ao cap wr HO.out.at)
            have BR := mkHid (below_step B8.out HB.out)
            have ZR := mkHid (Z8.out.below HB.out)
            go_wp2_with fail
            refine HC2.out.mono ?_
            rintro e wz ⟨ao', cap', rfl, ho, hbz⟩
            obtain ⟨⟨z0, z1⟩, z2, z3⟩ := ZR.out.below hbz
            have HE := mkHid (fun v0 v1 => Gives.shut (b := w.heap.size + 2) BR.out (by omega) ZR.out.lt ho hbz v0 v1)
            clear hbz ho t0 t1 u0 u1 a0 a1
            go_wp2
            refine bodyPost_ret (v := .agg #[.int .i64 n, .slice ao' (M u).length cap']) (by simp [results, Try.results14, go_sem, z0, z1]) rfl ?_
            rw [e1.out, ← HALL.out]
            exact ⟨ao', cap', rfl, (HE.out _ _).1, (HE.out _ _).2⟩
          | succ gh =>
            have hlt : (u : Int) < (q : Int) := by omega
            obtain ⟨b, o, rfl, cx⟩ := IntsAt.get' (XI.out.below HB.out) (k := u) (by have := HLQ.out; omega)
            obtain ⟨b', o', rfl, cy⟩ := IntsAt.get' (YI.out.below HB.out) (k := u) (by have := HLQ'.out; omega)
            have HX := mkHid (HNX.out u)
            obtain ⟨x, hx⟩ : ∃ x, lx.getD u 0 = x := ⟨_, rfl⟩
            obtain ⟨y, hy⟩ : ∃ y, ly.getD u 0 = y := ⟨_, rfl⟩
            rw [hx] at cx HX
            rw [hy] at cy HX
            have hbw : b < w8.heap.size := by
              obtain ⟨_, _, e, cw⟩ := IntsAt.get' XI.out (k := u) (by have := HLQ.out; omega)
              cases e
              exact World.block_lt_of_cell? w8 _ cw
            have hbw' : b' < w8.heap.size := by
              obtain ⟨_, _, e, cw⟩ := IntsAt.get' YI.out (k := u) (by have := HLQ'.out; omega)
              cases e
              exact World.block_lt_of_cell? w8 _ cw
            have sz := HB.out.size
            have HS : Hid (∀ v, Below w8.heap.size wr v → v.cell? ⟨bx, 1, none⟩ = some (.slice (some ⟨b, o, none⟩) q xc) ∧ v.cell? ⟨by1, 1, none⟩ = some (.slice (some ⟨b', o', none⟩) q yc) ∧ v.cell? ⟨b, o + u, none⟩ = some (.int .i64 x) ∧ v.cell? ⟨b', o' + u, none⟩ = some (.int .i64 y)) := mkHid fun v hv =>
              ⟨(hv.cell (p := ⟨bx, 1, none⟩) (by show bx < _; omega)).trans t1, (hv.cell (p := ⟨by1, 1, none⟩) (by show by1 < _; omega)).trans u1, (hv.cell (p := ⟨b, o + u, none⟩) (by show b < _; omega)).trans cx, (hv.cell (p := ⟨b', o' + u, none⟩) (by show b' < _; omega)).trans cy⟩
            clear hx hy
            go_wp2_with fail
            go_region_held3 (fun v => v.cell? ⟨bx, 1, none⟩ = some (.slice (some ⟨b, o, none⟩) q xc) ∧ v.cell? ⟨by1, 1, none⟩ = some (.slice (some ⟨b', o', none⟩) q yc) ∧ v.cell? ⟨b, o + u, none⟩ = some (.int .i64 x) ∧ v.cell? ⟨b', o' + u, none⟩ = some (.int .i64 y))
              (first | exact HS.out _ (Below.refl _ _).drew | exact HS.out _ (Below.refl _ _) | exact HS.out _ ((Below.refl _ _).drew.alloc (by show w8.heap.size ≤ wr.heap.size; omega) _) | exact HS.out _ hB4)
              (first | (go_at_call 52; refine (sMax_any _ _ _).mono ?_; rintro e w' ⟨rfl, rfl⟩) | (refine step_append_lies _ (by rfl) _ _ _ (by rfl) w8.heap.size 3 i0 (.int .i64 0) 1 8 Try.underlying24 HI.out.1 HI.out.2.1 HI.out.2.2.1 HI.out.2.2.2 rfl (by decide) (.slice ao u cap) u (ints (M u)) (by rfl) (World.ownsRow.alloc (by have := (HO.out.below (Below.refl _ _).drew); unfold OwnI at this; rwa [HML.out] at this) (.cells #[.int .i64 (max x y)] 3)) ⟨wr.heap.size, 0, none⟩ 1 1 [.int .i64 (max x y)] (by rfl) (by rfl) (World.news_of_block (heap_alloc_last wr.drew _)) (fun u hu => by simp at hu; rcases hu with rfl; rfl) (by decide) (by unfold maxLen; omega) (by omega) (by simp; omega) (wr.heap.size + 1) (by simp) ?_; intro g' cap' w4' hown hgrow hat hlt4; have hB4 : Below w8.heap.size wr w4' := ((Below.refl _ _).drew.alloc (by show w8.heap.size ≤ wr.heap.size; omega) _).grown hgrow (by simp; omega) (fun q' hq' => by have := HO.out.lt hq'; omega)))
            all_goals
              have O4 : Hid (OwnI w4' w8.heap.size (.slice (some ⟨g', 0, none⟩) (u + 1) cap') (M (u + 1))) := mkHid (by
                unfold OwnI
                rw [HML.out, HX.out, ← ints_snoc]
                exact hown)
              have BQ := mkHid (HB.out.trans hB4)
              clear hown hgrow hat hlt4 hB4 cx cy t0 t1 u0 u1 a0 a1
              go_wp2
              go_roundg gh
              case measure => omega
              case rel => exact ⟨u + 1, some ⟨g', 0, none⟩, cap', by omega, by go_num, rfl, O4.out, BQ.out⟩
end Go.Proofs.Ytgclngofigffdaa
