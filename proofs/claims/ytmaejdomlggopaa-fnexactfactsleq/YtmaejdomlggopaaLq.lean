/-
  CONTRACT of the specification's FactsLeq.
-/
import Derived.Test.YtmaejdomlggopaaLi
namespace Go.Proofs.Ytmaejdomlggopaa
open Go.RowKit

set_option maxRecDepth 100000 in
set_option maxHeartbeats 3200000 in
theorem sLeq_any (z : Int) (l : List Int) (a : Option Addr) (c : Nat) (z' : Int) (l' : List Int) (a' : Option Addr) (c' : Nat) (w : World) (hl : IntsAt w a l) (hl' : IntsAt w a' l') : Calls Try.prog 14 #[.agg #[.int .i64 z, .slice a l.length c], .agg #[.int .i64 z', .slice a' l'.length c']] w fun e w' => e = .returned (.bool (leqF z l z' l')) ∧ Below w.heap.size w w' := by
  have HL := mkHid hl
  have HL' := mkHid hl'
  have B0 := mkHid (((Below.refl w.heap.size w).alloc (Nat.le_refl _) (.cells #[.int .i64 z, .slice a l.length c] 27)).alloc (by simp) (.cells #[.int .i64 z', .slice a' l'.length c'] 27))
  have T0 : Hid (Fc ((w.alloc (.cells #[.int .i64 z, .slice a l.length c] 27)).alloc (.cells #[.int .i64 z', .slice a' l'.length c'] 27)) w.heap.size z a l.length c) := mkHid ((Fc.new w z a l.length c 27).alloc _)
  have U0 : Hid (Fc ((w.alloc (.cells #[.int .i64 z, .slice a l.length c] 27)).alloc (.cells #[.int .i64 z', .slice a' l'.length c'] 27)) (w.heap.size + 1) z' a' l'.length c') := mkHid (by have := Fc.new (w.alloc (.cells #[.int .i64 z, .slice a l.length c] 27)) z' a' l'.length c' 27; simpa using this)
  have HCA : Hid (∀ v, IntsAt v a l → Calls Try.prog 51 #[.agg #[.int .i64 z, .slice a l.length c]] v fun e w' => Gives v w' e (outZ (cF z l) z.toNat) (outL (cF z l) z.toNat)) := mkHid fun v hv => sClose_any z l a c v hv
  obtain ⟨zx, hzx⟩ : ∃ x, outZ (cF z l) z.toNat = x := ⟨_, rfl⟩
  obtain ⟨lx, hlx⟩ : ∃ x, outL (cF z l) z.toNat = x := ⟨_, rfl⟩
  rw [hzx, hlx] at HCA
  have HZX := mkHid hzx
  have HLX := mkHid hlx
  have HFA := mkHid (cF_fine z l)
  have HN' : Hid (∀ v, Calls Try.prog 52 #[.agg #[.int .i64 z', .slice a' l'.length c']] v fun e w' => e = .returned (.bool (noF z' l')) ∧ Below v.heap.size v w') := mkHid fun v => by rw [← noN_eq]; exact sNoF_any z' a' l'.length c' v
  clear hl hl' hzx hlx
  go_enter Try.func14, Try.ntmps14
  go_wp2_with fail
  refine (sPair_any z l a c z' l' a' c' _ (HL.out.below B0.out) (HL'.out.below B0.out)).mono ?_
  rintro e w4 ⟨rfl, hb⟩
  have B4 := mkHid (below_step B0.out hb)
  have T4 := mkHid (T0.out.below hb)
  have U4 := mkHid (U0.out.below hb)
  clear hb B0 T0 U0
  cases hgo : goB z l z' l'
  · have e1 : Hid (leqF z l z' l' = false) := mkHid (leqF_no hgo)
    go_wp2
    go_ret
    exact ⟨ret_bool e1.out.symm, B4.out⟩
  · have HGO := mkHid hgo
    obtain ⟨t0, t1⟩ := T4.out
    clear hgo
    go_wp2_with fail
    refine (HCA.out _ (HL.out.below B4.out)).mono ?_
    rintro e w5 ⟨xa, xc, rfl, xo, hb5⟩
    obtain ⟨bx, hbx⟩ : ∃ b, w5.heap.size = b := ⟨_, rfl⟩
    have A5 := (Below.refl w5.heap.size w5).alloc (Nat.le_refl _) (.cells #[.int .i64 zx, .slice xa lx.length xc] 27)
    have X5 := mkHid (Fc.new w5 zx xa lx.length xc 27)
    rw [hbx] at X5
    have B5 := mkHid (below_step (below_step B4.out hb5) A5)
    have O5 := mkHid (xo.below A5)
    have U5 := mkHid ((U4.out.below hb5).below A5)
    clear hb5 A5 xo t0 t1 B4 T4 U4
    obtain ⟨x0, x1⟩ := X5.out
    go_wp2_with fail
    refine (sNoF_any zx xa lx.length xc _).mono ?_
    rintro e w7 ⟨rfl, hb7⟩
    have B7 := mkHid (below_step B5.out hb7)
    have O7 := mkHid (O5.out.below hb7)
    have X7 := mkHid (X5.out.below hb7)
    have U7 := mkHid (U5.out.below hb7)
    clear hb7 B5 O5 X5 U5 x0 x1 hbx
    cases hc1 : cF z l with
    | none =>
      have e1 : Hid (leqF z l z' l' = true) := mkHid (leqF_one HGO.out hc1)
      have hno : noN zx lx.length = true := by rw [← HZX.out, ← HLX.out, hc1]; rfl
      rw [hno]
      clear hno hc1
      go_wp2
      go_ret
      exact ⟨ret_bool e1.out.symm, B7.out⟩
    | some f =>
      obtain ⟨h1, h2, h3⟩ := HFA.out f hc1
      have hno : noN zx lx.length = false := by
        rw [← HZX.out, hc1]
        unfold noN
        rw [decide_eq_false (fun e => by have := e.1; simp [outZ] at this; omega)]
      rw [hno]
      have HC1 := mkHid hc1
      obtain ⟨u0, u1⟩ := U7.out
      clear hno hc1 h1 h2 h3
      go_wp2_with fail
      refine (HN'.out _).mono ?_
      rintro e w8 ⟨rfl, hb8⟩
      have B8 := mkHid (below_step B7.out hb8)
      have O8 := mkHid (O7.out.below hb8)
      have X8 := mkHid (X7.out.below hb8)
      have U8 := mkHid (U7.out.below hb8)
      clear hb8 B7 O7 X7 U7 u0 u1
      cases hn2 : noF z' l' with
      | true =>
        have e1 : Hid (leqF z l z' l' = false) := mkHid (leqF_none HGO.out HC1.out hn2)
        clear hn2
        go_wp2
        go_ret
        exact ⟨ret_bool e1.out.symm, B8.out⟩
      | false =>
        obtain ⟨hzz, hok2, n, hzn, q1, q2, q3⟩ := go_ok HGO.out HC1.out hn2
        have hto : z.toNat = n := by rw [hzn, Int.toNat_natCast]
        have e1 : Hid (leqF z l z' l' = leL n f l') := mkHid (by rw [leqF_both HGO.out HC1.out hn2, hto])
        have elx : lx = mk n f := by rw [← HLX.out, HC1.out, hto]; rfl
        have hll : lx.length = n * n := by rw [elx, mk_len]
        have hsq := sq_le q2
        have HLL : Hid (leL n f l' = (List.range (n * n)).all fun p => decide (lx.getD p 0 ≤ l'.getD p 0)) := mkHid (by rw [elx]; rfl)
        obtain ⟨q, hq⟩ : ∃ q, n * n = q := ⟨_, rfl⟩
        rw [hq] at hll q3 hsq HLL
        have HLQ := mkHid hll
        have HLQ' := mkHid q3
        rw [hll] at O8 X8
        rw [q3] at U8
        have XI := mkHid O8.out.at
        have YI := mkHid (HL'.out.below B8.out)
        clear hzz hok2 hzn q1 q2 q3 hto elx hll hq hn2 HC1
        go_wp2_with fail
        go_loopg [6] q (fun gh s wr => ∃ u : Nat, u + gh = q ∧ s = .int .i64 u ∧ Below w8.heap.size w8 wr ∧ ∀ p, p < u → lx.getD p 0 ≤ l'.getD p 0)
        case atStart => exact ⟨0, by omega, rfl, Below.refl _ _, fun p hp => by omega⟩
        case round =>
          obtain ⟨u, hug, rfl, hB, hle⟩ := hrel
          have HB := mkHid hB
          have HLE := mkHid hle
          clear hB hle
          obtain ⟨t0, t1⟩ := X8.out.below HB.out
          obtain ⟨u0, u1⟩ := U8.out.below HB.out
          have BR := mkHid (below_step B8.out HB.out)
          cases gk with
          | zero =>
            have hlt : ¬ ((u : Int) < (q : Int)) := by omega
            have e : u = q := by omega
            subst e
            have e2 : Hid (true = leqF z l z' l') := mkHid (by rw [e1.out, HLL.out]; exact (List.all_eq_true.2 fun p hp => decide_eq_true (HLE.out p (List.mem_range.1 hp))).symm)
            go_wp2
            go_ret
            exact ⟨ret_bool e2.out, BR.out⟩
          | succ gh =>
            have hlt : (u : Int) < (q : Int) := by omega
            obtain ⟨b, o, rfl, cx⟩ := IntsAt.get' (XI.out.below HB.out) (k := u) (by have := HLQ.out; omega)
            obtain ⟨b', o', rfl, cy⟩ := IntsAt.get' (YI.out.below HB.out) (k := u) (by have := HLQ'.out; omega)
            have huq : u < q := by omega
            by_cases hgt : lx.getD u 0 > l'.getD u 0
            · have e2 : Hid (false = leqF z l z' l') := mkHid (by
                rw [e1.out, HLL.out]
                cases hall : (List.range q).all fun p => decide (lx.getD p 0 ≤ l'.getD p 0)
                · rfl
                · have := of_decide_eq_true (List.all_eq_true.1 hall u (List.mem_range.2 huq))
                  omega)
              obtain ⟨x, hx⟩ : ∃ x, lx.getD u 0 = x := ⟨_, rfl⟩
              obtain ⟨y, hy⟩ : ∃ y, l'.getD u 0 = y := ⟨_, rfl⟩
              rw [hx] at cx hgt
              rw [hy] at cy hgt
              clear hx hy huq
              go_wp2_with fail
              go_region_held3 (fun v => v.cell? ⟨bx, 1, none⟩ = some (.slice (some ⟨b, o, none⟩) q xc) ∧ v.cell? ⟨w.heap.size + 1, 1, none⟩ = some (.slice (some ⟨b', o', none⟩) q c') ∧ v.cell? ⟨b, o + u, none⟩ = some (.int .i64 x) ∧ v.cell? ⟨b', o' + u, none⟩ = some (.int .i64 y))
                (first | exact ⟨t1, u1, cx, cy⟩)
                (fail)
              go_wp2
              go_ret
              exact ⟨ret_bool e2.out, BR.out.drew⟩
            · have hnext : Hid (∀ p, p < u + 1 → lx.getD p 0 ≤ l'.getD p 0) := mkHid fun p hp => by
                by_cases e : p = u
                · subst e; omega
                · exact HLE.out p (by omega)
              obtain ⟨x, hx⟩ : ∃ x, lx.getD u 0 = x := ⟨_, rfl⟩
              obtain ⟨y, hy⟩ : ∃ y, l'.getD u 0 = y := ⟨_, rfl⟩
              rw [hx] at cx hgt
              rw [hy] at cy hgt
              have BN := mkHid HB.out.drew
              clear hx hy huq
              go_wp2_with fail
              go_region_held3 (fun v => v.cell? ⟨bx, 1, none⟩ = some (.slice (some ⟨b, o, none⟩) q xc) ∧ v.cell? ⟨w.heap.size + 1, 1, none⟩ = some (.slice (some ⟨b', o', none⟩) q c') ∧ v.cell? ⟨b, o + u, none⟩ = some (.int .i64 x) ∧ v.cell? ⟨b', o' + u, none⟩ = some (.int .i64 y))
                (first | exact ⟨t1, u1, cx, cy⟩)
                (fail)
              clear t0 t1 u0 u1 cx cy
              go_wp2
              go_roundg gh
              case measure => omega
              case rel => exact ⟨u + 1, by omega, by go_num, BN.out, hnext.out⟩
end Go.Proofs.Ytmaejdomlggopaa
