/-
  CONTRACT of the specification's NestOf.
-/
import Derived.Test.YtpikgigfeifliaaMks
import Derived.Test.YtpikgigfeifliaaHdsb
import Derived.Test.YtpikgigfeifliaaRre
namespace Go.Proofs.Ytpikgigfeifliaa
open Go.RowKit

def rowF (l : List Int) (k j : Nat) : List Int := ((headsT l (k + 1)).take j).filter (fun h => decide ((k : Int) ≤ l.getD h.toNat (-1)))
theorem rowF_yes {l : List Int} {k j h : Nat} {y : Int} (hj : (headsT l (k + 1))[j]? = some (h : Int)) (hy : l[h]? = some y) (hk : (k : Int) ≤ y) : rowF l k (j + 1) = rowF l k j ++ [(h : Int)] := by
  unfold rowF
  rw [take_snoc hj, List.filter_append, List.filter_cons_of_pos (by simp [hy, hk])]
  rfl
theorem rowF_no {l : List Int} {k j h : Nat} {y : Int} (hj : (headsT l (k + 1))[j]? = some (h : Int)) (hy : l[h]? = some y) (hk : ¬ (k : Int) ≤ y) : rowF l k (j + 1) = rowF l k j := by
  unfold rowF
  rw [take_snoc hj, List.filter_append, List.filter_cons_of_neg (by simp [hy]; omega)]
  simp
theorem rowF_all (l : List Int) (k : Nat) : rowF l k (headsT l (k + 1)).length = nestAt l k := by
  unfold rowF
  rw [List.take_length]
  exact heads_nest l k (k + 1)
theorem rowF_len (l : List Int) (k j : Nat) : (rowF l k j).length ≤ k + 1 := by
  have h1 := headsT_len l (k + 1)
  have h2 := List.length_filter_le (fun h : Int => decide ((k : Int) ≤ l.getD h.toNat (-1))) ((headsT l (k + 1)).take j)
  have h3 : ((headsT l (k + 1)).take j).length ≤ (headsT l (k + 1)).length := by simp; omega
  unfold rowF
  omega

set_option maxHeartbeats 3200000 in
theorem sNest_yes (n : Nat) (es : List Ed) (a : Option Addr) (c : Nat) (w : World) (hg : gokB (n : Int) es = true) (hl : KidsG w 0 a es) :
    Calls Try.prog 17 #[.agg #[.int .i64 n, .slice a es.length c]] w fun e w' => ∃ ao cap, e = .returned (.slice ao n cap) ∧ OwnII w' w.heap.size (.slice ao n cap) (nestL (lastsL n es) n) ∧ Below w.heap.size w w' := by
  obtain ⟨hp, hn, hall⟩ := all_of hg
  obtain ⟨p1, p2⟩ := btw_iff.1 hp
  obtain ⟨i0, hi0, hz⟩ := Option.map_eq_some_iff.1 Try.info3
  simp only [Prod.mk.injEq] at hz
  obtain ⟨hz0, hz1, hz2⟩ := hz
  have HI := mkHid (show Try.prog.info? 3 = some i0 ∧ i0.zero = some (.int .i64 0) ∧ i0.size = 1 ∧ i0.bytes = 8 from ⟨hi0, hz0, hz1, hz2⟩)
  obtain ⟨i1, hi1, hz⟩ := Option.map_eq_some_iff.1 Try.info33
  simp only [Prod.mk.injEq] at hz
  obtain ⟨hy0, hy1, hy2⟩ := hz
  have HJ := mkHid (show Try.prog.info? 33 = some i1 ∧ i1.zero = some (.slice none 0 0) ∧ i1.size = 1 ∧ i1.bytes = 24 from ⟨hi1, hy0, hy1, hy2⟩)
  have HL := mkHid hl
  have HGK := mkHid hg
  have B0 := mkHid (((Below.refl w.heap.size w).alloc (Nat.le_refl _) (.cells #[.int .i64 n, .slice a es.length c] 29)).alloc (by simp) (.cells #[] 33))
  have HE : Hid (lastsR n es = lastsL n es) := mkHid (by unfold lastsR; rw [if_pos hg, Int.toNat_natCast])
  obtain ⟨l, hll⟩ : ∃ l, lastsL n es = l := ⟨_, rfl⟩
  have hlen : l.length = n := by rw [← hll, lastsL_len]
  rw [hll]
  have HLL := mkHid hll
  have HLEN := mkHid hlen
  clear hl hi0 hz0 hz1 hz2 hi1 hy0 hy1 hy2 hall hg hp hll hlen
  go_enter Try.func17, Try.ntmps17
  go_wp2_with fail
  refine (sGraphOk_ok (n : Int) es a c _ (HL.out.below B0.out)).mono ?_
  rintro e w1 ⟨rfl, hb1⟩
  rw [HGK.out]
  have s1 : w.heap.size + 1 < w1.heap.size := by have := hb1.size; simp at this; omega
  have q0 : w1.cell? ⟨w.heap.size, 0, none⟩ = some (.int .i64 n) := (hb1.cell (p := ⟨w.heap.size, 0, none⟩) (by simp; omega)).trans (by simp [go_sem])
  have q1 : w1.cell? ⟨w.heap.size, 1, none⟩ = some (.slice a es.length c) := (hb1.cell (p := ⟨w.heap.size, 1, none⟩) (by simp; omega)).trans (by simp [go_sem])
  have q2 : w1.heap[w.heap.size + 1]? = some (.cells #[] 33 (0, 0)) := (hb1.block _ (by simp)).trans (by have := heap_alloc_new (w.alloc (.cells #[.int .i64 n, .slice a es.length c] 29)) (.cells #[] 33); simpa using this)
  have B1 := mkHid (below_step B0.out hb1)
  have HQ := mkHid (And.intro q0 (And.intro q1 q2))
  clear hb1 B0 q2
  go_wp2_with fail
  refine (sLasts_ok n es a c _ HGK.out (HL.out.below B1.out)).mono ?_
  rintro e w2 ⟨g, gc, rfl, ho, hb2⟩
  rw [HLL.out] at ho
  have r0 : w2.cell? ⟨w.heap.size, 0, none⟩ = some (.int .i64 n) := (hb2.cell (p := ⟨w.heap.size, 0, none⟩) (by dsimp only; omega)).trans HQ.out.1
  have r1 : w2.cell? ⟨w.heap.size, 1, none⟩ = some (.slice a es.length c) := (hb2.cell (p := ⟨w.heap.size, 1, none⟩) (by dsimp only; omega)).trans HQ.out.2.1
  have r2 := (hb2.block (w.heap.size + 1) s1).trans HQ.out.2.2
  have s2 := hb2.size
  have HR := mkHid (And.intro r0 r2)
  have B2 := mkHid (below_step B1.out hb2)
  have HO := mkHid ho
  clear hb2 ho B1 HQ q0 q1 r2
  go_wp2_with fail
  refine (sHeads_ok (n : Int) es a c _ (HL.out.below B2.out)).mono ?_
  rintro e w3 ⟨ha, hc, rfl, hh, hb3⟩
  rw [HE.out, HLL.out] at hh ⊢
  have s3 := hb3.size
  have t0 : w3.cell? ⟨w.heap.size, 0, none⟩ = some (.int .i64 n) := (hb3.cell (p := ⟨w.heap.size, 0, none⟩) (by dsimp only; omega)).trans HR.out.1
  have T0 := mkHid t0
  have T2 := mkHid ((hb3.block (w.heap.size + 1) (by omega)).trans HR.out.2)
  have HO3 := mkHid ((HO.out.below hb3).mono (base' := w.heap.size + 1) (by omega))
  have HH3 := mkHid (hh.mono (base' := w.heap.size + 1) (by omega))
  have B3 := mkHid (below_step B2.out hb3)
  clear hb3 hh HO HR B2 r0 r1
  go_wp2
  go_loopw [3, 6] (fun o i w' => ∃ (k : Nat) (ao : Option Addr) (cap : Nat), k ≤ n ∧ i = .int .i64 k ∧ o = .slice ao k cap ∧ OwnII w' (w.heap.size + 1) (.slice ao k cap) (nestL l k) ∧
    w'.cell? ⟨w.heap.size, 0, none⟩ = some (.int .i64 n) ∧ OwnI w' (w.heap.size + 1) (.slice (some ⟨g, 0, none⟩) n gc) l ∧ OwnI w' (w.heap.size + 1) (.slice ha (headsL l).length hc) (headsL l) ∧ w3.heap.size ≤ w'.heap.size ∧ Below w.heap.size w w') (fun _ i _ => n - (intOf i).toNat)
  case atStart => exact ⟨0, _, 0, Nat.zero_le _, rfl, rfl, OwnII.fresh (by omega) T2.out, T0.out, HO3.out, HH3.out, Nat.le_refl _, B3.out⟩
  case round =>
    clear t0
    obtain ⟨k, ao, cap, hk, rfl, rfl, hown, r0, hlas, hhea, hsz, hbel⟩ := hrel
    have HOW := mkHid hown
    have HLA := mkHid hlas
    have HHE := mkHid hhea
    have HB := mkHid hbel
    have R0 := mkHid r0
    clear hown hlas hhea hbel
    by_cases hlt : k < n
    · have k3 : (k : Int) < (n : Int) := by omega
      obtain ⟨W0, rfl⟩ : ∃ W0, W0 = wr := ⟨wr, rfl⟩
      obtain ⟨rest, hsp, hrest⟩ := headsT_split l (k + 1) l.length (by have := HLEN.out; omega)
      have HSP : Hid (headsL l = headsT l (k + 1) ++ rest) := mkHid hsp
      have HRE := mkHid hrest
      have hhl : (headsT l (k + 1)).length ≤ (headsL l).length := by rw [HSP.out]; simp
      have hhm : (headsL l).length ≤ 3000 := by have h1 := headsT_len l l.length; have h2 := HLEN.out; unfold headsL; omega
      have HBA := mkHid ((Below.refl W0.heap.size W0).alloc (Nat.le_refl _) (.cells #[] 3))
      clear hsp hrest
      go_wp2
      go_loopw [7, 8] (fun r i V => ∃ (j : Nat) (ra : Option Addr) (rc : Nat), j ≤ (headsT l (k + 1)).length ∧ i = .int .i64 j ∧ r = .slice ra (rowF l k j).length rc ∧ OwnI V W0.heap.size (.slice ra (rowF l k j).length rc) (rowF l k j) ∧ Below W0.heap.size W0 V) (fun _ i _ => (headsT l (k + 1)).length - (intOf i).toNat)
      case atStart => exact ⟨0, some ⟨W0.heap.size, 0, none⟩, 0, Nat.zero_le _, rfl, by simp [rowF], by simp only [rowF, List.take_zero, List.filter_nil]; exact OwnI.fresh (Nat.le_refl _) (heap_alloc_new _ _), HBA.out⟩
      case round =>
        clear r0
        obtain ⟨j, ra, rc, hj, rfl, rfl, hrow, hbelV⟩ := hrel
        have HRW := mkHid hrow
        have HBV := mkHid hbelV
        have hsv := hbelV.size
        have hrl := rowF_len l k j
        have HLV := mkHid (HLA.out.below hbelV)
        have HHV := mkHid (HHE.out.below hbelV)
        have R0V : wr.cell? ⟨w.heap.size, 0, none⟩ = some (.int .i64 n) := (hbelV.cell (p := ⟨w.heap.size, 0, none⟩) (by dsimp only; omega)).trans R0.out
        have hout : ∀ (hjj : j = (headsT l (k + 1)).length), OwnI wr W0.heap.size (.slice ra (nestAt l k).length rc) (nestAt l k) := fun hjj => by
          have := HRW.out
          rw [hjj, rowF_all] at this
          exact this
        have HOUT := mkHid hout
        clear hrow hbelV hout
        by_cases hin : j < (headsL l).length
        · obtain ⟨x, hx⟩ : ∃ x, (headsL l)[j]? = some x := ⟨_, List.getElem?_eq_getElem hin⟩
          obtain ⟨x0, x1⟩ := headsT_lt l l.length j x hx
          obtain ⟨h, rfl⟩ : ∃ h : Nat, x = h := ⟨x.toNat, by omega⟩
          have hn1 : h < n := by have := HLEN.out; omega
          have hat := HHV.out.at
          rcases hat with hh | ⟨b, o, rfl, hat⟩
          · rw [hh] at hin; simp at hin
          have c0 := hat j _ hx
          obtain ⟨y, hy⟩ : ∃ y, l[h]? = some y := ⟨_, List.getElem?_eq_getElem (by rw [HLEN.out]; exact hn1)⟩
          have c1 := HLV.out.at.get hy
          rw [Nat.zero_add] at c1
          have HX := mkHid hx
          have HY := mkHid hy
          have j1 : (j : Int) < ((headsL l).length : Int) := by omega
          have j2 : (h : Int) < (n : Int) := by omega
          clear hx hy hat
          by_cases hle : (h : Int) ≤ (k : Int)
          · have hjt : j < (headsT l (k + 1)).length := by
              rcases Nat.lt_or_ge j (headsT l (k + 1)).length with h1 | h1
              · exact h1
              · have h2 := HX.out
                rw [HSP.out, List.getElem?_append_right h1] at h2
                have := HRE.out _ _ h2
                omega
            have HXT : Hid ((headsT l (k + 1))[j]? = some (h : Int)) := mkHid (by
              have h2 := HX.out
              rw [HSP.out, List.getElem?_append_left hjt] at h2
              exact h2)
            by_cases hyk : (k : Int) ≤ y
            · go_wp2_with (at_builtin; refine wpList_append_lies _ rfl _ _ 33 rfl W0.heap.size 3 i0 (.int .i64 0) 1 8 Try.underlying33 HI.out.1 HI.out.2.1 HI.out.2.2.1 HI.out.2.2.2 rfl (by decide) _ _ _ rfl (World.ownsRow.alloc HRW.out _) ⟨wr.heap.size, 0, none⟩ 1 1 [.int .i64 h] rfl rfl ?c1 ?c2 (by decide) ?c3 ?c4 ?c5 (wr.heap.size + 1) (by simp) ?_)
              case c1 => exact one_new _ _ _
              case c2 => intro u hu; simp at hu; rcases hu with rfl; rfl
              case c3 => unfold maxLen; omega
              case c4 => omega
              case c5 => first | omega | (simp; omega)
              intro g' cap' w5 hown' hgrow _ _
              rw [ints_snoc] at hown'
              have HE2 := mkHid (rowF_yes HXT.out HY.out hyk)
              have hown'' : OwnI w5 W0.heap.size (.slice (some ⟨g', 0, none⟩) (rowF l k (j + 1)).length cap') (rowF l k (j + 1)) := by
                unfold OwnI
                rw [HE2.out]
                simpa using hown'
              have HO' := mkHid hown''
              have HB' : Hid (Below W0.heap.size W0 w5) := mkHid ((HBV.out.alloc HBV.out.size _).grown hgrow (by simp; omega) (fun q hq => (World.ownsRow.lt HRW.out q hq).1))
              have HL2 := mkHid (show (rowF l k j).length + 1 = (rowF l k (j + 1)).length by rw [HE2.out]; simp)
              clear hown' hgrow hown'' c0 c1 R0V
              go_wp2
              go_roundw
              case rel => exact ⟨j + 1, some ⟨g', 0, none⟩, cap', by omega, by go_num, by rw [HL2.out], HO'.out, HB'.out⟩
              case measure => simp [intOf]; omega
            · have HE2 := mkHid (rowF_no HXT.out HY.out hyk)
              go_wp2
              go_roundw
              case rel => exact ⟨j + 1, ra, rc, by omega, by go_num, by rw [HE2.out], by rw [HE2.out]; exact HRW.out, HBV.out⟩
              case measure => simp [intOf]; omega
          · have HJJ : Hid (j = (headsT l (k + 1)).length) := mkHid (by
              rcases Nat.lt_or_ge j (headsT l (k + 1)).length with h1 | h1
              · have h2 := HX.out
                rw [HSP.out, List.getElem?_append_left h1] at h2
                have := headsT_lt l (k + 1) j _ h2
                omega
              · omega)
            obtain ⟨vs, hv1, hv2⟩ := HOW.out
            have HV := mkHid (owns_below hv1 HBV.out)
            have HN := mkHid hv2
            clear hv1 hv2
            go_wp2_with (at_builtin; refine wpList_append_lies _ rfl _ _ 38 rfl (w.heap.size + 1) 33 i1 (.slice none 0 0) 1 24 Try.underlying38 HJ.out.1 HJ.out.2.1 HJ.out.2.2.1 HJ.out.2.2.2 rfl (by decide) _ _ _ rfl (World.ownsRow.alloc HV.out _) ⟨wr.heap.size, 0, none⟩ 1 1 [.slice ra (rowF l k j).length rc] rfl rfl (one_new _ _ _) ?c2 (by decide) ?c3 ?c4 ?c5 (wr.heap.size + 1) (by simp) ?_)
            case c2 => first | rfl | (intro u hu; simp at hu; rcases hu with rfl; rfl)
            case c3 => rw [nestL_len]; unfold maxLen; omega
            case c4 => rw [nestL_len]; omega
            case c5 => first | omega | (simp; omega)
            intro g' cap' w5 hown' hgrow _ _
            rw [nestL_len] at hown' ⊢
            have h1 := World.ownsRow.alloc HV.out (.cells #[.slice ra (rowF l k j).length rc] 33)
            rw [nestL_len] at h1
            have HIN : Hid (OwnII w5 (w.heap.size + 1) (.slice (some ⟨g', 0, none⟩) (k + 1) cap') (nestL l (k + 1))) := mkHid (by
              refine OwnII.snoc (W := W0) (B := W0.heap.size) (n0 := W0.heap.size) HN.out (Nat.le_refl _) (Nat.le_refl _) (by omega) (HN.out.below HBV.out) h1 (u := .slice ra (rowF l k j).length rc) ?_ hown' (nestL_len l k) hgrow
              have h2 := HOUT.out HJJ.out
              rw [← rowF_all, ← show j = (headsT l (k + 1)).length from HJJ.out] at h2
              rw [← rowF_all, ← show j = (headsT l (k + 1)).length from HJJ.out]
              exact h2)
            have hnot : ∀ q cur, Value.ownBlock (.slice ao k cap) = some q → (wr.alloc (.cells #[.slice ra (rowF l k j).length rc] 33)).heap[q]? ≠ some (.cells cur 3 (0, 0)) := fun q cur hq hc => by
              rcases h1.2 with ⟨e, _⟩ | ⟨g2, cap2, cur', e, _, hgb, _⟩
              · rw [e] at hq; simp [Value.ownBlock] at hq
              · rw [e] at hq
                simp [Value.ownBlock] at hq
                subst hq
                rw [hc] at hgb
                simp at hgb
            have hba := (Below.refl wr.heap.size wr).alloc (Nat.le_refl _) (.cells #[.slice ra (rowF l k j).length rc] 33)
            have HL5 : Hid (OwnI w5 (w.heap.size + 1) (.slice (some ⟨g, 0, none⟩) n gc) l) := mkHid ((HLV.out.below hba).keptBy hgrow fun q hq e => by
              obtain ⟨cur, hc⟩ := (HLV.out.below hba).block hq
              exact hnot q cur e hc)
            have HH5 : Hid (OwnI w5 (w.heap.size + 1) (.slice (some ⟨b, o, none⟩) (headsL l).length hc) (headsL l)) := mkHid ((HHV.out.below hba).keptBy hgrow fun q hq e => by
              obtain ⟨cur, hc⟩ := (HHV.out.below hba).block hq
              exact hnot q cur e hc)
            have HB5 : Hid (Below w.heap.size w w5) := mkHid (((HB.out.trans (HBV.out.mono HB.out.size)).alloc (by have := HB.out.size; omega) _).grown hgrow (by simp; have := HB.out.size; omega) (fun q hq => by have := (World.ownsRow.lt h1 q hq).1; omega))
            have R5 : Hid (w5.cell? ⟨w.heap.size, 0, none⟩ = some (.int .i64 n)) := mkHid ((hgrow.cell_far ⟨w.heap.size, 0, none⟩ (by simp; have := HB.out.size; omega) (fun e => by
              have := (World.ownsRow.lt h1 _ e.symm).1
              dsimp only at this
              omega)).trans ((hba.cell (p := ⟨w.heap.size, 0, none⟩) (by dsimp only; have := HB.out.size; omega)).trans R0V))
            have hs5 : w3.heap.size ≤ w5.heap.size := by have := hgrow.size; simp at this; omega
            clear hown' hgrow h1 hnot hba R0V c0 c1
            go_wp2
            go_roundw
            case rel => exact ⟨k + 1, some ⟨g', 0, none⟩, cap', by omega, by go_num, rfl, HIN.out, R5.out, HL5.out, HH5.out, hs5, HB5.out⟩
            case measure => simp [intOf]; omega
        · have HJJ : Hid (j = (headsT l (k + 1)).length) := mkHid (by omega)
          obtain ⟨vs, hv1, hv2⟩ := HOW.out
          have HV := mkHid (owns_below hv1 HBV.out)
          have HN := mkHid hv2
          clear hv1 hv2
          go_wp2_with (at_builtin; refine wpList_append_lies _ rfl _ _ 38 rfl (w.heap.size + 1) 33 i1 (.slice none 0 0) 1 24 Try.underlying38 HJ.out.1 HJ.out.2.1 HJ.out.2.2.1 HJ.out.2.2.2 rfl (by decide) _ _ _ rfl (World.ownsRow.alloc HV.out _) ⟨wr.heap.size, 0, none⟩ 1 1 [.slice ra (rowF l k j).length rc] rfl rfl (one_new _ _ _) ?c2 (by decide) ?c3 ?c4 ?c5 (wr.heap.size + 1) (by simp) ?_)
          case c2 => first | rfl | (intro u hu; simp at hu; rcases hu with rfl; rfl)
          case c3 => rw [nestL_len]; unfold maxLen; omega
          case c4 => rw [nestL_len]; omega
          case c5 => first | omega | (simp; omega)
          intro g' cap' w5 hown' hgrow _ _
          rw [nestL_len] at hown' ⊢
          have h1 := World.ownsRow.alloc HV.out (.cells #[.slice ra (rowF l k j).length rc] 33)
          rw [nestL_len] at h1
          have HIN : Hid (OwnII w5 (w.heap.size + 1) (.slice (some ⟨g', 0, none⟩) (k + 1) cap') (nestL l (k + 1))) := mkHid (by
            refine OwnII.snoc (W := W0) (B := W0.heap.size) (n0 := W0.heap.size) HN.out (Nat.le_refl _) (Nat.le_refl _) (by omega) (HN.out.below HBV.out) h1 (u := .slice ra (rowF l k j).length rc) ?_ hown' (nestL_len l k) hgrow
            have h2 := HOUT.out HJJ.out
            rw [← rowF_all, ← show j = (headsT l (k + 1)).length from HJJ.out] at h2
            rw [← rowF_all, ← show j = (headsT l (k + 1)).length from HJJ.out]
            exact h2)
          have hnot : ∀ q cur, Value.ownBlock (.slice ao k cap) = some q → (wr.alloc (.cells #[.slice ra (rowF l k j).length rc] 33)).heap[q]? ≠ some (.cells cur 3 (0, 0)) := fun q cur hq hc => by
            rcases h1.2 with ⟨e, _⟩ | ⟨g2, cap2, cur', e, _, hgb, _⟩
            · rw [e] at hq; simp [Value.ownBlock] at hq
            · rw [e] at hq
              simp [Value.ownBlock] at hq
              subst hq
              rw [hc] at hgb
              simp at hgb
          have hba := (Below.refl wr.heap.size wr).alloc (Nat.le_refl _) (.cells #[.slice ra (rowF l k j).length rc] 33)
          have HL5 : Hid (OwnI w5 (w.heap.size + 1) (.slice (some ⟨g, 0, none⟩) n gc) l) := mkHid ((HLV.out.below hba).keptBy hgrow fun q hq e => by
            obtain ⟨cur, hc⟩ := (HLV.out.below hba).block hq
            exact hnot q cur e hc)
          have HH5 : Hid (OwnI w5 (w.heap.size + 1) (.slice ha (headsL l).length hc) (headsL l)) := mkHid ((HHV.out.below hba).keptBy hgrow fun q hq e => by
            obtain ⟨cur, hc⟩ := (HHV.out.below hba).block hq
            exact hnot q cur e hc)
          have HB5 : Hid (Below w.heap.size w w5) := mkHid (((HB.out.trans (HBV.out.mono HB.out.size)).alloc (by have := HB.out.size; omega) _).grown hgrow (by simp; have := HB.out.size; omega) (fun q hq => by have := (World.ownsRow.lt h1 q hq).1; omega))
          have R5 : Hid (w5.cell? ⟨w.heap.size, 0, none⟩ = some (.int .i64 n)) := mkHid ((hgrow.cell_far ⟨w.heap.size, 0, none⟩ (by simp; have := HB.out.size; omega) (fun e => by
            have := (World.ownsRow.lt h1 _ e.symm).1
            dsimp only at this
            omega)).trans ((hba.cell (p := ⟨w.heap.size, 0, none⟩) (by dsimp only; have := HB.out.size; omega)).trans R0V))
          have hs5 : w3.heap.size ≤ w5.heap.size := by have := hgrow.size; simp at this; omega
          clear hown' hgrow h1 hnot hba R0V 
          go_wp2
          go_roundw
          case rel => exact ⟨k + 1, some ⟨g', 0, none⟩, cap', by omega, by go_num, rfl, HIN.out, R5.out, HL5.out, HH5.out, hs5, HB5.out⟩
          case measure => simp [intOf]; omega
    · have e : k = n := by omega
      subst e
      go_wp2
      go_ret
      exact ⟨ao, cap, rfl, HOW.out.mono (Nat.le_succ _), HB.out⟩

set_option maxHeartbeats 800000 in
theorem sNest_no (p : Int) (es : List Ed) (a : Option Addr) (c : Nat) (w : World) (hg : gokB p es = false) (hl : KidsG w 0 a es) :
    Calls Try.prog 17 #[.agg #[.int .i64 p, .slice a es.length c]] w fun e w' => ∃ ao cap, e = .returned (.slice ao 0 cap) ∧ OwnII w' w.heap.size (.slice ao 0 cap) [] ∧ Below w.heap.size w w' := by
  have HL := mkHid hl
  have HGK := mkHid hg
  have B0 := mkHid (((Below.refl w.heap.size w).alloc (Nat.le_refl _) (.cells #[.int .i64 p, .slice a es.length c] 29)).alloc (by simp) (.cells #[] 33))
  clear hl hg
  go_enter Try.func17, Try.ntmps17
  go_wp2_with fail
  refine (sGraphOk_ok p es a c _ (HL.out.below B0.out)).mono ?_
  rintro e w1 ⟨rfl, hb1⟩
  rw [HGK.out]
  have q2 := mkHid (show w1.heap[w.heap.size + 1]? = some (.cells #[] 33 (0, 0)) from (hb1.block _ (by simp)).trans (by have := heap_alloc_new (w.alloc (.cells #[.int .i64 p, .slice a es.length c] 29)) (.cells #[] 33); simpa using this))
  have B1 := mkHid (below_step B0.out hb1)
  clear hb1 B0
  go_wp2
  go_ret
  exact ⟨_, _, rfl, OwnII.fresh (by omega) q2.out, B1.out⟩
theorem sNest_ok (p : Int) (es : List Ed) (a : Option Addr) (c : Nat) (w : World) (hl : KidsG w 0 a es) :
    Calls Try.prog 17 #[.agg #[.int .i64 p, .slice a es.length c]] w fun e w' => ∃ ao cap, e = .returned (.slice ao (lastsR p es).length cap) ∧ OwnII w' w.heap.size (.slice ao (lastsR p es).length cap) (nestL (lastsR p es) (lastsR p es).length) ∧ Below w.heap.size w w' := by
  cases hg : gokB p es
  · have e : lastsR p es = [] := by unfold lastsR; rw [if_neg (by rw [hg]; decide)]
    rw [e]
    exact sNest_no p es a c w hg hl
  · obtain ⟨hp, _, _⟩ := all_of hg
    obtain ⟨p1, p2⟩ := btw_iff.1 hp
    obtain ⟨n, rfl⟩ : ∃ n : Nat, p = n := ⟨p.toNat, by omega⟩
    have e : lastsR n es = lastsL n es := by unfold lastsR; rw [if_pos hg, Int.toNat_natCast]
    rw [e, lastsL_len]
    exact sNest_yes n es a c w hg hl
end Go.Proofs.Ytpikgigfeifliaa
