/-
  CONTRACT of the program's link.shift.
-/
import Derived.Test.YtodjmpocpfkpaaaGreatKx31
namespace Go.Proofs.YtodjmpocpfkpaaaGreat
open Go.RowKit

set_option maxRecDepth 100000 in
set_option maxHeartbeats 6400000 in
theorem shift_any (n lv v u c : Int) (S : SG) (X base : Nat) (w : World) (hs : Small S) (hok : OkS n lv S.B S.V S.M) (hm : MvP n lv v u c) (hB : base ≤ w.heap.size) (hc : ChN w base X (linksOf S.B S.V S.M)) :
    Calls Tryz.prog 47 #[.pointer (some ⟨X, 0, none⟩), .agg #[.int .i64 n, .int .i64 v, .int .i64 u, .int .i64 c]] w fun e w' => e = .returned (.tuple #[]) ∧ Below base w w' ∧ ∃ ks, Chain w' X ks ∧ FitK ks ∧ segL ks = shS n v c S := by
  obtain ⟨ti, hti, hz⟩ := Option.map_eq_some_iff.1 infoY
  simp only [Prod.mk.injEq] at hz
  obtain ⟨hz0, hz1, hz2⟩ := hz
  have HI := mkHid (show Tryz.prog.info? 65 = some ti ∧ ti.zero = some (.agg #[.int .i64 0, .int .i64 0]) ∧ ti.size = 2 ∧ ti.bytes = 16 from ⟨hti, hz0, hz1, hz2⟩)
  clear hti hz0 hz1 hz2
  obtain ⟨w0, hw0⟩ : ∃ z : World, w.alloc (.cells #[.int .i64 n, .int .i64 v, .int .i64 u, .int .i64 c] 51) = z := ⟨_, rfl⟩
  obtain ⟨Q, hQ⟩ : ∃ z, w.heap.size = z := ⟨_, rfl⟩
  have B0 : Below w.heap.size w w0 := by rw [← hw0]; exact bl_alloc (Below.refl _ _) _
  have hQ0 : w0.heap[Q]? = some (.cells #[.int .i64 n, .int .i64 v, .int .i64 u, .int .i64 c] 51 (0, 0)) := by rw [← hw0, ← hQ]; exact heap_new _ _ rfl
  have HQ0 := mkHid hQ0
  have q1 : w0.cell? ⟨Q, 1, none⟩ = some (.int .i64 v) := heap_cell hQ0 1
  have HB0 := mkHid B0
  have HC0 := mkHid (hc.below B0)
  have HSM := mkHid hs
  have HOK := mkHid hok
  have HMP := mkHid hm
  have HBB := mkHid hB
  clear hs hok hm hB hc B0 hQ0
  go_enter Tryz.func47, Tryz.ntmps47
  go_wp2_with fail
  clear hw0 hQ q1
  refine (termsWith_any (linksOf S.B S.V S.M) X v _ (by rw [links_b]; exact HSM.out.t) (HC0.out.chain (links_ne HOK.out))).mono ?_
  rw [links_b]
  obtain ⟨T, hT⟩ : ∃ z, tv v S.B = z := ⟨_, rfl⟩
  have htl : T.length ≤ 40 := by rw [← hT]; have h1 := tv_len v S.B; have h2 := HOK.out.tot; have h3 := tot_flatten S.B; omega
  have HTS : Hid (∀ p, p ∈ T → -1000 ≤ p.2 ∧ p.2 ≤ 1000) := mkHid (by
    rw [← hT]
    intro p hp
    have : ∀ B : List (List Y), p ∈ tv v B → ∃ b, b ∈ B ∧ p ∈ b := fun B => by
      induction B with
      | nil => intro h; simp [tv] at h
      | cons b B ih =>
        intro h
        simp only [tv, List.mem_append] at h
        rcases h with h | h
        · exact ⟨b, List.mem_cons_self, (List.mem_filter.1 h).1⟩
        · obtain ⟨b', h1, h2⟩ := ih h; exact ⟨b', List.mem_cons_of_mem _ h1, h2⟩
    obtain ⟨b, h1, h2⟩ := this _ hp
    exact ((HOK.out.rows b h1).sym p h2).2.2)
  have HT := mkHid hT
  rw [hT]
  clear hT
  rintro e w1 ⟨hb, gT, cT, rfl, hown⟩
  have HB1 := mkHid (below_step HB0.out hb)
  have HC1 := mkHid (HC0.out.below hb)
  have HQ1 := mkHid ((hb.block Q (heap_lt HQ0.out)).trans HQ0.out)
  have HO1 := mkHid hown
  clear hb hown HB0 HC0 HQ0
  go_wp2
  go_loopg [4, 17] T.length (fun g s4 s17 z => ∃ (j : Nat) (a : Option Addr) (cc : Nat), j ≤ T.length ∧ s17 = .int .i64 j ∧ T.length - j ≤ g ∧ s4 = .slice a (goneY n v c (T.take j)).length cc ∧ Own eY 65 z w1.heap.size (.slice a (goneY n v c (T.take j)).length cc) (goneY n v c (T.take j)) ∧ Below w1.heap.size w1 z)
  case atStart => exact ⟨0, none, 0, Nat.zero_le _, rfl, by omega, rfl, Own.nil _ _ _ _, Below.refl _ _⟩
  case round =>
    obtain ⟨j, a, cc, hj, rfl, hgj, rfl, hown, hbel⟩ := hrel
    obtain ⟨M, hM⟩ : ∃ z, goneY n v c (T.take j) = z := ⟨_, rfl⟩
    rw [hM] at hown ⊢
    obtain ⟨mm, hmm⟩ : ∃ z, M.length = z := ⟨_, rfl⟩
    have hmb : mm ≤ 40 := by rw [← hmm, ← hM]; exact Nat.le_trans (gone_len _ _ _ _) (by rw [List.length_take]; omega)
    rw [hmm] at hown ⊢
    have HM := mkHid hM
    have HMM := mkHid hmm
    have HOW := mkHid hown
    have HBE := mkHid hbel
    have HQR := mkHid ((hbel.block Q (heap_lt HQ1.out)).trans HQ1.out)
    clear hM hown hmm
    by_cases hlt : j < T.length
    · obtain ⟨x, hx⟩ : ∃ x, T[j]? = some x := ⟨_, List.getElem?_eq_getElem hlt⟩
      obtain ⟨b, off, hab, _, hq⟩ := (HO1.out.at.below hbel).cons (by omega)
      subst hab
      obtain ⟨c0, c1⟩ := get_y hq hx
      have HX := mkHid hx
      have HXB := mkHid (HTS.out x (List.mem_of_getElem? hx))
      have i0 : (0 : Int) ≤ (j : Int) := by omega
      have i1 : (j : Int) < (T.length : Int) := by omega
      clear hq hx hbel
      obtain ⟨w5, hw5⟩ : ∃ z : World, wr.alloc (.cells #[.int .i64 x.1, .int .i64 x.2] 65) = z := ⟨_, rfl⟩
      obtain ⟨Z, hZ⟩ : ∃ z, wr.heap.size = z := ⟨_, rfl⟩
      have HB5 : Hid (Below wr.heap.size wr w5) := mkHid (by rw [← hw5]; exact bl_alloc (Below.refl _ _) _)
      have d0 : w5.cell? ⟨Z, 0, none⟩ = some (.int .i64 x.1) := by rw [← hw5, ← hZ]; simp [go_sem]
      have d1 : w5.cell? ⟨Z, 1, none⟩ = some (.int .i64 x.2) := by rw [← hw5, ← hZ]; simp [go_sem]
      have HD0 := mkHid (And.intro d0 d1)
      have hZl : Z < w5.heap.size := World.block_lt_of_cell? w5 _ d0
      have HQ5 := mkHid ((HB5.out.block Q (heap_lt HQR.out)).trans HQR.out)
      have q0 := heap_cell HQ5.out 0
      have q1 := heap_cell HQ5.out 1
      have q2 := heap_cell HQ5.out 2
      have q3 := heap_cell HQ5.out 3
      simp at q0 q1 q2 q3
      go_wp2_with fail
      clear hw5 hZ c0 c1 d0 d1 q0 q1 q2 q3
      refine (renamed_any n v u c x _ HXB.out HMP.out.pc).mono ?_
      rintro e w6 ⟨rfl, hb⟩
      have BE6 := mkHid (below_step (below_step HBE.out HB5.out) hb)
      have O6 := mkHid ((HOW.out.below HB5.out).below hb)
      have HD6 : Hid (w6.cell? ⟨Z, 0, none⟩ = some (.int .i64 x.1) ∧ w6.cell? ⟨Z, 1, none⟩ = some (.int .i64 x.2)) := mkHid ⟨((bcell hb).1 _ _ hZl).trans HD0.out.1, ((bcell hb).1 _ _ hZl).trans HD0.out.2⟩
      have hZ6 : Z < w6.heap.size := Nat.lt_of_lt_of_le hZl hb.size
      clear hb HB5 HOW HBE HD0 HQ5 hZl
      obtain ⟨w7, hw7⟩ : ∃ y : World, w6.alloc (.cells #[.int .i64 v, .int .i64 (x.2 - c)] 65) = y := ⟨_, rfl⟩
      have HB7 : Hid (Below w6.heap.size w6 w7) := mkHid (by rw [← hw7]; exact bl_alloc (Below.refl _ _) _)
      have d0 := ((bcell HB7.out).1 _ _ hZ6).trans HD6.out.1
      have d1 := ((bcell HB7.out).1 _ _ hZ6).trans HD6.out.2
      have BE7 := mkHid (below_step BE6.out HB7.out)
      have O7 := mkHid (O6.out.below HB7.out)
      have hsz7 := BE7.out.size
      clear BE6 O6 HD6 HB7 hZ6
      cases h2 : symOkB n v (x.2 - c)
      · have HE : Hid (goneY n v c (T.take (j + 1)) = M ++ [x]) := mkHid (by rw [gone_yes HX.out h2, HM.out])
        have HO4 : Hid (w7.ownsRow w1.heap.size 65 2 (.slice a mm cc) mm (eY.flat M)) := mkHid (by have h := O7.out; unfold Own at h; rw [HMM.out] at h; exact h)
        go_wp2_with (at_builtin; refine wpList_append_lies _ rfl _ _ 63 rfl w1.heap.size 65 ti (.agg #[.int .i64 0, .int .i64 0]) 2 16 Tryz.underlying63 HI.out.1 HI.out.2.1 HI.out.2.2.1 HI.out.2.2.2 rfl (by decide) _ _ _ rfl (World.ownsRow.alloc HO4.out _) ⟨w7.heap.size, 0, none⟩ 1 1 [.int .i64 x.1, .int .i64 x.2] rfl rfl ?c1 ?c2 (by decide) ?c3 ?c4 ?c5 (w7.heap.size + 1) (by simp) ?_)
        case c1 => exact two_new _ _ _ _
        case c2 => first | rfl | (intro u hu; simp at hu; rcases hu with rfl | rfl <;> rfl) | exact ⟨rfl, rfl⟩
        case c3 => unfold maxLen; omega
        case c4 => omega
        case c5 => first | omega | (simp; omega)
        intro g' c' w8 hown' hgrow hat' _
        have HK1 : Hid ((M ++ [x]).length = mm + 1) := mkHid (by rw [List.length_append, HMM.out]; rfl)
        have O8 : Hid (Own eY 65 w8 w1.heap.size (.slice (some ⟨g', 0, none⟩) (mm + 1) c') (M ++ [x])) := mkHid (by
          unfold Own
          rw [HK1.out, El.flat_app]
          exact hown')
        have BE8 : Hid (Below w1.heap.size w1 w8) := mkHid ((BE7.out.alloc BE7.out.size _).grown hgrow (by simp; omega) (fun q hq => by have := (World.ownsRow.lt HO4.out q hq).1; omega))
        clear hown' hgrow hat' d0 d1 hw7
        go_wp2
        go_roundg (T.length - (j + 1))
        case measure => omega
        case rel => exact ⟨j + 1, some ⟨g', 0, none⟩, c', by omega, by go_num, Nat.le_refl _, by rw [HE.out, HK1.out], by rw [HE.out, HK1.out]; exact O8.out, BE8.out⟩
      · have HE : Hid (goneY n v c (T.take (j + 1)) = M) := mkHid (by rw [gone_no HX.out h2, HM.out])
        go_wp2
        clear d0 d1 hw7
        go_roundg (T.length - (j + 1))
        case measure => omega
        case rel => exact ⟨j + 1, a, cc, by omega, by go_num, Nat.le_refl _, by rw [HE.out, HMM.out], by rw [HE.out, HMM.out]; exact O7.out, BE7.out⟩
    have i1 : ¬ (j : Int) < (T.length : Int) := by omega
    have HMF : Hid (goneY n v c T = M) := mkHid (by rw [← HM.out, List.take_of_length_le (by omega)])
    have HC2 := mkHid (HC1.out.below hbel)
    have HB2 := mkHid (below_step HB1.out hbel)
    obtain ⟨wa, hwa⟩ : ∃ z : World, wr.alloc (.cells #[.slice a mm cc] 63) = z := ⟨_, rfl⟩
    obtain ⟨Ra, hRa⟩ : ∃ z, wr.heap.size = z := ⟨_, rfl⟩
    have BA : Hid (Below wr.heap.size wr wa) := mkHid (by rw [← hwa]; exact bl_alloc (Below.refl _ _) _)
    have CA : Hid (wa.cell? ⟨Ra, 0, none⟩ = some (.slice a M.length cc)) := mkHid (by rw [← hwa, ← hRa, HMM.out]; simp [go_sem])
    clear hbel HB1 HC1 HQ1 HO1
    go_wp2_with fail
    clear hwa hRa
    refine (termsOf_any [M] (some ⟨Ra, 0, none⟩) 1 _ (by simp) (by simp [HMM.out]; omega) (Own.one CA.out (HOW.out.below BA.out).at)).mono ?_
    rintro e w3 ⟨hb, m, a1, p1, rfl, hset, hown⟩
    have HS1 := mkHid hset
    have HO3 := mkHid hown
    have HB3 := mkHid (below_step HB2.out (below_step BA.out hb))
    have HC3 := mkHid (HC2.out.below (below_step BA.out hb))
    have HQ3 := mkHid (((below_step BA.out hb).block Q (heap_lt HQR.out)).trans HQR.out)
    clear hb hset hown HB2 BA CA HC2 HOW HBE HQR
    have HM1 : Hid (m.length ≤ 1048576) := mkHid (Nat.le_trans (set_len HS1.out) (by simp [HMM.out]; omega))
    go_wp2_with fail
    refine (dropChain_any (n := n) (lv := lv) S X base _ m a1 p1 _ HSM.out HOK.out HM1.out HS1.out.asc HO3.out (Nat.le_trans HBB.out HB3.out.size) HC3.out).mono ?_
    rintro e w4 ⟨rfl, hbk, ks, hcn, hfit, hks⟩
    have HFT := mkHid hfit
    have HE : Hid (segL (ks.map (renK v c)) = shS n v c S) := mkHid (by
      rw [hks]
      have hg := HS1.out
      rw [← HMF.out, ← HT.out] at hg
      exact shift_all HOK.out HMP.out.pv.1 HMP.out.pl hg)
    have HSY : Hid (∀ k, k ∈ ks → k.b.length ≤ 1048576 ∧ ∀ p, p ∈ k.b → -1000 ≤ p.2 ∧ p.2 ≤ 1000) := mkHid fun k hk => ⟨hfit.row k hk, fun p hp => by
      rw [hks] at hk
      have h1 : ∀ ks : List Lk, k ∈ dropL ks → ∃ k', k' ∈ ks ∧ k.b = k'.b := fun ks h => by
        cases ks with
        | nil => simp [dropL] at h
        | cons a r => exact dropK_b a r k h
      obtain ⟨k', h2, h3⟩ := h1 _ hk
      obtain ⟨k2, h4, h5⟩ := List.mem_map.1 h2
      have h6 : p ∈ k2.b := by rw [h3, ← h5] at hp; exact (List.mem_filter.1 hp).1
      have h7 : k2.b ∈ S.B := by rw [← links_b S.B S.V S.M]; exact List.mem_map_of_mem h4
      exact ((HOK.out.rows _ h7).sym p h6).2.2⟩
    obtain ⟨L, hL, hL2, hL3, hL4⟩ := hcn
    have HI0 : Hid (ShI w w4 base Q X #[.int .i64 n, .int .i64 v, .int .i64 u, .int .i64 c] L) := mkHid ⟨hL, hL3, hL4, (HB3.out.mono HBB.out).trans hbk.bel, hbk.kt Q _ HQ3.out (fun cur e => by cases e), Nat.le_trans (Nat.le_trans HBB.out HB3.out.size) hbk.bel.size⟩
    have HLS := mkHid hL2
    have HN0 : Hid ((Value.pointer (some ⟨X, 0, none⟩)) = .pointer (nxs L)) := mkHid (by rw [← hL.nxs])
    clear hbk hfit hks hL hL2 hL3 hL4 HB3 HC3 HQ3 HO3
    go_wp2
    go_loopg [9] ks.length (fun g s9 z => ∃ (P R : List (Nat × Lk)) (d r : List Lk), d ++ r = ks ∧ r.length ≤ g ∧ s9 = .pointer (nxs R) ∧ P.map Prod.snd = d.map (renK v c) ∧ R.map Prod.snd = r ∧ ShI w z base Q X #[.int .i64 n, .int .i64 v, .int .i64 u, .int .i64 c] (P ++ R))
    case atStart => exact ⟨[], L, [], ks, rfl, Nat.le_refl _, HN0.out, rfl, HLS.out, HI0.out⟩
    case round =>
      clear HI0 HLS HN0
      obtain ⟨P, R, d, r, hdr, hg, rfl, hP, hR, hI⟩ := hrel
      have HDR := mkHid hdr
      have HP := mkHid hP
      have HII := mkHid hI
      clear hP hdr
      cases R with
      | nil =>
        subst hR
        have HD : Hid (d = ks) := mkHid (by have := HDR.out; simpa using this)
        have HF : Hid (Chain wr X (ks.map (renK v c)) ∧ FitK (ks.map (renK v c)) ∧ segL (ks.map (renK v c)) = shS n v c S) := mkHid (by
          have hch := HII.out.ch
          rw [List.append_nil] at hch
          have hp := HP.out
          rw [HD.out] at hp
          have hne : ks.map (renK v c) ≠ [] := fun e => HFT.out.ne (List.map_eq_nil_iff.1 e)
          refine ⟨by rw [← hp]; exact Ch.chain (fun e => hne (by rw [← hp, e]; rfl)) hch, ⟨hne, by rw [List.length_map]; exact HFT.out.len, fun k hk => ?_⟩, HE.out⟩
          obtain ⟨k', h1, rfl⟩ := List.mem_map.1 hk
          show (renB v c k'.b).length ≤ _
          unfold renB
          rw [List.length_map]
          exact HFT.out.row k' h1)
        clear hI
        have hnx : nxs [] = none := rfl
        rw [hnx]
        clear hnx
        go_wp2
        refine bodyPost_end (results_none rfl _ _ _) rfl ⟨rfl, HII.out.bel, _, HF.out⟩
      | cons y R =>
        obtain ⟨Xa, ka⟩ := y
        have hR2 : ka :: R.map Prod.snd = r := hR
        subst hR2
        obtain ⟨l, hl⟩ : ∃ z, ka.b = z := ⟨_, rfl⟩
        have HSX : Hid (l.length ≤ 1048576 ∧ ∀ p, p ∈ l → -1000 ≤ p.2 ∧ p.2 ≤ 1000) := mkHid (by rw [← hl]; exact HSY.out ka (by rw [← HDR.out]; simp))
        have hll := HSX.out.1
        have HL := mkHid hl
        have HLK : Hid (∀ z L', ShI w z base Q X #[.int .i64 n, .int .i64 v, .int .i64 u, .int .i64 c] (P ++ (Xa, L') :: R) → ∃ ao cap pp, z.heap[Xa]? = some (.cells (lkC (.slice ao L'.b.length cap) L'.v L'.m pp) 109 (0, 0)) ∧ Own eY 65 z base (.slice ao L'.b.length cap) L'.b ∧ pp = nxs R) := mkHid fun z L' h => by
          obtain ⟨_, pp, hA, hRR⟩ := h.ch.cut
          obtain ⟨ao, cap, h1, h2⟩ := hA.mem
          exact ⟨ao, cap, pp, h1, h2, hRR.nxs⟩
        obtain ⟨ao, cap, pp, hXa, hrow, hpp⟩ := HLK.out _ _ hI
        rw [hl] at hXa hrow
        have e0 := heap_cell hXa 0
        simp only [lkC] at e0
        simp at e0
        have HXA := mkHid (And.intro hXa hrow)
        have hnx : nxs ((Xa, ka) :: R) = some ⟨Xa, 0, none⟩ := rfl
        rw [hnx]
        clear hnx hI hR hXa hrow hl hpp
        go_wp2
        clear e0
        obtain ⟨wo, hwo⟩ : ∃ x, x = wr := ⟨_, rfl⟩
        subst hwo
        go_loopg [52] l.length (fun g s52 z => ∃ (j : Nat), j ≤ l.length ∧ s52 = .int .i64 j ∧ l.length - j ≤ g ∧ ShI w z base Q X #[.int .i64 n, .int .i64 v, .int .i64 u, .int .i64 c] (P ++ (Xa, ⟨renB v c (l.take j) ++ l.drop j, ka.v, ka.m⟩) :: R) ∧ z.cell? ⟨Xa, 0, none⟩ = some (.slice ao l.length cap))
        case atStart => exact ⟨0, Nat.zero_le _, rfl, by omega, (by have h := HII.out; have e : ka = ⟨renB v c (l.take 0) ++ l.drop 0, ka.v, ka.m⟩ := by rw [← HL.out]; rfl
                                                                    rw [← e]; exact h), (by have := heap_cell HXA.out.1 0; simp only [lkC] at this; simpa using this)⟩
        case round =>
          obtain ⟨j, hj, rfl, hgj, hI, hcell⟩ := hrel
          obtain ⟨lj, hlj⟩ : ∃ z, renB v c (l.take j) ++ l.drop j = z := ⟨_, rfl⟩
          rw [hlj] at hI
          have hlen : lj.length = l.length := by rw [← hlj]; simp [renB]; omega
          have HLEN := mkHid hlen
          clear hlen
          have HLJ := mkHid hlj
          have HIJ := mkHid hI
          have HCE := mkHid hcell
          obtain ⟨ao', cap', pp', hXj, hown, hpj⟩ := HLK.out _ _ hI
          have ec := heap_cell hXj 0
          simp only [lkC] at ec
          simp at ec
          rw [hcell] at ec
          simp only [Option.some.injEq, Value.slice.injEq] at ec
          obtain ⟨ea, -, eb⟩ := ec
          subst ea
          subst eb
          simp only at hXj hown
          have HXJ := mkHid hXj
          have HOJ := mkHid hown
          have HPJ := mkHid hpj
          clear hlj hpj
          by_cases hlt : j < l.length
          · obtain ⟨x, hx⟩ : ∃ x, l[j]? = some x := ⟨_, List.getElem?_eq_getElem hlt⟩
            have hxj : lj[j]? = some x := by
              rw [← HLJ.out, List.getElem?_append_right (by simp [renB]; omega)]
              simp [renB]
              rw [Nat.min_eq_left (by omega)]
              rw [← hx]
              congr 1
              omega
            obtain ⟨g, off, hab, hgl, hq⟩ := hown.at.cons (by rw [HLEN.out]; omega)
            have hoff : off = 0 := by
              rcases hown.2 with ⟨e, _⟩ | ⟨g2, cap2, cur, e, _⟩
              · simp at e; rw [hab] at e; simp at e
              · simp at e; rw [hab] at e; simp at e; exact e.1.2
            subst hab
            subst hoff
            obtain ⟨c0, c1⟩ := get_y hq hxj
            rw [Nat.zero_add] at c0 c1
            have HX := mkHid hx
            have HXB := mkHid (HSX.out.2 x (List.mem_of_getElem? hx))
            have i0 : (0 : Int) ≤ (j : Int) := by omega
            have i1 : (j : Int) < (l.length : Int) := by omega
            have HRN : Hid (∀ y, rnY v c x = y → renB v c (l.take (j + 1)) ++ l.drop (j + 1) = lj.set j y) := mkHid fun y hy => by
              rw [← HLJ.out]
              obtain ⟨hi, e⟩ := List.getElem?_eq_some_iff.1 HX.out
              have hln : (renB v c (l.take j)).length = j := by simp [renB]; omega
              rw [List.set_append_right _ _ (by omega), hln, Nat.sub_self, List.drop_eq_getElem_cons hi]
              show renB v c (l.take (j + 1)) ++ l.drop (j + 1) = renB v c (l.take j) ++ (y :: l.drop (j + 1))
              unfold renB
              rw [List.take_succ_eq_append_getElem hi, List.map_append]
              simp [e, hy]
            clear hq hx hxj hI
            obtain ⟨w5, hw5⟩ : ∃ z : World, wr.alloc (.cells #[.int .i64 x.1, .int .i64 x.2] 65) = z := ⟨_, rfl⟩
            obtain ⟨Z, hZ⟩ : ∃ z, wr.heap.size = z := ⟨_, rfl⟩
            have HB5 : Hid (Below wr.heap.size wr w5) := mkHid (by rw [← hw5]; exact bl_alloc (Below.refl _ _) _)
            have d0 : w5.cell? ⟨Z, 0, none⟩ = some (.int .i64 x.1) := by rw [← hw5, ← hZ]; simp [go_sem]
            have d1 : w5.cell? ⟨Z, 1, none⟩ = some (.int .i64 x.2) := by rw [← hw5, ← hZ]; simp [go_sem]
            have HZN : Hid (Z ≠ g) := mkHid (by rw [← hZ]; omega)
            have hZl : Z < w5.heap.size := World.block_lt_of_cell? w5 _ d0
            have HI5 := mkHid (HIJ.out.below HB5.out)
            have HO5 := mkHid (HOJ.out.below HB5.out)
            have HX5 := mkHid ((HB5.out.block Xa (heap_lt HXJ.out)).trans HXJ.out)
            have q1 := heap_cell HI5.out.q 1
            simp at q1
            by_cases hxv : x.1 = v
            · have hev : (x.1 == v) = true := beq_iff_eq.2 hxv
              obtain ⟨z, hz⟩ : ∃ z, x.2 - c = z := ⟨_, rfl⟩
              have HRE : Hid (rnY v c x = (v, z)) := mkHid (by simp [rnY, hxv, hz])
              have hren : ∀ y, Calls Tryz.prog 75 #[.agg #[.int .i64 n, .int .i64 v, .int .i64 u, .int .i64 c], .agg #[.int .i64 x.1, .int .i64 x.2]] y fun e w' => e = .returned (.tuple #[.agg #[.int .i64 v, .int .i64 z], .bool (symOkB n v z)]) ∧ Below y.heap.size y w' := fun y => by have h := renamed_any n v u c x y HXB.out HMP.out.pc; rw [hz] at h; exact h
              have HTY : Hid (∃ cur, w5.heap[g]? = some (.cells cur 65 (0, 0))) := mkHid (HO5.out.block rfl)
              have hQc : ∀ y, Only g w5 y → y.cell? ⟨Q, 0, none⟩ = some (.int .i64 n) ∧ y.cell? ⟨Q, 1, none⟩ = some (.int .i64 v) ∧ y.cell? ⟨Q, 2, none⟩ = some (.int .i64 u) ∧ y.cell? ⟨Q, 3, none⟩ = some (.int .i64 c) := fun y hy => by
                obtain ⟨cur, hcu⟩ := HTY.out
                have e := (hy.block Q (heap_lt HI5.out.q) (fun e => by cases e; have h9 := HI5.out.q; rw [hcu] at h9; simp at h9)).trans HI5.out.q
                exact ⟨heap_cell e 0, heap_cell e 1, heap_cell e 2, heap_cell e 3⟩
              have hXc : ∀ y, Only g w5 y → y.cell? ⟨Xa, 0, none⟩ = some (.slice (some ⟨g, 0, none⟩) l.length cap) := fun y hy => by
                obtain ⟨cur, hcu⟩ := HTY.out
                have e := (hy.block Xa (heap_lt HX5.out) (fun e => by cases e; have h9 := HX5.out; rw [hcu] at h9; simp at h9)).trans HX5.out
                have h8 := heap_cell e 0
                simp only [lkC] at h8
                simp at h8
                rw [HLEN.out] at h8
                exact h8
              have hZc : ∀ y, Only g w5 y → y.cell? ⟨Z, 0, none⟩ = some (.int .i64 x.1) ∧ y.cell? ⟨Z, 1, none⟩ = some (.int .i64 x.2) := fun y hy => by
                have e := hy.block Z hZl (fun e => HZN.out (Option.some.inj e))
                exact ⟨(World.cell?_of_block (a := ⟨Z, 0, none⟩) e).trans d0, (World.cell?_of_block (a := ⟨Z, 1, none⟩) e).trans d1⟩
              have hst : ∀ y, Own eY 65 y base (.slice (some ⟨g, 0, none⟩) l.length cap) lj → (∃ u0 u1, y.cell? ⟨g, j * 2, none⟩ = some u0 ∧ y.cell? ⟨g, j * 2 + 1, none⟩ = some u1) ∧ y.frozen? ⟨g, j * 2, none⟩ = false ∧ y.frozen? ⟨g, j * 2 + 1, none⟩ = false ∧ Own eY 65 ((y.setCell ⟨g, j * 2, none⟩ (.int .i64 v)).setCell ⟨g, j * 2 + 1, none⟩ (.int .i64 z)) base (.slice (some ⟨g, 0, none⟩) l.length cap) (lj.set j (v, z)) := fun y hy => by
                have h1 : y.ownsRow base 65 2 (.slice (some ⟨g, 0, none⟩) l.length cap) l.length (eY.flat lj) := by have h := hy; unfold Own at h; rw [HLEN.out] at h; exact h
                have hxl := h1.1
                refine ⟨⟨_, _, (World.ownsRow.cellAt h1 (j * 2) (by omega)).trans (List.getElem?_eq_getElem (by omega)), (World.ownsRow.cellAt h1 (j * 2 + 1) (by omega)).trans (List.getElem?_eq_getElem (by omega))⟩, World.ownsRow.frozenAt h1 _, World.ownsRow.frozenAt h1 _, ?_⟩
                have h2 := (World.ownsRow.stored (World.ownsRow.stored h1 (j * 2) (.int .i64 v)).1 (j * 2 + 1) (.int .i64 z)).1
                rw [flat_set (p := j) (x := (v, z)) (by rw [HLEN.out]; exact hlt)] at h2
                unfold Own
                rw [List.length_set, HLEN.out]
                exact h2
              have HFI : Hid (∀ y, Only g w5 y → Own eY 65 y base (.slice (some ⟨g, 0, none⟩) l.length cap) (lj.set j (v, z)) → ShI w y base Q X #[.int .i64 n, .int .i64 v, .int .i64 u, .int .i64 c] (P ++ (Xa, ⟨renB v c (l.take (j + 1)) ++ l.drop (j + 1), ka.v, ka.m⟩) :: R)) := mkHid fun y hy ho => by
                rw [HRN.out _ HRE.out]
                refine ShI.wrote (l' := lj.set j (v, z)) (ka := ⟨lj, ka.v, ka.m⟩) (cap := cap) HI5.out hy (by rw [rowB_of HX5.out]; rfl) ?_ (by simp) (by rw [List.length_set, HLEN.out]; exact ho)
                rw [List.length_set, HLEN.out]
                exact hXc _ (Only.of (Below.refl _ _))
              have HO6 : Hid (Own eY 65 w5 base (.slice (some ⟨g, 0, none⟩) l.length cap) lj) := mkHid (by have h := HO5.out; rw [HLEN.out] at h; exact h)
              clear hxv hz
              go_wp2
              clear hw5 hZ c0 c1 d0 d1 q1 hcell hev
              refine wp_region_inv2 (fun zA0 L zA va => ∃ (zB : Nat → Bool) (zS : Nat → Value), L = #[zB 0, zB 1, zB 2, zB 3, zB 4, zB 5, zB 6, zB 7, zB 8, zB 9, zB 10, zB 11, zB 12, zB 13] ∧ zA = puts zA0 [(63, zS 63), (64, zS 64), (65, zS 65), (66, zS 66), (67, zS 67), (68, zS 68), (69, zS 69), (70, zS 70), (71, zS 71), (62, zS 62), (72, zS 72), (73, zS 73), (74, zS 74)] ∧ ((zB 0 = true → zS 63 = .pointer (some ⟨Xa, 0, none⟩)) ∧ (zB 1 = true → zS 64 = .pointer (some ⟨Xa, 0, none⟩)) ∧ (zB 2 = true → zS 65 = .pointer (some ⟨Xa, 0, none⟩)) ∧ (zB 3 = true → zS 66 = .pointer (some ⟨Xa, 0, none⟩)) ∧ (zB 4 = true → zS 67 = .slice (some ⟨g, 0, none⟩) l.length cap) ∧ (zB 5 = true → zS 68 = .int .i64 (j : Int)) ∧ (zB 6 = true → zS 69 = .agg #[.int .i64 n, .int .i64 v, .int .i64 u, .int .i64 c]) ∧ (zB 7 = true → zS 70 = .agg #[.int .i64 x.1, .int .i64 x.2]) ∧ (zB 8 = true → zS 71 = .tuple #[.agg #[.int .i64 v, .int .i64 z], .bool (symOkB n v z)]) ∧ (zB 9 = true → zS 62 = .tuple #[.agg #[.int .i64 v, .int .i64 z], .bool (symOkB n v z)]) ∧ (zB 10 = true → zS 72 = .agg #[.int .i64 v, .int .i64 z]) ∧ (zB 11 = true → zS 73 = .bool (symOkB n v z)) ∧ (zB 12 = true → zS 74 = .pointer (some ⟨g, j * 2, none⟩))) ∧ (Only g w5 va ∧ Own eY 65 va base (.slice (some ⟨g, 0, none⟩) l.length cap) (sel (zB 13) (lj.set j (v, z)) lj))) (by kernel_rfl) ?_ ?_ ?_
              · exact ⟨fun _ => false, fun zd => if zd = 74 then u74 else if zd = 73 then u73 else if zd = 72 then u72 else if zd = 71 then u71 else if zd = 70 then u70 else if zd = 69 then u69 else if zd = 68 then u68 else if zd = 67 then u67 else if zd = 66 then u66 else if zd = 65 then u65 else if zd = 64 then u64 else if zd = 63 then u63 else if zd = 62 then u62 else undef, rfl, by kernel_rfl, ⟨fun e => ft e, fun e => ft e, fun e => ft e, fun e => ft e, fun e => ft e, fun e => ft e, fun e => ft e, fun e => ft e, fun e => ft e, fun e => ft e, fun e => ft e, fun e => ft e, fun e => ft e⟩, ⟨Only.of (Below.refl _ _).drew, HO6.out.below (Below.refl _ _).drew⟩⟩
              · refine StepsI.cons rfl ?_ ?_
                · rintro L zA va ⟨zB, zS, rfl, rfl, hF, hW⟩ hL hm K hK
                  have hb0 : zB 0 = false := by simpa using hL
                  clear hL hm
                  simp only [puts, Act.put, List.setIfInBounds_toArray, List.set_cons_zero, List.set_cons_succ]
                  have HWz := mkHid hW
                  clear hW
                  go_simp
                  have hW := HWz.out
                  clear HWz
                  exact hK.out _ _ ⟨fun zj => if zj = 0 then true else zB zj, fun zd => if zd = 63 then .pointer (some ⟨Xa, 0, none⟩) else zS zd, rfl, by kernel_rfl, ⟨fun _ => rfl, hF.2.1, hF.2.2.1, hF.2.2.2.1, hF.2.2.2.2.1, hF.2.2.2.2.2.1, hF.2.2.2.2.2.2.1, hF.2.2.2.2.2.2.2.1, hF.2.2.2.2.2.2.2.2.1, hF.2.2.2.2.2.2.2.2.2.1, hF.2.2.2.2.2.2.2.2.2.2.1, hF.2.2.2.2.2.2.2.2.2.2.2.1, hF.2.2.2.2.2.2.2.2.2.2.2.2⟩, hW⟩
                refine StepsI.cons rfl ?_ ?_
                · rintro L zA va ⟨zB, zS, rfl, rfl, hF, hW⟩ hL hm K hK
                  have hb1 : zB 1 = false := by simpa using hL
                  have hb0 : zB 0 = true := by cases e : zB 0 with | false => (exfalso; revert hm; simp [metB, Region.binds, e]) | true => rfl
                  have e0 : zS 63 = .pointer (some ⟨Xa, 0, none⟩) := hF.1 hb0
                  clear hL hm
                  simp only [puts, Act.put, List.setIfInBounds_toArray, List.set_cons_zero, List.set_cons_succ]
                  simp only [e0]
                  have HWz := mkHid hW
                  clear hW
                  go_simp
                  have hW := HWz.out
                  clear HWz
                  exact hK.out _ _ ⟨fun zj => if zj = 0 then true else if zj = 1 then true else zB zj, fun zd => if zd = 64 then .pointer (some ⟨Xa, 0, none⟩) else if zd = 63 then .pointer (some ⟨Xa, 0, none⟩) else zS zd, by simp [hb0], by kernel_rfl, ⟨fun _ => rfl, fun _ => rfl, hF.2.2.1, hF.2.2.2.1, hF.2.2.2.2.1, hF.2.2.2.2.2.1, hF.2.2.2.2.2.2.1, hF.2.2.2.2.2.2.2.1, hF.2.2.2.2.2.2.2.2.1, hF.2.2.2.2.2.2.2.2.2.1, hF.2.2.2.2.2.2.2.2.2.2.1, hF.2.2.2.2.2.2.2.2.2.2.2.1, hF.2.2.2.2.2.2.2.2.2.2.2.2⟩, hW⟩
                refine StepsI.cons rfl ?_ ?_
                · rintro L zA va ⟨zB, zS, rfl, rfl, hF, hW⟩ hL hm K hK
                  have hb2 : zB 2 = false := by simpa using hL
                  have hb1 : zB 1 = true := by cases e : zB 1 with | false => (exfalso; revert hm; simp [metB, Region.binds, e]) | true => rfl
                  have e1 : zS 64 = .pointer (some ⟨Xa, 0, none⟩) := hF.2.1 hb1
                  clear hL hm
                  simp only [puts, Act.put, List.setIfInBounds_toArray, List.set_cons_zero, List.set_cons_succ]
                  simp only [e1]
                  have HWz := mkHid hW
                  clear hW
                  go_simp
                  have hW := HWz.out
                  clear HWz
                  exact hK.out _ _ ⟨fun zj => if zj = 1 then true else if zj = 2 then true else zB zj, fun zd => if zd = 65 then .pointer (some ⟨Xa, 0, none⟩) else if zd = 64 then .pointer (some ⟨Xa, 0, none⟩) else zS zd, by simp [hb1], by kernel_rfl, ⟨hF.1, fun _ => rfl, fun _ => rfl, hF.2.2.2.1, hF.2.2.2.2.1, hF.2.2.2.2.2.1, hF.2.2.2.2.2.2.1, hF.2.2.2.2.2.2.2.1, hF.2.2.2.2.2.2.2.2.1, hF.2.2.2.2.2.2.2.2.2.1, hF.2.2.2.2.2.2.2.2.2.2.1, hF.2.2.2.2.2.2.2.2.2.2.2.1, hF.2.2.2.2.2.2.2.2.2.2.2.2⟩, hW⟩
                refine StepsI.cons rfl ?_ ?_
                · rintro L zA va ⟨zB, zS, rfl, rfl, hF, hW⟩ hL hm K hK
                  have hb3 : zB 3 = false := by simpa using hL
                  have hb2 : zB 2 = true := by cases e : zB 2 with | false => (exfalso; revert hm; simp [metB, Region.binds, e]) | true => rfl
                  have e2 : zS 65 = .pointer (some ⟨Xa, 0, none⟩) := hF.2.2.1 hb2
                  clear hL hm
                  simp only [puts, Act.put, List.setIfInBounds_toArray, List.set_cons_zero, List.set_cons_succ]
                  simp only [e2]
                  have HWz := mkHid hW
                  clear hW
                  go_simp
                  have hW := HWz.out
                  clear HWz
                  exact hK.out _ _ ⟨fun zj => if zj = 2 then true else if zj = 3 then true else zB zj, fun zd => if zd = 66 then .pointer (some ⟨Xa, 0, none⟩) else if zd = 65 then .pointer (some ⟨Xa, 0, none⟩) else zS zd, by simp [hb2], by kernel_rfl, ⟨hF.1, hF.2.1, fun _ => rfl, fun _ => rfl, hF.2.2.2.2.1, hF.2.2.2.2.2.1, hF.2.2.2.2.2.2.1, hF.2.2.2.2.2.2.2.1, hF.2.2.2.2.2.2.2.2.1, hF.2.2.2.2.2.2.2.2.2.1, hF.2.2.2.2.2.2.2.2.2.2.1, hF.2.2.2.2.2.2.2.2.2.2.2.1, hF.2.2.2.2.2.2.2.2.2.2.2.2⟩, hW⟩
                refine StepsI.cons rfl ?_ ?_
                · rintro L zA va ⟨zB, zS, rfl, rfl, hF, hW⟩ hL hm K hK
                  have hb4 : zB 4 = false := by simpa using hL
                  have hb3 : zB 3 = true := by cases e : zB 3 with | false => (exfalso; revert hm; simp [metB, Region.binds, e]) | true => rfl
                  have e3 : zS 66 = .pointer (some ⟨Xa, 0, none⟩) := hF.2.2.2.1 hb3
                  clear hL hm
                  simp only [puts, Act.put, List.setIfInBounds_toArray, List.set_cons_zero, List.set_cons_succ]
                  simp only [e3]
                  have q0 := hXc _ hW.1
                  have HWz := mkHid hW
                  clear hW
                  go_simp
                  have hW := HWz.out
                  clear HWz
                  exact hK.out _ _ ⟨fun zj => if zj = 3 then true else if zj = 4 then true else zB zj, fun zd => if zd = 67 then .slice (some ⟨g, 0, none⟩) l.length cap else if zd = 66 then .pointer (some ⟨Xa, 0, none⟩) else zS zd, by simp [hb3], by kernel_rfl, ⟨hF.1, hF.2.1, hF.2.2.1, fun _ => rfl, fun _ => rfl, hF.2.2.2.2.2.1, hF.2.2.2.2.2.2.1, hF.2.2.2.2.2.2.2.1, hF.2.2.2.2.2.2.2.2.1, hF.2.2.2.2.2.2.2.2.2.1, hF.2.2.2.2.2.2.2.2.2.2.1, hF.2.2.2.2.2.2.2.2.2.2.2.1, hF.2.2.2.2.2.2.2.2.2.2.2.2⟩, hW⟩
                refine StepsI.cons rfl ?_ ?_
                · rintro L zA va ⟨zB, zS, rfl, rfl, hF, hW⟩ hL hm K hK
                  have hb5 : zB 5 = false := by simpa using hL
                  clear hL hm
                  simp only [puts, Act.put, List.setIfInBounds_toArray, List.set_cons_zero, List.set_cons_succ]
                  have HWz := mkHid hW
                  clear hW
                  go_simp
                  have hW := HWz.out
                  clear HWz
                  exact hK.out _ _ ⟨fun zj => if zj = 5 then true else zB zj, fun zd => if zd = 68 then .int .i64 (j : Int) else zS zd, rfl, by kernel_rfl, ⟨hF.1, hF.2.1, hF.2.2.1, hF.2.2.2.1, hF.2.2.2.2.1, fun _ => rfl, hF.2.2.2.2.2.2.1, hF.2.2.2.2.2.2.2.1, hF.2.2.2.2.2.2.2.2.1, hF.2.2.2.2.2.2.2.2.2.1, hF.2.2.2.2.2.2.2.2.2.2.1, hF.2.2.2.2.2.2.2.2.2.2.2.1, hF.2.2.2.2.2.2.2.2.2.2.2.2⟩, hW⟩
                refine StepsI.cons rfl ?_ ?_
                · rintro L zA va ⟨zB, zS, rfl, rfl, hF, hW⟩ hL hm K hK
                  have hb6 : zB 6 = false := by simpa using hL
                  clear hL hm
                  simp only [puts, Act.put, List.setIfInBounds_toArray, List.set_cons_zero, List.set_cons_succ]
                  obtain ⟨q0, q1, q2, q3⟩ := hQc _ hW.1
                  have HWz := mkHid hW
                  clear hW
                  go_simp
                  have hW := HWz.out
                  clear HWz
                  exact hK.out _ _ ⟨fun zj => if zj = 6 then true else zB zj, fun zd => if zd = 69 then .agg #[.int .i64 n, .int .i64 v, .int .i64 u, .int .i64 c] else zS zd, rfl, by kernel_rfl, ⟨hF.1, hF.2.1, hF.2.2.1, hF.2.2.2.1, hF.2.2.2.2.1, hF.2.2.2.2.2.1, fun _ => rfl, hF.2.2.2.2.2.2.2.1, hF.2.2.2.2.2.2.2.2.1, hF.2.2.2.2.2.2.2.2.2.1, hF.2.2.2.2.2.2.2.2.2.2.1, hF.2.2.2.2.2.2.2.2.2.2.2.1, hF.2.2.2.2.2.2.2.2.2.2.2.2⟩, hW⟩
                refine StepsI.cons rfl ?_ ?_
                · rintro L zA va ⟨zB, zS, rfl, rfl, hF, hW⟩ hL hm K hK
                  have hb7 : zB 7 = false := by simpa using hL
                  clear hL hm
                  simp only [puts, Act.put, List.setIfInBounds_toArray, List.set_cons_zero, List.set_cons_succ]
                  obtain ⟨q0, q1⟩ := hZc _ hW.1
                  have HWz := mkHid hW
                  clear hW
                  go_simp
                  have hW := HWz.out
                  clear HWz
                  exact hK.out _ _ ⟨fun zj => if zj = 7 then true else zB zj, fun zd => if zd = 70 then .agg #[.int .i64 x.1, .int .i64 x.2] else zS zd, rfl, by kernel_rfl, ⟨hF.1, hF.2.1, hF.2.2.1, hF.2.2.2.1, hF.2.2.2.2.1, hF.2.2.2.2.2.1, hF.2.2.2.2.2.2.1, fun _ => rfl, hF.2.2.2.2.2.2.2.2.1, hF.2.2.2.2.2.2.2.2.2.1, hF.2.2.2.2.2.2.2.2.2.2.1, hF.2.2.2.2.2.2.2.2.2.2.2.1, hF.2.2.2.2.2.2.2.2.2.2.2.2⟩, hW⟩
                refine StepsI.cons rfl ?_ ?_
                · rintro L zA va ⟨zB, zS, rfl, rfl, hF, hW⟩ hL hm K hK
                  have hb8 : zB 8 = false := by simpa using hL
                  have hb6 : zB 6 = true := by cases e : zB 6 with | false => (exfalso; revert hm; simp [metB, Region.binds, e]) | true => rfl
                  have hb7 : zB 7 = true := by cases e : zB 7 with | false => (exfalso; revert hm; simp [metB, Region.binds, e]) | true => rfl
                  have e6 : zS 69 = .agg #[.int .i64 n, .int .i64 v, .int .i64 u, .int .i64 c] := hF.2.2.2.2.2.2.1 hb6
                  have e7 : zS 70 = .agg #[.int .i64 x.1, .int .i64 x.2] := hF.2.2.2.2.2.2.2.1 hb7
                  clear hL hm
                  simp only [puts, Act.put, List.setIfInBounds_toArray, List.set_cons_zero, List.set_cons_succ]
                  simp only [e6, e7]
                  have HWz := mkHid hW
                  clear hW
                  go_simp
                  have hW := HWz.out
                  clear HWz
                  refine (hren _).mono ?_
                  rintro e va2 ⟨rfl, hb⟩
                  have HWz := mkHid hW
                  clear hW
                  go_wp2_with fail
                  have hW := HWz.out
                  clear HWz
                  exact hK.out _ _ ⟨fun zj => if zj = 7 then true else if zj = 6 then true else if zj = 8 then true else zB zj, fun zd => if zd = 71 then .tuple #[.agg #[.int .i64 v, .int .i64 z], .bool (symOkB n v z)] else if zd = 70 then .agg #[.int .i64 x.1, .int .i64 x.2] else if zd = 69 then .agg #[.int .i64 n, .int .i64 v, .int .i64 u, .int .i64 c] else zS zd, by simp [hb6, hb7], by kernel_rfl, ⟨hF.1, hF.2.1, hF.2.2.1, hF.2.2.2.1, hF.2.2.2.2.1, hF.2.2.2.2.2.1, fun _ => rfl, fun _ => rfl, fun _ => rfl, hF.2.2.2.2.2.2.2.2.2.1, hF.2.2.2.2.2.2.2.2.2.2.1, hF.2.2.2.2.2.2.2.2.2.2.2.1, hF.2.2.2.2.2.2.2.2.2.2.2.2⟩, ⟨hW.1.trans (Only.of hb), hW.2.below hb⟩⟩
                refine StepsI.cons rfl ?_ ?_
                · rintro L zA va ⟨zB, zS, rfl, rfl, hF, hW⟩ hL hm K hK
                  have hb9 : zB 9 = false := by simpa using hL
                  have hb8 : zB 8 = true := by cases e : zB 8 with | false => (exfalso; revert hm; simp [metB, Region.binds, e]) | true => rfl
                  have e8 : zS 71 = .tuple #[.agg #[.int .i64 v, .int .i64 z], .bool (symOkB n v z)] := hF.2.2.2.2.2.2.2.2.1 hb8
                  clear hL hm
                  simp only [puts, Act.put, List.setIfInBounds_toArray, List.set_cons_zero, List.set_cons_succ]
                  simp only [e8]
                  have HWz := mkHid hW
                  clear hW
                  go_simp
                  have hW := HWz.out
                  clear HWz
                  exact hK.out _ _ ⟨fun zj => if zj = 8 then true else if zj = 9 then true else zB zj, fun zd => if zd = 62 then .tuple #[.agg #[.int .i64 v, .int .i64 z], .bool (symOkB n v z)] else if zd = 71 then .tuple #[.agg #[.int .i64 v, .int .i64 z], .bool (symOkB n v z)] else zS zd, by simp [hb8], by kernel_rfl, ⟨hF.1, hF.2.1, hF.2.2.1, hF.2.2.2.1, hF.2.2.2.2.1, hF.2.2.2.2.2.1, hF.2.2.2.2.2.2.1, hF.2.2.2.2.2.2.2.1, fun _ => rfl, fun _ => rfl, hF.2.2.2.2.2.2.2.2.2.2.1, hF.2.2.2.2.2.2.2.2.2.2.2.1, hF.2.2.2.2.2.2.2.2.2.2.2.2⟩, hW⟩
                refine StepsI.cons rfl ?_ ?_
                · rintro L zA va ⟨zB, zS, rfl, rfl, hF, hW⟩ hL hm K hK
                  have hb10 : zB 10 = false := by simpa using hL
                  have hb9 : zB 9 = true := by cases e : zB 9 with | false => (exfalso; revert hm; simp [metB, Region.binds, e]) | true => rfl
                  have e9 : zS 62 = .tuple #[.agg #[.int .i64 v, .int .i64 z], .bool (symOkB n v z)] := hF.2.2.2.2.2.2.2.2.2.1 hb9
                  clear hL hm
                  simp only [puts, Act.put, List.setIfInBounds_toArray, List.set_cons_zero, List.set_cons_succ]
                  simp only [e9]
                  have HWz := mkHid hW
                  clear hW
                  go_simp
                  have hW := HWz.out
                  clear HWz
                  exact hK.out _ _ ⟨fun zj => if zj = 9 then true else if zj = 10 then true else zB zj, fun zd => if zd = 72 then .agg #[.int .i64 v, .int .i64 z] else if zd = 62 then .tuple #[.agg #[.int .i64 v, .int .i64 z], .bool (symOkB n v z)] else zS zd, by simp [hb9], by kernel_rfl, ⟨hF.1, hF.2.1, hF.2.2.1, hF.2.2.2.1, hF.2.2.2.2.1, hF.2.2.2.2.2.1, hF.2.2.2.2.2.2.1, hF.2.2.2.2.2.2.2.1, hF.2.2.2.2.2.2.2.2.1, fun _ => rfl, fun _ => rfl, hF.2.2.2.2.2.2.2.2.2.2.2.1, hF.2.2.2.2.2.2.2.2.2.2.2.2⟩, hW⟩
                refine StepsI.cons rfl ?_ ?_
                · rintro L zA va ⟨zB, zS, rfl, rfl, hF, hW⟩ hL hm K hK
                  have hb11 : zB 11 = false := by simpa using hL
                  have hb9 : zB 9 = true := by cases e : zB 9 with | false => (exfalso; revert hm; simp [metB, Region.binds, e]) | true => rfl
                  have e9 : zS 62 = .tuple #[.agg #[.int .i64 v, .int .i64 z], .bool (symOkB n v z)] := hF.2.2.2.2.2.2.2.2.2.1 hb9
                  clear hL hm
                  simp only [puts, Act.put, List.setIfInBounds_toArray, List.set_cons_zero, List.set_cons_succ]
                  simp only [e9]
                  have HWz := mkHid hW
                  clear hW
                  go_simp
                  have hW := HWz.out
                  clear HWz
                  exact hK.out _ _ ⟨fun zj => if zj = 9 then true else if zj = 11 then true else zB zj, fun zd => if zd = 73 then .bool (symOkB n v z) else if zd = 62 then .tuple #[.agg #[.int .i64 v, .int .i64 z], .bool (symOkB n v z)] else zS zd, by simp [hb9], by kernel_rfl, ⟨hF.1, hF.2.1, hF.2.2.1, hF.2.2.2.1, hF.2.2.2.2.1, hF.2.2.2.2.2.1, hF.2.2.2.2.2.2.1, hF.2.2.2.2.2.2.2.1, hF.2.2.2.2.2.2.2.2.1, fun _ => rfl, hF.2.2.2.2.2.2.2.2.2.2.1, fun _ => rfl, hF.2.2.2.2.2.2.2.2.2.2.2.2⟩, hW⟩
                refine StepsI.cons rfl ?_ ?_
                · rintro L zA va ⟨zB, zS, rfl, rfl, hF, hW⟩ hL hm K hK
                  have hb12 : zB 12 = false := by simpa using hL
                  have hb4 : zB 4 = true := by cases e : zB 4 with | false => (exfalso; revert hm; simp [metB, Region.binds, e]) | true => rfl
                  have hb5 : zB 5 = true := by cases e : zB 5 with | false => (exfalso; revert hm; simp [metB, Region.binds, e]) | true => rfl
                  have e4 : zS 67 = .slice (some ⟨g, 0, none⟩) l.length cap := hF.2.2.2.2.1 hb4
                  have e5 : zS 68 = .int .i64 (j : Int) := hF.2.2.2.2.2.1 hb5
                  clear hL hm
                  simp only [puts, Act.put, List.setIfInBounds_toArray, List.set_cons_zero, List.set_cons_succ]
                  simp only [e4, e5]
                  have HWz := mkHid hW
                  clear hW
                  go_simp
                  have hW := HWz.out
                  clear HWz
                  exact hK.out _ _ ⟨fun zj => if zj = 5 then true else if zj = 4 then true else if zj = 12 then true else zB zj, fun zd => if zd = 74 then .pointer (some ⟨g, j * 2, none⟩) else if zd = 68 then .int .i64 (j : Int) else if zd = 67 then .slice (some ⟨g, 0, none⟩) l.length cap else zS zd, by simp [hb4, hb5], by kernel_rfl, ⟨hF.1, hF.2.1, hF.2.2.1, hF.2.2.2.1, fun _ => rfl, fun _ => rfl, hF.2.2.2.2.2.2.1, hF.2.2.2.2.2.2.2.1, hF.2.2.2.2.2.2.2.2.1, hF.2.2.2.2.2.2.2.2.2.1, hF.2.2.2.2.2.2.2.2.2.2.1, hF.2.2.2.2.2.2.2.2.2.2.2.1, fun _ => rfl⟩, hW⟩
                refine StepsI.cons rfl ?_ ?_
                · rintro L zA va ⟨zB, zS, rfl, rfl, hF, hW⟩ hL hm K hK
                  have hb13 : zB 13 = false := by simpa using hL
                  have hb10 : zB 10 = true := by cases e : zB 10 with | false => (exfalso; revert hm; simp [metB, Region.binds, e]) | true => rfl
                  have hb12 : zB 12 = true := by cases e : zB 12 with | false => (exfalso; revert hm; simp [metB, Region.binds, e]) | true => rfl
                  have e10 : zS 72 = .agg #[.int .i64 v, .int .i64 z] := hF.2.2.2.2.2.2.2.2.2.2.1 hb10
                  have e12 : zS 74 = .pointer (some ⟨g, j * 2, none⟩) := hF.2.2.2.2.2.2.2.2.2.2.2.2 hb12
                  clear hL hm
                  rw [hb13] at hW
                  simp only [puts, Act.put, List.setIfInBounds_toArray, List.set_cons_zero, List.set_cons_succ]
                  simp only [e10, e12]
                  obtain ⟨⟨u0, u1, k0, k1⟩, f0, f1, hN⟩ := hst _ hW.2
                  have HWz := mkHid hW
                  clear hW
                  go_simp
                  have hW := HWz.out
                  clear HWz
                  exact hK.out _ _ ⟨fun zj => if zj = 12 then true else if zj = 10 then true else if zj = 13 then true else zB zj, fun zd => if zd = 74 then .pointer (some ⟨g, j * 2, none⟩) else if zd = 72 then .agg #[.int .i64 v, .int .i64 z] else zS zd, by simp [hb10, hb12], by kernel_rfl, ⟨hF.1, hF.2.1, hF.2.2.1, hF.2.2.2.1, hF.2.2.2.2.1, hF.2.2.2.2.2.1, hF.2.2.2.2.2.2.1, hF.2.2.2.2.2.2.2.1, hF.2.2.2.2.2.2.2.2.1, hF.2.2.2.2.2.2.2.2.2.1, fun _ => rfl, hF.2.2.2.2.2.2.2.2.2.2.2.1, fun _ => rfl⟩, ⟨hW.1.trans ((Only.set va g (j * 2) _).trans (Only.set _ g (j * 2 + 1) _)), hN⟩⟩
                exact StepsI.nil (by kernel_rfl)
              · rintro L zA va ⟨zB, zS, rfl, rfl, hF, hW⟩ hr
                have hu := all_up (by kernel_rfl) (N := 14) (by kernel_rfl) hr
                have hb0 : zB 0 = true := by simpa using hu 0 (by decide)
                have hb1 : zB 1 = true := by simpa using hu 1 (by decide)
                have hb2 : zB 2 = true := by simpa using hu 2 (by decide)
                have hb3 : zB 3 = true := by simpa using hu 3 (by decide)
                have hb4 : zB 4 = true := by simpa using hu 4 (by decide)
                have hb5 : zB 5 = true := by simpa using hu 5 (by decide)
                have hb6 : zB 6 = true := by simpa using hu 6 (by decide)
                have hb7 : zB 7 = true := by simpa using hu 7 (by decide)
                have hb8 : zB 8 = true := by simpa using hu 8 (by decide)
                have hb9 : zB 9 = true := by simpa using hu 9 (by decide)
                have hb10 : zB 10 = true := by simpa using hu 10 (by decide)
                have hb11 : zB 11 = true := by simpa using hu 11 (by decide)
                have hb12 : zB 12 = true := by simpa using hu 12 (by decide)
                have hb13 : zB 13 = true := by simpa using hu 13 (by decide)
                have e0 : zS 63 = .pointer (some ⟨Xa, 0, none⟩) := hF.1 hb0
                have e1 : zS 64 = .pointer (some ⟨Xa, 0, none⟩) := hF.2.1 hb1
                have e2 : zS 65 = .pointer (some ⟨Xa, 0, none⟩) := hF.2.2.1 hb2
                have e3 : zS 66 = .pointer (some ⟨Xa, 0, none⟩) := hF.2.2.2.1 hb3
                have e4 : zS 67 = .slice (some ⟨g, 0, none⟩) l.length cap := hF.2.2.2.2.1 hb4
                have e5 : zS 68 = .int .i64 (j : Int) := hF.2.2.2.2.2.1 hb5
                have e6 : zS 69 = .agg #[.int .i64 n, .int .i64 v, .int .i64 u, .int .i64 c] := hF.2.2.2.2.2.2.1 hb6
                have e7 : zS 70 = .agg #[.int .i64 x.1, .int .i64 x.2] := hF.2.2.2.2.2.2.2.1 hb7
                have e8 : zS 71 = .tuple #[.agg #[.int .i64 v, .int .i64 z], .bool (symOkB n v z)] := hF.2.2.2.2.2.2.2.2.1 hb8
                have e9 : zS 62 = .tuple #[.agg #[.int .i64 v, .int .i64 z], .bool (symOkB n v z)] := hF.2.2.2.2.2.2.2.2.2.1 hb9
                have e10 : zS 72 = .agg #[.int .i64 v, .int .i64 z] := hF.2.2.2.2.2.2.2.2.2.2.1 hb10
                have e11 : zS 73 = .bool (symOkB n v z) := hF.2.2.2.2.2.2.2.2.2.2.2.1 hb11
                have e12 : zS 74 = .pointer (some ⟨g, j * 2, none⟩) := hF.2.2.2.2.2.2.2.2.2.2.2.2 hb12
                rw [hb13] at hW
                clear hu hr hF
                simp only [puts, Act.put, List.setIfInBounds_toArray, List.set_cons_zero, List.set_cons_succ]
                simp only [e0, e1, e2, e3, e4, e5, e6, e7, e8, e9, e10, e11, e12]
                clear e0 e1 e2 e3 e4 e5 e6 e7 e8 e9 e10 e11 e12
                clear hb0 hb1 hb2 hb3 hb4 hb5 hb6 hb7 hb8 hb9 hb10 hb11 hb12 hb13
                clear zB zS
                have HCF := mkHid (hXc _ hW.1)
                have HFJ := mkHid (HFI.out va hW.1 hW.2)
                clear hW hren hQc hXc hZc hst
                go_wp2
                go_roundg (l.length - (j + 1))
                case measure => omega
                case rel => exact ⟨j + 1, by omega, by go_num, Nat.le_refl _, HFJ.out, HCF.out⟩
            · have hev : (x.1 == v) = false := beq_eq_false_iff_ne.2 hxv
              have HRE : Hid (lj.set j x = lj) := mkHid (by
                refine List.ext_getElem? fun i => ?_
                rw [List.getElem?_set]
                split
                · rename_i e; subst e
                  split
                  · have h := (HRN.out x (by simp [rnY, hxv]))
                    have h2 := congrArg (fun l => l[j]?) HLJ.out
                    rw [← h2, List.getElem?_append_right (by simp [renB]; omega)]
                    have h3 : (renB v c (l.take j)).length = j := by simp [renB]; omega
                    rw [h3, Nat.sub_self, List.getElem?_drop, Nat.add_zero, HX.out]
                  · rename_i h; exact (h (by rw [HLEN.out]; exact hlt)).elim
                · rfl)
              have HFI : Hid (ShI w w5 base Q X #[.int .i64 n, .int .i64 v, .int .i64 u, .int .i64 c] (P ++ (Xa, ⟨renB v c (l.take (j + 1)) ++ l.drop (j + 1), ka.v, ka.m⟩) :: R)) := mkHid (by rw [HRN.out x (by simp [rnY, hxv]), HRE.out]; exact HI5.out)
              have HCF : Hid (w5.cell? ⟨Xa, 0, none⟩ = some (.slice (some ⟨g, 0, none⟩) l.length cap)) := mkHid (((bcell HB5.out).1 _ _ (heap_lt HXJ.out)).trans HCE.out)
              clear hxv
              go_wp2
              clear hw5 hZ c0 c1 d0 d1 q1 hcell
              go_roundg (l.length - (j + 1))
              case measure => omega
              case rel => exact ⟨j + 1, by omega, by go_num, Nat.le_refl _, HFI.out, HCF.out⟩
          · have i1 : ¬ (j : Int) < (l.length : Int) := by omega
            have HFI : Hid (ShI w wr base Q X #[.int .i64 n, .int .i64 v, .int .i64 u, .int .i64 c] ((P ++ [(Xa, renK v c ka)]) ++ R)) := mkHid (by
              have h := HIJ.out
              have e : renK v c ka = ⟨lj, ka.v, ka.m⟩ := by unfold renK; rw [HL.out, ← HLJ.out, List.take_of_length_le (by omega), List.drop_eq_nil_of_le (by omega), List.append_nil]
              rw [e]
              simpa using h)
            have e6 := heap_cell HXJ.out 6
            simp only [lkC] at e6
            simp at e6
            rw [HPJ.out] at e6
            clear hI hXj hown hcell
            go_wp2
            clear e6
            go_roundg R.length
            case measure => simp at hg; omega
            case rel => exact ⟨P ++ [(Xa, renK v c ka)], R, d ++ [ka], R.map Prod.snd, by rw [← HDR.out]; simp, by simp, rfl, by rw [List.map_append, List.map_append, HP.out]; rfl, rfl, HFI.out⟩
end Go.Proofs.YtodjmpocpfkpaaaGreat
