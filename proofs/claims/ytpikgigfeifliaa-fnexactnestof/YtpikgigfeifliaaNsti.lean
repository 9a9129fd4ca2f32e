/-
  CONTRACT of the program's NestOf.
-/
import Derived.Test.YtpikgigfeifliaaMks
import Derived.Test.YtpikgigfeifliaaLsti
import Derived.Test.YtpikgigfeifliaaRre
namespace Go.Proofs.Ytpikgigfeifliaa
open Go.RowKit Go.Shelf
attribute [local go_sem] Oper.semAt_some

theorem lastsR_le (p : Int) (es : List Ed) : (lastsR p es).length ≤ 3000 := by
  unfold lastsR
  split
  · rename_i hg
    obtain ⟨hp, _, _⟩ := all_of hg
    obtain ⟨p1, p2⟩ := btw_iff.1 hp
    rw [lastsL_len]
    omega
  · simp
theorem OwnI.cap {w : World} {base : Nat} {ao : Option Addr} {n cap : Nat} {l : List Int} (h : OwnI w base (.slice ao n cap) l) : l.length ≤ cap := by
  rcases h.2 with ⟨e, h0⟩ | ⟨g, cap', cur, e, _, _, hc, _⟩
  · omega
  · simp at e
    obtain ⟨_, _, rfl⟩ := e
    exact hc

set_option maxRecDepth 100000 in
set_option maxHeartbeats 4000000 in
theorem iNest_ok (p : Int) (es : List Ed) (a : Option Addr) (c : Nat) (w : World) (hl : KidsG w 0 a es) :
    Calls Try.prog 18 #[.agg #[.int .i64 p, .slice a es.length c]] w fun e w' => ∃ ao cap, e = .returned (.slice ao (lastsR p es).length cap) ∧ OwnII w' w.heap.size (.slice ao (lastsR p es).length cap) (nestL (lastsR p es) (lastsR p es).length) ∧ Below w.heap.size w w' := by
  obtain ⟨i0, hi0, hz⟩ := Option.map_eq_some_iff.1 Try.info3
  simp only [Prod.mk.injEq] at hz
  obtain ⟨hz0, hz1, hz2⟩ := hz
  have HI := mkHid (show Try.prog.info? 3 = some i0 ∧ i0.zero = some (.int .i64 0) ∧ i0.size = 1 ∧ i0.bytes = 8 from ⟨hi0, hz0, hz1, hz2⟩)
  obtain ⟨i1, hi1, hz⟩ := Option.map_eq_some_iff.1 Try.info33
  simp only [Prod.mk.injEq] at hz
  obtain ⟨hy0, hy1, hy2⟩ := hz
  have HJ := mkHid (show Try.prog.info? 33 = some i1 ∧ i1.zero = some (.slice none 0 0) ∧ i1.size = 1 ∧ i1.bytes = 24 from ⟨hi1, hy0, hy1, hy2⟩)
  have HL := mkHid hl
  have B0 := mkHid ((Below.refl w.heap.size w).alloc (Nat.le_refl _) (.cells #[.int .i64 p, .slice a es.length c] 29))
  have hlen := lastsR_le p es
  obtain ⟨l, hll⟩ : ∃ l, lastsR p es = l := ⟨_, rfl⟩
  rw [hll] at hlen ⊢
  have HLL := mkHid hll
  clear hl hll hi0 hz0 hz1 hz2 hi1 hy0 hy1 hy2
  refine (callsIn_wide (n := 5)).1 ?_
  refine callsIn_of_wp_marks Try.func18 rfl trivial ?_ rfl
  simp only [Try.ntmps18, List.size_toArray, List.length_cons, List.length_nil, Nat.reduceAdd, Nat.reduceSub, Array.replicate_succ, Array.replicate_zero, List.push_toArray, List.append_toArray, List.nil_append, List.cons_append]
  gi_wp2
  refine ⟨trivial, ?_⟩
  refine (callsIn_wide.2 (iLasts_ok p es a c _ (HL.out.below B0.out))).mono ?_
  rintro e w1 ⟨ga, gc, rfl, ho, hb1⟩
  rw [HLL.out] at ho ⊢
  have HO := mkHid ho
  have B1 := mkHid (below_step B0.out hb1)
  have hw1 : w.heap.size < w1.heap.size := by have := hb1.size; simp at this; omega
  clear ho hb1 B0
  gi_wp2
  refine wpIn_loop (fun A W => ∃ (k : Nat) (ao : Option Addr) (cap : Nat) (Ds : List Nat) (u5 u6 u7 u13 u14 u15 u16 u17 u18 u19 u20 u21 u22 u23 u24 u25 u26 u27 u28 : Value), k ≤ l.length ∧
      A = { tmps := #[.agg #[.int .i64 p, .slice a es.length c], .pointer (some ⟨w.heap.size, 0, none⟩), .slice none 0 0, .slice ao k cap, .slice ga l.length gc, u5, u6, u7, .agg #[.int .i64 p, .slice a es.length c], .slice ga l.length gc, .slice ga l.length gc, .int .i64 l.length, .int .i64 k, u13, u14, u15, u16, u17, u18, u19, u20, u21, u22, u23, u24, u25, u26, u27, u28], defers := Ds.map markD } ∧
      OwnII W w1.heap.size (.slice ao k cap) (nestL l k) ∧ Ds.Nodup ∧ (∀ D ∈ Ds, w1.heap.size ≤ D ∧ W.heap[D]? = some (.deferred (some []))) ∧ Below w1.heap.size w1 W)
    (fun A _ => l.length - (intOf (A.tmps.getD 12 undef)).toNat) ?_ ?_
  · exact ⟨0, none, 0, [], _, _, _, _, _, _, _, _, _, _, _, _, _, _, _, _, _, _, _, Nat.zero_le _, rfl, OwnII.nil _ _, List.nodup_nil, fun D h => by simp at h, Below.refl _ _⟩
  · rintro A W ⟨k, ao, cap, Ds, u5, u6, u7, u13, u14, u15, u16, u17, u18, u19, u20, u21, u22, u23, u24, u25, u26, u27, u28, hk, rfl, hown, hnd, hds, hbel⟩
    by_cases hlt : k < l.length
    · have k1 : (k : Int) < (l.length : Int) := by omega
      obtain ⟨g, rfl, hgl, hgc⟩ : ∃ g, ga = some ⟨g, 0, none⟩ ∧ g < w1.heap.size ∧ (∀ (i : Nat) (x : Int), l[i]? = some x → w1.cell? ⟨g, 0 + i, none⟩ = some (.int .i64 x)) := by
        rcases HO.out.at with h | ⟨b, o, rfl, h⟩
        · subst h; simp at hlt
        · rcases HO.out.2 with ⟨e, _⟩ | ⟨g', _, _, e, _⟩
          · simp at e
          · simp at e
            obtain ⟨⟨rfl, rfl⟩, _⟩ := e
            exact ⟨b, rfl, (World.ownsRow.lt HO.out b rfl).2, h⟩
      have hsz := hbel.size
      have hcap := HO.out.cap
      obtain ⟨vs, hv1, hv2⟩ := hown
      have HV := mkHid hv1
      have HN := mkHid hv2
      have HB := mkHid hbel
      have HD := mkHid hds
      have HC := mkHid hgc
      clear hv1 hv2 hbel hds hgc
      obtain ⟨w3, hw3⟩ : ∃ w3, ((W.alloc (.cells #[.slice none 0 0] 33)).alloc (.cells #[.slice (some ⟨g, 0, none⟩) l.length gc] 52)).alloc (.cells #[.int .i64 k] 3) = w3 := ⟨_, rfl⟩
      have s3 : w3.heap.size = W.heap.size + 3 := by rw [← hw3]; simp
      have B3 : Hid (Below W.heap.size W w3) := mkHid (by rw [← hw3]; exact (((Below.refl W.heap.size W).alloc (Nat.le_refl _) _).alloc (by simp) _).alloc (by simp; omega) _)
      have bO : Hid (Boxed w3 W.heap.size 33 (.slice none 0 0)) := mkHid (by rw [← hw3]; exact ((Boxed.new W 33 _).alloc _).alloc _)
      have bA : Hid (Boxed w3 (W.heap.size + 1) 52 (.slice (some ⟨g, 0, none⟩) l.length gc)) := mkHid (by
        rw [← hw3]
        have := (Boxed.new (W.alloc (.cells #[.slice none 0 0] 33)) 52 (.slice (some ⟨g, 0, none⟩) l.length gc)).alloc (.cells #[.int .i64 k] 3)
        rwa [World.size_alloc] at this)
      have bP : Hid (Boxed w3 (W.heap.size + 2) 3 (.int .i64 k)) := mkHid (by
        rw [← hw3]
        have := Boxed.new ((W.alloc (.cells #[.slice none 0 0] 33)).alloc (.cells #[.slice (some ⟨g, 0, none⟩) l.length gc] 52)) 3 (.int .i64 k)
        simpa using this)
      have HW3 := mkHid hw3
      clear hw3
      gi_wp2
      refine ⟨trivial, ?_⟩
      refine (around_in Fence.wide 4 trivial rfl _ _ _ _ _).mono ?_
      rintro e w3' ⟨rfl, rfl⟩
      rw [HW3.out]
      simp only [World.size_alloc, Nat.add_assoc, Nat.reduceAdd]
      gi_wp2
      refine wpIn_rangeFunc_ownG rfl (by omega) (gf := 37) (lb := #[.pointer (some ⟨W.heap.size + 1, 0, none⟩), .pointer (some ⟨W.heap.size + 2, 0, none⟩)]) rfl trivial (enters_of Try.func37 (by kernel_rfl) rfl)
        (around_stops Fence.wide 4 trivial rfl (by omega) W.heap.size g 0 gc k l hlen hlt hcap (by omega) w3 (by omega) bA.out.cell bP.out.cell
          (fun i x hx => (B3.out.cell (p := ⟨g, 0 + i, none⟩) (by dsimp only; omega)).trans ((HB.out.cell (p := ⟨g, 0 + i, none⟩) hgl).trans (HC.out i x hx)))) Sel.trans (fun V D o o' hD _ _ _ => Sel.put (by omega)) (Below.refl _ _) (fun _ => rfl)
        (fun pre V => (∃ v, Boxed V W.heap.size 33 v ∧ V.ownsRow (W.heap.size + 3) 3 1 v pre.length (ints pre) ∧ True) ∧ Sel W.heap.size w3 V)
        (fun _ _ _ => False)
        (OwnFrom.and (Own.from (holdsRow_own (W.heap.size + 3) W.heap.size 33 3 1 (fun pre => pre.length) (fun pre => ints pre) (fun _ _ => True)) _) (sel_own (by omega) (by omega)))
        (fun _ _ _ _ _ hs _ _ => hs)
        ⟨⟨_, bO.out, World.ownsRow_nil _ _ _ _, trivial⟩, Sel.refl _ _⟩
        (fun x => { tmps := #[.agg #[.int .i64 p, .slice a es.length c], .pointer (some ⟨w.heap.size, 0, none⟩), .slice none 0 0, .slice ao k cap, .slice (some ⟨g, 0, none⟩) l.length gc, .int .i64 k, .pointer (some ⟨W.heap.size, 0, none⟩), .int .i64 x, .agg #[.int .i64 p, .slice a es.length c], .slice (some ⟨g, 0, none⟩) l.length gc, .slice (some ⟨g, 0, none⟩) l.length gc, .int .i64 l.length, .int .i64 k, .bool true, .int .i64 k, .slice (some ⟨g, 0, none⟩) l.length gc, .int .i64 k, .func (.func 37) #[] #[.pointer (some ⟨W.heap.size + 1, 0, none⟩), .pointer (some ⟨W.heap.size + 2, 0, none⟩)], .int .i64 x, u19, u20, u21, u22, u23, u24, u25, u26, u27, u28], defers := [] }) ?assign ?body ?done ?stop
      case assign =>
        intro l' x V K hK
        gi_wp2
        exact hK
      case body =>
        rintro l' pre x V ⟨⟨v, hv, hrow, _⟩, hsel⟩ hlt'
        have hc := hv.cell
        have hVs := hsel.2.2.2.1
        have HR := mkHid hrow
        have HS := mkHid hsel
        have HVB := mkHid hv
        clear hrow hsel hv
        gi_wp2_with (gi_at_builtin; refine wpListIn_append_own _ rfl _ _ 33 rfl (W.heap.size + 3) 3 i0 (.int .i64 0) 1 8 Try.underlying33 HI.out.1 HI.out.2.1 HI.out.2.2.1 HI.out.2.2.2 rfl (by decide) _ _ _ rfl (HR.out.alloc _) ⟨V.heap.size, 0, none⟩ 1 1 [.int .i64 x] rfl rfl (cell_one_new _ _ _) (by simp [Value.oneCell']) (by unfold maxLen; omega) (by omega) (by simp; omega) ?_; intro v' w4 hown' hgrow _; obtain ⟨g', cap', rfl⟩ := ownsRow_succ hown'; obtain ⟨hv1, hv2, hr2, hk2, hb2⟩ := boxed_appended HVB.out HR.out (by omega) hown' hgrow; have hc1 := hv1.cell; have hf1 := hv1.frozen)
        exact ⟨hk2.from _, hb2, ⟨_, hv2, by rw [← ints_snoc]; simpa using hr2, trivial⟩, HS.out.trans hb2⟩
      case done =>
        rintro D ys V hD rfl ⟨⟨v, hv, hrow, _⟩, hsel⟩ hK
        have hrow' : OwnI V (W.heap.size + 3) v (nestAt l k) := hrow
        obtain ⟨va, vc, rfl⟩ := hrow'.form
        have hc := hv.cell
        have hVs := hsel.2.2.2.1
        have BV := mkHid (Below.trans B3.out hsel.below)
        have HU := mkHid hrow'
        have HK := mkHid hK
        clear hrow hsel hv hK hrow'
        gi_wp2_with (gi_at_builtin; refine wpListIn_append_own _ rfl _ _ 38 rfl w1.heap.size 33 i1 (.slice none 0 0) 1 24 Try.underlying38 HJ.out.1 HJ.out.2.1 HJ.out.2.2.1 HJ.out.2.2.2 rfl (by decide) _ _ _ rfl ((owns_below HV.out BV.out).alloc _) ⟨V.heap.size, 0, none⟩ 1 1 [.slice va (nestAt l k).length vc] rfl rfl (cell_one_new _ _ _) (by simp [Value.oneCell']) (by rw [nestL_len]; unfold maxLen; omega) (by rw [nestL_len]; omega) (by simp; omega) ?_; intro v' w5 hown' hgrow _; obtain ⟨g', cap', rfl⟩ := ownsRow_succ hown')
        rw [nestL_len] at hown' ⊢
        have hin : OwnII w5 w1.heap.size (.slice (some ⟨g', 0, none⟩) (k + 1) cap') (nestL l (k + 1)) := by
          have h1 := (owns_below HV.out BV.out).alloc (.cells #[.slice va (nestAt l k).length vc] 33)
          rw [nestL_len] at h1
          exact OwnII.snoc HN.out (Nat.le_refl _) (by omega) (by omega) (HN.out.below BV.out) h1 HU.out hown' (nestL_len l k) hgrow
        have hDl : ∀ D' ∈ Ds, D' < W.heap.size := fun D' h => (Array.getElem?_eq_some_iff.1 (HD.out D' h).2).1
        have hkp : ∀ (D' : Nat), V.heap[D']? = some (.deferred (some [])) → w5.heap[D']? = some (.deferred (some [])) := fun D' h =>
          deferred_kept ((owns_below HV.out BV.out).alloc _) hgrow ((Below.heap_alloc _ _ _ (Array.getElem?_eq_some_iff.1 h).1).trans h)
        refine ⟨⟨k + 1, some ⟨g', 0, none⟩, cap', D :: Ds, _, _, _, _, _, _, _, _, _, _, _, _, _, _, _, _, _, _, _, by omega, rfl, hin, List.nodup_cons.2 ⟨fun h => ?_, hnd⟩, fun D' h => ?_, ?_⟩, ?_⟩
        · have := hDl D h
          omega
        · rcases List.mem_cons.1 h with rfl | h
          · exact ⟨by omega, hkp _ HK.out⟩
          · exact ⟨(HD.out D' h).1, hkp _ ((BV.out.block D' (hDl D' h)).trans (HD.out D' h).2)⟩
        · refine Below.grown ((HB.out.trans (BV.out.mono hsz)).alloc (by omega) _) hgrow (by simp; omega) (fun q hq => (World.ownsRow.lt HV.out q hq).1)
        · simp [intOf]
          omega
      case stop =>
        rintro D c' pre V _ _ h _
        exact h.elim
    · obtain rfl : k = l.length := by omega
      have HN := mkHid hown
      have HB := mkHid hbel
      gi_wp2
      refine leaves_marks (n1 := w1.heap.size) (fun V => OwnII V w1.heap.size (.slice ao l.length cap) (nestL l l.length) ∧ Below w.heap.size w V) (fun V D h1 h2 h3 => ⟨h1.1.put _ h2, ?_⟩) (fun V h => ?_) Ds W hnd hds ⟨hown, B1.out.trans (hbel.mono (by omega))⟩
      · have hg := grownBy_putObj' V D (.deferred none)
        exact h1.2.grown hg (by have := h1.2.size; omega) (fun q e => by cases e; omega)
      · exact ⟨_, results_tmp rfl _ _ _, ao, cap, rfl, h.1.mono (by omega), h.2⟩
end Go.Proofs.Ytpikgigfeifliaa
