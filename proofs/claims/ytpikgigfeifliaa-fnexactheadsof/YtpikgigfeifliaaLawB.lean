/-
  FnExactHeadsOf holds at every argument: no conditions.
-/
import Derived.Test.YtpikgigfeifliaaLawA
import Derived.Test.YtpikgigfeifliaaHdsb
import Derived.Test.YtpikgigfeifliaaMkg
namespace Go.Proofs.Ytpikgigfeifliaa
open Go.ChangeShapes Go.WideShapes Go.ChangeAt Go.RowKit Go.Joins Go.Deep

theorem OwnI.outs {w w' : World} {base lo hi : Nat} {v : Value} {l : List Int} (h : OwnI w base v l) (ho : Outs lo hi w w') (hq : ∀ q, v.ownBlock = some q → ¬ (lo ≤ q ∧ q < hi)) : OwnI w' base v l := by
  refine ⟨h.1, ?_⟩
  rcases h.2 with h0 | ⟨g, cap, cur, rfl, e2, e3, e4⟩
  · exact .inl h0
  · have hlt : g < w.heap.size := (Array.getElem?_eq_some_iff.1 e3).1
    exact .inr ⟨g, cap, cur, rfl, e2, (ho.block g hlt (hq g rfl)).trans e3, e4⟩
theorem OwnI.grown {w w' : World} {base : Nat} {v : Value} {l : List Int} {row : Option Nat} (h : OwnI w base v l) (ho : w.grownBy w' row) (hq : ∀ q, v.ownBlock = some q → row ≠ some q) : OwnI w' base v l := by
  refine ⟨h.1, ?_⟩
  rcases h.2 with h0 | ⟨g, cap, cur, rfl, e2, e3, e4⟩
  · exact .inl h0
  · have hlt : g < w.heap.size := (Array.getElem?_eq_some_iff.1 e3).1
    exact .inr ⟨g, cap, cur, rfl, e2, (ho.block g hlt (fun e => hq g rfl e.symm)).trans e3, e4⟩
theorem OwnI.lt {w : World} {base : Nat} {v : Value} {l : List Int} (h : OwnI w base v l) {q : Nat} (hq : v.ownBlock = some q) : base ≤ q ∧ q < w.heap.size := World.ownsRow.lt h q hq
theorem Two.at {w w' : World} {b : Nat} {p : Int} {a : Option Addr} {n c : Nat} (h : Two w b p a n c) (hb : w'.heap[b]? = w.heap[b]?) : Two w' b p a n c :=
  ⟨(World.cell?_of_block (w := w) hb).trans h.1, (World.cell?_of_block (w := w) hb).trans h.2⟩

set_option maxHeartbeats 3200000 in
theorem lawB_walk (p : Int) (es : List Ed) (a : Option Addr) (c : Nat) (w : World) (hn : es.length ≤ maxLen) (hk : KidsG w 0 a es) :
    Calls Try.prog 4 #[.agg #[.int .i64 p, .slice a es.length c]] w fun e w' => e = .returned (.bool true) ∧ Below w.heap.size w w' := by
  have HS := mkHid hn
  have HK := mkHid hk
  have B0 := mkHid ((Below.refl w.heap.size w).alloc (Nat.le_refl _) (.cells #[.int .i64 p, .slice a es.length c] 24))
  have F0 := mkHid (Two.new w p a es.length c 24)
  obtain ⟨l, hl⟩ : ∃ l, l = headsL (lastsR p es) := ⟨_, rfl⟩
  have hll : l.length ≤ 3000 := by
    rw [hl]
    have h1 := headsT_len (lastsR p es) (lastsR p es).length
    have h2 : (lastsR p es).length ≤ 3000 := by
      unfold lastsR
      split
      · rename_i hg
        obtain ⟨hp, _, _⟩ := all_of hg
        obtain ⟨p1, p2⟩ := btw_iff.1 hp
        rw [lastsL_len]
        omega
      · simp
    unfold headsL
    omega
  have hlm : l.length ≤ maxLen := by unfold maxLen; omega
  have HSP : Hid (∀ (a : Option Addr) (c : Nat) (w : World), KidsG w 0 a es → Calls Try.prog 11 #[.agg #[.int .i64 p, .slice a es.length c]] w fun e w' => ∃ ao cap, e = .returned (.slice ao l.length cap) ∧ OwnI w' w.heap.size (.slice ao l.length cap) l ∧ Below w.heap.size w w') := by rw [hl]; exact fun a c w h => sHeads_ok p es a c w h
  have HIP : Hid (∀ (a : Option Addr) (c : Nat) (w : World), KidsG w 0 a es → Calls Try.prog 12 #[.agg #[.int .i64 p, .slice a es.length c]] w fun e w' => ∃ ao cap, e = .returned (.slice ao l.length cap) ∧ OwnI w' w.heap.size (.slice ao l.length cap) l ∧ Below w.heap.size w w') := by rw [hl]; exact fun a c w h => iHeads_ok p es a c w h
  have HLM := mkHid hlm
  clear hn hk hl hlm
  go_enter Try.func4, Try.ntmps4
  go_wp2_with fail
  refine (szGraph_ok p es a c _ _ HS.out (HK.out.below B0.out) (by omega) (by omega)).mono ?_
  rintro e w1 ⟨⟨r, rfl, hm⟩, hb1⟩
  have B1 := mkHid (below_step B0.out hb1)
  have F1 := mkHid (F0.out.below hb1)
  have HM := mkHid hm
  clear hb1 hm F0 B0
  by_cases hr : r < 0
  · go_wp2
    go_ret
    exact ⟨rfl, B1.out⟩
  · have HZ : Hid (es.length + ebulk es ≤ 1048576) := mkHid (by have := HM.out; omega)
    clear HM
    obtain ⟨p0, p1⟩ := F1.out
    go_wp2_with fail
    refine (toGraph_ok p es a c _ HZ.out (HK.out.below B1.out)).mono ?_
    rintro e w2 ⟨⟨a2, c2, rfl, hk2, _⟩, hb2⟩
    have B2 := mkHid (below_step B1.out hb2)
    have F2 := mkHid (F1.out.below hb2)
    have K2 := mkHid (hk2.plain.lower (Nat.zero_le _))
    clear hb2 hk2 F1 B1 p0 p1
    go_wp2_with fail
    refine (HSP.out a2 c2 _ K2.out).mono ?_
    rintro e w3 ⟨sa, sc, rfl, so, hb3⟩
    have B3 := mkHid (below_step B2.out hb3)
    have F3 := mkHid (F2.out.below hb3)
    have S3 := mkHid so
    have hz3 : w.heap.size < w3.heap.size := World.block_lt_of_cell? w3 _ F3.out.1
    have z3 := hb3.size
    clear hb3 F2 K2 so
    obtain ⟨p0, p1⟩ := F3.out
    go_wp2_with fail
    refine (toGraph_ok p es a c _ HZ.out (HK.out.below B3.out)).mono ?_
    rintro e w4 ⟨⟨a4, c4, rfl, hk4, _⟩, hb4⟩
    have B4 := mkHid (below_step B3.out hb4)
    have F4 := mkHid (F3.out.below hb4)
    have K4 := mkHid (hk4.plain.lower (Nat.zero_le _))
    have M4 := mkHid hk4.mk
    have S4 := mkHid (S3.out.below hb4)
    have z4 := hb4.size
    have SL : Hid (∀ q, Value.ownBlock (.slice sa l.length sc) = some q → w.heap.size ≤ q ∧ q < w3.heap.size) := mkHid fun q hq => by
      have h1 := S3.out.lt hq
      have h2 := B2.out.size
      exact ⟨by omega, h1.2⟩
    clear hb4 hk4 F3 p0 p1 S3
    go_wp2_with fail
    have A4 := mkHid ((Below.refl w4.heap.size w4).alloc (Nat.le_refl _) (.cells #[.int .i64 p, .slice a4 es.length c4] 29))
    refine (HIP.out a4 c4 _ (K4.out.below A4.out)).mono ?_
    rintro e w5 ⟨ga, gc, rfl, go, hb5⟩
    have B5 := mkHid (below_step (below_step B4.out A4.out) hb5)
    have F5 := mkHid ((F4.out.below A4.out).below hb5)
    have X5 := mkHid ((Two.new w4 p a4 es.length c4 29).below hb5)
    have K5 := mkHid ((K4.out.below A4.out).below hb5)
    have M5 := mkHid ((M4.out.below A4.out).below hb5)
    have S5 := mkHid ((S4.out.below A4.out).below hb5)
    have G5 := mkHid go
    have GL : Hid (∀ q, Value.ownBlock (.slice ga l.length gc) = some q → w4.heap.size < q ∧ q < w5.heap.size) := mkHid fun q hq => by
      have h1 := G5.out.lt hq
      simp at h1
      exact ⟨by omega, h1.2⟩
    have z5 : w4.heap.size < w5.heap.size := by have := hb5.size; simp at this; omega
    clear hb5 A4 F4 B4 K4 M4 S4 go
    go_wp2_with fail
    refine (eqIntS_ok l ga sa gc sc _ HLM.out G5.out.at S5.out.at).mono ?_
    rintro e w6 ⟨rfl, hb6⟩
    have B6 := mkHid (below_step B5.out hb6)
    have F6 := mkHid (F5.out.below hb6)
    have X6 := mkHid (X5.out.below hb6)
    have K6 := mkHid (K5.out.below hb6)
    have M6 := mkHid (M5.out.below hb6)
    have S6 := mkHid (S5.out.below hb6)
    have G6 := mkHid (G5.out.below hb6)
    have z6 := hb6.size
    clear hb6 B5 F5 X5 K5 M5 S5 G5
    obtain ⟨p0, p1⟩ := F6.out
    obtain ⟨q0, q1⟩ := X6.out
    have hlx : w.heap.size < w6.heap.size := World.block_lt_of_cell? w6 _ p0
    have hly : w4.heap.size < w6.heap.size := World.block_lt_of_cell? w6 _ q0
    go_wp2_with fail
    go_region_held3 (fun w' => w'.cell? ⟨w.heap.size, 0, none⟩ = some (.int .i64 p) ∧ w'.cell? ⟨w.heap.size, 1, none⟩ = some (.slice a es.length c) ∧ w'.cell? ⟨w4.heap.size, 0, none⟩ = some (.int .i64 p) ∧ w'.cell? ⟨w4.heap.size, 1, none⟩ = some (.slice a4 es.length c4))
      (first | exact ⟨p0, p1, q0, q1⟩ | exact ⟨(hc _ _ hlx).trans p0, (hc _ _ hlx).trans p1, (hc _ _ hly).trans q0, (hc _ _ hly).trans q1⟩)
      (first | (go_at_call 8; refine (toGraph_ok p es a c _ HZ.out (HK.out.below B6.out.drew)).mono ?_; rintro e w7 ⟨⟨a7, c7, rfl, hk7, _⟩, hb7⟩; obtain ⟨hc, hf⟩ := bcell hb7) | (go_at_call 10; refine (eqGraph_ok p es a4 a7 c4 c7 _ HS.out ((K6.out.below (Below.refl _ _).drew).below hb7) (hk7.plain.lower (Nat.zero_le _))).mono ?_; rintro e w8 ⟨rfl, hb8⟩; obtain ⟨hc', hf'⟩ := bcell hb8; have hc := fun (b o : Nat) (h : b < w6.drew.heap.size) => (hc' b o (Nat.lt_of_lt_of_le h hb7.size)).trans (hc b o h)))
    have N8 := mkHid (below_step (below_step (Below.refl w6.heap.size w6).drew hb7) hb8)
    have B8 := mkHid (below_step B6.out N8.out)
    have F8 := mkHid (F6.out.below N8.out)
    have X8 := mkHid (X6.out.below N8.out)
    have M8 := mkHid (M6.out.below N8.out)
    have S8 := mkHid (S6.out.below N8.out)
    have G8 := mkHid (G6.out.below N8.out)
    have z8 := N8.out.size
    clear hc hc' hf hf' hb7 hb8 hk7 p0 p1 q0 q1 B6 F6 X6 K6 M6 S6 G6 N8
    obtain ⟨q0, q1⟩ := X8.out
    go_wp2_with fail
    refine (markGraph_ok p es w3.heap.size w4.heap.size a4 c4 _ M8.out HZ.out).mono ?_
    rintro e w9 ⟨⟨r9, rfl, hr9⟩, ho9⟩
    have hB3 := B3.out.size
    have B9 : Hid (Below w.heap.size w w9) := mkHid ⟨ho9.os.trans B8.out.os, ho9.tape.trans B8.out.tape, ho9.output.trans B8.out.output, Nat.le_trans B8.out.size ho9.size, fun i hi => (ho9.block i (Nat.lt_of_lt_of_le hi B8.out.size) (by omega)).trans (B8.out.block i hi)⟩
    have F9 := mkHid (F8.out.at (ho9.block w.heap.size (by omega) (by omega)))
    have S9 := mkHid (S8.out.outs ho9 (fun q hq h => by have := SL.out q hq; omega))
    have G9 := mkHid (G8.out.outs ho9 (fun q hq h => by have := GL.out q hq; omega))
    have z9 := ho9.size
    have hr9' : ¬ r9 < 0 := by omega
    clear ho9 q0 q1 X8 M8 S8 G8 F8 B8
    go_wp2_with fail
    refine (eqIntS_ok l ga sa gc sc _ HLM.out G9.out.at S9.out.at).mono ?_
    rintro e w10 ⟨rfl, hb10⟩
    have B10 := mkHid (below_step B9.out hb10)
    have F10 := mkHid (F9.out.below hb10)
    have S10 := mkHid (S9.out.below hb10)
    have G10 := mkHid (G9.out.below hb10)
    have z10 := hb10.size
    clear hb10 B9 F9 S9 G9
    go_wp2_with fail
    refine (markIntS_ok l ga gc _ 1 _ (by omega) (by omega) (by omega) G10.out).mono ?_
    rintro e w11 ⟨rfl, go11, hg11⟩
    have B11 : Hid (Below w.heap.size w w11) := mkHid (B10.out.grown hg11 B10.out.size (fun q hq => by have := GL.out q hq; omega))
    have F11 := mkHid (F10.out.at (hg11.block w.heap.size (by omega) (fun e => by have := GL.out _ e.symm; omega)))
    have S11 := mkHid (S10.out.grown hg11 (fun q hq e => by have h1 := SL.out q hq; have h2 := GL.out q e; omega))
    have G11 := mkHid go11
    have z11 := hg11.size
    clear hg11 go11 B10 F10 S10 G10
    go_wp2_with fail
    refine (heldIntS_ok l.length ga gc 1 _ (by omega) (by omega) (by omega) G11.out.at).mono ?_
    rintro e w12 ⟨rfl, rfl⟩
    obtain ⟨p0, p1⟩ := F11.out
    have hq0 : ¬ (1 + (l.length : Int) < 0) := by omega
    go_wp2_with fail
    refine (toGraph_ok p es a c _ HZ.out (HK.out.below B11.out)).mono ?_
    rintro e w13 ⟨⟨a13, c13, rfl, hk13, _⟩, hb13⟩
    have B13 := mkHid (below_step B11.out hb13)
    have K13 := mkHid (hk13.plain.lower (Nat.zero_le _))
    have S13 := mkHid (S11.out.below hb13)
    have G13 := mkHid (G11.out.below hb13)
    clear hb13 hk13 p0 p1 B11 F11 S11 G11
    go_wp2_with fail
    refine (HIP.out a13 c13 _ K13.out).mono ?_
    rintro e w14 ⟨ha, hcap, rfl, ho14, hb14⟩
    have B14 := mkHid (below_step B13.out hb14)
    have S14 := mkHid (S13.out.below hb14)
    have G14 := mkHid (G13.out.below hb14)
    have H14 := mkHid ho14
    clear hb14 ho14 B13 K13 S13 G13
    go_wp2_with fail
    refine (eqIntS_ok l ha sa hcap sc _ HLM.out H14.out.at S14.out.at).mono ?_
    rintro e w15 ⟨rfl, hb15⟩
    have B15 := mkHid (below_step B14.out hb15)
    have G15 := mkHid (G14.out.below hb15)
    clear hb15 B14 S14 G14 H14
    go_wp2_with fail
    refine (heldIntS_ok l.length ga gc 1 _ (by omega) (by omega) (by omega) G15.out.at).mono ?_
    rintro e w16 ⟨rfl, rfl⟩
    go_wp2
    go_ret
    exact ⟨rfl, B15.out⟩

set_option maxRecDepth 100000 in
theorem lawB_lifted (os : Os) (started : os.Started) (H : Type) (enc : TypeId × Value → H) :
    ReturnsInHanded {} Try.checked os 4 .any (Rows.fnExactHeadsOfSpec.pre6 enc Try.prog Try.f4 Rows.fnExactHeadsOfRow.domain false) (Rows.fnExactHeadsOfSpec.post enc Try.prog Try.f4 false true false false) := by
  refine returnsInHanded_of_change (C := Try.checked) Try.own started (by kernel_rfl) Try.func4
    (ChangeSpec.witness6 (enc := enc) (C := Try.checked) false ⟨#[], #[.agg #[.int .i64 0, .slice none 0 0]], []⟩ 8 (by kernel_rfl) (by kernel_rfl) (by kernel_rfl) (by kernel_rfl)) ?_
  intro W base args ds gs before hval0 hW hcnd _
  have hval : ∀ (j : Nat) t v, Try.f4.params[j]? = some t → args[j]? = some v → Value.okWide Try.prog W .any base t v := hval0
  have hW' := hW
  obtain ⟨p, q, hA0, hV, rfl, hfz, hnd⟩ := hW
  have hA : DataW.TrodAll enc Try.prog W 0 (fun _ => true) true Try.f4.params.toList args.toList ds p := hA0
  rw [Try.params4] at hA hval
  obtain ⟨v0, d0, rfl, rfl, h0⟩ := trodAll_one hA
  obtain ⟨rfl, rfl⟩ := trodVars_none hV
  have k0 := h0
  have lt0 : ∀ x ∈ p, x.block < W.heap.size := by obtain ⟨m, hm⟩ := k0; exact DataW.trod_lt m _ _ _ hm
  obtain ⟨c0, c1, y0, y1, m, hv, _, _, hy0, hy1⟩ := open_agg2 Try.underlying24 (by kernel_rfl) Try.cells24 (hval 0 24 v0 rfl rfl) h0
  obtain ⟨x0, e0, _, _⟩ := DataW.trod_int Try.underlying3 hy0
  obtain ⟨a, c, es, e1, hn, hk⟩ := open_edges hy1
  simp at e0
  subst e0 e1 hv
  clear hA0 hval0
  refine (lawB_walk x0 es a c W hn hk).mono fun e W' ⟨he, bel⟩ => ?_
  subst he
  exact ⟨_, rfl, _, _, _, [], _, [], hW', trodAll_mk1 (shut_bool Try.underlying4 _), trodAll_mk1 (Below.trod Try.laidOut (by kernel_rfl) (of_decide_eq_true (by kernel_rfl)) k0 bel lt0), rfl, bel.frame _, fun h => by cases h⟩

theorem lawB_holds : Rows.FnExactHeadsOfSaid :=
  OpenClaim.holds_of_wide 4 Try.f4 rfl rfl rfl rfl rfl rfl rfl ⟨rfl, rfl, rfl, rfl, rfl⟩ rfl rfl rfl rfl rfl (by kernel_rfl) Try.func4 (by kernel_rfl)
    (of_decide_eq_true (by kernel_rfl)) (by unfold Func.isWrapper; first | (rw [if_pos (by decide +kernel)]; kernel_rfl) | (rw [if_neg (by decide +kernel)]; exact ⟨rfl, rfl⟩))
    (fun os started H enc _ => lawB_lifted os started H enc)

#print axioms lawB_holds
end Go.Proofs.Ytpikgigfeifliaa
