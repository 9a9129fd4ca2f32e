/-
  FnExactNestOf holds at every argument: no conditions.
-/
import Derived.Test.YtpikgigfeifliaaLawA
import Derived.Test.YtpikgigfeifliaaNst
import Derived.Test.YtpikgigfeifliaaNsti
import Derived.Test.YtpikgigfeifliaaMkg
namespace Go.Proofs.Ytpikgigfeifliaa
open Go.ChangeShapes Go.WideShapes Go.ChangeAt Go.RowKit Go.Joins Go.Deep

/-- A row of rows whose blocks lie below top. -/
def OwnT (w : World) (base top : Nat) (v : Value) (ls : List (List Int)) : Prop :=
  ∃ vs, w.ownsRow base 33 1 v ls.length vs ∧ Inn w base vs ls ∧ (∀ q, v.ownBlock = some q → q < top) ∧ (∀ (i : Nat) (u : Value) (q : Nat), vs[i]? = some u → u.ownBlock = some q → q < top)
theorem OwnII.top {w : World} {base : Nat} {v : Value} {ls : List (List Int)} (h : OwnII w base v ls) : OwnT w base w.heap.size v ls := by
  obtain ⟨vs, h1, h2⟩ := h
  exact ⟨vs, h1, h2, fun q hq => (World.ownsRow.lt h1 q hq).2, fun i u q hu hq => (h2.lt hu hq).2⟩
theorem OwnT.own {w : World} {base top : Nat} {v : Value} {ls : List (List Int)} (h : OwnT w base top v ls) : OwnII w base v ls := by
  obtain ⟨vs, h1, h2, _⟩ := h
  exact ⟨vs, h1, h2⟩
theorem ownsRow_same {w w' : World} {base : Nat} {e : TypeId} {v : Value} {k : Nat} {xs : List Value} (h : w.ownsRow base e 1 v k xs) (hb : ∀ q, v.ownBlock = some q → w'.heap[q]? = w.heap[q]?) : w'.ownsRow base e 1 v k xs := by
  refine ⟨h.1, ?_⟩
  rcases h.2 with h0 | ⟨g, cap, cur, rfl, e2, e3, e4⟩
  · exact .inl h0
  · exact .inr ⟨g, cap, cur, rfl, e2, (hb g rfl).trans e3, e4⟩
theorem OwnT.same {w w' : World} {base top : Nat} {v : Value} {ls : List (List Int)} (h : OwnT w base top v ls) (hb : ∀ q, base ≤ q → q < top → q < w.heap.size → w'.heap[q]? = w.heap[q]?) : OwnT w' base top v ls := by
  obtain ⟨vs, h1, h2, h3, h4⟩ := h
  refine ⟨vs, ownsRow_same h1 (fun q hq => hb q (World.ownsRow.lt h1 q hq).1 (h3 q hq) (World.ownsRow.lt h1 q hq).2), ⟨h2.1, fun i u l hu hl => ?_, h2.2.2⟩, h3, h4⟩
  exact ownsRow_same (h2.2.1 i u l hu hl) (fun q hq => hb q (h2.lt hu hq).1 (h4 i u q hu hq) (h2.lt hu hq).2)
theorem OwnT.below {w w' : World} {base top : Nat} {v : Value} {ls : List (List Int)} (h : OwnT w base top v ls) (hb : Below w.heap.size w w') : OwnT w' base top v ls :=
  h.same fun q _ _ hq => hb.block q hq
theorem Two.at {w w' : World} {b : Nat} {p : Int} {a : Option Addr} {n c : Nat} (h : Two w b p a n c) (hb : w'.heap[b]? = w.heap[b]?) : Two w' b p a n c :=
  ⟨(World.cell?_of_block (w := w) hb).trans h.1, (World.cell?_of_block (w := w) hb).trans h.2⟩

set_option maxHeartbeats 3200000 in
theorem lawC_walk (p : Int) (es : List Ed) (a : Option Addr) (c : Nat) (w : World) (hn : es.length ≤ maxLen) (hk : KidsG w 0 a es) :
    Calls Try.prog 5 #[.agg #[.int .i64 p, .slice a es.length c]] w fun e w' => e = .returned (.bool true) ∧ Below w.heap.size w w' := by
  have HS := mkHid hn
  have HK := mkHid hk
  have B0 := mkHid ((Below.refl w.heap.size w).alloc (Nat.le_refl _) (.cells #[.int .i64 p, .slice a es.length c] 24))
  have F0 := mkHid (Two.new w p a es.length c 24)
  have hl0 := lastsR_le p es
  obtain ⟨ls, hls⟩ : ∃ ls, ls = nestL (lastsR p es) (lastsR p es).length := ⟨_, rfl⟩
  have hlen : ls.length = (lastsR p es).length := by rw [hls, nestL_len]
  have hll : ls.length ≤ 3000 := by omega
  have hlm : ls.length ≤ maxLen := by unfold maxLen; omega
  have hrw : ∀ (i : Nat) (l : List Int), ls[i]? = some l → l.length ≤ 3000 := fun i l h => by rw [hls] at h; have := nestL_rows _ _ i l h; omega
  have hrm : ∀ (i : Nat) (l : List Int), ls[i]? = some l → l.length ≤ maxLen := fun i l h => by have := hrw i l h; unfold maxLen; omega
  have htt : tot ls ≤ 9000000 := by have := nestL_tot (lastsR p es) _ hl0; rw [← hls] at this; omega
  have HSP : Hid (∀ (a : Option Addr) (c : Nat) (w : World), KidsG w 0 a es → Calls Try.prog 17 #[.agg #[.int .i64 p, .slice a es.length c]] w fun e w' => ∃ ao cap, e = .returned (.slice ao ls.length cap) ∧ OwnII w' w.heap.size (.slice ao ls.length cap) ls ∧ Below w.heap.size w w') := by rw [hlen, hls]; exact fun a c w h => sNest_ok p es a c w h
  have HIP : Hid (∀ (a : Option Addr) (c : Nat) (w : World), KidsG w 0 a es → Calls Try.prog 18 #[.agg #[.int .i64 p, .slice a es.length c]] w fun e w' => ∃ ao cap, e = .returned (.slice ao ls.length cap) ∧ OwnII w' w.heap.size (.slice ao ls.length cap) ls ∧ Below w.heap.size w w') := by rw [hlen, hls]; exact fun a c w h => iNest_ok p es a c w h
  have HRW := mkHid hrw
  have HRM := mkHid hrm
  have HLM := mkHid hlm
  clear hn hk hls hlm hlen hrw hrm hl0
  go_enter Try.func5, Try.ntmps5
  go_wp2_with fail
  refine (szGraph_ok p es a c _ _ HS.out (HK.out.below B0.out) (by omega) (by omega)).mono ?_
  rintro e w1 ⟨⟨r, rfl, hm⟩, hb1⟩
  have B1 := mkHid (below_step B0.out hb1)
  have F1 := mkHid (F0.out.below hb1)
  have HM := mkHid hm
  clear hb1 hm F0 B0
  by_cases hr : r < 0
  · go_wp2
    go_ret
    exact ⟨rfl, B1.out⟩
  · have HZ : Hid (es.length + ebulk es ≤ 1048576) := mkHid (by have := HM.out; omega)
    clear HM
    obtain ⟨p0, p1⟩ := F1.out
    go_wp2_with fail
    refine (toGraph_ok p es a c _ HZ.out (HK.out.below B1.out)).mono ?_
    rintro e w2 ⟨⟨a2, c2, rfl, hk2, _⟩, hb2⟩
    have B2 := mkHid (below_step B1.out hb2)
    have F2 := mkHid (F1.out.below hb2)
    have K2 := mkHid (hk2.plain.lower (Nat.zero_le _))
    clear hb2 hk2 F1 B1 p0 p1
    go_wp2_with fail
    refine (HSP.out a2 c2 _ K2.out).mono ?_
    rintro e w3 ⟨sa, sc, rfl, so, hb3⟩
    have B3 := mkHid (below_step B2.out hb3)
    have F3 := mkHid (F2.out.below hb3)
    have S3 := mkHid so.top
    have hz3 : w.heap.size < w3.heap.size := World.block_lt_of_cell? w3 _ F3.out.1
    have z3 := hb3.size
    clear hb3 F2 K2 so
    obtain ⟨p0, p1⟩ := F3.out
    go_wp2_with fail
    refine (toGraph_ok p es a c _ HZ.out (HK.out.below B3.out)).mono ?_
    rintro e w4 ⟨⟨a4, c4, rfl, hk4, _⟩, hb4⟩
    have B4 := mkHid (below_step B3.out hb4)
    have F4 := mkHid (F3.out.below hb4)
    have K4 := mkHid (hk4.plain.lower (Nat.zero_le _))
    have M4 := mkHid hk4.mk
    have S4 := mkHid (S3.out.below hb4)
    have z4 := hb4.size
    clear hb4 hk4 F3 p0 p1 S3
    go_wp2_with fail
    have A4 := mkHid ((Below.refl w4.heap.size w4).alloc (Nat.le_refl _) (.cells #[.int .i64 p, .slice a4 es.length c4] 29))
    refine (HIP.out a4 c4 _ (K4.out.below A4.out)).mono ?_
    rintro e w5 ⟨ga, gc, rfl, go, hb5⟩
    have B5 := mkHid (below_step (below_step B4.out A4.out) hb5)
    have F5 := mkHid ((F4.out.below A4.out).below hb5)
    have X5 := mkHid ((Two.new w4 p a4 es.length c4 29).below hb5)
    have K5 := mkHid ((K4.out.below A4.out).below hb5)
    have M5 := mkHid ((M4.out.below A4.out).below hb5)
    have S5 := mkHid ((S4.out.below A4.out).below hb5)
    have G5 := mkHid go.top
    have z5 : w4.heap.size < w5.heap.size := by have := hb5.size; simp at this; omega
    clear hb5 A4 F4 B4 K4 M4 S4 go
    go_wp2_with fail
    refine (eqIntSS_ok ls ga sa gc sc _ HLM.out HRM.out G5.out.own.at S5.out.own.at).mono ?_
    rintro e w6 ⟨rfl, hb6⟩
    have B6 := mkHid (below_step B5.out hb6)
    have F6 := mkHid (F5.out.below hb6)
    have X6 := mkHid (X5.out.below hb6)
    have K6 := mkHid (K5.out.below hb6)
    have M6 := mkHid (M5.out.below hb6)
    have S6 := mkHid (S5.out.below hb6)
    have G6 := mkHid (G5.out.below hb6)
    have z6 := hb6.size
    clear hb6 B5 F5 X5 K5 M5 S5 G5
    obtain ⟨p0, p1⟩ := F6.out
    obtain ⟨q0, q1⟩ := X6.out
    have hlx : w.heap.size < w6.heap.size := World.block_lt_of_cell? w6 _ p0
    have hly : w4.heap.size < w6.heap.size := World.block_lt_of_cell? w6 _ q0
    go_wp2_with fail
    go_region_held3 (fun w' => w'.cell? ⟨w.heap.size, 0, none⟩ = some (.int .i64 p) ∧ w'.cell? ⟨w.heap.size, 1, none⟩ = some (.slice a es.length c) ∧ w'.cell? ⟨w4.heap.size, 0, none⟩ = some (.int .i64 p) ∧ w'.cell? ⟨w4.heap.size, 1, none⟩ = some (.slice a4 es.length c4))
      (first | exact ⟨p0, p1, q0, q1⟩ | exact ⟨(hc _ _ hlx).trans p0, (hc _ _ hlx).trans p1, (hc _ _ hly).trans q0, (hc _ _ hly).trans q1⟩)
      (first | (go_at_call 8; refine (toGraph_ok p es a c _ HZ.out (HK.out.below B6.out.drew)).mono ?_; rintro e w7 ⟨⟨a7, c7, rfl, hk7, _⟩, hb7⟩; obtain ⟨hc, hf⟩ := bcell hb7) | (go_at_call 10; refine (eqGraph_ok p es a4 a7 c4 c7 _ HS.out ((K6.out.below (Below.refl _ _).drew).below hb7) (hk7.plain.lower (Nat.zero_le _))).mono ?_; rintro e w8 ⟨rfl, hb8⟩; obtain ⟨hc', hf'⟩ := bcell hb8; have hc := fun (b o : Nat) (h : b < w6.drew.heap.size) => (hc' b o (Nat.lt_of_lt_of_le h hb7.size)).trans (hc b o h)))
    have N8 := mkHid (below_step (below_step (Below.refl w6.heap.size w6).drew hb7) hb8)
    have B8 := mkHid (below_step B6.out N8.out)
    have F8 := mkHid (F6.out.below N8.out)
    have X8 := mkHid (X6.out.below N8.out)
    have M8 := mkHid (M6.out.below N8.out)
    have S8 := mkHid (S6.out.below N8.out)
    have G8 := mkHid (G6.out.below N8.out)
    have z8 := N8.out.size
    clear hc hc' hf hf' hb7 hb8 hk7 p0 p1 q0 q1 B6 F6 X6 K6 M6 S6 G6 N8
    obtain ⟨q0, q1⟩ := X8.out
    go_wp2_with fail
    refine (markGraph_ok p es w3.heap.size w4.heap.size a4 c4 _ M8.out HZ.out).mono ?_
    rintro e w9 ⟨⟨r9, rfl, hr9⟩, ho9⟩
    have hB3 := B3.out.size
    have B9 : Hid (Below w.heap.size w w9) := mkHid ⟨ho9.os.trans B8.out.os, ho9.tape.trans B8.out.tape, ho9.output.trans B8.out.output, Nat.le_trans B8.out.size ho9.size, fun i hi => (ho9.block i (Nat.lt_of_lt_of_le hi B8.out.size) (by omega)).trans (B8.out.block i hi)⟩
    have F9 := mkHid (F8.out.at (ho9.block w.heap.size (by omega) (by omega)))
    have S9 := mkHid (S8.out.same fun q h1 h2 h3 => ho9.block q h3 (by omega))
    have G9 := mkHid (G8.out.same fun q h1 h2 h3 => ho9.block q h3 (by simp at h1; omega))
    have z9 := ho9.size
    have hr9' : ¬ r9 < 0 := by omega
    clear ho9 q0 q1 X8 M8 S8 G8 F8 B8
    go_wp2_with fail
    refine (eqIntSS_ok ls ga sa gc sc _ HLM.out HRM.out G9.out.own.at S9.out.own.at).mono ?_
    rintro e w10 ⟨rfl, hb10⟩
    have B10 := mkHid (below_step B9.out hb10)
    have F10 := mkHid (F9.out.below hb10)
    have S10 := mkHid (S9.out.below hb10)
    have G10 := mkHid (G9.out.below hb10)
    have z10 := hb10.size
    clear hb10 B9 F9 S9 G9
    go_wp2_with fail
    refine (markIntSS_ok ls ga gc _ 1 _ hll HRW.out htt (by omega) (by omega) G10.out.own).mono ?_
    rintro e w11 ⟨rfl, go11, hb11⟩
    have B11 : Hid (Below w.heap.size w w11) := mkHid (B10.out.trans (hb11.mono (by simp; omega)))
    have F11 := mkHid (F10.out.at (hb11.block w.heap.size (by simp; omega)))
    have S11 := mkHid (S10.out.same fun q _ h2 _ => hb11.block q (by simp; omega))
    have G11 := mkHid go11
    have z11 := hb11.size
    clear hb11 go11 B10 F10 S10 G10
    go_wp2_with fail
    refine (heldIntSS_ok ls ga gc 1 _ hll HRW.out htt (by omega) (by omega) G11.out.at).mono ?_
    rintro e w12 ⟨rfl, rfl⟩
    obtain ⟨p0, p1⟩ := F11.out
    have hq0 : ¬ (1 + (tot ls : Int) < 0) := by omega
    go_wp2_with fail
    refine (toGraph_ok p es a c _ HZ.out (HK.out.below B11.out)).mono ?_
    rintro e w13 ⟨⟨a13, c13, rfl, hk13, _⟩, hb13⟩
    have B13 := mkHid (below_step B11.out hb13)
    have K13 := mkHid (hk13.plain.lower (Nat.zero_le _))
    have S13 := mkHid (S11.out.below hb13)
    have G13 := mkHid (G11.out.below hb13)
    clear hb13 hk13 p0 p1 B11 F11 S11 G11
    go_wp2_with fail
    refine (HIP.out a13 c13 _ K13.out).mono ?_
    rintro e w14 ⟨ha, hcap, rfl, ho14, hb14⟩
    have B14 := mkHid (below_step B13.out hb14)
    have S14 := mkHid (S13.out.below hb14)
    have G14 := mkHid (G13.out.below hb14)
    have H14 := mkHid ho14
    clear hb14 ho14 B13 K13 S13 G13
    go_wp2_with fail
    refine (eqIntSS_ok ls ha sa hcap sc _ HLM.out HRM.out H14.out.at S14.out.own.at).mono ?_
    rintro e w15 ⟨rfl, hb15⟩
    have B15 := mkHid (below_step B14.out hb15)
    have G15 := mkHid (G14.out.below hb15)
    clear hb15 B14 S14 G14 H14
    go_wp2_with fail
    refine (heldIntSS_ok ls ga gc 1 _ hll HRW.out htt (by omega) (by omega) G15.out.at).mono ?_
    rintro e w16 ⟨rfl, rfl⟩
    go_wp2
    go_ret
    exact ⟨rfl, B15.out⟩

set_option maxRecDepth 100000 in
theorem lawC_lifted (os : Os) (started : os.Started) (H : Type) (enc : TypeId × Value → H) :
    ReturnsInHanded {} Try.checked os 5 .any (Rows.fnExactNestOfSpec.pre6 enc Try.prog Try.f5 Rows.fnExactNestOfRow.domain false) (Rows.fnExactNestOfSpec.post enc Try.prog Try.f5 false true false false) := by
  refine returnsInHanded_of_change (C := Try.checked) Try.own started (by kernel_rfl) Try.func5
    (ChangeSpec.witness6 (enc := enc) (C := Try.checked) false ⟨#[], #[.agg #[.int .i64 0, .slice none 0 0]], []⟩ 8 (by kernel_rfl) (by kernel_rfl) (by kernel_rfl) (by kernel_rfl)) ?_
  intro W base args ds gs before hval0 hW hcnd _
  have hval : ∀ (j : Nat) t v, Try.f5.params[j]? = some t → args[j]? = some v → Value.okWide Try.prog W .any base t v := hval0
  have hW' := hW
  obtain ⟨p, q, hA0, hV, rfl, hfz, hnd⟩ := hW
  have hA : DataW.TrodAll enc Try.prog W 0 (fun _ => true) true Try.f5.params.toList args.toList ds p := hA0
  rw [Try.params5] at hA hval
  obtain ⟨v0, d0, rfl, rfl, h0⟩ := trodAll_one hA
  obtain ⟨rfl, rfl⟩ := trodVars_none hV
  have k0 := h0
  have lt0 : ∀ x ∈ p, x.block < W.heap.size := by obtain ⟨m, hm⟩ := k0; exact DataW.trod_lt m _ _ _ hm
  obtain ⟨c0, c1, y0, y1, m, hv, _, _, hy0, hy1⟩ := open_agg2 Try.underlying24 (by kernel_rfl) Try.cells24 (hval 0 24 v0 rfl rfl) h0
  obtain ⟨x0, e0, _, _⟩ := DataW.trod_int Try.underlying3 hy0
  obtain ⟨a, c, es, e1, hn, hk⟩ := open_edges hy1
  simp at e0
  subst e0 e1 hv
  clear hA0 hval0
  refine (lawC_walk x0 es a c W hn hk).mono fun e W' ⟨he, bel⟩ => ?_
  subst he
  exact ⟨_, rfl, _, _, _, [], _, [], hW', trodAll_mk1 (shut_bool Try.underlying4 _), trodAll_mk1 (Below.trod Try.laidOut (by kernel_rfl) (of_decide_eq_true (by kernel_rfl)) k0 bel lt0), rfl, bel.frame _, fun h => by cases h⟩

theorem lawC_holds : Rows.FnExactNestOfSaid :=
  OpenClaim.holds_of_wide 5 Try.f5 rfl rfl rfl rfl rfl rfl rfl ⟨rfl, rfl, rfl, rfl, rfl⟩ rfl rfl rfl rfl rfl (by kernel_rfl) Try.func5 (by kernel_rfl)
    (of_decide_eq_true (by kernel_rfl)) (by unfold Func.isWrapper; first | (rw [if_pos (by decide +kernel)]; kernel_rfl) | (rw [if_neg (by decide +kernel)]; exact ⟨rfl, rfl⟩))
    (fun os started H enc _ => lawC_lifted os started H enc)

#print axioms lawC_holds
end Go.Proofs.Ytpikgigfeifliaa
