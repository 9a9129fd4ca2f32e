/-
  FnExactSymText holds at every argument, the three tables of the library being as its text lays them (the card ties them to it): no other conditions.
-/
import Derived.Test.YtiihjoliodemmaaDoorSyi
import Derived.Test.YtiihjoliodemmaaDoorLt
import Derived.SliceStrings
namespace Go.Proofs.YtiihjoliodemmaaDoor
open Go.ChangeShapes Go.WideShapes Go.ChangeAt Go.RowKit Go.Joins Go.Deep
open Go.ChangeMaps (open_string shut_string)

theorem Tryd.cells40 : Tryd.prog.cellsOf 40 = 2 := by kernel_rfl
/-- A row of strings that came in. -/
theorem open_row {H : Type} {enc : TypeId × Value → H} {W : World} {a : Option Addr} {len cap : Nat} {x : DataW H} {p : List MemPlace} (h : DataW.Trod enc Tryd.prog W 0 (fun _ => true) true 41 (.slice a len cap) x p) : ∃ l : List ByteArray, len = l.length ∧ l.length ≤ maxLen ∧ StrsOf W l a ∧ ∀ (i : Nat) (x : ByteArray), l[i]? = some x → x.size ≤ maxLen := by
  obtain ⟨fuel, hf⟩ := h
  rcases open_strings Tryd.underlying41 Tryd.underlying9 (by kernel_rfl) hf with ⟨hcs, _⟩ | ⟨ad, ln, c, ss, hcs, _, hl, hm, hz, _, hcell, hsz⟩
  · simp [Value.cells] at hcs
    exact ⟨[], by simpa using hcs.2.1, by unfold maxLen; simp, .inl rfl, fun i x hx => by simp at hx⟩
  · simp [Value.cells] at hcs
    obtain ⟨rfl, rfl, rfl⟩ := hcs
    have hzl : ss.length = cap := by simpa using hz
    refine ⟨ss.take len, by simp; omega, by simp; omega, ?_, fun i x hx => hsz x (List.mem_of_mem_take (List.mem_of_getElem? hx))⟩
    by_cases h0 : len = 0
    · exact .inl (by rw [h0]; simp)
    · obtain ⟨b, off, spot⟩ := ad
      have hspot : spot = none := by simpa [Addr.add] using World.cell?_spot (hcell 0 (by omega))
      subst hspot
      refine .inr ⟨b, off, rfl, fun i y hy => ?_⟩
      have hi : i < len := by have := (List.getElem?_eq_some_iff.1 hy).1; simp at this; omega
      have hc := hcell i (by omega)
      rw [Go.WideShapes.add_plain] at hc
      rw [hc]
      rw [List.getElem?_take, if_pos hi] at hy
      rw [List.getD_eq_getElem?_getD, hy]; rfl
set_option maxRecDepth 100000 in
set_option maxHeartbeats 3200000 in
theorem law_walk (v c : Int) (l : List ByteArray) (a : Option Addr) (cap : Nat) (w : World) (hn : l.length ≤ maxLen) (hl : StrsOf w l a) (hx : ∀ (i : Nat) (x : ByteArray), l[i]? = some x → x.size ≤ maxLen) (htab : Lib.TabIs Tryd.prog w "internal/strconv.uint64pow10" .u64 Lib.pow10Tab) : Calls Tryd.prog 6 #[.agg #[.int .i64 v, .int .i64 c], .slice a l.length cap] w fun e w' => e = .returned (.bool true) ∧ Below w.heap.size w w' := by
  have HL := mkHid hl
  have HX := mkHid hx
  have HN := mkHid hn
  have BE := mkHid ((Below.refl w.heap.size w).alloc (Nat.le_refl _) (.cells #[.int .i64 v, .int .i64 c] 40))
  have BX := mkHid (Box.new w v c 40)
  obtain ⟨gg, hgn⟩ := Option.isSome_iff_exists.1 (show (Tryd.prog.globalNamed "internal/strconv.uint64pow10").isSome = true by kernel_rfl)
  have HTB := mkHid (fun W (hW : Below w.heap.size w W) => Joins.tab_stays hgn htab hW (Nat.le_refl _))
  clear hl hx hn htab hgn
  obtain ⟨t, ht⟩ : ∃ t : ByteArray, textS l v c = t := ⟨_, rfl⟩
  have HTT := mkHid ht
  clear ht
  go_enter Tryd.func6, Tryd.ntmps6
  go_wp2_with fail
  refine (szStrS_any l a cap _ HN.out (HL.out.below BE.out) HX.out).mono ?_
  rintro e w1 ⟨rz, rfl, hfit, hrz, rfl⟩
  have HFT := mkHid hfit
  clear hfit
  rcases hrz with hrz | hrz
  · go_wp2
    go_ret
    exact ⟨rfl, BE.out⟩
  have hrz2 : ¬ rz < 0 := by omega
  have HF := mkHid (HFT.out hrz)
  have HLE := mkHid HF.out.1
  clear HFT
  obtain ⟨x0, x1, x2, x3⟩ := BX.out
  go_wp2_with fail
  refine (toSym_any v c _).mono ?_
  rintro e w2 ⟨rfl, hb⟩
  clear x0 x1 x2 x3
  have BE := mkHid (below_step BE.out hb)
  have BX := mkHid (BX.out.below hb)
  clear hb
  go_wp2_with fail
  refine (toStrS_any l a cap _ HLE.out (HL.out.below BE.out)).mono ?_
  rintro e w3 ⟨g1, rfl, hI, hb⟩
  have BE := mkHid (below_step BE.out hb)
  have BX := mkHid (BX.out.below hb)
  have HG1 := mkHid hI
  clear hI
  clear hb
  go_wp2_with fail
  refine (sSymText_of v c l g1 0 l.length _ HF.out HG1.out).mono ?_
  rintro e w4 ⟨rfl, hb⟩
  have BE := mkHid (below_step BE.out hb)
  have BX := mkHid (BX.out.below hb)
  clear HG1
  clear hb
  rw [HTT.out]
  go_wp2_with fail
  refine (toStrS_any l a cap _ HLE.out (HL.out.below BE.out)).mono ?_
  rintro e w5 ⟨g2, rfl, hI, hb⟩
  have BE := mkHid (below_step BE.out hb)
  have BX := mkHid (BX.out.below hb)
  have HG2 := mkHid hI
  clear hI
  clear hb
  obtain ⟨x0, x1, x2, x3⟩ := BX.out
  go_wp2_with fail
  refine (toSym_any v c _).mono ?_
  rintro e w6 ⟨rfl, hb⟩
  clear x0 x1 x2 x3
  have BE := mkHid (below_step BE.out hb)
  have BX := mkHid (BX.out.below hb)
  have HG2 := mkHid (HG2.out.below hb)
  clear hb
  go_wp2_with fail
  refine (iSymText_of v c l g2 0 l.length _ HF.out HG2.out (fun V hV => HTB.out V (below_step BE.out hV))).mono ?_
  rintro e w7 ⟨rfl, hb⟩
  have BE := mkHid (below_step BE.out hb)
  have BX := mkHid (BX.out.below hb)
  have HG2 := mkHid (HG2.out.below hb)
  clear hb
  rw [HTT.out]
  have hne : (t.toList != t.toList) = false := by simp
  go_wp2_with fail
  refine (toStrS_any l a cap _ HLE.out (HL.out.below BE.out)).mono ?_
  rintro e w8 ⟨g3, rfl, hI, hb⟩
  have BE := mkHid (below_step BE.out hb)
  have BX := mkHid (BX.out.below hb)
  have HG2 := mkHid (HG2.out.below hb)
  have HG3 := mkHid hI
  clear hI
  clear hb
  go_wp2_with fail
  refine (eqStrS_of l g2 0 _ g3 0 _ _ HN.out HG2.out HG3.out).mono ?_
  rintro e w9 ⟨rfl, hb⟩
  have BE := mkHid (below_step BE.out hb)
  have BX := mkHid (BX.out.below hb)
  clear hb
  go_wp2
  go_ret
  exact ⟨rfl, BE.out⟩

set_option maxRecDepth 100000 in
theorem law_lifted (os : Os) (started : os.Started) (H : Type) (enc : TypeId × Value → H) :
    ReturnsInHanded {} Tryd.checked os 6 .any (fun w args => (Rows.fnExactSymTextSpec.pre enc Tryd.prog Tryd.f6 [] false w args ∧ laidMetH Tryd.prog laidL w) ∧ sizedMet enc Tryd.prog Tryd.f6 (OpenSpec.ofChange Rows.fnExactSymTextSpec) false w args)
      (Rows.fnExactSymTextSpec.post enc Tryd.prog Tryd.f6 false true false false) := by
  refine returnsInHanded_of_change_and (C := Tryd.checked) (X := fun w _ => laidMetH Tryd.prog laidL w) (fun _ _ _ hh h => h.of_heap hh) Tryd.own started (by kernel_rfl) Tryd.func6
    (ChangeSpec.witness_shaped (enc := enc) (C := Tryd.checked) (os := os) (X := fun w _ => laidMetH Tryd.prog laidL w) false (World.doorLaid Tryd.prog 400 os) #[.agg #[.int .i64 0, .int .i64 0], .slice none 0 0] 8 rfl (World.shaped_of_RefB (by kernel_rfl) (by kernel_rfl)) (by kernel_rfl) (by kernel_rfl) (by kernel_rfl) (door_met os _)) ?_
  intro W base args ds gs before hval0 hW _ hsz hL hlone
  have hval : ∀ (j : Nat) t v, Tryd.f6.params[j]? = some t → args[j]? = some v → Value.okWide Tryd.prog W .any base t v := hval0
  have hW' := hW
  obtain ⟨p, q, hA0, hV, rfl, hfz, hnd⟩ := hW
  have hA : DataW.TrodAll enc Tryd.prog W 0 (fun _ => true) true Tryd.f6.params.toList args.toList ds p := hA0
  rw [Tryd.params6] at hA hval
  obtain ⟨v0, vs0, d0, ds0, p0, q0, hargs, rfl, rfl, h0, r0⟩ := trodAll_cons hA
  obtain ⟨v1, vs1, d1, ds1, p1, q1, rfl, rfl, rfl, h1, r1⟩ := trodAll_cons r0
  obtain ⟨rfl, rfl, rfl⟩ := trodAll_nil r1
  obtain rfl : args = #[v0, v1] := by cases args; simp_all
  obtain ⟨rfl, rfl⟩ := trodVars_none hV
  have k0 := h0
  have lt0 : ∀ x ∈ p0, x.block < W.heap.size := by obtain ⟨m, hm⟩ := k0; exact DataW.trod_lt m _ _ _ hm
  have k1 := h1
  have lt1 : ∀ x ∈ p1, x.block < W.heap.size := by obtain ⟨m, hm⟩ := k1; exact DataW.trod_lt m _ _ _ hm
  obtain ⟨u0, u1, y0, y1, m0, hv0, _, _, hy0, hy1⟩ := open_agg2 Tryd.underlying40 (by kernel_rfl) Tryd.cells40 (hval 0 40 v0 rfl rfl) h0
  obtain ⟨v, e00, _, _⟩ := DataW.trod_int Tryd.underlying3 hy0
  obtain ⟨c, e01, _, _⟩ := DataW.trod_int Tryd.underlying3 hy1
  simp at e00 e01
  subst e00 e01 hv0
  obtain ⟨ad, le1, cap, hv1⟩ := okWide_slice Tryd.underlying41 (hval 1 41 v1 rfl rfl)
  subst hv1
  obtain ⟨l, rfl, hn, hl, hx⟩ := open_row h1
  clear hA0 hval0
  refine (law_walk v c l ad cap W hn hl hx (of_laid hL)).mono fun e W' ⟨he, bel⟩ => ?_
  subst he
  exact ⟨_, rfl, _, _, _, [], _, [], hW', trodAll_mk1 (shut_bool Tryd.underlying4 _), (trodAll_cons_mk (Below.trod Tryd.laidOut (by kernel_rfl) (of_decide_eq_true (by kernel_rfl)) k0 bel lt0) (trodAll_cons_mk (Below.trod Tryd.laidOut (by kernel_rfl) (of_decide_eq_true (by kernel_rfl)) k1 bel lt1) trodAll_mk0)), rfl, bel.frame _, fun h => by cases h⟩

theorem law_holds : Rows.FnExactSymTextSaid :=
  OpenClaim.holds_of_wide 6 Tryd.f6 rfl rfl rfl rfl rfl rfl rfl ⟨rfl, rfl, rfl, rfl, rfl⟩ rfl rfl rfl rfl rfl (by kernel_rfl) Tryd.func6 (by kernel_rfl)
    (of_decide_eq_true (by kernel_rfl)) (by unfold Func.isWrapper; first | (rw [if_pos (by decide +kernel)]; kernel_rfl) | (rw [if_neg (by decide +kernel)]; exact ⟨rfl, rfl⟩))
    (fun os started H enc _ => law_lifted os started H enc)

theorem card_holds : Rows.FnExactSymTextCardSaid :=
  Claim7.holds_tied_plain_at .later [] [.data, .data, .data] true (true, "abdb69b17bbdc7f16e36bfb66d478fd911a090c26dad6dd4f1490d2e34bb6957") true
    law_holds (fun _ h => by cases h) (by kernel_rfl) (fun _ h => by cases h) fnExactSymText_row_tie rfl ⟨rfl, rfl⟩ (by kernel_rfl) rfl
    (fun f fn hf hfn => by
      obtain rfl : f = 6 := Option.some.inj ((show Tryd.prog.funcNamed "loop.example/g00093/laws.FnExactSymText" = some 6 by kernel_rfl).symm.trans hf) |>.symm
      obtain rfl : fn = Tryd.f6 := (Option.some.inj (Tryd.func6.symm.trans hfn)).symm
      exact ⟨by kernel_rfl, fun j t ht => by
        rw [Tryd.params6] at ht
        have hm : t ∈ [40, 41] := by simpa using Array.mem_of_getElem? ht
        have hall : ([40, 41].all fun u => !Tryd.prog.wantsStandIn u) = true := by kernel_rfl
        exact (show Tryd.prog.wantsStandIn t = false by simpa using List.all_eq_true.1 hall t hm)⟩)
    (by kernel_rfl)

#print axioms card_holds
end Go.Proofs.YtiihjoliodemmaaDoor
