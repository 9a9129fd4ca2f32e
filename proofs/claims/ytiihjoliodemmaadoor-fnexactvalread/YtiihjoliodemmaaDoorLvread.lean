/-
  FnExactValRead holds at every argument, the tables and errors of the library being as its text lays them (the card ties them to it): no other conditions.
-/
import Derived.Test.YtiihjoliodemmaaDoorLf
import Derived.Test.YtiihjoliodemmaaDoorVe
namespace Go.Proofs.YtiihjoliodemmaaDoor
open Go.ChangeShapes Go.WideShapes Go.ChangeAt Go.RowKit Go.Joins Go.Deep
open Go.ChangeMaps (open_string shut_string)

set_option maxRecDepth 100000 in
set_option maxHeartbeats 3200000 in
theorem law_walk (s : ByteArray) (w : World) (hE : Env w) : Calls Tryd.prog 5 #[.string s] w fun e w' => e = .returned (.bool true) ∧ Below w.heap.size w w' := by
  have HE := mkHid hE
  clear hE
  by_cases hM : s.size ≤ 1048576
  · have hne : ∀ b : Bool, (b != b) = false := by simp
    have hM2 : ¬ (1048576 : Int) < (s.size : Int) := by omega
    go_enter Tryd.func5, Tryd.ntmps5
    go_wp2_with fail
    refine (sVread_any s w (by omega)).mono ?_
    rintro e w1 ⟨r, rfl, h1, hb1⟩
    have HI : Hid (∀ v, Below w.heap.size w v → Calls Tryd.prog 17 #[.string s] v fun e w' => e = .returned (retV r) ∧ Below v.heap.size v w') := mkHid fun v hv => (iVread_any s v (HE.out.below hv) hM).mono fun e w2 ⟨r2, e1, h2, hb⟩ => ⟨by rw [e1, readsV_same h1 h2], hb⟩
    have HB1 := mkHid hb1
    clear h1 hb1 HE
    unfold retV at *
    obtain ⟨ra, hra⟩ : ∃ x, (r.getD (0, 0, false)).1 = x := ⟨_, rfl⟩
    obtain ⟨rb, hrb⟩ : ∃ x, (r.getD (0, 0, false)).2.1 = x := ⟨_, rfl⟩
    obtain ⟨rc, hrc⟩ : ∃ x, (r.getD (0, 0, false)).2.2 = x := ⟨_, rfl⟩
    obtain ⟨ro, hro⟩ : ∃ x, r.isSome = x := ⟨_, rfl⟩
    rw [hra, hrb, hrc, hro] at HI
    rw [hra, hrb, hrc, hro]
    have hno := hne ro
    clear hra hrb hrc hro hne
    obtain ⟨w2, hw2⟩ : ∃ x : World, w1.alloc (.cells #[.int .i64 ra, .int .i64 rb, .bool rc] 33) = x := ⟨_, rfl⟩
    have HX2 : Hid (V3 w2 w1.heap.size ra rb rc) := mkHid (by rw [← hw2]; exact V3.new w1 ra rb rc 33)
    have HB2 : Hid (Below w.heap.size w w2) := mkHid (by rw [← hw2]; exact bl_alloc HB1.out _)
    have HW2 := mkHid hw2
    clear hw2 HB1
    go_wp2_with fail
    rw [HW2.out]
    clear HW2
    refine (HI.out w2 HB2.out).mono ?_
    rintro e w3 ⟨rfl, hb⟩
    have HX3 := HX2.out.below hb
    have HB3 := mkHid (below_step HB2.out hb)
    obtain ⟨z0, hz0⟩ : ∃ n : Nat, w1.heap.size = n := ⟨_, rfl⟩
    rw [hz0] at HX3
    have hxl := HX3.lt
    obtain ⟨x0, x1, x2, x3, x4, x5⟩ := HX3
    clear hb HX2 HB2 HI
    go_wp2_with fail
    refine (eqVal_same ra rb rc _).mono ?_
    rintro e w5 ⟨rfl, hb⟩
    have HB5 := mkHid (below_step (bl_alloc HB3.out _) hb)
    clear hb HB3
    go_wp2
    go_ret
    exact ⟨rfl, HB5.out⟩
  · have hM2 : (1048576 : Int) < (s.size : Int) := by omega
    go_enter Tryd.func5, Tryd.ntmps5
    go_wp2
    go_ret
    exact ⟨rfl, Below.refl _ _⟩

set_option maxRecDepth 100000 in
theorem law_lifted (os : Os) (started : os.Started) (H : Type) (enc : TypeId × Value → H) :
    ReturnsInHanded {} Tryd.checked os 5 .any (fun w args => (Rows.fnExactValReadSpec.pre enc Tryd.prog Tryd.f5 [] false w args ∧ laidMetH Tryd.prog laidL w) ∧ sizedMet enc Tryd.prog Tryd.f5 (OpenSpec.ofChange Rows.fnExactValReadSpec) false w args)
      (Rows.fnExactValReadSpec.post enc Tryd.prog Tryd.f5 false true false false) := by
  refine handed_and_shaped (C := Tryd.checked) (X := fun w _ => laidMetH Tryd.prog laidL w) (fun _ _ _ hh h => h.of_heap hh) Tryd.own started (by kernel_rfl) Tryd.func5
    (ChangeSpec.witness_shaped (enc := enc) (C := Tryd.checked) (os := os) (X := fun w _ => laidMetH Tryd.prog laidL w) false (World.doorLaid Tryd.prog 400 os) #[.string ⟨#[]⟩] 8 rfl (World.shaped_of_RefB (by kernel_rfl) (by kernel_rfl)) (by kernel_rfl) (by kernel_rfl) (by kernel_rfl) (door_met os _)) ?_
  intro W base args ds gs before hval0 hW hshp hL
  have hval : ∀ (j : Nat) t v, Tryd.f5.params[j]? = some t → args[j]? = some v → Value.okWide Tryd.prog W .any base t v := hval0
  have hW' := hW
  obtain ⟨p, q, hA0, hV, rfl, hfz, hnd⟩ := hW
  have hA : DataW.TrodAll enc Tryd.prog W 0 (fun _ => true) true Tryd.f5.params.toList args.toList ds p := hA0
  rw [Tryd.params5] at hA hval
  obtain ⟨v0, vs0, d0, ds0, p0, q0, hargs, rfl, rfl, h0, r0⟩ := trodAll_cons hA
  obtain ⟨rfl, rfl, rfl⟩ := trodAll_nil r0
  obtain rfl : args = #[v0] := by cases args; simp_all
  obtain ⟨rfl, rfl⟩ := trodVars_none hV
  have k0 := h0
  have lt0 : ∀ x ∈ p0, x.block < W.heap.size := by obtain ⟨m, hm⟩ := k0; exact DataW.trod_lt m _ _ _ hm
  obtain ⟨s, rfl, rfl, rfl, hs0⟩ := open_string Tryd.underlying9 (hval 0 9 v0 rfl rfl) h0
  clear hA0 hval0
  refine (law_walk s W (env_of hL hshp)).mono fun e W' ⟨he, bel⟩ => ?_
  subst he
  exact ⟨_, rfl, _, _, _, [], _, [], hW', trodAll_mk1 (shut_bool Tryd.underlying4 _), (trodAll_cons_mk (Below.trod Tryd.laidOut (by kernel_rfl) (of_decide_eq_true (by kernel_rfl)) k0 bel lt0) trodAll_mk0), rfl, bel.frame _, fun h => by cases h⟩

theorem law_holds : Rows.FnExactValReadSaid :=
  OpenClaim.holds_of_wide 5 Tryd.f5 rfl rfl rfl rfl rfl rfl rfl ⟨rfl, rfl, rfl, rfl, rfl⟩ rfl rfl rfl rfl rfl (by kernel_rfl) Tryd.func5 (by kernel_rfl)
    (of_decide_eq_true (by kernel_rfl)) (by unfold Func.isWrapper; first | (rw [if_pos (by decide +kernel)]; kernel_rfl) | (rw [if_neg (by decide +kernel)]; exact ⟨rfl, rfl⟩))
    (fun os started H enc _ => law_lifted os started H enc)

theorem card_holds : Rows.FnExactValReadCardSaid :=
  Claim7.holds_tied_plain_at .later [] [.data, .data, .data, .sentinel, .sentinel] true (true, "abdb69b17bbdc7f16e36bfb66d478fd911a090c26dad6dd4f1490d2e34bb6957") true
    law_holds (fun _ h => by cases h) (by kernel_rfl) (fun _ h => by cases h) fnExactValRead_row_tie rfl ⟨rfl, rfl⟩ (by kernel_rfl) rfl
    (fun f fn hf hfn => by
      obtain rfl : f = 5 := Option.some.inj ((show Tryd.prog.funcNamed "loop.example/g00093/laws.FnExactValRead" = some 5 by kernel_rfl).symm.trans hf) |>.symm
      obtain rfl : fn = Tryd.f5 := (Option.some.inj (Tryd.func5.symm.trans hfn)).symm
      exact ⟨by kernel_rfl, fun j t ht => by
        rw [Tryd.params5] at ht
        have hm : t ∈ [9] := by simpa using Array.mem_of_getElem? ht
        have hall : ([9].all fun u => !Tryd.prog.wantsStandIn u) = true := by kernel_rfl
        exact (show Tryd.prog.wantsStandIn t = false by simpa using List.all_eq_true.1 hall t hm)⟩)
    (by kernel_rfl)

#print axioms card_holds
end Go.Proofs.YtiihjoliodemmaaDoor
