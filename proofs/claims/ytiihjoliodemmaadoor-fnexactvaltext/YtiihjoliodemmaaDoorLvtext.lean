/-
  FnExactValText holds at every argument, the three tables of the library being as its text lays them (the card ties them to it): no other conditions.
-/
import Derived.Test.YtiihjoliodemmaaDoorLt
namespace Go.Proofs.YtiihjoliodemmaaDoor
open Go.ChangeShapes Go.WideShapes Go.ChangeAt Go.RowKit Go.Joins Go.Deep
open Go.ChangeMaps (open_string shut_string)

set_option maxRecDepth 100000 in
set_option maxHeartbeats 1600000 in
theorem law_walk (a b : Int) (s : Bool) (w : World) (htab : Lib.TabIs Tryd.prog w "internal/strconv.uint64pow10" .u64 Lib.pow10Tab) : Calls Tryd.prog 4 #[.agg #[.int .i64 a, .int .i64 b, .bool s]] w fun e w' => e = .returned (.bool true) ∧ Below w.heap.size w w' := by
  obtain ⟨gg, hgn⟩ := Option.isSome_iff_exists.1 (show (Tryd.prog.globalNamed "internal/strconv.uint64pow10").isSome = true by kernel_rfl)
  have HTB := mkHid (fun W (hW : Below w.heap.size w W) => Joins.tab_stays hgn htab hW (Nat.le_refl _))
  obtain ⟨t, ht⟩ : ∃ t : ByteArray, t = textV a b s := ⟨_, rfl⟩
  have HS := mkHid (fun (W : World) => show Calls Tryd.prog 13 #[.agg #[.int .i64 a, .int .i64 b, .bool s]] W fun e w' => e = .returned (.string t) ∧ Below W.heap.size W w' by rw [ht]; exact sVtext_any a b s W)
  have HI := mkHid (fun (W : World) (hW : Below w.heap.size w W) => show Calls Tryd.prog 15 #[.agg #[.int .i64 a, .int .i64 b, .bool s]] W fun e w' => e = .returned (.string t) ∧ Below W.heap.size W w' by rw [ht]; exact iVtext_any a b s W (fun V hV => HTB.out V (below_step hW hV)))
  clear ht htab HTB
  go_enter Tryd.func4, Tryd.ntmps4
  go_wp2_with (first | (go_at_call 14; refine (toVal_any _ _ _ _).mono ?_; rintro e w' ⟨rfl, hb⟩; (try rw [below_drew] at hb); obtain ⟨hc, hf, hm, hs⟩ := bcell4 hb; have hz0 : w.heap.size < w'.heap.size := (by have := hb.size; (try simp at this); omega); have hl0 := Nat.le_of_lt hz0) | (go_at_call 13; refine (HS.out _).mono ?_; rintro e w' ⟨rfl, hb⟩; (try rw [below_drew] at hb); obtain ⟨hc, hf, hm, hs⟩ := bcell4 hb; have hz0 : w.heap.size < w'.heap.size := (by have := hb.size; (try simp at this); omega); have hl0 := Nat.le_of_lt hz0) | (go_at_call 15; refine (HI.out _ (by repeat (first | with_reducible exact Below.refl _ _ | (with_reducible refine bl_set2 ?_ ?_ _; (first | (simp; done) | (simp [*]; done) | (simp [*] <;> omega))) | with_reducible refine bl_drew ?_ | with_reducible refine bl_alloc ?_ _ | with_reducible refine below_step ?_ (by assumption) | with_reducible assumption))).mono ?_; rintro e w' ⟨rfl, hb⟩; (try rw [below_drew] at hb); obtain ⟨hc, hf, hm, hs⟩ := bcell4 hb; have hz0 : w.heap.size < w'.heap.size := (by have := hb.size; (try simp at this); omega); have hl0 := Nat.le_of_lt hz0))
  go_ret
  exact ⟨rfl, (by repeat (first | with_reducible exact Below.refl _ _ | (with_reducible refine bl_set2 ?_ ?_ _; (first | (simp; done) | (simp [*]; done) | (simp [*] <;> omega))) | with_reducible refine bl_drew ?_ | with_reducible refine bl_alloc ?_ _ | with_reducible refine below_step ?_ (by assumption) | with_reducible assumption))⟩

set_option maxRecDepth 100000 in
theorem law_lifted (os : Os) (started : os.Started) (H : Type) (enc : TypeId × Value → H) :
    ReturnsInHanded {} Tryd.checked os 4 .any (fun w args => (Rows.fnExactValTextSpec.pre enc Tryd.prog Tryd.f4 [] false w args ∧ laidMetH Tryd.prog laidL w) ∧ sizedMet enc Tryd.prog Tryd.f4 (OpenSpec.ofChange Rows.fnExactValTextSpec) false w args)
      (Rows.fnExactValTextSpec.post enc Tryd.prog Tryd.f4 false true false false) := by
  refine returnsInHanded_of_change_and (C := Tryd.checked) (X := fun w _ => laidMetH Tryd.prog laidL w) (fun _ _ _ hh h => h.of_heap hh) Tryd.own started (by kernel_rfl) Tryd.func4
    (ChangeSpec.witness_shaped (enc := enc) (C := Tryd.checked) (os := os) (X := fun w _ => laidMetH Tryd.prog laidL w) false (World.doorLaid Tryd.prog 400 os) #[.agg #[.int .i64 0, .int .i64 0, .bool false]] 8 rfl (World.shaped_of_RefB (by kernel_rfl) (by kernel_rfl)) (by kernel_rfl) (by kernel_rfl) (by kernel_rfl) (door_met os _)) ?_
  intro W base args ds gs before hval0 hW _ hsz hL hlone
  have hval : ∀ (j : Nat) t v, Tryd.f4.params[j]? = some t → args[j]? = some v → Value.okWide Tryd.prog W .any base t v := hval0
  have hW' := hW
  obtain ⟨p, q, hA0, hV, rfl, hfz, hnd⟩ := hW
  have hA : DataW.TrodAll enc Tryd.prog W 0 (fun _ => true) true Tryd.f4.params.toList args.toList ds p := hA0
  rw [Tryd.params4] at hA hval
  obtain ⟨v0, vs0, d0, ds0, p0, q0, hargs, rfl, rfl, h0, r0⟩ := trodAll_cons hA
  obtain ⟨rfl, rfl, rfl⟩ := trodAll_nil r0
  obtain rfl : args = #[v0] := by cases args; simp_all
  obtain ⟨rfl, rfl⟩ := trodVars_none hV
  have k0 := h0
  have lt0 : ∀ x ∈ p0, x.block < W.heap.size := by obtain ⟨m, hm⟩ := k0; exact DataW.trod_lt m _ _ _ hm
  obtain ⟨a, b, s, hv0⟩ := open_val (hval 0 30 v0 rfl rfl) h0
  subst hv0
  clear hA0 hval0
  refine (law_walk a b s W (of_laid hL)).mono fun e W' ⟨he, bel⟩ => ?_
  subst he
  exact ⟨_, rfl, _, _, _, [], _, [], hW', trodAll_mk1 (shut_bool Tryd.underlying4 _), (trodAll_cons_mk (Below.trod Tryd.laidOut (by kernel_rfl) (of_decide_eq_true (by kernel_rfl)) k0 bel lt0) trodAll_mk0), rfl, bel.frame _, fun h => by cases h⟩

theorem law_holds : Rows.FnExactValTextSaid :=
  OpenClaim.holds_of_wide 4 Tryd.f4 rfl rfl rfl rfl rfl rfl rfl ⟨rfl, rfl, rfl, rfl, rfl⟩ rfl rfl rfl rfl rfl (by kernel_rfl) Tryd.func4 (by kernel_rfl)
    (of_decide_eq_true (by kernel_rfl)) (by unfold Func.isWrapper; first | (rw [if_pos (by decide +kernel)]; kernel_rfl) | (rw [if_neg (by decide +kernel)]; exact ⟨rfl, rfl⟩))
    (fun os started H enc _ => law_lifted os started H enc)

theorem card_holds : Rows.FnExactValTextCardSaid :=
  Claim7.holds_tied_plain_at .later [] [.data, .data, .data] true (true, "abdb69b17bbdc7f16e36bfb66d478fd911a090c26dad6dd4f1490d2e34bb6957") true
    law_holds (fun _ h => by cases h) (by kernel_rfl) (fun _ h => by cases h) fnExactValText_row_tie rfl ⟨rfl, rfl⟩ (by kernel_rfl) rfl
    (fun f fn hf hfn => by
      obtain rfl : f = 4 := Option.some.inj ((show Tryd.prog.funcNamed "loop.example/g00093/laws.FnExactValText" = some 4 by kernel_rfl).symm.trans hf) |>.symm
      obtain rfl : fn = Tryd.f4 := (Option.some.inj (Tryd.func4.symm.trans hfn)).symm
      exact ⟨by kernel_rfl, fun j t ht => by
        rw [Tryd.params4] at ht
        have hm : t ∈ [30] := by simpa using Array.mem_of_getElem? ht
        have hall : ([30].all fun u => !Tryd.prog.wantsStandIn u) = true := by kernel_rfl
        exact (show Tryd.prog.wantsStandIn t = false by simpa using List.all_eq_true.1 hall t hm)⟩)
    (by kernel_rfl)

#print axioms card_holds
end Go.Proofs.YtiihjoliodemmaaDoor
