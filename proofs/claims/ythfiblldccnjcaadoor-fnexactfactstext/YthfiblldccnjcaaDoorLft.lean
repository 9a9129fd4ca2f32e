/-
  FnExactFactsText holds at every argument, the three tables of the library being as its text lays them (the card ties them to it): no other conditions.
-/
import Derived.Test.YthfiblldccnjcaaDoorLhs
import Derived.Test.YthfiblldccnjcaaDoorTie
import Derived.Test.YthfiblldccnjcaaDoorCards
import Derived.ProofKit
import Derived.LaidMore
import Derived.OpenShut
import Derived.ShutString
import Derived.ChangeOld
import Derived.Stop.Joined
import Derived.SevenTiedAt
import Derived.LaidSub
import Derived.Lib.SmallJoins
namespace Go.Proofs.YthfiblldccnjcaaDoor
open Go.ChangeShapes Go.WideShapes Go.ChangeAt Go.RowKit Go.Joins Go.Deep
open Go.ChangeMaps (open_string shut_string)

def laidL : List (String × DataW Unit) := [("math/bits.deBruijn32tab", Rows.laid_math_bits_deBruijn32tab), ("math/bits.deBruijn64tab", Rows.laid_math_bits_deBruijn64tab), ("internal/strconv.uint64pow10", Rows.laid_internal_strconv_uint64pow10)]
set_option maxRecDepth 100000 in
theorem door_met (os : Os) (args : Array Value) : laidMetH Tryd.prog laidL ((World.doorLaid Tryd.prog 400 os).forCall (fun _ _ => 0) ⟨#[], args, []⟩).memory :=
  laidMetH_of_parts3 (fuel := 8) (laidMet_of_run' 8 (by kernel_rfl) (by kernel_rfl)) (by kernel_rfl) (by kernel_rfl)
theorem of_laid {W : World} (h : laidMetH Tryd.prog laidL W) : Lib.TabIs Tryd.prog W "internal/strconv.uint64pow10" .u64 Lib.pow10Tab := by
  have h1 := h.filter (fun x => x.1 == "internal/strconv.uint64pow10")
  have e : laidL.filter (fun x => x.1 == "internal/strconv.uint64pow10") = [("internal/strconv.uint64pow10", Lib.tabData .u64 Lib.pow10Tab)] := by rfl
  rw [e, MakeChecks.laidMetH_plain _ _ _ (by kernel_rfl)] at h1
  exact Lib.tabIs_of_head (g := 1) (t := 75) (e := 68) (n := 20) (by kernel_rfl) (by kernel_rfl) Tryd.underlying75 Tryd.underlying68 (by kernel_rfl) (by kernel_rfl) h1
/-- A Facts in a block. -/
structure Fc (w : World) (b : Nat) (z : Int) (a : Option Addr) (n c : Nat) : Prop where
  c0 : w.cell? ⟨b, 0, none⟩ = some (.int .i64 z)
  c1 : w.cell? ⟨b, 1, none⟩ = some (.slice a n c)
  lt : b < w.heap.size
theorem Fc.new (w : World) (z : Int) (a : Option Addr) (n c : Nat) (T : TypeId) : Fc (w.alloc (.cells #[.int .i64 z, .slice a n c] T)) w.heap.size z a n c := ⟨by simp [go_sem], by simp [go_sem], by simp⟩
theorem Fc.below {w w' : World} {b : Nat} {z : Int} {a : Option Addr} {n c : Nat} (h : Fc w b z a n c) (hb : Below w.heap.size w w') : Fc w' b z a n c :=
  ⟨(hb.cell (p := ⟨b, 0, none⟩) h.lt).trans h.c0, (hb.cell (p := ⟨b, 1, none⟩) h.lt).trans h.c1, Nat.lt_of_lt_of_le h.lt hb.size⟩

set_option maxRecDepth 100000 in
set_option maxHeartbeats 3200000 in
theorem law_walk (z : Int) (l : List Int) (a : Option Addr) (c : Nat) (nm : List ByteArray) (ao : Option Addr) (cap : Nat) (w : World) (hn : l.length ≤ maxLen) (hl : IntsAt w a l) (hnn : nm.length ≤ maxLen) (hnl : StrsOf w nm ao) (hnx : ∀ (i : Nat) (x : ByteArray), nm[i]? = some x → x.size ≤ maxLen) (htab : Lib.TabIs Tryd.prog w "internal/strconv.uint64pow10" .u64 Lib.pow10Tab) : Calls Tryd.prog 3 #[.agg #[.int .i64 z, .slice a l.length c], .slice ao nm.length cap] w fun e w' => e = .returned (.bool true) ∧ Below w.heap.size w w' := by
  have HN := mkHid hn
  have HL := mkHid hl
  have HNN := mkHid hnn
  have HNL := mkHid hnl
  have HNX := mkHid hnx
  obtain ⟨gg, hgn⟩ := Option.isSome_iff_exists.1 (show (Tryd.prog.globalNamed "internal/strconv.uint64pow10").isSome = true by kernel_rfl)
  have HTB := mkHid (fun W (hW : Below w.heap.size w W) => Joins.tab_stays hgn htab hW (Nat.le_refl _))
  have B0 := mkHid ((Below.refl w.heap.size w).alloc (Nat.le_refl _) (.cells #[.int .i64 z, .slice a l.length c] 24))
  have F0 := mkHid (Fc.new w z a l.length c 24)
  clear hn hl hnn hnl hnx htab hgn
  obtain ⟨t, ht⟩ : ∃ t : ByteArray, factsT z l nm = t := ⟨_, rfl⟩
  have HTT := mkHid ht
  clear ht
  go_enter Tryd.func3, Tryd.ntmps3
  go_wp2_with fail
  refine (szFacts_any z a l.length c 1048576 _ HN.out (by omega) (by omega)).mono ?_
  rintro e w1 ⟨rfl, hb1⟩
  have B1 := mkHid (below_step B0.out hb1)
  have F1 := mkHid (F0.out.below hb1)
  clear hb1 B0 F0
  obtain ⟨r, hr⟩ : ∃ r, szR 1048576 l.length = r := ⟨_, rfl⟩
  have HZ : Hid (¬ r < 0 → l.length ≤ 1048576 ∧ r ≤ 1048576) := mkHid fun h => by unfold szR at hr; split at hr <;> omega
  rw [hr]
  clear hr
  by_cases hneg : r < 0
  · go_wp2
    go_ret
    exact ⟨rfl, B1.out⟩
  have HZZ := mkHid (HZ.out hneg).1
  have HZR := mkHid (HZ.out hneg).2
  clear HZ
  go_wp2_with fail
  refine (szStrL_any nm ao cap r _ (by omega) HZR.out HNN.out (HNL.out.below B1.out) HNX.out).mono ?_
  rintro e w1b ⟨rz, rfl, hfit, hrz, rfl⟩
  have HFT := mkHid hfit
  clear hfit
  rcases hrz with hrz | hrz
  · go_wp2
    go_ret
    exact ⟨rfl, B1.out⟩
  have hrz2 : ¬ rz < 0 := by omega
  have HF := mkHid (HFT.out hrz)
  have HLE := mkHid HF.out.1
  clear HFT
  obtain ⟨p0, p1, hlx⟩ := F1.out
  go_wp2_with fail
  refine (toFacts_any z l a c _ HZZ.out (HL.out.below B1.out)).mono ?_
  rintro e w2 ⟨g2, rfl, ho2, hb2⟩
  have B2 := mkHid (below_step B1.out hb2)
  have F2 := mkHid (F1.out.below hb2)
  have O2 := mkHid ho2.at
  clear hb2 ho2 p0 p1 hlx F1
  go_wp2_with fail
  refine (toStrS_any nm ao cap _ HLE.out (HNL.out.below B2.out)).mono ?_
  rintro e w3 ⟨g3, rfl, hI, hb3⟩
  have B3 := mkHid (below_step B2.out hb3)
  have F3 := mkHid (F2.out.below hb3)
  have O3 := mkHid (O2.out.below hb3)
  have S3 := mkHid hI
  clear hb3 hI B2 F2 O2
  go_wp2_with fail
  refine (sFactsText_any z l _ _ nm g3 0 _ _ O3.out HF.out S3.out).mono ?_
  rintro e w4 ⟨rfl, hb4⟩
  rw [HTT.out]
  have B4 := mkHid (below_step B3.out hb4)
  have F4 := mkHid (F3.out.below hb4)
  clear hb4 B3 F3 O3 S3
  obtain ⟨p0, p1, hlx⟩ := F4.out
  go_wp2_with fail
  refine (toFacts_any z l a c _ HZZ.out (HL.out.below B4.out)).mono ?_
  rintro e w5 ⟨g5, rfl, ho5, hb5⟩
  obtain ⟨bx, hbx⟩ : ∃ bx, w5.heap.size = bx := ⟨_, rfl⟩
  have B5 := mkHid ((below_step B4.out hb5).alloc (below_step B4.out hb5).size (.cells #[.int .i64 z, .slice (some ⟨g5, 0, none⟩) l.length l.length] 29))
  have A5 := (Below.refl w5.heap.size w5).alloc (Nat.le_refl _) (.cells #[.int .i64 z, .slice (some ⟨g5, 0, none⟩) l.length l.length] 29)
  have F5 := mkHid ((F4.out.below hb5).below A5)
  have X5 := mkHid (Fc.new w5 z (some ⟨g5, 0, none⟩) l.length l.length 29)
  have O5 := mkHid (ho5.below A5).at
  rw [hbx] at X5
  clear hb5 ho5 A5 p0 p1 hlx B4 F4
  go_wp2_with fail
  refine (toStrS_any nm ao cap _ HLE.out (HNL.out.below B5.out)).mono ?_
  rintro e w6 ⟨g6, rfl, hI, hb6⟩
  have B6 := mkHid (below_step B5.out hb6)
  have F6 := mkHid (F5.out.below hb6)
  have X6 := mkHid (X5.out.below hb6)
  have O6 := mkHid (O5.out.below hb6)
  have S6 := mkHid hI
  clear hb6 hI B5 F5 X5 O5 hbx
  obtain ⟨q0, q1, hly⟩ := X6.out
  go_wp2_with fail
  refine (iFactsText_any z l _ _ nm g6 0 _ _ O6.out HF.out S6.out (fun V hV => HTB.out V (below_step B6.out hV))).mono ?_
  rintro e w7 ⟨rfl, hb7⟩
  rw [HTT.out]
  have B7 := mkHid (below_step B6.out hb7)
  have F7 := mkHid (F6.out.below hb7)
  have X7 := mkHid (X6.out.below hb7)
  have O7 := mkHid (O6.out.below hb7)
  have S7 := mkHid (S6.out.below hb7)
  clear hb7 q0 q1 hly B6 F6 X6 O6 S6
  have hne : (t.toList != t.toList) = false := by simp
  obtain ⟨p0, p1, hlx⟩ := F7.out
  obtain ⟨q0, q1, hly⟩ := X7.out
  go_wp2_with fail
  go_region_held3 (fun w' => w'.cell? ⟨w.heap.size, 0, none⟩ = some (.int .i64 z) ∧ w'.cell? ⟨w.heap.size, 1, none⟩ = some (.slice a l.length c) ∧ w'.cell? ⟨bx, 0, none⟩ = some (.int .i64 z) ∧ w'.cell? ⟨bx, 1, none⟩ = some (.slice (some ⟨g5, 0, none⟩) l.length l.length))
    (first | exact ⟨p0, p1, q0, q1⟩ | exact ⟨(hc _ _ hlx).trans p0, (hc _ _ hlx).trans p1, (hc _ _ hly).trans q0, (hc _ _ hly).trans q1⟩)
    (first | (go_at_call 7; refine (toFacts_any z l a c _ HZZ.out (HL.out.below B7.out.drew)).mono ?_; rintro e w8 ⟨g8, rfl, ho8, hb8⟩; obtain ⟨hc, hf⟩ := bcell hb8) | (go_at_call 10; refine (eqFacts_ok z l (some ⟨g5, 0, none⟩) (some ⟨g8, 0, none⟩) _ _ _ HN.out ((O7.out.below (Below.refl _ _).drew).below hb8) ho8.at).mono ?_; rintro e w9 ⟨rfl, hb9⟩; obtain ⟨hc', hf'⟩ := bcell hb9; have hc9 : ∀ (b k : Nat), b < w7.heap.size → w9.cell? ⟨b, k, none⟩ = w7.cell? ⟨b, k, none⟩ := (fun b k h => (hc' b k (Nat.lt_of_lt_of_le h hb8.size)).trans (hc b k h)); clear hc; have hc := hc9))
  have N9 := mkHid (below_step (below_step (Below.refl w7.heap.size w7).drew hb8) hb9)
  have B9 := mkHid (below_step B7.out N9.out)
  have S9 := mkHid (S7.out.below N9.out)
  clear hb8 hb9 ho8 p0 p1 q0 q1 B7 F7 X7 O7 S7 N9 hlx hly
  go_wp2_with fail
  refine (toStrS_any nm ao cap _ HLE.out (HNL.out.below B9.out)).mono ?_
  rintro e w10 ⟨g10, rfl, hI, hb10⟩
  have B10 := mkHid (below_step B9.out hb10)
  have S10 := mkHid (S9.out.below hb10)
  have U10 := mkHid hI
  clear hb10 hI B9 S9
  go_wp2_with fail
  refine (eqStrS_of nm g6 0 _ g10 0 _ _ HNN.out S10.out U10.out).mono ?_
  rintro e w11 ⟨rfl, hb11⟩
  have B11 := mkHid (below_step B10.out hb11)
  clear hb11
  go_wp2
  go_ret
  exact ⟨rfl, B11.out⟩

set_option maxRecDepth 100000 in
theorem law_lifted (os : Os) (started : os.Started) (H : Type) (enc : TypeId × Value → H) :
    ReturnsInHanded {} Tryd.checked os 3 .any (fun w args => (Rows.fnExactFactsTextSpec.pre enc Tryd.prog Tryd.f3 [] false w args ∧ laidMetH Tryd.prog laidL w) ∧ sizedMet enc Tryd.prog Tryd.f3 (OpenSpec.ofChange Rows.fnExactFactsTextSpec) false w args)
      (Rows.fnExactFactsTextSpec.post enc Tryd.prog Tryd.f3 false true false false) := by
  refine returnsInHanded_of_change_and (C := Tryd.checked) (X := fun w _ => laidMetH Tryd.prog laidL w) (fun _ _ _ hh h => h.of_heap hh) Tryd.own started (by kernel_rfl) Tryd.func3
    (ChangeSpec.witness_shaped (enc := enc) (C := Tryd.checked) (os := os) (X := fun w _ => laidMetH Tryd.prog laidL w) false (World.doorLaid Tryd.prog 400 os) #[.agg #[.int .i64 0, .slice none 0 0], .slice none 0 0] 8 rfl (World.shaped_of_RefB (by kernel_rfl) (by kernel_rfl)) (by kernel_rfl) (by kernel_rfl) (by kernel_rfl) (door_met os _)) ?_
  intro W base args ds gs before hval0 hW _ hsz hL hlone
  have hval : ∀ (j : Nat) t v, Tryd.f3.params[j]? = some t → args[j]? = some v → Value.okWide Tryd.prog W .any base t v := hval0
  have hW' := hW
  obtain ⟨p, q, hA0, hV, rfl, hfz, hnd⟩ := hW
  have hA : DataW.TrodAll enc Tryd.prog W 0 (fun _ => true) true Tryd.f3.params.toList args.toList ds p := hA0
  rw [Tryd.params3] at hA hval
  obtain ⟨v0, vs0, d0, ds0, p0, q0, hargs, rfl, rfl, h0, r0⟩ := trodAll_cons hA
  obtain ⟨v1, vs1, d1, ds1, p1, q1, rfl, rfl, rfl, h1, r1⟩ := trodAll_cons r0
  obtain ⟨rfl, rfl, rfl⟩ := trodAll_nil r1
  obtain rfl : args = #[v0, v1] := by cases args; simp_all
  obtain ⟨rfl, rfl⟩ := trodVars_none hV
  have k0 := h0
  have lt0 : ∀ x ∈ p0, x.block < W.heap.size := by obtain ⟨m, hm⟩ := k0; exact DataW.trod_lt m _ _ _ hm
  have k1 := h1
  have lt1 : ∀ x ∈ p1, x.block < W.heap.size := by obtain ⟨m, hm⟩ := k1; exact DataW.trod_lt m _ _ _ hm
  obtain ⟨u00, u01, y00, y01, m0, hv0, _, _, hy00, hy01⟩ := open_agg2 Tryd.underlying24 (by kernel_rfl) Tryd.cells24 (hval 0 24 v0 rfl rfl) h0
  obtain ⟨z0, e00, _, _⟩ := DataW.trod_int Tryd.underlying3 hy00
  obtain ⟨a0, c0, l0, e01, hn0, hk0⟩ := open_intsv hy01
  simp at e00
  subst e00 e01 hv0
  obtain ⟨ad, le1, cap, hv1⟩ := okWide_slice Tryd.underlying25 (hval 1 25 v1 rfl rfl)
  subst hv1
  obtain ⟨nm, rfl, hn, hl, hx⟩ := open_row h1
  clear hA0 hval0
  refine (law_walk z0 l0 a0 c0 nm ad cap W hn0 hk0 hn hl hx (of_laid hL)).mono fun e W' ⟨he, bel⟩ => ?_
  subst he
  exact ⟨_, rfl, _, _, _, [], _, [], hW', trodAll_mk1 (shut_bool Tryd.underlying4 _), (trodAll_cons_mk (Below.trod Tryd.laidOut (by kernel_rfl) (of_decide_eq_true (by kernel_rfl)) k0 bel lt0) (trodAll_cons_mk (Below.trod Tryd.laidOut (by kernel_rfl) (of_decide_eq_true (by kernel_rfl)) k1 bel lt1) trodAll_mk0)), rfl, bel.frame _, fun h => by cases h⟩

theorem law_holds : Rows.FnExactFactsTextSaid :=
  OpenClaim.holds_of_wide 3 Tryd.f3 rfl rfl rfl rfl rfl rfl rfl ⟨rfl, rfl, rfl, rfl, rfl⟩ rfl rfl rfl rfl rfl (by kernel_rfl) Tryd.func3 (by kernel_rfl)
    (of_decide_eq_true (by kernel_rfl)) (by unfold Func.isWrapper; first | (rw [if_pos (by decide +kernel)]; kernel_rfl) | (rw [if_neg (by decide +kernel)]; exact ⟨rfl, rfl⟩))
    (fun os started H enc _ => law_lifted os started H enc)

theorem card_holds : Rows.FnExactFactsTextCardSaid :=
  Claim7.holds_tied_plain_at .later [] [.data, .data, .data] true (true, "88e2279e1a2be0f6a81117eb86c83b11233b22e50789d6237a94e654a05a959d") false
    law_holds (fun _ h => by cases h) (by kernel_rfl) (fun _ h => by cases h) fnExactFactsText_row_tie rfl ⟨rfl, rfl⟩ (by kernel_rfl) rfl
    (fun f fn hf hfn => by
      obtain rfl : f = 3 := Option.some.inj ((show Tryd.prog.funcNamed "loop.example/g00093/laws.FnExactFactsText" = some 3 by kernel_rfl).symm.trans hf) |>.symm
      obtain rfl : fn = Tryd.f3 := (Option.some.inj (Tryd.func3.symm.trans hfn)).symm
      exact ⟨by kernel_rfl, fun j t ht => by
        rw [Tryd.params3] at ht
        have hm : t ∈ [24, 25] := by simpa using Array.mem_of_getElem? ht
        have hall : ([24, 25].all fun u => !Tryd.prog.wantsStandIn u) = true := by kernel_rfl
        exact (show Tryd.prog.wantsStandIn t = false by simpa using List.all_eq_true.1 hall t hm)⟩)
    (by kernel_rfl)

#print axioms card_holds
end Go.Proofs.YthfiblldccnjcaaDoor
