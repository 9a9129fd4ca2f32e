/-
  FnExactSegText holds at every argument, the three tables of the library being as its text lays them (the card ties them to it): no other conditions.
-/
import Derived.Test.YthfiblldccnjcaaGreatDoorLtb
import Derived.Test.YthfiblldccnjcaaGreatDoorLo
import Derived.Test.YthfiblldccnjcaaGreatDoorVh
import Derived.SliceStrings
import Derived.Test.YthfiblldccnjcaaGreatDoorTie
import Derived.Test.YthfiblldccnjcaaGreatDoorCards
import Derived.ProofKit
import Derived.LaidMore
import Derived.OpenShut
import Derived.ShutString
import Derived.ChangeOld
import Derived.Stop.Joined
import Derived.SevenTiedAt
import Derived.LaidSub
import Derived.Lib.SmallJoins
namespace Go.Proofs.YthfiblldccnjcaaGreatDoor
open Go.ChangeShapes Go.WideShapes Go.ChangeAt Go.RowKit Go.Joins Go.Deep
open Go.ChangeMaps (open_string shut_string)

def laidL : List (String × DataW Unit) := [("math/bits.deBruijn32tab", Rows.laid_math_bits_deBruijn32tab), ("math/bits.deBruijn64tab", Rows.laid_math_bits_deBruijn64tab), ("internal/strconv.uint64pow10", Rows.laid_internal_strconv_uint64pow10)]
set_option maxRecDepth 100000 in
theorem door_met (os : Os) (args : Array Value) : laidMetH Tryz.prog laidL ((World.doorLaid Tryz.prog 400 os).forCall (fun _ _ => 0) ⟨#[], args, []⟩).memory :=
  laidMetH_of_parts3 (fuel := 8) (laidMet_of_run' 8 (by kernel_rfl) (by kernel_rfl)) (by kernel_rfl) (by kernel_rfl)
theorem of_laid {W : World} (h : laidMetH Tryz.prog laidL W) : Lib.TabIs Tryz.prog W "internal/strconv.uint64pow10" .u64 Lib.pow10Tab := by
  have h1 := h.filter (fun x => x.1 == "internal/strconv.uint64pow10")
  have e : laidL.filter (fun x => x.1 == "internal/strconv.uint64pow10") = [("internal/strconv.uint64pow10", Lib.tabData .u64 Lib.pow10Tab)] := by rfl
  rw [e, MakeChecks.laidMetH_plain _ _ _ (by kernel_rfl)] at h1
  exact Lib.tabIs_of_head (g := 1) (t := 162) (e := 145) (n := 20) (by kernel_rfl) (by kernel_rfl) Tryz.underlying162 Tryz.underlying145 (by kernel_rfl) (by kernel_rfl) h1
set_option maxRecDepth 100000 in
set_option maxHeartbeats 1600000 in
theorem szStrL_any (l : List ByteArray) (a : Option Addr) (c : Nat) (left : Int) (w : World) (q0 : 0 ≤ left) (q1 : left ≤ 1048576) (hn : l.length ≤ maxLen) (hl : StrsOf w l a) (hx : ∀ (i : Nat) (x : ByteArray), l[i]? = some x → x.size ≤ maxLen) :
    Calls Tryz.prog 5 #[.slice a l.length c, .int .i64 left] w fun e w' => ∃ r : Int, e = .returned (.int .i64 r) ∧ (0 ≤ r → Fit l 1048576) ∧ (r < 0 ∨ 0 ≤ r) ∧ w = w' := by
  have HL := mkHid hl
  have HX := mkHid hx
  clear hl hx
  unfold maxLen at hn
  have hw : IntKind.i64.wrap (left - (l.length : Int)) = left - (l.length : Int) := IntWalk.i64_in _ ⟨by omega, by omega⟩
  by_cases h0 : left - (l.length : Int) < 0
  · go_enter Tryz.func5, Tryz.ntmps5
    go_wp2
    go_ret
    exact ⟨-1, rfl, fun h => by omega, .inl (by omega), rfl⟩
  · go_enter Tryz.func5, Tryz.ntmps5
    go_wp2
    go_loop [1, 5] (fun v i => ∃ (k : Nat) (r : Int), k ≤ l.length ∧ i = .int .i64 k ∧ v = .int .i64 r ∧ 0 ≤ r ∧ r ≤ 1048576 ∧ ∀ (j : Nat) (x : ByteArray), j < k → l[j]? = some x → x.size ≤ 1048576) (fun _ i => l.length - (RowKit.intOf i).toNat)
    case atStart => exact ⟨0, _, Nat.zero_le _, rfl, rfl, by omega, by omega, fun j x hj => by omega⟩
    case round =>
      obtain ⟨k, r, hk, rfl, rfl, hr0, hr1, hall⟩ := hrel
      have HA := mkHid hall
      clear hall hw
      by_cases hlt : k < l.length
      · obtain ⟨x, hx⟩ : ∃ x, l[k]? = some x := ⟨_, List.getElem?_eq_getElem hlt⟩
        obtain ⟨b, o, rfl, hl⟩ : ∃ b o, a = some ⟨b, o, none⟩ ∧ StrsIn w l b o := by
          rcases HL.out with h | h
          · subst h; simp at hlt
          · exact h
        have c1 := hl k x hx
        have hxs := HX.out k x hx
        unfold maxLen at hxs
        have HXX := mkHid hx
        clear hl hx
        have k2 : (0 : Int) ≤ (k : Int) := by omega
        have k3 : (k : Int) < (l.length : Int) := by omega
        have hw2 : IntKind.i64.wrap (r - (x.size : Int)) = r - (x.size : Int) := IntWalk.i64_in _ ⟨by omega, by omega⟩
        by_cases h1 : r - (x.size : Int) < 0
        · go_wp2
          go_ret
          exact ⟨-1, rfl, fun h => by omega, .inl (by omega), rfl⟩
        · go_wp2
          go_round
          case rel =>
            refine ⟨k + 1, _, by omega, by go_num, rfl, by omega, by omega, fun j y hj hy => ?_⟩
            rcases (by omega : j < k ∨ j = k) with h | rfl
            · exact HA.out j y h hy
            · rw [HXX.out] at hy; rw [← Option.some.inj hy]; omega
          case measure => simp [RowKit.intOf]; omega
      · have hlt' : ¬ (k : Int) < (l.length : Int) := by omega
        go_wp2
        go_ret
        exact ⟨r, rfl, fun _ => ⟨by omega, fun i x hi => HA.out i x (by have := (List.getElem?_eq_some_iff.1 hi).1; omega) hi⟩, .inr hr0, rfl⟩
/-- A row of strings that came in. -/
theorem open_rowT {H : Type} {enc : TypeId × Value → H} {W : World} {a : Option Addr} {len cap : Nat} {x : DataW H} {p : List MemPlace} (h : DataW.Trod enc Tryz.prog W 0 (fun _ => true) true 27 (.slice a len cap) x p) : ∃ l : List ByteArray, len = l.length ∧ l.length ≤ maxLen ∧ StrsOf W l a ∧ ∀ (i : Nat) (x : ByteArray), l[i]? = some x → x.size ≤ maxLen := by
  obtain ⟨fuel, hf⟩ := h
  rcases open_strings Tryz.underlying27 Tryz.underlying9 (by kernel_rfl) hf with ⟨hcs, _⟩ | ⟨ad, ln, c, ss, hcs, _, hl, hm, hz, _, hcell, hsz⟩
  · simp [Value.cells] at hcs
    exact ⟨[], by simpa using hcs.2.1, by unfold maxLen; simp, .inl rfl, fun i x hx => by simp at hx⟩
  · simp [Value.cells] at hcs
    obtain ⟨rfl, rfl, rfl⟩ := hcs
    have hzl : ss.length = cap := by simpa using hz
    refine ⟨ss.take len, by simp; omega, by simp; omega, ?_, fun i x hx => hsz x (List.mem_of_mem_take (List.mem_of_getElem? hx))⟩
    by_cases h0 : len = 0
    · exact .inl (by rw [h0]; simp)
    · obtain ⟨b, off, spot⟩ := ad
      have hspot : spot = none := by simpa [Addr.add] using World.cell?_spot (hcell 0 (by omega))
      subst hspot
      refine .inr ⟨b, off, rfl, fun i y hy => ?_⟩
      have hi : i < len := by have := (List.getElem?_eq_some_iff.1 hy).1; simp at this; omega
      have hc := hcell i (by omega)
      rw [Go.WideShapes.add_plain] at hc
      rw [hc]
      rw [List.getElem?_take, if_pos hi] at hy
      rw [List.getD_eq_getElem?_getD, hy]; rfl
set_option maxRecDepth 100000 in
set_option maxHeartbeats 3200000 in
theorem law_walk (n l : Int) (S : SG) (A : SAd) (nm : List ByteArray) (ao : Option Addr) (cap : Nat) (w : World) (hg : Lim S) (hl : SegAt w A S) (hnn : nm.length ≤ maxLen) (hnl : StrsOf w nm ao) (hnx : ∀ (i : Nat) (x : ByteArray), nm[i]? = some x → x.size ≤ maxLen) (htab : Lib.TabIs Tryz.prog w "internal/strconv.uint64pow10" .u64 Lib.pow10Tab) : Calls Tryz.prog 3 #[.int .i64 n, .int .i64 l, .agg #[.slice A.a0 S.B.length A.c0, .slice A.a1 S.V.length A.c1, .slice A.a2 S.M.length A.c2], .slice ao nm.length cap] w fun e w' => e = .returned (.bool true) ∧ Below w.heap.size w w' := by
  have HG := mkHid hg
  have HNN := mkHid hnn
  have HNX := mkHid hnx
  obtain ⟨gg, hgn⟩ := Option.isSome_iff_exists.1 (show (Tryz.prog.globalNamed "internal/strconv.uint64pow10").isSome = true by kernel_rfl)
  have HTB := mkHid (fun W (hW : Below w.heap.size w W) => Joins.tab_stays hgn htab hW (Nat.le_refl _))
  obtain ⟨w0, hw0⟩ : ∃ x : World, w.alloc (.cells #[.slice A.a0 S.B.length A.c0, .slice A.a1 S.V.length A.c1, .slice A.a2 S.M.length A.c2] 26) = x := ⟨_, rfl⟩
  obtain ⟨X, hX⟩ : ∃ x, w.heap.size = x := ⟨_, rfl⟩
  have B0 : Hid (Below w.heap.size w w0) := mkHid (by rw [← hw0]; exact below_alloc _ _)
  have P0 : Hid (G3 w0 X (.slice A.a0 S.B.length A.c0) (.slice A.a1 S.V.length A.c1) (.slice A.a2 S.M.length A.c2)) := mkHid (by rw [← hw0, ← hX]; exact G3.new _ _ _ _ _)
  have L0 : Hid (SegAt w0 A S) := mkHid (hl.below B0.out)
  have N0 : Hid (StrsOf w0 nm ao) := mkHid (hnl.below B0.out)
  clear hg hl hnn hnl hnx htab hgn
  go_enter Tryz.func3, Tryz.ntmps3
  obtain ⟨q0, q1, q2, _, _, _⟩ := P0.out
  go_wp2_with fail
  refine (szSeg_any S A _ HG.out.b HG.out.r HG.out.v HG.out.m 1048576 (by omega) (by omega) L0.out).mono ?_
  rintro e w1 ⟨hb, r, rfl, hr⟩
  have HQ := mkHid hr
  have B1 := mkHid (below_step B0.out hb)
  have P1 := mkHid (P0.out.below hb)
  have L1 := mkHid (L0.out.below hb)
  have N1 := mkHid (N0.out.below hb)
  clear B0 P0 L0 N0 hb hr hw0 hX q0 q1 q2
  by_cases hneg : r < 0
  · go_wp2
    go_ret
    exact ⟨rfl, B1.out⟩
  obtain ⟨hz1, hz2, hz3, hz4, hz5⟩ := HQ.out (by omega)
  have HM : Hid (Small S) := mkHid ⟨hz1, hz2, hz3, hz4⟩
  clear HQ hz1 hz2 hz3 hz4
  go_wp2_with fail
  refine (szStrL_any nm ao cap r _ (by omega) hz5 HNN.out N1.out HNX.out).mono ?_
  rintro e w1b ⟨rz, rfl, hfit, hrz, rfl⟩
  have HFT := mkHid hfit
  clear hfit
  rcases hrz with hrz | hrz
  · go_wp2
    go_ret
    exact ⟨rfl, B1.out⟩
  have hrz2 : ¬ rz < 0 := by omega
  have HF := mkHid (HFT.out hrz)
  have HLE := mkHid HF.out.1
  clear HFT
  obtain ⟨q0, q1, q2, _, _, _⟩ := P1.out
  go_wp2_with fail
  refine (toSeg_any S A _ HM.out.b HM.out.t HM.out.v HM.out.m L1.out).mono ?_
  rintro e w2 ⟨Aw, rfl, ho, hb⟩
  have B2 := mkHid (below_step B1.out hb)
  have P2 := mkHid (P1.out.below hb)
  have L2 := mkHid (L1.out.below hb)
  have N2 := mkHid (N1.out.below hb)
  have W2 := mkHid ho.at
  clear B1 P1 L1 N1 hb ho q0 q1 q2
  go_wp2_with fail
  refine (toStrS_any nm ao cap _ HLE.out N2.out).mono ?_
  rintro e w3 ⟨g3, rfl, hI, hb⟩
  have B3 := mkHid (below_step B2.out hb)
  have P3 := mkHid (P2.out.below hb)
  have L3 := mkHid (L2.out.below hb)
  have N3 := mkHid (N2.out.below hb)
  have W3 := mkHid (W2.out.below hb)
  have U3 := mkHid hI
  clear B2 P2 L2 N2 W2 hb hI
  go_wp2_with fail
  refine (sSegText_any n l S Aw nm g3 0 _ _ HM.out W3.out HF.out U3.out).mono ?_
  rintro e w4 ⟨hb, t, rfl, ht⟩
  have HT4 := mkHid ht
  have B4 := mkHid (below_step B3.out hb)
  have P4 := mkHid (P3.out.below hb)
  have L4 := mkHid (L3.out.below hb)
  have N4 := mkHid (N3.out.below hb)
  clear B3 P3 L3 N3 W3 U3 hb ht
  obtain ⟨q0, q1, q2, _, _, _⟩ := P4.out
  go_wp2_with fail
  refine (toSeg_any S A _ HM.out.b HM.out.t HM.out.v HM.out.m L4.out).mono ?_
  rintro e w5 ⟨Ax, rfl, ho, hb⟩
  obtain ⟨Xx, hXx⟩ : ∃ x, w5.heap.size = x := ⟨_, rfl⟩
  obtain ⟨w6, hw6⟩ : ∃ x : World, w5.alloc (.cells #[.slice Ax.a0 S.B.length Ax.c0, .slice Ax.a1 S.V.length Ax.c1, .slice Ax.a2 S.M.length Ax.c2] 34) = x := ⟨_, rfl⟩
  have hb6 : Below w5.heap.size w5 w6 := by rw [← hw6]; exact below_alloc _ _
  have B6 := mkHid (below_step (below_step B4.out hb) hb6)
  have P6 := mkHid ((P4.out.below hb).below hb6)
  have L6 := mkHid ((L4.out.below hb).below hb6)
  have N6 := mkHid ((N4.out.below hb).below hb6)
  have X6 := mkHid (ho.at.below hb6)
  have GX6 : Hid (G3 w6 Xx (.slice Ax.a0 S.B.length Ax.c0) (.slice Ax.a1 S.V.length Ax.c1) (.slice Ax.a2 S.M.length Ax.c2)) := mkHid (by rw [← hw6, ← hXx]; exact G3.new _ _ _ _ _)
  clear B4 P4 L4 N4 hb hb6 ho q0 q1 q2
  go_wp2_with fail
  clear hw6 hXx
  refine (toStrS_any nm ao cap _ HLE.out N6.out).mono ?_
  rintro e w7 ⟨g7, rfl, hI, hb⟩
  have B7 := mkHid (below_step B6.out hb)
  have P7 := mkHid (P6.out.below hb)
  have L7 := mkHid (L6.out.below hb)
  have N7 := mkHid (N6.out.below hb)
  have X7 := mkHid (X6.out.below hb)
  have GX7 := mkHid (GX6.out.below hb)
  have U7 := mkHid hI
  clear B6 P6 L6 N6 X6 GX6 hb hI
  obtain ⟨q0, q1, q2, _, _, _⟩ := GX7.out
  go_wp2_with fail
  refine (iSegText_any n l S Ax nm g7 0 _ _ HM.out X7.out HF.out U7.out (fun V hV => HTB.out V (below_step B7.out hV))).mono ?_
  rintro e w8 ⟨hb, t', rfl, ht⟩
  obtain rfl : t' = t := ht.same HT4.out
  have B8 := mkHid (below_step B7.out hb)
  have P8 := mkHid (P7.out.below hb)
  have L8 := mkHid (L7.out.below hb)
  have N8 := mkHid (N7.out.below hb)
  have X8 := mkHid (X7.out.below hb)
  have GX8 := mkHid (GX7.out.below hb)
  have U8 := mkHid (U7.out.below hb)
  clear B7 P7 L7 N7 X7 GX7 U7 hb ht HT4 q0 q1 q2
  have hne : (t'.toList != t'.toList) = false := by simp
  obtain ⟨p0, p1, p2, _, _, _⟩ := P8.out
  obtain ⟨q0, q1, q2, _, _, _⟩ := GX8.out
  have hlx := P8.out.lt
  have hly := GX8.out.lt
  go_wp2_with fail
  go_region_held3 (fun w' => w'.cell? ⟨X, 0, none⟩ = some (.slice A.a0 S.B.length A.c0) ∧ w'.cell? ⟨X, 1, none⟩ = some (.slice A.a1 S.V.length A.c1) ∧ w'.cell? ⟨X, 2, none⟩ = some (.slice A.a2 S.M.length A.c2) ∧ w'.cell? ⟨Xx, 0, none⟩ = some (.slice Ax.a0 S.B.length Ax.c0) ∧ w'.cell? ⟨Xx, 1, none⟩ = some (.slice Ax.a1 S.V.length Ax.c1) ∧ w'.cell? ⟨Xx, 2, none⟩ = some (.slice Ax.a2 S.M.length Ax.c2))
    (first | exact ⟨p0, p1, p2, q0, q1, q2⟩ | exact ⟨(hc _ _ hlx).trans p0, (hc _ _ hlx).trans p1, (hc _ _ hlx).trans p2, (hc _ _ hly).trans q0, (hc _ _ hly).trans q1, (hc _ _ hly).trans q2⟩)
    (first | (go_at_call 7; refine (toSeg_any S A _ HM.out.b HM.out.t HM.out.v HM.out.m (L8.out.below (Below.refl _ _).drew)).mono ?_; rintro e w9 ⟨Ay, rfl, hoy, hb9⟩; obtain ⟨hc, hf⟩ := bcell hb9) | (go_at_call 10; refine (eqSeg_same S Ax Ay _ HM.out ((X8.out.below (Below.refl _ _).drew).below hb9) hoy.at).mono ?_; rintro e w10 ⟨rfl, hb10⟩; obtain ⟨hc', hf'⟩ := bcell hb10; have hc9 : ∀ (b k : Nat), b < w8.heap.size → w10.cell? ⟨b, k, none⟩ = w8.cell? ⟨b, k, none⟩ := (fun b k h => (hc' b k (Nat.lt_of_lt_of_le h hb9.size)).trans (hc b k h)); clear hc; have hc := hc9))
  have Z10 := mkHid (below_step (below_step (Below.refl w8.heap.size w8).drew hb9) hb10)
  have B10 := mkHid (below_step B8.out Z10.out)
  have N10 := mkHid (N8.out.below Z10.out)
  have U10 := mkHid (U8.out.below Z10.out)
  clear hb9 hb10 hoy p0 p1 p2 q0 q1 q2 hlx hly B8 P8 L8 N8 X8 GX8 U8 Z10 hc hc9 hc' hf hf'
  go_wp2_with fail
  refine (toStrS_any nm ao cap _ HLE.out N10.out).mono ?_
  rintro e w11 ⟨g11, rfl, hI, hb⟩
  have B11 := mkHid (below_step B10.out hb)
  have U11 := mkHid (U10.out.below hb)
  have V11 := mkHid hI
  clear hb hI B10 U10
  go_wp2_with fail
  refine (eqStrS_of nm g7 0 _ g11 0 _ _ HNN.out U11.out V11.out).mono ?_
  rintro e w12 ⟨rfl, hb⟩
  have B12 := mkHid (below_step B11.out hb)
  clear hb
  go_wp2
  go_ret
  exact ⟨rfl, B12.out⟩

set_option maxRecDepth 100000 in
theorem law_lifted (os : Os) (started : os.Started) (H : Type) (enc : TypeId × Value → H) :
    ReturnsInHanded {} Tryz.checked os 3 .any (fun w args => (Rows.fnExactSegTextSpec.pre enc Tryz.prog Tryz.f3 [] false w args ∧ laidMetH Tryz.prog laidL w) ∧ sizedMet enc Tryz.prog Tryz.f3 (OpenSpec.ofChange Rows.fnExactSegTextSpec) false w args)
      (Rows.fnExactSegTextSpec.post enc Tryz.prog Tryz.f3 false true false false) := by
  refine returnsInHanded_of_change_and (C := Tryz.checked) (X := fun w _ => laidMetH Tryz.prog laidL w) (fun _ _ _ hh h => h.of_heap hh) Tryz.own started (by kernel_rfl) Tryz.func3
    (ChangeSpec.witness_shaped (enc := enc) (C := Tryz.checked) (os := os) (X := fun w _ => laidMetH Tryz.prog laidL w) false (World.doorLaid Tryz.prog 400 os) #[.int .i64 0, .int .i64 0, .agg #[.slice none 0 0, .slice none 0 0, .slice none 0 0], .slice none 0 0] 8 rfl (World.shaped_of_RefB (by kernel_rfl) (by kernel_rfl)) (by kernel_rfl) (by kernel_rfl) (by kernel_rfl) (door_met os _)) ?_
  intro W base args ds gs before hval0 hW _ hsz hL hlone
  have hval : ∀ (j : Nat) t v, Tryz.f3.params[j]? = some t → args[j]? = some v → Value.okWide Tryz.prog W .any base t v := hval0
  have hW' := hW
  obtain ⟨p, q, hA0, hV, rfl, hfz, hnd⟩ := hW
  have hA : DataW.TrodAll enc Tryz.prog W 0 (fun _ => true) true Tryz.f3.params.toList args.toList ds p := hA0
  rw [Tryz.params3] at hA hval
  obtain ⟨v0, vs0, d0, ds0, p0, q0, hargs, rfl, rfl, h0, r0⟩ := trodAll_cons hA
  obtain ⟨v1, vs1, d1, ds1, p1, q1, rfl, rfl, rfl, h1, r1⟩ := trodAll_cons r0
  obtain ⟨v2, vs2, d2, ds2, p2, q2, rfl, rfl, rfl, h2, r2⟩ := trodAll_cons r1
  obtain ⟨v3, vs3, d3, ds3, p3, q3, rfl, rfl, rfl, h3, r3⟩ := trodAll_cons r2
  obtain ⟨rfl, rfl, rfl⟩ := trodAll_nil r3
  obtain rfl : args = #[v0, v1, v2, v3] := by cases args; simp_all
  obtain ⟨rfl, rfl⟩ := trodVars_none hV
  have k0 := h0
  have lt0 : ∀ x ∈ p0, x.block < W.heap.size := by obtain ⟨m, hm⟩ := k0; exact DataW.trod_lt m _ _ _ hm
  have k1 := h1
  have lt1 : ∀ x ∈ p1, x.block < W.heap.size := by obtain ⟨m, hm⟩ := k1; exact DataW.trod_lt m _ _ _ hm
  have k2 := h2
  have lt2 : ∀ x ∈ p2, x.block < W.heap.size := by obtain ⟨m, hm⟩ := k2; exact DataW.trod_lt m _ _ _ hm
  have k3 := h3
  have lt3 : ∀ x ∈ p3, x.block < W.heap.size := by obtain ⟨m, hm⟩ := k3; exact DataW.trod_lt m _ _ _ hm
  obtain ⟨x0, hv0, _, _, _⟩ := open_int Tryz.underlying3 (hval 0 3 v0 rfl rfl) h0
  subst hv0
  obtain ⟨x1, hv1, _, _, _⟩ := open_int Tryz.underlying3 (hval 1 3 v1 rfl rfl) h1
  subst hv1
  obtain ⟨S2, A2, hv2, hg2, hl2⟩ := open_seg (hval 2 26 v2 rfl rfl) h2
  subst hv2
  obtain ⟨ad, le1, cap, hv3⟩ := okWide_slice Tryz.underlying27 (hval 3 27 v3 rfl rfl)
  subst hv3
  obtain ⟨nm, rfl, hn, hl, hx⟩ := open_rowT h3
  clear hA0 hval0
  refine (law_walk x0 x1 S2 A2 nm ad cap W hg2 hl2 hn hl hx (of_laid hL)).mono fun e W' ⟨he, bel⟩ => ?_
  subst he
  exact ⟨_, rfl, _, _, _, [], _, [], hW', trodAll_mk1 (shut_bool Tryz.underlying4 _), (trodAll_cons_mk (Below.trod Tryz.laidOut (by kernel_rfl) (of_decide_eq_true (by kernel_rfl)) k0 bel lt0) (trodAll_cons_mk (Below.trod Tryz.laidOut (by kernel_rfl) (of_decide_eq_true (by kernel_rfl)) k1 bel lt1) (trodAll_cons_mk (Below.trod Tryz.laidOut (by kernel_rfl) (of_decide_eq_true (by kernel_rfl)) k2 bel lt2) (trodAll_cons_mk (Below.trod Tryz.laidOut (by kernel_rfl) (of_decide_eq_true (by kernel_rfl)) k3 bel lt3) trodAll_mk0)))), rfl, bel.frame _, fun h => by cases h⟩

theorem law_holds : Rows.FnExactSegTextSaid :=
  OpenClaim.holds_of_wide 3 Tryz.f3 rfl rfl rfl rfl rfl rfl rfl ⟨rfl, rfl, rfl, rfl, rfl⟩ rfl rfl rfl rfl rfl (by kernel_rfl) Tryz.func3 (by kernel_rfl)
    (of_decide_eq_true (by kernel_rfl)) (by unfold Func.isWrapper; first | (rw [if_pos (by decide +kernel)]; kernel_rfl) | (rw [if_neg (by decide +kernel)]; exact ⟨rfl, rfl⟩))
    (fun os started H enc _ => law_lifted os started H enc)

theorem card_holds : Rows.FnExactSegTextCardSaid :=
  Claim7.holds_tied_plain_at .later [] [.data, .data, .data] true (true, "41a0f374b3dd26bd952da768d3f093948a4bd236fc68413cf9709ef183ab2a24") false
    law_holds (fun _ h => by cases h) (by kernel_rfl) (fun _ h => by cases h) fnExactSegText_row_tie rfl ⟨rfl, rfl⟩ (by kernel_rfl) rfl
    (fun f fn hf hfn => by
      obtain rfl : f = 3 := Option.some.inj ((show Tryz.prog.funcNamed "loop.example/g00093/laws.FnExactSegText" = some 3 by kernel_rfl).symm.trans hf) |>.symm
      obtain rfl : fn = Tryz.f3 := (Option.some.inj (Tryz.func3.symm.trans hfn)).symm
      exact ⟨by kernel_rfl, fun j t ht => by
        rw [Tryz.params3] at ht
        have hm : t ∈ [3, 26, 27] := by simpa using Array.mem_of_getElem? ht
        have hall : ([3, 26, 27].all fun u => !Tryz.prog.wantsStandIn u) = true := by kernel_rfl
        exact (show Tryz.prog.wantsStandIn t = false by simpa using List.all_eq_true.1 hall t hm)⟩)
    (by kernel_rfl)

#print axioms card_holds
end Go.Proofs.YthfiblldccnjcaaGreatDoor
