/-
  FnSymMost holds at every two rows of bytes: no conditions.
-/
import Derived.Test.YtmaejdomlggopaaDm
import Derived.Test.YtmaejdomlggopaaDv
import Derived.Test.YtmaejdomlggopaaHp
import Derived.Test.YtmaejdomlggopaaSm
import Derived.Test.YtmaejdomlggopaaSn
import Derived.Test.YtmaejdomlggopaaHt
import Derived.Test.YtmaejdomlggopaaLo
import Derived.ProofKit
import Derived.OpenShut
import Derived.ChangeOld
import Derived.ChangeSlices
namespace Go.Proofs.Ytmaejdomlggopaa
open Go.ChangeShapes Go.WideShapes Go.ChangeAt Go.RowKit Go.Joins

theorem Bytes.old {w w' : World} {a : Option Addr} {n : Nat} (h : Bytes w w.heap.size a n) (hb : Below w.heap.size w w') : Bytes w' w'.heap.size a n := by
  rcases h with h | ⟨b, off, rfl, hlt, hc⟩
  · exact .inl h
  · refine .inr ⟨b, off, rfl, Nat.lt_of_lt_of_le hlt hb.size, fun i hi => ?_⟩
    obtain ⟨z, h0, h1, h2⟩ := hc i hi
    exact ⟨z, h0, h1, (hb.cell (p := ⟨b, off + i, none⟩) hlt).trans h2⟩
/-- What the rounds lean on. -/
structure Kp (w : World) (X Y Z : Nat) (z : Int) (l : List Int) (ao : Option Addr) (cp : Nat) (p1 p2 q1 q2 : Int) (a : Option Addr) (n : Nat) (v : World) : Prop where
  bel : Below w.heap.size w v
  fF : Fc v X z ao l.length cp
  fA : Box v Y p1 p2
  fB : Box v Z q1 q2
  fL : IntsAt v ao l
  fM : Bytes v v.heap.size a n
theorem Kp.below {w : World} {X Y Z : Nat} {z : Int} {l : List Int} {ao : Option Addr} {cp : Nat} {p1 p2 q1 q2 : Int} {a : Option Addr} {n : Nat} {v v' : World} (h : Kp w X Y Z z l ao cp p1 p2 q1 q2 a n v) (hb : Below v.heap.size v v') : Kp w X Y Z z l ao cp p1 p2 q1 q2 a n v' :=
  ⟨below_step h.bel hb, h.fF.below hb, h.fA.below hb, h.fB.below hb, h.fL.below hb, h.fM.old hb⟩
set_option maxRecDepth 100000 in
set_option maxHeartbeats 6400000 in
theorem law_walk (a1 a2 : Option Addr) (n1 c1 n2 c2 : Nat) (w : World) (hn1 : n1 ≤ maxLen) (hn2 : n2 ≤ maxLen) (hb1 : Bytes w w.heap.size a1 n1) (hb2 : Bytes w w.heap.size a2 n2) : Calls Try.prog 12 #[.slice a1 n1 c1, .slice a2 n2 c2] w fun e w' => e = .returned (.bool true) ∧ Below w.heap.size w w' := by
  have HB1 := mkHid hb1
  have HB2 := mkHid hb2
  have HN1 := mkHid hn1
  have HN2 := mkHid hn2
  clear hb1 hb2 hn1 hn2
  by_cases g1 : 1048576 < n1
  · have e1 : decide (1048576 < n1) = true := decide_eq_true g1
    go_enter Try.func12, Try.ntmps12
    go_wp2_with fail
    refine (big_any n1 _ _ _ HN1.out).mono ?_
    rintro e w' ⟨rfl, rfl⟩
    go_wp2
    go_ret
    exact ⟨rfl, Below.refl _ _⟩
  by_cases g2 : 1048576 < n2
  · have e1 : decide (1048576 < n1) = false := decide_eq_false g1
    have e2 : decide (1048576 < n2) = true := decide_eq_true g2
    go_enter Try.func12, Try.ntmps12
    go_wp2_with fail
    refine (big_any n1 _ _ _ HN1.out).mono ?_
    rintro e w' ⟨rfl, rfl⟩
    go_wp2_with fail
    refine (big_any n2 _ _ _ HN2.out).mono ?_
    rintro e w' ⟨rfl, rfl⟩
    go_wp2
    go_ret
    exact ⟨rfl, Below.refl _ _⟩
  have e1 : decide (1048576 < n1) = false := decide_eq_false g1
  have e2 : decide (1048576 < n2) = false := decide_eq_false g2
  have HM2 := mkHid (show n2 ≤ 1048576 by omega)
  have HM1 := mkHid (show n1 ≤ 1048576 by omega)
  clear g1 g2
  go_enter Try.func12, Try.ntmps12
  go_wp2_with fail
  refine (big_any n1 _ _ _ HN1.out).mono ?_
  rintro e w' ⟨rfl, rfl⟩
  go_wp2_with fail
  refine (big_any n2 _ _ _ HN2.out).mono ?_
  rintro e w' ⟨rfl, rfl⟩
  go_wp2_with fail
  refine (drawMost_any n1 c1 a1 w HM1.out HB1.out).mono ?_
  rintro e w1 ⟨z, l, ao, cp, p1, p2, q1, q2, rfl, hz, hl1, hl2, hI, hb⟩
  obtain ⟨w2, hw2⟩ : ∃ x : World, ((w1.alloc (.cells #[.int .i64 z, .slice ao l.length cp] 27)).alloc (.cells #[.int .i64 p1, .int .i64 p2] 46)).alloc (.cells #[.int .i64 q1, .int .i64 q2] 46) = x := ⟨_, rfl⟩
  have hb12 : Below w1.heap.size w1 w2 := by rw [← hw2]; exact bl_alloc (bl_alloc (bl_alloc (Below.refl _ _) _) _) _
  have K0 : Hid (Kp w w1.heap.size (w1.heap.size + 1) (w1.heap.size + 1 + 1) z l ao cp p1 p2 q1 q2 a2 n2 w2) := mkHid ⟨below_step hb hb12, by rw [← hw2]; have := ((Fc.new w1 z ao l.length cp 27).below ((Below.refl _ _).alloc (Nat.le_refl _) (.cells #[.int .i64 p1, .int .i64 p2] 46))).below ((Below.refl _ _).alloc (Nat.le_refl _) (.cells #[.int .i64 q1, .int .i64 q2] 46)); simpa using this, by rw [← hw2]; have := (Box.new' (w1.alloc (.cells #[.int .i64 z, .slice ao l.length cp] 27)) p1 p2 46).below ((Below.refl _ _).alloc (Nat.le_refl _) (.cells #[.int .i64 q1, .int .i64 q2] 46)); simpa using this, by rw [← hw2]; have := Box.new' ((w1.alloc (.cells #[.int .i64 z, .slice ao l.length cp] 27)).alloc (.cells #[.int .i64 p1, .int .i64 p2] 46)) q1 q2 46; simpa using this, hI.below hb12, (HB2.out.old hb).old hb12⟩
  have HZ := mkHid hz
  have HL := mkHid (show l.length ≤ maxLen by unfold maxLen; omega)
  have HCP := mkHid hl2
  have HW2 := mkHid hw2
  clear hb hb12 hI hw2 hz hl1 hl2 HB1
  obtain ⟨X, hX⟩ : ∃ n : Nat, w1.heap.size = n := ⟨_, rfl⟩
  rw [hX] at K0
  obtain ⟨f0, f1⟩ := K0.out.fF
  obtain ⟨x0, x1, x2, x3⟩ := K0.out.fA
  obtain ⟨y0, y1, y2, y3⟩ := K0.out.fB
  go_wp2_with fail
  rw [HW2.out]
  clear HW2 hX
  refine (iSymMost_any z l ao cp p1 p2 q1 q2 _ HCP.out K0.out.fL).mono ?_
  rintro e w3 ⟨rfl, hb⟩
  have K1 := mkHid (K0.out.below hb)
  clear hb K0 f0 f1 x0 x1 x2 x3 y0 y1 y2 y3
  have HS := mkHid (fun (v : World) (hI : IntsAt v ao l) => sSymMost_any z l ao cp p1 p2 q1 q2 v hI)
  obtain ⟨M, hM⟩ : ∃ x, (mostF z l p1 p2 q1 q2).1 = x := ⟨_, rfl⟩
  obtain ⟨k, hk⟩ : ∃ x, (mostF z l p1 p2 q1 q2).2 = x := ⟨_, rfl⟩
  rw [hM, hk] at HS
  have HMK := mkHid (show mostF z l p1 p2 q1 q2 = (M, k) from Prod.ext hM hk)
  rw [hM, hk]
  clear hM hk
  obtain ⟨f0, f1⟩ := K1.out.fF
  obtain ⟨x0, x1, x2, x3⟩ := K1.out.fA
  obtain ⟨y0, y1, y2, y3⟩ := K1.out.fB
  go_wp2_with fail
  refine (HS.out _ K1.out.fL).mono ?_
  rintro e w4 ⟨rfl, hb⟩
  have K2 := mkHid (K1.out.below hb)
  clear hb K1 HS f0 f1 x0 x1 x2 x3 y0 y1 y2 y3
  have hne1 : (M != M) = false := by simp
  have hne2 : (k != k) = false := by simp
  cases k with
  | false =>
    go_wp2
    go_ret
    exact ⟨rfl, K2.out.bel⟩
  | true =>
    go_wp2_with fail
    go_loopg [12, 13, 14, 15, 16, 17] 12 (fun g s12 s13 s14 s15 s16 s17 wr => ∃ u : Nat, u + g = 12 ∧ s12 = .int .i64 u ∧ Kp w X (X + 1) (X + 1 + 1) z l ao cp p1 p2 q1 q2 a2 n2 wr)
    case atStart => exact ⟨0, rfl, rfl, K2.out⟩
    case round =>
      obtain ⟨u, hu, rfl, hK⟩ := hrel
      have K3 := mkHid hK
      clear hK K2
      by_cases hlt : u < 12
      · have hlt' : (u : Int) < 12 := by omega
        have h3 : IntKind.i64.wrap (3 * (u : Int)) = ((3 * u : Nat) : Int) := by rw [IntWalk.i64_in _ ⟨by omega, by omega⟩]; omega
        obtain ⟨f0, f1⟩ := K3.out.fF
        obtain ⟨x0, x1, x2, x3⟩ := K3.out.fA
        obtain ⟨y0, y1, y2, y3⟩ := K3.out.fB
        go_wp2_with fail
        rw [show (3 * (u : Int)) = ((3 * u : Nat) : Int) by omega]
        refine (vals_any n2 c2 (3 * u) z a2 _ HM2.out K3.out.fM (by omega) HZ.out).mono ?_
        rintro e w5 ⟨v, av, cv, rfl, hvl, hvo, hb⟩
        have K4 := mkHid (K3.out.below hb)
        have HV4 := mkHid hvo.at
        have HVL := mkHid (show v.length ≤ maxLen by unfold maxLen; omega)
        clear hb K3 hvo hvl f0 f1 x0 x1 x2 x3 y0 y1 y2 y3 h3
        cases hh : hasF z l v
        · obtain ⟨f0, f1⟩ := K4.out.fF
          obtain ⟨x0, x1, x2, x3⟩ := K4.out.fA
          obtain ⟨y0, y1, y2, y3⟩ := K4.out.fB
          go_wp2_with fail
          refine (iSymVal_any p1 p2 v av cv _ HVL.out HV4.out).mono ?_
          rintro e w6 ⟨rfl, hb⟩
          have K5 := mkHid (K4.out.below hb)
          have HV5 := mkHid (HV4.out.below hb)
          clear hb K4 HV4 f0 f1 x0 x1 x2 x3 y0 y1 y2 y3
          obtain ⟨x, hx⟩ : ∃ x, (symVal p1 p2 v).1 = x := ⟨_, rfl⟩
          obtain ⟨xb, hxb⟩ : ∃ x, (symVal p1 p2 v).2 = x := ⟨_, rfl⟩
          rw [hx, hxb]
          clear hx hxb
          obtain ⟨f0, f1⟩ := K5.out.fF
          obtain ⟨x0, x1, x2, x3⟩ := K5.out.fA
          obtain ⟨y0, y1, y2, y3⟩ := K5.out.fB
          go_wp2_with fail
          refine (iSymVal_any q1 q2 v av cv _ HVL.out HV5.out).mono ?_
          rintro e w7 ⟨rfl, hb⟩
          have K6 := mkHid (K5.out.below hb)
          have HV6 := mkHid (HV5.out.below hb)
          clear hb K5 HV5 f0 f1 x0 x1 x2 x3 y0 y1 y2 y3
          obtain ⟨y, hy⟩ : ∃ x, (symVal q1 q2 v).1 = x := ⟨_, rfl⟩
          obtain ⟨yb, hyb⟩ : ∃ x, (symVal q1 q2 v).2 = x := ⟨_, rfl⟩
          rw [hy, hyb]
          clear hy hyb
          obtain ⟨f0, f1⟩ := K6.out.fF
          obtain ⟨x0, x1, x2, x3⟩ := K6.out.fA
          obtain ⟨y0, y1, y2, y3⟩ := K6.out.fB
          go_wp2_with fail
          refine (sHas_any z l ao cp v av cv _ K6.out.fL HV6.out).mono ?_
          rintro e w8 ⟨rfl, hb⟩
          have K7 := mkHid (K6.out.below hb)
          clear hb K6 HV6 f0 f1 x0 x1 x2 x3 y0 y1 y2 y3
          rw [hh]
          go_wp2_with fail
          go_roundg (gk - 1)
          case measure => omega
          case rel => exact ⟨u + 1, by omega, by go_num, K7.out⟩
        · obtain ⟨x, y, e1, e2, hle, hb0, hb1⟩ := has_most hh HMK.out
          have E1 := mkHid e1
          have E2 := mkHid e2
          clear e1 e2
          have hw : IntKind.i64.wrap (x - y) = x - y := IntWalk.i64_in _ ⟨by omega, by omega⟩
          have hng : ¬ M < x - y := by omega
          obtain ⟨f0, f1⟩ := K4.out.fF
          obtain ⟨x0, x1, x2, x3⟩ := K4.out.fA
          obtain ⟨y0, y1, y2, y3⟩ := K4.out.fB
          go_wp2_with fail
          refine (iSymVal_any p1 p2 v av cv _ HVL.out HV4.out).mono ?_
          rintro e w6 ⟨rfl, hb⟩
          have K5 := mkHid (K4.out.below hb)
          have HV5 := mkHid (HV4.out.below hb)
          clear hb K4 HV4 f0 f1 x0 x1 x2 x3 y0 y1 y2 y3
          rw [E1.out]
          obtain ⟨f0, f1⟩ := K5.out.fF
          obtain ⟨x0, x1, x2, x3⟩ := K5.out.fA
          obtain ⟨y0, y1, y2, y3⟩ := K5.out.fB
          go_wp2_with fail
          refine (iSymVal_any q1 q2 v av cv _ HVL.out HV5.out).mono ?_
          rintro e w7 ⟨rfl, hb⟩
          have K6 := mkHid (K5.out.below hb)
          have HV6 := mkHid (HV5.out.below hb)
          clear hb K5 HV5 f0 f1 x0 x1 x2 x3 y0 y1 y2 y3
          rw [E2.out]
          obtain ⟨f0, f1⟩ := K6.out.fF
          obtain ⟨x0, x1, x2, x3⟩ := K6.out.fA
          obtain ⟨y0, y1, y2, y3⟩ := K6.out.fB
          go_wp2_with fail
          refine (sHas_any z l ao cp v av cv _ K6.out.fL HV6.out).mono ?_
          rintro e w8 ⟨rfl, hb⟩
          have K7 := mkHid (K6.out.below hb)
          clear hb K6 HV6 f0 f1 x0 x1 x2 x3 y0 y1 y2 y3
          rw [hh]
          go_wp2_with fail
          go_roundg (gk - 1)
          case measure => omega
          case rel => exact ⟨u + 1, by omega, by go_num, K7.out⟩
      · have hlt' : ¬ (u : Int) < 12 := by omega
        go_wp2
        go_ret
        exact ⟨rfl, K3.out.bel⟩
/-- A slice of bytes that came in. -/
theorem open_bytes {H : Type} {enc : TypeId × Value → H} {W : World} {a : Option Addr} {len cap : Nat} {x : DataW H} {p : List MemPlace} (h : DataW.Trod enc Try.prog W 0 (fun _ => true) true 56 (.slice a len cap) x p) : Bytes W W.heap.size a len ∧ len ≤ maxLen := by
  obtain ⟨fuel, hf⟩ := h
  rcases open_ints Try.underlying56 Try.underlying5 (by kernel_rfl) hf with ⟨hcs, _⟩ | ⟨ad, l, c, zs, hcs, _, hl, hm, hz, _, hcell, hwz⟩
  · simp [Value.cells] at hcs
    exact ⟨.inl hcs.2.1, by rw [hcs.2.1]; exact Nat.zero_le _⟩
  · simp [Value.cells] at hcs
    obtain ⟨rfl, rfl, rfl⟩ := hcs
    refine ⟨?_, by omega⟩
    by_cases h0 : len = 0
    · exact .inl h0
    · have hzl : zs.length = cap := by simpa using hz
      obtain ⟨b, off, rfl, hc⟩ := ints_at hcell (by omega)
      refine .inr ⟨b, off, rfl, World.block_lt_of_cell? W _ (hc 0 (by omega)), fun i hi => ?_⟩
      have hmem : zs.getD i 0 ∈ zs := by
        rw [List.getD_eq_getElem?_getD, List.getElem?_eq_getElem (by omega)]
        exact List.getElem_mem _
      have hw := bounds_u8 (hwz _ hmem)
      exact ⟨_, hw.1, hw.2, hc i (by omega)⟩

set_option maxRecDepth 100000 in
theorem law_lifted (os : Os) (started : os.Started) (H : Type) (enc : TypeId × Value → H) :
    ReturnsInHanded {} Try.checked os 12 .any (Rows.fnSymMostSpec.pre6 enc Try.prog Try.f12 Rows.fnSymMostRow.domain false) (Rows.fnSymMostSpec.post enc Try.prog Try.f12 false true false false) := by
  refine returnsInHanded_of_change (C := Try.checked) Try.own started (by kernel_rfl) Try.func12
    (ChangeSpec.witness6 (enc := enc) (C := Try.checked) false ⟨#[], #[.slice none 0 0, .slice none 0 0], []⟩ 8 (by kernel_rfl) (by kernel_rfl) (by kernel_rfl) (by kernel_rfl)) ?_
  intro W base args ds gs before hval0 hW hcnd _
  have hval : ∀ (j : Nat) t v, Try.f12.params[j]? = some t → args[j]? = some v → Value.okWide Try.prog W .any base t v := hval0
  have hW' := hW
  obtain ⟨p, q, hA0, hV, rfl, hfz, hnd⟩ := hW
  have hA : DataW.TrodAll enc Try.prog W 0 (fun _ => true) true Try.f12.params.toList args.toList ds p := hA0
  rw [Try.params12] at hA hval
  obtain ⟨v0, vs0, d0, ds0, p0, q0, hargs, rfl, rfl, h0, r0⟩ := trodAll_cons hA
  obtain ⟨v1, vs1, d1, ds1, p1, q1, rfl, rfl, rfl, h1, r1⟩ := trodAll_cons r0
  obtain ⟨rfl, rfl, rfl⟩ := trodAll_nil r1
  obtain rfl : args = #[v0, v1] := by cases args; simp_all
  obtain ⟨rfl, rfl⟩ := trodVars_none hV
  obtain ⟨a0, len0, cap0, rfl⟩ := okWide_slice Try.underlying56 (hval 0 56 v0 rfl rfl)
  obtain ⟨a1, len1, cap1, rfl⟩ := okWide_slice Try.underlying56 (hval 1 56 v1 rfl rfl)
  have lt0 : ∀ x ∈ p0, x.block < W.heap.size := by obtain ⟨m, hm⟩ := h0; exact DataW.trod_lt m _ _ _ hm
  have lt1 : ∀ x ∈ p1, x.block < W.heap.size := by obtain ⟨m, hm⟩ := h1; exact DataW.trod_lt m _ _ _ hm
  clear hA0 hval0
  refine (law_walk a0 a1 len0 cap0 len1 cap1 W (open_bytes h0).2 (open_bytes h1).2 (open_bytes h0).1 (open_bytes h1).1).mono fun e W' ⟨he, bel⟩ => ?_
  subst he
  exact ⟨_, rfl, _, _, _, [], _, [], hW', trodAll_mk1 (shut_bool Try.underlying4 _), (trodAll_cons_mk (Below.trod Try.laidOut (by kernel_rfl) (of_decide_eq_true (by kernel_rfl)) h0 bel lt0) (trodAll_cons_mk (Below.trod Try.laidOut (by kernel_rfl) (of_decide_eq_true (by kernel_rfl)) h1 bel lt1) trodAll_mk0)), rfl, bel.frame _, fun h => by cases h⟩

theorem law_holds : Rows.FnSymMostSaid :=
  OpenClaim.holds_of_wide 12 Try.f12 rfl rfl rfl rfl rfl rfl rfl ⟨rfl, rfl, rfl, rfl, rfl⟩ rfl rfl rfl rfl rfl (by kernel_rfl) Try.func12 (by kernel_rfl)
    (of_decide_eq_true (by kernel_rfl)) (by unfold Func.isWrapper; first | (rw [if_pos (by decide +kernel)]; kernel_rfl) | (rw [if_neg (by decide +kernel)]; exact ⟨rfl, rfl⟩))
    (fun os started H enc _ => law_lifted os started H enc)

#print axioms law_holds
end Go.Proofs.Ytmaejdomlggopaa
