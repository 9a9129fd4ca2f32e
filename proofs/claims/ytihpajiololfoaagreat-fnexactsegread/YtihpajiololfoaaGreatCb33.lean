/-
  CONTRACTS of both SegReads.
-/
import Derived.Test.YtihpajiololfoaaGreatCb28
import Derived.Test.YtihpajiololfoaaGreatCb32
import Derived.Deep.Cut
namespace Go.Proofs.YtihpajiololfoaaGreat
open Go.RowKit

theorem span_ok {f : Q.Tab} {B : List (List Y)} (a b : Y) (h : 1 ≤ B.length) : (span f B a b).1 ≤ (span f B a b).2 ∧ (span f B a b).2 ≤ B.length - 1 := by
  by_cases h1 : B.length = 1
  · rw [span_one h1]; exact ⟨Nat.le_refl _, Nat.zero_le _⟩
  · rw [span_more (by omega)]
    have h2 := dn_le (pF f B a) (B.length - 2)
    have h3 := uq_le (pT f B b) (B.length - 1) (B.length - 1 - (spF f B a + 1))
    have h4 := uq_ge (pT f B b) (B.length - 1) (B.length - 1 - (spF f B a + 1))
    refine ⟨?_, h3⟩
    show spF f B a ≤ spT f B a b
    unfold spT
    have : spF f B a ≤ B.length - 2 := h2
    omega
def readV (f : Q.Tab) (S : SG) (a b : Y) : VV := amg S.V (span f S.B a b).1 ((span f S.B a b).2 - (span f S.B a b).1)
/-- What SegRead answers. -/
def RdR (size lv : Int) (S : SG) (z : Int) (l : List Int) (x y : Y) (r : VV) : Prop := (∃ n f, Site size lv S z l [x, y] n f ∧ r = readV f S x y) ∨ (NoSite size lv S z l [x, y] ∧ r = noneV)
theorem RdR.one {size lv : Int} {S : SG} {z : Int} {l : List Int} {x y : Y} {r r' : VV} (h : RdR size lv S z l x y r) (h' : RdR size lv S z l x y r') : r = r' := by
  rcases h with ⟨n, f, h1, h2⟩ | ⟨h1, h2⟩ <;> rcases h' with ⟨n', f', k1, k2⟩ | ⟨k1, k2⟩
  · obtain ⟨rfl, rfl⟩ := h1.one k1; rw [h2, k2]
  · exact absurd k1 h1.not
  · exact absurd h1 k1.not
  · rw [h2, k2]
theorem RdR.ex (size lv : Int) (S : SG) (z : Int) (l : List Int) (x y : Y) : ∃ r, RdR size lv S z l x y r := by
  by_cases h : OkS size lv S.B S.V S.M ∧ FS z l size ∧ ∀ t, t ∈ [x, y] → Wd size.toNat t
  · obtain ⟨h1, ⟨f, h2, h3⟩, h4⟩ := h
    obtain ⟨n, q0, _, _⟩ := cF_size h2
    have hs : size = n := h3.symm.trans q0
    exact ⟨_, .inl ⟨n, f, ⟨hs, q0, h2, h1, fun t ht => by have := h4 t ht; rw [hs, Int.toNat_natCast] at this; exact this⟩, rfl⟩⟩
  · exact ⟨_, .inr ⟨h, rfl⟩⟩
set_option maxRecDepth 100000 in
set_option maxHeartbeats 6400000 in
theorem sSegRead_any (size lv : Int) (S : SG) (A : SAd) (z : Int) (l : List Int) (a : Option Addr) (c : Nat) (x y : Y) (w : World) (hs : Small S) (hS : SegAt w A S) (hl : Q.IntsAt w a l) :
    Calls Tryz.prog 22 #[.int .i64 size, .int .i64 lv, .agg #[.slice A.a0 S.B.length A.c0, .slice A.a1 S.V.length A.c1, .slice A.a2 S.M.length A.c2], .agg #[.int .i64 z, .slice a l.length c], .agg #[.int .i64 x.1, .int .i64 x.2], .agg #[.int .i64 y.1, .int .i64 y.2]] w fun e w' => ∃ r : VV, RdR size lv S z l x y r ∧ e = .returned (.agg #[.int .i64 r.1, .int .i64 r.2.1, .bool r.2.2]) ∧ Below w.heap.size w w' := by
  obtain ⟨w0, hw0⟩ : ∃ q, (((((w.alloc (.cells #[.slice A.a0 S.B.length A.c0, .slice A.a1 S.V.length A.c1, .slice A.a2 S.M.length A.c2] 35)).alloc (.cells #[.int .i64 z, .slice a l.length c] 38)).alloc (.cells #[.int .i64 x.1, .int .i64 x.2] 49)).alloc (.cells #[.int .i64 y.1, .int .i64 y.2] 49)).alloc (.cells #[.int .i64 0, .int .i64 0, .bool false] 55)) = q := ⟨_, rfl⟩
  obtain ⟨X, hX⟩ : ∃ q, w.heap.size = q := ⟨_, rfl⟩
  have B0 : Hid (Below w.heap.size w w0) := mkHid (by rw [← hw0]; exact (bl_alloc (bl_alloc (bl_alloc (bl_alloc (bl_alloc (Below.refl _ _) _) _) _) _) _))
  have G0 : Hid (G3 w0 X (.slice A.a0 S.B.length A.c0) (.slice A.a1 S.V.length A.c1) (.slice A.a2 S.M.length A.c2)) := mkHid (by rw [← hw0, ← hX]; exact (G3.new w _ _ _ 35).below (bl_alloc (bl_alloc (bl_alloc (bl_alloc (Below.refl _ _) _) _) _) _))
  have T0 : Hid (Q.Fc w0 (X + 1) z a l.length c) := mkHid (by rw [← hw0, ← hX]; have := (Q.Fc.new (w.alloc (.cells #[.slice A.a0 S.B.length A.c0, .slice A.a1 S.V.length A.c1, .slice A.a2 S.M.length A.c2] 35)) z a l.length c 38).below (bl_alloc (bl_alloc (bl_alloc (Below.refl _ _) (.cells #[.int .i64 x.1, .int .i64 x.2] 49)) (.cells #[.int .i64 y.1, .int .i64 y.2] 49)) (.cells #[.int .i64 0, .int .i64 0, .bool false] 55)); simpa using this)
  have P_x : Hid (Box w0 (X + 2) x.1 x.2) := mkHid (by rw [← hw0, ← hX]; have := (Box.new' ((w.alloc (.cells #[.slice A.a0 S.B.length A.c0, .slice A.a1 S.V.length A.c1, .slice A.a2 S.M.length A.c2] 35)).alloc (.cells #[.int .i64 z, .slice a l.length c] 38)) x.1 x.2 49).below (bl_alloc (bl_alloc (Below.refl _ _) (.cells #[.int .i64 y.1, .int .i64 y.2] 49)) (.cells #[.int .i64 0, .int .i64 0, .bool false] 55)); simpa using this)
  have P_y : Hid (Box w0 (X + 3) y.1 y.2) := mkHid (by rw [← hw0, ← hX]; have := (Box.new' (((w.alloc (.cells #[.slice A.a0 S.B.length A.c0, .slice A.a1 S.V.length A.c1, .slice A.a2 S.M.length A.c2] 35)).alloc (.cells #[.int .i64 z, .slice a l.length c] 38)).alloc (.cells #[.int .i64 x.1, .int .i64 x.2] 49)) y.1 y.2 49).below (bl_alloc (Below.refl _ _) (.cells #[.int .i64 0, .int .i64 0, .bool false] 55)); simpa using this)
  have E0 : Hid (V3 w0 (X + 4) 0 0 false) := mkHid (by rw [← hw0, ← hX]; have := V3.new ((((w.alloc (.cells #[.slice A.a0 S.B.length A.c0, .slice A.a1 S.V.length A.c1, .slice A.a2 S.M.length A.c2] 35)).alloc (.cells #[.int .i64 z, .slice a l.length c] 38)).alloc (.cells #[.int .i64 x.1, .int .i64 x.2] 49)).alloc (.cells #[.int .i64 y.1, .int .i64 y.2] 49)) 0 0 false 55; simpa using this)
  have HL := mkHid (hl.below B0.out)
  have HS := mkHid (hS.below B0.out)
  have hXB : Hid (w.heap.size ≤ X + 4) := mkHid (by omega)
  have HF34 : Hid (∀ v, Q.IntsAt v a l → Calls Tryz.prog 34 #[.int .i64 size, .agg #[.int .i64 z, .slice a l.length c]] v fun e w' => ∃ ao cap, e = .returned (.tuple #[.agg #[.int .i64 (zX z l), .slice ao (lX z l).length cap], .bool (fsB z l size)]) ∧ Q.IntsAt w' ao (lX z l) ∧ Below v.heap.size v w') := mkHid fun v h => l13Facts_any size z l a c v h
  have HOK : Hid (∀ v, SegAt v A S → Calls Tryz.prog 35 #[.int .i64 size, .int .i64 lv, .agg #[.slice A.a0 S.B.length A.c0, .slice A.a1 S.V.length A.c1, .slice A.a2 S.M.length A.c2]] v fun e w' => Tells v w' e (OkS size lv S.B S.V S.M)) := mkHid fun v hv => sSegOk_any size lv S A v hs hv
  obtain ⟨zx, hzx⟩ : ∃ q, zX z l = q := ⟨_, rfl⟩
  obtain ⟨lx, hlx⟩ : ∃ q, lX z l = q := ⟨_, rfl⟩
  obtain ⟨fb, hfb⟩ : ∃ q, fsB z l size = q := ⟨_, rfl⟩
  rw [hzx, hlx, hfb] at HF34
  have HZX := mkHid hzx
  have HLX := mkHid hlx
  have HFB := mkHid hfb
  have HSM := mkHid hs
  clear hl hS hs hzx hlx hfb
  obtain ⟨t0, t1⟩ := T0.out
  go_enter Tryz.func22, Tryz.ntmps22
  go_wp2_with fail
  first | rw [hw0] | skip
  refine (HF34.out _ HL.out).mono ?_
  rintro e w1 ⟨ao, cap, rfl, hLX, hb⟩
  obtain ⟨P, hP⟩ : ∃ q, w1.heap.size = q := ⟨_, rfl⟩
  obtain ⟨w2, hw2⟩ : ∃ q, w1.alloc (.cells #[.int .i64 zx, .slice ao lx.length cap] 38) = q := ⟨_, rfl⟩
  have A2 : Below w1.heap.size w1 w2 := by rw [← hw2]; exact bl_alloc (Below.refl _ _) _
  have hb2 := below_step hb A2
  have B0 := mkHid (below_step B0.out hb2)
  have G0 := mkHid (G0.out.below hb2)
  have P_x := mkHid (P_x.out.below hb2)
  have P_y := mkHid (P_y.out.below hb2)
  have HS := mkHid (HS.out.below hb2)
  have E0 := mkHid (E0.out.below hb2)
  have EP : Hid (Q.Fc w2 P zx ao lx.length cap) := mkHid (by rw [← hw2, ← hP]; exact Q.Fc.new _ _ _ _ _ 38)
  have LX := mkHid (hLX.below A2)
  clear hb hb2 A2 hLX t0 t1 hw0 T0 HL HF34
  obtain ⟨g0, g1, g2, _, _, _⟩ := G0.out
  first | rw [hX] | skip
  go_wp2_with fail
  first | rw [hw2] | skip
  first | rw [hP] | skip
  clear hw2 hP
  refine (HOK.out _ HS.out).mono ?_
  rintro e w3 ⟨hb, r, rfl, hr⟩
  have B0 := mkHid (below_step B0.out hb)
  have G0 := mkHid (G0.out.below hb)
  have P_x := mkHid (P_x.out.below hb)
  have P_y := mkHid (P_y.out.below hb)
  have HS := mkHid (HS.out.below hb)
  have E0 := mkHid (E0.out.below hb)
  have EP := mkHid (EP.out.below hb)
  have LX := mkHid (LX.out.below hb)
  have HRR := mkHid hr
  clear hb hr g0 g1 g2 HOK
  cases r
  · have HWHY : Hid (NoSite size lv S z l [x, y]) := mkHid (fun h => absurd (HRR.out.2 h.1) (by decide))
    go_wp2_with fail
    refine (sVnone_any _).mono ?_
    rintro e wz ⟨rfl, hb⟩
    have B0 := mkHid (below_step B0.out hb)
    have E0 := mkHid (E0.out.below hb)
    clear hb
    obtain ⟨z0, z1, z2, z3, z4, z5⟩ := E0.out
    have HEE := mkHid (fun a b c => below_set3 B0.out hXB.out a b c)
    go_wp2
    exact bodyPost_ret (v := .agg #[.int .i64 1, .int .i64 0, .bool true]) (by simp [results, Tryz.results22, go_sem, *]) rfl ⟨_, .inr ⟨HWHY.out, rfl⟩, rfl, HEE.out _ _ _⟩
  · have hok := HRR.out.1 rfl
    cases fb
    · have HWHY : Hid (NoSite size lv S z l [x, y]) := mkHid (fun h => absurd (HFB.out.symm.trans (fsB_iff.2 h.2.1)) (by decide))
      go_wp2_with fail
      refine (sVnone_any _).mono ?_
      rintro e wz ⟨rfl, hb⟩
      have B0 := mkHid (below_step B0.out hb)
      have E0 := mkHid (E0.out.below hb)
      clear hb
      obtain ⟨z0, z1, z2, z3, z4, z5⟩ := E0.out
      have HEE := mkHid (fun a b c => below_set3 B0.out hXB.out a b c)
      go_wp2
      exact bodyPost_ret (v := .agg #[.int .i64 1, .int .i64 0, .bool true]) (by simp [results, Tryz.results22, go_sem, *]) rfl ⟨_, .inr ⟨HWHY.out, rfl⟩, rfl, HEE.out _ _ _⟩
    · obtain ⟨f, hf, hzs⟩ := fsB_iff.1 HFB.out
      obtain ⟨n, hzn, hn1, hn2⟩ := cF_size hf
      have hsn : size = n := hzs.symm.trans hzn
      obtain ⟨q1, q2⟩ := x_some hf hzn
      rw [HZX.out] at q1
      rw [HLX.out] at q2
      subst q1 q2
      have HOKS := mkHid hok
      have HF := mkHid hf
      have HZN := mkHid hzn
      have HSN := mkHid hsn
      have HFN := mkHid (cF_fine z l)
      have HSY : Hid (∀ (x : Y) v, Calls Tryz.prog 57 #[.int .i64 size, .agg #[.int .i64 x.1, .int .i64 x.2]] v fun e w' => e = .returned (.bool (Q.symB x.1 n && Q.offB x.2)) ∧ Below v.heap.size v w') := mkHid fun x v => by rw [hsn]; exact l13Sym_any n (by omega) x v
      clear hok hf hzs hzn hsn HZX HLX
      obtain ⟨p0, p1, _, _⟩ := P_x.out
      go_wp2_with fail
      refine (HSY.out x _).mono ?_
      rintro e w4 ⟨rfl, hb⟩
      have B0 := mkHid (below_step B0.out hb)
      have G0 := mkHid (G0.out.below hb)
      have P_x := mkHid (P_x.out.below hb)
      have P_y := mkHid (P_y.out.below hb)
      have HS := mkHid (HS.out.below hb)
      have E0 := mkHid (E0.out.below hb)
      have EP := mkHid (EP.out.below hb)
      have LX := mkHid (LX.out.below hb)
      clear hb p0 p1
      cases hwx : (Q.symB x.1 n && Q.offB x.2)
      · have HW : Hid (¬ Wd n x) := mkHid (fun h => by rw [wide_iff.2 h] at hwx; cases hwx)
        clear hwx
        have HWHY : Hid (NoSite size lv S z l [x, y]) := mkHid (fun h => HW.out (by have := h.2.2 x (by simp); rw [HSN.out, Int.toNat_natCast] at this; exact this))
        go_wp2_with fail
        refine (sVnone_any _).mono ?_
        rintro e wz ⟨rfl, hb⟩
        have B0 := mkHid (below_step B0.out hb)
        have E0 := mkHid (E0.out.below hb)
        clear hb
        obtain ⟨z0, z1, z2, z3, z4, z5⟩ := E0.out
        have HEE := mkHid (fun a b c => below_set3 B0.out hXB.out a b c)
        go_wp2
        exact bodyPost_ret (v := .agg #[.int .i64 1, .int .i64 0, .bool true]) (by simp [results, Tryz.results22, go_sem, *]) rfl ⟨_, .inr ⟨HWHY.out, rfl⟩, rfl, HEE.out _ _ _⟩
      · have HWx : Hid (Wd n x) := mkHid (wide_iff.1 hwx)
        clear hwx
        obtain ⟨p0, p1, _, _⟩ := P_y.out
        go_wp2_with fail
        refine (HSY.out y _).mono ?_
        rintro e w5 ⟨rfl, hb⟩
        have B0 := mkHid (below_step B0.out hb)
        have G0 := mkHid (G0.out.below hb)
        have P_x := mkHid (P_x.out.below hb)
        have P_y := mkHid (P_y.out.below hb)
        have HS := mkHid (HS.out.below hb)
        have E0 := mkHid (E0.out.below hb)
        have EP := mkHid (EP.out.below hb)
        have LX := mkHid (LX.out.below hb)
        clear hb p0 p1
        cases hwy : (Q.symB y.1 n && Q.offB y.2)
        · have HW : Hid (¬ Wd n y) := mkHid (fun h => by rw [wide_iff.2 h] at hwy; cases hwy)
          clear hwy
          have HWHY : Hid (NoSite size lv S z l [x, y]) := mkHid (fun h => HW.out (by have := h.2.2 y (by simp); rw [HSN.out, Int.toNat_natCast] at this; exact this))
          go_wp2_with fail
          refine (sVnone_any _).mono ?_
          rintro e wz ⟨rfl, hb⟩
          have B0 := mkHid (below_step B0.out hb)
          have E0 := mkHid (E0.out.below hb)
          clear hb
          obtain ⟨z0, z1, z2, z3, z4, z5⟩ := E0.out
          have HEE := mkHid (fun a b c => below_set3 B0.out hXB.out a b c)
          go_wp2
          exact bodyPost_ret (v := .agg #[.int .i64 1, .int .i64 0, .bool true]) (by simp [results, Tryz.results22, go_sem, *]) rfl ⟨_, .inr ⟨HWHY.out, rfl⟩, rfl, HEE.out _ _ _⟩
        · have HWy : Hid (Wd n y) := mkHid (wide_iff.1 hwy)
          clear hwy
          have HSITE : Hid (Site size lv S z l [x, y] n f) := mkHid ⟨HSN.out, HZN.out, HF.out, HOKS.out, by intro x hx; simp at hx; rcases hx with rfl | rfl; exact HWx.out; exact HWy.out⟩
          obtain ⟨hn13, hbd⟩ := HSITE.out.bd
          have hsp := span_ok (f := f) x y HSITE.out.2.2.2.1.k1
          have HVL := HSITE.out.2.2.2.1.v
          have HML := HSITE.out.2.2.2.1.m
          obtain ⟨rd, hrd⟩ : ∃ q, readV f S x y = q := ⟨_, rfl⟩
          have HRD : Hid (RdR size lv S z l x y rd) := mkHid (.inl ⟨n, f, HSITE.out, hrd.symm⟩)
          unfold readV at hrd
          have HCS := mkHid (fun v (q1 : Q.IntsAt v ao (Q.mk n f)) (q2 : SegAt v A S) => l13Span_any n f hn13 hbd ao cap S A x y HWx.out HWy.out v HSM.out HOKS.out.k1 HSITE.out.wds q1 q2)
          obtain ⟨⟨fr, to'⟩, hr⟩ : ∃ r, span f S.B x y = r := ⟨_, rfl⟩
          rw [hr] at HCS hsp hrd
          have HCA := mkHid (fun v (q2 : SegAt v A S) => l13Among_any S A fr to' hsp.1 (by have := hsp.2; simp only at this; omega) v HSM.out q2)
          simp only at hrd
          rw [hrd] at HCA
          obtain ⟨g0, g1, g2, _, _, _⟩ := G0.out
          obtain ⟨t0, t1⟩ := EP.out
          obtain ⟨p0, p1, _, _⟩ := P_x.out
          obtain ⟨r0, r1, _, _⟩ := P_y.out
          clear hn13 hbd hr hsp hrd HVL HML
          go_wp2_with fail
          refine (HCS.out _ LX.out HS.out).mono ?_
          rintro e w9 ⟨rfl, hb⟩
          have B0 := mkHid (below_step B0.out hb)
          have E0 := mkHid (E0.out.below hb)
          have HS := mkHid (HS.out.below hb)
          have G0 := mkHid (G0.out.below hb)
          clear hb g0 g1 g2 t0 t1 p0 p1 r0 r1
          obtain ⟨g0, g1, g2, _, _, _⟩ := G0.out
          go_wp2_with fail
          refine (HCA.out _ HS.out).mono ?_
          rintro e w8 ⟨rfl, hb⟩
          have B0 := mkHid (below_step B0.out hb)
          have E0 := mkHid (E0.out.below hb)
          clear hb g0 g1 g2
          obtain ⟨z0, z1, z2, z3, z4, z5⟩ := E0.out
          have HEE := mkHid (fun a b c => below_set3 B0.out hXB.out a b c)
          go_wp2
          exact bodyPost_ret (v := .agg #[.int .i64 rd.1, .int .i64 rd.2.1, .bool rd.2.2]) (by simp [results, Tryz.results22, go_sem, *]) rfl ⟨_, HRD.out, rfl, HEE.out _ _ _⟩
set_option maxRecDepth 100000 in
set_option maxHeartbeats 6400000 in
theorem iSegRead_any (size lv : Int) (S : SG) (A : SAd) (z : Int) (l : List Int) (a : Option Addr) (c : Nat) (x y : Y) (w : World) (hs : Small S) (hS : SegAt w A S) (hlc : l.length ≤ c) (hl : Q.IntsAt w a l) :
    Calls Tryz.prog 23 #[.int .i64 size, .int .i64 lv, .agg #[.slice A.a0 S.B.length A.c0, .slice A.a1 S.V.length A.c1, .slice A.a2 S.M.length A.c2], .agg #[.int .i64 z, .slice a l.length c], .agg #[.int .i64 x.1, .int .i64 x.2], .agg #[.int .i64 y.1, .int .i64 y.2]] w fun e w' => ∃ r : VV, RdR size lv S z l x y r ∧ e = .returned (.agg #[.int .i64 r.1, .int .i64 r.2.1, .bool r.2.2]) ∧ Below w.heap.size w w' := by
  obtain ⟨w0, hw0⟩ : ∃ q, (((((w.alloc (.cells #[.slice A.a0 S.B.length A.c0, .slice A.a1 S.V.length A.c1, .slice A.a2 S.M.length A.c2] 35)).alloc (.cells #[.int .i64 z, .slice a l.length c] 38)).alloc (.cells #[.int .i64 x.1, .int .i64 x.2] 49)).alloc (.cells #[.int .i64 y.1, .int .i64 y.2] 49)).alloc (.cells #[.int .i64 0, .int .i64 0, .bool false] 55)) = q := ⟨_, rfl⟩
  obtain ⟨X, hX⟩ : ∃ q, w.heap.size = q := ⟨_, rfl⟩
  have B0 : Hid (Below w.heap.size w w0) := mkHid (by rw [← hw0]; exact (bl_alloc (bl_alloc (bl_alloc (bl_alloc (bl_alloc (Below.refl _ _) _) _) _) _) _))
  have G0 : Hid (G3 w0 X (.slice A.a0 S.B.length A.c0) (.slice A.a1 S.V.length A.c1) (.slice A.a2 S.M.length A.c2)) := mkHid (by rw [← hw0, ← hX]; exact (G3.new w _ _ _ 35).below (bl_alloc (bl_alloc (bl_alloc (bl_alloc (Below.refl _ _) _) _) _) _))
  have T0 : Hid (Q.Fc w0 (X + 1) z a l.length c) := mkHid (by rw [← hw0, ← hX]; have := (Q.Fc.new (w.alloc (.cells #[.slice A.a0 S.B.length A.c0, .slice A.a1 S.V.length A.c1, .slice A.a2 S.M.length A.c2] 35)) z a l.length c 38).below (bl_alloc (bl_alloc (bl_alloc (Below.refl _ _) (.cells #[.int .i64 x.1, .int .i64 x.2] 49)) (.cells #[.int .i64 y.1, .int .i64 y.2] 49)) (.cells #[.int .i64 0, .int .i64 0, .bool false] 55)); simpa using this)
  have P_x : Hid (Box w0 (X + 2) x.1 x.2) := mkHid (by rw [← hw0, ← hX]; have := (Box.new' ((w.alloc (.cells #[.slice A.a0 S.B.length A.c0, .slice A.a1 S.V.length A.c1, .slice A.a2 S.M.length A.c2] 35)).alloc (.cells #[.int .i64 z, .slice a l.length c] 38)) x.1 x.2 49).below (bl_alloc (bl_alloc (Below.refl _ _) (.cells #[.int .i64 y.1, .int .i64 y.2] 49)) (.cells #[.int .i64 0, .int .i64 0, .bool false] 55)); simpa using this)
  have P_y : Hid (Box w0 (X + 3) y.1 y.2) := mkHid (by rw [← hw0, ← hX]; have := (Box.new' (((w.alloc (.cells #[.slice A.a0 S.B.length A.c0, .slice A.a1 S.V.length A.c1, .slice A.a2 S.M.length A.c2] 35)).alloc (.cells #[.int .i64 z, .slice a l.length c] 38)).alloc (.cells #[.int .i64 x.1, .int .i64 x.2] 49)) y.1 y.2 49).below (bl_alloc (Below.refl _ _) (.cells #[.int .i64 0, .int .i64 0, .bool false] 55)); simpa using this)
  have E0 : Hid (V3 w0 (X + 4) 0 0 false) := mkHid (by rw [← hw0, ← hX]; have := V3.new ((((w.alloc (.cells #[.slice A.a0 S.B.length A.c0, .slice A.a1 S.V.length A.c1, .slice A.a2 S.M.length A.c2] 35)).alloc (.cells #[.int .i64 z, .slice a l.length c] 38)).alloc (.cells #[.int .i64 x.1, .int .i64 x.2] 49)).alloc (.cells #[.int .i64 y.1, .int .i64 y.2] 49)) 0 0 false 55; simpa using this)
  have HL := mkHid (hl.below B0.out)
  have HS := mkHid (hS.below B0.out)
  have hXB : Hid (w.heap.size ≤ X + 4) := mkHid (by omega)
  have HSI : Hid (∀ (aT : Option Addr) (cT : Nat) v, SegAt v A S → Q.IntsAt v a l → At eY v aT [x, y] → Calls Tryz.prog 41 #[.int .i64 size, .int .i64 lv, .agg #[.slice A.a0 S.B.length A.c0, .slice A.a1 S.V.length A.c1, .slice A.a2 S.M.length A.c2], .agg #[.int .i64 z, .slice a l.length c], .slice aT 2 cT] v fun e w' => Below v.heap.size v w' ∧ ((∃ (n : Nat) (f : Q.Tab), size = n ∧ z = n ∧ cF z l = some f ∧ OkS size lv S.B S.V S.M ∧ (∀ t, t ∈ [x, y] → Wd n t) ∧ e = .returned (.tuple #[.agg (sA size lv A S n (Q.grid n f)), .bool true])) ∨ (¬ (OkS size lv S.B S.V S.M ∧ FS z l size ∧ ∀ t, t ∈ [x, y] → Wd size.toNat t) ∧ e = .returned (.tuple #[.agg (sA 0 0 zAd zSG 0 Q.zs), .bool false])))) := mkHid fun aT cT v q1 q2 q3 => siteOf_any size lv S A z l a c [x, y] aT cT v hs q1 hlc q2 (by simp) q3
  have HSM := mkHid hs
  clear hl hS hs hlc
  obtain ⟨t0, t1⟩ := T0.out
  obtain ⟨g0, g1, g2, _, _, _⟩ := G0.out
  obtain ⟨p0x, p1x, _, _⟩ := P_x.out
  obtain ⟨p0y, p1y, _, _⟩ := P_y.out
  obtain ⟨P, hP⟩ : ∃ q, w0.heap.size = q := ⟨_, rfl⟩
  obtain ⟨w1, hw1⟩ : ∃ q, w0.alloc (.cells #[.int .i64 x.1, .int .i64 x.2, .int .i64 y.1, .int .i64 y.2] 49) = q := ⟨_, rfl⟩
  have A1 : Below w0.heap.size w0 w1 := by rw [← hw1]; exact bl_alloc (Below.refl _ _) _
  have AT : Hid (At eY w1 (some ⟨P, 0, none⟩) [x, y]) := mkHid (by rw [← hw1, ← hP]; exact two_at _ _ _ _)
  have B0 := mkHid (below_step B0.out A1)
  have P_x := mkHid (P_x.out.below A1)
  have P_y := mkHid (P_y.out.below A1)
  have HS := mkHid (HS.out.below A1)
  have E0 := mkHid (E0.out.below A1)
  have G0 := mkHid (G0.out.below A1)
  have HL := mkHid (HL.out.below A1)
  clear A1
  go_enter Tryz.func23, Tryz.ntmps23
  go_wp2_with fail
  first | rw [hw0] | skip
  first | rw [hw1] | skip
  first | rw [hP] | skip
  clear hw1 hP
  refine (HSI.out (some ⟨P, 0, none⟩) 2 _ HS.out HL.out AT.out).mono ?_
  rintro e w2 ⟨hb, hor⟩
  have B0 := mkHid (below_step B0.out hb)
  have P_x := mkHid (P_x.out.below hb)
  have P_y := mkHid (P_y.out.below hb)
  have HS := mkHid (HS.out.below hb)
  have E0 := mkHid (E0.out.below hb)
  have G0 := mkHid (G0.out.below hb)
  clear hb g0 g1 g2 t0 t1 hw0 T0 HL HSI p0x p1x p0y p1y AT
  obtain ⟨R, hR⟩ : ∃ q, w2.heap.size = q := ⟨_, rfl⟩
  have N2 : Hid (St (w2.alloc (.cells Tryz.zeroCells82 82)) R 0 0 zAd zSG 0 Q.zs) := mkHid (by rw [← hR]; exact St.newz w2)
  rcases hor with ⟨n, f, hsn, hzn, hf, hok, hwd, rfl⟩ | ⟨hno, rfl⟩
  · have HSITE : Hid (Site size lv S z l [x, y] n f) := mkHid ⟨hsn, hzn, hf, hok, hwd⟩
    have HFN := mkHid (cF_fine z l)
    have HGL := mkHid (Q.grid_len n f)
    clear hsn hzn hf hok hwd
    go_wp2_with (first | (refine wp_store82 N2.out HGL.out rfl rfl rfl rfl ?_; intro w4 hD4 hg4; have hb4 : Below w2.heap.size w2 w4 := (bl_alloc (Below.refl w2.heap.size w2) _).grown hg4 (bl_alloc (Below.refl w2.heap.size w2) _).size (fun q hq => by cases hq; exact Nat.le_of_eq hR); obtain ⟨p0x, p1x, _, _⟩ := P_x.out.below hb4; obtain ⟨p0y, p1y, _, _⟩ := P_y.out.below hb4) | (refine wp_load82 hD4 rfl rfl rfl ?_))
    have B0 := mkHid (below_step B0.out hb4)
    have P_x := mkHid (P_x.out.below hb4)
    have P_y := mkHid (P_y.out.below hb4)
    have HS := mkHid (HS.out.below hb4)
    have E0 := mkHid (E0.out.below hb4)
    have G0 := mkHid (G0.out.below hb4)
    have D4 := mkHid hD4
    clear hR hD4 hg4 hb4 N2 p0x p1x p0y p1y
    obtain ⟨hn13, hbd⟩ := HSITE.out.bd
    have hsp := span_ok (f := f) x y HSITE.out.2.2.2.1.k1
    have HVL := HSITE.out.2.2.2.1.v
    have HML := HSITE.out.2.2.2.1.m
    obtain ⟨rd, hrd⟩ : ∃ q, readV f S x y = q := ⟨_, rfl⟩
    have HRD : Hid (RdR size lv S z l x y rd) := mkHid (.inl ⟨n, f, HSITE.out, hrd.symm⟩)
    unfold readV at hrd
    have HCS := mkHid (fun v (q2 : SegAt v A S) => iSpan_any size lv A S n f hn13 hbd x y (HSITE.out.2.2.2.2 x (by simp)) (HSITE.out.2.2.2.2 y (by simp)) v HSM.out HSITE.out.2.2.2.1.k1 HSITE.out.wds q2)
    obtain ⟨⟨fr, to'⟩, hr⟩ : ∃ r, span f S.B x y = r := ⟨_, rfl⟩
    rw [hr] at HCS hsp hrd
    have HCA := mkHid (fun v (q2 : SegAt v A S) => saidBetween_any S A fr to' hsp.1 (by have := hsp.2; simp only at this; omega) (by omega) v HSM.out q2)
    simp only at hrd
    rw [hrd] at HCA
    clear hn13 hbd hr hsp hrd HVL HML
    refine (HCS.out _ HS.out).mono ?_
    rintro e w9 ⟨rfl, hb⟩
    have B0 := mkHid (below_step B0.out hb)
    have E0 := mkHid (E0.out.below hb)
    have HS := mkHid (HS.out.below hb)
    have G0 := mkHid (G0.out.below hb)
    clear hb
    obtain ⟨g0, g1, g2, _, _, _⟩ := G0.out
    go_wp2_with fail
    refine (HCA.out _ HS.out).mono ?_
    rintro e w8 ⟨⟨mb, rfl⟩, hb⟩
    have B0 := mkHid (below_step B0.out hb)
    have E0 := mkHid (E0.out.below hb)
    clear hb g0 g1 g2
    obtain ⟨P9, hP9⟩ : ∃ q, w8.heap.size = q := ⟨_, rfl⟩
    obtain ⟨v8, hv8⟩ : ∃ q, w8.alloc (.cells #[.int .i64 rd.1, .int .i64 rd.2.1, .bool rd.2.2] 55) = q := ⟨_, rfl⟩
    have A8 : Below w8.heap.size w8 v8 := by rw [← hv8]; exact bl_alloc (Below.refl _ _) _
    have N8 : Hid (V3 v8 P9 rd.1 rd.2.1 rd.2.2) := mkHid (by rw [← hv8, ← hP9]; exact V3.new _ _ _ _ 55)
    have B0 := mkHid (below_step B0.out A8)
    have E0 := mkHid (E0.out.below A8)
    clear A8
    go_upto_region 6 with fail
    first | rw [hv8] | skip
    first | rw [hP9] | skip
    clear hv8 hP9
    obtain ⟨n0, n1, n2, _, _, _⟩ := N8.out
    obtain ⟨z0, z1, z2, z3, z4, z5⟩ := E0.out
    have HEE := mkHid (fun a b c => below_set3 B0.out hXB.out a b c)
    go_wp2
    exact bodyPost_ret (v := .agg #[.int .i64 rd.1, .int .i64 rd.2.1, .bool rd.2.2]) (by simp [results, Tryz.results23, go_sem, *]) rfl ⟨_, HRD.out, rfl, HEE.out _ _ _⟩
  · have HNO := mkHid hno
    clear hno
    go_wp2_with (first | (refine wp_store82 N2.out Q.zs_len rfl rfl rfl rfl ?_; intro w4 hD4 hg4; have hb4 : Below w2.heap.size w2 w4 := (bl_alloc (Below.refl w2.heap.size w2) _).grown hg4 (bl_alloc (Below.refl w2.heap.size w2) _).size (fun q hq => by cases hq; exact Nat.le_of_eq hR); obtain ⟨p0x, p1x, _, _⟩ := P_x.out.below hb4; obtain ⟨p0y, p1y, _, _⟩ := P_y.out.below hb4))
    have B0 := mkHid (below_step B0.out hb4)
    have E0 := mkHid (E0.out.below hb4)
    clear hR hD4 hg4 N2
    have HWHY : Hid (NoSite size lv S z l [x, y]) := mkHid (HNO.out)
    go_wp2_with fail
    refine (iVnone_any _).mono ?_
    rintro e wz ⟨rfl, hb⟩
    have B0 := mkHid (below_step B0.out hb)
    have E0 := mkHid (E0.out.below hb)
    clear hb
    obtain ⟨z0, z1, z2, z3, z4, z5⟩ := E0.out
    have HEE := mkHid (fun a b c => below_set3 B0.out hXB.out a b c)
    go_wp2
    exact bodyPost_ret (v := .agg #[.int .i64 1, .int .i64 0, .bool true]) (by simp [results, Tryz.results23, go_sem, *]) rfl ⟨_, .inr ⟨HWHY.out, rfl⟩, rfl, HEE.out _ _ _⟩
end Go.Proofs.YtihpajiololfoaaGreat
