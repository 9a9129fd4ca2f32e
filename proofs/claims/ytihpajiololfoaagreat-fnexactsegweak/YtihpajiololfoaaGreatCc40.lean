/-
  CONTRACTS of both SegWeaks.
  CONTRACTS of the law's toSymSS, szSymSS.
-/
import Derived.Test.YtihpajiololfoaaGreatCc39
import Derived.Test.YtihpajiololfoaaGreatCc03
import Derived.Test.YtihpajiololfoaaGreatCc05
namespace Go.Proofs.YtihpajiololfoaaGreat
open Go.RowKit

theorem both_same (a b : Int) : Q.bothB a b a b = someB a b := by unfold Q.bothB Q.someB someB; simp
/-- What SegWeak answers. -/
def WkR (size lv : Int) (S : SG) (z : Int) (l : List Int) (x y : Y) (ra rb : Int) (Z : SG) : Prop := (∃ n f, Site size lv S z l [x, y] n f ∧ someB ra rb = true ∧ Z = weakSG f S x y ra rb) ∨ ((NoSite size lv S z l [x, y] ∨ someB ra rb = false) ∧ Z = noS)
theorem WkR.one {size lv : Int} {S : SG} {z : Int} {l : List Int} {x y : Y} {ra rb : Int} {r r' : SG} (h : WkR size lv S z l x y ra rb r) (h' : WkR size lv S z l x y ra rb r') : r = r' := by
 rcases h with ⟨n, f, h1, h3, h2⟩ | ⟨h1, h2⟩ <;> rcases h' with ⟨n', f', k1, k3, k2⟩ | ⟨k1, k2⟩
 ·obtain ⟨rfl, rfl⟩ := h1.one k1; rw [h2, k2]
 ·rcases k1 with k1 | k1
  ·exact absurd k1 h1.not
  ·rw [h3] at k1; cases k1
 ·rcases h1 with h1 | h1
  ·exact absurd h1 k1.not
  ·rw [k3] at h1; cases h1
 ·rw [h2, k2]
theorem WkR.ex (size lv : Int) (S : SG) (z : Int) (l : List Int) (x y : Y) (ra rb : Int) : ∃ r, WkR size lv S z l x y ra rb r := by
 by_cases h : OkS size lv S.B S.V S.M ∧ FS z l size ∧ ∀ t, t ∈ [x, y] → Wd size.toNat t
 ·cases hs : someB ra rb
  ·exact ⟨_, .inr ⟨.inr hs, rfl⟩⟩
  ·obtain ⟨h1, ⟨f, h2, h3⟩, h4⟩ := h
   obtain ⟨n, q0, _, _⟩ := cF_size h2
   have hs' : size = n := h3.symm.trans q0
   exact ⟨_, .inl ⟨n, f, ⟨hs', q0, h2, h1, fun t ht => by have := h4 t ht; rw [hs', Int.toNat_natCast] at this; exact this⟩, hs, rfl⟩⟩
 ·exact ⟨_, .inr ⟨.inl h, rfl⟩⟩
theorem WkR.small {size lv : Int} {S : SG} {z : Int} {l : List Int} {x y : Y} {ra rb : Int} {r : SG} (h : WkR size lv S z l x y ra rb r) (hs : Small S) : Small r := by
 rcases h with ⟨n, f, _, _, rfl⟩ | ⟨_, rfl⟩
 ·exact ⟨hs.b, hs.t, by show (wkV _ _ _ _ _).length ≤ _; rw [wkV_len]; exact hs.v, hs.m⟩
 ·exact ⟨by simp [noS], by simp [noS, tot], by simp [noS], by simp [noS]⟩
theorem none_give {w wr : World} {Yb : Nat} (hb : Below w.heap.size w wr) (hY : w.heap.size ≤ Yb) (_ : Yb < wr.heap.size) : GivesS w (put3 wr Yb (.slice none 0 0) (.slice none 0 0) (.slice none 0 0)) (.returned (.agg #[.slice none 0 0, .slice none 0 0, .slice none 0 0])) noS :=
 ⟨noA, rfl, OwnS.none _ _ _, by unfold put3; exact below_set3 hb hY _ _ _⟩
set_option maxRecDepth 100000 in
set_option maxHeartbeats 12800000 in
theorem sSegWeak_any (size lv : Int) (S : SG) (A : SAd) (z : Int) (l : List Int) (a : Option Addr) (c : Nat) (x y : Y) (ra rb : Int) (w : World) (hs : Small S) (hS : SegAt w A S) (hl : Q.IntsAt w a l) :
  Calls Tryz.prog 28 #[.int .i64 size, .int .i64 lv, .agg #[.slice A.a0 S.B.length A.c0, .slice A.a1 S.V.length A.c1, .slice A.a2 S.M.length A.c2], .agg #[.int .i64 z, .slice a l.length c], .agg #[.int .i64 x.1, .int .i64 x.2], .agg #[.int .i64 y.1, .int .i64 y.2], .agg #[.int .i64 ra, .int .i64 rb]] w fun e w' => ∃ Z : SG, WkR size lv S z l x y ra rb Z ∧ GivesS w w' e Z := by
 obtain ⟨w0, hw0⟩ : ∃ q, ((((((w.alloc (.cells #[.slice A.a0 S.B.length A.c0, .slice A.a1 S.V.length A.c1, .slice A.a2 S.M.length A.c2] 35)).alloc (.cells #[.int .i64 z, .slice a l.length c] 38)).alloc (.cells #[.int .i64 x.1, .int .i64 x.2] 49)).alloc (.cells #[.int .i64 y.1, .int .i64 y.2] 49)).alloc (.cells #[.int .i64 ra, .int .i64 rb] 53)).alloc (.cells #[.slice none 0 0, .slice none 0 0, .slice none 0 0] 35)) = q := ⟨_, rfl⟩
 obtain ⟨X, hX⟩ : ∃ q, w.heap.size = q := ⟨_, rfl⟩
 have B0 : Hid (Below w.heap.size w w0) := mkHid (by rw [← hw0]; exact (bl_alloc (bl_alloc (bl_alloc (bl_alloc (bl_alloc (bl_alloc (Below.refl _ _) _) _) _) _) _) _))
 have G0 : Hid (G3 w0 X (.slice A.a0 S.B.length A.c0) (.slice A.a1 S.V.length A.c1) (.slice A.a2 S.M.length A.c2)) := mkHid (by rw [← hw0, ← hX]; exact (G3.new w _ _ _ 35).below (bl_alloc (bl_alloc (bl_alloc (bl_alloc (bl_alloc (Below.refl _ _) _) _) _) _) _))
 have T0 : Hid (Q.Fc w0 (X + 1) z a l.length c) := mkHid (by rw [← hw0, ← hX]; have := (Q.Fc.new (w.alloc (.cells #[.slice A.a0 S.B.length A.c0, .slice A.a1 S.V.length A.c1, .slice A.a2 S.M.length A.c2] 35)) z a l.length c 38).below (bl_alloc (bl_alloc (bl_alloc (bl_alloc (Below.refl _ _) (.cells #[.int .i64 x.1, .int .i64 x.2] 49)) (.cells #[.int .i64 y.1, .int .i64 y.2] 49)) (.cells #[.int .i64 ra, .int .i64 rb] 53)) (.cells #[.slice none 0 0, .slice none 0 0, .slice none 0 0] 35)); simpa using this)
 have P_x : Hid (Box w0 (X + 2) x.1 x.2) := mkHid (by rw [← hw0, ← hX]; have := (Box.new' ((w.alloc (.cells #[.slice A.a0 S.B.length A.c0, .slice A.a1 S.V.length A.c1, .slice A.a2 S.M.length A.c2] 35)).alloc (.cells #[.int .i64 z, .slice a l.length c] 38)) x.1 x.2 49).below (bl_alloc (bl_alloc (bl_alloc (Below.refl _ _) (.cells #[.int .i64 y.1, .int .i64 y.2] 49)) (.cells #[.int .i64 ra, .int .i64 rb] 53)) (.cells #[.slice none 0 0, .slice none 0 0, .slice none 0 0] 35)); simpa using this)
 have P_y : Hid (Box w0 (X + 3) y.1 y.2) := mkHid (by rw [← hw0, ← hX]; have := (Box.new' (((w.alloc (.cells #[.slice A.a0 S.B.length A.c0, .slice A.a1 S.V.length A.c1, .slice A.a2 S.M.length A.c2] 35)).alloc (.cells #[.int .i64 z, .slice a l.length c] 38)).alloc (.cells #[.int .i64 x.1, .int .i64 x.2] 49)) y.1 y.2 49).below (bl_alloc (bl_alloc (Below.refl _ _) (.cells #[.int .i64 ra, .int .i64 rb] 53)) (.cells #[.slice none 0 0, .slice none 0 0, .slice none 0 0] 35)); simpa using this)
 have P_r : Hid (Box w0 (X + 4) ra rb) := mkHid (by rw [← hw0, ← hX]; have := (Box.new' ((((w.alloc (.cells #[.slice A.a0 S.B.length A.c0, .slice A.a1 S.V.length A.c1, .slice A.a2 S.M.length A.c2] 35)).alloc (.cells #[.int .i64 z, .slice a l.length c] 38)).alloc (.cells #[.int .i64 x.1, .int .i64 x.2] 49)).alloc (.cells #[.int .i64 y.1, .int .i64 y.2] 49)) ra rb 53).below (bl_alloc (Below.refl _ _) (.cells #[.slice none 0 0, .slice none 0 0, .slice none 0 0] 35)); simpa using this)
 have E0 : Hid (G3 w0 (X + 5) (.slice none 0 0) (.slice none 0 0) (.slice none 0 0)) := mkHid (by rw [← hw0, ← hX]; have := G3.new (((((w.alloc (.cells #[.slice A.a0 S.B.length A.c0, .slice A.a1 S.V.length A.c1, .slice A.a2 S.M.length A.c2] 35)).alloc (.cells #[.int .i64 z, .slice a l.length c] 38)).alloc (.cells #[.int .i64 x.1, .int .i64 x.2] 49)).alloc (.cells #[.int .i64 y.1, .int .i64 y.2] 49)).alloc (.cells #[.int .i64 ra, .int .i64 rb] 53)) (.slice none 0 0) (.slice none 0 0) (.slice none 0 0) 35; simpa using this)
 have HL := mkHid (hl.below B0.out)
 have HS := mkHid (hS.below B0.out)
 have hXB : Hid (w.heap.size ≤ X + 5) := mkHid (by omega)
 have HF34 : Hid (∀ v, Q.IntsAt v a l → Calls Tryz.prog 34 #[.int .i64 size, .agg #[.int .i64 z, .slice a l.length c]] v fun e w' => ∃ ao cap, e = .returned (.tuple #[.agg #[.int .i64 (zX z l), .slice ao (lX z l).length cap], .bool (fsB z l size)]) ∧ Q.IntsAt w' ao (lX z l) ∧ Below v.heap.size v w') := mkHid fun v h => l13Facts_any size z l a c v h
 have HOK : Hid (∀ v, SegAt v A S → Calls Tryz.prog 35 #[.int .i64 size, .int .i64 lv, .agg #[.slice A.a0 S.B.length A.c0, .slice A.a1 S.V.length A.c1, .slice A.a2 S.M.length A.c2]] v fun e w' => Tells v w' e (OkS size lv S.B S.V S.M)) := mkHid fun v hv => sSegOk_any size lv S A v hs hv
 obtain ⟨zx, hzx⟩ : ∃ q, zX z l = q := ⟨_, rfl⟩
 obtain ⟨lx, hlx⟩ : ∃ q, lX z l = q := ⟨_, rfl⟩
 obtain ⟨fb, hfb⟩ : ∃ q, fsB z l size = q := ⟨_, rfl⟩
 rw [hzx, hlx, hfb] at HF34
 have HZX := mkHid hzx
 have HLX := mkHid hlx
 have HFB := mkHid hfb
 have HSM := mkHid hs
 clear hl hS hs hzx hlx hfb
 obtain ⟨t0, t1⟩ := T0.out
 go_enter Tryz.func28, Tryz.ntmps28
 go_wp2_with fail
 first | rw [hw0] | skip
 refine (HF34.out _ HL.out).mono ?_
 rintro e w1 ⟨ao, cap, rfl, hLX, hb⟩
 obtain ⟨P, hP⟩ : ∃ q, w1.heap.size = q := ⟨_, rfl⟩
 obtain ⟨w2, hw2⟩ : ∃ q, w1.alloc (.cells #[.int .i64 zx, .slice ao lx.length cap] 38) = q := ⟨_, rfl⟩
 have A2 : Below w1.heap.size w1 w2 := by rw [← hw2]; exact bl_alloc (Below.refl _ _) _
 have hb2 := below_step hb A2
 have B0 := mkHid (below_step B0.out hb2)
 have G0 := mkHid (G0.out.below hb2)
 have P_x := mkHid (P_x.out.below hb2)
 have P_y := mkHid (P_y.out.below hb2)
 have P_r := mkHid (P_r.out.below hb2)
 have HS := mkHid (HS.out.below hb2)
 have E0 := mkHid (E0.out.below hb2)
 have EP : Hid (Q.Fc w2 P zx ao lx.length cap) := mkHid (by rw [← hw2, ← hP]; exact Q.Fc.new _ _ _ _ _ 38)
 have LX := mkHid (hLX.below A2)
 clear hb hb2 A2 hLX t0 t1 hw0 T0 HL HF34
 obtain ⟨g0, g1, g2, _, _, _⟩ := G0.out
 first | rw [hX] | skip
 go_wp2_with fail
 first | rw [hw2] | skip
 first | rw [hP] | skip
 clear hw2 hP
 refine (HOK.out _ HS.out).mono ?_
 rintro e w3 ⟨hb, r, rfl, hr⟩
 have B0 := mkHid (below_step B0.out hb)
 have G0 := mkHid (G0.out.below hb)
 have P_x := mkHid (P_x.out.below hb)
 have P_y := mkHid (P_y.out.below hb)
 have P_r := mkHid (P_r.out.below hb)
 have HS := mkHid (HS.out.below hb)
 have E0 := mkHid (E0.out.below hb)
 have EP := mkHid (EP.out.below hb)
 have LX := mkHid (LX.out.below hb)
 have HRR := mkHid hr
 clear hb hr g0 g1 g2 HOK
 cases r
 ·have HWHY : Hid (NoSite size lv S z l [x, y] ∨ someB ra rb = false) := mkHid (.inl (fun h => absurd (HRR.out.2 h.1) (by decide)))
  obtain ⟨z0, z1, z2, z3, z4, z5⟩ := E0.out
  have HEE := mkHid (none_give B0.out hXB.out E0.out.lt)
  go_wp2
  exact bodyPost_ret (v := .agg #[.slice none 0 0, .slice none 0 0, .slice none 0 0]) (by simp [results, Tryz.results28, go_sem, *]) rfl ⟨noS, .inr ⟨HWHY.out, rfl⟩, HEE.out⟩
 ·have hok := HRR.out.1 rfl
  cases fb
  ·have HWHY : Hid (NoSite size lv S z l [x, y] ∨ someB ra rb = false) := mkHid (.inl (fun h => absurd (HFB.out.symm.trans (fsB_iff.2 h.2.1)) (by decide)))
   obtain ⟨z0, z1, z2, z3, z4, z5⟩ := E0.out
   have HEE := mkHid (none_give B0.out hXB.out E0.out.lt)
   go_wp2
   exact bodyPost_ret (v := .agg #[.slice none 0 0, .slice none 0 0, .slice none 0 0]) (by simp [results, Tryz.results28, go_sem, *]) rfl ⟨noS, .inr ⟨HWHY.out, rfl⟩, HEE.out⟩
  ·obtain ⟨f, hf, hzs⟩ := fsB_iff.1 HFB.out
   obtain ⟨n, hzn, hn1, hn2⟩ := cF_size hf
   have hsn : size = n := hzs.symm.trans hzn
   obtain ⟨q1, q2⟩ := x_some hf hzn
   rw [HZX.out] at q1
   rw [HLX.out] at q2
   subst q1 q2
   have HOKS := mkHid hok
   have HF := mkHid hf
   have HZN := mkHid hzn
   have HSN := mkHid hsn
   have HFN := mkHid (cF_fine z l)
   have HSY : Hid (∀ (x : Y) v, Calls Tryz.prog 57 #[.int .i64 size, .agg #[.int .i64 x.1, .int .i64 x.2]] v fun e w' => e = .returned (.bool (Q.symB x.1 n && Q.offB x.2)) ∧ Below v.heap.size v w') := mkHid fun x v => by rw [hsn]; exact l13Sym_any n (by omega) x v
   clear hok hf hzs hzn hsn HZX HLX
   obtain ⟨p0, p1, _, _⟩ := P_x.out
   go_wp2_with fail
   refine (HSY.out x _).mono ?_
   rintro e w4 ⟨rfl, hb⟩
   have B0 := mkHid (below_step B0.out hb)
   have G0 := mkHid (G0.out.below hb)
   have P_x := mkHid (P_x.out.below hb)
   have P_y := mkHid (P_y.out.below hb)
   have P_r := mkHid (P_r.out.below hb)
   have HS := mkHid (HS.out.below hb)
   have E0 := mkHid (E0.out.below hb)
   have EP := mkHid (EP.out.below hb)
   have LX := mkHid (LX.out.below hb)
   clear hb p0 p1
   cases hwx : (Q.symB x.1 n && Q.offB x.2)
   ·have HW : Hid (¬ Wd n x) := mkHid (fun h => by rw [wide_iff.2 h] at hwx; cases hwx)
    clear hwx
    have HWHY : Hid (NoSite size lv S z l [x, y] ∨ someB ra rb = false) := mkHid (.inl (fun h => HW.out (by have := h.2.2 x (by simp); rw [HSN.out, Int.toNat_natCast] at this; exact this)))
    obtain ⟨z0, z1, z2, z3, z4, z5⟩ := E0.out
    have HEE := mkHid (none_give B0.out hXB.out E0.out.lt)
    go_wp2
    exact bodyPost_ret (v := .agg #[.slice none 0 0, .slice none 0 0, .slice none 0 0]) (by simp [results, Tryz.results28, go_sem, *]) rfl ⟨noS, .inr ⟨HWHY.out, rfl⟩, HEE.out⟩
   ·have HWx : Hid (Wd n x) := mkHid (wide_iff.1 hwx)
    clear hwx
    obtain ⟨p0, p1, _, _⟩ := P_y.out
    go_wp2_with fail
    refine (HSY.out y _).mono ?_
    rintro e w5 ⟨rfl, hb⟩
    have B0 := mkHid (below_step B0.out hb)
    have G0 := mkHid (G0.out.below hb)
    have P_x := mkHid (P_x.out.below hb)
    have P_y := mkHid (P_y.out.below hb)
    have P_r := mkHid (P_r.out.below hb)
    have HS := mkHid (HS.out.below hb)
    have E0 := mkHid (E0.out.below hb)
    have EP := mkHid (EP.out.below hb)
    have LX := mkHid (LX.out.below hb)
    clear hb p0 p1
    cases hwy : (Q.symB y.1 n && Q.offB y.2)
    ·have HW : Hid (¬ Wd n y) := mkHid (fun h => by rw [wide_iff.2 h] at hwy; cases hwy)
     clear hwy
     have HWHY : Hid (NoSite size lv S z l [x, y] ∨ someB ra rb = false) := mkHid (.inl (fun h => HW.out (by have := h.2.2 y (by simp); rw [HSN.out, Int.toNat_natCast] at this; exact this)))
     obtain ⟨z0, z1, z2, z3, z4, z5⟩ := E0.out
     have HEE := mkHid (none_give B0.out hXB.out E0.out.lt)
     go_wp2
     exact bodyPost_ret (v := .agg #[.slice none 0 0, .slice none 0 0, .slice none 0 0]) (by simp [results, Tryz.results28, go_sem, *]) rfl ⟨noS, .inr ⟨HWHY.out, rfl⟩, HEE.out⟩
    ·have HWy : Hid (Wd n y) := mkHid (wide_iff.1 hwy)
     clear hwy
     obtain ⟨p0, p1, _, _⟩ := P_r.out
     go_wp2_with fail
     refine (Q.sBoth_any ra rb ra rb _).mono ?_
     rintro e wr1 ⟨rfl, hb⟩
     have B0 := mkHid (below_step B0.out hb)
     have G0 := mkHid (G0.out.below hb)
     have P_x := mkHid (P_x.out.below hb)
     have P_y := mkHid (P_y.out.below hb)
     have P_r := mkHid (P_r.out.below hb)
     have HS := mkHid (HS.out.below hb)
     have E0 := mkHid (E0.out.below hb)
     have EP := mkHid (EP.out.below hb)
     have LX := mkHid (LX.out.below hb)
     clear hb p0 p1
     cases hsm : Q.bothB ra rb ra rb
     ·have HSN0 : Hid (someB ra rb = false) := mkHid ((both_same ra rb).symm.trans hsm)
      clear hsm
      have HWHY : Hid (NoSite size lv S z l [x, y] ∨ someB ra rb = false) := mkHid (.inr HSN0.out)
      obtain ⟨z0, z1, z2, z3, z4, z5⟩ := E0.out
      have HEE := mkHid (none_give B0.out hXB.out E0.out.lt)
      go_wp2
      exact bodyPost_ret (v := .agg #[.slice none 0 0, .slice none 0 0, .slice none 0 0]) (by simp [results, Tryz.results28, go_sem, *]) rfl ⟨noS, .inr ⟨HWHY.out, rfl⟩, HEE.out⟩
     ·have HSME : Hid (someB ra rb = true) := mkHid ((both_same ra rb).symm.trans hsm)
      clear hsm
      have HSITE : Hid (Site size lv S z l [x, y] n f) := mkHid ⟨HSN.out, HZN.out, HF.out, HOKS.out, by intro x hx; simp at hx; rcases hx with rfl | rfl; exact HWx.out; exact HWy.out⟩
      obtain ⟨hn13, hbd⟩ := HSITE.out.bd
      obtain ⟨Z, hZ⟩ : ∃ q, weakSG f S x y ra rb = q := ⟨_, rfl⟩
      have HRZ : Hid (WkR size lv S z l x y ra rb Z) := mkHid (.inl ⟨n, f, HSITE.out, HSME.out, hZ.symm⟩)
      have HCW := mkHid (fun v (q1 : Q.IntsAt v ao (Q.mk n f)) (q2 : SegAt v A S) => l13Weak_any size lv A S n f hn13 hbd ao cap x y HWx.out HWy.out ra rb v HSM.out HOKS.out HSITE.out.wds q1 q2)
      rw [hZ] at HCW
      obtain ⟨g0, g1, g2, _, _, _⟩ := G0.out
      obtain ⟨t0, t1⟩ := EP.out
      obtain ⟨p0, p1, _, _⟩ := P_x.out
      obtain ⟨r0, r1, _, _⟩ := P_y.out
      obtain ⟨s0, s1, _, _⟩ := P_r.out
      clear hn13 hbd hZ
      go_wp2_with fail
      refine (HCW.out _ LX.out HS.out).mono ?_
      clear g0 g1 g2 t0 t1 p0 p1 r0 r1 s0 s1
      rintro e w9 ⟨Ag, rfl, ho, hb⟩
      have hEl := E0.out.lt
      have HGV := mkHid (gives_shut ho (Yb := X + 5) hEl (Nat.le_refl _) (below_step B0.out hb) hXB.out)
      obtain ⟨z0, z1, z2, z3, z4, z5⟩ := E0.out.below hb
      clear ho hb hEl
      go_wp2
      exact bodyPost_ret (v := .agg #[.slice Ag.a0 Z.B.length Ag.c0, .slice Ag.a1 Z.V.length Ag.c1, .slice Ag.a2 Z.M.length Ag.c2]) (by simp [results, Tryz.results28, go_sem, *]) rfl ⟨Z, HRZ.out, HGV.out⟩
set_option maxRecDepth 100000 in
set_option maxHeartbeats 12800000 in
theorem iSegWeak_any (size lv : Int) (S : SG) (A : SAd) (z : Int) (l : List Int) (a : Option Addr) (c : Nat) (x y : Y) (ra rb : Int) (w : World) (hs : Small S) (hS : SegAt w A S) (hlc : l.length ≤ c) (hl : Q.IntsAt w a l) :
  Calls Tryz.prog 29 #[.int .i64 size, .int .i64 lv, .agg #[.slice A.a0 S.B.length A.c0, .slice A.a1 S.V.length A.c1, .slice A.a2 S.M.length A.c2], .agg #[.int .i64 z, .slice a l.length c], .agg #[.int .i64 x.1, .int .i64 x.2], .agg #[.int .i64 y.1, .int .i64 y.2], .agg #[.int .i64 ra, .int .i64 rb]] w fun e w' => ∃ Z : SG, WkR size lv S z l x y ra rb Z ∧ GivesS w w' e Z := by
 obtain ⟨w0, hw0⟩ : ∃ q, ((((((w.alloc (.cells #[.slice A.a0 S.B.length A.c0, .slice A.a1 S.V.length A.c1, .slice A.a2 S.M.length A.c2] 35)).alloc (.cells #[.int .i64 z, .slice a l.length c] 38)).alloc (.cells #[.int .i64 x.1, .int .i64 x.2] 49)).alloc (.cells #[.int .i64 y.1, .int .i64 y.2] 49)).alloc (.cells #[.int .i64 ra, .int .i64 rb] 53)).alloc (.cells #[.slice none 0 0, .slice none 0 0, .slice none 0 0] 35)) = q := ⟨_, rfl⟩
 obtain ⟨X, hX⟩ : ∃ q, w.heap.size = q := ⟨_, rfl⟩
 have B0 : Hid (Below w.heap.size w w0) := mkHid (by rw [← hw0]; exact (bl_alloc (bl_alloc (bl_alloc (bl_alloc (bl_alloc (bl_alloc (Below.refl _ _) _) _) _) _) _) _))
 have G0 : Hid (G3 w0 X (.slice A.a0 S.B.length A.c0) (.slice A.a1 S.V.length A.c1) (.slice A.a2 S.M.length A.c2)) := mkHid (by rw [← hw0, ← hX]; exact (G3.new w _ _ _ 35).below (bl_alloc (bl_alloc (bl_alloc (bl_alloc (bl_alloc (Below.refl _ _) _) _) _) _) _))
 have T0 : Hid (Q.Fc w0 (X + 1) z a l.length c) := mkHid (by rw [← hw0, ← hX]; have := (Q.Fc.new (w.alloc (.cells #[.slice A.a0 S.B.length A.c0, .slice A.a1 S.V.length A.c1, .slice A.a2 S.M.length A.c2] 35)) z a l.length c 38).below (bl_alloc (bl_alloc (bl_alloc (bl_alloc (Below.refl _ _) (.cells #[.int .i64 x.1, .int .i64 x.2] 49)) (.cells #[.int .i64 y.1, .int .i64 y.2] 49)) (.cells #[.int .i64 ra, .int .i64 rb] 53)) (.cells #[.slice none 0 0, .slice none 0 0, .slice none 0 0] 35)); simpa using this)
 have P_x : Hid (Box w0 (X + 2) x.1 x.2) := mkHid (by rw [← hw0, ← hX]; have := (Box.new' ((w.alloc (.cells #[.slice A.a0 S.B.length A.c0, .slice A.a1 S.V.length A.c1, .slice A.a2 S.M.length A.c2] 35)).alloc (.cells #[.int .i64 z, .slice a l.length c] 38)) x.1 x.2 49).below (bl_alloc (bl_alloc (bl_alloc (Below.refl _ _) (.cells #[.int .i64 y.1, .int .i64 y.2] 49)) (.cells #[.int .i64 ra, .int .i64 rb] 53)) (.cells #[.slice none 0 0, .slice none 0 0, .slice none 0 0] 35)); simpa using this)
 have P_y : Hid (Box w0 (X + 3) y.1 y.2) := mkHid (by rw [← hw0, ← hX]; have := (Box.new' (((w.alloc (.cells #[.slice A.a0 S.B.length A.c0, .slice A.a1 S.V.length A.c1, .slice A.a2 S.M.length A.c2] 35)).alloc (.cells #[.int .i64 z, .slice a l.length c] 38)).alloc (.cells #[.int .i64 x.1, .int .i64 x.2] 49)) y.1 y.2 49).below (bl_alloc (bl_alloc (Below.refl _ _) (.cells #[.int .i64 ra, .int .i64 rb] 53)) (.cells #[.slice none 0 0, .slice none 0 0, .slice none 0 0] 35)); simpa using this)
 have P_r : Hid (Box w0 (X + 4) ra rb) := mkHid (by rw [← hw0, ← hX]; have := (Box.new' ((((w.alloc (.cells #[.slice A.a0 S.B.length A.c0, .slice A.a1 S.V.length A.c1, .slice A.a2 S.M.length A.c2] 35)).alloc (.cells #[.int .i64 z, .slice a l.length c] 38)).alloc (.cells #[.int .i64 x.1, .int .i64 x.2] 49)).alloc (.cells #[.int .i64 y.1, .int .i64 y.2] 49)) ra rb 53).below (bl_alloc (Below.refl _ _) (.cells #[.slice none 0 0, .slice none 0 0, .slice none 0 0] 35)); simpa using this)
 have E0 : Hid (G3 w0 (X + 5) (.slice none 0 0) (.slice none 0 0) (.slice none 0 0)) := mkHid (by rw [← hw0, ← hX]; have := G3.new (((((w.alloc (.cells #[.slice A.a0 S.B.length A.c0, .slice A.a1 S.V.length A.c1, .slice A.a2 S.M.length A.c2] 35)).alloc (.cells #[.int .i64 z, .slice a l.length c] 38)).alloc (.cells #[.int .i64 x.1, .int .i64 x.2] 49)).alloc (.cells #[.int .i64 y.1, .int .i64 y.2] 49)).alloc (.cells #[.int .i64 ra, .int .i64 rb] 53)) (.slice none 0 0) (.slice none 0 0) (.slice none 0 0) 35; simpa using this)
 have HL := mkHid (hl.below B0.out)
 have HS := mkHid (hS.below B0.out)
 have hXB : Hid (w.heap.size ≤ X + 5) := mkHid (by omega)
 have HSI : Hid (∀ (aT : Option Addr) (cT : Nat) v, SegAt v A S → Q.IntsAt v a l → At eY v aT [x, y] → Calls Tryz.prog 41 #[.int .i64 size, .int .i64 lv, .agg #[.slice A.a0 S.B.length A.c0, .slice A.a1 S.V.length A.c1, .slice A.a2 S.M.length A.c2], .agg #[.int .i64 z, .slice a l.length c], .slice aT 2 cT] v fun e w' => Below v.heap.size v w' ∧ ((∃ (n : Nat) (f : Q.Tab), size = n ∧ z = n ∧ cF z l = some f ∧ OkS size lv S.B S.V S.M ∧ (∀ t, t ∈ [x, y] → Wd n t) ∧ e = .returned (.tuple #[.agg (sA size lv A S n (Q.grid n f)), .bool true])) ∨ (¬ (OkS size lv S.B S.V S.M ∧ FS z l size ∧ ∀ t, t ∈ [x, y] → Wd size.toNat t) ∧ e = .returned (.tuple #[.agg (sA 0 0 zAd zSG 0 Q.zs), .bool false])))) := mkHid fun aT cT v q1 q2 q3 => siteOf_any size lv S A z l a c [x, y] aT cT v hs q1 hlc q2 (by simp) q3
 have HSM := mkHid hs
 clear hl hS hs hlc
 obtain ⟨t0, t1⟩ := T0.out
 obtain ⟨g0, g1, g2, _, _, _⟩ := G0.out
 obtain ⟨p0x, p1x, _, _⟩ := P_x.out
 obtain ⟨p0y, p1y, _, _⟩ := P_y.out
 obtain ⟨P, hP⟩ : ∃ q, w0.heap.size = q := ⟨_, rfl⟩
 obtain ⟨w1, hw1⟩ : ∃ q, w0.alloc (.cells #[.int .i64 x.1, .int .i64 x.2, .int .i64 y.1, .int .i64 y.2] 49) = q := ⟨_, rfl⟩
 have A1 : Below w0.heap.size w0 w1 := by rw [← hw1]; exact bl_alloc (Below.refl _ _) _
 have AT : Hid (At eY w1 (some ⟨P, 0, none⟩) [x, y]) := mkHid (by rw [← hw1, ← hP]; exact two_at _ _ _ _)
 have B0 := mkHid (below_step B0.out A1)
 have P_x := mkHid (P_x.out.below A1)
 have P_y := mkHid (P_y.out.below A1)
 have P_r := mkHid (P_r.out.below A1)
 have HS := mkHid (HS.out.below A1)
 have E0 := mkHid (E0.out.below A1)
 have HL := mkHid (HL.out.below A1)
 clear A1
 go_enter Tryz.func29, Tryz.ntmps29
 go_wp2_with fail
 first | rw [hw0] | skip
 first | rw [hw1] | skip
 first | rw [hP] | skip
 clear hw1 hP
 refine (HSI.out (some ⟨P, 0, none⟩) 2 _ HS.out HL.out AT.out).mono ?_
 rintro e w2 ⟨hb, hor⟩
 have B0 := mkHid (below_step B0.out hb)
 have P_x := mkHid (P_x.out.below hb)
 have P_y := mkHid (P_y.out.below hb)
 have P_r := mkHid (P_r.out.below hb)
 have HS := mkHid (HS.out.below hb)
 have E0 := mkHid (E0.out.below hb)
 clear hb g0 g1 g2 t0 t1 hw0 T0 HL HSI p0x p1x p0y p1y AT
 obtain ⟨R, hR⟩ : ∃ q, w2.heap.size = q := ⟨_, rfl⟩
 have N2 : Hid (St (w2.alloc (.cells Tryz.zeroCells82 82)) R 0 0 zAd zSG 0 Q.zs) := mkHid (by rw [← hR]; exact St.newz w2)
 rcases hor with ⟨n, f, hsn, hzn, hf, hok, hwd, rfl⟩ | ⟨hno, rfl⟩
 ·have HSITE : Hid (Site size lv S z l [x, y] n f) := mkHid ⟨hsn, hzn, hf, hok, hwd⟩
  have HFN := mkHid (cF_fine z l)
  have HGL := mkHid (Q.grid_len n f)
  clear hsn hzn hf hok hwd
  go_wp2_with (first | (refine wp_store82 N2.out HGL.out rfl rfl rfl rfl ?_; intro w4 hD4 hg4; have hb4 : Below w2.heap.size w2 w4 := (bl_alloc (Below.refl w2.heap.size w2) _).grown hg4 (bl_alloc (Below.refl w2.heap.size w2) _).size (fun q hq => by cases hq; exact Nat.le_of_eq hR); obtain ⟨p0x, p1x, _, _⟩ := P_x.out.below hb4; obtain ⟨p0y, p1y, _, _⟩ := P_y.out.below hb4; obtain ⟨s0r, s1r, _, _⟩ := P_r.out.below hb4) | (refine wp_load82 hD4 rfl rfl rfl ?_))
  have B0 := mkHid (below_step B0.out hb4)
  have P_x := mkHid (P_x.out.below hb4)
  have P_y := mkHid (P_y.out.below hb4)
  have P_r := mkHid (P_r.out.below hb4)
  have HS := mkHid (HS.out.below hb4)
  have E0 := mkHid (E0.out.below hb4)
  have D4 := mkHid hD4
  clear hR hD4 hg4 hb4 N2 p0x p1x p0y p1y
  refine (isSome_any ra rb _).mono ?_
  rintro e w5 ⟨rfl, hb⟩
  have B0 := mkHid (below_step B0.out hb)
  have P_x := mkHid (P_x.out.below hb)
  have P_y := mkHid (P_y.out.below hb)
  have P_r := mkHid (P_r.out.below hb)
  have HS := mkHid (HS.out.below hb)
  have E0 := mkHid (E0.out.below hb)
  have D4 := mkHid (D4.out.below hb)
  clear hb
  cases hsm : someB ra rb
  ·have HSM0 : Hid (someB ra rb = false) := mkHid hsm
   clear hsm
   have HWHY : Hid (NoSite size lv S z l [x, y] ∨ someB ra rb = false) := mkHid (.inr HSM0.out)
   obtain ⟨z0, z1, z2, z3, z4, z5⟩ := E0.out
   have HEE := mkHid (none_give B0.out hXB.out E0.out.lt)
   go_wp2
   exact bodyPost_ret (v := .agg #[.slice none 0 0, .slice none 0 0, .slice none 0 0]) (by simp [results, Tryz.results29, go_sem, *]) rfl ⟨noS, .inr ⟨HWHY.out, rfl⟩, HEE.out⟩
  ·have HSME : Hid (someB ra rb = true) := mkHid hsm
   clear hsm
   obtain ⟨hn13, hbd⟩ := HSITE.out.bd
   obtain ⟨Z, hZ⟩ : ∃ q, weakSG f S x y ra rb = q := ⟨_, rfl⟩
   have HRZ : Hid (WkR size lv S z l x y ra rb Z) := mkHid (.inl ⟨n, f, HSITE.out, HSME.out, hZ.symm⟩)
   have HCW := mkHid (fun v (q2 : SegAt v A S) => iWeak_any size lv A S n f hn13 hbd x y (HSITE.out.2.2.2.2 x (by simp)) (HSITE.out.2.2.2.2 y (by simp)) ra rb v HSM.out HSITE.out.2.2.2.1 HSITE.out.wds q2)
   rw [hZ] at HCW
   obtain ⟨p0, p1, _, _⟩ := P_x.out
   obtain ⟨r0, r1, _, _⟩ := P_y.out
   obtain ⟨s0, s1, _, _⟩ := P_r.out
   clear hn13 hbd hZ
   go_wp2_with (first | (refine wp_load82 D4.out rfl rfl rfl ?_))
   refine (HCW.out _ HS.out).mono ?_
   clear p0 p1 r0 r1 s0 s1
   rintro e w9 ⟨Ag, rfl, ho, hb⟩
   have hEl := E0.out.lt
   have HGV := mkHid (gives_shut ho (Yb := X + 5) hEl (Nat.le_refl _) (below_step B0.out hb) hXB.out)
   obtain ⟨z0, z1, z2, z3, z4, z5⟩ := E0.out.below hb
   clear ho hb hEl
   go_wp2
   exact bodyPost_ret (v := .agg #[.slice Ag.a0 Z.B.length Ag.c0, .slice Ag.a1 Z.V.length Ag.c1, .slice Ag.a2 Z.M.length Ag.c2]) (by simp [results, Tryz.results29, go_sem, *]) rfl ⟨Z, HRZ.out, HGV.out⟩
 ·have HNO := mkHid hno
  clear hno
  go_wp2_with (first | (refine wp_store82 N2.out Q.zs_len rfl rfl rfl rfl ?_; intro w4 hD4 hg4; have hb4 : Below w2.heap.size w2 w4 := (bl_alloc (Below.refl w2.heap.size w2) _).grown hg4 (bl_alloc (Below.refl w2.heap.size w2) _).size (fun q hq => by cases hq; exact Nat.le_of_eq hR); obtain ⟨p0x, p1x, _, _⟩ := P_x.out.below hb4; obtain ⟨p0y, p1y, _, _⟩ := P_y.out.below hb4; obtain ⟨s0r, s1r, _, _⟩ := P_r.out.below hb4; obtain ⟨z0, z1, z2, z3, z4, z5⟩ := E0.out.below hb4))
  have B0 := mkHid (below_step B0.out hb4)
  have E0 := mkHid (E0.out.below hb4)
  clear hR hD4 hg4 N2
  have HWHY : Hid (NoSite size lv S z l [x, y] ∨ someB ra rb = false) := mkHid (.inl (HNO.out))
  have HEE := mkHid (none_give B0.out hXB.out E0.out.lt)
  exact bodyPost_ret (v := .agg #[.slice none 0 0, .slice none 0 0, .slice none 0 0]) (by simp [results, Tryz.results29, go_sem, *]) rfl ⟨noS, .inr ⟨HWHY.out, rfl⟩, HEE.out⟩
end Go.Proofs.YtihpajiololfoaaGreat
namespace Go.Proofs.YtihpajiololfoaaGreat
open Go.RowKit

theorem Tryz.info113 : (Tryz.prog.info? 113).map (fun i => (i.zero, i.size, i.bytes)) = some (some (.slice none 0 0), 1, 24) := by kernel_rfl
set_option maxRecDepth 100000 in
set_option maxHeartbeats 1600000 in
theorem toSymSS_any (ls : List (List Y)) (a : Option Addr) (c : Nat) (w : World) (hn : ls.length ≤ 1048576) (ht : tot ls ≤ 1048576) (hl : BndsAt w a ls) :
  Calls Tryz.prog 37 #[.slice a ls.length c] w fun e w' => ∃ g, e = .returned (.slice (some ⟨g, 0, none⟩) ls.length ls.length) ∧ OwnYY w' w.heap.size (.slice (some ⟨g, 0, none⟩) ls.length ls.length) ls ∧ Below w.heap.size w w' := by
 obtain ⟨i0, hi, hz⟩ := Option.map_eq_some_iff.1 Tryz.info113
 simp only [Prod.mk.injEq] at hz
 obtain ⟨hz0, hz1, hz2⟩ := hz
 obtain ⟨w1, hmk, hown0, hg0⟩ := run_make_full (P := Tryz.prog) w w.heap.size 32 113 i0 _ 1 Tryz.underlying32 hi hz0 hz1 .i64 .i64 ls.length (by rw [hz2]; omega) (by unfold maxLen; omega) (Nat.le_refl _)
 obtain ⟨g, hgg⟩ : ∃ g, w.heap.size = g := ⟨_, rfl⟩
 have HGG := mkHid hgg
 rw [hgg] at hmk hown0
 have HL := mkHid hl
 have HO := mkHid hown0
 have HT := mkHid ht
 have HG := mkHid (Below.grown (Below.refl w.heap.size w) hg0 (Nat.le_refl _) (fun k hk => by cases hk))
 clear hl hown0 hg0 hi hz0 hz1 hz2 hgg ht
 go_enter Tryz.func37, Tryz.ntmps37
 go_wp2
 go_loopw [4] (fun i w' => ∃ (k : Nat) (xs : List Value), k ≤ ls.length ∧ i = .int .i64 k ∧ w'.ownsRow g 113 1 (.slice (some ⟨g, 0, none⟩) ls.length ls.length) ls.length xs ∧ Inn w' g (xs.take k) (ls.take k) ∧ Below w.heap.size w w') (fun i _ => ls.length - (intOf i).toNat)
 case atStart => exact ⟨0, _, Nat.zero_le _, rfl, HO.out, by simpa using Inn.nil _ _, HG.out⟩
 case round =>
  obtain ⟨k, xs, hk, rfl, hown, hinn, hbel⟩ := hrel
  have HW := mkHid hown
  have HI := mkHid hinn
  have HB := mkHid hbel
  clear hown hinn hbel HO HG hmk
  by_cases hlt : k < ls.length
  ·obtain ⟨l, hx⟩ : ∃ x, ls[k]? = some x := ⟨_, List.getElem?_eq_getElem hlt⟩
   obtain ⟨b, o, rfl, _, hl⟩ := (HL.out.below HB.out).cons (by omega)
   obtain ⟨ao, cp, c0, hat⟩ := hl k l hx
   have HX := mkHid hx
   have HAT := mkHid hat
   have hll := tot_get hx
   clear hl hx hat
   have i0 : (0 : Int) ≤ (k : Int) := by omega
   have i1 : (k : Int) < (ls.length : Int) := by omega
   go_wp2_with fail
   refine (toSymS_any l ao cp _ (by have := HT.out; omega) HAT.out).mono ?_
   rintro e w2 ⟨gn, rfl, hon, hb1⟩
   have HW1 := mkHid (owns_below HW.out hb1)
   have HI1 := mkHid (HI.out.below hb1)
   have HB1 := mkHid (below_step HB.out hb1)
   have HN := mkHid hon
   have HLT : Hid (∀ (i : Nat) (v : Value) (q : Nat), (xs.take k)[i]? = some v → v.ownBlock = some q → q < wr.heap.size) := mkHid fun i v q h1 h2 => (HI.out.lt h1 h2).2
   have hxl := HW1.out.1
   have hgw : g < wr.heap.size := (World.ownsRow.lt HW.out g rfl).2
   have HGW := mkHid hgw
   have HGS : Hid (wr.heap.size ≤ gn) := mkHid ((HN.out.lt (q := gn) rfl).1)
   clear hb1 hon HB HW HI c0 hgw
   obtain ⟨u0, y0⟩ : ∃ v, w2.cell? ⟨g, k, none⟩ = some v := ⟨_, (HW1.out.cellAt k (by omega)).trans (List.getElem?_eq_getElem (by omega))⟩
   have z0 := HW1.out.frozenAt k
   have HA := mkHid (HW1.out.stored k (.slice (some ⟨gn, 0, none⟩) l.length l.length))
   have HXL := mkHid hxl
   clear hxl
   go_wp2
   go_roundw
   case rel =>
    have hxl := HXL.out
    refine ⟨k + 1, _, by omega, by go_num, HA.out.1, ?_, HB1.out.setCell (p := ⟨g, k, none⟩) (Nat.le_of_eq HGG.out) _⟩
    have e1 : (xs.set k (.slice (some ⟨gn, 0, none⟩) l.length l.length)).take (k + 1) = xs.take k ++ [.slice (some ⟨gn, 0, none⟩) l.length l.length] := by
     rw [List.take_succ_eq_append_getElem (by simp; omega)]
     simp [List.take_set_of_le]
    rw [e1, take_snoc HX.out]
    have hg2 := HA.out.2
    refine Inn.snoc (n0 := wr.heap.size) ?_ HLT.out (Nat.le_of_lt HGW.out) ?_
    ·refine HI1.out.keptBy hg2 fun q cur e hc => ?_
     have e' : g = q := Option.some.inj e
     subst e'
     rcases HW1.out.2 with ⟨e2, _⟩ | ⟨g2, _, cur2, e2, _, hg3, _⟩
     ·simp at e2
     ·simp at e2
      obtain ⟨rfl, rfl⟩ := e2
      rw [hc] at hg3
      simp at hg3
    ·refine HN.out.keptBy hg2 fun q hq e => ?_
     have e' : g = q := Option.some.inj e
     have e'' : gn = q := Option.some.inj hq
     have h1 := HGS.out
     have h2 := HGW.out
     omega
   case measure => simp [intOf]; omega
  ·have e : k = ls.length := by omega
   subst e
   have hinn := HI.out
   have hxl := HW.out.1
   rw [List.take_of_length_le (by omega), List.take_length] at hinn
   have HI := mkHid hinn
   clear hinn hxl
   go_wp2
   go_ret
   exact ⟨g, rfl, ⟨xs, by rw [HGG.out]; exact HW.out, by rw [HGG.out]; exact HI.out⟩, HB.out⟩
/-- What is left of a size. -/
def szN (left : Int) (n : Nat) : Int := if left - n < 0 then -1 else left - n
theorem szSymS_any (a : Option Addr) (n c : Nat) (left : Int) (w : World) (hn : n ≤ maxLen) (h0 : 0 ≤ left) (h1 : left ≤ 1048576) :
  Calls Tryz.prog 74 #[.slice a n c, .int .i64 left] w fun e w' => e = .returned (.int .i64 (szN left n)) ∧ w = w' := by
 unfold maxLen at hn
 unfold szN
 by_cases h : left - n < 0
 ·rw [if_pos h]
  go_enter Tryz.func74, Tryz.ntmps74
  go_wp2
  go_ret
  exact ⟨rfl, rfl⟩
 ·rw [if_neg h]
  go_enter Tryz.func74, Tryz.ntmps74
  go_wp2
  go_ret
  exact ⟨rfl, rfl⟩
theorem szValS_any (a : Option Addr) (n c : Nat) (left : Int) (w : World) (hn : n ≤ maxLen) (h0 : 0 ≤ left) (h1 : left ≤ 1048576) :
  Calls Tryz.prog 31 #[.slice a n c, .int .i64 left] w fun e w' => e = .returned (.int .i64 (szN left n)) ∧ w = w' := by
 unfold maxLen at hn
 unfold szN
 by_cases h : left - n < 0
 ·rw [if_pos h]
  go_enter Tryz.func31, Tryz.ntmps31
  go_wp2
  go_ret
  exact ⟨rfl, rfl⟩
 ·rw [if_neg h]
  go_enter Tryz.func31, Tryz.ntmps31
  go_wp2
  go_ret
  exact ⟨rfl, rfl⟩
theorem szBoolS_any (a : Option Addr) (n c : Nat) (left : Int) (w : World) (hn : n ≤ maxLen) (h0 : 0 ≤ left) (h1 : left ≤ 1048576) :
  Calls Tryz.prog 32 #[.slice a n c, .int .i64 left] w fun e w' => e = .returned (.int .i64 (szN left n)) ∧ w = w' := by
 unfold maxLen at hn
 unfold szN
 by_cases h : left - n < 0
 ·rw [if_pos h]
  go_enter Tryz.func32, Tryz.ntmps32
  go_wp2
  go_ret
  exact ⟨rfl, rfl⟩
 ·rw [if_neg h]
  go_enter Tryz.func32, Tryz.ntmps32
  go_wp2
  go_ret
  exact ⟨rfl, rfl⟩
end Go.Proofs.YtihpajiololfoaaGreat
