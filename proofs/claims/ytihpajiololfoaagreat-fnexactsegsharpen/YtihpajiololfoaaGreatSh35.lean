/-
  CONTRACTS of both SegSharpens.
  CONTRACTS of the law's toSymSS, szSymSS.
  CONTRACTS of the law's toValS.
-/
import Derived.Test.YtihpajiololfoaaGreatSh32
import Derived.Test.YtihpajiololfoaaGreatSh34
import Derived.Test.YtihpajiololfoaaGreatSh28
import Derived.Test.YtihpajiololfoaaGreatSh02
import Derived.Test.YtihpajiololfoaaGreatSh04
namespace Go.Proofs.YtihpajiololfoaaGreat
open Go.RowKit

/-- What SegSharpen answers. -/
def ShpR (size lv : Int) (S : SG) (z : Int) (l : List Int) (Z : SG) : Prop := (∃ n f, Site size lv S z l [] n f ∧ Z = shSG f S) ∨ (NoSite size lv S z l [] ∧ Z = noS)
theorem ShpR.one {size lv : Int} {S : SG} {z : Int} {l : List Int} {r r' : SG} (h : ShpR size lv S z l r) (h' : ShpR size lv S z l r') : r = r' := by
  rcases h with ⟨n, f, h1, h2⟩ | ⟨h1, h2⟩ <;> rcases h' with ⟨n', f', k1, k2⟩ | ⟨k1, k2⟩
  · obtain ⟨rfl, rfl⟩ := h1.one k1; rw [h2, k2]
  · exact absurd k1 h1.not
  · exact absurd h1 k1.not
  · rw [h2, k2]
theorem ShpR.ex (size lv : Int) (S : SG) (z : Int) (l : List Int) : ∃ r, ShpR size lv S z l r := by
  by_cases h : OkS size lv S.B S.V S.M ∧ FS z l size ∧ ∀ t, t ∈ ([] : List Y) → Wd size.toNat t
  · obtain ⟨h1, ⟨f, h2, h3⟩, h4⟩ := h
    obtain ⟨n, q0, _, _⟩ := cF_size h2
    have hs' : size = n := h3.symm.trans q0
    exact ⟨_, .inl ⟨n, f, ⟨hs', q0, h2, h1, fun t ht => by have := h4 t ht; rw [hs', Int.toNat_natCast] at this; exact this⟩, rfl⟩⟩
  · exact ⟨_, .inr ⟨h, rfl⟩⟩
theorem shR_small (f : Q.Tab) : ∀ (B : List (List Y)) (V : List VV) (M : List Bool) (cur : List Y), (shR f cur B V M).1.length ≤ B.length + 1 ∧ tot (shR f cur B V M).1 ≤ cur.length + tot B ∧ (shR f cur B V M).2.1.length ≤ V.length ∧ (shR f cur B V M).2.2.length ≤ M.length
  | [], V, M, cur => by unfold shR; simp [tot]
  | b :: B, [], M, cur => by unfold shR; simp [tot]
  | b :: B, v :: V, [], cur => by unfold shR; simp [tot]
  | b :: B, v :: V, m :: M, cur => by
    unfold shR
    split
    · obtain ⟨h1, h2, h3, h4⟩ := shR_small f B V M (setY (cur ++ b))
      have h5 := setY_len (cur ++ b)
      rw [List.length_append] at h5
      simp only [List.length_cons, tot]
      omega
    · obtain ⟨h1, h2, h3, h4⟩ := shR_small f B V M b
      simp only [List.length_cons, tot]
      omega
theorem ShpR.small {size lv : Int} {S : SG} {z : Int} {l : List Int} {r : SG} (h : ShpR size lv S z l r) (hs : Small S) : Small r := by
  rcases h with ⟨n, f, h1, rfl⟩ | ⟨_, rfl⟩
  · obtain ⟨q1, q2, q3, q4⟩ := shR_small f S.B.tail S.V (fmB f S.B S.M) (S.B.headD [])
    have hk := h1.2.2.2.1.k1
    have hb := hs.b
    have ht := hs.t
    rw [fmB_len] at q4
    have e : S.B = S.B.headD [] :: S.B.tail := by cases hB : S.B with | nil => rw [hB] at hk; simp at hk | cons b B => rfl
    have e2 : tot S.B = (S.B.headD []).length + tot S.B.tail := by rw [show tot S.B = tot (S.B.headD [] :: S.B.tail) from congrArg tot e]; rfl
    rw [List.length_tail] at q1
    exact ⟨by show (shR _ _ _ _ _).1.length ≤ _; omega, by show tot (shR _ _ _ _ _).1 ≤ _; omega, Nat.le_trans q3 hs.v, Nat.le_trans q4 hs.m⟩
  · exact ⟨by simp [noS], by simp [noS, tot], by simp [noS], by simp [noS]⟩
theorem none_give2 {w wr : World} {Yb : Nat} (hb : Below w.heap.size w wr) (hY : w.heap.size ≤ Yb) (_ : Yb < wr.heap.size) : GivesS w (put3 wr Yb (.slice none 0 0) (.slice none 0 0) (.slice none 0 0)) (.returned (.agg #[.slice none 0 0, .slice none 0 0, .slice none 0 0])) noS :=
  ⟨noA, rfl, OwnS.none _ _ _, by unfold put3; exact below_set3 hb hY _ _ _⟩
theorem chn_open {w : World} {base X : Nat} {ks : List Lk} (h : ChN w base X ks) (hne : ks ≠ []) : ∃ (k : Lk) (L : List (Nat × Lk)), ks = k :: L.map Prod.snd ∧ Ch w base ((X, k) :: L) (some ⟨X, 0, none⟩) none ∧ (((X, k) :: L).map Prod.fst).Nodup ∧ RowsD w (((X, k) :: L).map Prod.fst) := by
  obtain ⟨L, h1, h2, h3, h4⟩ := h
  cases L with
  | nil => exact absurd h2.symm hne
  | cons x L =>
    obtain ⟨X', k⟩ := x
    obtain rfl : X = X' := by obtain ⟨e, _⟩ := h1; cases e; rfl
    exact ⟨k, L, h2.symm, h1, h3, h4⟩
theorem fil_b (f : Q.Tab) : ∀ l : List Lk, (fil f l).map Lk.b = l.map Lk.b
  | [] => rfl
  | [_] => rfl
  | k :: k' :: r => by show k.b :: (fil f (k' :: r)).map Lk.b = _; rw [fil_b f (k' :: r)]; rfl
theorem fol_small (f : Q.Tab) : ∀ (r : List Lk) (k : Lk), (fol f k r).length ≤ r.length + 1 ∧ ∀ x, x ∈ fol f k r → x.b.length ≤ tot (k.b :: r.map Lk.b)
  | [], k => by unfold fol; exact ⟨by simp, fun x hx => by simp at hx; subst hx; simp [tot]⟩
  | n :: r, k => by
    unfold fol
    split
    · obtain ⟨h1, h2⟩ := fol_small f r ⟨setY (k.b ++ n.b), n.v, n.m⟩
      have h5 := setY_len (k.b ++ n.b)
      rw [List.length_append] at h5
      refine ⟨by simp only [List.length_cons]; omega, fun x hx => ?_⟩
      have := h2 x hx
      simp only [List.map_cons, tot] at this ⊢
      omega
    · obtain ⟨h1, h2⟩ := fol_small f r n
      refine ⟨by simp only [List.length_cons]; omega, fun x hx => ?_⟩
      simp only [List.map_cons, tot]
      rcases List.mem_cons.1 hx with rfl | hx
      · omega
      · have := h2 x hx
        simp only [tot] at this
        omega
theorem mem_rows {B : List (List Y)} {X : Nat} {k : Lk} {L : List (Nat × Lk)} (h : B = k.b :: L.map fun x => x.2.b) (x : Nat × Lk) (hx : x ∈ (X, k) :: L) : x.2.b ∈ B := by
  rw [h]
  rcases List.mem_cons.1 hx with rfl | hx
  · exact List.mem_cons_self
  · exact List.mem_cons_of_mem _ (List.mem_map_of_mem (f := fun x : Nat × Lk => x.2.b) hx)
theorem row_le {B : List (List Y)} {b : List Y} (h : b ∈ B) : b.length ≤ tot B := by
  obtain ⟨i, hi⟩ := List.mem_iff_getElem?.1 h
  exact tot_get hi
theorem wp_known {w : World} {b : Nat} {z lv : Int} {A : SAd} {S : SG} {n : Int} {G : List Int} {ops : Array Oper} {rest : List Oper} {op : Oper} {a : Act} {Q' : Exit → Act → World → Prop} {x : Operand} (hD : St w b z lv A S n G) (hgd : op.guard = none) (ho : op.op = .load 80 x)
    (hx : a.eval x = .pointer (some ⟨b, 5, none⟩)) (h : wpList Tryz.prog ops Q' rest (a.put op.dst (.agg (Q.dA n G))) w) : wpList Tryz.prog ops Q' (op :: rest) a w :=
  wpList_load_mid hgd 80 x ho b 5 hx (Q.dL n G) _ hD.known Tryz.underlying80 rfl (by rw [Q.dL_len hD.len]; exact Q.size64) h
set_option maxRecDepth 100000 in
set_option maxHeartbeats 12800000 in
theorem sSegSharpen_any (size lv : Int) (S : SG) (A : SAd) (z : Int) (l : List Int) (a : Option Addr) (c : Nat) (w : World) (hs : Small S) (hS : SegAt w A S) (hl : Q.IntsAt w a l) :
    Calls Tryz.prog 10 #[.int .i64 size, .int .i64 lv, .agg #[.slice A.a0 S.B.length A.c0, .slice A.a1 S.V.length A.c1, .slice A.a2 S.M.length A.c2], .agg #[.int .i64 z, .slice a l.length c]] w fun e w' => ∃ Z : SG, ShpR size lv S z l Z ∧ GivesS w w' e Z := by
  obtain ⟨w0, hw0⟩ : ∃ q, (((w.alloc (.cells #[.slice A.a0 S.B.length A.c0, .slice A.a1 S.V.length A.c1, .slice A.a2 S.M.length A.c2] 35)).alloc (.cells #[.int .i64 z, .slice a l.length c] 38)).alloc (.cells #[.slice none 0 0, .slice none 0 0, .slice none 0 0] 35)) = q := ⟨_, rfl⟩
  obtain ⟨X, hX⟩ : ∃ q, w.heap.size = q := ⟨_, rfl⟩
  have B0 : Hid (Below w.heap.size w w0) := mkHid (by rw [← hw0]; exact (bl_alloc (bl_alloc (bl_alloc (Below.refl _ _) _) _) _))
  have G0 : Hid (G3 w0 X (.slice A.a0 S.B.length A.c0) (.slice A.a1 S.V.length A.c1) (.slice A.a2 S.M.length A.c2)) := mkHid (by rw [← hw0, ← hX]; exact (G3.new w _ _ _ 35).below (bl_alloc (bl_alloc (Below.refl _ _) _) _))
  have T0 : Hid (Q.Fc w0 (X + 1) z a l.length c) := mkHid (by rw [← hw0, ← hX]; have := (Q.Fc.new (w.alloc (.cells #[.slice A.a0 S.B.length A.c0, .slice A.a1 S.V.length A.c1, .slice A.a2 S.M.length A.c2] 35)) z a l.length c 38).below (bl_alloc (Below.refl _ _) (.cells #[.slice none 0 0, .slice none 0 0, .slice none 0 0] 35)); simpa using this)
  have E0 : Hid (G3 w0 (X + 2) (.slice none 0 0) (.slice none 0 0) (.slice none 0 0)) := mkHid (by rw [← hw0, ← hX]; have := G3.new ((w.alloc (.cells #[.slice A.a0 S.B.length A.c0, .slice A.a1 S.V.length A.c1, .slice A.a2 S.M.length A.c2] 35)).alloc (.cells #[.int .i64 z, .slice a l.length c] 38)) (.slice none 0 0) (.slice none 0 0) (.slice none 0 0) 35; simpa using this)
  have HL := mkHid (hl.below B0.out)
  have HS := mkHid (hS.below B0.out)
  have hXB : Hid (w.heap.size ≤ X + 2) := mkHid (by omega)
  have HF34 : Hid (∀ v, Q.IntsAt v a l → Calls Tryz.prog 34 #[.int .i64 size, .agg #[.int .i64 z, .slice a l.length c]] v fun e w' => ∃ ao cap, e = .returned (.tuple #[.agg #[.int .i64 (zX z l), .slice ao (lX z l).length cap], .bool (fsB z l size)]) ∧ Q.IntsAt w' ao (lX z l) ∧ Below v.heap.size v w') := mkHid fun v h => l13Facts_any size z l a c v h
  have HOK : Hid (∀ v, SegAt v A S → Calls Tryz.prog 35 #[.int .i64 size, .int .i64 lv, .agg #[.slice A.a0 S.B.length A.c0, .slice A.a1 S.V.length A.c1, .slice A.a2 S.M.length A.c2]] v fun e w' => Tells v w' e (OkS size lv S.B S.V S.M)) := mkHid fun v hv => sSegOk_any size lv S A v hs hv
  obtain ⟨zx, hzx⟩ : ∃ q, zX z l = q := ⟨_, rfl⟩
  obtain ⟨lx, hlx⟩ : ∃ q, lX z l = q := ⟨_, rfl⟩
  obtain ⟨fb, hfb⟩ : ∃ q, fsB z l size = q := ⟨_, rfl⟩
  rw [hzx, hlx, hfb] at HF34
  have HZX := mkHid hzx
  have HLX := mkHid hlx
  have HFB := mkHid hfb
  have HSM := mkHid hs
  clear hl hS hs hzx hlx hfb
  obtain ⟨t0, t1⟩ := T0.out
  go_enter Tryz.func10, Tryz.ntmps10
  go_wp2_with fail
  first | rw [hw0] | skip
  refine (HF34.out _ HL.out).mono ?_
  rintro e w1 ⟨ao, cap, rfl, hLX, hb⟩
  obtain ⟨P, hP⟩ : ∃ q, w1.heap.size = q := ⟨_, rfl⟩
  obtain ⟨w2, hw2⟩ : ∃ q, w1.alloc (.cells #[.int .i64 zx, .slice ao lx.length cap] 38) = q := ⟨_, rfl⟩
  have A2 : Below w1.heap.size w1 w2 := by rw [← hw2]; exact bl_alloc (Below.refl _ _) _
  have hb2 := below_step hb A2
  have B0 := mkHid (below_step B0.out hb2)
  have G0 := mkHid (G0.out.below hb2)
  have HS := mkHid (HS.out.below hb2)
  have E0 := mkHid (E0.out.below hb2)
  have EP : Hid (Q.Fc w2 P zx ao lx.length cap) := mkHid (by rw [← hw2, ← hP]; exact Q.Fc.new _ _ _ _ _ 38)
  have LX := mkHid (hLX.below A2)
  clear hb hb2 A2 hLX t0 t1 hw0 T0 HL HF34
  obtain ⟨g0, g1, g2, _, _, _⟩ := G0.out
  first | rw [hX] | skip
  go_wp2_with fail
  first | rw [hw2] | skip
  first | rw [hP] | skip
  clear hw2 hP
  refine (HOK.out _ HS.out).mono ?_
  rintro e w3 ⟨hb, r, rfl, hr⟩
  have B0 := mkHid (below_step B0.out hb)
  have G0 := mkHid (G0.out.below hb)
  have HS := mkHid (HS.out.below hb)
  have E0 := mkHid (E0.out.below hb)
  have EP := mkHid (EP.out.below hb)
  have LX := mkHid (LX.out.below hb)
  have HRR := mkHid hr
  clear hb hr g0 g1 g2 HOK
  cases r
  · have HWHY : Hid (NoSite size lv S z l []) := mkHid (fun h => absurd (HRR.out.2 h.1) (by decide))
    obtain ⟨z0, z1, z2, z3, z4, z5⟩ := E0.out
    have HEE := mkHid (none_give2 B0.out hXB.out E0.out.lt)
    go_wp2
    exact bodyPost_ret (v := .agg #[.slice none 0 0, .slice none 0 0, .slice none 0 0]) (by simp [results, Tryz.results10, go_sem, *]) rfl ⟨noS, .inr ⟨HWHY.out, rfl⟩, HEE.out⟩
  · have hok := HRR.out.1 rfl
    cases fb
    · have HWHY : Hid (NoSite size lv S z l []) := mkHid (fun h => absurd (HFB.out.symm.trans (fsB_iff.2 h.2.1)) (by decide))
      obtain ⟨z0, z1, z2, z3, z4, z5⟩ := E0.out
      have HEE := mkHid (none_give2 B0.out hXB.out E0.out.lt)
      go_wp2
      exact bodyPost_ret (v := .agg #[.slice none 0 0, .slice none 0 0, .slice none 0 0]) (by simp [results, Tryz.results10, go_sem, *]) rfl ⟨noS, .inr ⟨HWHY.out, rfl⟩, HEE.out⟩
    · obtain ⟨f, hf, hzs⟩ := fsB_iff.1 HFB.out
      obtain ⟨n, hzn, hn1, hn2⟩ := cF_size hf
      have hsn : size = n := hzs.symm.trans hzn
      obtain ⟨q1, q2⟩ := x_some hf hzn
      rw [HZX.out] at q1
      rw [HLX.out] at q2
      subst q1 q2
      have HOKS := mkHid hok
      have HF := mkHid hf
      have HZN := mkHid hzn
      have HSN := mkHid hsn
      have HFN := mkHid (cF_fine z l)
      have HSY : Hid (∀ (x : Y) v, Calls Tryz.prog 57 #[.int .i64 size, .agg #[.int .i64 x.1, .int .i64 x.2]] v fun e w' => e = .returned (.bool (Q.symB x.1 n && Q.offB x.2)) ∧ Below v.heap.size v w') := mkHid fun x v => by rw [hsn]; exact l13Sym_any n (by omega) x v
      clear hok hf hzs hzn hsn HZX HLX
      have HSITE : Hid (Site size lv S z l [] n f) := mkHid ⟨HSN.out, HZN.out, HF.out, HOKS.out, by intro x hx; simp at hx; skip⟩
      obtain ⟨hn13, hbd⟩ := HSITE.out.bd
      obtain ⟨Z, hZ⟩ : ∃ q, shSG f S = q := ⟨_, rfl⟩
      have HRZ : Hid (ShpR size lv S z l Z) := mkHid (.inl ⟨n, f, HSITE.out, hZ.symm⟩)
      have HCW := mkHid (fun v (q1 : Q.IntsAt v ao (Q.mk n f)) (q2 : SegAt v A S) => lSharp_any size lv A S n f hn13 hbd ao cap v HSM.out HOKS.out HSITE.out.wds q1 q2)
      rw [hZ] at HCW
      obtain ⟨g0, g1, g2, _, _, _⟩ := G0.out
      obtain ⟨t0, t1⟩ := EP.out
      clear hn13 hbd hZ
      go_wp2_with fail
      refine (HCW.out _ LX.out HS.out).mono ?_
      clear g0 g1 g2 t0 t1
      rintro e w9 ⟨Ag, rfl, ho, hb⟩
      have hEl := E0.out.lt
      have HGV := mkHid (gives_shut ho (Yb := X + 2) hEl (Nat.le_refl _) (below_step B0.out hb) hXB.out)
      obtain ⟨z0, z1, z2, z3, z4, z5⟩ := E0.out.below hb
      clear ho hb hEl
      go_wp2
      exact bodyPost_ret (v := .agg #[.slice Ag.a0 Z.B.length Ag.c0, .slice Ag.a1 Z.V.length Ag.c1, .slice Ag.a2 Z.M.length Ag.c2]) (by simp [results, Tryz.results10, go_sem, *]) rfl ⟨Z, HRZ.out, HGV.out⟩
set_option maxRecDepth 100000 in
set_option maxHeartbeats 12800000 in
theorem iSegSharpen_any (size lv : Int) (S : SG) (A : SAd) (z : Int) (l : List Int) (a : Option Addr) (c : Nat) (w : World) (hs : Small S) (hS : SegAt w A S) (hlc : l.length ≤ c) (hl : Q.IntsAt w a l) :
    Calls Tryz.prog 13 #[.int .i64 size, .int .i64 lv, .agg #[.slice A.a0 S.B.length A.c0, .slice A.a1 S.V.length A.c1, .slice A.a2 S.M.length A.c2], .agg #[.int .i64 z, .slice a l.length c]] w fun e w' => ∃ Z : SG, ShpR size lv S z l Z ∧ GivesS w w' e Z := by
  obtain ⟨w0, hw0⟩ : ∃ q, (((w.alloc (.cells #[.slice A.a0 S.B.length A.c0, .slice A.a1 S.V.length A.c1, .slice A.a2 S.M.length A.c2] 35)).alloc (.cells #[.int .i64 z, .slice a l.length c] 38)).alloc (.cells #[.slice none 0 0, .slice none 0 0, .slice none 0 0] 35)) = q := ⟨_, rfl⟩
  obtain ⟨X, hX⟩ : ∃ q, w.heap.size = q := ⟨_, rfl⟩
  have B0 : Hid (Below w.heap.size w w0) := mkHid (by rw [← hw0]; exact (bl_alloc (bl_alloc (bl_alloc (Below.refl _ _) _) _) _))
  have G0 : Hid (G3 w0 X (.slice A.a0 S.B.length A.c0) (.slice A.a1 S.V.length A.c1) (.slice A.a2 S.M.length A.c2)) := mkHid (by rw [← hw0, ← hX]; exact (G3.new w _ _ _ 35).below (bl_alloc (bl_alloc (Below.refl _ _) _) _))
  have T0 : Hid (Q.Fc w0 (X + 1) z a l.length c) := mkHid (by rw [← hw0, ← hX]; have := (Q.Fc.new (w.alloc (.cells #[.slice A.a0 S.B.length A.c0, .slice A.a1 S.V.length A.c1, .slice A.a2 S.M.length A.c2] 35)) z a l.length c 38).below (bl_alloc (Below.refl _ _) (.cells #[.slice none 0 0, .slice none 0 0, .slice none 0 0] 35)); simpa using this)
  have E0 : Hid (G3 w0 (X + 2) (.slice none 0 0) (.slice none 0 0) (.slice none 0 0)) := mkHid (by rw [← hw0, ← hX]; have := G3.new ((w.alloc (.cells #[.slice A.a0 S.B.length A.c0, .slice A.a1 S.V.length A.c1, .slice A.a2 S.M.length A.c2] 35)).alloc (.cells #[.int .i64 z, .slice a l.length c] 38)) (.slice none 0 0) (.slice none 0 0) (.slice none 0 0) 35; simpa using this)
  have HL := mkHid (hl.below B0.out)
  have HS := mkHid (hS.below B0.out)
  have hXB : Hid (w.heap.size ≤ X + 2) := mkHid (by omega)
  have HSI : Hid (∀ (aT : Option Addr) (cT : Nat) v, SegAt v A S → Q.IntsAt v a l → At eY v aT [] → Calls Tryz.prog 41 #[.int .i64 size, .int .i64 lv, .agg #[.slice A.a0 S.B.length A.c0, .slice A.a1 S.V.length A.c1, .slice A.a2 S.M.length A.c2], .agg #[.int .i64 z, .slice a l.length c], .slice aT 0 cT] v fun e w' => Below v.heap.size v w' ∧ ((∃ (n : Nat) (f : Q.Tab), size = n ∧ z = n ∧ cF z l = some f ∧ OkS size lv S.B S.V S.M ∧ (∀ t, t ∈ [] → Wd n t) ∧ e = .returned (.tuple #[.agg (sA size lv A S n (Q.grid n f)), .bool true])) ∨ (¬ (OkS size lv S.B S.V S.M ∧ FS z l size ∧ ∀ t, t ∈ [] → Wd size.toNat t) ∧ e = .returned (.tuple #[.agg (sA 0 0 zAd zSG 0 Q.zs), .bool false])))) := mkHid fun aT cT v q1 q2 q3 => siteOf_any size lv S A z l a c [] aT cT v hs q1 hlc q2 (by simp) q3
  have HSM := mkHid hs
  clear hl hS hs hlc
  obtain ⟨t0, t1⟩ := T0.out
  obtain ⟨g0, g1, g2, _, _, _⟩ := G0.out
  go_enter Tryz.func13, Tryz.ntmps13
  go_wp2_with fail
  first | rw [hw0] | skip
  refine (HSI.out none 0 _ HS.out HL.out (At.nil eY _ _)).mono ?_
  rintro e w2 ⟨hb, hor⟩
  have B0 := mkHid (below_step B0.out hb)
  have G0 := mkHid (G0.out.below hb)
  have HS := mkHid (HS.out.below hb)
  have E0 := mkHid (E0.out.below hb)
  clear hb g0 g1 g2 t0 t1 hw0 T0 HL HSI
  obtain ⟨R, hR⟩ : ∃ q, w2.heap.size = q := ⟨_, rfl⟩
  have N2 : Hid (St (w2.alloc (.cells Tryz.zeroCells82 82)) R 0 0 zAd zSG 0 Q.zs) := mkHid (by rw [← hR]; exact St.newz w2)
  rcases hor with ⟨n, f, hsn, hzn, hf, hok, hwd, rfl⟩ | ⟨hno, rfl⟩
  · have HSITE : Hid (Site size lv S z l [] n f) := mkHid ⟨hsn, hzn, hf, hok, hwd⟩
    have HFN := mkHid (cF_fine z l)
    have HGL := mkHid (Q.grid_len n f)
    clear hsn hzn hf hok hwd
    go_wp2_with (first | (refine wp_store82 N2.out HGL.out rfl rfl rfl rfl ?_; intro w4 hD4 hg4; have hb4 : Below w2.heap.size w2 w4 := (bl_alloc (Below.refl w2.heap.size w2) _).grown hg4 (bl_alloc (Below.refl w2.heap.size w2) _).size (fun q hq => by cases hq; exact Nat.le_of_eq hR); obtain ⟨g0, g1, g2, _, _, _⟩ := G0.out.below hb4) | (refine wp_load82 hD4 rfl rfl rfl ?_))
    have B0 := mkHid (below_step B0.out hb4)
    have G0 := mkHid (G0.out.below hb4)
    have HS := mkHid (HS.out.below hb4)
    have E0 := mkHid (E0.out.below hb4)
    have D4 := mkHid hD4
    clear hR hD4 hg4 hb4 N2
    obtain ⟨hn13, hbd⟩ := HSITE.out.bd
    obtain ⟨Z, hZ⟩ : ∃ q, shSG f S = q := ⟨_, rfl⟩
    have HRZ : Hid (ShpR size lv S z l Z) := mkHid (.inl ⟨n, f, HSITE.out, hZ.symm⟩)
    have hok := HSITE.out.2.2.2.1
    have HOKS := mkHid hok
    have HWS := mkHid HSITE.out.wds
    have HTT : Hid (tot S.B ≤ 40) := mkHid (by rw [tot_flatten]; exact hok.tot)
    have HSG : Hid (segL (folS f (fil f (linksOf S.B S.V S.M))) = Z) := mkHid (by rw [sharp_same f hok]; exact hZ)
    have HHD := mkHid hn13
    have HBDD := mkHid hbd
    clear hn13 hbd hZ hok
    refine (rowOf_own S A _ HSM.out HOKS.out.k1 HOKS.out.v HOKS.out.m (fun b hb => (HOKS.out.rows b hb).asc) HS.out).mono ?_
    rintro e w5 ⟨hb, Xr, rfl, hch⟩
    have HB5 := mkHid hb
    have D5 := mkHid (D4.out.below hb)
    obtain ⟨k1, L1, hk1, hc1, hn1, hr1⟩ := chn_open hch (fun e => by have h := links_b S.B S.V S.M; rw [e] at h; have := HOKS.out.k1; rw [← h] at this; simp at this)
    have HKB : Hid (S.B = k1.b :: L1.map fun x => x.2.b) := mkHid (by have h := links_b S.B S.V S.M; rw [hk1] at h; rw [← h]; simp)
    have HF := mkHid (fill_any n f HHD.out HBDD.out L1 Xr k1 w4.heap.size w5 (fun x hx => Nat.le_trans (row_le (mem_rows HKB.out x hx)) (Nat.le_trans HTT.out (by omega))) (fun x hx t ht => HWS.out x.2.b (mem_rows HKB.out x hx) t ht) hc1 hn1 hr1 hb.size)
    have HK1 := mkHid hk1
    clear hb hch hc1 hn1 hr1 hk1 g0 g1 g2
    go_wp2_with (first | (refine wp_known D5.out rfl rfl rfl ?_))
    refine HF.out.mono ?_
    rintro e w6 ⟨rfl, hbk, hch⟩
    rw [← HK1.out] at hch
    have HB6 := mkHid (HB5.out.trans hbk.bel)
    have D6 := mkHid (D4.out.below HB6.out)
    obtain ⟨k2, L2, hk2, hc2, hn2, hr2⟩ := chn_open hch (fun e => by have h := fil_b f (linksOf S.B S.V S.M); rw [e, links_b] at h; have := HOKS.out.k1; rw [← h] at this; simp at this)
    have HKC : Hid (S.B = k2.b :: L2.map fun x => x.2.b) := mkHid (by have h := fil_b f (linksOf S.B S.V S.M); rw [links_b, hk2] at h; rw [← h]; simp)
    have HG := mkHid (fold_any n f HHD.out HBDD.out L2 Xr k2 w4.heap.size w6 (by rw [← HKC.out]; have := HTT.out; omega) (fun x hx t ht => HWS.out x.2.b (mem_rows HKC.out x hx) t ht) hc2 hn2 hr2 HB6.out.size)
    have HSQ : Hid (segL (fol f k2 (L2.map Prod.snd)) = Z) := mkHid (by have h := HSG.out; rw [hk2] at h; exact h)
    have HSF : Hid ((fol f k2 (L2.map Prod.snd)).length ≤ 1048576 ∧ ∀ x, x ∈ fol f k2 (L2.map Prod.snd) → x.b.length ≤ 1048576) := mkHid (by
      obtain ⟨q1, q2⟩ := fol_small f (L2.map Prod.snd) k2
      have h1 := HOKS.out.k2
      have h2 := HTT.out
      have h3 := HKC.out
      have h4 : S.B.length = L2.length + 1 := by rw [h3]; simp
      have h5 : tot (k2.b :: (L2.map Prod.snd).map Lk.b) = tot S.B := by rw [h3, List.map_map]; rfl
      rw [List.length_map] at q1
      exact ⟨by omega, fun x hx => by have := q2 x hx; omega⟩)
    clear hbk hch hc2 hn2 hr2 hk2 HF
    go_wp2_with (first | (refine wp_known D6.out rfl rfl rfl ?_))
    refine HG.out.mono ?_
    rintro e w7 ⟨rfl, hbk, hch⟩
    have HB7 := mkHid (HB6.out.trans hbk.bel)
    obtain ⟨k3, L3, hk3, hc3, _, _⟩ := chn_open hch (fol_ne f _ _)
    rw [hk3] at HSQ HSF
    have HSC := mkHid (seg_any k3 (L3.map Prod.snd) Xr w7 HSF.out.1 HSF.out.2 (hc3.chain (by simp)))
    rw [HSQ.out] at HSC
    have B0 := mkHid (below_step B0.out HB7.out)
    have E0 := mkHid (E0.out.below HB7.out)
    clear hbk hch hk3 hc3 HG
    go_wp2_with fail
    refine HSC.out.mono ?_
    rintro e w9 ⟨Ag, rfl, ho, hb⟩
    have hEl := E0.out.lt
    have HGV := mkHid (gives_shut ho (Yb := X + 2) hEl (Nat.le_refl _) (below_step B0.out hb) hXB.out)
    obtain ⟨z0, z1, z2, z3, z4, z5⟩ := E0.out.below hb
    clear ho hb hEl
    go_wp2
    exact bodyPost_ret (v := .agg #[.slice Ag.a0 Z.B.length Ag.c0, .slice Ag.a1 Z.V.length Ag.c1, .slice Ag.a2 Z.M.length Ag.c2]) (by simp [results, Tryz.results13, go_sem, *]) rfl ⟨Z, HRZ.out, HGV.out⟩
  · have HNO := mkHid hno
    clear hno
    go_wp2_with (first | (refine wp_store82 N2.out Q.zs_len rfl rfl rfl rfl ?_; intro w4 hD4 hg4; have hb4 : Below w2.heap.size w2 w4 := (bl_alloc (Below.refl w2.heap.size w2) _).grown hg4 (bl_alloc (Below.refl w2.heap.size w2) _).size (fun q hq => by cases hq; exact Nat.le_of_eq hR); obtain ⟨g0, g1, g2, _, _, _⟩ := G0.out.below hb4; obtain ⟨z0, z1, z2, z3, z4, z5⟩ := E0.out.below hb4))
    have B0 := mkHid (below_step B0.out hb4)
    have E0 := mkHid (E0.out.below hb4)
    clear hR hD4 hg4 N2
    have HWHY : Hid (NoSite size lv S z l []) := mkHid (HNO.out)
    have HEE := mkHid (none_give2 B0.out hXB.out E0.out.lt)
    exact bodyPost_ret (v := .agg #[.slice none 0 0, .slice none 0 0, .slice none 0 0]) (by simp [results, Tryz.results13, go_sem, *]) rfl ⟨noS, .inr ⟨HWHY.out, rfl⟩, HEE.out⟩
end Go.Proofs.YtihpajiololfoaaGreat
namespace Go.Proofs.YtihpajiololfoaaGreat
open Go.RowKit

theorem Tryz.info113 : (Tryz.prog.info? 113).map (fun i => (i.zero, i.size, i.bytes)) = some (some (.slice none 0 0), 1, 24) := by kernel_rfl
set_option maxRecDepth 100000 in
set_option maxHeartbeats 1600000 in
theorem toSymSS_any (ls : List (List Y)) (a : Option Addr) (c : Nat) (w : World) (hn : ls.length ≤ 1048576) (ht : tot ls ≤ 1048576) (hl : BndsAt w a ls) :
  Calls Tryz.prog 37 #[.slice a ls.length c] w fun e w' => ∃ g, e = .returned (.slice (some ⟨g, 0, none⟩) ls.length ls.length) ∧ OwnYY w' w.heap.size (.slice (some ⟨g, 0, none⟩) ls.length ls.length) ls ∧ Below w.heap.size w w' := by
 obtain ⟨i0, hi, hz⟩ := Option.map_eq_some_iff.1 Tryz.info113
 simp only [Prod.mk.injEq] at hz
 obtain ⟨hz0, hz1, hz2⟩ := hz
 obtain ⟨w1, hmk, hown0, hg0⟩ := run_make_full (P := Tryz.prog) w w.heap.size 32 113 i0 _ 1 Tryz.underlying32 hi hz0 hz1 .i64 .i64 ls.length (by rw [hz2]; omega) (by unfold maxLen; omega) (Nat.le_refl _)
 obtain ⟨g, hgg⟩ : ∃ g, w.heap.size = g := ⟨_, rfl⟩
 have HGG := mkHid hgg
 rw [hgg] at hmk hown0
 have HL := mkHid hl
 have HO := mkHid hown0
 have HT := mkHid ht
 have HG := mkHid (Below.grown (Below.refl w.heap.size w) hg0 (Nat.le_refl _) (fun k hk => by cases hk))
 clear hl hown0 hg0 hi hz0 hz1 hz2 hgg ht
 go_enter Tryz.func37, Tryz.ntmps37
 go_wp2
 go_loopw [4] (fun i w' => ∃ (k : Nat) (xs : List Value), k ≤ ls.length ∧ i = .int .i64 k ∧ w'.ownsRow g 113 1 (.slice (some ⟨g, 0, none⟩) ls.length ls.length) ls.length xs ∧ Inn w' g (xs.take k) (ls.take k) ∧ Below w.heap.size w w') (fun i _ => ls.length - (intOf i).toNat)
 case atStart => exact ⟨0, _, Nat.zero_le _, rfl, HO.out, by simpa using Inn.nil _ _, HG.out⟩
 case round =>
  obtain ⟨k, xs, hk, rfl, hown, hinn, hbel⟩ := hrel
  have HW := mkHid hown
  have HI := mkHid hinn
  have HB := mkHid hbel
  clear hown hinn hbel HO HG hmk
  by_cases hlt : k < ls.length
  ·obtain ⟨l, hx⟩ : ∃ x, ls[k]? = some x := ⟨_, List.getElem?_eq_getElem hlt⟩
   obtain ⟨b, o, rfl, _, hl⟩ := (HL.out.below HB.out).cons (by omega)
   obtain ⟨ao, cp, c0, hat⟩ := hl k l hx
   have HX := mkHid hx
   have HAT := mkHid hat
   have hll := tot_get hx
   clear hl hx hat
   have i0 : (0 : Int) ≤ (k : Int) := by omega
   have i1 : (k : Int) < (ls.length : Int) := by omega
   go_wp2_with fail
   refine (toSymS_any l ao cp _ (by have := HT.out; omega) HAT.out).mono ?_
   rintro e w2 ⟨gn, rfl, hon, hb1⟩
   have HW1 := mkHid (owns_below HW.out hb1)
   have HI1 := mkHid (HI.out.below hb1)
   have HB1 := mkHid (below_step HB.out hb1)
   have HN := mkHid hon
   have HLT : Hid (∀ (i : Nat) (v : Value) (q : Nat), (xs.take k)[i]? = some v → v.ownBlock = some q → q < wr.heap.size) := mkHid fun i v q h1 h2 => (HI.out.lt h1 h2).2
   have hxl := HW1.out.1
   have hgw : g < wr.heap.size := (World.ownsRow.lt HW.out g rfl).2
   have HGW := mkHid hgw
   have HGS : Hid (wr.heap.size ≤ gn) := mkHid ((HN.out.lt (q := gn) rfl).1)
   clear hb1 hon HB HW HI c0 hgw
   obtain ⟨u0, y0⟩ : ∃ v, w2.cell? ⟨g, k, none⟩ = some v := ⟨_, (HW1.out.cellAt k (by omega)).trans (List.getElem?_eq_getElem (by omega))⟩
   have z0 := HW1.out.frozenAt k
   have HA := mkHid (HW1.out.stored k (.slice (some ⟨gn, 0, none⟩) l.length l.length))
   have HXL := mkHid hxl
   clear hxl
   go_wp2
   go_roundw
   case rel =>
    have hxl := HXL.out
    refine ⟨k + 1, _, by omega, by go_num, HA.out.1, ?_, HB1.out.setCell (p := ⟨g, k, none⟩) (Nat.le_of_eq HGG.out) _⟩
    have e1 : (xs.set k (.slice (some ⟨gn, 0, none⟩) l.length l.length)).take (k + 1) = xs.take k ++ [.slice (some ⟨gn, 0, none⟩) l.length l.length] := by
     rw [List.take_succ_eq_append_getElem (by simp; omega)]
     simp [List.take_set_of_le]
    rw [e1, take_snoc HX.out]
    have hg2 := HA.out.2
    refine Inn.snoc (n0 := wr.heap.size) ?_ HLT.out (Nat.le_of_lt HGW.out) ?_
    ·refine HI1.out.keptBy hg2 fun q cur e hc => ?_
     have e' : g = q := Option.some.inj e
     subst e'
     rcases HW1.out.2 with ⟨e2, _⟩ | ⟨g2, _, cur2, e2, _, hg3, _⟩
     ·simp at e2
     ·simp at e2
      obtain ⟨rfl, rfl⟩ := e2
      rw [hc] at hg3
      simp at hg3
    ·refine HN.out.keptBy hg2 fun q hq e => ?_
     have e' : g = q := Option.some.inj e
     have e'' : gn = q := Option.some.inj hq
     have h1 := HGS.out
     have h2 := HGW.out
     omega
   case measure => simp [intOf]; omega
  ·have e : k = ls.length := by omega
   subst e
   have hinn := HI.out
   have hxl := HW.out.1
   rw [List.take_of_length_le (by omega), List.take_length] at hinn
   have HI := mkHid hinn
   clear hinn hxl
   go_wp2
   go_ret
   exact ⟨g, rfl, ⟨xs, by rw [HGG.out]; exact HW.out, by rw [HGG.out]; exact HI.out⟩, HB.out⟩
/-- What is left of a size. -/
def szN (left : Int) (n : Nat) : Int := if left - n < 0 then -1 else left - n
theorem szSymS_any (a : Option Addr) (n c : Nat) (left : Int) (w : World) (hn : n ≤ maxLen) (h0 : 0 ≤ left) (h1 : left ≤ 1048576) :
  Calls Tryz.prog 74 #[.slice a n c, .int .i64 left] w fun e w' => e = .returned (.int .i64 (szN left n)) ∧ w = w' := by
 unfold maxLen at hn
 unfold szN
 by_cases h : left - n < 0
 ·rw [if_pos h]
  go_enter Tryz.func74, Tryz.ntmps74
  go_wp2
  go_ret
  exact ⟨rfl, rfl⟩
 ·rw [if_neg h]
  go_enter Tryz.func74, Tryz.ntmps74
  go_wp2
  go_ret
  exact ⟨rfl, rfl⟩
theorem szValS_any (a : Option Addr) (n c : Nat) (left : Int) (w : World) (hn : n ≤ maxLen) (h0 : 0 ≤ left) (h1 : left ≤ 1048576) :
  Calls Tryz.prog 31 #[.slice a n c, .int .i64 left] w fun e w' => e = .returned (.int .i64 (szN left n)) ∧ w = w' := by
 unfold maxLen at hn
 unfold szN
 by_cases h : left - n < 0
 ·rw [if_pos h]
  go_enter Tryz.func31, Tryz.ntmps31
  go_wp2
  go_ret
  exact ⟨rfl, rfl⟩
 ·rw [if_neg h]
  go_enter Tryz.func31, Tryz.ntmps31
  go_wp2
  go_ret
  exact ⟨rfl, rfl⟩
theorem szBoolS_any (a : Option Addr) (n c : Nat) (left : Int) (w : World) (hn : n ≤ maxLen) (h0 : 0 ≤ left) (h1 : left ≤ 1048576) :
  Calls Tryz.prog 32 #[.slice a n c, .int .i64 left] w fun e w' => e = .returned (.int .i64 (szN left n)) ∧ w = w' := by
 unfold maxLen at hn
 unfold szN
 by_cases h : left - n < 0
 ·rw [if_pos h]
  go_enter Tryz.func32, Tryz.ntmps32
  go_wp2
  go_ret
  exact ⟨rfl, rfl⟩
 ·rw [if_neg h]
  go_enter Tryz.func32, Tryz.ntmps32
  go_wp2
  go_ret
  exact ⟨rfl, rfl⟩
end Go.Proofs.YtihpajiololfoaaGreat
namespace Go.Proofs.YtihpajiololfoaaGreat
open Go.RowKit

theorem Tryz.info55 : (Tryz.prog.info? 55).map (fun i => (i.zero, i.size, i.bytes)) = some (some (.agg #[.int .i64 0, .int .i64 0, .bool false]), 3, 24) := by kernel_rfl
set_option maxRecDepth 100000 in
set_option maxHeartbeats 1600000 in
theorem toValS_any (l : List VV) (a : Option Addr) (c : Nat) (w : World) (hn : l.length ≤ 1048576) (hl : At eV w a l) :
  Calls Tryz.prog 38 #[.slice a l.length c] w fun e w' => ∃ g, e = .returned (.slice (some ⟨g, 0, none⟩) l.length l.length) ∧ Own eV 55 w' w.heap.size (.slice (some ⟨g, 0, none⟩) l.length l.length) l ∧ Below w.heap.size w w' := by
 obtain ⟨i0, hi, hz⟩ := Option.map_eq_some_iff.1 Tryz.info55
 simp only [Prod.mk.injEq] at hz
 obtain ⟨hz0, hz1, hz2⟩ := hz
 obtain ⟨w1, hmk, hown0, hg0⟩ := run_make_full (P := Tryz.prog) w w.heap.size 33 55 i0 _ 3 Tryz.underlying33 hi hz0 hz1 .i64 .i64 l.length (by rw [hz2]; omega) (by unfold maxLen; omega) (Nat.le_refl _)
 obtain ⟨g, hgg⟩ : ∃ g, w.heap.size = g := ⟨_, rfl⟩
 have HGG := mkHid hgg
 rw [hgg] at hmk hown0
 have HL := mkHid hl
 have HO := mkHid hown0
 have HG := mkHid (Below.grown (Below.refl w.heap.size w) hg0 (Nat.le_refl _) (fun k hk => by cases hk))
 clear hl hown0 hg0 hi hz0 hz1 hz2 hgg
 go_enter Tryz.func38, Tryz.ntmps38
 go_wp2
 go_loopw [4] (fun i w' => ∃ (k : Nat) (xs : List Value), k ≤ l.length ∧ i = .int .i64 k ∧ w'.ownsRow g 55 3 (.slice (some ⟨g, 0, none⟩) l.length l.length) l.length xs ∧ xs.take (k * 3) = eV.flat (l.take k) ∧ Below w.heap.size w w') (fun i _ => l.length - (intOf i).toNat)
 case atStart => exact ⟨0, _, Nat.zero_le _, rfl, HO.out, by simp [El.flat], HG.out⟩
 case round =>
  obtain ⟨k, xs, hk, rfl, hown, htake, hbel⟩ := hrel
  have HW := mkHid hown
  have HT := mkHid htake
  have HB := mkHid hbel
  clear hown htake hbel HO HG hmk
  by_cases hlt : k < l.length
  ·obtain ⟨x, hx⟩ : ∃ x, l[k]? = some x := ⟨_, List.getElem?_eq_getElem hlt⟩
   obtain ⟨b, o, rfl, _, hl⟩ := (HL.out.below HB.out).cons (by omega)
   obtain ⟨c0, c1, c2⟩ := get_v hl hx
   have HX := mkHid hx
   clear hl hx
   have i0 : (0 : Int) ≤ (k : Int) := by omega
   have i1 : (k : Int) < (l.length : Int) := by omega
   go_wp2_with fail
   refine (toVal_any x.1 x.2.1 x.2.2 _).mono ?_
   rintro e w2 ⟨rfl, hb1⟩
   have HW1 := mkHid (owns_below HW.out hb1)
   have HB1 := mkHid (below_step HB.out hb1)
   have hxl := HW1.out.1
   clear hb1 HB HW c0 c1 c2
   obtain ⟨u0, y0⟩ : ∃ v, w2.cell? ⟨g, k * 3, none⟩ = some v := ⟨_, (HW1.out.cellAt (k * 3) (by omega)).trans (List.getElem?_eq_getElem (by omega))⟩
   have z0 := HW1.out.frozenAt (k * 3)
   obtain ⟨u1, y1⟩ : ∃ v, w2.cell? ⟨g, k * 3 + 1, none⟩ = some v := ⟨_, (HW1.out.cellAt (k * 3 + 1) (by omega)).trans (List.getElem?_eq_getElem (by omega))⟩
   have z1 := HW1.out.frozenAt (k * 3 + 1)
   obtain ⟨u2, y2⟩ : ∃ v, w2.cell? ⟨g, k * 3 + 2, none⟩ = some v := ⟨_, (HW1.out.cellAt (k * 3 + 2) (by omega)).trans (List.getElem?_eq_getElem (by omega))⟩
   have z2 := HW1.out.frozenAt (k * 3 + 2)
   clear hxl
   have HA0 := mkHid (HW1.out.stored (k * 3) (.int .i64 x.1))
   have HA1 := mkHid (HA0.out.1.stored (k * 3 + 1) (.int .i64 x.2.1))
   have HA2 := mkHid (HA1.out.1.stored (k * 3 + 2) (.bool x.2.2))
   go_wp2
   go_roundw
   case rel =>
    refine ⟨k + 1, _, by omega, by go_num, HA2.out.1, step_v HX.out HW1.out.1 HT.out, ?_⟩
    exact ((HB1.out.setCell (p := ⟨g, k * 3, none⟩) (Nat.le_of_eq HGG.out) _).setCell (p := ⟨g, k * 3 + 1, none⟩) (Nat.le_of_eq HGG.out) _).setCell (p := ⟨g, k * 3 + 2, none⟩) (Nat.le_of_eq HGG.out) _
   case measure => simp [intOf]; omega
  ·have e : k = l.length := by omega
   subst e
   have hown := HW.out
   rw [flat_upto (E := eV) HW.out.1 HT.out] at hown
   have HW := mkHid hown
   clear hown HT
   go_wp2
   go_ret
   exact ⟨g, rfl, by rw [HGG.out]; exact HW.out, HB.out⟩
end Go.Proofs.YtihpajiololfoaaGreat
