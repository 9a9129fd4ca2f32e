/-
  CONTRACT of the program's SegDrop.
-/
import Derived.Test.YtbfmljogfljhdaaGreatSgx
import Derived.Test.YtbfmljogfljhdaaGreatIb
namespace Go.Proofs.YtbfmljogfljhdaaGreat
open Go.RowKit

/-- What SegDrop answers. -/
def DropR (n l : Int) (T : List Y) (S Z : SG) : Prop := (OkS n l S.B S.V S.M ∧ T.length ≤ 40 → Z = dropSG l T S) ∧ (¬ (OkS n l S.B S.V S.M ∧ T.length ≤ 40) → Z = noS)
theorem DropR.one {n l : Int} {T : List Y} {S Z Z' : SG} (h : DropR n l T S Z) (h' : DropR n l T S Z') : Z = Z' := by
  by_cases e : OkS n l S.B S.V S.M ∧ T.length ≤ 40
  · rw [h.1 e, h'.1 e]
  · rw [h.2 e, h'.2 e]
def put3 (w : World) (X : Nat) (p q r : Value) : World := ((w.setCell ⟨X, 0, none⟩ p).setCell ⟨X, 1, none⟩ q).setCell ⟨X, 2, none⟩ r
theorem gives_shut {w wr : World} {Yb lo hi : Nat} {A : SAd} {S : SG} (hO : OwnS wr lo hi A S) (hlo : Yb + 1 ≤ lo) (hhi : hi ≤ wr.heap.size) (hb : Below w.heap.size w wr) (hY : w.heap.size ≤ Yb) :
    GivesS w (put3 wr Yb (.slice A.a0 S.B.length A.c0) (.slice A.a1 S.V.length A.c1) (.slice A.a2 S.M.length A.c2)) (.returned (.agg #[.slice A.a0 S.B.length A.c0, .slice A.a1 S.V.length A.c1, .slice A.a2 S.M.length A.c2])) S := by
  have hO1 := hO.outs (outs_set wr Yb 0 (.slice A.a0 S.B.length A.c0)) (.inr hlo)
  have hO2 := hO1.outs (outs_set _ Yb 1 (.slice A.a1 S.V.length A.c1)) (.inr hlo)
  have hO3 := hO2.outs (outs_set _ Yb 2 (.slice A.a2 S.M.length A.c2)) (.inr hlo)
  refine ⟨A, rfl, hO3.mono (by omega) (by simpa [put3, go_sem] using hhi), ?_⟩
  exact ((hb.setCell (p := ⟨Yb, 0, none⟩) hY _).setCell (p := ⟨Yb, 1, none⟩) hY _).setCell (p := ⟨Yb, 2, none⟩) hY _
theorem dropK_b : ∀ (a : Lk) (ks : List Lk) (k : Lk), k ∈ dropK a ks → ∃ k', k' ∈ a :: ks ∧ k.b = k'.b
  | a, [], k, h => ⟨a, List.mem_cons_self, by simp [dropK] at h; rw [h]⟩
  | a, n :: r, k, h => by
    unfold dropK at h
    split at h
    · obtain ⟨k', h1, h2⟩ := dropK_b _ r k h
      rcases List.mem_cons.1 h1 with e | e
      · exact ⟨a, List.mem_cons_self, by rw [h2, e]⟩
      · exact ⟨k', List.mem_cons_of_mem _ (List.mem_cons_of_mem _ e), h2⟩
    · rcases List.mem_cons.1 h with e | e
      · exact ⟨a, List.mem_cons_self, by rw [e]⟩
      · obtain ⟨k', h1, h2⟩ := dropK_b n r k e
        exact ⟨k', List.mem_cons_of_mem _ h1, h2⟩
theorem dropK_len : ∀ (a : Lk) (ks : List Lk), (dropK a ks).length ≤ ks.length + 1
  | _, [] => by simp [dropK]
  | a, n :: r => by
    unfold dropK
    split
    · have := dropK_len ⟨a.b, jv a.v n.v, a.m && n.m⟩ r
      simp; omega
    · have := dropK_len n r
      simp; omega
theorem links_b : ∀ (B : List (List Y)) (V : List VV) (M : List Bool), (linksOf B V M).map Lk.b = B
  | [], _, _ => rfl
  | [_], _, _ => rfl
  | b :: b2 :: B, V, M => by
    show b :: (linksOf (b2 :: B) V.tail M.tail).map Lk.b = _
    rw [links_b]
theorem mem_two {l : Int} {T G m1 m2 : List Y} (h1 : IsSet m1 [T].flatten) (h2 : IsSet m2 [[(0, 0), (l, 0)]].flatten) (hG : G = outS m1 m2) : G.Pairwise LtY ∧ ∀ p, p ∈ G ↔ p ∈ T ∧ p ≠ (0, 0) ∧ p ≠ (l, 0) := by
  subst hG
  refine ⟨h1.asc.filter _, fun p => ?_⟩
  have a := h1.mem p
  have b := h2.mem p
  simp at a b
  unfold outS
  simp [a, b]
theorem set_len {m L : List Y} (h : IsSet m L) : m.length ≤ L.length := (asc_nodup h.asc).length_le_of_subset (fun p hp => (h.mem p).1 hp)
theorem G3.belowAt {v v' : World} {B X : Nat} {p q r : Value} (h : G3 v X p q r) (hb : Below B v v') (hX : X < B) : G3 v' X p q r := by
  have e := hb.block X hX
  exact ⟨(World.cell?_of_block (a := ⟨X, 0, none⟩) e).trans h.c0, (World.cell?_of_block (a := ⟨X, 1, none⟩) e).trans h.c1, (World.cell?_of_block (a := ⟨X, 2, none⟩) e).trans h.c2, (World.frozen?_of_block (a := ⟨X, 0, none⟩) e).trans h.f0, (World.frozen?_of_block (a := ⟨X, 1, none⟩) e).trans h.f1, (World.frozen?_of_block (a := ⟨X, 2, none⟩) e).trans h.f2⟩
set_option maxRecDepth 100000 in
set_option maxHeartbeats 1000000 in
theorem iDrop_any (n lv : Int) (S : SG) (A : SAd) (T : List Y) (aT : Option Addr) (cT : Nat) (w : World) (hs : Small S) (hT : T.length ≤ 1048576) (hl : SegAt w A S) (hlT : At eY w aT T) :
    Calls Tryz.prog 12 #[.int .i64 n, .int .i64 lv, .agg #[.slice A.a0 S.B.length A.c0, .slice A.a1 S.V.length A.c1, .slice A.a2 S.M.length A.c2], .slice aT T.length cT] w fun e w' => ∃ Z, DropR n lv T S Z ∧ GivesS w w' e Z := by
  have HSM := mkHid hs
  have HT := mkHid hT
  obtain ⟨w0, hw0⟩ : ∃ x : World, (w.alloc (.cells #[.slice A.a0 S.B.length A.c0, .slice A.a1 S.V.length A.c1, .slice A.a2 S.M.length A.c2] 28)).alloc (.cells #[.slice none 0 0, .slice none 0 0, .slice none 0 0] 28) = x := ⟨_, rfl⟩
  obtain ⟨X, hX⟩ : ∃ x, w.heap.size = x := ⟨_, rfl⟩
  have HXX := mkHid hX
  have HB : Hid (Below w.heap.size w w0) := mkHid (by rw [← hw0]; exact bl_alloc (bl_alloc (Below.refl _ _) _) _)
  have P0 : Hid (G3 w0 X (.slice A.a0 S.B.length A.c0) (.slice A.a1 S.V.length A.c1) (.slice A.a2 S.M.length A.c2)) := mkHid (by rw [← hw0, ← hX]; exact (G3.new _ _ _ _ _).below (bl_alloc (Below.refl _ _) _))
  have R0 : Hid (G3 w0 (X + 1) (.slice none 0 0) (.slice none 0 0) (.slice none 0 0)) := mkHid (by rw [← hw0, ← hX]; have := G3.new (w.alloc (.cells #[.slice A.a0 S.B.length A.c0, .slice A.a1 S.V.length A.c1, .slice A.a2 S.M.length A.c2] 28)) (.slice none 0 0) (.slice none 0 0) (.slice none 0 0) 28; simpa using this)
  have HL := mkHid (hl.below HB.out)
  have HLT := mkHid (hlT.below HB.out)
  clear hl hlT hs hT
  obtain ⟨q0, q1, q2, _, _, _⟩ := P0.out
  go_enter Tryz.func12, Tryz.ntmps12
  go_wp2_with fail
  clear hw0 hX q0 q1 q2
  refine (iSegOk_any n lv S A _ HSM.out HL.out).mono ?_
  rintro e w1 ⟨hb, r, rfl, hr⟩
  have HR := mkHid hr
  have HB1 := mkHid (below_step HB.out hb)
  have P1 := mkHid (P0.out.below hb)
  have R1 := mkHid (R0.out.below hb)
  have L1 := mkHid (HL.out.below hb)
  have T1 := mkHid (HLT.out.below hb)
  clear hb hr P0 HL HB HLT R0
  have HSH : Hid (∀ v, Below w.heap.size w v → GivesS w (put3 v (X + 1) (.slice none 0 0) (.slice none 0 0) (.slice none 0 0)) (.returned (.agg #[.slice none 0 0, .slice none 0 0, .slice none 0 0])) noS) := mkHid fun v hv => gives_shut (A := noA) (S := noS) (OwnS.none v (X + 2) v.heap.size) (Nat.le_refl _) (Nat.le_refl _) hv (by rw [HXX.out]; omega)
  cases hrb : r
  · have HNO : Hid (DropR n lv T S noS) := mkHid ⟨fun h => (by have := HR.out.2 h.1; rw [hrb] at this; cases this), fun _ => rfl⟩
    subst hrb
    have HF := mkHid (HSH.out _ HB1.out)
    obtain ⟨r0, r1, r2, t0, t1, t2⟩ := R1.out
    go_wp2
    refine bodyPost_ret (v := .agg #[.slice none 0 0, .slice none 0 0, .slice none 0 0]) (by simp [results, Tryz.results12, go_sem, *]) rfl ⟨noS, HNO.out, HF.out⟩
  have HOK := mkHid (HR.out.1 hrb)
  subst hrb
  clear HR
  by_cases hlen : (40 : Int) < (T.length : Int)
  · have HNO : Hid (DropR n lv T S noS) := mkHid ⟨fun h => (by have := h.2; omega), fun _ => rfl⟩
    have HF := mkHid (HSH.out _ HB1.out)
    obtain ⟨r0, r1, r2, t0, t1, t2⟩ := R1.out
    go_wp2
    refine bodyPost_ret (v := .agg #[.slice none 0 0, .slice none 0 0, .slice none 0 0]) (by simp [results, Tryz.results12, go_sem, *]) rfl ⟨noS, HNO.out, HF.out⟩
  have HTL : Hid (T.length ≤ 40) := mkHid (by omega)
  clear HSH
  obtain ⟨q0, q1, q2, _, _, _⟩ := P1.out
  go_wp2_with fail
  clear q0 q1 q2
  refine (rowOf_own S A _ HSM.out HOK.out.k1 HOK.out.v HOK.out.m (fun b hb => (HOK.out.rows b hb).asc) L1.out).mono ?_
  rintro e w2 ⟨hb, Z, rfl, hch⟩
  have HSZ1 : Hid (X + 2 ≤ w1.heap.size) := mkHid (by have := R1.out.lt; omega)
  have HB2 := mkHid (below_step HB1.out hb)
  have R2 := mkHid (R1.out.below hb)
  have T2 := mkHid (T1.out.below hb)
  have HCH := mkHid hch
  have HSZ2 := mkHid hb.size
  clear hb hch HB1 P1 L1 T1 R1
  obtain ⟨wa, hwa⟩ : ∃ z : World, w2.alloc (.cells #[.slice aT T.length cT] 34) = z := ⟨_, rfl⟩
  obtain ⟨Ra, hRa⟩ : ∃ z, w2.heap.size = z := ⟨_, rfl⟩
  have BA : Hid (Below w2.heap.size w2 wa) := mkHid (by rw [← hwa]; exact bl_alloc (Below.refl _ _) _)
  have CA : Hid (wa.cell? ⟨Ra, 0, none⟩ = some (.slice aT T.length cT)) := mkHid (by rw [← hwa, ← hRa]; simp [go_sem])
  go_wp2_with fail
  clear hwa hRa
  refine (termsOf_any [T] (some ⟨Ra, 0, none⟩) 1 _ (by simp) (by have := HT.out; simpa using this) (Own.one CA.out (T2.out.below BA.out))).mono ?_
  rintro e w3 ⟨hb, m1, a1, p1, rfl, hset, hown⟩
  have HS1 := mkHid hset
  have HO1 := mkHid hown
  have HB3 := mkHid (below_step HB2.out (below_step BA.out hb))
  have R3 := mkHid (R2.out.below (below_step BA.out hb))
  have HC3 := mkHid (HCH.out.below (below_step BA.out hb))
  have HSZ3 := mkHid (Nat.le_trans HSZ2.out (below_step BA.out hb).size)
  have hsza : w2.heap.size ≤ wa.heap.size := BA.out.size
  clear hb hset hown HB2 BA CA T2 R2 HCH HSZ2
  obtain ⟨wb, hwb⟩ : ∃ z : World, (w3.alloc (.cells #[.int .i64 0, .int .i64 0, .int .i64 lv, .int .i64 0] 39)).alloc (.cells #[.slice (some ⟨w3.heap.size, 0, none⟩) 2 2] 34) = z := ⟨_, rfl⟩
  obtain ⟨Rb, hRb⟩ : ∃ z, w3.heap.size + 1 = z := ⟨_, rfl⟩
  have BA : Hid (Below w3.heap.size w3 wb) := mkHid (by rw [← hwb]; exact bl_alloc (bl_alloc (Below.refl _ _) _) _)
  have CB : Hid (BndsAt wb (some ⟨Rb, 0, none⟩) [[(0, 0), (lv, 0)]]) := mkHid (by
    refine Own.one (l := [(0, 0), (lv, 0)]) (ao := some ⟨w3.heap.size, 0, none⟩) (cap := 2) ?_ (.inr ⟨w3.heap.size, 0, rfl, fun i x hx j v hv => ?_⟩)
    · rw [← hwb, ← hRb]; simp [go_sem]
    · rw [← hwb]
      match i, hx with
      | 0, hx =>
        simp at hx; subst hx
        match j, hv with
        | 0, hv => simp [eY] at hv; subst hv; simp [go_sem, eY]
        | 1, hv => simp [eY] at hv; subst hv; simp [go_sem, eY]
      | 1, hx =>
        simp at hx; subst hx
        match j, hv with
        | 0, hv => simp [eY] at hv; subst hv; simp [go_sem, eY]
        | 1, hv => simp [eY] at hv; subst hv; simp [go_sem, eY])
  go_wp2_with fail
  clear hwb hRb
  refine (termsOf_any [[(0, 0), (lv, 0)]] (some ⟨Rb, 0, none⟩) 1 _ (by simp) (by simp) CB.out).mono ?_
  rintro e w4 ⟨hb, m2, a2, p2, rfl, hset, hown⟩
  have HS2 := mkHid hset
  have HO2 := mkHid hown
  have HB4 := mkHid (below_step HB3.out (below_step BA.out hb))
  have R4 := mkHid (R3.out.below (below_step BA.out hb))
  have HC4 := mkHid (HC3.out.below (below_step BA.out hb))
  have O4 := mkHid (HO1.out.below (below_step BA.out hb))
  have HSZ4 := mkHid (Nat.le_trans HSZ3.out (below_step BA.out hb).size)
  clear hb hset hown HB3 BA CB R3 HC3 HO1 HSZ3
  have HM1 : Hid (m1.length ≤ 1048576) := mkHid (Nat.le_trans (set_len HS1.out) (by have := HT.out; simpa using this))
  have HM2 : Hid (m2.length ≤ 1048576) := mkHid (Nat.le_trans (set_len HS2.out) (by simp))
  go_wp2_with fail
  refine (without_any m1 m2 a1 a2 p1 p2 _ HM1.out HM2.out HS2.out.asc O4.out.at HO2.out.at).mono ?_
  obtain ⟨G, hG⟩ : ∃ z, outS m1 m2 = z := ⟨_, rfl⟩
  have HGG := mkHid (mem_two HS1.out HS2.out hG.symm)
  have HGL : Hid (G.length ≤ 1048576) := mkHid (by rw [← hG]; exact Nat.le_trans (outS_len _ _) HM1.out)
  rw [hG]
  clear hG
  rintro e w5 ⟨hb, g, cg, rfl, hown⟩
  have HB5 := mkHid (below_step HB4.out hb)
  have R5 := mkHid (R4.out.below hb)
  have HC5 := mkHid (HC4.out.below hb)
  have HOG := mkHid hown
  have HSZ5 := mkHid (Nat.le_trans HSZ4.out hb.size)
  clear hb hown HB4 R4 HC4 O4 HO2 HSZ4
  obtain ⟨L, hc, hm, hnd⟩ := HC5.out
  cases L with
  | nil =>
    exfalso
    have h := congrArg List.length hm
    have h2 := congrArg List.length (links_b S.B S.V S.M)
    rw [List.length_map] at h2
    rw [List.map_nil, List.length_nil] at h
    have := HOK.out.k1
    omega
  | cons y L =>
    obtain ⟨Z', k⟩ := y
    obtain ⟨e, _⟩ := id hc
    have e2 : Z = Z' := by simpa using e
    subst e2
    clear e
    have HMM := mkHid hm
    have HLB : Hid (∀ x, x ∈ (Z, k) :: L → x.2.b.length ≤ 1048576) := mkHid fun x hx => by
      have h1 : x.2.b ∈ S.B := by rw [← links_b S.B S.V S.M, ← hm]; exact List.mem_map_of_mem (List.mem_map_of_mem hx)
      obtain ⟨i, hi, e⟩ := List.getElem_of_mem h1
      rw [← e]
      exact HSM.out.row i _ (List.getElem?_eq_getElem hi)
    have HCC := mkHid hc
    have HND := mkHid hnd
    clear hc hm hnd
    go_wp2_with fail
    refine (drop_any L Z k w1.heap.size _ G g cg _ HLB.out HGL.out HGG.out.1 HOG.out HCC.out HND.out HSZ5.out).mono ?_
    rintro e w6 ⟨rfl, hb, hcn⟩
    have HB6 : Hid (Below w.heap.size w w6) := mkHid (HB5.out.trans (hb.mono (by rw [HXX.out]; have := HSZ1.out; omega)))
    have R6 := mkHid (R5.out.belowAt hb (by have := HSZ1.out; omega))
    obtain ⟨L2, hc2, hm2, _⟩ := hcn
    have HFE : Hid (segL (dropK (filL G k) (L.map fun x => filL G x.2)) = dropSG lv T S) := mkHid (by
      have h := drop_all S HGG.out.2 HOK.out.v HOK.out.m (.inr HOK.out.last) HOK.out.vals
      rw [← HMM.out] at h
      simpa [dropL, List.map_map, Function.comp_def] using h)
    have HDL : Hid ((dropK (filL G k) (L.map fun x => filL G x.2)).length ≤ 1048576) := mkHid (by
      have h1 := dropK_len (filL G k) (L.map fun x => filL G x.2)
      have h2 := congrArg List.length HMM.out
      have h3 := congrArg List.length (links_b S.B S.V S.M)
      have h4 := HSM.out.b
      simp at h1 h2 h3
      omega)
    have HDB : Hid (∀ z, z ∈ dropK (filL G k) (L.map fun x => filL G x.2) → z.b.length ≤ 1048576) := mkHid fun z hz => by
      obtain ⟨z', h1, h2⟩ := dropK_b _ _ z hz
      rw [h2]
      rcases List.mem_cons.1 h1 with e | e
      · rw [e]; exact Nat.le_trans (outS_len _ _) (HLB.out (Z, k) List.mem_cons_self)
      · obtain ⟨x, hx, e⟩ := List.mem_map.1 e
        rw [← e]
        exact Nat.le_trans (outS_len _ _) (HLB.out x (List.mem_cons_of_mem _ hx))
    obtain ⟨ks, hks⟩ : ∃ z, dropK (filL G k) (L.map fun x => filL G x.2) = z := ⟨_, rfl⟩
    have hne : ks ≠ [] := by rw [← hks]; exact dropK_ne _ _
    rw [hks] at hm2 HFE HDL HDB
    have HCN : Hid (Chain w6 Z ks) := mkHid (by rw [← hm2]; exact Ch.chain (fun e => hne (by rw [← hm2, e]; rfl)) hc2)
    have HR6 : Hid (X + 2 ≤ w6.heap.size) := mkHid (by have := R6.out.lt; omega)
    clear hb hc2 hm2 hks HB5 R5 HC5 HOG HCC HND HMM
    cases ks with
    | nil => exact absurd rfl hne
    | cons k9 r9 =>
      clear hne
      go_wp2_with fail
      refine (seg_any k9 r9 Z _ HDL.out HDB.out HCN.out).mono ?_
      rintro e w7 ⟨A', rfl, hO, hb⟩
      have hF := gives_shut hO HR6.out (Nat.le_refl _) (below_step HB6.out hb) (by rw [HXX.out]; omega)
      have HF := mkHid hF
      obtain ⟨r0, r1, r2, t0, t1, t2⟩ := R6.out.below hb
      obtain ⟨Zs, hZs⟩ : ∃ z, segL (k9 :: r9) = z := ⟨_, rfl⟩
      rw [hZs] at HF HFE
      rw [hZs]
      have HZ : Hid (DropR n lv T S Zs) := mkHid ⟨fun _ => HFE.out, fun h => absurd ⟨HOK.out, HTL.out⟩ h⟩
      clear hO hb hF hZs
      go_wp2
      refine bodyPost_ret (v := .agg #[.slice A'.a0 Zs.B.length A'.c0, .slice A'.a1 Zs.V.length A'.c1, .slice A'.a2 Zs.M.length A'.c2]) (by simp [results, Tryz.results12, go_sem, *]) rfl ⟨Zs, HZ.out, HF.out⟩
end Go.Proofs.YtbfmljogfljhdaaGreat
