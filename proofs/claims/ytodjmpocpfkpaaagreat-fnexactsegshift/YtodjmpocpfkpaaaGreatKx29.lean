/-
  CONTRACT of the program's SegDrop.
  CONTRACTS: a row of links without some terms (link.drop); the program's link.forget.
  CONTRACT of the program's moved, for one of its moves.
-/
import Derived.Test.YtodjmpocpfkpaaaGreatKx28
import Derived.Test.YtodjmpocpfkpaaaGreatKx22
import Derived.Test.YtodjmpocpfkpaaaGreatKx20
import Derived.Test.YtodjmpocpfkpaaaGreatKx17
namespace Go.Proofs.YtodjmpocpfkpaaaGreat
open Go.RowKit

/-- What SegDrop answers. -/
def DropR (n l : Int) (T : List Y) (S Z : SG) : Prop := (OkS n l S.B S.V S.M ∧ T.length ≤ 40 → Z = dropSG l T S) ∧ (¬ (OkS n l S.B S.V S.M ∧ T.length ≤ 40) → Z = noS)
theorem DropR.one {n l : Int} {T : List Y} {S Z Z' : SG} (h : DropR n l T S Z) (h' : DropR n l T S Z') : Z = Z' := by
 by_cases e : OkS n l S.B S.V S.M ∧ T.length ≤ 40
 ·rw [h.1 e, h'.1 e]
 ·rw [h.2 e, h'.2 e]
def put3 (w : World) (X : Nat) (p q r : Value) : World := ((w.setCell ⟨X, 0, none⟩ p).setCell ⟨X, 1, none⟩ q).setCell ⟨X, 2, none⟩ r
theorem gives_shut {w wr : World} {Yb lo hi : Nat} {A : SAd} {S : SG} (hO : OwnS wr lo hi A S) (hlo : Yb + 1 ≤ lo) (hhi : hi ≤ wr.heap.size) (hb : Below w.heap.size w wr) (hY : w.heap.size ≤ Yb) :
  GivesS w (put3 wr Yb (.slice A.a0 S.B.length A.c0) (.slice A.a1 S.V.length A.c1) (.slice A.a2 S.M.length A.c2)) (.returned (.agg #[.slice A.a0 S.B.length A.c0, .slice A.a1 S.V.length A.c1, .slice A.a2 S.M.length A.c2])) S := by
 have hO1 := hO.outs (outs_set wr Yb 0 (.slice A.a0 S.B.length A.c0)) (.inr hlo)
 have hO2 := hO1.outs (outs_set _ Yb 1 (.slice A.a1 S.V.length A.c1)) (.inr hlo)
 have hO3 := hO2.outs (outs_set _ Yb 2 (.slice A.a2 S.M.length A.c2)) (.inr hlo)
 refine ⟨A, rfl, hO3.mono (by omega) (by simpa [put3, go_sem] using hhi), ?_⟩
 exact ((hb.setCell (p := ⟨Yb, 0, none⟩) hY _).setCell (p := ⟨Yb, 1, none⟩) hY _).setCell (p := ⟨Yb, 2, none⟩) hY _
theorem dropK_b : ∀ (a : Lk) (ks : List Lk) (k : Lk), k ∈ dropK a ks → ∃ k', k' ∈ a :: ks ∧ k.b = k'.b
 | a, [], k, h => ⟨a, List.mem_cons_self, by simp [dropK] at h; rw [h]⟩
 | a, n :: r, k, h => by
  unfold dropK at h
  split at h
  ·obtain ⟨k', h1, h2⟩ := dropK_b _ r k h
   rcases List.mem_cons.1 h1 with e | e
   ·exact ⟨a, List.mem_cons_self, by rw [h2, e]⟩
   ·exact ⟨k', List.mem_cons_of_mem _ (List.mem_cons_of_mem _ e), h2⟩
  ·rcases List.mem_cons.1 h with e | e
   ·exact ⟨a, List.mem_cons_self, by rw [e]⟩
   ·obtain ⟨k', h1, h2⟩ := dropK_b n r k e
    exact ⟨k', List.mem_cons_of_mem _ h1, h2⟩
theorem dropK_len : ∀ (a : Lk) (ks : List Lk), (dropK a ks).length ≤ ks.length + 1
 | _, [] => by simp [dropK]
 | a, n :: r => by
  unfold dropK
  split
  ·have := dropK_len ⟨a.b, jv a.v n.v, a.m && n.m⟩ r
   simp; omega
  ·have := dropK_len n r
   simp; omega
theorem links_b : ∀ (B : List (List Y)) (V : List VV) (M : List Bool), (linksOf B V M).map Lk.b = B
 | [], _, _ => rfl
 | [_], _, _ => rfl
 | b :: b2 :: B, V, M => by
  show b :: (linksOf (b2 :: B) V.tail M.tail).map Lk.b = _
  rw [links_b]
theorem set_len {m L : List Y} (h : IsSet m L) : m.length ≤ L.length := (asc_nodup h.asc).length_le_of_subset (fun p hp => (h.mem p).1 hp)
theorem G3.belowAt {v v' : World} {B X : Nat} {p q r : Value} (h : G3 v X p q r) (hb : Below B v v') (hX : X < B) : G3 v' X p q r := by
 have e := hb.block X hX
 exact ⟨(World.cell?_of_block (a := ⟨X, 0, none⟩) e).trans h.c0, (World.cell?_of_block (a := ⟨X, 1, none⟩) e).trans h.c1, (World.cell?_of_block (a := ⟨X, 2, none⟩) e).trans h.c2, (World.frozen?_of_block (a := ⟨X, 0, none⟩) e).trans h.f0, (World.frozen?_of_block (a := ⟨X, 1, none⟩) e).trans h.f1, (World.frozen?_of_block (a := ⟨X, 2, none⟩) e).trans h.f2⟩
end Go.Proofs.YtodjmpocpfkpaaaGreat
namespace Go.Proofs.YtodjmpocpfkpaaaGreat
open Go.RowKit

/-- Links that are not too many and not too long. -/
structure FitK (ks : List Lk) : Prop where
  ne : ks ≠ []
  len : ks.length ≤ 1048576
  row : ∀ k, k ∈ ks → k.b.length ≤ 1048576
theorem ChN.chain {w : World} {base X : Nat} {ks : List Lk} (h : ChN w base X ks) (hne : ks ≠ []) : Chain w X ks := by
  obtain ⟨L, h1, h2, _, _⟩ := h
  rw [← h2]
  exact Ch.chain (fun e => hne (by rw [← h2, e]; rfl)) h1
theorem links_ne {n l : Int} {S : SG} (hok : OkS n l S.B S.V S.M) : linksOf S.B S.V S.M ≠ [] := fun e => by
  have h := congrArg List.length (links_b S.B S.V S.M)
  rw [e] at h
  have := hok.k1
  simp at h
  omega
theorem links_mem {S : SG} (hs : Small S) {k : Lk} (hk : k ∈ linksOf S.B S.V S.M) : k.b.length ≤ 1048576 := by
  have h1 : k.b ∈ S.B := by rw [← links_b S.B S.V S.M]; exact List.mem_map_of_mem hk
  obtain ⟨i, hi, e⟩ := List.getElem_of_mem h1
  rw [← e]
  exact hs.row i _ (List.getElem?_eq_getElem hi)
theorem dropChain_any {n lv : Int} (S : SG) (X base gb : Nat) (m : List Y) (ag : Option Addr) (cg : Nat) (w : World) (hs : Small S) (hok : OkS n lv S.B S.V S.M) (hm : m.length ≤ 1048576) (ha : m.Pairwise LtY) (hog : Own eY 65 w gb (.slice ag m.length cg) m) (hB : base ≤ w.heap.size) (hc : ChN w base X (linksOf S.B S.V S.M)) :
    Calls Tryz.prog 72 #[.pointer (some ⟨X, 0, none⟩), .agg #[.slice ag m.length cg, .func (.func 91) #[] #[]]] w fun e w' => e = .returned (.tuple #[]) ∧ BK base w w' ∧ ∃ ks, ChN w' base X ks ∧ FitK ks ∧ ks = dropL ((linksOf S.B S.V S.M).map (filL m)) := by
  obtain ⟨L, h1, h2, h3, h3r⟩ := hc
  cases L with
  | nil => exact absurd h2.symm (links_ne hok)
  | cons y L =>
    obtain ⟨Z, k⟩ := y
    obtain ⟨e, _⟩ := id h1
    have e2 : X = Z := by simpa using e
    subst e2
    have hlb : ∀ x, x ∈ (X, k) :: L → x.2.b.length ≤ 1048576 := fun x hx => links_mem hs (by rw [← h2]; exact List.mem_map_of_mem hx)
    have hlk : ∀ x, x ∈ linksOf S.B S.V S.M → x.b.length ≤ 1048576 := fun x hx => links_mem hs hx
    have hll : (linksOf S.B S.V S.M).length ≤ 1048576 := by have := congrArg List.length (links_b S.B S.V S.M); rw [List.length_map] at this; rw [this]; exact hs.b
    refine (drop_any L X k base gb m ag cg w hlb hm ha hog h1 h3 h3r hB).mono ?_
    rintro e w' ⟨rfl, hb, hcn⟩
    have hE : dropK (filL m k) (L.map fun x => filL m x.2) = dropL ((linksOf S.B S.V S.M).map (filL m)) := by
      rw [← h2]; simp [dropL, List.map_map, Function.comp_def]
    refine ⟨rfl, hb, _, hcn, ⟨dropK_ne _ _, ?_, fun z hz => ?_⟩, hE⟩
    · have h4 := dropK_len (filL m k) (L.map fun x => filL m x.2)
      have h5 := congrArg List.length h2
      simp at h4 h5
      omega
    · obtain ⟨z', h4, h5⟩ := dropK_b _ _ z hz
      rw [h5]
      rcases List.mem_cons.1 h4 with e | e
      · rw [e]; exact Nat.le_trans (outS_len _ _) (hlb (X, k) List.mem_cons_self)
      · obtain ⟨x, hx, e⟩ := List.mem_map.1 e
        rw [← e]
        exact Nat.le_trans (outS_len _ _) (hlb x (List.mem_cons_of_mem _ hx))
end Go.Proofs.YtodjmpocpfkpaaaGreat
namespace Go.Proofs.YtodjmpocpfkpaaaGreat
open Go.RowKit

/-- What a move answers. -/
def MvR (n l v u c : Int) (S F Z : SG) : Prop := (OkS n l S.B S.V S.M ∧ MvP n l v u c → Z = F) ∧ (¬ (OkS n l S.B S.V S.M ∧ MvP n l v u c) → Z = noS)
theorem MvR.one {n l v u c : Int} {S F Z Z' : SG} (h : MvR n l v u c S F Z) (h' : MvR n l v u c S F Z') : Z = Z' := by
  by_cases e : OkS n l S.B S.V S.M ∧ MvP n l v u c
  · rw [h.1 e, h'.1 e]
  · rw [h.2 e, h'.2 e]
set_option maxRecDepth 100000 in
set_option maxHeartbeats 3200000 in
theorem moved_any (n lv v u c : Int) (S : SG) (A : SAd) (F : SG) (w : World) (hs : Small S) (hl : SegAt w A S)
    (H : OkS n lv S.B S.V S.M → MvP n lv v u c → ∀ (X base : Nat) (z : World), base ≤ z.heap.size → ChN z base X (linksOf S.B S.V S.M) → Calls Tryz.prog 47 #[.pointer (some ⟨X, 0, none⟩), .agg #[.int .i64 n, .int .i64 v, .int .i64 u, .int .i64 c]] z fun e z' => e = .returned (.tuple #[]) ∧ Below base z z' ∧ ∃ ks, Chain z' X ks ∧ FitK ks ∧ segL ks = F) :
    Calls Tryz.prog 25 #[.int .i64 lv, .agg #[.slice A.a0 S.B.length A.c0, .slice A.a1 S.V.length A.c1, .slice A.a2 S.M.length A.c2], .int .i64 1, .agg #[.int .i64 n, .int .i64 v, .int .i64 u, .int .i64 c]] w fun e w' => ∃ Z, MvR n lv v u c S F Z ∧ GivesS w w' e Z := by
  have HH := mkHid H
  have HSM := mkHid hs
  obtain ⟨w0, hw0⟩ : ∃ x : World, ((w.alloc (.cells #[.slice A.a0 S.B.length A.c0, .slice A.a1 S.V.length A.c1, .slice A.a2 S.M.length A.c2] 31)).alloc (.cells #[.int .i64 n, .int .i64 v, .int .i64 u, .int .i64 c] 51)).alloc (.cells #[.slice none 0 0, .slice none 0 0, .slice none 0 0] 31) = x := ⟨_, rfl⟩
  obtain ⟨X, hX⟩ : ∃ x, w.heap.size = x := ⟨_, rfl⟩
  have HXX := mkHid hX
  have HB : Hid (Below w.heap.size w w0) := mkHid (by rw [← hw0]; exact bl_alloc (bl_alloc (bl_alloc (Below.refl _ _) _) _) _)
  have P0 : Hid (G3 w0 X (.slice A.a0 S.B.length A.c0) (.slice A.a1 S.V.length A.c1) (.slice A.a2 S.M.length A.c2)) := mkHid (by rw [← hw0, ← hX]; exact (G3.new _ _ _ _ _).below (bl_alloc (bl_alloc (Below.refl _ _) _) _))
  have R0 : Hid (G3 w0 (X + 1 + 1) (.slice none 0 0) (.slice none 0 0) (.slice none 0 0)) := mkHid (by rw [← hw0, ← hX]; have := G3.new ((w.alloc (.cells #[.slice A.a0 S.B.length A.c0, .slice A.a1 S.V.length A.c1, .slice A.a2 S.M.length A.c2] 31)).alloc (.cells #[.int .i64 n, .int .i64 v, .int .i64 u, .int .i64 c] 51)) (.slice none 0 0) (.slice none 0 0) (.slice none 0 0) 31; simpa using this)
  have C0 : Hid (w0.heap[X + 1]? = some (.cells #[.int .i64 n, .int .i64 v, .int .i64 u, .int .i64 c] 51 (0, 0))) := mkHid (by rw [← hw0, ← hX, heap_old _ _ (by simp)]; exact heap_new _ _ (by simp))
  have HZ0 : Hid (w0.heap.size = X + 3) := mkHid (by rw [← hw0, ← hX]; simp)
  have HCC : Hid (∀ z, Below w0.heap.size w0 z → z.cell? ⟨X + 1, 0, none⟩ = some (.int .i64 n) ∧ z.cell? ⟨X + 1, 1, none⟩ = some (.int .i64 v) ∧ z.cell? ⟨X + 1, 2, none⟩ = some (.int .i64 u) ∧ z.cell? ⟨X + 1, 3, none⟩ = some (.int .i64 c)) := mkHid fun z hz => by
    have e := (hz.block (X + 1) (heap_lt C0.out)).trans C0.out
    exact ⟨heap_cell e 0, heap_cell e 1, heap_cell e 2, heap_cell e 3⟩
  have HL := mkHid (hl.below HB.out)
  clear hl hs H C0
  have HSH : Hid (∀ z, Below w.heap.size w z → GivesS w (put3 z (X + 1 + 1) (.slice none 0 0) (.slice none 0 0) (.slice none 0 0)) (.returned (.agg #[.slice none 0 0, .slice none 0 0, .slice none 0 0])) noS) := mkHid fun z hv => gives_shut (A := noA) (S := noS) (OwnS.none z (X + 3) z.heap.size) (Nat.le_refl _) (Nat.le_refl _) hv (by rw [HXX.out]; omega)
  obtain ⟨q0, q1, q2, _, _, _⟩ := P0.out
  obtain ⟨d0, d1, d2, d3⟩ := HCC.out _ (Below.refl _ _)
  go_enter Tryz.func25, Tryz.ntmps25
  go_wp2_with fail
  clear hw0 hX q0 q1 q2 d0 d1 d2 d3
  refine (iSegOk_any n lv S A _ HSM.out HL.out).mono ?_
  rintro e w1 ⟨hb, r, rfl, hr⟩
  have HR := mkHid hr
  have HBE := mkHid hb
  clear hb hr
  cases hrb : r
  · have HNO : Hid (MvR n lv v u c S F noS) := mkHid ⟨fun h => (by have := HR.out.2 h.1; rw [hrb] at this; cases this), fun _ => rfl⟩
    subst hrb
    have HF := mkHid (HSH.out _ (below_step HB.out HBE.out))
    obtain ⟨r0, r1, r2, t0, t1, t2⟩ := R0.out.below HBE.out
    go_wp2
    refine bodyPost_ret (v := .agg #[.slice none 0 0, .slice none 0 0, .slice none 0 0]) (by simp [results, Tryz.results25, go_sem, *]) rfl ⟨noS, HNO.out, HF.out⟩
  have HOK := mkHid (HR.out.1 hrb)
  subst hrb
  clear HR
  obtain ⟨d0, d1, d2, d3⟩ := HCC.out _ HBE.out
  go_wp2_with fail
  clear d0 d1 d2 d3
  refine (isOk_any n lv v u c _ HOK.out.len.1).mono ?_
  rintro e w2 ⟨hb, r, rfl, hr⟩
  have HR := mkHid hr
  have HB2 := mkHid (below_step HBE.out hb)
  clear hb hr HBE
  cases hrb : r
  · have HNO : Hid (MvR n lv v u c S F noS) := mkHid ⟨fun h => (by have := HR.out.2 h.2; rw [hrb] at this; cases this), fun _ => rfl⟩
    subst hrb
    have HF := mkHid (HSH.out _ (below_step HB.out HB2.out))
    obtain ⟨r0, r1, r2, t0, t1, t2⟩ := R0.out.below HB2.out
    go_wp2
    refine bodyPost_ret (v := .agg #[.slice none 0 0, .slice none 0 0, .slice none 0 0]) (by simp [results, Tryz.results25, go_sem, *]) rfl ⟨noS, HNO.out, HF.out⟩
  have HMP := mkHid (HR.out.1 hrb)
  subst hrb
  clear HR HSH
  obtain ⟨wm, hwm⟩ : ∃ z : World, w2.alloc (.cells #[.func (.func 46) #[] #[], .func (.func 47) #[] #[], .func (.func 48) #[] #[]] 79) = z := ⟨_, rfl⟩
  obtain ⟨Q, hQ⟩ : ∃ z, w2.heap.size = z := ⟨_, rfl⟩
  have BM : Hid (Below w2.heap.size w2 wm) := mkHid (by rw [← hwm]; exact bl_alloc (Below.refl _ _) _)
  have CM : Hid (wm.cell? ⟨Q, 1, none⟩ = some (.func (.func 47) #[] #[])) := mkHid (by rw [← hwm, ← hQ]; simp [go_sem])
  have HBM := mkHid (below_step HB2.out BM.out)
  obtain ⟨q0, q1, q2, _, _, _⟩ := P0.out.below HBM.out
  go_wp2_with fail
  clear hwm hQ q0 q1 q2
  refine (rowOf_own S A _ HSM.out HOK.out.k1 HOK.out.v HOK.out.m (fun b hb => (HOK.out.rows b hb).asc) (HL.out.below HBM.out)).mono ?_
  rintro e w3 ⟨hb, Z, rfl, hch⟩
  have HB3 := mkHid (below_step HBM.out hb)
  have c0 := ((bcell hb).1 Q 1 (World.block_lt_of_cell? wm _ CM.out)).trans CM.out
  have HCQ : Hid (Q < wm.heap.size) := mkHid (World.block_lt_of_cell? wm _ CM.out)
  have HCH := mkHid hch
  have HS3 := mkHid hb.size
  have HZM : Hid (X + 3 ≤ wm.heap.size) := mkHid (by have := HBM.out.size; have := HZ0.out; omega)
  obtain ⟨d0, d1, d2, d3⟩ := HCC.out _ HB3.out
  clear hb hch CM BM HBM HB2
  have hlq := HCQ.out
  have hlx : X + 1 < wm.heap.size := by have := HZM.out; omega
  go_wp2_with fail
  go_region_held3 (fun z => z.cell? ⟨Q, 1, none⟩ = some (.func (.func 47) #[] #[]) ∧ z.cell? ⟨X + 1, 0, none⟩ = some (.int .i64 n) ∧ z.cell? ⟨X + 1, 1, none⟩ = some (.int .i64 v) ∧ z.cell? ⟨X + 1, 2, none⟩ = some (.int .i64 u) ∧ z.cell? ⟨X + 1, 3, none⟩ = some (.int .i64 c)) (first | exact ⟨c0, d0, d1, d2, d3⟩ | exact ⟨(hc _ _ hlq).trans c0, (hc _ _ hlx).trans d0, (hc _ _ hlx).trans d1, (hc _ _ hlx).trans d2, (hc _ _ hlx).trans d3⟩)
    (first | (go_at_call 47; refine (HH.out HOK.out HMP.out Z wm.heap.size w3.drew HS3.out (HCH.out.below (Below.refl _ _).drew)).mono ?_; rintro e w4 ⟨rfl, hb1, ks, hcn, hfit, hks⟩; have hc : ∀ (q i : Nat), q < wm.heap.size → w4.cell? ⟨q, i, none⟩ = w3.cell? ⟨q, i, none⟩ := fun q i h => hb1.cell (p := ⟨q, i, none⟩) h))
  have HB4 : Hid (Below wm.heap.size w3 w4) := mkHid ((Below.refl _ _).drew.trans hb1)
  have HCN := mkHid hcn
  have HFT := mkHid hfit
  have HKS := mkHid hks
  have HBW : Hid (Below w.heap.size w w4) := mkHid ((below_step HB.out HB3.out).trans (HB4.out.mono (by rw [HXX.out]; have := HZM.out; omega)))
  have R4 := mkHid ((R0.out.below HB3.out).belowAt HB4.out (by have := HZM.out; omega))
  have HS4 : Hid (X + 3 ≤ w4.heap.size) := mkHid (by have := HB4.out.size; have := HS3.out; have := HZM.out; omega)
  clear hb1 hcn hfit hks hc c0 d0 d1 d2 d3 hlq hlx HB3 HCH
  cases ks with
  | nil => exact absurd rfl HFT.out.ne
  | cons k9 r9 =>
    go_wp2_with fail
    refine (seg_any k9 r9 Z _ HFT.out.len HFT.out.row HCN.out).mono ?_
    rw [HKS.out]
    rintro e w7 ⟨A', rfl, hO, hb⟩
    have HF := mkHid (gives_shut (Yb := X + 1 + 1) hO HS4.out (Nat.le_refl _) (below_step HBW.out hb) (by rw [HXX.out]; omega))
    obtain ⟨r0, r1, r2, t0, t1, t2⟩ := R4.out.below hb
    have HZ : Hid (MvR n lv v u c S F F) := mkHid ⟨fun _ => rfl, fun h => absurd ⟨HOK.out, HMP.out⟩ h⟩
    clear hO hb
    go_wp2
    refine bodyPost_ret (v := .agg #[.slice A'.a0 F.B.length A'.c0, .slice A'.a1 F.V.length A'.c1, .slice A'.a2 F.M.length A'.c2]) (by simp [results, Tryz.results25, go_sem, *]) rfl ⟨F, HZ.out, HF.out⟩
end Go.Proofs.YtodjmpocpfkpaaaGreat
