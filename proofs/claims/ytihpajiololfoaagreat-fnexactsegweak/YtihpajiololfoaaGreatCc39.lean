/-
  CONTRACTS of site.weak and of the specification's l13Weak.
-/
import Derived.Test.YtihpajiololfoaaGreatCc38
import Derived.Test.YtihpajiololfoaaGreatCc12
namespace Go.Proofs.YtihpajiololfoaaGreat
open Go.RowKit

theorem ownS_putV {w : World} {lo hi : Nat} {A : SAd} {S : SG} (h : OwnS w lo hi A S) {q : Nat} {x : VV} (hx : S.V[q]? = some x) :
  ∃ gv, A.a1 = some ⟨gv, 0, none⟩ ∧ lo ≤ gv ∧ gv < hi ∧ w.cell? ⟨gv, q * 3, none⟩ = some (.int .i64 x.1) ∧ w.cell? ⟨gv, q * 3 + 1, none⟩ = some (.int .i64 x.2.1) ∧ (∀ j, w.frozen? ⟨gv, j, none⟩ = false) ∧
   ∀ p r : Int, OwnS ((w.setCell ⟨gv, q * 3, none⟩ (.int .i64 p)).setCell ⟨gv, q * 3 + 1, none⟩ (.int .i64 r)) lo hi A ⟨S.B, S.V.set q (p, r, x.2.2), S.M⟩ := by
 have hq : q < S.V.length := (List.getElem?_eq_some_iff.1 hx).1
 obtain ⟨b, o, hab, _, hg⟩ := h.v.at.cons (by omega)
 obtain ⟨c0, c1, _⟩ := get_v hg hx
 have hv := h.v
 obtain ⟨gv, hgv⟩ : ∃ gv, A.a1 = some ⟨gv, 0, none⟩ := by
  rcases hv.2 with ⟨h', h2⟩ | ⟨g, cap, cur, h', _⟩
  ·omega
  ·simp only [Value.slice.injEq] at h'; exact ⟨g, h'.1⟩
 rw [hgv] at hab hv
 cases hab
 have hb := h.v.lt (q := b) (by rw [hgv]; rfl)
 have ht := h.vt b (by rw [hgv]; rfl)
 refine ⟨b, hgv, hb.1, ht, by simpa using c0, by simpa using c1, fun j => World.ownsRow.frozenAt hv j, fun p r => ?_⟩
 obtain ⟨s1, g1⟩ := World.ownsRow.stored hv (q * 3) (.int .i64 p)
 obtain ⟨s2, g2⟩ := World.ownsRow.stored s1 (q * 3 + 1) (.int .i64 r)
 rw [flat_set2 hx] at s2
 obtain ⟨cur, hcur⟩ := h.v.block (q := b) (by rw [hgv]; rfl)
 have k : Keeps 55 w ((w.setCell ⟨b, q * 3, none⟩ (.int .i64 p)).setCell ⟨b, q * 3 + 1, none⟩ (.int .i64 r)) := Keeps.grown (grown_trans g1 g2) (fun q' e => by cases e; exact ⟨cur, (0, 0), hcur⟩)
 refine ⟨h.b.keeps k (by decide) (by decide), ?_, ?_, ?_, h.mt⟩
 ·show World.ownsRow _ lo 55 3 (.slice A.a1 (S.V.set q (p, r, x.2.2)).length A.c1) (S.V.set q (p, r, x.2.2)).length _
  rw [List.length_set, hgv]
  exact s2
 ·show ∀ q', Value.ownBlock (.slice A.a1 (S.V.set q (p, r, x.2.2)).length A.c1) = some q' → q' < hi
  rw [List.length_set]
  exact h.vt
 ·exact owns_keeps h.m k (by decide)
theorem links_n {B : List (List Y)} {k0 : Lk} {r0 : List Lk} (h : (k0 :: r0).map Lk.b = B) (hk : B.length ≤ 1048576) : (k0 :: r0).length ≤ 1048576 := by rw [← h, List.length_map] at hk; exact hk
theorem links_r {S : SG} {k0 : Lk} {r0 : List Lk} (h : (k0 :: r0).map Lk.b = S.B) (hs : Small S) : ∀ k, k ∈ k0 :: r0 → k.b.length ≤ 1048576 := fun k hk => by
 have : k.b ∈ S.B := by rw [← h]; exact List.mem_map_of_mem hk
 obtain ⟨i, hi⟩ := List.mem_iff_getElem?.1 this
 exact hs.row i _ hi
set_option maxRecDepth 100000 in
set_option maxHeartbeats 12800000 in
theorem iWeak_any (z lv : Int) (A : SAd) (S : SG) (n : Nat) (f : Q.Tab) (h2 : n ≤ 13) (hbd : Q.Bd n f 10000000) (x y : Y) (hx : Wd n x) (hy : Wd n y) (ra rb : Int) (w : World) (hs : Small S) (hok : OkS z lv S.B S.V S.M) (hW : Wds n S.B) (hS : SegAt w A S) :
  Calls Tryz.prog 69 #[.agg (sA z lv A S n (Q.grid n f)), .agg #[.int .i64 x.1, .int .i64 x.2], .agg #[.int .i64 y.1, .int .i64 y.2], .agg #[.int .i64 ra, .int .i64 rb]] w fun e w' => GivesS w w' e (weakSG f S x y ra rb) := by
 have hkm := hs.b
 have hvv := hok.v
 have hmm := hok.m
 have hk1 := hok.k1
 have hsp := span_ok (f := f) x y hk1
 obtain ⟨G, hG⟩ : ∃ G, Q.grid n f = G := ⟨_, rfl⟩
 have hGL : G.length = 169 := by rw [← hG]; exact Q.grid_len n f
 have HSP : Hid (∀ v, SegAt v A S → Calls Tryz.prog 59 #[.agg (sA z lv A S n G), .agg #[.int .i64 x.1, .int .i64 x.2], .agg #[.int .i64 y.1, .int .i64 y.2]] v fun e w' => e = .returned (.tuple #[.int .i64 (span f S.B x y).1, .int .i64 (span f S.B x y).2]) ∧ Below v.heap.size v w') := mkHid fun v q => by rw [← hG]; exact iSpan_any z lv A S n f h2 hbd x y hx hy v hs hk1 hW q
 have HRO : Hid (∀ v, SegAt v A S → Calls Tryz.prog 42 #[.agg #[.slice A.a0 S.B.length A.c0, .slice A.a1 S.V.length A.c1, .slice A.a2 S.M.length A.c2]] v fun e w' => Below v.heap.size v w' ∧ ∃ X, e = .returned (.pointer (some ⟨X, 0, none⟩)) ∧ Chain w' X (linksOf S.B S.V S.M)) := mkHid fun v q => rowOf_any S A v hs hk1 hvv hmm (fun b hb => (hok.rows b hb).asc) q
 have HSG : Hid (∀ X v, Chain v X (linksOf S.B S.V S.M) → Calls Tryz.prog 45 #[.pointer (some ⟨X, 0, none⟩)] v fun e w' => GivesS v w' e S) := mkHid fun X v q => by
  have hlb := links_b S.B S.V S.M
  have hsl := segL_links S.B S.V S.M hk1 hvv hmm
  cases hK : linksOf S.B S.V S.M with
  | nil => rw [hK] at hlb; rw [← hlb] at hk1; simp at hk1
  | cons k0 r0 =>
   rw [hK] at q hlb hsl
   have h9 := seg_any k0 r0 X v (links_n hlb hkm) (links_r hlb hs) q
   rw [hsl] at h9
   exact h9
 rw [hG]
 obtain ⟨w0, hw0⟩ : ∃ q, (((((w.alloc (.cells (sA z lv A S n G) 82)).alloc (.cells #[.int .i64 x.1, .int .i64 x.2] 49)).alloc (.cells #[.int .i64 y.1, .int .i64 y.2] 49)).alloc (.cells #[.int .i64 ra, .int .i64 rb] 53)).alloc (.cells #[.slice none 0 0, .slice none 0 0, .slice none 0 0] 35)) = q := ⟨_, rfl⟩
 obtain ⟨X, hX⟩ : ∃ q, w.heap.size = q := ⟨_, rfl⟩
 have B0 : Hid (Below w.heap.size w w0) := mkHid (by rw [← hw0]; exact (bl_alloc (bl_alloc (bl_alloc (bl_alloc (bl_alloc (Below.refl _ _) _) _) _) _) _))
 have D0 : Hid (St w0 X z lv A S n G) := mkHid (by rw [← hw0, ← hX]; exact (St.new w z lv A S n hGL 82).below (bl_alloc (bl_alloc (bl_alloc (bl_alloc (Below.refl _ _) _) _) _) _))
 have PX : Hid (Box w0 (X + 1) x.1 x.2) := mkHid (by rw [← hw0, ← hX]; have := (Box.new' (w.alloc (.cells (sA z lv A S n G) 82)) x.1 x.2 49).below (bl_alloc (bl_alloc (bl_alloc (Below.refl _ _) (.cells #[.int .i64 y.1, .int .i64 y.2] 49)) (.cells #[.int .i64 ra, .int .i64 rb] 53)) (.cells #[.slice none 0 0, .slice none 0 0, .slice none 0 0] 35)); simpa using this)
 have PY : Hid (Box w0 (X + 2) y.1 y.2) := mkHid (by rw [← hw0, ← hX]; have := (Box.new' ((w.alloc (.cells (sA z lv A S n G) 82)).alloc (.cells #[.int .i64 x.1, .int .i64 x.2] 49)) y.1 y.2 49).below (bl_alloc (bl_alloc (Below.refl _ _) (.cells #[.int .i64 ra, .int .i64 rb] 53)) (.cells #[.slice none 0 0, .slice none 0 0, .slice none 0 0] 35)); simpa using this)
 have PR : Hid (Box w0 (X + 3) ra rb) := mkHid (by rw [← hw0, ← hX]; have := (Box.new' (((w.alloc (.cells (sA z lv A S n G) 82)).alloc (.cells #[.int .i64 x.1, .int .i64 x.2] 49)).alloc (.cells #[.int .i64 y.1, .int .i64 y.2] 49)) ra rb 53).below (bl_alloc (Below.refl _ _) (.cells #[.slice none 0 0, .slice none 0 0, .slice none 0 0] 35)); simpa using this)
 have Z0 : Hid (G3 w0 (X + 4) (.slice none 0 0) (.slice none 0 0) (.slice none 0 0)) := mkHid (by rw [← hw0, ← hX]; have := G3.new ((((w.alloc (.cells (sA z lv A S n G) 82)).alloc (.cells #[.int .i64 x.1, .int .i64 x.2] 49)).alloc (.cells #[.int .i64 y.1, .int .i64 y.2] 49)).alloc (.cells #[.int .i64 ra, .int .i64 rb] 53)) (.slice none 0 0) (.slice none 0 0) (.slice none 0 0) 35; simpa using this)
 have HS := mkHid (hS.below B0.out)
 have hXB : Hid (w.heap.size ≤ X + 4) := mkHid (by omega)
 have hXL : X + 4 < w0.heap.size := Z0.out.lt
 obtain ⟨⟨fr, to'⟩, hspn⟩ : ∃ r, span f S.B x y = r := ⟨_, rfl⟩
 rw [hspn] at HSP hsp
 have hwS : weakSG f S x y ra rb = ⟨S.B, wkV ra rb S.V fr (to' - fr), S.M⟩ := by unfold weakSG; rw [hspn]
 rw [hwS]
 have hft : fr ≤ to' := hsp.1
 have hto : to' ≤ S.V.length := by have := hsp.2; simp only at this; omega
 clear hS hspn hwS hsp hbd hx hy hW hok hG
 go_enter Tryz.func69, Tryz.ntmps69
 have c2 := D0.out.c2
 have c3 := D0.out.c3
 have c4 := D0.out.c4
 go_wp2_with fail
 first | rw [hw0] | skip
 refine (HRO.out _ HS.out).mono ?_
 rintro e w1 ⟨hb, C, rfl, hch⟩
 have HCH := mkHid hch
 have B1 := mkHid hb
 clear hb hch c2 c3 c4
 go_wp2_with fail
 refine (HSG.out _ _ HCH.out).mono ?_
 rintro e w2 ⟨Ag, rfl, ho, hb⟩
 have BB := mkHid (below_step B1.out hb)
 have LO : Hid (w0.heap.size ≤ w1.heap.size) := mkHid B1.out.size
 have OG := mkHid ho
 clear hb ho B1 HCH
 obtain ⟨P, hP⟩ : ∃ q, w2.heap.size = q := ⟨_, rfl⟩
 obtain ⟨w3, hw3⟩ : ∃ q, w2.alloc (.cells #[.slice Ag.a0 S.B.length Ag.c0, .slice Ag.a1 S.V.length Ag.c1, .slice Ag.a2 S.M.length Ag.c2] 35) = q := ⟨_, rfl⟩
 have A3 : Below w2.heap.size w2 w3 := by rw [← hw3]; exact bl_alloc (Below.refl _ _) _
 have GP : Hid (G3 w3 P (.slice Ag.a0 S.B.length Ag.c0) (.slice Ag.a1 S.V.length Ag.c1) (.slice Ag.a2 S.M.length Ag.c2)) := mkHid (by rw [← hw3, ← hP]; exact G3.new _ _ _ _ 35)
 have BB := mkHid (below_step BB.out A3)
 have OG := mkHid (OG.out.below A3)
 rw [hP] at OG
 obtain ⟨p0, p1, _, _⟩ := PX.out.below BB.out
 obtain ⟨r0, r1, _, _⟩ := PY.out.below BB.out
 have D3 := mkHid (D0.out.below BB.out)
 clear A3
 go_wp2_with (first | (refine wp_load82 (by first | exact D3.out | (first | rw [hw3] | skip; first | rw [hX] | skip; exact D3.out)) rfl rfl rfl ?_))
 first | rw [hw3] | skip
 first | rw [hP] | skip
 refine (HSP.out _ (HS.out.below BB.out)).mono ?_
 rintro e w4 ⟨rfl, hb⟩
 have BB := mkHid (below_step BB.out hb)
 have OG := mkHid (OG.out.below hb)
 have GP := mkHid (GP.out.below hb)
 clear hb p0 p1 r0 r1 hw3 hP D3
 go_wp2
 first | rw [hX] | skip
 clear hX hw0
 go_loopg [12] (to' - fr) (fun g s12 wr => ∃ (k : Nat), k ≤ to' - fr ∧ s12 = .int .i64 (fr + k : Nat) ∧ to' - fr - k ≤ g ∧ OwnS wr w1.heap.size P Ag ⟨S.B, wkV ra rb S.V fr k, S.M⟩ ∧ G3 wr P (.slice Ag.a0 S.B.length Ag.c0) (.slice Ag.a1 S.V.length Ag.c1) (.slice Ag.a2 S.M.length Ag.c2) ∧ Below w0.heap.size w0 wr)
 case atStart => exact ⟨0, Nat.zero_le _, rfl, by omega, OG.out, GP.out, BB.out⟩
 case round =>
  obtain ⟨k, hk, rfl, hgk, ho, hg3, hbel⟩ := hrel
  have HO := mkHid ho
  have HG := mkHid hg3
  have HB1 := mkHid hbel
  clear ho hg3 hbel
  by_cases hlt : k < to' - fr
  ·obtain ⟨v, hv⟩ : ∃ x, S.V[fr + k]? = some x := ⟨_, List.getElem?_eq_getElem (by omega)⟩
   have hv2 := wkV_get ra rb S.V fr k (fr + k) (Nat.le_refl _)
   rw [hv] at hv2
   obtain ⟨gv, hgv, _⟩ := ownS_putV HO.out hv2
   have HNX := mkHid (wkV_next (ra := ra) (rb := rb) hv)
   obtain ⟨WV, hWV⟩ : ∃ q, wkV ra rb S.V fr k = q := ⟨_, rfl⟩
   have HWL : Hid (WV.length = S.V.length) := mkHid (by rw [← hWV]; exact wkV_len _ _ _ _ _)
   rw [hWV] at HO HNX hv2
   have HPV : Hid (∀ u, OwnS u w1.heap.size P Ag ⟨S.B, WV, S.M⟩ → (w1.heap.size ≤ gv ∧ gv < P) ∧ u.cell? ⟨gv, (fr + k) * 3, none⟩ = some (.int .i64 v.1) ∧ u.cell? ⟨gv, (fr + k) * 3 + 1, none⟩ = some (.int .i64 v.2.1) ∧ (∀ j, u.frozen? ⟨gv, j, none⟩ = false) ∧ ∀ p r : Int, OwnS ((u.setCell ⟨gv, (fr + k) * 3, none⟩ (.int .i64 p)).setCell ⟨gv, (fr + k) * 3 + 1, none⟩ (.int .i64 r)) w1.heap.size P Ag ⟨S.B, WV.set (fr + k) (p, r, v.2.2), S.M⟩) := mkHid (fun u hu => by obtain ⟨g', e', q1, q2, q3, q4, q5, q6⟩ := ownS_putV (S := ⟨S.B, WV, S.M⟩) hu hv2; rw [hgv] at e'; cases e'; exact ⟨⟨q1, q2⟩, q3, q4, q5, q6⟩)
   have hR9 : ∀ v', Below w0.heap.size w0 v' → Box v' (X + 3) ra rb := fun v' h => PR.out.below h
   have i0 : (0 : Int) ≤ ((fr + k : Nat) : Int) := by omega
   have i1 : ((fr + k : Nat) : Int) < (S.V.length : Int) := by omega
   have i2 : ((fr + k : Nat) : Int) < (to' : Int) := by omega
   obtain ⟨q, hqq⟩ : ∃ q, fr + k = q := ⟨_, rfl⟩
   rw [hqq] at HPV HNX i0 i1 i2
   rw [hqq]
   have HQQ := mkHid hqq
   have HGV := mkHid hgv
   clear hqq hv hv2 hgv hWV
   go_wp2_with fail
   refine wp_region_inv2 (fun zA0 L zA v9 => ∃ (zB : Nat → Bool) (zS : Nat → Value), L = #[zB 0, zB 1, zB 2, zB 3, zB 4, zB 5, zB 6, zB 7, zB 8, zB 9, zB 10, zB 11, zB 12, zB 13] ∧ zA = puts zA0 [(30, zS 30), (31, zS 31), (32, zS 32), (33, zS 33), (34, zS 34), (35, zS 35), (36, zS 36), (37, zS 37), (38, zS 38), (39, zS 39), (40, zS 40), (41, zS 41), (42, zS 42)] ∧ FF 30 [.pointer (some ⟨P, 1, none⟩), .slice (some ⟨gv, 0, none⟩) S.V.length Ag.c1, .int .i64 (q : Int), .pointer (some ⟨P, 1, none⟩), .slice (some ⟨gv, 0, none⟩) S.V.length Ag.c1, .int .i64 (q : Int), .pointer (some ⟨gv, q * 3, none⟩), .pointer (some ⟨gv, q * 3, none⟩), .agg #[.int .i64 v.1, .int .i64 v.2.1], .agg #[.int .i64 ra, .int .i64 rb], .agg #[.int .i64 (joinM v.1 v.2.1 ra rb).1, .int .i64 (joinM v.1 v.2.1 ra rb).2], .pointer (some ⟨gv, q * 3, none⟩), .pointer (some ⟨gv, q * 3, none⟩)] zB zS ∧ Below w0.heap.size w0 v9 ∧ G3 v9 P (.slice Ag.a0 S.B.length Ag.c0) (.slice Ag.a1 S.V.length Ag.c1) (.slice Ag.a2 S.M.length Ag.c2) ∧ ((zB 13) = false → OwnS v9 w1.heap.size P Ag ⟨S.B, WV, S.M⟩) ∧ ((zB 13) = true → (zB 8) = true ∧ OwnS v9 w1.heap.size P Ag ⟨S.B, WV.set q (jr ra rb v), S.M⟩) ∧ ((zB 10) = true → (zB 8) = true)) (by kernel_rfl) ?_ ?_ ?_
   ·exact ⟨fun _ => false, fun zd => [u30, u31, u32, u33, u34, u35, u36, u37, u38, u39, u40, u41, u42].getD (zd - 30) undef, rfl, by kernel_rfl, ff0, ⟨HB1.out.drew, HG.out.drew, fun _ => HO.out.below (Below.refl _ _).drew, fun e => ft e, fun e => ft e⟩⟩
   ·refine StepsI.cons rfl ?_ ?_
    ·rintro L zA v9 ⟨zB, zS, rfl, rfl, hF, hW⟩ hL hm K hK
     have hb0 : zB 0 = false := by simpa using hL
     clear hL hm
     simp only [pE]
     have HWz := mkHid hW
     clear hW
     go_simp
     have hW := HWz.out
     clear HWz
     exact hK.out _ _ ⟨ups zB [0], upv _ _ zS [0], rfl, by kernel_rfl, rk hF rfl, hW⟩
    refine StepsI.cons rfl ?_ ?_
    ·rintro L zA v9 ⟨zB, zS, rfl, rfl, hF, hW⟩ hL hm K hK
     have hb1 : zB 1 = false := by simpa using hL
     have hb0 : zB 0 = true := mt 0 hm (by kernel_rfl)
     have e0 : zS 30 = .pointer (some ⟨P, 1, none⟩) := hF 0 _ rfl hb0
     clear hL hm
     simp only [pE]
     simp only [e0]
     have k0 := hW.2.1.c1
     rw [HGV.out] at k0
     have HWz := mkHid hW
     clear hW
     go_simp
     have hW := HWz.out
     clear HWz
     exact hK.out _ _ ⟨ups zB [1], upv _ _ zS [1, 0], rfl, by kernel_rfl, rk hF rfl, hW⟩
    refine StepsI.cons rfl ?_ ?_
    ·rintro L zA v9 ⟨zB, zS, rfl, rfl, hF, hW⟩ hL hm K hK
     have hb2 : zB 2 = false := by simpa using hL
     clear hL hm
     simp only [pE]
     have HWz := mkHid hW
     clear hW
     go_simp
     have hW := HWz.out
     clear HWz
     exact hK.out _ _ ⟨ups zB [2], upv _ _ zS [2], rfl, by kernel_rfl, rk hF rfl, hW⟩
    refine StepsI.cons rfl ?_ ?_
    ·rintro L zA v9 ⟨zB, zS, rfl, rfl, hF, hW⟩ hL hm K hK
     have hb3 : zB 3 = false := by simpa using hL
     clear hL hm
     simp only [pE]
     have HWz := mkHid hW
     clear hW
     go_simp
     have hW := HWz.out
     clear HWz
     exact hK.out _ _ ⟨ups zB [3], upv _ _ zS [3], rfl, by kernel_rfl, rk hF rfl, hW⟩
    refine StepsI.cons rfl ?_ ?_
    ·rintro L zA v9 ⟨zB, zS, rfl, rfl, hF, hW⟩ hL hm K hK
     have hb4 : zB 4 = false := by simpa using hL
     have hb3 : zB 3 = true := mt 3 hm (by kernel_rfl)
     have e3 : zS 33 = .pointer (some ⟨P, 1, none⟩) := hF 3 _ rfl hb3
     clear hL hm
     simp only [pE]
     simp only [e3]
     have k0 := hW.2.1.c1
     rw [HGV.out] at k0
     have HWz := mkHid hW
     clear hW
     go_simp
     have hW := HWz.out
     clear HWz
     exact hK.out _ _ ⟨ups zB [4], upv _ _ zS [4, 3], rfl, by kernel_rfl, rk hF rfl, hW⟩
    refine StepsI.cons rfl ?_ ?_
    ·rintro L zA v9 ⟨zB, zS, rfl, rfl, hF, hW⟩ hL hm K hK
     have hb5 : zB 5 = false := by simpa using hL
     clear hL hm
     simp only [pE]
     have HWz := mkHid hW
     clear hW
     go_simp
     have hW := HWz.out
     clear HWz
     exact hK.out _ _ ⟨ups zB [5], upv _ _ zS [5], rfl, by kernel_rfl, rk hF rfl, hW⟩
    refine StepsI.cons rfl ?_ ?_
    ·rintro L zA v9 ⟨zB, zS, rfl, rfl, hF, hW⟩ hL hm K hK
     have hb6 : zB 6 = false := by simpa using hL
     have hb4 : zB 4 = true := mt 4 hm (by kernel_rfl)
     have hb5 : zB 5 = true := mt 5 hm (by kernel_rfl)
     have e4 : zS 34 = .slice (some ⟨gv, 0, none⟩) S.V.length Ag.c1 := hF 4 _ rfl hb4
     have e5 : zS 35 = .int .i64 (q : Int) := hF 5 _ rfl hb5
     clear hL hm
     simp only [pE]
     simp only [e4, e5]
     have HWz := mkHid hW
     clear hW
     go_simp
     have hW := HWz.out
     clear HWz
     exact hK.out _ _ ⟨ups zB [6], upv _ _ zS [6, 5, 4], rfl, by kernel_rfl, rk hF rfl, hW⟩
    refine StepsI.cons rfl ?_ ?_
    ·rintro L zA v9 ⟨zB, zS, rfl, rfl, hF, hW⟩ hL hm K hK
     have hb7 : zB 7 = false := by simpa using hL
     have hb6 : zB 6 = true := mt 6 hm (by kernel_rfl)
     have e6 : zS 36 = .pointer (some ⟨gv, q * 3, none⟩) := hF 6 _ rfl hb6
     clear hL hm
     simp only [pE]
     simp only [e6]
     have HWz := mkHid hW
     clear hW
     go_simp
     have hW := HWz.out
     clear HWz
     exact hK.out _ _ ⟨ups zB [7], upv _ _ zS [7, 6], rfl, by kernel_rfl, rk hF rfl, hW⟩
    refine StepsI.cons rfl ?_ ?_
    ·rintro L zA v9 ⟨zB, zS, rfl, rfl, hF, hW⟩ hL hm K hK
     have hb8 : zB 8 = false := by simpa using hL
     have hb7 : zB 7 = true := mt 7 hm (by kernel_rfl)
     have e7 : zS 37 = .pointer (some ⟨gv, q * 3, none⟩) := hF 7 _ rfl hb7
     clear hL hm
     rw [hb8] at hW
     simp only [pE]
     simp only [e7]
     have h13 : zB 13 = false := by cases e : zB 13 with | false => rfl | true => exact ft (hW.2.2.2.1 e).1
     have hpv := mkHid (HPV.out _ (hW.2.2.1 h13))
     have k0 := hpv.out.2.1
     have k1 := hpv.out.2.2.1
     have HWz := mkHid hW
     clear hW
     go_simp
     have hW := HWz.out
     clear HWz
     exact hK.out _ _ ⟨ups zB [8], upv _ _ zS [8, 7], rfl, by kernel_rfl, rk hF rfl, ⟨hW.1, hW.2.1, hW.2.2.1, fun e => ft (hW.2.2.2.1 e).1, fun _ => rfl⟩⟩
    refine StepsI.cons rfl ?_ ?_
    ·rintro L zA v9 ⟨zB, zS, rfl, rfl, hF, hW⟩ hL hm K hK
     have hb9 : zB 9 = false := by simpa using hL
     clear hL hm
     simp only [pE]
     obtain ⟨k0, k1, _, _⟩ := hR9 _ hW.1
     have HWz := mkHid hW
     clear hW
     go_simp
     have hW := HWz.out
     clear HWz
     exact hK.out _ _ ⟨ups zB [9], upv _ _ zS [9], rfl, by kernel_rfl, rk hF rfl, hW⟩
    refine StepsI.cons rfl ?_ ?_
    ·rintro L zA v9 ⟨zB, zS, rfl, rfl, hF, hW⟩ hL hm K hK
     have hb10 : zB 10 = false := by simpa using hL
     have hb8 : zB 8 = true := mt 8 hm (by kernel_rfl)
     have hb9 : zB 9 = true := mt 9 hm (by kernel_rfl)
     have e8 : zS 38 = .agg #[.int .i64 v.1, .int .i64 v.2.1] := hF 8 _ rfl hb8
     have e9 : zS 39 = .agg #[.int .i64 ra, .int .i64 rb] := hF 9 _ rfl hb9
     clear hL hm
     rw [hb10] at hW
     rw [hb8] at hW
     simp only [pE]
     simp only [e8, e9]
     have HWz := mkHid hW
     clear hW
     go_simp
     have hW := HWz.out
     clear HWz
     refine (iJoin_any v.1 v.2.1 ra rb _).mono ?_
     rintro e v92 ⟨rfl, hb⟩
     have HWz := mkHid hW
     clear hW
     go_wp2_with fail
     have hW := HWz.out
     clear HWz
     exact hK.out _ _ ⟨ups zB [8, 10], upv _ _ zS [10, 9, 8], by simp [ups, hb8], by kernel_rfl, rk hF rfl, ⟨below_step hW.1 hb, hW.2.1.below hb, fun q => (hW.2.2.1 q).below hb, fun q => ⟨rfl, (hW.2.2.2.1 q).2.below hb⟩, fun _ => rfl⟩⟩
    refine StepsI.cons rfl ?_ ?_
    ·rintro L zA v9 ⟨zB, zS, rfl, rfl, hF, hW⟩ hL hm K hK
     have hb11 : zB 11 = false := by simpa using hL
     have hb1 : zB 1 = true := mt 1 hm (by kernel_rfl)
     have hb2 : zB 2 = true := mt 2 hm (by kernel_rfl)
     have e1 : zS 31 = .slice (some ⟨gv, 0, none⟩) S.V.length Ag.c1 := hF 1 _ rfl hb1
     have e2 : zS 32 = .int .i64 (q : Int) := hF 2 _ rfl hb2
     clear hL hm
     simp only [pE]
     simp only [e1, e2]
     have HWz := mkHid hW
     clear hW
     go_simp
     have hW := HWz.out
     clear HWz
     exact hK.out _ _ ⟨ups zB [11], upv _ _ zS [11, 2, 1], rfl, by kernel_rfl, rk hF rfl, hW⟩
    refine StepsI.cons rfl ?_ ?_
    ·rintro L zA v9 ⟨zB, zS, rfl, rfl, hF, hW⟩ hL hm K hK
     have hb12 : zB 12 = false := by simpa using hL
     have hb11 : zB 11 = true := mt 11 hm (by kernel_rfl)
     have e11 : zS 41 = .pointer (some ⟨gv, q * 3, none⟩) := hF 11 _ rfl hb11
     clear hL hm
     simp only [pE]
     simp only [e11]
     have HWz := mkHid hW
     clear hW
     go_simp
     have hW := HWz.out
     clear HWz
     exact hK.out _ _ ⟨ups zB [12], upv _ _ zS [12, 11], rfl, by kernel_rfl, rk hF rfl, hW⟩
    refine StepsI.cons rfl ?_ ?_
    ·rintro L zA v9 ⟨zB, zS, rfl, rfl, hF, hW⟩ hL hm K hK
     have hb13 : zB 13 = false := by simpa using hL
     have hb10 : zB 10 = true := mt 10 hm (by kernel_rfl)
     have hb12 : zB 12 = true := mt 12 hm (by kernel_rfl)
     have e10 : zS 40 = .agg #[.int .i64 (joinM v.1 v.2.1 ra rb).1, .int .i64 (joinM v.1 v.2.1 ra rb).2] := hF 10 _ rfl hb10
     have e12 : zS 42 = .pointer (some ⟨gv, q * 3, none⟩) := hF 12 _ rfl hb12
     clear hL hm
     rw [hb13] at hW
     rw [hb10] at hW
     simp only [pE]
     simp only [e10, e12]
     have h8 := mkHid (hW.2.2.2.2 rfl)
     have hpv := mkHid (HPV.out _ (hW.2.2.1 rfl))
     have k0 := hpv.out.2.1
     have k1 := hpv.out.2.2.1
     have k2 := hpv.out.2.2.2.1 (q * 3)
     have k3 := hpv.out.2.2.2.1 (q * 3 + 1)
     have HWz := mkHid hW
     clear hW
     go_simp
     have hW := HWz.out
     clear HWz
     exact hK.out _ _ ⟨ups zB [10, 13], upv _ _ zS [12, 10], by simp [ups, hb10], by kernel_rfl, rk hF rfl, ⟨(hW.1.setCell (p := ⟨gv, q * 3, none⟩) (Nat.le_trans LO.out hpv.out.1.1) _).setCell (p := ⟨gv, q * 3 + 1, none⟩) (Nat.le_trans LO.out hpv.out.1.1) _, (hW.2.1.far (Nat.ne_of_gt hpv.out.1.2) _ _).far (Nat.ne_of_gt hpv.out.1.2) _ _, fun e => tf e, fun _ => ⟨h8.out, hpv.out.2.2.2.2 _ _⟩, fun _ => h8.out⟩⟩
    exact StepsI.nil (by kernel_rfl)
   ·rintro L zA v9 ⟨zB, zS, rfl, rfl, hF, hW⟩ hr
    have hu := all_up (by kernel_rfl) (N := 14) (by kernel_rfl) hr
    have hb0 : zB 0 = true := by simpa using hu 0 (by decide)
    have hb1 : zB 1 = true := by simpa using hu 1 (by decide)
    have hb2 : zB 2 = true := by simpa using hu 2 (by decide)
    have hb3 : zB 3 = true := by simpa using hu 3 (by decide)
    have hb4 : zB 4 = true := by simpa using hu 4 (by decide)
    have hb5 : zB 5 = true := by simpa using hu 5 (by decide)
    have hb6 : zB 6 = true := by simpa using hu 6 (by decide)
    have hb7 : zB 7 = true := by simpa using hu 7 (by decide)
    have hb8 : zB 8 = true := by simpa using hu 8 (by decide)
    have hb9 : zB 9 = true := by simpa using hu 9 (by decide)
    have hb10 : zB 10 = true := by simpa using hu 10 (by decide)
    have hb11 : zB 11 = true := by simpa using hu 11 (by decide)
    have hb12 : zB 12 = true := by simpa using hu 12 (by decide)
    have hb13 : zB 13 = true := by simpa using hu 13 (by decide)
    have e0 : zS 30 = .pointer (some ⟨P, 1, none⟩) := hF 0 _ rfl hb0
    have e1 : zS 31 = .slice (some ⟨gv, 0, none⟩) S.V.length Ag.c1 := hF 1 _ rfl hb1
    have e2 : zS 32 = .int .i64 (q : Int) := hF 2 _ rfl hb2
    have e3 : zS 33 = .pointer (some ⟨P, 1, none⟩) := hF 3 _ rfl hb3
    have e4 : zS 34 = .slice (some ⟨gv, 0, none⟩) S.V.length Ag.c1 := hF 4 _ rfl hb4
    have e5 : zS 35 = .int .i64 (q : Int) := hF 5 _ rfl hb5
    have e6 : zS 36 = .pointer (some ⟨gv, q * 3, none⟩) := hF 6 _ rfl hb6
    have e7 : zS 37 = .pointer (some ⟨gv, q * 3, none⟩) := hF 7 _ rfl hb7
    have e8 : zS 38 = .agg #[.int .i64 v.1, .int .i64 v.2.1] := hF 8 _ rfl hb8
    have e9 : zS 39 = .agg #[.int .i64 ra, .int .i64 rb] := hF 9 _ rfl hb9
    have e10 : zS 40 = .agg #[.int .i64 (joinM v.1 v.2.1 ra rb).1, .int .i64 (joinM v.1 v.2.1 ra rb).2] := hF 10 _ rfl hb10
    have e11 : zS 41 = .pointer (some ⟨gv, q * 3, none⟩) := hF 11 _ rfl hb11
    have e12 : zS 42 = .pointer (some ⟨gv, q * 3, none⟩) := hF 12 _ rfl hb12
    rw [hb8] at hW
    rw [hb10] at hW
    rw [hb13] at hW
    clear hu hr hF
    simp only [pE]
    simp only [e0, e1, e2, e3, e4, e5, e6, e7, e8, e9, e10, e11, e12]
    clear e0 e1 e2 e3 e4 e5 e6 e7 e8 e9 e10 e11 e12
    clear hb0 hb1 hb2 hb3 hb4 hb5 hb6 hb7 hb8 hb9 hb10 hb11 hb12 hb13
    clear zB zS
    have HO2 := mkHid (hW.2.2.2.1 (by first | rfl | trivial)).2
    have HG2 := mkHid hW.2.1
    have HB2 := mkHid hW.1
    clear hW hR9
    go_wp2
    go_roundg (to' - fr - (k + 1))
    case measure => omega
    case rel => exact ⟨k + 1, by omega, (by rw [← HQQ.out]; go_num), by omega, by rw [HNX.out]; exact HO2.out, HG2.out, HB2.out⟩
  ·have e : k = to' - fr := by omega
   subst e
   have i2 : ¬ (((fr + (to' - fr) : Nat) : Int) < (to' : Int)) := by omega
   obtain ⟨q, hqq⟩ : ∃ q, fr + (to' - fr) = q := ⟨_, rfl⟩
   rw [hqq] at i2
   rw [hqq]
   obtain ⟨WV, hWV⟩ : ∃ q, wkV ra rb S.V fr (to' - fr) = q := ⟨_, rfl⟩
   have hWL : WV.length = S.V.length := by rw [← hWV]; exact wkV_len _ _ _ _ _
   rw [hWV] at HO
   have HWV := mkHid hWV
   obtain ⟨k0, k1, k2, k3, k4, k5⟩ := HG.out
   obtain ⟨z0, z1, z2, z3, z4, z5⟩ := Z0.out.below HB1.out
   have hPH : P ≤ wr.heap.size := Nat.le_of_lt HG.out.lt
   have HGV := mkHid (gives_shut HO.out (Yb := X + 4) (by have := LO.out; omega) hPH (below_step B0.out HB1.out) hXB.out)
   simp only [hWL] at HGV
   have HWL := mkHid hWL
   clear hWV hqq hlt hWL
   go_wp2
   rw [HWV.out]
   exact bodyPost_ret (v := .agg #[.slice Ag.a0 S.B.length Ag.c0, .slice Ag.a1 S.V.length Ag.c1, .slice Ag.a2 S.M.length Ag.c2]) (by simp [results, Tryz.results69, go_sem, *]) rfl HGV.out
set_option maxRecDepth 100000 in
set_option maxHeartbeats 12800000 in
theorem l13Weak_any (z lv : Int) (A : SAd) (S : SG) (n : Nat) (f : Q.Tab) (h2 : n ≤ 13) (hbd : Q.Bd n f 10000000) (a : Option Addr) (c0 : Nat) (x y : Y) (hx : Wd n x) (hy : Wd n y) (ra rb : Int) (w : World) (hs : Small S) (hok : OkS z lv S.B S.V S.M) (hW : Wds n S.B) (hl : Q.IntsAt w a (Q.mk n f)) (hS : SegAt w A S) :
  Calls Tryz.prog 73 #[.agg #[.slice A.a0 S.B.length A.c0, .slice A.a1 S.V.length A.c1, .slice A.a2 S.M.length A.c2], .agg #[.int .i64 n, .slice a (Q.mk n f).length c0], .agg #[.int .i64 x.1, .int .i64 x.2], .agg #[.int .i64 y.1, .int .i64 y.2], .agg #[.int .i64 ra, .int .i64 rb]] w fun e w' => GivesS w w' e (weakSG f S x y ra rb) := by
 have hkm := hs.b
 have hvv := hok.v
 have hmm := hok.m
 have hk1 := hok.k1
 have hsp := span_ok (f := f) x y hk1
 obtain ⟨l, hll⟩ : ∃ l, Q.mk n f = l := ⟨_, rfl⟩
 have HSP : Hid (∀ v, Q.IntsAt v a l → SegAt v A S → Calls Tryz.prog 58 #[.agg #[.slice A.a0 S.B.length A.c0, .slice A.a1 S.V.length A.c1, .slice A.a2 S.M.length A.c2], .agg #[.int .i64 n, .slice a l.length c0], .agg #[.int .i64 x.1, .int .i64 x.2], .agg #[.int .i64 y.1, .int .i64 y.2]] v fun e w' => e = .returned (.tuple #[.int .i64 (span f S.B x y).1, .int .i64 (span f S.B x y).2]) ∧ Below v.heap.size v w') := mkHid fun v q1 q => by rw [← hll] at q1 ⊢; exact l13Span_any n f h2 hbd a c0 S A x y hx hy v hs hk1 hW q1 q
 have HTD : Hid (∀ v, SegAt v A S → Calls Tryz.prog 110 #[.agg #[.slice A.a0 S.B.length A.c0, .slice A.a1 S.V.length A.c1, .slice A.a2 S.M.length A.c2]] v fun e w' => GivesS v w' e S) := mkHid fun v q => by
  have h9 := tidy_any S A v hs hk1 hvv hmm (fun e => by have := (hok.rows [] (List.mem_of_getElem? e)).ne; exact this rfl) q
  rw [tidyS_same hok] at h9
  exact h9
 rw [hll] at hl
 rw [hll]
 obtain ⟨w0, hw0⟩ : ∃ q, ((((((w.alloc (.cells #[.slice A.a0 S.B.length A.c0, .slice A.a1 S.V.length A.c1, .slice A.a2 S.M.length A.c2] 35)).alloc (.cells #[.int .i64 n, .slice a l.length c0] 38)).alloc (.cells #[.int .i64 x.1, .int .i64 x.2] 49)).alloc (.cells #[.int .i64 y.1, .int .i64 y.2] 49)).alloc (.cells #[.int .i64 ra, .int .i64 rb] 53)).alloc (.cells #[.slice none 0 0, .slice none 0 0, .slice none 0 0] 35)) = q := ⟨_, rfl⟩
 obtain ⟨X, hX⟩ : ∃ q, w.heap.size = q := ⟨_, rfl⟩
 have B0 : Hid (Below w.heap.size w w0) := mkHid (by rw [← hw0]; exact (bl_alloc (bl_alloc (bl_alloc (bl_alloc (bl_alloc (bl_alloc (Below.refl _ _) _) _) _) _) _) _))
 have G0 : Hid (G3 w0 X (.slice A.a0 S.B.length A.c0) (.slice A.a1 S.V.length A.c1) (.slice A.a2 S.M.length A.c2)) := mkHid (by rw [← hw0, ← hX]; exact (G3.new w _ _ _ 35).below (bl_alloc (bl_alloc (bl_alloc (bl_alloc (bl_alloc (Below.refl _ _) _) _) _) _) _))
 have T0 : Hid (Q.Fc w0 (X + 1) n a l.length c0) := mkHid (by rw [← hw0, ← hX]; have := (Q.Fc.new (w.alloc (.cells #[.slice A.a0 S.B.length A.c0, .slice A.a1 S.V.length A.c1, .slice A.a2 S.M.length A.c2] 35)) n a l.length c0 38).below (bl_alloc (bl_alloc (bl_alloc (bl_alloc (Below.refl _ _) (.cells #[.int .i64 x.1, .int .i64 x.2] 49)) (.cells #[.int .i64 y.1, .int .i64 y.2] 49)) (.cells #[.int .i64 ra, .int .i64 rb] 53)) (.cells #[.slice none 0 0, .slice none 0 0, .slice none 0 0] 35)); simpa using this)
 have PX : Hid (Box w0 (X + 2) x.1 x.2) := mkHid (by rw [← hw0, ← hX]; have := (Box.new' ((w.alloc (.cells #[.slice A.a0 S.B.length A.c0, .slice A.a1 S.V.length A.c1, .slice A.a2 S.M.length A.c2] 35)).alloc (.cells #[.int .i64 n, .slice a l.length c0] 38)) x.1 x.2 49).below (bl_alloc (bl_alloc (bl_alloc (Below.refl _ _) (.cells #[.int .i64 y.1, .int .i64 y.2] 49)) (.cells #[.int .i64 ra, .int .i64 rb] 53)) (.cells #[.slice none 0 0, .slice none 0 0, .slice none 0 0] 35)); simpa using this)
 have PY : Hid (Box w0 (X + 3) y.1 y.2) := mkHid (by rw [← hw0, ← hX]; have := (Box.new' (((w.alloc (.cells #[.slice A.a0 S.B.length A.c0, .slice A.a1 S.V.length A.c1, .slice A.a2 S.M.length A.c2] 35)).alloc (.cells #[.int .i64 n, .slice a l.length c0] 38)).alloc (.cells #[.int .i64 x.1, .int .i64 x.2] 49)) y.1 y.2 49).below (bl_alloc (bl_alloc (Below.refl _ _) (.cells #[.int .i64 ra, .int .i64 rb] 53)) (.cells #[.slice none 0 0, .slice none 0 0, .slice none 0 0] 35)); simpa using this)
 have PR : Hid (Box w0 (X + 4) ra rb) := mkHid (by rw [← hw0, ← hX]; have := (Box.new' ((((w.alloc (.cells #[.slice A.a0 S.B.length A.c0, .slice A.a1 S.V.length A.c1, .slice A.a2 S.M.length A.c2] 35)).alloc (.cells #[.int .i64 n, .slice a l.length c0] 38)).alloc (.cells #[.int .i64 x.1, .int .i64 x.2] 49)).alloc (.cells #[.int .i64 y.1, .int .i64 y.2] 49)) ra rb 53).below (bl_alloc (Below.refl _ _) (.cells #[.slice none 0 0, .slice none 0 0, .slice none 0 0] 35)); simpa using this)
 have Z0 : Hid (G3 w0 (X + 5) (.slice none 0 0) (.slice none 0 0) (.slice none 0 0)) := mkHid (by rw [← hw0, ← hX]; have := G3.new (((((w.alloc (.cells #[.slice A.a0 S.B.length A.c0, .slice A.a1 S.V.length A.c1, .slice A.a2 S.M.length A.c2] 35)).alloc (.cells #[.int .i64 n, .slice a l.length c0] 38)).alloc (.cells #[.int .i64 x.1, .int .i64 x.2] 49)).alloc (.cells #[.int .i64 y.1, .int .i64 y.2] 49)).alloc (.cells #[.int .i64 ra, .int .i64 rb] 53)) (.slice none 0 0) (.slice none 0 0) (.slice none 0 0) 35; simpa using this)
 have HS := mkHid (hS.below B0.out)
 have HL := mkHid (hl.below B0.out)
 have hXB : Hid (w.heap.size ≤ X + 5) := mkHid (by omega)
 have hXL : X + 5 < w0.heap.size := Z0.out.lt
 obtain ⟨⟨fr, to'⟩, hspn⟩ : ∃ r, span f S.B x y = r := ⟨_, rfl⟩
 rw [hspn] at HSP hsp
 have hwS : weakSG f S x y ra rb = ⟨S.B, wkV ra rb S.V fr (to' - fr), S.M⟩ := by unfold weakSG; rw [hspn]
 rw [hwS]
 have hft : fr ≤ to' := hsp.1
 have hto : to' ≤ S.V.length := by have := hsp.2; simp only at this; omega
 clear hS hspn hwS hsp hbd hx hy hW hok hl hll
 go_enter Tryz.func73, Tryz.ntmps73
 obtain ⟨g0, g1, g2, _, _, _⟩ := G0.out
 go_wp2_with fail
 first | rw [hw0] | skip
 refine (HTD.out _ HS.out).mono ?_
 rintro e w2 ⟨Ag, rfl, ho, hb⟩
 have BB := mkHid hb
 have LO : Hid (w0.heap.size ≤ w0.heap.size) := mkHid (Nat.le_refl _)
 have OG := mkHid ho
 clear hb ho g0 g1 g2
 obtain ⟨P, hP⟩ : ∃ q, w2.heap.size = q := ⟨_, rfl⟩
 obtain ⟨w3, hw3⟩ : ∃ q, w2.alloc (.cells #[.slice Ag.a0 S.B.length Ag.c0, .slice Ag.a1 S.V.length Ag.c1, .slice Ag.a2 S.M.length Ag.c2] 35) = q := ⟨_, rfl⟩
 have A3 : Below w2.heap.size w2 w3 := by rw [← hw3]; exact bl_alloc (Below.refl _ _) _
 have GP : Hid (G3 w3 P (.slice Ag.a0 S.B.length Ag.c0) (.slice Ag.a1 S.V.length Ag.c1) (.slice Ag.a2 S.M.length Ag.c2)) := mkHid (by rw [← hw3, ← hP]; exact G3.new _ _ _ _ 35)
 have BB := mkHid (below_step BB.out A3)
 have OG := mkHid (OG.out.below A3)
 rw [hP] at OG
 obtain ⟨p0, p1, _, _⟩ := PX.out.below BB.out
 obtain ⟨r0, r1, _, _⟩ := PY.out.below BB.out
 obtain ⟨g0, g1, g2, _, _, _⟩ := G0.out.below BB.out
 obtain ⟨t0, t1⟩ := T0.out.below BB.out
 clear A3
 go_wp2_with fail
 first | rw [hw3] | skip
 first | rw [hP] | skip
 refine (HSP.out _ (HL.out.below BB.out) (HS.out.below BB.out)).mono ?_
 rintro e w4 ⟨rfl, hb⟩
 have BB := mkHid (below_step BB.out hb)
 have OG := mkHid (OG.out.below hb)
 have GP := mkHid (GP.out.below hb)
 clear hb p0 p1 r0 r1 hw3 hP g0 g1 g2 t0 t1
 go_wp2
 first | rw [hX] | skip
 clear hX hw0
 go_loopg [14] (to' - fr) (fun g s14 wr => ∃ (k : Nat), k ≤ to' - fr ∧ s14 = .int .i64 (fr + k : Nat) ∧ to' - fr - k ≤ g ∧ OwnS wr w0.heap.size P Ag ⟨S.B, wkV ra rb S.V fr k, S.M⟩ ∧ G3 wr P (.slice Ag.a0 S.B.length Ag.c0) (.slice Ag.a1 S.V.length Ag.c1) (.slice Ag.a2 S.M.length Ag.c2) ∧ Below w0.heap.size w0 wr)
 case atStart => exact ⟨0, Nat.zero_le _, rfl, by omega, OG.out, GP.out, BB.out⟩
 case round =>
  obtain ⟨k, hk, rfl, hgk, ho, hg3, hbel⟩ := hrel
  have HO := mkHid ho
  have HG := mkHid hg3
  have HB1 := mkHid hbel
  clear ho hg3 hbel
  by_cases hlt : k < to' - fr
  ·obtain ⟨v, hv⟩ : ∃ x, S.V[fr + k]? = some x := ⟨_, List.getElem?_eq_getElem (by omega)⟩
   have hv2 := wkV_get ra rb S.V fr k (fr + k) (Nat.le_refl _)
   rw [hv] at hv2
   obtain ⟨gv, hgv, _⟩ := ownS_putV HO.out hv2
   have HNX := mkHid (wkV_next (ra := ra) (rb := rb) hv)
   obtain ⟨WV, hWV⟩ : ∃ q, wkV ra rb S.V fr k = q := ⟨_, rfl⟩
   have HWL : Hid (WV.length = S.V.length) := mkHid (by rw [← hWV]; exact wkV_len _ _ _ _ _)
   rw [hWV] at HO HNX hv2
   have HPV : Hid (∀ u, OwnS u w0.heap.size P Ag ⟨S.B, WV, S.M⟩ → (w0.heap.size ≤ gv ∧ gv < P) ∧ u.cell? ⟨gv, (fr + k) * 3, none⟩ = some (.int .i64 v.1) ∧ u.cell? ⟨gv, (fr + k) * 3 + 1, none⟩ = some (.int .i64 v.2.1) ∧ (∀ j, u.frozen? ⟨gv, j, none⟩ = false) ∧ ∀ p r : Int, OwnS ((u.setCell ⟨gv, (fr + k) * 3, none⟩ (.int .i64 p)).setCell ⟨gv, (fr + k) * 3 + 1, none⟩ (.int .i64 r)) w0.heap.size P Ag ⟨S.B, WV.set (fr + k) (p, r, v.2.2), S.M⟩) := mkHid (fun u hu => by obtain ⟨g', e', q1, q2, q3, q4, q5, q6⟩ := ownS_putV (S := ⟨S.B, WV, S.M⟩) hu hv2; rw [hgv] at e'; cases e'; exact ⟨⟨q1, q2⟩, q3, q4, q5, q6⟩)
   have hR9 : ∀ v', Below w0.heap.size w0 v' → Box v' (X + 4) ra rb := fun v' h => PR.out.below h
   have i0 : (0 : Int) ≤ ((fr + k : Nat) : Int) := by omega
   have i1 : ((fr + k : Nat) : Int) < (S.V.length : Int) := by omega
   have i2 : ((fr + k : Nat) : Int) < (to' : Int) := by omega
   obtain ⟨q, hqq⟩ : ∃ q, fr + k = q := ⟨_, rfl⟩
   rw [hqq] at HPV HNX i0 i1 i2
   rw [hqq]
   have HQQ := mkHid hqq
   have HGV := mkHid hgv
   clear hqq hv hv2 hgv hWV
   go_wp2_with fail
   refine wp_region_inv2 (fun zA0 L zA v9 => ∃ (zB : Nat → Bool) (zS : Nat → Value), L = #[zB 0, zB 1, zB 2, zB 3, zB 4, zB 5, zB 6, zB 7, zB 8, zB 9, zB 10, zB 11, zB 12, zB 13] ∧ zA = puts zA0 [(31, zS 31), (32, zS 32), (33, zS 33), (34, zS 34), (35, zS 35), (36, zS 36), (37, zS 37), (38, zS 38), (39, zS 39), (40, zS 40), (41, zS 41), (42, zS 42), (43, zS 43)] ∧ FF 31 [.pointer (some ⟨P, 1, none⟩), .slice (some ⟨gv, 0, none⟩) S.V.length Ag.c1, .int .i64 (q : Int), .pointer (some ⟨P, 1, none⟩), .slice (some ⟨gv, 0, none⟩) S.V.length Ag.c1, .int .i64 (q : Int), .pointer (some ⟨gv, q * 3, none⟩), .pointer (some ⟨gv, q * 3, none⟩), .agg #[.int .i64 v.1, .int .i64 v.2.1], .agg #[.int .i64 ra, .int .i64 rb], .agg #[.int .i64 (joinM v.1 v.2.1 ra rb).1, .int .i64 (joinM v.1 v.2.1 ra rb).2], .pointer (some ⟨gv, q * 3, none⟩), .pointer (some ⟨gv, q * 3, none⟩)] zB zS ∧ Below w0.heap.size w0 v9 ∧ G3 v9 P (.slice Ag.a0 S.B.length Ag.c0) (.slice Ag.a1 S.V.length Ag.c1) (.slice Ag.a2 S.M.length Ag.c2) ∧ ((zB 13) = false → OwnS v9 w0.heap.size P Ag ⟨S.B, WV, S.M⟩) ∧ ((zB 13) = true → (zB 8) = true ∧ OwnS v9 w0.heap.size P Ag ⟨S.B, WV.set q (jr ra rb v), S.M⟩) ∧ ((zB 10) = true → (zB 8) = true)) (by kernel_rfl) ?_ ?_ ?_
   ·exact ⟨fun _ => false, fun zd => [u31, u32, u33, u34, u35, u36, u37, u38, u39, u40, u41, u42, u43].getD (zd - 31) undef, rfl, by kernel_rfl, ff0, ⟨HB1.out.drew, HG.out.drew, fun _ => HO.out.below (Below.refl _ _).drew, fun e => ft e, fun e => ft e⟩⟩
   ·refine StepsI.cons rfl ?_ ?_
    ·rintro L zA v9 ⟨zB, zS, rfl, rfl, hF, hW⟩ hL hm K hK
     have hb0 : zB 0 = false := by simpa using hL
     clear hL hm
     simp only [pE]
     have HWz := mkHid hW
     clear hW
     go_simp
     have hW := HWz.out
     clear HWz
     exact hK.out _ _ ⟨ups zB [0], upv _ _ zS [0], rfl, by kernel_rfl, rk hF rfl, hW⟩
    refine StepsI.cons rfl ?_ ?_
    ·rintro L zA v9 ⟨zB, zS, rfl, rfl, hF, hW⟩ hL hm K hK
     have hb1 : zB 1 = false := by simpa using hL
     have hb0 : zB 0 = true := mt 0 hm (by kernel_rfl)
     have e0 : zS 31 = .pointer (some ⟨P, 1, none⟩) := hF 0 _ rfl hb0
     clear hL hm
     simp only [pE]
     simp only [e0]
     have k0 := hW.2.1.c1
     rw [HGV.out] at k0
     have HWz := mkHid hW
     clear hW
     go_simp
     have hW := HWz.out
     clear HWz
     exact hK.out _ _ ⟨ups zB [1], upv _ _ zS [1, 0], rfl, by kernel_rfl, rk hF rfl, hW⟩
    refine StepsI.cons rfl ?_ ?_
    ·rintro L zA v9 ⟨zB, zS, rfl, rfl, hF, hW⟩ hL hm K hK
     have hb2 : zB 2 = false := by simpa using hL
     clear hL hm
     simp only [pE]
     have HWz := mkHid hW
     clear hW
     go_simp
     have hW := HWz.out
     clear HWz
     exact hK.out _ _ ⟨ups zB [2], upv _ _ zS [2], rfl, by kernel_rfl, rk hF rfl, hW⟩
    refine StepsI.cons rfl ?_ ?_
    ·rintro L zA v9 ⟨zB, zS, rfl, rfl, hF, hW⟩ hL hm K hK
     have hb3 : zB 3 = false := by simpa using hL
     clear hL hm
     simp only [pE]
     have HWz := mkHid hW
     clear hW
     go_simp
     have hW := HWz.out
     clear HWz
     exact hK.out _ _ ⟨ups zB [3], upv _ _ zS [3], rfl, by kernel_rfl, rk hF rfl, hW⟩
    refine StepsI.cons rfl ?_ ?_
    ·rintro L zA v9 ⟨zB, zS, rfl, rfl, hF, hW⟩ hL hm K hK
     have hb4 : zB 4 = false := by simpa using hL
     have hb3 : zB 3 = true := mt 3 hm (by kernel_rfl)
     have e3 : zS 34 = .pointer (some ⟨P, 1, none⟩) := hF 3 _ rfl hb3
     clear hL hm
     simp only [pE]
     simp only [e3]
     have k0 := hW.2.1.c1
     rw [HGV.out] at k0
     have HWz := mkHid hW
     clear hW
     go_simp
     have hW := HWz.out
     clear HWz
     exact hK.out _ _ ⟨ups zB [4], upv _ _ zS [4, 3], rfl, by kernel_rfl, rk hF rfl, hW⟩
    refine StepsI.cons rfl ?_ ?_
    ·rintro L zA v9 ⟨zB, zS, rfl, rfl, hF, hW⟩ hL hm K hK
     have hb5 : zB 5 = false := by simpa using hL
     clear hL hm
     simp only [pE]
     have HWz := mkHid hW
     clear hW
     go_simp
     have hW := HWz.out
     clear HWz
     exact hK.out _ _ ⟨ups zB [5], upv _ _ zS [5], rfl, by kernel_rfl, rk hF rfl, hW⟩
    refine StepsI.cons rfl ?_ ?_
    ·rintro L zA v9 ⟨zB, zS, rfl, rfl, hF, hW⟩ hL hm K hK
     have hb6 : zB 6 = false := by simpa using hL
     have hb4 : zB 4 = true := mt 4 hm (by kernel_rfl)
     have hb5 : zB 5 = true := mt 5 hm (by kernel_rfl)
     have e4 : zS 35 = .slice (some ⟨gv, 0, none⟩) S.V.length Ag.c1 := hF 4 _ rfl hb4
     have e5 : zS 36 = .int .i64 (q : Int) := hF 5 _ rfl hb5
     clear hL hm
     simp only [pE]
     simp only [e4, e5]
     have HWz := mkHid hW
     clear hW
     go_simp
     have hW := HWz.out
     clear HWz
     exact hK.out _ _ ⟨ups zB [6], upv _ _ zS [6, 5, 4], rfl, by kernel_rfl, rk hF rfl, hW⟩
    refine StepsI.cons rfl ?_ ?_
    ·rintro L zA v9 ⟨zB, zS, rfl, rfl, hF, hW⟩ hL hm K hK
     have hb7 : zB 7 = false := by simpa using hL
     have hb6 : zB 6 = true := mt 6 hm (by kernel_rfl)
     have e6 : zS 37 = .pointer (some ⟨gv, q * 3, none⟩) := hF 6 _ rfl hb6
     clear hL hm
     simp only [pE]
     simp only [e6]
     have HWz := mkHid hW
     clear hW
     go_simp
     have hW := HWz.out
     clear HWz
     exact hK.out _ _ ⟨ups zB [7], upv _ _ zS [7, 6], rfl, by kernel_rfl, rk hF rfl, hW⟩
    refine StepsI.cons rfl ?_ ?_
    ·rintro L zA v9 ⟨zB, zS, rfl, rfl, hF, hW⟩ hL hm K hK
     have hb8 : zB 8 = false := by simpa using hL
     have hb7 : zB 7 = true := mt 7 hm (by kernel_rfl)
     have e7 : zS 38 = .pointer (some ⟨gv, q * 3, none⟩) := hF 7 _ rfl hb7
     clear hL hm
     rw [hb8] at hW
     simp only [pE]
     simp only [e7]
     have h13 : zB 13 = false := by cases e : zB 13 with | false => rfl | true => exact ft (hW.2.2.2.1 e).1
     have hpv := mkHid (HPV.out _ (hW.2.2.1 h13))
     have k0 := hpv.out.2.1
     have k1 := hpv.out.2.2.1
     have HWz := mkHid hW
     clear hW
     go_simp
     have hW := HWz.out
     clear HWz
     exact hK.out _ _ ⟨ups zB [8], upv _ _ zS [8, 7], rfl, by kernel_rfl, rk hF rfl, ⟨hW.1, hW.2.1, hW.2.2.1, fun e => ft (hW.2.2.2.1 e).1, fun _ => rfl⟩⟩
    refine StepsI.cons rfl ?_ ?_
    ·rintro L zA v9 ⟨zB, zS, rfl, rfl, hF, hW⟩ hL hm K hK
     have hb9 : zB 9 = false := by simpa using hL
     clear hL hm
     simp only [pE]
     obtain ⟨k0, k1, _, _⟩ := hR9 _ hW.1
     have HWz := mkHid hW
     clear hW
     go_simp
     have hW := HWz.out
     clear HWz
     exact hK.out _ _ ⟨ups zB [9], upv _ _ zS [9], rfl, by kernel_rfl, rk hF rfl, hW⟩
    refine StepsI.cons rfl ?_ ?_
    ·rintro L zA v9 ⟨zB, zS, rfl, rfl, hF, hW⟩ hL hm K hK
     have hb10 : zB 10 = false := by simpa using hL
     have hb8 : zB 8 = true := mt 8 hm (by kernel_rfl)
     have hb9 : zB 9 = true := mt 9 hm (by kernel_rfl)
     have e8 : zS 39 = .agg #[.int .i64 v.1, .int .i64 v.2.1] := hF 8 _ rfl hb8
     have e9 : zS 40 = .agg #[.int .i64 ra, .int .i64 rb] := hF 9 _ rfl hb9
     clear hL hm
     rw [hb10] at hW
     rw [hb8] at hW
     simp only [pE]
     simp only [e8, e9]
     have HWz := mkHid hW
     clear hW
     go_simp
     have hW := HWz.out
     clear HWz
     refine (sJoin_any v.1 v.2.1 ra rb _).mono ?_
     rintro e v92 ⟨rfl, hb⟩
     have HWz := mkHid hW
     clear hW
     go_wp2_with fail
     have hW := HWz.out
     clear HWz
     exact hK.out _ _ ⟨ups zB [8, 10], upv _ _ zS [10, 9, 8], by simp [ups, hb8], by kernel_rfl, rk hF rfl, ⟨below_step hW.1 hb, hW.2.1.below hb, fun q => (hW.2.2.1 q).below hb, fun q => ⟨rfl, (hW.2.2.2.1 q).2.below hb⟩, fun _ => rfl⟩⟩
    refine StepsI.cons rfl ?_ ?_
    ·rintro L zA v9 ⟨zB, zS, rfl, rfl, hF, hW⟩ hL hm K hK
     have hb11 : zB 11 = false := by simpa using hL
     have hb1 : zB 1 = true := mt 1 hm (by kernel_rfl)
     have hb2 : zB 2 = true := mt 2 hm (by kernel_rfl)
     have e1 : zS 32 = .slice (some ⟨gv, 0, none⟩) S.V.length Ag.c1 := hF 1 _ rfl hb1
     have e2 : zS 33 = .int .i64 (q : Int) := hF 2 _ rfl hb2
     clear hL hm
     simp only [pE]
     simp only [e1, e2]
     have HWz := mkHid hW
     clear hW
     go_simp
     have hW := HWz.out
     clear HWz
     exact hK.out _ _ ⟨ups zB [11], upv _ _ zS [11, 2, 1], rfl, by kernel_rfl, rk hF rfl, hW⟩
    refine StepsI.cons rfl ?_ ?_
    ·rintro L zA v9 ⟨zB, zS, rfl, rfl, hF, hW⟩ hL hm K hK
     have hb12 : zB 12 = false := by simpa using hL
     have hb11 : zB 11 = true := mt 11 hm (by kernel_rfl)
     have e11 : zS 42 = .pointer (some ⟨gv, q * 3, none⟩) := hF 11 _ rfl hb11
     clear hL hm
     simp only [pE]
     simp only [e11]
     have HWz := mkHid hW
     clear hW
     go_simp
     have hW := HWz.out
     clear HWz
     exact hK.out _ _ ⟨ups zB [12], upv _ _ zS [12, 11], rfl, by kernel_rfl, rk hF rfl, hW⟩
    refine StepsI.cons rfl ?_ ?_
    ·rintro L zA v9 ⟨zB, zS, rfl, rfl, hF, hW⟩ hL hm K hK
     have hb13 : zB 13 = false := by simpa using hL
     have hb10 : zB 10 = true := mt 10 hm (by kernel_rfl)
     have hb12 : zB 12 = true := mt 12 hm (by kernel_rfl)
     have e10 : zS 41 = .agg #[.int .i64 (joinM v.1 v.2.1 ra rb).1, .int .i64 (joinM v.1 v.2.1 ra rb).2] := hF 10 _ rfl hb10
     have e12 : zS 43 = .pointer (some ⟨gv, q * 3, none⟩) := hF 12 _ rfl hb12
     clear hL hm
     rw [hb13] at hW
     rw [hb10] at hW
     simp only [pE]
     simp only [e10, e12]
     have h8 := mkHid (hW.2.2.2.2 rfl)
     have hpv := mkHid (HPV.out _ (hW.2.2.1 rfl))
     have k0 := hpv.out.2.1
     have k1 := hpv.out.2.2.1
     have k2 := hpv.out.2.2.2.1 (q * 3)
     have k3 := hpv.out.2.2.2.1 (q * 3 + 1)
     have HWz := mkHid hW
     clear hW
     go_simp
     have hW := HWz.out
     clear HWz
     exact hK.out _ _ ⟨ups zB [10, 13], upv _ _ zS [12, 10], by simp [ups, hb10], by kernel_rfl, rk hF rfl, ⟨(hW.1.setCell (p := ⟨gv, q * 3, none⟩) (Nat.le_trans LO.out hpv.out.1.1) _).setCell (p := ⟨gv, q * 3 + 1, none⟩) (Nat.le_trans LO.out hpv.out.1.1) _, (hW.2.1.far (Nat.ne_of_gt hpv.out.1.2) _ _).far (Nat.ne_of_gt hpv.out.1.2) _ _, fun e => tf e, fun _ => ⟨h8.out, hpv.out.2.2.2.2 _ _⟩, fun _ => h8.out⟩⟩
    exact StepsI.nil (by kernel_rfl)
   ·rintro L zA v9 ⟨zB, zS, rfl, rfl, hF, hW⟩ hr
    have hu := all_up (by kernel_rfl) (N := 14) (by kernel_rfl) hr
    have hb0 : zB 0 = true := by simpa using hu 0 (by decide)
    have hb1 : zB 1 = true := by simpa using hu 1 (by decide)
    have hb2 : zB 2 = true := by simpa using hu 2 (by decide)
    have hb3 : zB 3 = true := by simpa using hu 3 (by decide)
    have hb4 : zB 4 = true := by simpa using hu 4 (by decide)
    have hb5 : zB 5 = true := by simpa using hu 5 (by decide)
    have hb6 : zB 6 = true := by simpa using hu 6 (by decide)
    have hb7 : zB 7 = true := by simpa using hu 7 (by decide)
    have hb8 : zB 8 = true := by simpa using hu 8 (by decide)
    have hb9 : zB 9 = true := by simpa using hu 9 (by decide)
    have hb10 : zB 10 = true := by simpa using hu 10 (by decide)
    have hb11 : zB 11 = true := by simpa using hu 11 (by decide)
    have hb12 : zB 12 = true := by simpa using hu 12 (by decide)
    have hb13 : zB 13 = true := by simpa using hu 13 (by decide)
    have e0 : zS 31 = .pointer (some ⟨P, 1, none⟩) := hF 0 _ rfl hb0
    have e1 : zS 32 = .slice (some ⟨gv, 0, none⟩) S.V.length Ag.c1 := hF 1 _ rfl hb1
    have e2 : zS 33 = .int .i64 (q : Int) := hF 2 _ rfl hb2
    have e3 : zS 34 = .pointer (some ⟨P, 1, none⟩) := hF 3 _ rfl hb3
    have e4 : zS 35 = .slice (some ⟨gv, 0, none⟩) S.V.length Ag.c1 := hF 4 _ rfl hb4
    have e5 : zS 36 = .int .i64 (q : Int) := hF 5 _ rfl hb5
    have e6 : zS 37 = .pointer (some ⟨gv, q * 3, none⟩) := hF 6 _ rfl hb6
    have e7 : zS 38 = .pointer (some ⟨gv, q * 3, none⟩) := hF 7 _ rfl hb7
    have e8 : zS 39 = .agg #[.int .i64 v.1, .int .i64 v.2.1] := hF 8 _ rfl hb8
    have e9 : zS 40 = .agg #[.int .i64 ra, .int .i64 rb] := hF 9 _ rfl hb9
    have e10 : zS 41 = .agg #[.int .i64 (joinM v.1 v.2.1 ra rb).1, .int .i64 (joinM v.1 v.2.1 ra rb).2] := hF 10 _ rfl hb10
    have e11 : zS 42 = .pointer (some ⟨gv, q * 3, none⟩) := hF 11 _ rfl hb11
    have e12 : zS 43 = .pointer (some ⟨gv, q * 3, none⟩) := hF 12 _ rfl hb12
    rw [hb8] at hW
    rw [hb10] at hW
    rw [hb13] at hW
    clear hu hr hF
    simp only [pE]
    simp only [e0, e1, e2, e3, e4, e5, e6, e7, e8, e9, e10, e11, e12]
    clear e0 e1 e2 e3 e4 e5 e6 e7 e8 e9 e10 e11 e12
    clear hb0 hb1 hb2 hb3 hb4 hb5 hb6 hb7 hb8 hb9 hb10 hb11 hb12 hb13
    clear zB zS
    have HO2 := mkHid (hW.2.2.2.1 (by first | rfl | trivial)).2
    have HG2 := mkHid hW.2.1
    have HB2 := mkHid hW.1
    clear hW hR9
    go_wp2
    go_roundg (to' - fr - (k + 1))
    case measure => omega
    case rel => exact ⟨k + 1, by omega, (by rw [← HQQ.out]; go_num), by omega, by rw [HNX.out]; exact HO2.out, HG2.out, HB2.out⟩
  ·have e : k = to' - fr := by omega
   subst e
   have i2 : ¬ (((fr + (to' - fr) : Nat) : Int) < (to' : Int)) := by omega
   obtain ⟨q, hqq⟩ : ∃ q, fr + (to' - fr) = q := ⟨_, rfl⟩
   rw [hqq] at i2
   rw [hqq]
   obtain ⟨WV, hWV⟩ : ∃ q, wkV ra rb S.V fr (to' - fr) = q := ⟨_, rfl⟩
   have hWL : WV.length = S.V.length := by rw [← hWV]; exact wkV_len _ _ _ _ _
   rw [hWV] at HO
   have HWV := mkHid hWV
   obtain ⟨k0, k1, k2, k3, k4, k5⟩ := HG.out
   obtain ⟨z0, z1, z2, z3, z4, z5⟩ := Z0.out.below HB1.out
   have hPH : P ≤ wr.heap.size := Nat.le_of_lt HG.out.lt
   have HGV := mkHid (gives_shut HO.out (Yb := X + 5) (by have := LO.out; omega) hPH (below_step B0.out HB1.out) hXB.out)
   simp only [hWL] at HGV
   have HWL := mkHid hWL
   clear hWV hqq hlt hWL
   go_wp2
   rw [HWV.out]
   exact bodyPost_ret (v := .agg #[.slice Ag.a0 S.B.length Ag.c0, .slice Ag.a1 S.V.length Ag.c1, .slice Ag.a2 S.M.length Ag.c2]) (by simp [results, Tryz.results73, go_sem, *]) rfl HGV.out
end Go.Proofs.YtihpajiololfoaaGreat
