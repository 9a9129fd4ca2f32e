/-
  CONTRACT of link.fold: two bounds between which there is no cell become one.
-/
import Derived.Test.YtihpajiololfoaaGreatSh33
import Derived.Test.YtihpajiololfoaaGreatSh09
import Derived.BigRegion
namespace Go.Proofs.YtihpajiololfoaaGreat
open Go.RowKit

structure FoI (w wr : World) (base Qb X : Nat) (n : Nat) (f : Q.Tab) (F : List Lk) (L : List (Nat × Lk)) (Xa : Nat) (ka : Lk) (R : List (Nat × Lk)) : Prop where
 ch : Ch wr base (L ++ (Xa, ka) :: R) (some ⟨X, 0, none⟩) none
 nd : ((L ++ (Xa, ka) :: R).map Prod.fst).Nodup
 eq : L.map Prod.snd ++ fol f ka (R.map Prod.snd) = F
 bel : BK base w wr
 rd : RowsD wr ((L ++ (Xa, ka) :: R).map Prod.fst)
 bs : base ≤ wr.heap.size
 q : ∃ C, wr.heap[Qb]? = some (.cells C 80 (0, 0))
 qd : Q.Dif wr Qb n (Q.grid n f)
 len : tot (ka.b :: R.map fun x => x.2.b) ≤ 1048576
 wd : ∀ x, x ∈ (Xa, ka) :: R → ∀ t, t ∈ x.2.b → Wd n t
theorem FoI.below {w wr v : World} {base Qb X n : Nat} {f : Q.Tab} {F : List Lk} {L : List (Nat × Lk)} {Xa : Nat} {ka : Lk} {R : List (Nat × Lk)} (h : FoI w wr base Qb X n f F L Xa ka R) (hb : Below wr.heap.size wr v) : FoI w v base Qb X n f F L Xa ka R :=
 ⟨h.ch.below hb, h.nd, h.eq, h.bel.step hb h.bs, h.ch.rows_below h.rd hb, Nat.le_trans h.bs hb.size, (by obtain ⟨C, hC⟩ := h.q; exact ⟨C, (hb.block Qb (heap_lt hC)).trans hC⟩), h.qd.below hb, h.len, h.wd⟩
/-- The link stays, and we go on to the next one. -/
theorem FoI.next {w wr : World} {base Qb X n : Nat} {f : Q.Tab} {F : List Lk} {L : List (Nat × Lk)} {Xa Xn : Nat} {ka kn : Lk} {R : List (Nat × Lk)} (h : FoI w wr base Qb X n f F L Xa ka ((Xn, kn) :: R)) (hc : (ka.m && (decide (ka.v = noneV) || anyB f kn.b ka.b 0)) = false) : FoI w wr base Qb X n f F (L ++ [(Xa, ka)]) Xn kn R := by
 have hap : L ++ [(Xa, ka)] ++ (Xn, kn) :: R = L ++ (Xa, ka) :: (Xn, kn) :: R := by simp
 refine ⟨by rw [hap]; exact h.ch, by rw [hap]; exact h.nd, ?_, h.bel, by rw [hap]; exact h.rd, h.bs, h.q, h.qd, ?_, fun x hx => h.wd x (List.mem_cons_of_mem _ hx)⟩
 ·have e := h.eq
  rw [List.map_cons, fol, if_neg (by rw [hc]; simp)] at e
  rw [← e]
  simp
 ·have e := h.len
  simp only [List.map_cons, tot] at e ⊢
  omega
/-- The next link goes into this one. -/
theorem FoI.fold {w wr va v : World} {base Qb X n : Nat} {f : Q.Tab} {F : List Lk} {L : List (Nat × Lk)} {Xa Xn : Nat} {ka kn : Lk} {R : List (Nat × Lk)} {p2 : Option Addr} {gr : Option Addr} {cr : Nat} {lm : List Y} {vv : VV} {mm : Bool} {pz : Option Addr} (h : FoI w wr base Qb X n f F L Xa ka ((Xn, kn) :: R)) (hc : (ka.m && (decide (ka.v = noneV) || anyB f kn.b ka.b 0)) = true) (hlm : setY (ka.b ++ kn.b) = lm)
  (hP : Ch wr base L (some ⟨X, 0, none⟩) (some ⟨Xa, 0, none⟩)) (hlo : base ≤ Xa) (hT : ∃ cur, wr.heap[Xa]? = some (.cells cur 130 (0, 0))) (hRR : Ch wr base ((Xn, kn) :: R) (some ⟨Xn, 0, none⟩) none) (hR : Ch wr base R p2 none) (hO : Only Xa wr va) (hH : va.heap[Xa]? = some (.cells (lkC (.slice gr lm.length cr) vv mm pz) 130 (0, 0))) (hw : Own eY 49 va wr.heap.size (.slice gr lm.length cr) lm) (hO2 : Only Xa va v) (hH2 : v.heap[Xa]? = some (.cells (lkC (.slice gr lm.length cr) kn.v kn.m p2) 130 (0, 0))) :
  FoI w v base Qb X n f F L Xa ⟨lm, kn.v, kn.m⟩ R := by
 have hOO := hO.trans hO2
 have n1 := (nd_parts h.nd).1
 have n2 := (nd_parts h.nd).2
 have how := own_only hw ⟨_, hH⟩ hO2
 refine ⟨Ch.upd hOO hT hP ⟨⟨gr, cr, hH2, how.mono h.bs⟩, hlo⟩ hR n1 (fun x hx => n2 x (List.mem_cons_of_mem _ hx)), nd_drop h.nd, ?_, BK.only h.bel hOO h.bs hlo hT, ?_, Nat.le_trans h.bs hOO.size, ?_, ?_, ?_, ?_⟩
 ·have e := h.eq
  rw [List.map_cons, fol, if_pos hc] at e
  rw [← e, ← hlm]
 ·have e := rows_upd (k' := ka) hOO hP hRR h.nd h.rd (fun b hb => by rw [rowB_of hH2] at hb; exact (how.lt hb).1)
  refine List.Pairwise.sublist ?_ e
  simp only [List.map_append, List.map_cons]
  exact List.Sublist.append_left (List.Sublist.cons_cons _ (List.sublist_cons_self _ _)) _
 ·obtain ⟨C, hC⟩ := h.q
  exact ⟨C, (hOO.block Qb (heap_lt hC) (fun e => by cases e; obtain ⟨c1, h1⟩ := hT; rw [h1] at hC; cases hC)).trans hC⟩
 ·exact h.qd.grown hOO (fun e => by cases e; obtain ⟨c1, h1⟩ := hT; obtain ⟨c2, h3⟩ := h.q; rw [h1] at h3; cases h3)
 ·have e := h.len
  have e2 := setY_len (ka.b ++ kn.b)
  rw [hlm, List.length_append] at e2
  simp only [List.map_cons, tot] at e ⊢
  omega
 ·intro x hx t ht
  rcases List.mem_cons.1 hx with rfl | hx
  ·have ht : t ∈ lm := ht
   rw [← hlm] at ht
   rcases List.mem_append.1 (((setY_set (ka.b ++ kn.b)).mem t).1 ht) with h1 | h1
   ·exact h.wd _ List.mem_cons_self t h1
   ·exact h.wd (Xn, kn) (List.mem_cons_of_mem _ List.mem_cons_self) t h1
  ·exact h.wd x (List.mem_cons_of_mem _ (List.mem_cons_of_mem _ hx)) t ht
theorem two_bnds {v : World} {g : Nat} {l ln : List Y} {ao an : Option Addr} {cap cn : Nat} {fz : Nat × Nat} (hg : v.heap[g]? = some (.cells #[.slice ao l.length cap, .slice an ln.length cn] 113 fz)) (h1 : At eY v ao l) (h2 : At eY v an ln) : BndsAt v (some ⟨g, 0, none⟩) [l, ln] := by
 refine .inr ⟨g, 0, rfl, fun i x hx => ?_⟩
 match i with
 | 0 => simp at hx; subst hx; exact ⟨ao, cap, heap_cell hg 0, h1⟩
 | 1 => simp at hx; subst hx; exact ⟨an, cn, heap_cell hg 1, h2⟩
 | i + 2 => simp at hx
theorem ite3 {α : Type} {v1 v2 : Int} {v3 : Bool} {a b : α} (h : ¬ (v1 = 1 ∧ v2 = 0 ∧ v3 = true)) : (if v1 = 1 then if v2 = 0 then if v3 = false then a else b else a else a) = a := by
 split
 ·split
  ·split
   ·rfl
   ·exact absurd ⟨by assumption, by assumption, by simpa using (by assumption : ¬ v3 = false)⟩ h
  ·rfl
 ·rfl
theorem ite3t {α : Type} {v1 v2 : Int} {v3 : Bool} {a b : α} (h : v1 = 1 ∧ v2 = 0 ∧ v3 = true) : (if v1 = 1 then if v2 = 0 then if v3 = false then a else b else a else a) = b := by
 obtain ⟨rfl, rfl, rfl⟩ := h
 rfl
theorem vne {v : VV} (h : v ≠ noneV) : ¬ (v.1 = 1 ∧ v.2.1 = 0 ∧ v.2.2 = true) := fun e => h (by obtain ⟨a, b, s⟩ := v; obtain ⟨e1, e2, e3⟩ := e; subst e1 e2 e3; rfl)
set_option maxRecDepth 100000 in
set_option maxHeartbeats 12800000 in
theorem fold_any (n : Nat) (f : Q.Tab) (h2 : n ≤ 13) (hbd : Q.Bd n f 10000000) (L : List (Nat × Lk)) (X : Nat) (k : Lk) (base : Nat) (w : World) (hn : tot (k.b :: L.map fun x => x.2.b) ≤ 1048576) (hwd : ∀ x, x ∈ (X, k) :: L → ∀ t, t ∈ x.2.b → Wd n t) (hc : Ch w base ((X, k) :: L) (some ⟨X, 0, none⟩) none) (hnd : (((X, k) :: L).map Prod.fst).Nodup) (hrd : RowsD w (((X, k) :: L).map Prod.fst)) (hbs : base ≤ w.heap.size) :
  Calls Tryz.prog 44 #[.pointer (some ⟨X, 0, none⟩), .agg (Q.dA n (Q.grid n f))] w fun e w' => e = .returned (.tuple #[]) ∧ BK base w w' ∧ ChN w' base X (fol f k (L.map Prod.snd)) := by
 have HAB : Hid (∀ (l l' : List Y) (a a' : Option Addr) (c c' : Nat) (v : World), l.length ≤ 1048576 → l'.length ≤ 1048576 → (∀ x, x ∈ l → Wd n x) → (∀ x, x ∈ l' → Wd n x) → At eY v a l → At eY v a' l' → Calls Tryz.prog 90 #[.agg (Q.dA n (Q.grid n f)), .slice a l.length c, .slice a' l'.length c', .int .i64 0] v fun e w' => e = .returned (.bool (anyB f l l' 0)) ∧ Below v.heap.size v w') := mkHid fun l l' a a' c c' v q1 q2 q3 q4 q5 q6 => areBelow_any n f h2 hbd l l' a a' c c' 0 ⟨by omega, by omega⟩ v (by unfold maxLen; omega) (by unfold maxLen; omega) q3 q4 q5 q6
 obtain ⟨F, hF⟩ : ∃ z, fol f k (L.map Prod.snd) = z := ⟨_, rfl⟩
 rw [hF]
 obtain ⟨w0, hw0⟩ : ∃ q, w.alloc (.cells (Q.dA n (Q.grid n f)) 80) = q := ⟨_, rfl⟩
 obtain ⟨Qb, hQb⟩ : ∃ q, w.heap.size = q := ⟨_, rfl⟩
 have A0 : Below w.heap.size w w0 := by rw [← hw0]; exact bl_alloc (Below.refl _ _) _
 have D0 : Q.Dif w0 Qb n (Q.grid n f) := by rw [← hw0, ← hQb]; exact Q.Dif.new w (Q.grid_len n f) 80
 have HI : Hid (FoI w w0 base Qb X n f F [] X k L) := mkHid ⟨hc.below A0, hnd, hF, BK.of A0 hbs, hc.rows_below hrd A0, Nat.le_trans hbs A0.size, ⟨_, by rw [← hw0, ← hQb]; exact heap_new w _ rfl⟩, D0, hn, hwd⟩
 obtain ⟨G, hG⟩ : ∃ G, Q.grid n f = G := ⟨_, rfl⟩
 have HG := mkHid hG
 rw [hG] at HAB hw0
 rw [hG]
 clear hn hwd hc hnd hrd A0 D0 hF hbd hG
 go_enter Tryz.func44, Tryz.ntmps44
 go_wp2
 first | rw [hw0] | skip
 first | rw [hQb] | skip
 clear hw0 hQb
 go_loopg [4, 5] L.length (fun g s4 s5 wr => ∃ (P1 : List (Nat × Lk)) (Xa : Nat) (ka : Lk) (R : List (Nat × Lk)), s4 = .pointer (some ⟨Xa, 0, none⟩) ∧ R.length ≤ g ∧ FoI w wr base Qb X n f F P1 Xa ka R)
 case atStart => exact ⟨[], X, k, L, rfl, Nat.le_refl _, HI.out⟩
 case round =>
  obtain ⟨P1, Xa, ka, R, rfl, hgR, hdr⟩ := hrel
  have HDR := mkHid hdr
  clear hdr HI
  obtain ⟨hP, pz, hA, hR⟩ := HDR.out.ch.cut
  have HP := mkHid hP
  have HLOA := mkHid hA.lo
  obtain ⟨ao, cap, hz, hown⟩ := hA.mem
  obtain ⟨_, _, _, _, _, _, c6, _, _, _, _, _, _, _⟩ := cel_of hz
  cases R with
  | nil =>
   cases hR
   clear hP hA hz hown
   go_wp2
   refine bodyPost_end (results_none rfl _ _ _) rfl ⟨rfl, HDR.out.bel, P1 ++ [(Xa, ka)], HDR.out.ch, ?_, HDR.out.nd, HDR.out.rd⟩
   have h := HDR.out.eq
   simpa [fol] using h
  | cons y R =>
   obtain ⟨Xn, kn⟩ := y
   have HRR := mkHid hR
   obtain ⟨e, pp, hN, hRR⟩ := hR
   cases e
   have HRE := mkHid hRR
   have hgR : R.length < gk := by simp at hgR; omega
   have HNE : Hid (Xn ≠ Xa) := mkHid fun e => (nd_parts HDR.out.nd).2 (Xn, kn) List.mem_cons_self e
   obtain ⟨an, cn, hXn, honN⟩ := hN.mem
   have hlen := HDR.out.len
   simp only [List.map_cons, tot] at hlen
   have HLN : Hid (ka.b.length ≤ 1048576) := mkHid (by omega)
   have HLNN : Hid (kn.b.length ≤ 1048576) := mkHid (by omega)
   have HLT : Hid ([ka.b, kn.b].flatten.length ≤ 1048576) := mkHid (by simp; omega)
   have HWA : Hid (∀ t, t ∈ ka.b → Wd n t) := mkHid (HDR.out.wd _ List.mem_cons_self)
   have HWN : Hid (∀ t, t ∈ kn.b → Wd n t) := mkHid (HDR.out.wd (Xn, kn) (List.mem_cons_of_mem _ List.mem_cons_self))
   have HOW := mkHid hown
   have HON := mkHid honN
   have HQD := mkHid (show Q.Dif wr Qb n G by rw [← HG.out]; exact HDR.out.qd)
   obtain ⟨l, hl⟩ : ∃ z, ka.b = z := ⟨_, rfl⟩
   obtain ⟨vv, hvv⟩ : ∃ z, ka.v = z := ⟨_, rfl⟩
   obtain ⟨mm, hmm⟩ : ∃ z, ka.m = z := ⟨_, rfl⟩
   obtain ⟨ln, hln⟩ : ∃ z, kn.b = z := ⟨_, rfl⟩
   obtain ⟨vn, hvn⟩ : ∃ z, kn.v = z := ⟨_, rfl⟩
   obtain ⟨mn, hmn⟩ : ∃ z, kn.m = z := ⟨_, rfl⟩
   obtain ⟨lm, hlm⟩ : ∃ z, setY (ka.b ++ kn.b) = z := ⟨_, rfl⟩
   have HNX : Hid (∀ v, Below wr.heap.size wr v → (mm && (decide (vv = noneV) || anyB f ln l 0)) = false → FoI w v base Qb X n f F (P1 ++ [(Xa, ka)]) Xn kn R) := mkHid (fun v hb hc => (HDR.out.below hb).next (by rw [hmm, hvv, hln, hl]; exact hc))
   have HFO : Hid (∀ (v1 va v : World) (gr : Option Addr) (cr : Nat) (va' : VV) (mz : Bool) (pz : Option Addr), Below wr.heap.size wr v1 → (mm && (decide (vv = noneV) || anyB f ln l 0)) = true → Only Xa v1 va → va.heap[Xa]? = some (.cells (lkC (.slice gr lm.length cr) va' mz pz) 130 (0, 0)) → Own eY 49 va v1.heap.size (.slice gr lm.length cr) lm → Only Xa va v → v.heap[Xa]? = some (.cells (lkC (.slice gr lm.length cr) vn mn pp) 130 (0, 0)) → FoI w v base Qb X n f F P1 Xa ⟨lm, kn.v, kn.m⟩ R) := mkHid (fun v1 va v gr cr va' mz pz hb hc h1 h2 h3 h4 h5 =>
    FoI.fold (HDR.out.below hb) (by rw [hmm, hvv, hln, hl]; exact hc) hlm (HP.out.below hb) HLOA.out ⟨_, (hb.block Xa (heap_lt hz)).trans hz⟩ (HRR.out.below hb) (HRE.out.below hb) h1 h2 h3 h4 (by rw [hvn, hmn]; exact h5))
   have HTO : Hid (∀ (v : World) (g : Nat), BndsAt v (some ⟨g, 0, none⟩) [l, ln] → Calls Tryz.prog 89 #[.slice (some ⟨g, 0, none⟩) 2 2] v fun e w' => Below v.heap.size v w' ∧ ∃ (gr : Option Addr) (cr : Nat), e = .returned (.agg #[.slice gr lm.length cr, .func (.func 132) #[] #[]]) ∧ Own eY 49 w' v.heap.size (.slice gr lm.length cr) lm) := mkHid (fun v g h => by
    rw [← hl, ← hln] at h
    refine (termsOf_any [ka.b, kn.b] _ 2 v (by simp) HLT.out h).mono ?_
    rintro e w' ⟨hb, m, gr, cr, he, hs, ho⟩
    have em : m = lm := by rw [← hlm]; exact hs.unique (by simpa using setY_set (ka.b ++ kn.b))
    subst em
    exact ⟨hb, gr, cr, he, ho⟩)
   rw [hl] at HLN HWA HOW
   rw [hln] at HLNN HWN HON
   rw [hl, hvv, hmm] at hz
   rw [hln, hvn, hmn] at hXn
   clear hl hvv hmm hln hvn hmn hlm hP hA hN hRR hown honN hlen
   have hcA : ∀ v, Below wr.heap.size wr v → Cel v Xa (.slice ao l.length cap) vv mm (some ⟨Xn, 0, none⟩) := fun v h => cel_of ((h.block Xa (heap_lt hz)).trans hz)
   have hcN : ∀ v, Below wr.heap.size wr v → Cel v Xn (.slice an ln.length cn) vn mn pp := fun v h => cel_of ((h.block Xn (heap_lt hXn)).trans hXn)
   have HZA := mkHid hz
   have HZN := mkHid hXn
   clear hz hXn
   go_wp2_with fail
   clear c6
   cases mm
   ·refine wp_region_inv2 (fun zA0 L zA v9 => ∃ (zB : Nat → Bool) (zS : Nat → Value), L = #[zB 0, zB 1, zB 2, zB 3, zB 4, zB 5, zB 6, zB 7, zB 8, zB 9, zB 10, zB 11, zB 12, zB 13, zB 14, zB 15, zB 16, zB 17, zB 18, zB 19, zB 20, zB 21, zB 22, zB 23, zB 24, zB 25] ∧ zA = puts zA0 [(16, zS 16), (17, zS 17), (18, zS 18), (19, zS 19), (20, zS 20), (21, zS 21), (22, zS 22), (23, zS 23), (24, zS 24), (25, zS 25), (26, zS 26), (27, zS 27), (28, zS 28), (29, zS 29), (30, zS 30), (31, zS 31), (32, zS 32), (33, zS 33), (34, zS 34), (35, zS 35), (36, zS 36), (37, zS 37), (38, zS 38), (39, zS 39), (40, zS 40), (41, zS 41)] ∧ FF 16 [.pointer (some ⟨Xa, 0, none⟩), .pointer (some ⟨Xa, 0, none⟩), .pointer (some ⟨Xa, 5, none⟩), .bool false, .bool false, undef, undef, undef, undef, undef, undef, undef, undef, undef, undef, undef, undef, undef, undef, undef, undef, undef, undef, undef, undef, .bool false] zB zS ∧ Below wr.heap.size wr v9) (by kernel_rfl) ?_ ?_ ?_
    ·exact ⟨fun _ => false, fun zd => [u16, u17, u18, u19, u20, u21, u22, u23, u24, u25, u26, u27, u28, u29, u30, u31, u32, u33, u34, u35, u36, u37, u38, u39, u40, u41].getD (zd - 16) undef, rfl, by kernel_rfl, ff0, (Below.refl _ _).drew⟩
    ·refine StepsI.cons rfl ?_ ?_
     ·rintro L zA v9 ⟨zB, zS, rfl, rfl, hF, hW⟩ hL hm K hK
      have hb0 : zB 0 = false := by simpa using hL
      clear hL hm
      simp only [pE]
      have HWz := mkHid hW
      clear hW
      go_simp
      have hW := HWz.out
      clear HWz
      exact hK.out _ _ ⟨ups zB [0], upv _ _ zS [0], rfl, by kernel_rfl, rk hF rfl, hW⟩
     refine StepsI.cons rfl ?_ ?_
     ·rintro L zA v9 ⟨zB, zS, rfl, rfl, hF, hW⟩ hL hm K hK
      have hb1 : zB 1 = false := by simpa using hL
      have hb0 : zB 0 = true := mt 0 hm (by kernel_rfl)
      have e0 : zS 16 = .pointer (some ⟨Xa, 0, none⟩) := hF 0 _ rfl hb0
      clear hL hm
      simp only [pE]
      simp only [e0]
      have HWz := mkHid hW
      clear hW
      go_simp
      have hW := HWz.out
      clear HWz
      exact hK.out _ _ ⟨ups zB [1], upv _ _ zS [1, 0], rfl, by kernel_rfl, rk hF rfl, hW⟩
     refine StepsI.cons rfl ?_ ?_
     ·rintro L zA v9 ⟨zB, zS, rfl, rfl, hF, hW⟩ hL hm K hK
      have hb2 : zB 2 = false := by simpa using hL
      have hb1 : zB 1 = true := mt 1 hm (by kernel_rfl)
      have e1 : zS 17 = .pointer (some ⟨Xa, 0, none⟩) := hF 1 _ rfl hb1
      clear hL hm
      simp only [pE]
      simp only [e1]
      have HWz := mkHid hW
      clear hW
      go_simp
      have hW := HWz.out
      clear HWz
      exact hK.out _ _ ⟨ups zB [2], upv _ _ zS [2, 1], rfl, by kernel_rfl, rk hF rfl, hW⟩
     refine StepsI.cons rfl ?_ ?_
     ·rintro L zA v9 ⟨zB, zS, rfl, rfl, hF, hW⟩ hL hm K hK
      have hb3 : zB 3 = false := by simpa using hL
      have hb2 : zB 2 = true := mt 2 hm (by kernel_rfl)
      have e2 : zS 18 = .pointer (some ⟨Xa, 5, none⟩) := hF 2 _ rfl hb2
      clear hL hm
      simp only [pE]
      simp only [e2]
      obtain ⟨_, _, _, _, _, c5, _, _, _, _, _, _, _, _⟩ := hcA _ hW
      have HWz := mkHid hW
      clear hW
      go_simp
      have hW := HWz.out
      clear HWz
      exact hK.out _ _ ⟨ups zB [3], upv _ _ zS [3, 2], rfl, by kernel_rfl, rk hF rfl, hW⟩
     refine StepsI.cons rfl ?_ ?_
     ·rintro L zA v9 ⟨zB, zS, rfl, rfl, hF, hW⟩ hL hm K hK
      have hb4 : zB 4 = false := by simpa using hL
      have hb3 : zB 3 = true := mt 3 hm (by kernel_rfl)
      have e3 : zS 19 = .bool false := hF 3 _ rfl hb3
      clear hL hm
      simp only [pE]
      simp only [e3]
      have HWz := mkHid hW
      clear hW
      go_simp
      have hW := HWz.out
      clear HWz
      exact hK.out _ _ ⟨ups zB [4], upv _ _ zS [4, 3], rfl, by kernel_rfl, rk hF rfl, hW⟩
     refine StepsI.cons rfl ?_ ?_
     ·rintro L zA v9 ⟨zB, zS, rfl, rfl, hF, hW⟩ hL hm K hK
      have hb5 : zB 5 = false := by simpa using hL
      have hb4 : zB 4 = true := mt 4 hm (by kernel_rfl)
      have e4 : zS 20 = .bool false := hF 4 _ rfl hb4
      clear hL hm
      simp only [pE]
      simp only [e4]
      rw [if_neg (by exact Bool.false_ne_true)]
      exact hK.out _ _ ⟨ups zB [5], upv _ _ zS [5, 4], rfl, by kernel_rfl, rk hF rfl, hW⟩
     refine StepsI.cons rfl ?_ ?_
     ·rintro L zA v9 ⟨zB, zS, rfl, rfl, hF, hW⟩ hL hm K hK
      have hb6 : zB 6 = false := by simpa using hL
      have hb4 : zB 4 = true := mt 4 hm (by kernel_rfl)
      have e4 : zS 20 = .bool false := hF 4 _ rfl hb4
      clear hL hm
      simp only [pE]
      simp only [e4]
      rw [if_neg (by exact Bool.false_ne_true)]
      exact hK.out _ _ ⟨ups zB [6], upv _ _ zS [6, 4], rfl, by kernel_rfl, rk hF rfl, hW⟩
     refine StepsI.cons rfl ?_ ?_
     ·rintro L zA v9 ⟨zB, zS, rfl, rfl, hF, hW⟩ hL hm K hK
      have hb7 : zB 7 = false := by simpa using hL
      have hb4 : zB 4 = true := mt 4 hm (by kernel_rfl)
      have e4 : zS 20 = .bool false := hF 4 _ rfl hb4
      clear hL hm
      simp only [pE]
      simp only [e4]
      rw [if_neg (by exact Bool.false_ne_true)]
      exact hK.out _ _ ⟨ups zB [7], upv _ _ zS [7, 4], rfl, by kernel_rfl, rk hF rfl, hW⟩
     refine StepsI.cons rfl ?_ ?_
     ·rintro L zA v9 ⟨zB, zS, rfl, rfl, hF, hW⟩ hL hm K hK
      have hb8 : zB 8 = false := by simpa using hL
      have hb4 : zB 4 = true := mt 4 hm (by kernel_rfl)
      have e4 : zS 20 = .bool false := hF 4 _ rfl hb4
      clear hL hm
      simp only [pE]
      simp only [e4]
      rw [if_neg (by exact Bool.false_ne_true)]
      exact hK.out _ _ ⟨ups zB [8], upv _ _ zS [8, 4], rfl, by kernel_rfl, rk hF rfl, hW⟩
     refine StepsI.cons rfl ?_ ?_
     ·rintro L zA v9 ⟨zB, zS, rfl, rfl, hF, hW⟩ hL hm K hK
      have hb9 : zB 9 = false := by simpa using hL
      have hb4 : zB 4 = true := mt 4 hm (by kernel_rfl)
      have e4 : zS 20 = .bool false := hF 4 _ rfl hb4
      clear hL hm
      simp only [pE]
      simp only [e4]
      rw [if_neg (by exact Bool.false_ne_true)]
      exact hK.out _ _ ⟨ups zB [9], upv _ _ zS [9, 4], rfl, by kernel_rfl, rk hF rfl, hW⟩
     refine StepsI.cons rfl ?_ ?_
     ·rintro L zA v9 ⟨zB, zS, rfl, rfl, hF, hW⟩ hL hm K hK
      have hb10 : zB 10 = false := by simpa using hL
      have hb4 : zB 4 = true := mt 4 hm (by kernel_rfl)
      have e4 : zS 20 = .bool false := hF 4 _ rfl hb4
      clear hL hm
      simp only [pE]
      simp only [e4]
      rw [if_neg (by exact Bool.false_ne_true)]
      exact hK.out _ _ ⟨ups zB [10], upv _ _ zS [10, 4], rfl, by kernel_rfl, rk hF rfl, hW⟩
     refine StepsI.cons rfl ?_ ?_
     ·rintro L zA v9 ⟨zB, zS, rfl, rfl, hF, hW⟩ hL hm K hK
      have hb11 : zB 11 = false := by simpa using hL
      have hb4 : zB 4 = true := mt 4 hm (by kernel_rfl)
      have e4 : zS 20 = .bool false := hF 4 _ rfl hb4
      clear hL hm
      simp only [pE]
      simp only [e4]
      rw [if_neg (by exact Bool.false_ne_true)]
      exact hK.out _ _ ⟨ups zB [11], upv _ _ zS [11, 4], rfl, by kernel_rfl, rk hF rfl, hW⟩
     refine StepsI.cons rfl ?_ ?_
     ·rintro L zA v9 ⟨zB, zS, rfl, rfl, hF, hW⟩ hL hm K hK
      have hb12 : zB 12 = false := by simpa using hL
      have hb11 : zB 11 = true := mt 11 hm (by kernel_rfl)
      have e11 : zS 27 = undef := hF 11 _ rfl hb11
      clear hL hm
      simp only [pE]
      simp only [e11]
      rw [if_neg (by exact Bool.false_ne_true)]
      exact hK.out _ _ ⟨ups zB [12], upv _ _ zS [12, 11], rfl, by kernel_rfl, rk hF rfl, hW⟩
     refine StepsI.cons rfl ?_ ?_
     ·rintro L zA v9 ⟨zB, zS, rfl, rfl, hF, hW⟩ hL hm K hK
      have hb13 : zB 13 = false := by simpa using hL
      have hb11 : zB 11 = true := mt 11 hm (by kernel_rfl)
      have e11 : zS 27 = undef := hF 11 _ rfl hb11
      clear hL hm
      simp only [pE]
      simp only [e11]
      rw [if_neg (by exact Bool.false_ne_true)]
      exact hK.out _ _ ⟨ups zB [13], upv _ _ zS [13, 11], rfl, by kernel_rfl, rk hF rfl, hW⟩
     refine StepsI.cons rfl ?_ ?_
     ·rintro L zA v9 ⟨zB, zS, rfl, rfl, hF, hW⟩ hL hm K hK
      have hb14 : zB 14 = false := by simpa using hL
      have hb11 : zB 11 = true := mt 11 hm (by kernel_rfl)
      have e11 : zS 27 = undef := hF 11 _ rfl hb11
      clear hL hm
      simp only [pE]
      simp only [e11]
      rw [if_neg (by exact Bool.false_ne_true)]
      exact hK.out _ _ ⟨ups zB [14], upv _ _ zS [14, 11], rfl, by kernel_rfl, rk hF rfl, hW⟩
     refine StepsI.cons rfl ?_ ?_
     ·rintro L zA v9 ⟨zB, zS, rfl, rfl, hF, hW⟩ hL hm K hK
      have hb15 : zB 15 = false := by simpa using hL
      have hb11 : zB 11 = true := mt 11 hm (by kernel_rfl)
      have e11 : zS 27 = undef := hF 11 _ rfl hb11
      clear hL hm
      simp only [pE]
      simp only [e11]
      rw [if_neg (by exact Bool.false_ne_true)]
      exact hK.out _ _ ⟨ups zB [15], upv _ _ zS [15, 11], rfl, by kernel_rfl, rk hF rfl, hW⟩
     refine StepsI.cons rfl ?_ ?_
     ·rintro L zA v9 ⟨zB, zS, rfl, rfl, hF, hW⟩ hL hm K hK
      have hb16 : zB 16 = false := by simpa using hL
      have hb11 : zB 11 = true := mt 11 hm (by kernel_rfl)
      have e11 : zS 27 = undef := hF 11 _ rfl hb11
      clear hL hm
      simp only [pE]
      simp only [e11]
      rw [if_neg (by exact Bool.false_ne_true)]
      exact hK.out _ _ ⟨ups zB [16], upv _ _ zS [16, 11], rfl, by kernel_rfl, rk hF rfl, hW⟩
     refine StepsI.cons rfl ?_ ?_
     ·rintro L zA v9 ⟨zB, zS, rfl, rfl, hF, hW⟩ hL hm K hK
      have hb17 : zB 17 = false := by simpa using hL
      have hb11 : zB 11 = true := mt 11 hm (by kernel_rfl)
      have e11 : zS 27 = undef := hF 11 _ rfl hb11
      clear hL hm
      simp only [pE]
      simp only [e11]
      rw [if_neg (by exact Bool.false_ne_true)]
      exact hK.out _ _ ⟨ups zB [17], upv _ _ zS [17, 11], rfl, by kernel_rfl, rk hF rfl, hW⟩
     refine StepsI.cons rfl ?_ ?_
     ·rintro L zA v9 ⟨zB, zS, rfl, rfl, hF, hW⟩ hL hm K hK
      have hb18 : zB 18 = false := by simpa using hL
      have hb11 : zB 11 = true := mt 11 hm (by kernel_rfl)
      have e11 : zS 27 = undef := hF 11 _ rfl hb11
      clear hL hm
      simp only [pE]
      simp only [e11]
      rw [if_neg (by exact Bool.false_ne_true)]
      exact hK.out _ _ ⟨ups zB [18], upv _ _ zS [18, 11], rfl, by kernel_rfl, rk hF rfl, hW⟩
     refine StepsI.cons rfl ?_ ?_
     ·rintro L zA v9 ⟨zB, zS, rfl, rfl, hF, hW⟩ hL hm K hK
      have hb19 : zB 19 = false := by simpa using hL
      have hb11 : zB 11 = true := mt 11 hm (by kernel_rfl)
      have e11 : zS 27 = undef := hF 11 _ rfl hb11
      clear hL hm
      simp only [pE]
      simp only [e11]
      rw [if_neg (by exact Bool.false_ne_true)]
      exact hK.out _ _ ⟨ups zB [19], upv _ _ zS [19, 11], rfl, by kernel_rfl, rk hF rfl, hW⟩
     refine StepsI.cons rfl ?_ ?_
     ·rintro L zA v9 ⟨zB, zS, rfl, rfl, hF, hW⟩ hL hm K hK
      have hb20 : zB 20 = false := by simpa using hL
      have hb11 : zB 11 = true := mt 11 hm (by kernel_rfl)
      have e11 : zS 27 = undef := hF 11 _ rfl hb11
      clear hL hm
      simp only [pE]
      simp only [e11]
      rw [if_neg (by exact Bool.false_ne_true)]
      exact hK.out _ _ ⟨ups zB [20], upv _ _ zS [20, 11], rfl, by kernel_rfl, rk hF rfl, hW⟩
     refine StepsI.cons rfl ?_ ?_
     ·rintro L zA v9 ⟨zB, zS, rfl, rfl, hF, hW⟩ hL hm K hK
      have hb21 : zB 21 = false := by simpa using hL
      have hb11 : zB 11 = true := mt 11 hm (by kernel_rfl)
      have e11 : zS 27 = undef := hF 11 _ rfl hb11
      clear hL hm
      simp only [pE]
      simp only [e11]
      rw [if_neg (by exact Bool.false_ne_true)]
      exact hK.out _ _ ⟨ups zB [21], upv _ _ zS [21, 11], rfl, by kernel_rfl, rk hF rfl, hW⟩
     refine StepsI.cons rfl ?_ ?_
     ·rintro L zA v9 ⟨zB, zS, rfl, rfl, hF, hW⟩ hL hm K hK
      have hb22 : zB 22 = false := by simpa using hL
      have hb11 : zB 11 = true := mt 11 hm (by kernel_rfl)
      have e11 : zS 27 = undef := hF 11 _ rfl hb11
      clear hL hm
      simp only [pE]
      simp only [e11]
      rw [if_neg (by exact Bool.false_ne_true)]
      exact hK.out _ _ ⟨ups zB [22], upv _ _ zS [22, 11], rfl, by kernel_rfl, rk hF rfl, hW⟩
     refine StepsI.cons rfl ?_ ?_
     ·rintro L zA v9 ⟨zB, zS, rfl, rfl, hF, hW⟩ hL hm K hK
      have hb23 : zB 23 = false := by simpa using hL
      have hb11 : zB 11 = true := mt 11 hm (by kernel_rfl)
      have e11 : zS 27 = undef := hF 11 _ rfl hb11
      clear hL hm
      simp only [pE]
      simp only [e11]
      rw [if_neg (by exact Bool.false_ne_true)]
      exact hK.out _ _ ⟨ups zB [23], upv _ _ zS [23, 11], rfl, by kernel_rfl, rk hF rfl, hW⟩
     refine StepsI.cons rfl ?_ ?_
     ·rintro L zA v9 ⟨zB, zS, rfl, rfl, hF, hW⟩ hL hm K hK
      have hb24 : zB 24 = false := by simpa using hL
      have hb4 : zB 4 = true := mt 4 hm (by kernel_rfl)
      have e4 : zS 20 = .bool false := hF 4 _ rfl hb4
      clear hL hm
      simp only [pE]
      simp only [e4]
      rw [if_neg (by exact Bool.false_ne_true)]
      exact hK.out _ _ ⟨ups zB [24], upv _ _ zS [24, 4], rfl, by kernel_rfl, rk hF rfl, hW⟩
     refine StepsI.cons rfl ?_ ?_
     ·rintro L zA v9 ⟨zB, zS, rfl, rfl, hF, hW⟩ hL hm K hK
      have hb25 : zB 25 = false := by simpa using hL
      have hb4 : zB 4 = true := mt 4 hm (by kernel_rfl)
      have hb24 : zB 24 = true := mt 24 hm (by kernel_rfl)
      have e4 : zS 20 = .bool false := hF 4 _ rfl hb4
      have e24 : zS 40 = undef := hF 24 _ rfl hb24
      clear hL hm
      simp only [pE]
      simp only [e4, e24]
      have HWz := mkHid hW
      clear hW
      go_simp
      have hW := HWz.out
      clear HWz
      exact hK.out _ _ ⟨ups zB [25], upv _ _ zS [25, 24, 4], rfl, by kernel_rfl, rk hF rfl, hW⟩
     exact StepsI.nil (by kernel_rfl)
    ·rintro L zA v9 ⟨zB, zS, rfl, rfl, hF, hW⟩ hr
     have hu := all_up (by kernel_rfl) (N := 26) (by kernel_rfl) hr
     have hb0 : zB 0 = true := by simpa using hu 0 (by decide)
     have hb1 : zB 1 = true := by simpa using hu 1 (by decide)
     have hb2 : zB 2 = true := by simpa using hu 2 (by decide)
     have hb3 : zB 3 = true := by simpa using hu 3 (by decide)
     have hb4 : zB 4 = true := by simpa using hu 4 (by decide)
     have hb5 : zB 5 = true := by simpa using hu 5 (by decide)
     have hb6 : zB 6 = true := by simpa using hu 6 (by decide)
     have hb7 : zB 7 = true := by simpa using hu 7 (by decide)
     have hb8 : zB 8 = true := by simpa using hu 8 (by decide)
     have hb9 : zB 9 = true := by simpa using hu 9 (by decide)
     have hb10 : zB 10 = true := by simpa using hu 10 (by decide)
     have hb11 : zB 11 = true := by simpa using hu 11 (by decide)
     have hb12 : zB 12 = true := by simpa using hu 12 (by decide)
     have hb13 : zB 13 = true := by simpa using hu 13 (by decide)
     have hb14 : zB 14 = true := by simpa using hu 14 (by decide)
     have hb15 : zB 15 = true := by simpa using hu 15 (by decide)
     have hb16 : zB 16 = true := by simpa using hu 16 (by decide)
     have hb17 : zB 17 = true := by simpa using hu 17 (by decide)
     have hb18 : zB 18 = true := by simpa using hu 18 (by decide)
     have hb19 : zB 19 = true := by simpa using hu 19 (by decide)
     have hb20 : zB 20 = true := by simpa using hu 20 (by decide)
     have hb21 : zB 21 = true := by simpa using hu 21 (by decide)
     have hb22 : zB 22 = true := by simpa using hu 22 (by decide)
     have hb23 : zB 23 = true := by simpa using hu 23 (by decide)
     have hb24 : zB 24 = true := by simpa using hu 24 (by decide)
     have hb25 : zB 25 = true := by simpa using hu 25 (by decide)
     have e0 : zS 16 = .pointer (some ⟨Xa, 0, none⟩) := hF 0 _ rfl hb0
     have e1 : zS 17 = .pointer (some ⟨Xa, 0, none⟩) := hF 1 _ rfl hb1
     have e2 : zS 18 = .pointer (some ⟨Xa, 5, none⟩) := hF 2 _ rfl hb2
     have e3 : zS 19 = .bool false := hF 3 _ rfl hb3
     have e4 : zS 20 = .bool false := hF 4 _ rfl hb4
     have e5 : zS 21 = undef := hF 5 _ rfl hb5
     have e6 : zS 22 = undef := hF 6 _ rfl hb6
     have e7 : zS 23 = undef := hF 7 _ rfl hb7
     have e8 : zS 24 = undef := hF 8 _ rfl hb8
     have e9 : zS 25 = undef := hF 9 _ rfl hb9
     have e10 : zS 26 = undef := hF 10 _ rfl hb10
     have e11 : zS 27 = undef := hF 11 _ rfl hb11
     have e12 : zS 28 = undef := hF 12 _ rfl hb12
     have e13 : zS 29 = undef := hF 13 _ rfl hb13
     have e14 : zS 30 = undef := hF 14 _ rfl hb14
     have e15 : zS 31 = undef := hF 15 _ rfl hb15
     have e16 : zS 32 = undef := hF 16 _ rfl hb16
     have e17 : zS 33 = undef := hF 17 _ rfl hb17
     have e18 : zS 34 = undef := hF 18 _ rfl hb18
     have e19 : zS 35 = undef := hF 19 _ rfl hb19
     have e20 : zS 36 = undef := hF 20 _ rfl hb20
     have e21 : zS 37 = undef := hF 21 _ rfl hb21
     have e22 : zS 38 = undef := hF 22 _ rfl hb22
     have e23 : zS 39 = undef := hF 23 _ rfl hb23
     have e24 : zS 40 = undef := hF 24 _ rfl hb24
     have e25 : zS 41 = .bool false := hF 25 _ rfl hb25
     clear hu hr hF
     simp only [pE]
     simp only [e0, e1, e2, e3, e4, e5, e6, e7, e8, e9, e10, e11, e12, e13, e14, e15, e16, e17, e18, e19, e20, e21, e22, e23, e24, e25]
     clear e0 e1 e2 e3 e4 e5 e6 e7 e8 e9 e10 e11 e12 e13 e14 e15 e16 e17 e18 e19 e20 e21 e22 e23 e24 e25
     clear hb0 hb1 hb2 hb3 hb4 hb5 hb6 hb7 hb8 hb9 hb10 hb11 hb12 hb13 hb14 hb15 hb16 hb17 hb18 hb19 hb20 hb21 hb22 hb23 hb24 hb25
     clear zB zS
     have HF := mkHid (HNX.out _ hW (by rfl))
     clear hW hcA hcN HNX
     go_wp2
     go_roundg R.length
     case measure => exact hgR
     case rel => exact ⟨P1 ++ [(Xa, ka)], Xn, kn, R, rfl, Nat.le_refl _, HF.out⟩
   ·obtain ⟨bn, hbn⟩ : ∃ z, decide (vv = noneV) = z := ⟨_, rfl⟩
    obtain ⟨bq, hbq⟩ : ∃ z, anyB f ln l 0 = z := ⟨_, rfl⟩
    have HBN := mkHid hbn
    have HBQ := mkHid hbq
    have HNV : Hid (bn = false → ¬ (vv.1 = 1 ∧ vv.2.1 = 0 ∧ vv.2.2 = true)) := mkHid (fun e => vne (by rw [e] at hbn; exact of_decide_eq_false hbn))
    have HYV : Hid (bn = true → vv.1 = 1 ∧ vv.2.1 = 0 ∧ vv.2.2 = true) := mkHid (fun e => by rw [e] at hbn; rw [of_decide_eq_true hbn]; exact ⟨rfl, rfl, rfl⟩)
    clear hbn hbq
    refine wp_region_inv2 (fun zA0 L zA v9 => ∃ (zB : Nat → Bool) (zS : Nat → Value), L = #[zB 0, zB 1, zB 2, zB 3, zB 4, zB 5, zB 6, zB 7, zB 8, zB 9, zB 10, zB 11, zB 12, zB 13, zB 14, zB 15, zB 16, zB 17, zB 18, zB 19, zB 20, zB 21, zB 22, zB 23, zB 24, zB 25] ∧ zA = puts zA0 [(16, zS 16), (17, zS 17), (18, zS 18), (19, zS 19), (20, zS 20), (21, zS 21), (22, zS 22), (23, zS 23), (24, zS 24), (25, zS 25), (26, zS 26), (27, zS 27), (28, zS 28), (29, zS 29), (30, zS 30), (31, zS 31), (32, zS 32), (33, zS 33), (34, zS 34), (35, zS 35), (36, zS 36), (37, zS 37), (38, zS 38), (39, zS 39), (40, zS 40), (41, zS 41)] ∧ FF 16 [.pointer (some ⟨Xa, 0, none⟩), .pointer (some ⟨Xa, 0, none⟩), .pointer (some ⟨Xa, 5, none⟩), .bool true, .bool true, .pointer (some ⟨Xa, 0, none⟩), .pointer (some ⟨Xa, 0, none⟩), .pointer (some ⟨Xa, 2, none⟩), .agg #[.int .i64 vv.1, .int .i64 vv.2.1, .bool vv.2.2], .agg #[.int .i64 1, .int .i64 0, .bool true], .bool bn, .bool bn, sel bn undef (.agg (Q.dA n G)), sel bn undef (.pointer (some ⟨Xn, 0, none⟩)), sel bn undef (.pointer (some ⟨Xn, 0, none⟩)), sel bn undef (.pointer (some ⟨Xn, 0, none⟩)), sel bn undef (.pointer (some ⟨Xn, 0, none⟩)), sel bn undef (.slice an ln.length cn), sel bn undef (.pointer (some ⟨Xa, 0, none⟩)), sel bn undef (.pointer (some ⟨Xa, 0, none⟩)), sel bn undef (.pointer (some ⟨Xa, 0, none⟩)), sel bn undef (.pointer (some ⟨Xa, 0, none⟩)), sel bn undef (.slice ao l.length cap), sel bn undef (.bool bq), .bool (bn || bq), .bool (bn || bq)] zB zS ∧ Below wr.heap.size wr v9) (by kernel_rfl) ?_ ?_ ?_
    ·exact ⟨fun _ => false, fun zd => [u16, u17, u18, u19, u20, u21, u22, u23, u24, u25, u26, u27, u28, u29, u30, u31, u32, u33, u34, u35, u36, u37, u38, u39, u40, u41].getD (zd - 16) undef, rfl, by kernel_rfl, ff0, (Below.refl _ _).drew⟩
    ·refine StepsI.cons rfl ?_ ?_
     ·rintro L zA v9 ⟨zB, zS, rfl, rfl, hF, hW⟩ hL hm K hK
      have hb0 : zB 0 = false := by simpa using hL
      clear hL hm
      simp only [pE]
      have HWz := mkHid hW
      clear hW
      go_simp
      have hW := HWz.out
      clear HWz
      exact hK.out _ _ ⟨ups zB [0], upv _ _ zS [0], rfl, by kernel_rfl, rk hF rfl, hW⟩
     refine StepsI.cons rfl ?_ ?_
     ·rintro L zA v9 ⟨zB, zS, rfl, rfl, hF, hW⟩ hL hm K hK
      have hb1 : zB 1 = false := by simpa using hL
      have hb0 : zB 0 = true := mt 0 hm (by kernel_rfl)
      have e0 : zS 16 = .pointer (some ⟨Xa, 0, none⟩) := hF 0 _ rfl hb0
      clear hL hm
      simp only [pE]
      simp only [e0]
      have HWz := mkHid hW
      clear hW
      go_simp
      have hW := HWz.out
      clear HWz
      exact hK.out _ _ ⟨ups zB [1], upv _ _ zS [1, 0], rfl, by kernel_rfl, rk hF rfl, hW⟩
     refine StepsI.cons rfl ?_ ?_
     ·rintro L zA v9 ⟨zB, zS, rfl, rfl, hF, hW⟩ hL hm K hK
      have hb2 : zB 2 = false := by simpa using hL
      have hb1 : zB 1 = true := mt 1 hm (by kernel_rfl)
      have e1 : zS 17 = .pointer (some ⟨Xa, 0, none⟩) := hF 1 _ rfl hb1
      clear hL hm
      simp only [pE]
      simp only [e1]
      have HWz := mkHid hW
      clear hW
      go_simp
      have hW := HWz.out
      clear HWz
      exact hK.out _ _ ⟨ups zB [2], upv _ _ zS [2, 1], rfl, by kernel_rfl, rk hF rfl, hW⟩
     refine StepsI.cons rfl ?_ ?_
     ·rintro L zA v9 ⟨zB, zS, rfl, rfl, hF, hW⟩ hL hm K hK
      have hb3 : zB 3 = false := by simpa using hL
      have hb2 : zB 2 = true := mt 2 hm (by kernel_rfl)
      have e2 : zS 18 = .pointer (some ⟨Xa, 5, none⟩) := hF 2 _ rfl hb2
      clear hL hm
      simp only [pE]
      simp only [e2]
      obtain ⟨_, _, _, _, _, c5, _, _, _, _, _, _, _, _⟩ := hcA _ hW
      have HWz := mkHid hW
      clear hW
      go_simp
      have hW := HWz.out
      clear HWz
      exact hK.out _ _ ⟨ups zB [3], upv _ _ zS [3, 2], rfl, by kernel_rfl, rk hF rfl, hW⟩
     refine StepsI.cons rfl ?_ ?_
     ·rintro L zA v9 ⟨zB, zS, rfl, rfl, hF, hW⟩ hL hm K hK
      have hb4 : zB 4 = false := by simpa using hL
      have hb3 : zB 3 = true := mt 3 hm (by kernel_rfl)
      have e3 : zS 19 = .bool true := hF 3 _ rfl hb3
      clear hL hm
      simp only [pE]
      simp only [e3]
      have HWz := mkHid hW
      clear hW
      go_simp
      have hW := HWz.out
      clear HWz
      exact hK.out _ _ ⟨ups zB [4], upv _ _ zS [4, 3], rfl, by kernel_rfl, rk hF rfl, hW⟩
     refine StepsI.cons rfl ?_ ?_
     ·rintro L zA v9 ⟨zB, zS, rfl, rfl, hF, hW⟩ hL hm K hK
      have hb5 : zB 5 = false := by simpa using hL
      have hb4 : zB 4 = true := mt 4 hm (by kernel_rfl)
      have e4 : zS 20 = .bool true := hF 4 _ rfl hb4
      clear hL hm
      simp only [pE]
      simp only [e4]
      have HWz := mkHid hW
      clear hW
      go_simp
      have hW := HWz.out
      clear HWz
      exact hK.out _ _ ⟨ups zB [5], upv _ _ zS [5, 4], rfl, by kernel_rfl, rk hF rfl, hW⟩
     refine StepsI.cons rfl ?_ ?_
     ·rintro L zA v9 ⟨zB, zS, rfl, rfl, hF, hW⟩ hL hm K hK
      have hb6 : zB 6 = false := by simpa using hL
      have hb4 : zB 4 = true := mt 4 hm (by kernel_rfl)
      have hb5 : zB 5 = true := mt 5 hm (by kernel_rfl)
      have e4 : zS 20 = .bool true := hF 4 _ rfl hb4
      have e5 : zS 21 = .pointer (some ⟨Xa, 0, none⟩) := hF 5 _ rfl hb5
      clear hL hm
      simp only [pE]
      simp only [e4, e5]
      have HWz := mkHid hW
      clear hW
      go_simp
      have hW := HWz.out
      clear HWz
      exact hK.out _ _ ⟨ups zB [6], upv _ _ zS [6, 5, 4], rfl, by kernel_rfl, rk hF rfl, hW⟩
     refine StepsI.cons rfl ?_ ?_
     ·rintro L zA v9 ⟨zB, zS, rfl, rfl, hF, hW⟩ hL hm K hK
      have hb7 : zB 7 = false := by simpa using hL
      have hb4 : zB 4 = true := mt 4 hm (by kernel_rfl)
      have hb6 : zB 6 = true := mt 6 hm (by kernel_rfl)
      have e4 : zS 20 = .bool true := hF 4 _ rfl hb4
      have e6 : zS 22 = .pointer (some ⟨Xa, 0, none⟩) := hF 6 _ rfl hb6
      clear hL hm
      simp only [pE]
      simp only [e4, e6]
      have HWz := mkHid hW
      clear hW
      go_simp
      have hW := HWz.out
      clear HWz
      exact hK.out _ _ ⟨ups zB [7], upv _ _ zS [7, 6, 4], rfl, by kernel_rfl, rk hF rfl, hW⟩
     refine StepsI.cons rfl ?_ ?_
     ·rintro L zA v9 ⟨zB, zS, rfl, rfl, hF, hW⟩ hL hm K hK
      have hb8 : zB 8 = false := by simpa using hL
      have hb4 : zB 4 = true := mt 4 hm (by kernel_rfl)
      have hb7 : zB 7 = true := mt 7 hm (by kernel_rfl)
      have e4 : zS 20 = .bool true := hF 4 _ rfl hb4
      have e7 : zS 23 = .pointer (some ⟨Xa, 2, none⟩) := hF 7 _ rfl hb7
      clear hL hm
      simp only [pE]
      simp only [e4, e7]
      obtain ⟨_, _, c2, c3, c4, _, _, _, _, _, _, _, _, _⟩ := hcA _ hW
      have HWz := mkHid hW
      clear hW
      go_simp
      have hW := HWz.out
      clear HWz
      exact hK.out _ _ ⟨ups zB [8], upv _ _ zS [8, 7, 4], rfl, by kernel_rfl, rk hF rfl, hW⟩
     refine StepsI.cons rfl ?_ ?_
     ·rintro L zA v9 ⟨zB, zS, rfl, rfl, hF, hW⟩ hL hm K hK
      have hb9 : zB 9 = false := by simpa using hL
      have hb4 : zB 4 = true := mt 4 hm (by kernel_rfl)
      have e4 : zS 20 = .bool true := hF 4 _ rfl hb4
      clear hL hm
      simp only [pE]
      simp only [e4]
      have HWz := mkHid hW
      clear hW
      go_simp
      have hW := HWz.out
      clear HWz
      refine (iVnone_any _).mono ?_
      rintro e v92 ⟨rfl, hb⟩
      have HWz := mkHid hW
      clear hW
      go_wp2_with fail
      have hW := HWz.out
      clear HWz
      exact hK.out _ _ ⟨ups zB [9], upv _ _ zS [9, 4], rfl, by kernel_rfl, rk hF rfl, below_step hW hb⟩
     refine StepsI.cons rfl ?_ ?_
     ·rintro L zA v9 ⟨zB, zS, rfl, rfl, hF, hW⟩ hL hm K hK
      cases bn
      ·have hb10 : zB 10 = false := by simpa using hL
       have hb4 : zB 4 = true := mt 4 hm (by kernel_rfl)
       have hb8 : zB 8 = true := mt 8 hm (by kernel_rfl)
       have hb9 : zB 9 = true := mt 9 hm (by kernel_rfl)
       have e4 : zS 20 = .bool true := hF 4 _ rfl hb4
       have e8 : zS 24 = .agg #[.int .i64 vv.1, .int .i64 vv.2.1, .bool vv.2.2] := hF 8 _ rfl hb8
       have e9 : zS 25 = .agg #[.int .i64 1, .int .i64 0, .bool true] := hF 9 _ rfl hb9
       clear hL hm
       simp only [pE]
       simp only [e4, e8, e9]
       try simp only [sel]
       have HWz := mkHid hW
       clear hW
       go_simp
       have hW := HWz.out
       clear HWz
       rw [ite3 (HNV.out rfl)]
       have HWz := mkHid hW
       clear hW
       go_simp
       have hW := HWz.out
       clear HWz
       exact hK.out _ _ ⟨ups zB [10], upv _ _ zS [10, 9, 8, 4], rfl, by kernel_rfl, rk hF rfl, hW⟩
      ·have hb10 : zB 10 = false := by simpa using hL
       have hb4 : zB 4 = true := mt 4 hm (by kernel_rfl)
       have hb8 : zB 8 = true := mt 8 hm (by kernel_rfl)
       have hb9 : zB 9 = true := mt 9 hm (by kernel_rfl)
       have e4 : zS 20 = .bool true := hF 4 _ rfl hb4
       have e8 : zS 24 = .agg #[.int .i64 vv.1, .int .i64 vv.2.1, .bool vv.2.2] := hF 8 _ rfl hb8
       have e9 : zS 25 = .agg #[.int .i64 1, .int .i64 0, .bool true] := hF 9 _ rfl hb9
       clear hL hm
       simp only [pE]
       simp only [e4, e8, e9]
       try simp only [sel]
       have HWz := mkHid hW
       clear hW
       go_simp
       have hW := HWz.out
       clear HWz
       rw [ite3t (HYV.out rfl)]
       have HWz := mkHid hW
       clear hW
       go_simp
       have hW := HWz.out
       clear HWz
       exact hK.out _ _ ⟨ups zB [10], upv _ _ zS [10, 9, 8, 4], rfl, by kernel_rfl, rk hF rfl, hW⟩
     refine StepsI.cons rfl ?_ ?_
     ·rintro L zA v9 ⟨zB, zS, rfl, rfl, hF, hW⟩ hL hm K hK
      cases bn
      ·have hb11 : zB 11 = false := by simpa using hL
       have hb4 : zB 4 = true := mt 4 hm (by kernel_rfl)
       have hb10 : zB 10 = true := mt 10 hm (by kernel_rfl)
       have e4 : zS 20 = .bool true := hF 4 _ rfl hb4
       have e10 : zS 26 = .bool false := hF 10 _ rfl hb10
       clear hL hm
       simp only [pE]
       simp only [e4, e10]
       try simp only [sel]
       have HWz := mkHid hW
       clear hW
       go_simp
       have hW := HWz.out
       clear HWz
       exact hK.out _ _ ⟨ups zB [11], upv _ _ zS [11, 10, 4], rfl, by kernel_rfl, rk hF rfl, hW⟩
      ·have hb11 : zB 11 = false := by simpa using hL
       have hb4 : zB 4 = true := mt 4 hm (by kernel_rfl)
       have hb10 : zB 10 = true := mt 10 hm (by kernel_rfl)
       have e4 : zS 20 = .bool true := hF 4 _ rfl hb4
       have e10 : zS 26 = .bool true := hF 10 _ rfl hb10
       clear hL hm
       simp only [pE]
       simp only [e4, e10]
       try simp only [sel]
       have HWz := mkHid hW
       clear hW
       go_simp
       have hW := HWz.out
       clear HWz
       exact hK.out _ _ ⟨ups zB [11], upv _ _ zS [11, 10, 4], rfl, by kernel_rfl, rk hF rfl, hW⟩
     refine StepsI.cons rfl ?_ ?_
     ·rintro L zA v9 ⟨zB, zS, rfl, rfl, hF, hW⟩ hL hm K hK
      cases bn
      ·have hb12 : zB 12 = false := by simpa using hL
       have hb11 : zB 11 = true := mt 11 hm (by kernel_rfl)
       have e11 : zS 27 = .bool false := hF 11 _ rfl hb11
       clear hL hm
       simp only [pE]
       simp only [e11]
       try simp only [sel]
       refine wpo_dif (HQD.out.below hW) rfl rfl ?_
       exact hK.out _ _ ⟨ups zB [12], upv _ _ zS [12, 11], rfl, by kernel_rfl, rk hF rfl, hW⟩
      ·have hb12 : zB 12 = false := by simpa using hL
       have hb11 : zB 11 = true := mt 11 hm (by kernel_rfl)
       have e11 : zS 27 = .bool true := hF 11 _ rfl hb11
       clear hL hm
       simp only [pE]
       simp only [e11]
       try simp only [sel]
       rw [if_neg (by exact Bool.false_ne_true)]
       exact hK.out _ _ ⟨ups zB [12], upv _ _ zS [12, 11], rfl, by kernel_rfl, rk hF rfl, hW⟩
     refine StepsI.cons rfl ?_ ?_
     ·rintro L zA v9 ⟨zB, zS, rfl, rfl, hF, hW⟩ hL hm K hK
      cases bn
      ·have hb13 : zB 13 = false := by simpa using hL
       have hb11 : zB 11 = true := mt 11 hm (by kernel_rfl)
       have e11 : zS 27 = .bool false := hF 11 _ rfl hb11
       clear hL hm
       simp only [pE]
       simp only [e11]
       try simp only [sel]
       have HWz := mkHid hW
       clear hW
       go_simp
       have hW := HWz.out
       clear HWz
       exact hK.out _ _ ⟨ups zB [13], upv _ _ zS [13, 11], rfl, by kernel_rfl, rk hF rfl, hW⟩
      ·have hb13 : zB 13 = false := by simpa using hL
       have hb11 : zB 11 = true := mt 11 hm (by kernel_rfl)
       have e11 : zS 27 = .bool true := hF 11 _ rfl hb11
       clear hL hm
       simp only [pE]
       simp only [e11]
       try simp only [sel]
       rw [if_neg (by exact Bool.false_ne_true)]
       exact hK.out _ _ ⟨ups zB [13], upv _ _ zS [13, 11], rfl, by kernel_rfl, rk hF rfl, hW⟩
     refine StepsI.cons rfl ?_ ?_
     ·rintro L zA v9 ⟨zB, zS, rfl, rfl, hF, hW⟩ hL hm K hK
      cases bn
      ·have hb14 : zB 14 = false := by simpa using hL
       have hb11 : zB 11 = true := mt 11 hm (by kernel_rfl)
       have hb13 : zB 13 = true := mt 13 hm (by kernel_rfl)
       have e11 : zS 27 = .bool false := hF 11 _ rfl hb11
       have e13 : zS 29 = sel false undef (.pointer (some ⟨Xn, 0, none⟩)) := hF 13 _ rfl hb13
       clear hL hm
       simp only [pE]
       simp only [e11, e13]
       try simp only [sel]
       have HWz := mkHid hW
       clear hW
       go_simp
       have hW := HWz.out
       clear HWz
       exact hK.out _ _ ⟨ups zB [14], upv _ _ zS [14, 13, 11], rfl, by kernel_rfl, rk hF rfl, hW⟩
      ·have hb14 : zB 14 = false := by simpa using hL
       have hb11 : zB 11 = true := mt 11 hm (by kernel_rfl)
       have e11 : zS 27 = .bool true := hF 11 _ rfl hb11
       clear hL hm
       simp only [pE]
       simp only [e11]
       try simp only [sel]
       rw [if_neg (by exact Bool.false_ne_true)]
       exact hK.out _ _ ⟨ups zB [14], upv _ _ zS [14, 11], rfl, by kernel_rfl, rk hF rfl, hW⟩
     refine StepsI.cons rfl ?_ ?_
     ·rintro L zA v9 ⟨zB, zS, rfl, rfl, hF, hW⟩ hL hm K hK
      cases bn
      ·have hb15 : zB 15 = false := by simpa using hL
       have hb11 : zB 11 = true := mt 11 hm (by kernel_rfl)
       have hb14 : zB 14 = true := mt 14 hm (by kernel_rfl)
       have e11 : zS 27 = .bool false := hF 11 _ rfl hb11
       have e14 : zS 30 = sel false undef (.pointer (some ⟨Xn, 0, none⟩)) := hF 14 _ rfl hb14
       clear hL hm
       simp only [pE]
       simp only [e11, e14]
       try simp only [sel]
       have HWz := mkHid hW
       clear hW
       go_simp
       have hW := HWz.out
       clear HWz
       exact hK.out _ _ ⟨ups zB [15], upv _ _ zS [15, 14, 11], rfl, by kernel_rfl, rk hF rfl, hW⟩
      ·have hb15 : zB 15 = false := by simpa using hL
       have hb11 : zB 11 = true := mt 11 hm (by kernel_rfl)
       have e11 : zS 27 = .bool true := hF 11 _ rfl hb11
       clear hL hm
       simp only [pE]
       simp only [e11]
       try simp only [sel]
       rw [if_neg (by exact Bool.false_ne_true)]
       exact hK.out _ _ ⟨ups zB [15], upv _ _ zS [15, 11], rfl, by kernel_rfl, rk hF rfl, hW⟩
     refine StepsI.cons rfl ?_ ?_
     ·rintro L zA v9 ⟨zB, zS, rfl, rfl, hF, hW⟩ hL hm K hK
      cases bn
      ·have hb16 : zB 16 = false := by simpa using hL
       have hb11 : zB 11 = true := mt 11 hm (by kernel_rfl)
       have hb15 : zB 15 = true := mt 15 hm (by kernel_rfl)
       have e11 : zS 27 = .bool false := hF 11 _ rfl hb11
       have e15 : zS 31 = sel false undef (.pointer (some ⟨Xn, 0, none⟩)) := hF 15 _ rfl hb15
       clear hL hm
       simp only [pE]
       simp only [e11, e15]
       try simp only [sel]
       have HWz := mkHid hW
       clear hW
       go_simp
       have hW := HWz.out
       clear HWz
       exact hK.out _ _ ⟨ups zB [16], upv _ _ zS [16, 15, 11], rfl, by kernel_rfl, rk hF rfl, hW⟩
      ·have hb16 : zB 16 = false := by simpa using hL
       have hb11 : zB 11 = true := mt 11 hm (by kernel_rfl)
       have e11 : zS 27 = .bool true := hF 11 _ rfl hb11
       clear hL hm
       simp only [pE]
       simp only [e11]
       try simp only [sel]
       rw [if_neg (by exact Bool.false_ne_true)]
       exact hK.out _ _ ⟨ups zB [16], upv _ _ zS [16, 11], rfl, by kernel_rfl, rk hF rfl, hW⟩
     refine StepsI.cons rfl ?_ ?_
     ·rintro L zA v9 ⟨zB, zS, rfl, rfl, hF, hW⟩ hL hm K hK
      cases bn
      ·have hb17 : zB 17 = false := by simpa using hL
       have hb11 : zB 11 = true := mt 11 hm (by kernel_rfl)
       have hb16 : zB 16 = true := mt 16 hm (by kernel_rfl)
       have e11 : zS 27 = .bool false := hF 11 _ rfl hb11
       have e16 : zS 32 = sel false undef (.pointer (some ⟨Xn, 0, none⟩)) := hF 16 _ rfl hb16
       clear hL hm
       simp only [pE]
       simp only [e11, e16]
       try simp only [sel]
       have c0 := (hcN _ hW).c0
       have HWz := mkHid hW
       clear hW
       go_simp
       have hW := HWz.out
       clear HWz
       exact hK.out _ _ ⟨ups zB [17], upv _ _ zS [17, 16, 11], rfl, by kernel_rfl, rk hF rfl, hW⟩
      ·have hb17 : zB 17 = false := by simpa using hL
       have hb11 : zB 11 = true := mt 11 hm (by kernel_rfl)
       have e11 : zS 27 = .bool true := hF 11 _ rfl hb11
       clear hL hm
       simp only [pE]
       simp only [e11]
       try simp only [sel]
       rw [if_neg (by exact Bool.false_ne_true)]
       exact hK.out _ _ ⟨ups zB [17], upv _ _ zS [17, 11], rfl, by kernel_rfl, rk hF rfl, hW⟩
     refine StepsI.cons rfl ?_ ?_
     ·rintro L zA v9 ⟨zB, zS, rfl, rfl, hF, hW⟩ hL hm K hK
      cases bn
      ·have hb18 : zB 18 = false := by simpa using hL
       have hb11 : zB 11 = true := mt 11 hm (by kernel_rfl)
       have e11 : zS 27 = .bool false := hF 11 _ rfl hb11
       clear hL hm
       simp only [pE]
       simp only [e11]
       try simp only [sel]
       have HWz := mkHid hW
       clear hW
       go_simp
       have hW := HWz.out
       clear HWz
       exact hK.out _ _ ⟨ups zB [18], upv _ _ zS [18, 11], rfl, by kernel_rfl, rk hF rfl, hW⟩
      ·have hb18 : zB 18 = false := by simpa using hL
       have hb11 : zB 11 = true := mt 11 hm (by kernel_rfl)
       have e11 : zS 27 = .bool true := hF 11 _ rfl hb11
       clear hL hm
       simp only [pE]
       simp only [e11]
       try simp only [sel]
       rw [if_neg (by exact Bool.false_ne_true)]
       exact hK.out _ _ ⟨ups zB [18], upv _ _ zS [18, 11], rfl, by kernel_rfl, rk hF rfl, hW⟩
     refine StepsI.cons rfl ?_ ?_
     ·rintro L zA v9 ⟨zB, zS, rfl, rfl, hF, hW⟩ hL hm K hK
      cases bn
      ·have hb19 : zB 19 = false := by simpa using hL
       have hb11 : zB 11 = true := mt 11 hm (by kernel_rfl)
       have hb18 : zB 18 = true := mt 18 hm (by kernel_rfl)
       have e11 : zS 27 = .bool false := hF 11 _ rfl hb11
       have e18 : zS 34 = sel false undef (.pointer (some ⟨Xa, 0, none⟩)) := hF 18 _ rfl hb18
       clear hL hm
       simp only [pE]
       simp only [e11, e18]
       try simp only [sel]
       have HWz := mkHid hW
       clear hW
       go_simp
       have hW := HWz.out
       clear HWz
       exact hK.out _ _ ⟨ups zB [19], upv _ _ zS [19, 18, 11], rfl, by kernel_rfl, rk hF rfl, hW⟩
      ·have hb19 : zB 19 = false := by simpa using hL
       have hb11 : zB 11 = true := mt 11 hm (by kernel_rfl)
       have e11 : zS 27 = .bool true := hF 11 _ rfl hb11
       clear hL hm
       simp only [pE]
       simp only [e11]
       try simp only [sel]
       rw [if_neg (by exact Bool.false_ne_true)]
       exact hK.out _ _ ⟨ups zB [19], upv _ _ zS [19, 11], rfl, by kernel_rfl, rk hF rfl, hW⟩
     refine StepsI.cons rfl ?_ ?_
     ·rintro L zA v9 ⟨zB, zS, rfl, rfl, hF, hW⟩ hL hm K hK
      cases bn
      ·have hb20 : zB 20 = false := by simpa using hL
       have hb11 : zB 11 = true := mt 11 hm (by kernel_rfl)
       have hb19 : zB 19 = true := mt 19 hm (by kernel_rfl)
       have e11 : zS 27 = .bool false := hF 11 _ rfl hb11
       have e19 : zS 35 = sel false undef (.pointer (some ⟨Xa, 0, none⟩)) := hF 19 _ rfl hb19
       clear hL hm
       simp only [pE]
       simp only [e11, e19]
       try simp only [sel]
       have HWz := mkHid hW
       clear hW
       go_simp
       have hW := HWz.out
       clear HWz
       exact hK.out _ _ ⟨ups zB [20], upv _ _ zS [20, 19, 11], rfl, by kernel_rfl, rk hF rfl, hW⟩
      ·have hb20 : zB 20 = false := by simpa using hL
       have hb11 : zB 11 = true := mt 11 hm (by kernel_rfl)
       have e11 : zS 27 = .bool true := hF 11 _ rfl hb11
       clear hL hm
       simp only [pE]
       simp only [e11]
       try simp only [sel]
       rw [if_neg (by exact Bool.false_ne_true)]
       exact hK.out _ _ ⟨ups zB [20], upv _ _ zS [20, 11], rfl, by kernel_rfl, rk hF rfl, hW⟩
     refine StepsI.cons rfl ?_ ?_
     ·rintro L zA v9 ⟨zB, zS, rfl, rfl, hF, hW⟩ hL hm K hK
      cases bn
      ·have hb21 : zB 21 = false := by simpa using hL
       have hb11 : zB 11 = true := mt 11 hm (by kernel_rfl)
       have hb20 : zB 20 = true := mt 20 hm (by kernel_rfl)
       have e11 : zS 27 = .bool false := hF 11 _ rfl hb11
       have e20 : zS 36 = sel false undef (.pointer (some ⟨Xa, 0, none⟩)) := hF 20 _ rfl hb20
       clear hL hm
       simp only [pE]
       simp only [e11, e20]
       try simp only [sel]
       have HWz := mkHid hW
       clear hW
       go_simp
       have hW := HWz.out
       clear HWz
       exact hK.out _ _ ⟨ups zB [21], upv _ _ zS [21, 20, 11], rfl, by kernel_rfl, rk hF rfl, hW⟩
      ·have hb21 : zB 21 = false := by simpa using hL
       have hb11 : zB 11 = true := mt 11 hm (by kernel_rfl)
       have e11 : zS 27 = .bool true := hF 11 _ rfl hb11
       clear hL hm
       simp only [pE]
       simp only [e11]
       try simp only [sel]
       rw [if_neg (by exact Bool.false_ne_true)]
       exact hK.out _ _ ⟨ups zB [21], upv _ _ zS [21, 11], rfl, by kernel_rfl, rk hF rfl, hW⟩
     refine StepsI.cons rfl ?_ ?_
     ·rintro L zA v9 ⟨zB, zS, rfl, rfl, hF, hW⟩ hL hm K hK
      cases bn
      ·have hb22 : zB 22 = false := by simpa using hL
       have hb11 : zB 11 = true := mt 11 hm (by kernel_rfl)
       have hb21 : zB 21 = true := mt 21 hm (by kernel_rfl)
       have e11 : zS 27 = .bool false := hF 11 _ rfl hb11
       have e21 : zS 37 = sel false undef (.pointer (some ⟨Xa, 0, none⟩)) := hF 21 _ rfl hb21
       clear hL hm
       simp only [pE]
       simp only [e11, e21]
       try simp only [sel]
       have c0 := (hcA _ hW).c0
       have HWz := mkHid hW
       clear hW
       go_simp
       have hW := HWz.out
       clear HWz
       exact hK.out _ _ ⟨ups zB [22], upv _ _ zS [22, 21, 11], rfl, by kernel_rfl, rk hF rfl, hW⟩
      ·have hb22 : zB 22 = false := by simpa using hL
       have hb11 : zB 11 = true := mt 11 hm (by kernel_rfl)
       have e11 : zS 27 = .bool true := hF 11 _ rfl hb11
       clear hL hm
       simp only [pE]
       simp only [e11]
       try simp only [sel]
       rw [if_neg (by exact Bool.false_ne_true)]
       exact hK.out _ _ ⟨ups zB [22], upv _ _ zS [22, 11], rfl, by kernel_rfl, rk hF rfl, hW⟩
     refine StepsI.cons rfl ?_ ?_
     ·rintro L zA v9 ⟨zB, zS, rfl, rfl, hF, hW⟩ hL hm K hK
      cases bn
      ·have hb23 : zB 23 = false := by simpa using hL
       have hb11 : zB 11 = true := mt 11 hm (by kernel_rfl)
       have hb12 : zB 12 = true := mt 12 hm (by kernel_rfl)
       have hb17 : zB 17 = true := mt 17 hm (by kernel_rfl)
       have hb22 : zB 22 = true := mt 22 hm (by kernel_rfl)
       have e11 : zS 27 = .bool false := hF 11 _ rfl hb11
       have e12 : zS 28 = sel false undef (.agg (Q.dA n G)) := hF 12 _ rfl hb12
       have e17 : zS 33 = sel false undef (.slice an ln.length cn) := hF 17 _ rfl hb17
       have e22 : zS 38 = sel false undef (.slice ao l.length cap) := hF 22 _ rfl hb22
       clear hL hm
       simp only [pE]
       simp only [e11, e12, e17, e22]
       try simp only [sel]
       have HWz := mkHid hW
       clear hW
       go_simp
       have hW := HWz.out
       clear HWz
       refine (HAB.out ln l an ao cn cap _ HLNN.out HLN.out HWN.out HWA.out (HON.out.below hW).at (HOW.out.below hW).at).mono ?_
       rintro e v92 ⟨rfl, hb⟩
       rw [HBQ.out]
       have HWz := mkHid hW
       clear hW
       go_wp2_with fail
       have hW := HWz.out
       clear HWz
       exact hK.out _ _ ⟨ups zB [23], upv _ _ zS [23, 22, 17, 12, 11], rfl, by kernel_rfl, rk hF rfl, below_step hW hb⟩
      ·have hb23 : zB 23 = false := by simpa using hL
       have hb11 : zB 11 = true := mt 11 hm (by kernel_rfl)
       have e11 : zS 27 = .bool true := hF 11 _ rfl hb11
       clear hL hm
       simp only [pE]
       simp only [e11]
       try simp only [sel]
       rw [if_neg (by exact Bool.false_ne_true)]
       exact hK.out _ _ ⟨ups zB [23], upv _ _ zS [23, 11], rfl, by kernel_rfl, rk hF rfl, hW⟩
     refine StepsI.cons rfl ?_ ?_
     ·rintro L zA v9 ⟨zB, zS, rfl, rfl, hF, hW⟩ hL hm K hK
      cases bn
      ·have hb24 : zB 24 = false := by simpa using hL
       have hb4 : zB 4 = true := mt 4 hm (by kernel_rfl)
       have hb11 : zB 11 = true := mt 11 hm (by kernel_rfl)
       have hb23 : zB 23 = true := mt 23 hm (by kernel_rfl)
       have e4 : zS 20 = .bool true := hF 4 _ rfl hb4
       have e11 : zS 27 = .bool false := hF 11 _ rfl hb11
       have e23 : zS 39 = sel false undef (.bool bq) := hF 23 _ rfl hb23
       clear hL hm
       simp only [pE]
       simp only [e4, e11, e23]
       try simp only [sel]
       have HWz := mkHid hW
       clear hW
       go_simp
       have hW := HWz.out
       clear HWz
       exact hK.out _ _ ⟨ups zB [24], upv _ _ zS [24, 23, 11, 4], rfl, by kernel_rfl, rk hF rfl, hW⟩
      ·have hb24 : zB 24 = false := by simpa using hL
       have hb4 : zB 4 = true := mt 4 hm (by kernel_rfl)
       have hb11 : zB 11 = true := mt 11 hm (by kernel_rfl)
       have hb23 : zB 23 = true := mt 23 hm (by kernel_rfl)
       have e4 : zS 20 = .bool true := hF 4 _ rfl hb4
       have e11 : zS 27 = .bool true := hF 11 _ rfl hb11
       have e23 : zS 39 = sel true undef (.bool bq) := hF 23 _ rfl hb23
       clear hL hm
       simp only [pE]
       simp only [e4, e11, e23]
       try simp only [sel]
       have HWz := mkHid hW
       clear hW
       go_simp
       have hW := HWz.out
       clear HWz
       exact hK.out _ _ ⟨ups zB [24], upv _ _ zS [24, 23, 11, 4], rfl, by kernel_rfl, rk hF rfl, hW⟩
     refine StepsI.cons rfl ?_ ?_
     ·rintro L zA v9 ⟨zB, zS, rfl, rfl, hF, hW⟩ hL hm K hK
      cases bn
      ·have hb25 : zB 25 = false := by simpa using hL
       have hb4 : zB 4 = true := mt 4 hm (by kernel_rfl)
       have hb24 : zB 24 = true := mt 24 hm (by kernel_rfl)
       have e4 : zS 20 = .bool true := hF 4 _ rfl hb4
       have e24 : zS 40 = .bool (false || bq) := hF 24 _ rfl hb24
       clear hL hm
       simp only [pE]
       simp only [e4, e24]
       try simp only [sel]
       have HWz := mkHid hW
       clear hW
       go_simp
       have hW := HWz.out
       clear HWz
       exact hK.out _ _ ⟨ups zB [25], upv _ _ zS [25, 24, 4], rfl, by kernel_rfl, rk hF rfl, hW⟩
      ·have hb25 : zB 25 = false := by simpa using hL
       have hb4 : zB 4 = true := mt 4 hm (by kernel_rfl)
       have hb24 : zB 24 = true := mt 24 hm (by kernel_rfl)
       have e4 : zS 20 = .bool true := hF 4 _ rfl hb4
       have e24 : zS 40 = .bool (true || bq) := hF 24 _ rfl hb24
       clear hL hm
       simp only [pE]
       simp only [e4, e24]
       try simp only [sel]
       have HWz := mkHid hW
       clear hW
       go_simp
       have hW := HWz.out
       clear HWz
       exact hK.out _ _ ⟨ups zB [25], upv _ _ zS [25, 24, 4], rfl, by kernel_rfl, rk hF rfl, hW⟩
     exact StepsI.nil (by kernel_rfl)
    ·rintro L zA v9 ⟨zB, zS, rfl, rfl, hF, hW⟩ hr
     have hu := all_up (by kernel_rfl) (N := 26) (by kernel_rfl) hr
     have hb0 : zB 0 = true := by simpa using hu 0 (by decide)
     have hb1 : zB 1 = true := by simpa using hu 1 (by decide)
     have hb2 : zB 2 = true := by simpa using hu 2 (by decide)
     have hb3 : zB 3 = true := by simpa using hu 3 (by decide)
     have hb4 : zB 4 = true := by simpa using hu 4 (by decide)
     have hb5 : zB 5 = true := by simpa using hu 5 (by decide)
     have hb6 : zB 6 = true := by simpa using hu 6 (by decide)
     have hb7 : zB 7 = true := by simpa using hu 7 (by decide)
     have hb8 : zB 8 = true := by simpa using hu 8 (by decide)
     have hb9 : zB 9 = true := by simpa using hu 9 (by decide)
     have hb10 : zB 10 = true := by simpa using hu 10 (by decide)
     have hb11 : zB 11 = true := by simpa using hu 11 (by decide)
     have hb12 : zB 12 = true := by simpa using hu 12 (by decide)
     have hb13 : zB 13 = true := by simpa using hu 13 (by decide)
     have hb14 : zB 14 = true := by simpa using hu 14 (by decide)
     have hb15 : zB 15 = true := by simpa using hu 15 (by decide)
     have hb16 : zB 16 = true := by simpa using hu 16 (by decide)
     have hb17 : zB 17 = true := by simpa using hu 17 (by decide)
     have hb18 : zB 18 = true := by simpa using hu 18 (by decide)
     have hb19 : zB 19 = true := by simpa using hu 19 (by decide)
     have hb20 : zB 20 = true := by simpa using hu 20 (by decide)
     have hb21 : zB 21 = true := by simpa using hu 21 (by decide)
     have hb22 : zB 22 = true := by simpa using hu 22 (by decide)
     have hb23 : zB 23 = true := by simpa using hu 23 (by decide)
     have hb24 : zB 24 = true := by simpa using hu 24 (by decide)
     have hb25 : zB 25 = true := by simpa using hu 25 (by decide)
     have e0 : zS 16 = .pointer (some ⟨Xa, 0, none⟩) := hF 0 _ rfl hb0
     have e1 : zS 17 = .pointer (some ⟨Xa, 0, none⟩) := hF 1 _ rfl hb1
     have e2 : zS 18 = .pointer (some ⟨Xa, 5, none⟩) := hF 2 _ rfl hb2
     have e3 : zS 19 = .bool true := hF 3 _ rfl hb3
     have e4 : zS 20 = .bool true := hF 4 _ rfl hb4
     have e5 : zS 21 = .pointer (some ⟨Xa, 0, none⟩) := hF 5 _ rfl hb5
     have e6 : zS 22 = .pointer (some ⟨Xa, 0, none⟩) := hF 6 _ rfl hb6
     have e7 : zS 23 = .pointer (some ⟨Xa, 2, none⟩) := hF 7 _ rfl hb7
     have e8 : zS 24 = .agg #[.int .i64 vv.1, .int .i64 vv.2.1, .bool vv.2.2] := hF 8 _ rfl hb8
     have e9 : zS 25 = .agg #[.int .i64 1, .int .i64 0, .bool true] := hF 9 _ rfl hb9
     have e10 : zS 26 = .bool bn := hF 10 _ rfl hb10
     have e11 : zS 27 = .bool bn := hF 11 _ rfl hb11
     have e24 : zS 40 = .bool (bn || bq) := hF 24 _ rfl hb24
     have e25 : zS 41 = .bool (bn || bq) := hF 25 _ rfl hb25
     clear hu hr hF
     simp only [pE]
     simp only [e0, e1, e2, e3, e4, e5, e6, e7, e8, e9, e10, e11, e24, e25]
     clear e0 e1 e2 e3 e4 e5 e6 e7 e8 e9 e10 e11 e24 e25
     clear hb0 hb1 hb2 hb3 hb4 hb5 hb6 hb7 hb8 hb9 hb10 hb11 hb12 hb13 hb14 hb15 hb16 hb17 hb18 hb19 hb20 hb21 hb22 hb23 hb24 hb25
     obtain ⟨cb, hcb⟩ : ∃ z, (bn || bq) = z := ⟨_, rfl⟩
     rw [hcb]
     have HCT : Hid ((true && (decide (vv = noneV) || anyB f ln l 0)) = cb) := mkHid (by rw [HBN.out, HBQ.out, ← hcb]; rfl)
     clear hcb
     cases cb
     ·have HF := mkHid (HNX.out _ hW HCT.out)
      clear hW hcA hcN HNX
      go_wp2
      go_roundg R.length
      case measure => exact hgR
      case rel => exact ⟨P1 ++ [(Xa, ka)], Xn, kn, R, rfl, Nat.le_refl _, HF.out⟩
     ·have HBM := mkHid hW
      have hz := (hW.block Xa (heap_lt HZA.out)).trans HZA.out
      have hXn := (hW.block Xn (heap_lt HZN.out)).trans HZN.out
      have hat : ∀ v, Only Xa v9 v → At eY v ao l := fun v h => (own_only (HOW.out.below HBM.out) ⟨_, hz⟩ h).at
      have hatn : ∀ v, Only Xa v9 v → At eY v an ln := fun v h => (own_only (HON.out.below HBM.out) ⟨_, hz⟩ h).at
      have hcn : ∀ v, Only Xa v9 v → v.cell? ⟨Xn, 0, none⟩ = some (.slice an ln.length cn) := fun v h => (cel_of ((h.block Xn (heap_lt hXn) (fun e => HNE.out (Option.some.inj e))).trans hXn)).c0
      clear hW hcA hcN
      go_wp2_with fail
      refine wp_region_inv2 (fun zA0 L zA v8 => ∃ (zB : Nat → Bool) (zS : Nat → Value) (g0 : Nat) (gr : Option Addr) (cr : Nat), L = #[zB 0, zB 1, zB 2, zB 3, zB 4, zB 5, zB 6, zB 7, zB 8, zB 9, zB 10, zB 11, zB 12, zB 13, zB 14, zB 15] ∧ zA = puts zA0 [(42, zS 42), (43, zS 43), (44, zS 44), (45, zS 45), (46, zS 46), (47, zS 47), (48, zS 48), (49, zS 49), (50, zS 50), (51, zS 51), (52, zS 52), (53, zS 53), (54, zS 54), (55, zS 55), (56, zS 56)] ∧ ((zB 0 = true → zS 42 = .pointer (some ⟨Xa, 0, none⟩)) ∧ (zB 1 = true → zS 43 = .pointer (some ⟨Xa, 0, none⟩)) ∧ (zB 2 = true → zS 44 = .pointer (some ⟨Xa, 0, none⟩)) ∧ (zB 3 = true → zS 45 = .pointer (some ⟨Xa, 0, none⟩)) ∧ (zB 4 = true → zS 46 = .pointer (some ⟨Xa, 0, none⟩)) ∧ (zB 5 = true → zS 47 = .slice ao l.length cap) ∧ (zB 6 = true → zS 48 = .pointer (some ⟨Xn, 0, none⟩)) ∧ (zB 7 = true → zS 49 = .pointer (some ⟨Xn, 0, none⟩)) ∧ (zB 8 = true → zS 50 = .pointer (some ⟨Xn, 0, none⟩)) ∧ (zB 9 = true → zS 51 = .pointer (some ⟨Xn, 0, none⟩)) ∧ (zB 10 = true → zS 52 = .slice an ln.length cn) ∧ (zB 11 = true → zS 53 = .slice (some ⟨g0, 0, none⟩) 2 2) ∧ (zB 12 = true → zS 54 = .agg #[.slice gr lm.length cr, .func (.func 132) #[] #[]]) ∧ (zB 13 = true → zS 55 = .pointer (some ⟨Xa, 0, none⟩)) ∧ (zB 14 = true → zS 56 = .pointer (some ⟨Xa, 0, none⟩))) ∧ (Only Xa v9 v8) ∧ (v8.heap[Xa]? = some (.cells (lkC (sel (zB 15) (.slice gr lm.length cr) (.slice ao l.length cap)) vv true (some ⟨Xn, 0, none⟩)) 130 (0, 0))) ∧ ((zB 11) = true → (zB 12) = false → BndsAt v8 (some ⟨g0, 0, none⟩) [l, ln]) ∧ ((zB 12) = true → Own eY 49 v8 v9.heap.size (.slice gr lm.length cr) lm) ∧ ((zB 11) = true → (zB 5) = true) ∧ ((zB 15) = true → (zB 12) = true ∧ (zB 11) = true)) (by kernel_rfl) ?_ ?_ ?_
      ·exact ⟨fun _ => false, fun zd => if zd = 56 then u56 else if zd = 55 then u55 else if zd = 54 then u54 else if zd = 53 then u53 else if zd = 52 then u52 else if zd = 51 then u51 else if zd = 50 then u50 else if zd = 49 then u49 else if zd = 48 then u48 else if zd = 47 then u47 else if zd = 46 then u46 else if zd = 45 then u45 else if zd = 44 then u44 else if zd = 43 then u43 else if zd = 42 then u42 else undef, 0, none, 0, rfl, by kernel_rfl, ⟨fun e => ft e, fun e => ft e, fun e => ft e, fun e => ft e, fun e => ft e, fun e => ft e, fun e => ft e, fun e => ft e, fun e => ft e, fun e => ft e, fun e => ft e, fun e => ft e, fun e => ft e, fun e => ft e, fun e => ft e⟩, ⟨(Only.of (Below.refl _ _).drew), hz, fun e => ft e, fun e => ft e, fun e => ft e, fun e => ft e⟩⟩
      ·refine StepsI.cons rfl ?_ ?_
       ·rintro L zA v8 ⟨zB, zS, g0, gr, cr, rfl, rfl, hF, hW⟩ hL hm K hK
        have hb0 : zB 0 = false := by simpa using hL
        clear hL hm
        simp only [pE]
        have HWz := mkHid hW
        clear hW
        go_simp
        have hW := HWz.out
        clear HWz
        exact hK.out _ _ ⟨fun zj => if zj = 0 then true else zB zj, fun zd => if zd = 42 then .pointer (some ⟨Xa, 0, none⟩) else zS zd, g0, gr, cr, rfl, by kernel_rfl, ⟨fun _ => rfl, hF.2.1, hF.2.2.1, hF.2.2.2.1, hF.2.2.2.2.1, hF.2.2.2.2.2.1, hF.2.2.2.2.2.2.1, hF.2.2.2.2.2.2.2.1, hF.2.2.2.2.2.2.2.2.1, hF.2.2.2.2.2.2.2.2.2.1, hF.2.2.2.2.2.2.2.2.2.2.1, hF.2.2.2.2.2.2.2.2.2.2.2.1, hF.2.2.2.2.2.2.2.2.2.2.2.2.1, hF.2.2.2.2.2.2.2.2.2.2.2.2.2.1, hF.2.2.2.2.2.2.2.2.2.2.2.2.2.2⟩, hW⟩
       refine StepsI.cons rfl ?_ ?_
       ·rintro L zA v8 ⟨zB, zS, g0, gr, cr, rfl, rfl, hF, hW⟩ hL hm K hK
        have hb1 : zB 1 = false := by simpa using hL
        clear hL hm
        simp only [pE]
        have HWz := mkHid hW
        clear hW
        go_simp
        have hW := HWz.out
        clear HWz
        exact hK.out _ _ ⟨fun zj => if zj = 1 then true else zB zj, fun zd => if zd = 43 then .pointer (some ⟨Xa, 0, none⟩) else zS zd, g0, gr, cr, rfl, by kernel_rfl, ⟨hF.1, fun _ => rfl, hF.2.2.1, hF.2.2.2.1, hF.2.2.2.2.1, hF.2.2.2.2.2.1, hF.2.2.2.2.2.2.1, hF.2.2.2.2.2.2.2.1, hF.2.2.2.2.2.2.2.2.1, hF.2.2.2.2.2.2.2.2.2.1, hF.2.2.2.2.2.2.2.2.2.2.1, hF.2.2.2.2.2.2.2.2.2.2.2.1, hF.2.2.2.2.2.2.2.2.2.2.2.2.1, hF.2.2.2.2.2.2.2.2.2.2.2.2.2.1, hF.2.2.2.2.2.2.2.2.2.2.2.2.2.2⟩, hW⟩
       refine StepsI.cons rfl ?_ ?_
       ·rintro L zA v8 ⟨zB, zS, g0, gr, cr, rfl, rfl, hF, hW⟩ hL hm K hK
        have hb2 : zB 2 = false := by simpa using hL
        have hb1 : zB 1 = true := mt 1 hm (by kernel_rfl)
        have e1 : zS 43 = .pointer (some ⟨Xa, 0, none⟩) := hF.2.1 hb1
        clear hL hm
        simp only [pE]
        simp only [e1]
        have HWz := mkHid hW
        clear hW
        go_simp
        have hW := HWz.out
        clear HWz
        exact hK.out _ _ ⟨fun zj => if zj = 1 then true else if zj = 2 then true else zB zj, fun zd => if zd = 44 then .pointer (some ⟨Xa, 0, none⟩) else if zd = 43 then .pointer (some ⟨Xa, 0, none⟩) else zS zd, g0, gr, cr, by simp [hb1], by kernel_rfl, ⟨hF.1, fun _ => rfl, fun _ => rfl, hF.2.2.2.1, hF.2.2.2.2.1, hF.2.2.2.2.2.1, hF.2.2.2.2.2.2.1, hF.2.2.2.2.2.2.2.1, hF.2.2.2.2.2.2.2.2.1, hF.2.2.2.2.2.2.2.2.2.1, hF.2.2.2.2.2.2.2.2.2.2.1, hF.2.2.2.2.2.2.2.2.2.2.2.1, hF.2.2.2.2.2.2.2.2.2.2.2.2.1, hF.2.2.2.2.2.2.2.2.2.2.2.2.2.1, hF.2.2.2.2.2.2.2.2.2.2.2.2.2.2⟩, hW⟩
       refine StepsI.cons rfl ?_ ?_
       ·rintro L zA v8 ⟨zB, zS, g0, gr, cr, rfl, rfl, hF, hW⟩ hL hm K hK
        have hb3 : zB 3 = false := by simpa using hL
        have hb2 : zB 2 = true := mt 2 hm (by kernel_rfl)
        have e2 : zS 44 = .pointer (some ⟨Xa, 0, none⟩) := hF.2.2.1 hb2
        clear hL hm
        simp only [pE]
        simp only [e2]
        have HWz := mkHid hW
        clear hW
        go_simp
        have hW := HWz.out
        clear HWz
        exact hK.out _ _ ⟨fun zj => if zj = 2 then true else if zj = 3 then true else zB zj, fun zd => if zd = 45 then .pointer (some ⟨Xa, 0, none⟩) else if zd = 44 then .pointer (some ⟨Xa, 0, none⟩) else zS zd, g0, gr, cr, by simp [hb2], by kernel_rfl, ⟨hF.1, hF.2.1, fun _ => rfl, fun _ => rfl, hF.2.2.2.2.1, hF.2.2.2.2.2.1, hF.2.2.2.2.2.2.1, hF.2.2.2.2.2.2.2.1, hF.2.2.2.2.2.2.2.2.1, hF.2.2.2.2.2.2.2.2.2.1, hF.2.2.2.2.2.2.2.2.2.2.1, hF.2.2.2.2.2.2.2.2.2.2.2.1, hF.2.2.2.2.2.2.2.2.2.2.2.2.1, hF.2.2.2.2.2.2.2.2.2.2.2.2.2.1, hF.2.2.2.2.2.2.2.2.2.2.2.2.2.2⟩, hW⟩
       refine StepsI.cons rfl ?_ ?_
       ·rintro L zA v8 ⟨zB, zS, g0, gr, cr, rfl, rfl, hF, hW⟩ hL hm K hK
        have hb4 : zB 4 = false := by simpa using hL
        have hb3 : zB 3 = true := mt 3 hm (by kernel_rfl)
        have e3 : zS 45 = .pointer (some ⟨Xa, 0, none⟩) := hF.2.2.2.1 hb3
        clear hL hm
        simp only [pE]
        simp only [e3]
        have HWz := mkHid hW
        clear hW
        go_simp
        have hW := HWz.out
        clear HWz
        exact hK.out _ _ ⟨fun zj => if zj = 3 then true else if zj = 4 then true else zB zj, fun zd => if zd = 46 then .pointer (some ⟨Xa, 0, none⟩) else if zd = 45 then .pointer (some ⟨Xa, 0, none⟩) else zS zd, g0, gr, cr, by simp [hb3], by kernel_rfl, ⟨hF.1, hF.2.1, hF.2.2.1, fun _ => rfl, fun _ => rfl, hF.2.2.2.2.2.1, hF.2.2.2.2.2.2.1, hF.2.2.2.2.2.2.2.1, hF.2.2.2.2.2.2.2.2.1, hF.2.2.2.2.2.2.2.2.2.1, hF.2.2.2.2.2.2.2.2.2.2.1, hF.2.2.2.2.2.2.2.2.2.2.2.1, hF.2.2.2.2.2.2.2.2.2.2.2.2.1, hF.2.2.2.2.2.2.2.2.2.2.2.2.2.1, hF.2.2.2.2.2.2.2.2.2.2.2.2.2.2⟩, hW⟩
       refine StepsI.cons rfl ?_ ?_
       ·rintro L zA v8 ⟨zB, zS, g0, gr, cr, rfl, rfl, hF, hW⟩ hL hm K hK
        have hb5 : zB 5 = false := by simpa using hL
        have hb4 : zB 4 = true := mt 4 hm (by kernel_rfl)
        have e4 : zS 46 = .pointer (some ⟨Xa, 0, none⟩) := hF.2.2.2.2.1 hb4
        clear hL hm
        rw [hb5] at hW
        simp only [pE]
        simp only [e4]
        have h11 : zB 11 = false := by cases e : zB 11 with | false => rfl | true => exact ft (hW.2.2.2.2.1 e)
        have h15 : zB 15 = false := by cases e : zB 15 with | false => rfl | true => exact ft (h11.symm.trans (hW.2.2.2.2.2 e).2)
        have hC := hW.2.1
        rw [h15] at hC
        have c0 := (cel_of hC).c0
        simp only [sel] at c0
        clear hC
        have HWz := mkHid hW
        clear hW
        go_simp
        have hW := HWz.out
        clear HWz
        exact hK.out _ _ ⟨fun zj => if zj = 4 then true else if zj = 5 then true else zB zj, fun zd => if zd = 47 then .slice ao l.length cap else if zd = 46 then .pointer (some ⟨Xa, 0, none⟩) else zS zd, g0, gr, cr, by simp [hb4], by kernel_rfl, ⟨hF.1, hF.2.1, hF.2.2.1, hF.2.2.2.1, fun _ => rfl, fun _ => rfl, hF.2.2.2.2.2.2.1, hF.2.2.2.2.2.2.2.1, hF.2.2.2.2.2.2.2.2.1, hF.2.2.2.2.2.2.2.2.2.1, hF.2.2.2.2.2.2.2.2.2.2.1, hF.2.2.2.2.2.2.2.2.2.2.2.1, hF.2.2.2.2.2.2.2.2.2.2.2.2.1, hF.2.2.2.2.2.2.2.2.2.2.2.2.2.1, hF.2.2.2.2.2.2.2.2.2.2.2.2.2.2⟩, ⟨hW.1, hW.2.1, hW.2.2.1, hW.2.2.2.1, fun _ => rfl, hW.2.2.2.2.2⟩⟩
       refine StepsI.cons rfl ?_ ?_
       ·rintro L zA v8 ⟨zB, zS, g0, gr, cr, rfl, rfl, hF, hW⟩ hL hm K hK
        have hb6 : zB 6 = false := by simpa using hL
        clear hL hm
        simp only [pE]
        have HWz := mkHid hW
        clear hW
        go_simp
        have hW := HWz.out
        clear HWz
        exact hK.out _ _ ⟨fun zj => if zj = 6 then true else zB zj, fun zd => if zd = 48 then .pointer (some ⟨Xn, 0, none⟩) else zS zd, g0, gr, cr, rfl, by kernel_rfl, ⟨hF.1, hF.2.1, hF.2.2.1, hF.2.2.2.1, hF.2.2.2.2.1, hF.2.2.2.2.2.1, fun _ => rfl, hF.2.2.2.2.2.2.2.1, hF.2.2.2.2.2.2.2.2.1, hF.2.2.2.2.2.2.2.2.2.1, hF.2.2.2.2.2.2.2.2.2.2.1, hF.2.2.2.2.2.2.2.2.2.2.2.1, hF.2.2.2.2.2.2.2.2.2.2.2.2.1, hF.2.2.2.2.2.2.2.2.2.2.2.2.2.1, hF.2.2.2.2.2.2.2.2.2.2.2.2.2.2⟩, hW⟩
       refine StepsI.cons rfl ?_ ?_
       ·rintro L zA v8 ⟨zB, zS, g0, gr, cr, rfl, rfl, hF, hW⟩ hL hm K hK
        have hb7 : zB 7 = false := by simpa using hL
        have hb6 : zB 6 = true := mt 6 hm (by kernel_rfl)
        have e6 : zS 48 = .pointer (some ⟨Xn, 0, none⟩) := hF.2.2.2.2.2.2.1 hb6
        clear hL hm
        simp only [pE]
        simp only [e6]
        have HWz := mkHid hW
        clear hW
        go_simp
        have hW := HWz.out
        clear HWz
        exact hK.out _ _ ⟨fun zj => if zj = 6 then true else if zj = 7 then true else zB zj, fun zd => if zd = 49 then .pointer (some ⟨Xn, 0, none⟩) else if zd = 48 then .pointer (some ⟨Xn, 0, none⟩) else zS zd, g0, gr, cr, by simp [hb6], by kernel_rfl, ⟨hF.1, hF.2.1, hF.2.2.1, hF.2.2.2.1, hF.2.2.2.2.1, hF.2.2.2.2.2.1, fun _ => rfl, fun _ => rfl, hF.2.2.2.2.2.2.2.2.1, hF.2.2.2.2.2.2.2.2.2.1, hF.2.2.2.2.2.2.2.2.2.2.1, hF.2.2.2.2.2.2.2.2.2.2.2.1, hF.2.2.2.2.2.2.2.2.2.2.2.2.1, hF.2.2.2.2.2.2.2.2.2.2.2.2.2.1, hF.2.2.2.2.2.2.2.2.2.2.2.2.2.2⟩, hW⟩
       refine StepsI.cons rfl ?_ ?_
       ·rintro L zA v8 ⟨zB, zS, g0, gr, cr, rfl, rfl, hF, hW⟩ hL hm K hK
        have hb8 : zB 8 = false := by simpa using hL
        have hb7 : zB 7 = true := mt 7 hm (by kernel_rfl)
        have e7 : zS 49 = .pointer (some ⟨Xn, 0, none⟩) := hF.2.2.2.2.2.2.2.1 hb7
        clear hL hm
        simp only [pE]
        simp only [e7]
        have HWz := mkHid hW
        clear hW
        go_simp
        have hW := HWz.out
        clear HWz
        exact hK.out _ _ ⟨fun zj => if zj = 7 then true else if zj = 8 then true else zB zj, fun zd => if zd = 50 then .pointer (some ⟨Xn, 0, none⟩) else if zd = 49 then .pointer (some ⟨Xn, 0, none⟩) else zS zd, g0, gr, cr, by simp [hb7], by kernel_rfl, ⟨hF.1, hF.2.1, hF.2.2.1, hF.2.2.2.1, hF.2.2.2.2.1, hF.2.2.2.2.2.1, hF.2.2.2.2.2.2.1, fun _ => rfl, fun _ => rfl, hF.2.2.2.2.2.2.2.2.2.1, hF.2.2.2.2.2.2.2.2.2.2.1, hF.2.2.2.2.2.2.2.2.2.2.2.1, hF.2.2.2.2.2.2.2.2.2.2.2.2.1, hF.2.2.2.2.2.2.2.2.2.2.2.2.2.1, hF.2.2.2.2.2.2.2.2.2.2.2.2.2.2⟩, hW⟩
       refine StepsI.cons rfl ?_ ?_
       ·rintro L zA v8 ⟨zB, zS, g0, gr, cr, rfl, rfl, hF, hW⟩ hL hm K hK
        have hb9 : zB 9 = false := by simpa using hL
        have hb8 : zB 8 = true := mt 8 hm (by kernel_rfl)
        have e8 : zS 50 = .pointer (some ⟨Xn, 0, none⟩) := hF.2.2.2.2.2.2.2.2.1 hb8
        clear hL hm
        simp only [pE]
        simp only [e8]
        have HWz := mkHid hW
        clear hW
        go_simp
        have hW := HWz.out
        clear HWz
        exact hK.out _ _ ⟨fun zj => if zj = 8 then true else if zj = 9 then true else zB zj, fun zd => if zd = 51 then .pointer (some ⟨Xn, 0, none⟩) else if zd = 50 then .pointer (some ⟨Xn, 0, none⟩) else zS zd, g0, gr, cr, by simp [hb8], by kernel_rfl, ⟨hF.1, hF.2.1, hF.2.2.1, hF.2.2.2.1, hF.2.2.2.2.1, hF.2.2.2.2.2.1, hF.2.2.2.2.2.2.1, hF.2.2.2.2.2.2.2.1, fun _ => rfl, fun _ => rfl, hF.2.2.2.2.2.2.2.2.2.2.1, hF.2.2.2.2.2.2.2.2.2.2.2.1, hF.2.2.2.2.2.2.2.2.2.2.2.2.1, hF.2.2.2.2.2.2.2.2.2.2.2.2.2.1, hF.2.2.2.2.2.2.2.2.2.2.2.2.2.2⟩, hW⟩
       refine StepsI.cons rfl ?_ ?_
       ·rintro L zA v8 ⟨zB, zS, g0, gr, cr, rfl, rfl, hF, hW⟩ hL hm K hK
        have hb10 : zB 10 = false := by simpa using hL
        have hb9 : zB 9 = true := mt 9 hm (by kernel_rfl)
        have e9 : zS 51 = .pointer (some ⟨Xn, 0, none⟩) := hF.2.2.2.2.2.2.2.2.2.1 hb9
        clear hL hm
        simp only [pE]
        simp only [e9]
        have c0 := hcn _ hW.1
        have HWz := mkHid hW
        clear hW
        go_simp
        have hW := HWz.out
        clear HWz
        exact hK.out _ _ ⟨fun zj => if zj = 9 then true else if zj = 10 then true else zB zj, fun zd => if zd = 52 then .slice an ln.length cn else if zd = 51 then .pointer (some ⟨Xn, 0, none⟩) else zS zd, g0, gr, cr, by simp [hb9], by kernel_rfl, ⟨hF.1, hF.2.1, hF.2.2.1, hF.2.2.2.1, hF.2.2.2.2.1, hF.2.2.2.2.2.1, hF.2.2.2.2.2.2.1, hF.2.2.2.2.2.2.2.1, hF.2.2.2.2.2.2.2.2.1, fun _ => rfl, fun _ => rfl, hF.2.2.2.2.2.2.2.2.2.2.2.1, hF.2.2.2.2.2.2.2.2.2.2.2.2.1, hF.2.2.2.2.2.2.2.2.2.2.2.2.2.1, hF.2.2.2.2.2.2.2.2.2.2.2.2.2.2⟩, hW⟩
       refine StepsI.cons rfl ?_ ?_
       ·rintro L zA v8 ⟨zB, zS, g0, gr, cr, rfl, rfl, hF, hW⟩ hL hm K hK
        have hb11 : zB 11 = false := by simpa using hL
        have hb5 : zB 5 = true := mt 5 hm (by kernel_rfl)
        have hb10 : zB 10 = true := mt 10 hm (by kernel_rfl)
        have e5 : zS 47 = .slice ao l.length cap := hF.2.2.2.2.2.1 hb5
        have e10 : zS 52 = .slice an ln.length cn := hF.2.2.2.2.2.2.2.2.2.2.1 hb10
        clear hL hm
        rw [hb11] at hW
        rw [hb5] at hW
        simp only [pE]
        simp only [e5, e10]
        have HWz := mkHid hW
        clear hW
        go_simp
        have hW := HWz.out
        clear HWz
        exact hK.out _ _ ⟨fun zj => if zj = 10 then true else if zj = 5 then true else if zj = 11 then true else zB zj, fun zd => if zd = 53 then .slice (some ⟨v8.heap.size, 0, none⟩) 2 2 else if zd = 52 then .slice an ln.length cn else if zd = 47 then .slice ao l.length cap else zS zd, v8.heap.size, gr, cr, by simp [hb5, hb10], by kernel_rfl, ⟨hF.1, hF.2.1, hF.2.2.1, hF.2.2.2.1, hF.2.2.2.2.1, fun _ => rfl, hF.2.2.2.2.2.2.1, hF.2.2.2.2.2.2.2.1, hF.2.2.2.2.2.2.2.2.1, hF.2.2.2.2.2.2.2.2.2.1, fun _ => rfl, fun _ => rfl, hF.2.2.2.2.2.2.2.2.2.2.2.2.1, hF.2.2.2.2.2.2.2.2.2.2.2.2.2.1, hF.2.2.2.2.2.2.2.2.2.2.2.2.2.2⟩, ⟨hW.1.trans (Only.of (bl_alloc (Below.refl _ _) _)), ((bl_alloc (Below.refl _ _) _).block _ (heap_lt hW.2.1)).trans hW.2.1, fun _ _ => two_bnds (heap_new _ _ rfl) ((hat _ hW.1).below (bl_alloc (Below.refl _ _) _)) ((hatn _ hW.1).below (bl_alloc (Below.refl _ _) _)), fun e => (hW.2.2.2.1 e).below (bl_alloc (Below.refl _ _) _), fun _ => rfl, fun e => ⟨(hW.2.2.2.2.2 e).1, rfl⟩⟩⟩
       refine StepsI.cons rfl ?_ ?_
       ·rintro L zA v8 ⟨zB, zS, g0, gr, cr, rfl, rfl, hF, hW⟩ hL hm K hK
        have hb12 : zB 12 = false := by simpa using hL
        have hb11 : zB 11 = true := mt 11 hm (by kernel_rfl)
        have e11 : zS 53 = .slice (some ⟨g0, 0, none⟩) 2 2 := hF.2.2.2.2.2.2.2.2.2.2.2.1 hb11
        clear hL hm
        rw [hb12] at hW
        rw [hb11] at hW
        simp only [pE]
        simp only [e11]
        have h15 : zB 15 = false := by cases e : zB 15 with | false => rfl | true => exact ft (hW.2.2.2.2.2 e).1
        have HWz := mkHid hW
        clear hW
        go_simp
        have hW := HWz.out
        clear HWz
        refine (HTO.out _ g0 (hW.2.2.1 rfl rfl)).mono ?_
        rintro e v82 ⟨hb, g9, c9, rfl, hown⟩
        have hC9 : v8.heap[Xa]? = some (.cells (lkC (sel (zB 15) (.slice g9 lm.length c9) (.slice ao l.length cap)) vv true (some ⟨Xn, 0, none⟩)) 130 (0, 0)) := by rw [h15]; have hC := hW.2.1; rw [h15] at hC; exact hC
        have HWz := mkHid hW
        clear hW
        go_wp2_with fail
        have hW := HWz.out
        clear HWz
        exact hK.out _ _ ⟨fun zj => if zj = 11 then true else if zj = 12 then true else zB zj, fun zd => if zd = 54 then .agg #[.slice g9 lm.length c9, .func (.func 132) #[] #[]] else if zd = 53 then .slice (some ⟨g0, 0, none⟩) 2 2 else zS zd, g0, g9, c9, by simp [hb11], by kernel_rfl, ⟨hF.1, hF.2.1, hF.2.2.1, hF.2.2.2.1, hF.2.2.2.2.1, hF.2.2.2.2.2.1, hF.2.2.2.2.2.2.1, hF.2.2.2.2.2.2.2.1, hF.2.2.2.2.2.2.2.2.1, hF.2.2.2.2.2.2.2.2.2.1, hF.2.2.2.2.2.2.2.2.2.2.1, fun _ => rfl, fun _ => rfl, hF.2.2.2.2.2.2.2.2.2.2.2.2.2.1, hF.2.2.2.2.2.2.2.2.2.2.2.2.2.2⟩, ⟨hW.1.trans (Only.of hb), (hb.block _ (heap_lt hC9)).trans hC9, fun _ e => tf e, fun _ => hown.mono hW.1.size, fun _ => hW.2.2.2.2.1 (by first | rfl | trivial), fun _ => ⟨rfl, rfl⟩⟩⟩
       refine StepsI.cons rfl ?_ ?_
       ·rintro L zA v8 ⟨zB, zS, g0, gr, cr, rfl, rfl, hF, hW⟩ hL hm K hK
        have hb13 : zB 13 = false := by simpa using hL
        have hb0 : zB 0 = true := mt 0 hm (by kernel_rfl)
        have e0 : zS 42 = .pointer (some ⟨Xa, 0, none⟩) := hF.1 hb0
        clear hL hm
        simp only [pE]
        simp only [e0]
        have HWz := mkHid hW
        clear hW
        go_simp
        have hW := HWz.out
        clear HWz
        exact hK.out _ _ ⟨fun zj => if zj = 0 then true else if zj = 13 then true else zB zj, fun zd => if zd = 55 then .pointer (some ⟨Xa, 0, none⟩) else if zd = 42 then .pointer (some ⟨Xa, 0, none⟩) else zS zd, g0, gr, cr, by simp [hb0], by kernel_rfl, ⟨fun _ => rfl, hF.2.1, hF.2.2.1, hF.2.2.2.1, hF.2.2.2.2.1, hF.2.2.2.2.2.1, hF.2.2.2.2.2.2.1, hF.2.2.2.2.2.2.2.1, hF.2.2.2.2.2.2.2.2.1, hF.2.2.2.2.2.2.2.2.2.1, hF.2.2.2.2.2.2.2.2.2.2.1, hF.2.2.2.2.2.2.2.2.2.2.2.1, hF.2.2.2.2.2.2.2.2.2.2.2.2.1, fun _ => rfl, hF.2.2.2.2.2.2.2.2.2.2.2.2.2.2⟩, hW⟩
       refine StepsI.cons rfl ?_ ?_
       ·rintro L zA v8 ⟨zB, zS, g0, gr, cr, rfl, rfl, hF, hW⟩ hL hm K hK
        have hb14 : zB 14 = false := by simpa using hL
        have hb13 : zB 13 = true := mt 13 hm (by kernel_rfl)
        have e13 : zS 55 = .pointer (some ⟨Xa, 0, none⟩) := hF.2.2.2.2.2.2.2.2.2.2.2.2.2.1 hb13
        clear hL hm
        simp only [pE]
        simp only [e13]
        have HWz := mkHid hW
        clear hW
        go_simp
        have hW := HWz.out
        clear HWz
        exact hK.out _ _ ⟨fun zj => if zj = 13 then true else if zj = 14 then true else zB zj, fun zd => if zd = 56 then .pointer (some ⟨Xa, 0, none⟩) else if zd = 55 then .pointer (some ⟨Xa, 0, none⟩) else zS zd, g0, gr, cr, by simp [hb13], by kernel_rfl, ⟨hF.1, hF.2.1, hF.2.2.1, hF.2.2.2.1, hF.2.2.2.2.1, hF.2.2.2.2.2.1, hF.2.2.2.2.2.2.1, hF.2.2.2.2.2.2.2.1, hF.2.2.2.2.2.2.2.2.1, hF.2.2.2.2.2.2.2.2.2.1, hF.2.2.2.2.2.2.2.2.2.2.1, hF.2.2.2.2.2.2.2.2.2.2.2.1, hF.2.2.2.2.2.2.2.2.2.2.2.2.1, fun _ => rfl, fun _ => rfl⟩, hW⟩
       refine StepsI.cons rfl ?_ ?_
       ·rintro L zA v8 ⟨zB, zS, g0, gr, cr, rfl, rfl, hF, hW⟩ hL hm K hK
        have hb15 : zB 15 = false := by simpa using hL
        have hb11 : zB 11 = true := mt 11 hm (by kernel_rfl)
        have hb12 : zB 12 = true := mt 12 hm (by kernel_rfl)
        have hb14 : zB 14 = true := mt 14 hm (by kernel_rfl)
        have e11 : zS 53 = .slice (some ⟨g0, 0, none⟩) 2 2 := hF.2.2.2.2.2.2.2.2.2.2.2.1 hb11
        have e12 : zS 54 = .agg #[.slice gr lm.length cr, .func (.func 132) #[] #[]] := hF.2.2.2.2.2.2.2.2.2.2.2.2.1 hb12
        have e14 : zS 56 = .pointer (some ⟨Xa, 0, none⟩) := hF.2.2.2.2.2.2.2.2.2.2.2.2.2.2 hb14
        clear hL hm
        rw [hb15] at hW
        rw [hb11] at hW
        rw [hb12] at hW
        simp only [pE]
        simp only [e11, e12, e14]
        have hC := hW.2.1
        obtain ⟨c0, c1, _, _, _, _, _, f0, f1, _, _, _, _, _⟩ := cel_of hC
        have HWz := mkHid hW
        clear hW
        go_simp
        have hW := HWz.out
        clear HWz
        exact hK.out _ _ ⟨fun zj => if zj = 14 then true else if zj = 12 then true else if zj = 11 then true else if zj = 15 then true else zB zj, fun zd => if zd = 56 then .pointer (some ⟨Xa, 0, none⟩) else if zd = 54 then .agg #[.slice gr lm.length cr, .func (.func 132) #[] #[]] else if zd = 53 then .slice (some ⟨g0, 0, none⟩) 2 2 else zS zd, g0, gr, cr, by simp [hb11, hb12, hb14], by kernel_rfl, ⟨hF.1, hF.2.1, hF.2.2.1, hF.2.2.2.1, hF.2.2.2.2.1, hF.2.2.2.2.2.1, hF.2.2.2.2.2.2.1, hF.2.2.2.2.2.2.2.1, hF.2.2.2.2.2.2.2.2.1, hF.2.2.2.2.2.2.2.2.2.1, hF.2.2.2.2.2.2.2.2.2.2.1, fun _ => rfl, fun _ => rfl, hF.2.2.2.2.2.2.2.2.2.2.2.2.2.1, fun _ => rfl⟩, ⟨(hW.1.trans (Only.set _ _ _ _)).trans (Only.set _ _ _ _), by rw [heap_set_self (heap_set_self hW.2.1 _ _)]; rfl, fun _ e => tf e, fun _ => own_only (own_only (hW.2.2.2.1 rfl) ⟨_, hW.2.1⟩ (Only.set _ _ _ _)) ⟨_, heap_set_self hW.2.1 _ _⟩ (Only.set _ _ _ _), hW.2.2.2.2.1, fun _ => ⟨rfl, rfl⟩⟩⟩
       exact StepsI.nil (by kernel_rfl)
      ·rintro L zA v8 ⟨zB, zS, g0, gr, cr, rfl, rfl, hF, hW⟩ hr
       have hu := all_up (by kernel_rfl) (N := 16) (by kernel_rfl) hr
       have hb0 : zB 0 = true := by simpa using hu 0 (by decide)
       have hb1 : zB 1 = true := by simpa using hu 1 (by decide)
       have hb2 : zB 2 = true := by simpa using hu 2 (by decide)
       have hb3 : zB 3 = true := by simpa using hu 3 (by decide)
       have hb4 : zB 4 = true := by simpa using hu 4 (by decide)
       have hb5 : zB 5 = true := by simpa using hu 5 (by decide)
       have hb6 : zB 6 = true := by simpa using hu 6 (by decide)
       have hb7 : zB 7 = true := by simpa using hu 7 (by decide)
       have hb8 : zB 8 = true := by simpa using hu 8 (by decide)
       have hb9 : zB 9 = true := by simpa using hu 9 (by decide)
       have hb10 : zB 10 = true := by simpa using hu 10 (by decide)
       have hb11 : zB 11 = true := by simpa using hu 11 (by decide)
       have hb12 : zB 12 = true := by simpa using hu 12 (by decide)
       have hb13 : zB 13 = true := by simpa using hu 13 (by decide)
       have hb14 : zB 14 = true := by simpa using hu 14 (by decide)
       have hb15 : zB 15 = true := by simpa using hu 15 (by decide)
       have e0 : zS 42 = .pointer (some ⟨Xa, 0, none⟩) := hF.1 hb0
       have e1 : zS 43 = .pointer (some ⟨Xa, 0, none⟩) := hF.2.1 hb1
       have e2 : zS 44 = .pointer (some ⟨Xa, 0, none⟩) := hF.2.2.1 hb2
       have e3 : zS 45 = .pointer (some ⟨Xa, 0, none⟩) := hF.2.2.2.1 hb3
       have e4 : zS 46 = .pointer (some ⟨Xa, 0, none⟩) := hF.2.2.2.2.1 hb4
       have e5 : zS 47 = .slice ao l.length cap := hF.2.2.2.2.2.1 hb5
       have e6 : zS 48 = .pointer (some ⟨Xn, 0, none⟩) := hF.2.2.2.2.2.2.1 hb6
       have e7 : zS 49 = .pointer (some ⟨Xn, 0, none⟩) := hF.2.2.2.2.2.2.2.1 hb7
       have e8 : zS 50 = .pointer (some ⟨Xn, 0, none⟩) := hF.2.2.2.2.2.2.2.2.1 hb8
       have e9 : zS 51 = .pointer (some ⟨Xn, 0, none⟩) := hF.2.2.2.2.2.2.2.2.2.1 hb9
       have e10 : zS 52 = .slice an ln.length cn := hF.2.2.2.2.2.2.2.2.2.2.1 hb10
       have e11 : zS 53 = .slice (some ⟨g0, 0, none⟩) 2 2 := hF.2.2.2.2.2.2.2.2.2.2.2.1 hb11
       have e12 : zS 54 = .agg #[.slice gr lm.length cr, .func (.func 132) #[] #[]] := hF.2.2.2.2.2.2.2.2.2.2.2.2.1 hb12
       have e13 : zS 55 = .pointer (some ⟨Xa, 0, none⟩) := hF.2.2.2.2.2.2.2.2.2.2.2.2.2.1 hb13
       have e14 : zS 56 = .pointer (some ⟨Xa, 0, none⟩) := hF.2.2.2.2.2.2.2.2.2.2.2.2.2.2 hb14
       rw [hb5] at hW
       rw [hb11] at hW
       rw [hb12] at hW
       rw [hb15] at hW
       clear hu hr hF
       simp only [pE]
       simp only [e0, e1, e2, e3, e4, e5, e6, e7, e8, e9, e10, e11, e12, e13, e14]
       clear e0 e1 e2 e3 e4 e5 e6 e7 e8 e9 e10 e11 e12 e13 e14
       clear hb0 hb1 hb2 hb3 hb4 hb5 hb6 hb7 hb8 hb9 hb10 hb11 hb12 hb13 hb14 hb15
       clear zB zS
       have hO := hW.1
       have hH := hW.2.1
       have HOW5 := mkHid (hW.2.2.2.1 rfl)
       clear hW
       simp only [sel] at hH
       have HO5 := mkHid hO
       have HH5 := mkHid hH
       have hnext : ∀ v, Only Xa v8 v → Cel v Xn (.slice an ln.length cn) vn mn pp := fun v h => cel_of (((HO5.out.trans h).block Xn (heap_lt hXn) (fun e => HNE.out (Option.some.inj e))).trans hXn)
       obtain ⟨s0, hs0⟩ : ∃ z, Value.slice gr lm.length cr = z := ⟨_, rfl⟩
       have HS0 := mkHid hs0
       rw [hs0] at hH
       clear hs0 hO hz hat hatn hcn HTO
       obtain ⟨v8, hwn⟩ : ∃ z, v8 = z := ⟨_, rfl⟩
       subst hwn
       go_wp2_with fail
       obtain ⟨_, _, n2, n3, n4, n5, n6, _, _, _, _, _, _, _⟩ := hnext v8 (Only.of (Below.refl _ _))
       obtain ⟨_, _, c2, c3, c4, c5, c6, _, _, f2, f3, f4, f5, f6⟩ := cel_of hH
       have HF := mkHid (HFO.out v9 v8 ((((((v8.setCell ⟨Xa, 2, none⟩ (.int .i64 vn.1)).setCell ⟨Xa, 3, none⟩ (.int .i64 vn.2.1)).setCell ⟨Xa, 4, none⟩ (.bool vn.2.2)).setCell ⟨Xa, 5, none⟩ (.bool mn)).setCell ⟨Xa, 6, none⟩ (.pointer pp)).drew) gr cr _ _ _ HBM.out HCT.out HO5.out HH5.out HOW5.out ((((((Only.set _ _ _ _).trans (Only.set _ _ _ _)).trans (Only.set _ _ _ _)).trans (Only.set _ _ _ _)).trans (Only.set _ _ _ _)).trans (Only.of (Below.refl _ _).drew)) (by show (World.setCell _ _ _).heap[Xa]? = _; rw [heap_set_self (heap_set_self (heap_set_self (heap_set_self (heap_set_self hH _ _) _ _) _ _) _ _) _ _, ← HS0.out]; rfl))
       clear hnext HFO hH
       go_region
       clear n2 n3 n4 n5 n6 c2 c3 c4 c5 c6 f2 f3 f4 f5 f6
       go_wp2
       go_roundg R.length
       case measure => exact hgR
       case rel => exact ⟨P1, Xa, _, R, rfl, Nat.le_refl _, HF.out⟩
end Go.Proofs.YtihpajiololfoaaGreat
