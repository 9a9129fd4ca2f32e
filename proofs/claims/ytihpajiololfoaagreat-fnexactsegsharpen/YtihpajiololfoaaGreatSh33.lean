/-
  CONTRACT of link.fill: where two bounds are known to be apart there is a cell.
-/
import Derived.Test.YtihpajiololfoaaGreatSh29
import Derived.Test.YtihpajiololfoaaGreatSh12
import Derived.Test.YtihpajiololfoaaGreatSh26
namespace Go.Proofs.YtihpajiololfoaaGreat
open Go.RowKit

theorem wpo_dif {op : Oper} {a : Act} {w : World} {K : Act → World → Prop} {Q' : Exit → Act → World → Prop} {x : Operand} {b : Nat} {n : Int} {G : List Int} (hD : Q.Dif w b n G) (ho : op.op = .load 80 x)
  (hx : a.eval x = .pointer (some ⟨b, 0, none⟩)) (h : K (a.put op.dst (.agg (Q.dA n G))) w) : op.wp Tryz.prog a w K Q' :=
 wp_load_mid 80 x ho b 0 hx (Q.dL n G) _ hD.range Tryz.underlying80 rfl (by rw [Q.dL_len hD.len]; exact Q.size64) h
theorem link_maybe {w w' : World} {base X : Nat} {k : Lk} {p : Option Addr} {ao : Option Addr} {cap : Nat} {m : Bool} (hl : base ≤ X) (ho : Own eY 49 w base (.slice ao k.b.length cap) k.b) (hX : ∃ cur, w.heap[X]? = some (.cells cur 130 (0, 0))) (hO : Only X w w') (h : w'.heap[X]? = some (.cells (lkC (.slice ao k.b.length cap) k.v m p) 130 (0, 0))) : LinkO w' base X ⟨k.b, k.v, m⟩ p := ⟨⟨ao, cap, h, own_only ho hX hO⟩, hl⟩
structure FiI (w wr : World) (base Qb X : Nat) (n : Nat) (f : Q.Tab) (F : List Lk) (L : List (Nat × Lk)) (Xa : Nat) (ka : Lk) (R : List (Nat × Lk)) : Prop where
 ch : Ch wr base (L ++ (Xa, ka) :: R) (some ⟨X, 0, none⟩) none
 nd : ((L ++ (Xa, ka) :: R).map Prod.fst).Nodup
 eq : L.map Prod.snd ++ fil f (ka :: R.map Prod.snd) = F
 bel : BK base w wr
 rd : RowsD wr ((L ++ (Xa, ka) :: R).map Prod.fst)
 bs : base ≤ wr.heap.size
 q : ∃ C, wr.heap[Qb]? = some (.cells C 80 (0, 0))
 qd : Q.Dif wr Qb n (Q.grid n f)
 len : ∀ x, x ∈ (Xa, ka) :: R → x.2.b.length ≤ 1048576
 wd : ∀ x, x ∈ (Xa, ka) :: R → ∀ t, t ∈ x.2.b → Wd n t
set_option maxRecDepth 100000 in
set_option maxHeartbeats 12800000 in
theorem fill_any (n : Nat) (f : Q.Tab) (h2 : n ≤ 13) (hbd : Q.Bd n f 10000000) (L : List (Nat × Lk)) (X : Nat) (k : Lk) (base : Nat) (w : World) (hn : ∀ x, x ∈ (X, k) :: L → x.2.b.length ≤ 1048576) (hwd : ∀ x, x ∈ (X, k) :: L → ∀ t, t ∈ x.2.b → Wd n t) (hc : Ch w base ((X, k) :: L) (some ⟨X, 0, none⟩) none) (hnd : (((X, k) :: L).map Prod.fst).Nodup) (hrd : RowsD w (((X, k) :: L).map Prod.fst)) (hbs : base ≤ w.heap.size) :
  Calls Tryz.prog 43 #[.pointer (some ⟨X, 0, none⟩), .agg (Q.dA n (Q.grid n f))] w fun e w' => e = .returned (.tuple #[]) ∧ BK base w w' ∧ ChN w' base X (fil f (k :: L.map Prod.snd)) := by
 have HAB : Hid (∀ (l l' : List Y) (a a' : Option Addr) (c c' : Nat) (v : World), l.length ≤ 1048576 → l'.length ≤ 1048576 → (∀ x, x ∈ l → Wd n x) → (∀ x, x ∈ l' → Wd n x) → At eY v a l → At eY v a' l' → Calls Tryz.prog 90 #[.agg (Q.dA n (Q.grid n f)), .slice a l.length c, .slice a' l'.length c', .int .i64 1] v fun e w' => e = .returned (.bool (anyB f l l' 1)) ∧ Below v.heap.size v w') := mkHid fun l l' a a' c c' v q1 q2 q3 q4 q5 q6 => areBelow_any n f h2 hbd l l' a a' c c' 1 ⟨by omega, by omega⟩ v (by unfold maxLen; omega) (by unfold maxLen; omega) q3 q4 q5 q6
 obtain ⟨F, hF⟩ : ∃ z, fil f (k :: L.map Prod.snd) = z := ⟨_, rfl⟩
 rw [hF]
 obtain ⟨w0, hw0⟩ : ∃ q, w.alloc (.cells (Q.dA n (Q.grid n f)) 80) = q := ⟨_, rfl⟩
 obtain ⟨Qb, hQb⟩ : ∃ q, w.heap.size = q := ⟨_, rfl⟩
 have A0 : Below w.heap.size w w0 := by rw [← hw0]; exact bl_alloc (Below.refl _ _) _
 have D0 : Q.Dif w0 Qb n (Q.grid n f) := by rw [← hw0, ← hQb]; exact Q.Dif.new w (Q.grid_len n f) 80
 have HI : Hid (FiI w w0 base Qb X n f F [] X k L) := mkHid ⟨hc.below A0, hnd, hF, BK.of A0 hbs, hc.rows_below hrd A0, Nat.le_trans hbs A0.size, ⟨_, by rw [← hw0, ← hQb]; exact heap_new w _ rfl⟩, D0, hn, hwd⟩
 obtain ⟨G, hG⟩ : ∃ G, Q.grid n f = G := ⟨_, rfl⟩
 have HG := mkHid hG
 rw [hG] at HAB hw0
 rw [hG]
 clear hn hwd hc hnd hrd A0 D0 hF hbd hG
 go_enter Tryz.func43, Tryz.ntmps43
 go_wp2
 first | rw [hw0] | skip
 first | rw [hQb] | skip
 clear hw0 hQb
 go_loopg [4] L.length (fun g s4 wr => ∃ (P1 : List (Nat × Lk)) (Xa : Nat) (ka : Lk) (R : List (Nat × Lk)), s4 = .pointer (some ⟨Xa, 0, none⟩) ∧ R.length ≤ g ∧ FiI w wr base Qb X n f F P1 Xa ka R)
 case atStart => exact ⟨[], X, k, L, rfl, Nat.le_refl _, HI.out⟩
 case round =>
  obtain ⟨P1, Xa, ka, R, rfl, hgR, hdr⟩ := hrel
  have HDR := mkHid hdr
  clear hdr HI
  obtain ⟨hP, pz, hA, hR⟩ := HDR.out.ch.cut
  have HP := mkHid hP
  have HLOA := mkHid hA.lo
  obtain ⟨ao, cap, hz, hown⟩ := hA.mem
  obtain ⟨_, _, _, _, _, _, c6, _, _, _, _, _, _, _⟩ := cel_of hz
  cases R with
  | nil =>
   cases hR
   clear hP hA hz hown
   go_wp2
   refine bodyPost_end (results_none rfl _ _ _) rfl ⟨rfl, HDR.out.bel, P1 ++ [(Xa, ka)], HDR.out.ch, ?_, HDR.out.nd, HDR.out.rd⟩
   have h := HDR.out.eq
   simpa [fil] using h
  | cons y R =>
   obtain ⟨Xn, kn⟩ := y
   have HRR := mkHid hR
   obtain ⟨e, pp, hN, hRR⟩ := hR
   cases e
   have hgR : R.length < gk := by simp at hgR; omega
   have HNE : Hid (Xn ≠ Xa) := mkHid fun e => (nd_parts HDR.out.nd).2 (Xn, kn) List.mem_cons_self e
   obtain ⟨an, cn, hXn, honN⟩ := hN.mem
   obtain ⟨l, hl⟩ : ∃ z, ka.b = z := ⟨_, rfl⟩
   obtain ⟨vv, hvv⟩ : ∃ z, ka.v = z := ⟨_, rfl⟩
   obtain ⟨mm, hmm⟩ : ∃ z, ka.m = z := ⟨_, rfl⟩
   obtain ⟨ln, hln⟩ : ∃ z, kn.b = z := ⟨_, rfl⟩
   have hTX : ∃ cur, wr.heap[Xa]? = some (.cells cur 130 (0, 0)) := ⟨_, hz⟩
   have HTX := mkHid hTX
   have hat : ∀ v, Only Xa wr v → At eY v ao l := fun v h => by rw [← hl]; exact (own_only hown HTX.out h).at
   have hatn : ∀ v, Only Xa wr v → At eY v an ln := fun v h => by rw [← hln]; exact (own_only honN HTX.out h).at
   have hcn : ∀ v, Only Xa wr v → v.cell? ⟨Xn, 0, none⟩ = some (.slice an ln.length cn) := fun v h => by rw [← hln]; exact (cel_of ((h.block Xn (heap_lt hXn) (fun e => HNE.out (Option.some.inj e))).trans hXn)).c0
   have hqd : ∀ v, Only Xa wr v → Q.Dif v Qb n G := fun v h => by rw [← HG.out]; exact HDR.out.qd.grown h (fun e => by cases e; obtain ⟨c1, h1⟩ := HTX.out; obtain ⟨c2, h3⟩ := HDR.out.q; rw [h1] at h3; cases h3)
   have HLN : Hid (l.length ≤ 1048576) := mkHid (by rw [← hl]; exact HDR.out.len _ List.mem_cons_self)
   have HLNN : Hid (ln.length ≤ 1048576) := mkHid (by rw [← hln]; exact HDR.out.len (Xn, kn) (List.mem_cons_of_mem _ List.mem_cons_self))
   have HWA : Hid (∀ t, t ∈ l → Wd n t) := mkHid (by rw [← hl]; exact HDR.out.wd _ List.mem_cons_self)
   have HWN : Hid (∀ t, t ∈ ln → Wd n t) := mkHid (by rw [← hln]; exact HDR.out.wd (Xn, kn) (List.mem_cons_of_mem _ List.mem_cons_self))
   have HOW := mkHid hown
   have HFN : Hid (∀ bq, anyB f l ln 1 = bq → fil f (ka :: kn :: R.map Prod.snd) = ⟨ka.b, ka.v, mm && !bq⟩ :: fil f (kn :: R.map Prod.snd)) := mkHid (fun bq h => by rw [← h, ← hl, ← hln, ← hmm]; rfl)
   have HEND : Hid (∀ (v : World) (mq : Bool), Only Xa wr v → v.heap[Xa]? = some (.cells (lkC (.slice ao l.length cap) vv mq (some ⟨Xn, 0, none⟩)) 130 (0, 0)) → P1.map Prod.snd ++ ⟨ka.b, ka.v, mq⟩ :: fil f (kn :: R.map Prod.snd) = F → FiI w v base Qb X n f F (P1 ++ [(Xa, ⟨ka.b, ka.v, mq⟩)]) Xn kn R) := mkHid (fun v mq hO hh he => by
    rw [← hl, ← hvv] at hh
    have hLn := link_maybe (k := ka) (m := mq) HLOA.out HOW.out HTX.out hO hh
    have hch : Ch v base (P1 ++ (Xa, ⟨ka.b, ka.v, mq⟩) :: (Xn, kn) :: R) (some ⟨X, 0, none⟩) none := Ch.upd hO HTX.out HP.out hLn HRR.out (nd_parts HDR.out.nd).1 (nd_parts HDR.out.nd).2
    have hap : P1 ++ [(Xa, (⟨ka.b, ka.v, mq⟩ : Lk))] ++ (Xn, kn) :: R = P1 ++ (Xa, ⟨ka.b, ka.v, mq⟩) :: (Xn, kn) :: R := by simp
    refine ⟨by rw [hap]; exact hch, by rw [hap]; exact nd_same HDR.out.nd, by rw [List.map_append, List.append_assoc]; exact he, BK.only HDR.out.bel hO HDR.out.bs HLOA.out HTX.out, ?_, Nat.le_trans HDR.out.bs hO.size, ?_, ?_, fun x hx => HDR.out.len x (List.mem_cons_of_mem _ hx), fun x hx => HDR.out.wd x (List.mem_cons_of_mem _ hx)⟩
    ·rw [hap]
     have e1 : (P1 ++ (Xa, (⟨ka.b, ka.v, mq⟩ : Lk)) :: (Xn, kn) :: R).map Prod.fst = (P1 ++ (Xa, ka) :: (Xn, kn) :: R).map Prod.fst := by simp
     rw [e1]
     refine HDR.out.rd.same fun x hx => ?_
     by_cases ex : x = Xa
     ·subst ex; rw [rowB_of hh, rowB_of hz]
     ·obtain ⟨y, hy, rfl⟩ := List.mem_map.1 hx
      exact rowB_block (hO.block y.1 (HDR.out.ch.lt y hy) (fun e => ex (Option.some.inj e)))
    ·obtain ⟨C, hC⟩ := HDR.out.q
     exact ⟨C, (hO.block Qb (heap_lt hC) (fun e => by cases e; obtain ⟨c1, h1⟩ := HTX.out; rw [h1] at hC; cases hC)).trans hC⟩
    ·exact HDR.out.qd.grown hO (fun e => by cases e; obtain ⟨c1, h1⟩ := HTX.out; obtain ⟨c2, h3⟩ := HDR.out.q; rw [h1] at h3; cases h3))
   rw [hl, hvv, hmm] at hz
   have HEQ := mkHid HDR.out.eq
   clear hl hvv hmm hln hP hA hN hRR hown honN hXn hTX
   go_wp2_with fail
   clear c6
   obtain ⟨bq, hbq⟩ : ∃ b, anyB f l ln 1 = b := ⟨_, rfl⟩
   have HBQ := mkHid hbq
   clear hbq
   cases mm
   ·refine wp_region_inv2 (fun zA0 L zA v9 => ∃ (zB : Nat → Bool) (zS : Nat → Value) (mq : Bool), L = #[zB 0, zB 1, zB 2, zB 3, zB 4, zB 5, zB 6, zB 7, zB 8, zB 9, zB 10, zB 11, zB 12, zB 13, zB 14, zB 15, zB 16, zB 17, zB 18, zB 19, zB 20, zB 21, zB 22, zB 23, zB 24, zB 25] ∧ zA = puts zA0 [(15, zS 15), (16, zS 16), (17, zS 17), (18, zS 18), (19, zS 19), (20, zS 20), (21, zS 21), (22, zS 22), (23, zS 23), (24, zS 24), (25, zS 25), (26, zS 26), (27, zS 27), (28, zS 28), (29, zS 29), (30, zS 30), (31, zS 31), (32, zS 32), (33, zS 33), (34, zS 34), (35, zS 35), (36, zS 36), (37, zS 37), (38, zS 38), (39, zS 39)] ∧ ((zB 0 = true → zS 15 = .pointer (some ⟨Xa, 0, none⟩)) ∧ (zB 1 = true → zS 16 = .pointer (some ⟨Xa, 0, none⟩)) ∧ (zB 2 = true → zS 17 = .pointer (some ⟨Xa, 0, none⟩)) ∧ (zB 3 = true → zS 18 = .pointer (some ⟨Xa, 5, none⟩)) ∧ (zB 4 = true → zS 19 = .bool false) ∧ (zB 5 = true → zS 20 = .bool false) ∧ (zB 6 = true → zS 21 = undef) ∧ (zB 7 = true → zS 22 = undef) ∧ (zB 8 = true → zS 23 = undef) ∧ (zB 9 = true → zS 24 = undef) ∧ (zB 10 = true → zS 25 = undef) ∧ (zB 11 = true → zS 26 = undef) ∧ (zB 12 = true → zS 27 = undef) ∧ (zB 13 = true → zS 28 = undef) ∧ (zB 14 = true → zS 29 = undef) ∧ (zB 15 = true → zS 30 = undef) ∧ (zB 16 = true → zS 31 = undef) ∧ (zB 17 = true → zS 32 = undef) ∧ (zB 18 = true → zS 33 = undef) ∧ (zB 19 = true → zS 34 = undef) ∧ (zB 20 = true → zS 35 = undef) ∧ (zB 21 = true → zS 36 = undef) ∧ (zB 22 = true → zS 37 = .bool false) ∧ (zB 23 = true → zS 38 = .pointer (some ⟨Xa, 0, none⟩)) ∧ (zB 24 = true → zS 39 = .pointer (some ⟨Xa, 5, none⟩))) ∧ Only Xa wr v9 ∧ v9.heap[Xa]? = some (.cells (lkC (.slice ao l.length cap) vv mq (some ⟨Xn, 0, none⟩)) 130 (0, 0)) ∧ ((zB 25) = false → mq = false) ∧ ((zB 25) = true → (zB 4) = true ∧ mq = false) ∧ ((zB 22) = true → (zB 4) = true) ∧ ((zB 5) = true → (zB 4) = true)) (by kernel_rfl) ?_ ?_ ?_
    ·exact ⟨fun _ => false, fun zd => if zd = 39 then u39 else if zd = 38 then u38 else if zd = 37 then u37 else if zd = 36 then u36 else if zd = 35 then u35 else if zd = 34 then u34 else if zd = 33 then u33 else if zd = 32 then u32 else if zd = 31 then u31 else if zd = 30 then u30 else if zd = 29 then u29 else if zd = 28 then u28 else if zd = 27 then u27 else if zd = 26 then u26 else if zd = 25 then u25 else if zd = 24 then u24 else if zd = 23 then u23 else if zd = 22 then u22 else if zd = 21 then u21 else if zd = 20 then u20 else if zd = 19 then u19 else if zd = 18 then u18 else if zd = 17 then u17 else if zd = 16 then u16 else if zd = 15 then u15 else undef, false, rfl, by kernel_rfl, ⟨fun e => ft e, fun e => ft e, fun e => ft e, fun e => ft e, fun e => ft e, fun e => ft e, fun e => ft e, fun e => ft e, fun e => ft e, fun e => ft e, fun e => ft e, fun e => ft e, fun e => ft e, fun e => ft e, fun e => ft e, fun e => ft e, fun e => ft e, fun e => ft e, fun e => ft e, fun e => ft e, fun e => ft e, fun e => ft e, fun e => ft e, fun e => ft e, fun e => ft e⟩, ⟨Only.of (Below.refl _ _).drew, hz, fun _ => rfl, fun e => ft e, fun e => ft e, fun e => ft e⟩⟩
    ·refine StepsI.cons rfl ?_ ?_
     ·rintro L zA v9 ⟨zB, zS, mq, rfl, rfl, hF, hW⟩ hL hm K hK
      have hb0 : zB 0 = false := by simpa using hL
      clear hL hm
      simp only [pE]
      have HWz := mkHid hW
      clear hW
      go_simp
      have hW := HWz.out
      clear HWz
      exact hK.out _ _ ⟨fun zj => if zj = 0 then true else zB zj, fun zd => if zd = 15 then .pointer (some ⟨Xa, 0, none⟩) else zS zd, mq, rfl, by kernel_rfl, ⟨fun _ => rfl, hF.2.1, hF.2.2.1, hF.2.2.2.1, hF.2.2.2.2.1, hF.2.2.2.2.2.1, hF.2.2.2.2.2.2.1, hF.2.2.2.2.2.2.2.1, hF.2.2.2.2.2.2.2.2.1, hF.2.2.2.2.2.2.2.2.2.1, hF.2.2.2.2.2.2.2.2.2.2.1, hF.2.2.2.2.2.2.2.2.2.2.2.1, hF.2.2.2.2.2.2.2.2.2.2.2.2.1, hF.2.2.2.2.2.2.2.2.2.2.2.2.2.1, hF.2.2.2.2.2.2.2.2.2.2.2.2.2.2.1, hF.2.2.2.2.2.2.2.2.2.2.2.2.2.2.2.1, hF.2.2.2.2.2.2.2.2.2.2.2.2.2.2.2.2.1, hF.2.2.2.2.2.2.2.2.2.2.2.2.2.2.2.2.2.1, hF.2.2.2.2.2.2.2.2.2.2.2.2.2.2.2.2.2.2.1, hF.2.2.2.2.2.2.2.2.2.2.2.2.2.2.2.2.2.2.2.1, hF.2.2.2.2.2.2.2.2.2.2.2.2.2.2.2.2.2.2.2.2.1, hF.2.2.2.2.2.2.2.2.2.2.2.2.2.2.2.2.2.2.2.2.2.1, hF.2.2.2.2.2.2.2.2.2.2.2.2.2.2.2.2.2.2.2.2.2.2.1, hF.2.2.2.2.2.2.2.2.2.2.2.2.2.2.2.2.2.2.2.2.2.2.2.1, hF.2.2.2.2.2.2.2.2.2.2.2.2.2.2.2.2.2.2.2.2.2.2.2.2⟩, hW⟩
     refine StepsI.cons rfl ?_ ?_
     ·rintro L zA v9 ⟨zB, zS, mq, rfl, rfl, hF, hW⟩ hL hm K hK
      have hb1 : zB 1 = false := by simpa using hL
      clear hL hm
      simp only [pE]
      have HWz := mkHid hW
      clear hW
      go_simp
      have hW := HWz.out
      clear HWz
      exact hK.out _ _ ⟨fun zj => if zj = 1 then true else zB zj, fun zd => if zd = 16 then .pointer (some ⟨Xa, 0, none⟩) else zS zd, mq, rfl, by kernel_rfl, ⟨hF.1, fun _ => rfl, hF.2.2.1, hF.2.2.2.1, hF.2.2.2.2.1, hF.2.2.2.2.2.1, hF.2.2.2.2.2.2.1, hF.2.2.2.2.2.2.2.1, hF.2.2.2.2.2.2.2.2.1, hF.2.2.2.2.2.2.2.2.2.1, hF.2.2.2.2.2.2.2.2.2.2.1, hF.2.2.2.2.2.2.2.2.2.2.2.1, hF.2.2.2.2.2.2.2.2.2.2.2.2.1, hF.2.2.2.2.2.2.2.2.2.2.2.2.2.1, hF.2.2.2.2.2.2.2.2.2.2.2.2.2.2.1, hF.2.2.2.2.2.2.2.2.2.2.2.2.2.2.2.1, hF.2.2.2.2.2.2.2.2.2.2.2.2.2.2.2.2.1, hF.2.2.2.2.2.2.2.2.2.2.2.2.2.2.2.2.2.1, hF.2.2.2.2.2.2.2.2.2.2.2.2.2.2.2.2.2.2.1, hF.2.2.2.2.2.2.2.2.2.2.2.2.2.2.2.2.2.2.2.1, hF.2.2.2.2.2.2.2.2.2.2.2.2.2.2.2.2.2.2.2.2.1, hF.2.2.2.2.2.2.2.2.2.2.2.2.2.2.2.2.2.2.2.2.2.1, hF.2.2.2.2.2.2.2.2.2.2.2.2.2.2.2.2.2.2.2.2.2.2.1, hF.2.2.2.2.2.2.2.2.2.2.2.2.2.2.2.2.2.2.2.2.2.2.2.1, hF.2.2.2.2.2.2.2.2.2.2.2.2.2.2.2.2.2.2.2.2.2.2.2.2⟩, hW⟩
     refine StepsI.cons rfl ?_ ?_
     ·rintro L zA v9 ⟨zB, zS, mq, rfl, rfl, hF, hW⟩ hL hm K hK
      have hb2 : zB 2 = false := by simpa using hL
      have hb1 : zB 1 = true := mt 1 hm (by kernel_rfl)
      have e1 : zS 16 = .pointer (some ⟨Xa, 0, none⟩) := hF.2.1 hb1
      clear hL hm
      simp only [pE]
      simp only [e1]
      have HWz := mkHid hW
      clear hW
      go_simp
      have hW := HWz.out
      clear HWz
      exact hK.out _ _ ⟨fun zj => if zj = 1 then true else if zj = 2 then true else zB zj, fun zd => if zd = 17 then .pointer (some ⟨Xa, 0, none⟩) else if zd = 16 then .pointer (some ⟨Xa, 0, none⟩) else zS zd, mq, by simp [hb1], by kernel_rfl, ⟨hF.1, fun _ => rfl, fun _ => rfl, hF.2.2.2.1, hF.2.2.2.2.1, hF.2.2.2.2.2.1, hF.2.2.2.2.2.2.1, hF.2.2.2.2.2.2.2.1, hF.2.2.2.2.2.2.2.2.1, hF.2.2.2.2.2.2.2.2.2.1, hF.2.2.2.2.2.2.2.2.2.2.1, hF.2.2.2.2.2.2.2.2.2.2.2.1, hF.2.2.2.2.2.2.2.2.2.2.2.2.1, hF.2.2.2.2.2.2.2.2.2.2.2.2.2.1, hF.2.2.2.2.2.2.2.2.2.2.2.2.2.2.1, hF.2.2.2.2.2.2.2.2.2.2.2.2.2.2.2.1, hF.2.2.2.2.2.2.2.2.2.2.2.2.2.2.2.2.1, hF.2.2.2.2.2.2.2.2.2.2.2.2.2.2.2.2.2.1, hF.2.2.2.2.2.2.2.2.2.2.2.2.2.2.2.2.2.2.1, hF.2.2.2.2.2.2.2.2.2.2.2.2.2.2.2.2.2.2.2.1, hF.2.2.2.2.2.2.2.2.2.2.2.2.2.2.2.2.2.2.2.2.1, hF.2.2.2.2.2.2.2.2.2.2.2.2.2.2.2.2.2.2.2.2.2.1, hF.2.2.2.2.2.2.2.2.2.2.2.2.2.2.2.2.2.2.2.2.2.2.1, hF.2.2.2.2.2.2.2.2.2.2.2.2.2.2.2.2.2.2.2.2.2.2.2.1, hF.2.2.2.2.2.2.2.2.2.2.2.2.2.2.2.2.2.2.2.2.2.2.2.2⟩, hW⟩
     refine StepsI.cons rfl ?_ ?_
     ·rintro L zA v9 ⟨zB, zS, mq, rfl, rfl, hF, hW⟩ hL hm K hK
      have hb3 : zB 3 = false := by simpa using hL
      have hb2 : zB 2 = true := mt 2 hm (by kernel_rfl)
      have e2 : zS 17 = .pointer (some ⟨Xa, 0, none⟩) := hF.2.2.1 hb2
      clear hL hm
      simp only [pE]
      simp only [e2]
      have HWz := mkHid hW
      clear hW
      go_simp
      have hW := HWz.out
      clear HWz
      exact hK.out _ _ ⟨fun zj => if zj = 2 then true else if zj = 3 then true else zB zj, fun zd => if zd = 18 then .pointer (some ⟨Xa, 5, none⟩) else if zd = 17 then .pointer (some ⟨Xa, 0, none⟩) else zS zd, mq, by simp [hb2], by kernel_rfl, ⟨hF.1, hF.2.1, fun _ => rfl, fun _ => rfl, hF.2.2.2.2.1, hF.2.2.2.2.2.1, hF.2.2.2.2.2.2.1, hF.2.2.2.2.2.2.2.1, hF.2.2.2.2.2.2.2.2.1, hF.2.2.2.2.2.2.2.2.2.1, hF.2.2.2.2.2.2.2.2.2.2.1, hF.2.2.2.2.2.2.2.2.2.2.2.1, hF.2.2.2.2.2.2.2.2.2.2.2.2.1, hF.2.2.2.2.2.2.2.2.2.2.2.2.2.1, hF.2.2.2.2.2.2.2.2.2.2.2.2.2.2.1, hF.2.2.2.2.2.2.2.2.2.2.2.2.2.2.2.1, hF.2.2.2.2.2.2.2.2.2.2.2.2.2.2.2.2.1, hF.2.2.2.2.2.2.2.2.2.2.2.2.2.2.2.2.2.1, hF.2.2.2.2.2.2.2.2.2.2.2.2.2.2.2.2.2.2.1, hF.2.2.2.2.2.2.2.2.2.2.2.2.2.2.2.2.2.2.2.1, hF.2.2.2.2.2.2.2.2.2.2.2.2.2.2.2.2.2.2.2.2.1, hF.2.2.2.2.2.2.2.2.2.2.2.2.2.2.2.2.2.2.2.2.2.1, hF.2.2.2.2.2.2.2.2.2.2.2.2.2.2.2.2.2.2.2.2.2.2.1, hF.2.2.2.2.2.2.2.2.2.2.2.2.2.2.2.2.2.2.2.2.2.2.2.1, hF.2.2.2.2.2.2.2.2.2.2.2.2.2.2.2.2.2.2.2.2.2.2.2.2⟩, hW⟩
     refine StepsI.cons rfl ?_ ?_
     ·rintro L zA v9 ⟨zB, zS, mq, rfl, rfl, hF, hW⟩ hL hm K hK
      have hb4 : zB 4 = false := by simpa using hL
      have hb3 : zB 3 = true := mt 3 hm (by kernel_rfl)
      have e3 : zS 18 = .pointer (some ⟨Xa, 5, none⟩) := hF.2.2.2.1 hb3
      clear hL hm
      rw [hb4] at hW
      simp only [pE]
      simp only [e3]
      have h25 : zB 25 = false := by cases e : zB 25 with | false => rfl | true => exact ft (hW.2.2.2.1 e).1
      have em := hW.2.2.1 h25
      have hcl := hW.2.1
      rw [em] at hcl
      obtain ⟨_, _, _, _, _, c5, _, _, _, _, _, _, _, _⟩ := cel_of hcl
      clear em hcl
      have HWz := mkHid hW
      clear hW
      go_simp
      have hW := HWz.out
      clear HWz
      exact hK.out _ _ ⟨fun zj => if zj = 3 then true else if zj = 4 then true else zB zj, fun zd => if zd = 19 then .bool false else if zd = 18 then .pointer (some ⟨Xa, 5, none⟩) else zS zd, mq, by simp [hb3], by kernel_rfl, ⟨hF.1, hF.2.1, hF.2.2.1, fun _ => rfl, fun _ => rfl, hF.2.2.2.2.2.1, hF.2.2.2.2.2.2.1, hF.2.2.2.2.2.2.2.1, hF.2.2.2.2.2.2.2.2.1, hF.2.2.2.2.2.2.2.2.2.1, hF.2.2.2.2.2.2.2.2.2.2.1, hF.2.2.2.2.2.2.2.2.2.2.2.1, hF.2.2.2.2.2.2.2.2.2.2.2.2.1, hF.2.2.2.2.2.2.2.2.2.2.2.2.2.1, hF.2.2.2.2.2.2.2.2.2.2.2.2.2.2.1, hF.2.2.2.2.2.2.2.2.2.2.2.2.2.2.2.1, hF.2.2.2.2.2.2.2.2.2.2.2.2.2.2.2.2.1, hF.2.2.2.2.2.2.2.2.2.2.2.2.2.2.2.2.2.1, hF.2.2.2.2.2.2.2.2.2.2.2.2.2.2.2.2.2.2.1, hF.2.2.2.2.2.2.2.2.2.2.2.2.2.2.2.2.2.2.2.1, hF.2.2.2.2.2.2.2.2.2.2.2.2.2.2.2.2.2.2.2.2.1, hF.2.2.2.2.2.2.2.2.2.2.2.2.2.2.2.2.2.2.2.2.2.1, hF.2.2.2.2.2.2.2.2.2.2.2.2.2.2.2.2.2.2.2.2.2.2.1, hF.2.2.2.2.2.2.2.2.2.2.2.2.2.2.2.2.2.2.2.2.2.2.2.1, hF.2.2.2.2.2.2.2.2.2.2.2.2.2.2.2.2.2.2.2.2.2.2.2.2⟩, ⟨hW.1, hW.2.1, hW.2.2.1, fun e => ft (hW.2.2.2.1 e).1, fun _ => rfl, fun _ => rfl⟩⟩
     refine StepsI.cons rfl ?_ ?_
     ·rintro L zA v9 ⟨zB, zS, mq, rfl, rfl, hF, hW⟩ hL hm K hK
      have hb5 : zB 5 = false := by simpa using hL
      have hb4 : zB 4 = true := mt 4 hm (by kernel_rfl)
      have e4 : zS 19 = .bool false := hF.2.2.2.2.1 hb4
      clear hL hm
      rw [hb5] at hW
      rw [hb4] at hW
      simp only [pE]
      simp only [e4]
      have HWz := mkHid hW
      clear hW
      go_simp
      have hW := HWz.out
      clear HWz
      exact hK.out _ _ ⟨fun zj => if zj = 4 then true else if zj = 5 then true else zB zj, fun zd => if zd = 20 then .bool false else if zd = 19 then .bool false else zS zd, mq, by simp [hb4], by kernel_rfl, ⟨hF.1, hF.2.1, hF.2.2.1, hF.2.2.2.1, fun _ => rfl, fun _ => rfl, hF.2.2.2.2.2.2.1, hF.2.2.2.2.2.2.2.1, hF.2.2.2.2.2.2.2.2.1, hF.2.2.2.2.2.2.2.2.2.1, hF.2.2.2.2.2.2.2.2.2.2.1, hF.2.2.2.2.2.2.2.2.2.2.2.1, hF.2.2.2.2.2.2.2.2.2.2.2.2.1, hF.2.2.2.2.2.2.2.2.2.2.2.2.2.1, hF.2.2.2.2.2.2.2.2.2.2.2.2.2.2.1, hF.2.2.2.2.2.2.2.2.2.2.2.2.2.2.2.1, hF.2.2.2.2.2.2.2.2.2.2.2.2.2.2.2.2.1, hF.2.2.2.2.2.2.2.2.2.2.2.2.2.2.2.2.2.1, hF.2.2.2.2.2.2.2.2.2.2.2.2.2.2.2.2.2.2.1, hF.2.2.2.2.2.2.2.2.2.2.2.2.2.2.2.2.2.2.2.1, hF.2.2.2.2.2.2.2.2.2.2.2.2.2.2.2.2.2.2.2.2.1, hF.2.2.2.2.2.2.2.2.2.2.2.2.2.2.2.2.2.2.2.2.2.1, hF.2.2.2.2.2.2.2.2.2.2.2.2.2.2.2.2.2.2.2.2.2.2.1, hF.2.2.2.2.2.2.2.2.2.2.2.2.2.2.2.2.2.2.2.2.2.2.2.1, hF.2.2.2.2.2.2.2.2.2.2.2.2.2.2.2.2.2.2.2.2.2.2.2.2⟩, ⟨hW.1, hW.2.1, hW.2.2.1, hW.2.2.2.1, hW.2.2.2.2.1, fun _ => rfl⟩⟩
     refine StepsI.cons rfl ?_ ?_
     ·rintro L zA v9 ⟨zB, zS, mq, rfl, rfl, hF, hW⟩ hL hm K hK
      have hb6 : zB 6 = false := by simpa using hL
      have hb5 : zB 5 = true := mt 5 hm (by kernel_rfl)
      have e5 : zS 20 = .bool false := hF.2.2.2.2.2.1 hb5
      clear hL hm
      rw [hb5] at hW
      simp only [pE]
      simp only [e5]
      rw [if_neg (by exact Bool.false_ne_true)]
      exact hK.out _ _ ⟨fun zj => if zj = 5 then true else if zj = 6 then true else zB zj, fun zd => if zd = 21 then undef else if zd = 20 then .bool false else zS zd, mq, by simp [hb5], by kernel_rfl, ⟨hF.1, hF.2.1, hF.2.2.1, hF.2.2.2.1, hF.2.2.2.2.1, fun _ => rfl, fun _ => rfl, hF.2.2.2.2.2.2.2.1, hF.2.2.2.2.2.2.2.2.1, hF.2.2.2.2.2.2.2.2.2.1, hF.2.2.2.2.2.2.2.2.2.2.1, hF.2.2.2.2.2.2.2.2.2.2.2.1, hF.2.2.2.2.2.2.2.2.2.2.2.2.1, hF.2.2.2.2.2.2.2.2.2.2.2.2.2.1, hF.2.2.2.2.2.2.2.2.2.2.2.2.2.2.1, hF.2.2.2.2.2.2.2.2.2.2.2.2.2.2.2.1, hF.2.2.2.2.2.2.2.2.2.2.2.2.2.2.2.2.1, hF.2.2.2.2.2.2.2.2.2.2.2.2.2.2.2.2.2.1, hF.2.2.2.2.2.2.2.2.2.2.2.2.2.2.2.2.2.2.1, hF.2.2.2.2.2.2.2.2.2.2.2.2.2.2.2.2.2.2.2.1, hF.2.2.2.2.2.2.2.2.2.2.2.2.2.2.2.2.2.2.2.2.1, hF.2.2.2.2.2.2.2.2.2.2.2.2.2.2.2.2.2.2.2.2.2.1, hF.2.2.2.2.2.2.2.2.2.2.2.2.2.2.2.2.2.2.2.2.2.2.1, hF.2.2.2.2.2.2.2.2.2.2.2.2.2.2.2.2.2.2.2.2.2.2.2.1, hF.2.2.2.2.2.2.2.2.2.2.2.2.2.2.2.2.2.2.2.2.2.2.2.2⟩, hW⟩
     refine StepsI.cons rfl ?_ ?_
     ·rintro L zA v9 ⟨zB, zS, mq, rfl, rfl, hF, hW⟩ hL hm K hK
      have hb7 : zB 7 = false := by simpa using hL
      have hb5 : zB 5 = true := mt 5 hm (by kernel_rfl)
      have e5 : zS 20 = .bool false := hF.2.2.2.2.2.1 hb5
      clear hL hm
      rw [hb5] at hW
      simp only [pE]
      simp only [e5]
      rw [if_neg (by exact Bool.false_ne_true)]
      exact hK.out _ _ ⟨fun zj => if zj = 5 then true else if zj = 7 then true else zB zj, fun zd => if zd = 22 then undef else if zd = 20 then .bool false else zS zd, mq, by simp [hb5], by kernel_rfl, ⟨hF.1, hF.2.1, hF.2.2.1, hF.2.2.2.1, hF.2.2.2.2.1, fun _ => rfl, hF.2.2.2.2.2.2.1, fun _ => rfl, hF.2.2.2.2.2.2.2.2.1, hF.2.2.2.2.2.2.2.2.2.1, hF.2.2.2.2.2.2.2.2.2.2.1, hF.2.2.2.2.2.2.2.2.2.2.2.1, hF.2.2.2.2.2.2.2.2.2.2.2.2.1, hF.2.2.2.2.2.2.2.2.2.2.2.2.2.1, hF.2.2.2.2.2.2.2.2.2.2.2.2.2.2.1, hF.2.2.2.2.2.2.2.2.2.2.2.2.2.2.2.1, hF.2.2.2.2.2.2.2.2.2.2.2.2.2.2.2.2.1, hF.2.2.2.2.2.2.2.2.2.2.2.2.2.2.2.2.2.1, hF.2.2.2.2.2.2.2.2.2.2.2.2.2.2.2.2.2.2.1, hF.2.2.2.2.2.2.2.2.2.2.2.2.2.2.2.2.2.2.2.1, hF.2.2.2.2.2.2.2.2.2.2.2.2.2.2.2.2.2.2.2.2.1, hF.2.2.2.2.2.2.2.2.2.2.2.2.2.2.2.2.2.2.2.2.2.1, hF.2.2.2.2.2.2.2.2.2.2.2.2.2.2.2.2.2.2.2.2.2.2.1, hF.2.2.2.2.2.2.2.2.2.2.2.2.2.2.2.2.2.2.2.2.2.2.2.1, hF.2.2.2.2.2.2.2.2.2.2.2.2.2.2.2.2.2.2.2.2.2.2.2.2⟩, hW⟩
     refine StepsI.cons rfl ?_ ?_
     ·rintro L zA v9 ⟨zB, zS, mq, rfl, rfl, hF, hW⟩ hL hm K hK
      have hb8 : zB 8 = false := by simpa using hL
      have hb5 : zB 5 = true := mt 5 hm (by kernel_rfl)
      have e5 : zS 20 = .bool false := hF.2.2.2.2.2.1 hb5
      clear hL hm
      rw [hb5] at hW
      simp only [pE]
      simp only [e5]
      rw [if_neg (by exact Bool.false_ne_true)]
      exact hK.out _ _ ⟨fun zj => if zj = 5 then true else if zj = 8 then true else zB zj, fun zd => if zd = 23 then undef else if zd = 20 then .bool false else zS zd, mq, by simp [hb5], by kernel_rfl, ⟨hF.1, hF.2.1, hF.2.2.1, hF.2.2.2.1, hF.2.2.2.2.1, fun _ => rfl, hF.2.2.2.2.2.2.1, hF.2.2.2.2.2.2.2.1, fun _ => rfl, hF.2.2.2.2.2.2.2.2.2.1, hF.2.2.2.2.2.2.2.2.2.2.1, hF.2.2.2.2.2.2.2.2.2.2.2.1, hF.2.2.2.2.2.2.2.2.2.2.2.2.1, hF.2.2.2.2.2.2.2.2.2.2.2.2.2.1, hF.2.2.2.2.2.2.2.2.2.2.2.2.2.2.1, hF.2.2.2.2.2.2.2.2.2.2.2.2.2.2.2.1, hF.2.2.2.2.2.2.2.2.2.2.2.2.2.2.2.2.1, hF.2.2.2.2.2.2.2.2.2.2.2.2.2.2.2.2.2.1, hF.2.2.2.2.2.2.2.2.2.2.2.2.2.2.2.2.2.2.1, hF.2.2.2.2.2.2.2.2.2.2.2.2.2.2.2.2.2.2.2.1, hF.2.2.2.2.2.2.2.2.2.2.2.2.2.2.2.2.2.2.2.2.1, hF.2.2.2.2.2.2.2.2.2.2.2.2.2.2.2.2.2.2.2.2.2.1, hF.2.2.2.2.2.2.2.2.2.2.2.2.2.2.2.2.2.2.2.2.2.2.1, hF.2.2.2.2.2.2.2.2.2.2.2.2.2.2.2.2.2.2.2.2.2.2.2.1, hF.2.2.2.2.2.2.2.2.2.2.2.2.2.2.2.2.2.2.2.2.2.2.2.2⟩, hW⟩
     refine StepsI.cons rfl ?_ ?_
     ·rintro L zA v9 ⟨zB, zS, mq, rfl, rfl, hF, hW⟩ hL hm K hK
      have hb9 : zB 9 = false := by simpa using hL
      have hb5 : zB 5 = true := mt 5 hm (by kernel_rfl)
      have e5 : zS 20 = .bool false := hF.2.2.2.2.2.1 hb5
      clear hL hm
      rw [hb5] at hW
      simp only [pE]
      simp only [e5]
      rw [if_neg (by exact Bool.false_ne_true)]
      exact hK.out _ _ ⟨fun zj => if zj = 5 then true else if zj = 9 then true else zB zj, fun zd => if zd = 24 then undef else if zd = 20 then .bool false else zS zd, mq, by simp [hb5], by kernel_rfl, ⟨hF.1, hF.2.1, hF.2.2.1, hF.2.2.2.1, hF.2.2.2.2.1, fun _ => rfl, hF.2.2.2.2.2.2.1, hF.2.2.2.2.2.2.2.1, hF.2.2.2.2.2.2.2.2.1, fun _ => rfl, hF.2.2.2.2.2.2.2.2.2.2.1, hF.2.2.2.2.2.2.2.2.2.2.2.1, hF.2.2.2.2.2.2.2.2.2.2.2.2.1, hF.2.2.2.2.2.2.2.2.2.2.2.2.2.1, hF.2.2.2.2.2.2.2.2.2.2.2.2.2.2.1, hF.2.2.2.2.2.2.2.2.2.2.2.2.2.2.2.1, hF.2.2.2.2.2.2.2.2.2.2.2.2.2.2.2.2.1, hF.2.2.2.2.2.2.2.2.2.2.2.2.2.2.2.2.2.1, hF.2.2.2.2.2.2.2.2.2.2.2.2.2.2.2.2.2.2.1, hF.2.2.2.2.2.2.2.2.2.2.2.2.2.2.2.2.2.2.2.1, hF.2.2.2.2.2.2.2.2.2.2.2.2.2.2.2.2.2.2.2.2.1, hF.2.2.2.2.2.2.2.2.2.2.2.2.2.2.2.2.2.2.2.2.2.1, hF.2.2.2.2.2.2.2.2.2.2.2.2.2.2.2.2.2.2.2.2.2.2.1, hF.2.2.2.2.2.2.2.2.2.2.2.2.2.2.2.2.2.2.2.2.2.2.2.1, hF.2.2.2.2.2.2.2.2.2.2.2.2.2.2.2.2.2.2.2.2.2.2.2.2⟩, hW⟩
     refine StepsI.cons rfl ?_ ?_
     ·rintro L zA v9 ⟨zB, zS, mq, rfl, rfl, hF, hW⟩ hL hm K hK
      have hb10 : zB 10 = false := by simpa using hL
      have hb5 : zB 5 = true := mt 5 hm (by kernel_rfl)
      have e5 : zS 20 = .bool false := hF.2.2.2.2.2.1 hb5
      clear hL hm
      rw [hb5] at hW
      simp only [pE]
      simp only [e5]
      rw [if_neg (by exact Bool.false_ne_true)]
      exact hK.out _ _ ⟨fun zj => if zj = 5 then true else if zj = 10 then true else zB zj, fun zd => if zd = 25 then undef else if zd = 20 then .bool false else zS zd, mq, by simp [hb5], by kernel_rfl, ⟨hF.1, hF.2.1, hF.2.2.1, hF.2.2.2.1, hF.2.2.2.2.1, fun _ => rfl, hF.2.2.2.2.2.2.1, hF.2.2.2.2.2.2.2.1, hF.2.2.2.2.2.2.2.2.1, hF.2.2.2.2.2.2.2.2.2.1, fun _ => rfl, hF.2.2.2.2.2.2.2.2.2.2.2.1, hF.2.2.2.2.2.2.2.2.2.2.2.2.1, hF.2.2.2.2.2.2.2.2.2.2.2.2.2.1, hF.2.2.2.2.2.2.2.2.2.2.2.2.2.2.1, hF.2.2.2.2.2.2.2.2.2.2.2.2.2.2.2.1, hF.2.2.2.2.2.2.2.2.2.2.2.2.2.2.2.2.1, hF.2.2.2.2.2.2.2.2.2.2.2.2.2.2.2.2.2.1, hF.2.2.2.2.2.2.2.2.2.2.2.2.2.2.2.2.2.2.1, hF.2.2.2.2.2.2.2.2.2.2.2.2.2.2.2.2.2.2.2.1, hF.2.2.2.2.2.2.2.2.2.2.2.2.2.2.2.2.2.2.2.2.1, hF.2.2.2.2.2.2.2.2.2.2.2.2.2.2.2.2.2.2.2.2.2.1, hF.2.2.2.2.2.2.2.2.2.2.2.2.2.2.2.2.2.2.2.2.2.2.1, hF.2.2.2.2.2.2.2.2.2.2.2.2.2.2.2.2.2.2.2.2.2.2.2.1, hF.2.2.2.2.2.2.2.2.2.2.2.2.2.2.2.2.2.2.2.2.2.2.2.2⟩, hW⟩
     refine StepsI.cons rfl ?_ ?_
     ·rintro L zA v9 ⟨zB, zS, mq, rfl, rfl, hF, hW⟩ hL hm K hK
      have hb11 : zB 11 = false := by simpa using hL
      have hb5 : zB 5 = true := mt 5 hm (by kernel_rfl)
      have e5 : zS 20 = .bool false := hF.2.2.2.2.2.1 hb5
      clear hL hm
      rw [hb5] at hW
      simp only [pE]
      simp only [e5]
      rw [if_neg (by exact Bool.false_ne_true)]
      exact hK.out _ _ ⟨fun zj => if zj = 5 then true else if zj = 11 then true else zB zj, fun zd => if zd = 26 then undef else if zd = 20 then .bool false else zS zd, mq, by simp [hb5], by kernel_rfl, ⟨hF.1, hF.2.1, hF.2.2.1, hF.2.2.2.1, hF.2.2.2.2.1, fun _ => rfl, hF.2.2.2.2.2.2.1, hF.2.2.2.2.2.2.2.1, hF.2.2.2.2.2.2.2.2.1, hF.2.2.2.2.2.2.2.2.2.1, hF.2.2.2.2.2.2.2.2.2.2.1, fun _ => rfl, hF.2.2.2.2.2.2.2.2.2.2.2.2.1, hF.2.2.2.2.2.2.2.2.2.2.2.2.2.1, hF.2.2.2.2.2.2.2.2.2.2.2.2.2.2.1, hF.2.2.2.2.2.2.2.2.2.2.2.2.2.2.2.1, hF.2.2.2.2.2.2.2.2.2.2.2.2.2.2.2.2.1, hF.2.2.2.2.2.2.2.2.2.2.2.2.2.2.2.2.2.1, hF.2.2.2.2.2.2.2.2.2.2.2.2.2.2.2.2.2.2.1, hF.2.2.2.2.2.2.2.2.2.2.2.2.2.2.2.2.2.2.2.1, hF.2.2.2.2.2.2.2.2.2.2.2.2.2.2.2.2.2.2.2.2.1, hF.2.2.2.2.2.2.2.2.2.2.2.2.2.2.2.2.2.2.2.2.2.1, hF.2.2.2.2.2.2.2.2.2.2.2.2.2.2.2.2.2.2.2.2.2.2.1, hF.2.2.2.2.2.2.2.2.2.2.2.2.2.2.2.2.2.2.2.2.2.2.2.1, hF.2.2.2.2.2.2.2.2.2.2.2.2.2.2.2.2.2.2.2.2.2.2.2.2⟩, hW⟩
     refine StepsI.cons rfl ?_ ?_
     ·rintro L zA v9 ⟨zB, zS, mq, rfl, rfl, hF, hW⟩ hL hm K hK
      have hb12 : zB 12 = false := by simpa using hL
      have hb5 : zB 5 = true := mt 5 hm (by kernel_rfl)
      have e5 : zS 20 = .bool false := hF.2.2.2.2.2.1 hb5
      clear hL hm
      rw [hb5] at hW
      simp only [pE]
      simp only [e5]
      rw [if_neg (by exact Bool.false_ne_true)]
      exact hK.out _ _ ⟨fun zj => if zj = 5 then true else if zj = 12 then true else zB zj, fun zd => if zd = 27 then undef else if zd = 20 then .bool false else zS zd, mq, by simp [hb5], by kernel_rfl, ⟨hF.1, hF.2.1, hF.2.2.1, hF.2.2.2.1, hF.2.2.2.2.1, fun _ => rfl, hF.2.2.2.2.2.2.1, hF.2.2.2.2.2.2.2.1, hF.2.2.2.2.2.2.2.2.1, hF.2.2.2.2.2.2.2.2.2.1, hF.2.2.2.2.2.2.2.2.2.2.1, hF.2.2.2.2.2.2.2.2.2.2.2.1, fun _ => rfl, hF.2.2.2.2.2.2.2.2.2.2.2.2.2.1, hF.2.2.2.2.2.2.2.2.2.2.2.2.2.2.1, hF.2.2.2.2.2.2.2.2.2.2.2.2.2.2.2.1, hF.2.2.2.2.2.2.2.2.2.2.2.2.2.2.2.2.1, hF.2.2.2.2.2.2.2.2.2.2.2.2.2.2.2.2.2.1, hF.2.2.2.2.2.2.2.2.2.2.2.2.2.2.2.2.2.2.1, hF.2.2.2.2.2.2.2.2.2.2.2.2.2.2.2.2.2.2.2.1, hF.2.2.2.2.2.2.2.2.2.2.2.2.2.2.2.2.2.2.2.2.1, hF.2.2.2.2.2.2.2.2.2.2.2.2.2.2.2.2.2.2.2.2.2.1, hF.2.2.2.2.2.2.2.2.2.2.2.2.2.2.2.2.2.2.2.2.2.2.1, hF.2.2.2.2.2.2.2.2.2.2.2.2.2.2.2.2.2.2.2.2.2.2.2.1, hF.2.2.2.2.2.2.2.2.2.2.2.2.2.2.2.2.2.2.2.2.2.2.2.2⟩, hW⟩
     refine StepsI.cons rfl ?_ ?_
     ·rintro L zA v9 ⟨zB, zS, mq, rfl, rfl, hF, hW⟩ hL hm K hK
      have hb13 : zB 13 = false := by simpa using hL
      have hb5 : zB 5 = true := mt 5 hm (by kernel_rfl)
      have e5 : zS 20 = .bool false := hF.2.2.2.2.2.1 hb5
      clear hL hm
      rw [hb5] at hW
      simp only [pE]
      simp only [e5]
      rw [if_neg (by exact Bool.false_ne_true)]
      exact hK.out _ _ ⟨fun zj => if zj = 5 then true else if zj = 13 then true else zB zj, fun zd => if zd = 28 then undef else if zd = 20 then .bool false else zS zd, mq, by simp [hb5], by kernel_rfl, ⟨hF.1, hF.2.1, hF.2.2.1, hF.2.2.2.1, hF.2.2.2.2.1, fun _ => rfl, hF.2.2.2.2.2.2.1, hF.2.2.2.2.2.2.2.1, hF.2.2.2.2.2.2.2.2.1, hF.2.2.2.2.2.2.2.2.2.1, hF.2.2.2.2.2.2.2.2.2.2.1, hF.2.2.2.2.2.2.2.2.2.2.2.1, hF.2.2.2.2.2.2.2.2.2.2.2.2.1, fun _ => rfl, hF.2.2.2.2.2.2.2.2.2.2.2.2.2.2.1, hF.2.2.2.2.2.2.2.2.2.2.2.2.2.2.2.1, hF.2.2.2.2.2.2.2.2.2.2.2.2.2.2.2.2.1, hF.2.2.2.2.2.2.2.2.2.2.2.2.2.2.2.2.2.1, hF.2.2.2.2.2.2.2.2.2.2.2.2.2.2.2.2.2.2.1, hF.2.2.2.2.2.2.2.2.2.2.2.2.2.2.2.2.2.2.2.1, hF.2.2.2.2.2.2.2.2.2.2.2.2.2.2.2.2.2.2.2.2.1, hF.2.2.2.2.2.2.2.2.2.2.2.2.2.2.2.2.2.2.2.2.2.1, hF.2.2.2.2.2.2.2.2.2.2.2.2.2.2.2.2.2.2.2.2.2.2.1, hF.2.2.2.2.2.2.2.2.2.2.2.2.2.2.2.2.2.2.2.2.2.2.2.1, hF.2.2.2.2.2.2.2.2.2.2.2.2.2.2.2.2.2.2.2.2.2.2.2.2⟩, hW⟩
     refine StepsI.cons rfl ?_ ?_
     ·rintro L zA v9 ⟨zB, zS, mq, rfl, rfl, hF, hW⟩ hL hm K hK
      have hb14 : zB 14 = false := by simpa using hL
      have hb5 : zB 5 = true := mt 5 hm (by kernel_rfl)
      have e5 : zS 20 = .bool false := hF.2.2.2.2.2.1 hb5
      clear hL hm
      rw [hb5] at hW
      simp only [pE]
      simp only [e5]
      rw [if_neg (by exact Bool.false_ne_true)]
      exact hK.out _ _ ⟨fun zj => if zj = 5 then true else if zj = 14 then true else zB zj, fun zd => if zd = 29 then undef else if zd = 20 then .bool false else zS zd, mq, by simp [hb5], by kernel_rfl, ⟨hF.1, hF.2.1, hF.2.2.1, hF.2.2.2.1, hF.2.2.2.2.1, fun _ => rfl, hF.2.2.2.2.2.2.1, hF.2.2.2.2.2.2.2.1, hF.2.2.2.2.2.2.2.2.1, hF.2.2.2.2.2.2.2.2.2.1, hF.2.2.2.2.2.2.2.2.2.2.1, hF.2.2.2.2.2.2.2.2.2.2.2.1, hF.2.2.2.2.2.2.2.2.2.2.2.2.1, hF.2.2.2.2.2.2.2.2.2.2.2.2.2.1, fun _ => rfl, hF.2.2.2.2.2.2.2.2.2.2.2.2.2.2.2.1, hF.2.2.2.2.2.2.2.2.2.2.2.2.2.2.2.2.1, hF.2.2.2.2.2.2.2.2.2.2.2.2.2.2.2.2.2.1, hF.2.2.2.2.2.2.2.2.2.2.2.2.2.2.2.2.2.2.1, hF.2.2.2.2.2.2.2.2.2.2.2.2.2.2.2.2.2.2.2.1, hF.2.2.2.2.2.2.2.2.2.2.2.2.2.2.2.2.2.2.2.2.1, hF.2.2.2.2.2.2.2.2.2.2.2.2.2.2.2.2.2.2.2.2.2.1, hF.2.2.2.2.2.2.2.2.2.2.2.2.2.2.2.2.2.2.2.2.2.2.1, hF.2.2.2.2.2.2.2.2.2.2.2.2.2.2.2.2.2.2.2.2.2.2.2.1, hF.2.2.2.2.2.2.2.2.2.2.2.2.2.2.2.2.2.2.2.2.2.2.2.2⟩, hW⟩
     refine StepsI.cons rfl ?_ ?_
     ·rintro L zA v9 ⟨zB, zS, mq, rfl, rfl, hF, hW⟩ hL hm K hK
      have hb15 : zB 15 = false := by simpa using hL
      have hb5 : zB 5 = true := mt 5 hm (by kernel_rfl)
      have e5 : zS 20 = .bool false := hF.2.2.2.2.2.1 hb5
      clear hL hm
      rw [hb5] at hW
      simp only [pE]
      simp only [e5]
      rw [if_neg (by exact Bool.false_ne_true)]
      exact hK.out _ _ ⟨fun zj => if zj = 5 then true else if zj = 15 then true else zB zj, fun zd => if zd = 30 then undef else if zd = 20 then .bool false else zS zd, mq, by simp [hb5], by kernel_rfl, ⟨hF.1, hF.2.1, hF.2.2.1, hF.2.2.2.1, hF.2.2.2.2.1, fun _ => rfl, hF.2.2.2.2.2.2.1, hF.2.2.2.2.2.2.2.1, hF.2.2.2.2.2.2.2.2.1, hF.2.2.2.2.2.2.2.2.2.1, hF.2.2.2.2.2.2.2.2.2.2.1, hF.2.2.2.2.2.2.2.2.2.2.2.1, hF.2.2.2.2.2.2.2.2.2.2.2.2.1, hF.2.2.2.2.2.2.2.2.2.2.2.2.2.1, hF.2.2.2.2.2.2.2.2.2.2.2.2.2.2.1, fun _ => rfl, hF.2.2.2.2.2.2.2.2.2.2.2.2.2.2.2.2.1, hF.2.2.2.2.2.2.2.2.2.2.2.2.2.2.2.2.2.1, hF.2.2.2.2.2.2.2.2.2.2.2.2.2.2.2.2.2.2.1, hF.2.2.2.2.2.2.2.2.2.2.2.2.2.2.2.2.2.2.2.1, hF.2.2.2.2.2.2.2.2.2.2.2.2.2.2.2.2.2.2.2.2.1, hF.2.2.2.2.2.2.2.2.2.2.2.2.2.2.2.2.2.2.2.2.2.1, hF.2.2.2.2.2.2.2.2.2.2.2.2.2.2.2.2.2.2.2.2.2.2.1, hF.2.2.2.2.2.2.2.2.2.2.2.2.2.2.2.2.2.2.2.2.2.2.2.1, hF.2.2.2.2.2.2.2.2.2.2.2.2.2.2.2.2.2.2.2.2.2.2.2.2⟩, hW⟩
     refine StepsI.cons rfl ?_ ?_
     ·rintro L zA v9 ⟨zB, zS, mq, rfl, rfl, hF, hW⟩ hL hm K hK
      have hb16 : zB 16 = false := by simpa using hL
      have hb5 : zB 5 = true := mt 5 hm (by kernel_rfl)
      have e5 : zS 20 = .bool false := hF.2.2.2.2.2.1 hb5
      clear hL hm
      rw [hb5] at hW
      simp only [pE]
      simp only [e5]
      rw [if_neg (by exact Bool.false_ne_true)]
      exact hK.out _ _ ⟨fun zj => if zj = 5 then true else if zj = 16 then true else zB zj, fun zd => if zd = 31 then undef else if zd = 20 then .bool false else zS zd, mq, by simp [hb5], by kernel_rfl, ⟨hF.1, hF.2.1, hF.2.2.1, hF.2.2.2.1, hF.2.2.2.2.1, fun _ => rfl, hF.2.2.2.2.2.2.1, hF.2.2.2.2.2.2.2.1, hF.2.2.2.2.2.2.2.2.1, hF.2.2.2.2.2.2.2.2.2.1, hF.2.2.2.2.2.2.2.2.2.2.1, hF.2.2.2.2.2.2.2.2.2.2.2.1, hF.2.2.2.2.2.2.2.2.2.2.2.2.1, hF.2.2.2.2.2.2.2.2.2.2.2.2.2.1, hF.2.2.2.2.2.2.2.2.2.2.2.2.2.2.1, hF.2.2.2.2.2.2.2.2.2.2.2.2.2.2.2.1, fun _ => rfl, hF.2.2.2.2.2.2.2.2.2.2.2.2.2.2.2.2.2.1, hF.2.2.2.2.2.2.2.2.2.2.2.2.2.2.2.2.2.2.1, hF.2.2.2.2.2.2.2.2.2.2.2.2.2.2.2.2.2.2.2.1, hF.2.2.2.2.2.2.2.2.2.2.2.2.2.2.2.2.2.2.2.2.1, hF.2.2.2.2.2.2.2.2.2.2.2.2.2.2.2.2.2.2.2.2.2.1, hF.2.2.2.2.2.2.2.2.2.2.2.2.2.2.2.2.2.2.2.2.2.2.1, hF.2.2.2.2.2.2.2.2.2.2.2.2.2.2.2.2.2.2.2.2.2.2.2.1, hF.2.2.2.2.2.2.2.2.2.2.2.2.2.2.2.2.2.2.2.2.2.2.2.2⟩, hW⟩
     refine StepsI.cons rfl ?_ ?_
     ·rintro L zA v9 ⟨zB, zS, mq, rfl, rfl, hF, hW⟩ hL hm K hK
      have hb17 : zB 17 = false := by simpa using hL
      have hb5 : zB 5 = true := mt 5 hm (by kernel_rfl)
      have e5 : zS 20 = .bool false := hF.2.2.2.2.2.1 hb5
      clear hL hm
      rw [hb5] at hW
      simp only [pE]
      simp only [e5]
      rw [if_neg (by exact Bool.false_ne_true)]
      exact hK.out _ _ ⟨fun zj => if zj = 5 then true else if zj = 17 then true else zB zj, fun zd => if zd = 32 then undef else if zd = 20 then .bool false else zS zd, mq, by simp [hb5], by kernel_rfl, ⟨hF.1, hF.2.1, hF.2.2.1, hF.2.2.2.1, hF.2.2.2.2.1, fun _ => rfl, hF.2.2.2.2.2.2.1, hF.2.2.2.2.2.2.2.1, hF.2.2.2.2.2.2.2.2.1, hF.2.2.2.2.2.2.2.2.2.1, hF.2.2.2.2.2.2.2.2.2.2.1, hF.2.2.2.2.2.2.2.2.2.2.2.1, hF.2.2.2.2.2.2.2.2.2.2.2.2.1, hF.2.2.2.2.2.2.2.2.2.2.2.2.2.1, hF.2.2.2.2.2.2.2.2.2.2.2.2.2.2.1, hF.2.2.2.2.2.2.2.2.2.2.2.2.2.2.2.1, hF.2.2.2.2.2.2.2.2.2.2.2.2.2.2.2.2.1, fun _ => rfl, hF.2.2.2.2.2.2.2.2.2.2.2.2.2.2.2.2.2.2.1, hF.2.2.2.2.2.2.2.2.2.2.2.2.2.2.2.2.2.2.2.1, hF.2.2.2.2.2.2.2.2.2.2.2.2.2.2.2.2.2.2.2.2.1, hF.2.2.2.2.2.2.2.2.2.2.2.2.2.2.2.2.2.2.2.2.2.1, hF.2.2.2.2.2.2.2.2.2.2.2.2.2.2.2.2.2.2.2.2.2.2.1, hF.2.2.2.2.2.2.2.2.2.2.2.2.2.2.2.2.2.2.2.2.2.2.2.1, hF.2.2.2.2.2.2.2.2.2.2.2.2.2.2.2.2.2.2.2.2.2.2.2.2⟩, hW⟩
     refine StepsI.cons rfl ?_ ?_
     ·rintro L zA v9 ⟨zB, zS, mq, rfl, rfl, hF, hW⟩ hL hm K hK
      have hb18 : zB 18 = false := by simpa using hL
      have hb5 : zB 5 = true := mt 5 hm (by kernel_rfl)
      have e5 : zS 20 = .bool false := hF.2.2.2.2.2.1 hb5
      clear hL hm
      rw [hb5] at hW
      simp only [pE]
      simp only [e5]
      rw [if_neg (by exact Bool.false_ne_true)]
      exact hK.out _ _ ⟨fun zj => if zj = 5 then true else if zj = 18 then true else zB zj, fun zd => if zd = 33 then undef else if zd = 20 then .bool false else zS zd, mq, by simp [hb5], by kernel_rfl, ⟨hF.1, hF.2.1, hF.2.2.1, hF.2.2.2.1, hF.2.2.2.2.1, fun _ => rfl, hF.2.2.2.2.2.2.1, hF.2.2.2.2.2.2.2.1, hF.2.2.2.2.2.2.2.2.1, hF.2.2.2.2.2.2.2.2.2.1, hF.2.2.2.2.2.2.2.2.2.2.1, hF.2.2.2.2.2.2.2.2.2.2.2.1, hF.2.2.2.2.2.2.2.2.2.2.2.2.1, hF.2.2.2.2.2.2.2.2.2.2.2.2.2.1, hF.2.2.2.2.2.2.2.2.2.2.2.2.2.2.1, hF.2.2.2.2.2.2.2.2.2.2.2.2.2.2.2.1, hF.2.2.2.2.2.2.2.2.2.2.2.2.2.2.2.2.1, hF.2.2.2.2.2.2.2.2.2.2.2.2.2.2.2.2.2.1, fun _ => rfl, hF.2.2.2.2.2.2.2.2.2.2.2.2.2.2.2.2.2.2.2.1, hF.2.2.2.2.2.2.2.2.2.2.2.2.2.2.2.2.2.2.2.2.1, hF.2.2.2.2.2.2.2.2.2.2.2.2.2.2.2.2.2.2.2.2.2.1, hF.2.2.2.2.2.2.2.2.2.2.2.2.2.2.2.2.2.2.2.2.2.2.1, hF.2.2.2.2.2.2.2.2.2.2.2.2.2.2.2.2.2.2.2.2.2.2.2.1, hF.2.2.2.2.2.2.2.2.2.2.2.2.2.2.2.2.2.2.2.2.2.2.2.2⟩, hW⟩
     refine StepsI.cons rfl ?_ ?_
     ·rintro L zA v9 ⟨zB, zS, mq, rfl, rfl, hF, hW⟩ hL hm K hK
      have hb19 : zB 19 = false := by simpa using hL
      have hb5 : zB 5 = true := mt 5 hm (by kernel_rfl)
      have e5 : zS 20 = .bool false := hF.2.2.2.2.2.1 hb5
      clear hL hm
      rw [hb5] at hW
      simp only [pE]
      simp only [e5]
      rw [if_neg (by exact Bool.false_ne_true)]
      exact hK.out _ _ ⟨fun zj => if zj = 5 then true else if zj = 19 then true else zB zj, fun zd => if zd = 34 then undef else if zd = 20 then .bool false else zS zd, mq, by simp [hb5], by kernel_rfl, ⟨hF.1, hF.2.1, hF.2.2.1, hF.2.2.2.1, hF.2.2.2.2.1, fun _ => rfl, hF.2.2.2.2.2.2.1, hF.2.2.2.2.2.2.2.1, hF.2.2.2.2.2.2.2.2.1, hF.2.2.2.2.2.2.2.2.2.1, hF.2.2.2.2.2.2.2.2.2.2.1, hF.2.2.2.2.2.2.2.2.2.2.2.1, hF.2.2.2.2.2.2.2.2.2.2.2.2.1, hF.2.2.2.2.2.2.2.2.2.2.2.2.2.1, hF.2.2.2.2.2.2.2.2.2.2.2.2.2.2.1, hF.2.2.2.2.2.2.2.2.2.2.2.2.2.2.2.1, hF.2.2.2.2.2.2.2.2.2.2.2.2.2.2.2.2.1, hF.2.2.2.2.2.2.2.2.2.2.2.2.2.2.2.2.2.1, hF.2.2.2.2.2.2.2.2.2.2.2.2.2.2.2.2.2.2.1, fun _ => rfl, hF.2.2.2.2.2.2.2.2.2.2.2.2.2.2.2.2.2.2.2.2.1, hF.2.2.2.2.2.2.2.2.2.2.2.2.2.2.2.2.2.2.2.2.2.1, hF.2.2.2.2.2.2.2.2.2.2.2.2.2.2.2.2.2.2.2.2.2.2.1, hF.2.2.2.2.2.2.2.2.2.2.2.2.2.2.2.2.2.2.2.2.2.2.2.1, hF.2.2.2.2.2.2.2.2.2.2.2.2.2.2.2.2.2.2.2.2.2.2.2.2⟩, hW⟩
     refine StepsI.cons rfl ?_ ?_
     ·rintro L zA v9 ⟨zB, zS, mq, rfl, rfl, hF, hW⟩ hL hm K hK
      have hb20 : zB 20 = false := by simpa using hL
      have hb5 : zB 5 = true := mt 5 hm (by kernel_rfl)
      have e5 : zS 20 = .bool false := hF.2.2.2.2.2.1 hb5
      clear hL hm
      rw [hb5] at hW
      simp only [pE]
      simp only [e5]
      rw [if_neg (by exact Bool.false_ne_true)]
      exact hK.out _ _ ⟨fun zj => if zj = 5 then true else if zj = 20 then true else zB zj, fun zd => if zd = 35 then undef else if zd = 20 then .bool false else zS zd, mq, by simp [hb5], by kernel_rfl, ⟨hF.1, hF.2.1, hF.2.2.1, hF.2.2.2.1, hF.2.2.2.2.1, fun _ => rfl, hF.2.2.2.2.2.2.1, hF.2.2.2.2.2.2.2.1, hF.2.2.2.2.2.2.2.2.1, hF.2.2.2.2.2.2.2.2.2.1, hF.2.2.2.2.2.2.2.2.2.2.1, hF.2.2.2.2.2.2.2.2.2.2.2.1, hF.2.2.2.2.2.2.2.2.2.2.2.2.1, hF.2.2.2.2.2.2.2.2.2.2.2.2.2.1, hF.2.2.2.2.2.2.2.2.2.2.2.2.2.2.1, hF.2.2.2.2.2.2.2.2.2.2.2.2.2.2.2.1, hF.2.2.2.2.2.2.2.2.2.2.2.2.2.2.2.2.1, hF.2.2.2.2.2.2.2.2.2.2.2.2.2.2.2.2.2.1, hF.2.2.2.2.2.2.2.2.2.2.2.2.2.2.2.2.2.2.1, hF.2.2.2.2.2.2.2.2.2.2.2.2.2.2.2.2.2.2.2.1, fun _ => rfl, hF.2.2.2.2.2.2.2.2.2.2.2.2.2.2.2.2.2.2.2.2.2.1, hF.2.2.2.2.2.2.2.2.2.2.2.2.2.2.2.2.2.2.2.2.2.2.1, hF.2.2.2.2.2.2.2.2.2.2.2.2.2.2.2.2.2.2.2.2.2.2.2.1, hF.2.2.2.2.2.2.2.2.2.2.2.2.2.2.2.2.2.2.2.2.2.2.2.2⟩, hW⟩
     refine StepsI.cons rfl ?_ ?_
     ·rintro L zA v9 ⟨zB, zS, mq, rfl, rfl, hF, hW⟩ hL hm K hK
      have hb21 : zB 21 = false := by simpa using hL
      have hb5 : zB 5 = true := mt 5 hm (by kernel_rfl)
      have e5 : zS 20 = .bool false := hF.2.2.2.2.2.1 hb5
      clear hL hm
      rw [hb5] at hW
      simp only [pE]
      simp only [e5]
      rw [if_neg (by exact Bool.false_ne_true)]
      exact hK.out _ _ ⟨fun zj => if zj = 5 then true else if zj = 21 then true else zB zj, fun zd => if zd = 36 then undef else if zd = 20 then .bool false else zS zd, mq, by simp [hb5], by kernel_rfl, ⟨hF.1, hF.2.1, hF.2.2.1, hF.2.2.2.1, hF.2.2.2.2.1, fun _ => rfl, hF.2.2.2.2.2.2.1, hF.2.2.2.2.2.2.2.1, hF.2.2.2.2.2.2.2.2.1, hF.2.2.2.2.2.2.2.2.2.1, hF.2.2.2.2.2.2.2.2.2.2.1, hF.2.2.2.2.2.2.2.2.2.2.2.1, hF.2.2.2.2.2.2.2.2.2.2.2.2.1, hF.2.2.2.2.2.2.2.2.2.2.2.2.2.1, hF.2.2.2.2.2.2.2.2.2.2.2.2.2.2.1, hF.2.2.2.2.2.2.2.2.2.2.2.2.2.2.2.1, hF.2.2.2.2.2.2.2.2.2.2.2.2.2.2.2.2.1, hF.2.2.2.2.2.2.2.2.2.2.2.2.2.2.2.2.2.1, hF.2.2.2.2.2.2.2.2.2.2.2.2.2.2.2.2.2.2.1, hF.2.2.2.2.2.2.2.2.2.2.2.2.2.2.2.2.2.2.2.1, hF.2.2.2.2.2.2.2.2.2.2.2.2.2.2.2.2.2.2.2.2.1, fun _ => rfl, hF.2.2.2.2.2.2.2.2.2.2.2.2.2.2.2.2.2.2.2.2.2.2.1, hF.2.2.2.2.2.2.2.2.2.2.2.2.2.2.2.2.2.2.2.2.2.2.2.1, hF.2.2.2.2.2.2.2.2.2.2.2.2.2.2.2.2.2.2.2.2.2.2.2.2⟩, hW⟩
     refine StepsI.cons rfl ?_ ?_
     ·rintro L zA v9 ⟨zB, zS, mq, rfl, rfl, hF, hW⟩ hL hm K hK
      have hb22 : zB 22 = false := by simpa using hL
      have hb5 : zB 5 = true := mt 5 hm (by kernel_rfl)
      have hb21 : zB 21 = true := mt 21 hm (by kernel_rfl)
      have e5 : zS 20 = .bool false := hF.2.2.2.2.2.1 hb5
      have e21 : zS 36 = undef := hF.2.2.2.2.2.2.2.2.2.2.2.2.2.2.2.2.2.2.2.2.2.1 hb21
      clear hL hm
      rw [hb22] at hW
      rw [hb5] at hW
      simp only [pE]
      simp only [e5, e21]
      have HWz := mkHid hW
      clear hW
      go_simp
      have hW := HWz.out
      clear HWz
      exact hK.out _ _ ⟨fun zj => if zj = 21 then true else if zj = 5 then true else if zj = 22 then true else zB zj, fun zd => if zd = 37 then .bool false else if zd = 36 then undef else if zd = 20 then .bool false else zS zd, mq, by simp [hb5, hb21], by kernel_rfl, ⟨hF.1, hF.2.1, hF.2.2.1, hF.2.2.2.1, hF.2.2.2.2.1, fun _ => rfl, hF.2.2.2.2.2.2.1, hF.2.2.2.2.2.2.2.1, hF.2.2.2.2.2.2.2.2.1, hF.2.2.2.2.2.2.2.2.2.1, hF.2.2.2.2.2.2.2.2.2.2.1, hF.2.2.2.2.2.2.2.2.2.2.2.1, hF.2.2.2.2.2.2.2.2.2.2.2.2.1, hF.2.2.2.2.2.2.2.2.2.2.2.2.2.1, hF.2.2.2.2.2.2.2.2.2.2.2.2.2.2.1, hF.2.2.2.2.2.2.2.2.2.2.2.2.2.2.2.1, hF.2.2.2.2.2.2.2.2.2.2.2.2.2.2.2.2.1, hF.2.2.2.2.2.2.2.2.2.2.2.2.2.2.2.2.2.1, hF.2.2.2.2.2.2.2.2.2.2.2.2.2.2.2.2.2.2.1, hF.2.2.2.2.2.2.2.2.2.2.2.2.2.2.2.2.2.2.2.1, hF.2.2.2.2.2.2.2.2.2.2.2.2.2.2.2.2.2.2.2.2.1, fun _ => rfl, fun _ => rfl, hF.2.2.2.2.2.2.2.2.2.2.2.2.2.2.2.2.2.2.2.2.2.2.2.1, hF.2.2.2.2.2.2.2.2.2.2.2.2.2.2.2.2.2.2.2.2.2.2.2.2⟩, ⟨hW.1, hW.2.1, hW.2.2.1, hW.2.2.2.1, fun _ => hW.2.2.2.2.2 rfl, fun _ => hW.2.2.2.2.2 rfl⟩⟩
     refine StepsI.cons rfl ?_ ?_
     ·rintro L zA v9 ⟨zB, zS, mq, rfl, rfl, hF, hW⟩ hL hm K hK
      have hb23 : zB 23 = false := by simpa using hL
      have hb0 : zB 0 = true := mt 0 hm (by kernel_rfl)
      have e0 : zS 15 = .pointer (some ⟨Xa, 0, none⟩) := hF.1 hb0
      clear hL hm
      simp only [pE]
      simp only [e0]
      have HWz := mkHid hW
      clear hW
      go_simp
      have hW := HWz.out
      clear HWz
      exact hK.out _ _ ⟨fun zj => if zj = 0 then true else if zj = 23 then true else zB zj, fun zd => if zd = 38 then .pointer (some ⟨Xa, 0, none⟩) else if zd = 15 then .pointer (some ⟨Xa, 0, none⟩) else zS zd, mq, by simp [hb0], by kernel_rfl, ⟨fun _ => rfl, hF.2.1, hF.2.2.1, hF.2.2.2.1, hF.2.2.2.2.1, hF.2.2.2.2.2.1, hF.2.2.2.2.2.2.1, hF.2.2.2.2.2.2.2.1, hF.2.2.2.2.2.2.2.2.1, hF.2.2.2.2.2.2.2.2.2.1, hF.2.2.2.2.2.2.2.2.2.2.1, hF.2.2.2.2.2.2.2.2.2.2.2.1, hF.2.2.2.2.2.2.2.2.2.2.2.2.1, hF.2.2.2.2.2.2.2.2.2.2.2.2.2.1, hF.2.2.2.2.2.2.2.2.2.2.2.2.2.2.1, hF.2.2.2.2.2.2.2.2.2.2.2.2.2.2.2.1, hF.2.2.2.2.2.2.2.2.2.2.2.2.2.2.2.2.1, hF.2.2.2.2.2.2.2.2.2.2.2.2.2.2.2.2.2.1, hF.2.2.2.2.2.2.2.2.2.2.2.2.2.2.2.2.2.2.1, hF.2.2.2.2.2.2.2.2.2.2.2.2.2.2.2.2.2.2.2.1, hF.2.2.2.2.2.2.2.2.2.2.2.2.2.2.2.2.2.2.2.2.1, hF.2.2.2.2.2.2.2.2.2.2.2.2.2.2.2.2.2.2.2.2.2.1, hF.2.2.2.2.2.2.2.2.2.2.2.2.2.2.2.2.2.2.2.2.2.2.1, fun _ => rfl, hF.2.2.2.2.2.2.2.2.2.2.2.2.2.2.2.2.2.2.2.2.2.2.2.2⟩, hW⟩
     refine StepsI.cons rfl ?_ ?_
     ·rintro L zA v9 ⟨zB, zS, mq, rfl, rfl, hF, hW⟩ hL hm K hK
      have hb24 : zB 24 = false := by simpa using hL
      have hb23 : zB 23 = true := mt 23 hm (by kernel_rfl)
      have e23 : zS 38 = .pointer (some ⟨Xa, 0, none⟩) := hF.2.2.2.2.2.2.2.2.2.2.2.2.2.2.2.2.2.2.2.2.2.2.2.1 hb23
      clear hL hm
      simp only [pE]
      simp only [e23]
      have HWz := mkHid hW
      clear hW
      go_simp
      have hW := HWz.out
      clear HWz
      exact hK.out _ _ ⟨fun zj => if zj = 23 then true else if zj = 24 then true else zB zj, fun zd => if zd = 39 then .pointer (some ⟨Xa, 5, none⟩) else if zd = 38 then .pointer (some ⟨Xa, 0, none⟩) else zS zd, mq, by simp [hb23], by kernel_rfl, ⟨hF.1, hF.2.1, hF.2.2.1, hF.2.2.2.1, hF.2.2.2.2.1, hF.2.2.2.2.2.1, hF.2.2.2.2.2.2.1, hF.2.2.2.2.2.2.2.1, hF.2.2.2.2.2.2.2.2.1, hF.2.2.2.2.2.2.2.2.2.1, hF.2.2.2.2.2.2.2.2.2.2.1, hF.2.2.2.2.2.2.2.2.2.2.2.1, hF.2.2.2.2.2.2.2.2.2.2.2.2.1, hF.2.2.2.2.2.2.2.2.2.2.2.2.2.1, hF.2.2.2.2.2.2.2.2.2.2.2.2.2.2.1, hF.2.2.2.2.2.2.2.2.2.2.2.2.2.2.2.1, hF.2.2.2.2.2.2.2.2.2.2.2.2.2.2.2.2.1, hF.2.2.2.2.2.2.2.2.2.2.2.2.2.2.2.2.2.1, hF.2.2.2.2.2.2.2.2.2.2.2.2.2.2.2.2.2.2.1, hF.2.2.2.2.2.2.2.2.2.2.2.2.2.2.2.2.2.2.2.1, hF.2.2.2.2.2.2.2.2.2.2.2.2.2.2.2.2.2.2.2.2.1, hF.2.2.2.2.2.2.2.2.2.2.2.2.2.2.2.2.2.2.2.2.2.1, hF.2.2.2.2.2.2.2.2.2.2.2.2.2.2.2.2.2.2.2.2.2.2.1, fun _ => rfl, fun _ => rfl⟩, hW⟩
     refine StepsI.cons rfl ?_ ?_
     ·rintro L zA v9 ⟨zB, zS, mq, rfl, rfl, hF, hW⟩ hL hm K hK
      have hb25 : zB 25 = false := by simpa using hL
      have hb22 : zB 22 = true := mt 22 hm (by kernel_rfl)
      have hb24 : zB 24 = true := mt 24 hm (by kernel_rfl)
      have e22 : zS 37 = .bool false := hF.2.2.2.2.2.2.2.2.2.2.2.2.2.2.2.2.2.2.2.2.2.2.1 hb22
      have e24 : zS 39 = .pointer (some ⟨Xa, 5, none⟩) := hF.2.2.2.2.2.2.2.2.2.2.2.2.2.2.2.2.2.2.2.2.2.2.2.2 hb24
      clear hL hm
      rw [hb25] at hW
      rw [hb22] at hW
      simp only [pE]
      simp only [e22, e24]
      have h4 := mkHid (hW.2.2.2.2.1 rfl)
      have hcl := mkHid hW.2.1
      have c5 := (cel_of hcl.out).c5
      have f5 := (cel_of hcl.out).f5
      have HWz := mkHid hW
      clear hW
      go_simp
      have hW := HWz.out
      clear HWz
      exact hK.out _ _ ⟨fun zj => if zj = 24 then true else if zj = 22 then true else if zj = 25 then true else zB zj, fun zd => if zd = 39 then .pointer (some ⟨Xa, 5, none⟩) else if zd = 37 then .bool false else zS zd, false, by simp [hb22, hb24], by kernel_rfl, ⟨hF.1, hF.2.1, hF.2.2.1, hF.2.2.2.1, hF.2.2.2.2.1, hF.2.2.2.2.2.1, hF.2.2.2.2.2.2.1, hF.2.2.2.2.2.2.2.1, hF.2.2.2.2.2.2.2.2.1, hF.2.2.2.2.2.2.2.2.2.1, hF.2.2.2.2.2.2.2.2.2.2.1, hF.2.2.2.2.2.2.2.2.2.2.2.1, hF.2.2.2.2.2.2.2.2.2.2.2.2.1, hF.2.2.2.2.2.2.2.2.2.2.2.2.2.1, hF.2.2.2.2.2.2.2.2.2.2.2.2.2.2.1, hF.2.2.2.2.2.2.2.2.2.2.2.2.2.2.2.1, hF.2.2.2.2.2.2.2.2.2.2.2.2.2.2.2.2.1, hF.2.2.2.2.2.2.2.2.2.2.2.2.2.2.2.2.2.1, hF.2.2.2.2.2.2.2.2.2.2.2.2.2.2.2.2.2.2.1, hF.2.2.2.2.2.2.2.2.2.2.2.2.2.2.2.2.2.2.2.1, hF.2.2.2.2.2.2.2.2.2.2.2.2.2.2.2.2.2.2.2.2.1, hF.2.2.2.2.2.2.2.2.2.2.2.2.2.2.2.2.2.2.2.2.2.1, fun _ => rfl, hF.2.2.2.2.2.2.2.2.2.2.2.2.2.2.2.2.2.2.2.2.2.2.2.1, fun _ => rfl⟩, ⟨hW.1.trans (Only.set _ _ _ _), (by rw [heap_set_self hcl.out]; rfl), fun e => tf e, fun _ => ⟨h4.out, rfl⟩, fun _ => h4.out, fun _ => h4.out⟩⟩
     exact StepsI.nil (by kernel_rfl)
    ·rintro L zA v9 ⟨zB, zS, mq, rfl, rfl, hF, hW⟩ hr
     have hu := all_up (by kernel_rfl) (N := 26) (by kernel_rfl) hr
     have hb0 : zB 0 = true := by simpa using hu 0 (by decide)
     have hb1 : zB 1 = true := by simpa using hu 1 (by decide)
     have hb2 : zB 2 = true := by simpa using hu 2 (by decide)
     have hb3 : zB 3 = true := by simpa using hu 3 (by decide)
     have hb4 : zB 4 = true := by simpa using hu 4 (by decide)
     have hb5 : zB 5 = true := by simpa using hu 5 (by decide)
     have hb6 : zB 6 = true := by simpa using hu 6 (by decide)
     have hb7 : zB 7 = true := by simpa using hu 7 (by decide)
     have hb8 : zB 8 = true := by simpa using hu 8 (by decide)
     have hb9 : zB 9 = true := by simpa using hu 9 (by decide)
     have hb10 : zB 10 = true := by simpa using hu 10 (by decide)
     have hb11 : zB 11 = true := by simpa using hu 11 (by decide)
     have hb12 : zB 12 = true := by simpa using hu 12 (by decide)
     have hb13 : zB 13 = true := by simpa using hu 13 (by decide)
     have hb14 : zB 14 = true := by simpa using hu 14 (by decide)
     have hb15 : zB 15 = true := by simpa using hu 15 (by decide)
     have hb16 : zB 16 = true := by simpa using hu 16 (by decide)
     have hb17 : zB 17 = true := by simpa using hu 17 (by decide)
     have hb18 : zB 18 = true := by simpa using hu 18 (by decide)
     have hb19 : zB 19 = true := by simpa using hu 19 (by decide)
     have hb20 : zB 20 = true := by simpa using hu 20 (by decide)
     have hb21 : zB 21 = true := by simpa using hu 21 (by decide)
     have hb22 : zB 22 = true := by simpa using hu 22 (by decide)
     have hb23 : zB 23 = true := by simpa using hu 23 (by decide)
     have hb24 : zB 24 = true := by simpa using hu 24 (by decide)
     have hb25 : zB 25 = true := by simpa using hu 25 (by decide)
     have e0 : zS 15 = .pointer (some ⟨Xa, 0, none⟩) := hF.1 hb0
     have e1 : zS 16 = .pointer (some ⟨Xa, 0, none⟩) := hF.2.1 hb1
     have e2 : zS 17 = .pointer (some ⟨Xa, 0, none⟩) := hF.2.2.1 hb2
     have e3 : zS 18 = .pointer (some ⟨Xa, 5, none⟩) := hF.2.2.2.1 hb3
     have e4 : zS 19 = .bool false := hF.2.2.2.2.1 hb4
     have e5 : zS 20 = .bool false := hF.2.2.2.2.2.1 hb5
     have e6 : zS 21 = undef := hF.2.2.2.2.2.2.1 hb6
     have e7 : zS 22 = undef := hF.2.2.2.2.2.2.2.1 hb7
     have e8 : zS 23 = undef := hF.2.2.2.2.2.2.2.2.1 hb8
     have e9 : zS 24 = undef := hF.2.2.2.2.2.2.2.2.2.1 hb9
     have e10 : zS 25 = undef := hF.2.2.2.2.2.2.2.2.2.2.1 hb10
     have e11 : zS 26 = undef := hF.2.2.2.2.2.2.2.2.2.2.2.1 hb11
     have e12 : zS 27 = undef := hF.2.2.2.2.2.2.2.2.2.2.2.2.1 hb12
     have e13 : zS 28 = undef := hF.2.2.2.2.2.2.2.2.2.2.2.2.2.1 hb13
     have e14 : zS 29 = undef := hF.2.2.2.2.2.2.2.2.2.2.2.2.2.2.1 hb14
     have e15 : zS 30 = undef := hF.2.2.2.2.2.2.2.2.2.2.2.2.2.2.2.1 hb15
     have e16 : zS 31 = undef := hF.2.2.2.2.2.2.2.2.2.2.2.2.2.2.2.2.1 hb16
     have e17 : zS 32 = undef := hF.2.2.2.2.2.2.2.2.2.2.2.2.2.2.2.2.2.1 hb17
     have e18 : zS 33 = undef := hF.2.2.2.2.2.2.2.2.2.2.2.2.2.2.2.2.2.2.1 hb18
     have e19 : zS 34 = undef := hF.2.2.2.2.2.2.2.2.2.2.2.2.2.2.2.2.2.2.2.1 hb19
     have e20 : zS 35 = undef := hF.2.2.2.2.2.2.2.2.2.2.2.2.2.2.2.2.2.2.2.2.1 hb20
     have e21 : zS 36 = undef := hF.2.2.2.2.2.2.2.2.2.2.2.2.2.2.2.2.2.2.2.2.2.1 hb21
     have e22 : zS 37 = .bool false := hF.2.2.2.2.2.2.2.2.2.2.2.2.2.2.2.2.2.2.2.2.2.2.1 hb22
     have e23 : zS 38 = .pointer (some ⟨Xa, 0, none⟩) := hF.2.2.2.2.2.2.2.2.2.2.2.2.2.2.2.2.2.2.2.2.2.2.2.1 hb23
     have e24 : zS 39 = .pointer (some ⟨Xa, 5, none⟩) := hF.2.2.2.2.2.2.2.2.2.2.2.2.2.2.2.2.2.2.2.2.2.2.2.2 hb24
     rw [hb4] at hW
     rw [hb5] at hW
     rw [hb22] at hW
     rw [hb25] at hW
     clear hu hr hF
     simp only [pE]
     simp only [e0, e1, e2, e3, e4, e5, e6, e7, e8, e9, e10, e11, e12, e13, e14, e15, e16, e17, e18, e19, e20, e21, e22, e23, e24]
     clear e0 e1 e2 e3 e4 e5 e6 e7 e8 e9 e10 e11 e12 e13 e14 e15 e16 e17 e18 e19 e20 e21 e22 e23 e24
     clear hb0 hb1 hb2 hb3 hb4 hb5 hb6 hb7 hb8 hb9 hb10 hb11 hb12 hb13 hb14 hb15 hb16 hb17 hb18 hb19 hb20 hb21 hb22 hb23 hb24 hb25
     clear zB zS
     have hO := mkHid hW.1
     have hH := hW.2.1
     rw [(hW.2.2.2.1 (by first | rfl | trivial)).2] at hH
     have HH := mkHid hH
     obtain ⟨_, _, _, _, _, _, c6, _, _, _, _, _, _, _⟩ := cel_of hH
     clear hW hH hat hatn hcn hqd
     go_wp2
     go_roundg R.length
     case measure => omega
     case rel => exact ⟨P1 ++ [(Xa, ⟨ka.b, ka.v, false⟩)], Xn, kn, R, rfl, Nat.le_refl _, HEND.out _ _ hO.out HH.out (by have h := HEQ.out; rw [List.map_cons, HFN.out bq HBQ.out] at h; simpa using h)⟩
   ·refine wp_region_inv2 (fun zA0 L zA v9 => ∃ (zB : Nat → Bool) (zS : Nat → Value) (mq : Bool), L = #[zB 0, zB 1, zB 2, zB 3, zB 4, zB 5, zB 6, zB 7, zB 8, zB 9, zB 10, zB 11, zB 12, zB 13, zB 14, zB 15, zB 16, zB 17, zB 18, zB 19, zB 20, zB 21, zB 22, zB 23, zB 24, zB 25] ∧ zA = puts zA0 [(15, zS 15), (16, zS 16), (17, zS 17), (18, zS 18), (19, zS 19), (20, zS 20), (21, zS 21), (22, zS 22), (23, zS 23), (24, zS 24), (25, zS 25), (26, zS 26), (27, zS 27), (28, zS 28), (29, zS 29), (30, zS 30), (31, zS 31), (32, zS 32), (33, zS 33), (34, zS 34), (35, zS 35), (36, zS 36), (37, zS 37), (38, zS 38), (39, zS 39)] ∧ ((zB 0 = true → zS 15 = .pointer (some ⟨Xa, 0, none⟩)) ∧ (zB 1 = true → zS 16 = .pointer (some ⟨Xa, 0, none⟩)) ∧ (zB 2 = true → zS 17 = .pointer (some ⟨Xa, 0, none⟩)) ∧ (zB 3 = true → zS 18 = .pointer (some ⟨Xa, 5, none⟩)) ∧ (zB 4 = true → zS 19 = .bool true) ∧ (zB 5 = true → zS 20 = .bool true) ∧ (zB 6 = true → zS 21 = .agg (Q.dA n G)) ∧ (zB 7 = true → zS 22 = .pointer (some ⟨Xa, 0, none⟩)) ∧ (zB 8 = true → zS 23 = .pointer (some ⟨Xa, 0, none⟩)) ∧ (zB 9 = true → zS 24 = .pointer (some ⟨Xa, 0, none⟩)) ∧ (zB 10 = true → zS 25 = .pointer (some ⟨Xa, 0, none⟩)) ∧ (zB 11 = true → zS 26 = .slice ao l.length cap) ∧ (zB 12 = true → zS 27 = .pointer (some ⟨Xa, 0, none⟩)) ∧ (zB 13 = true → zS 28 = .pointer (some ⟨Xa, 0, none⟩)) ∧ (zB 14 = true → zS 29 = .pointer (some ⟨Xa, 6, none⟩)) ∧ (zB 15 = true → zS 30 = .pointer (some ⟨Xn, 0, none⟩)) ∧ (zB 16 = true → zS 31 = .pointer (some ⟨Xn, 0, none⟩)) ∧ (zB 17 = true → zS 32 = .pointer (some ⟨Xn, 0, none⟩)) ∧ (zB 18 = true → zS 33 = .pointer (some ⟨Xn, 0, none⟩)) ∧ (zB 19 = true → zS 34 = .slice an ln.length cn) ∧ (zB 20 = true → zS 35 = .bool bq) ∧ (zB 21 = true → zS 36 = .bool (!bq)) ∧ (zB 22 = true → zS 37 = .bool (!bq)) ∧ (zB 23 = true → zS 38 = .pointer (some ⟨Xa, 0, none⟩)) ∧ (zB 24 = true → zS 39 = .pointer (some ⟨Xa, 5, none⟩))) ∧ Only Xa wr v9 ∧ v9.heap[Xa]? = some (.cells (lkC (.slice ao l.length cap) vv mq (some ⟨Xn, 0, none⟩)) 130 (0, 0)) ∧ ((zB 25) = false → mq = true) ∧ ((zB 25) = true → (zB 4) = true ∧ mq = (!bq)) ∧ ((zB 22) = true → (zB 4) = true) ∧ ((zB 5) = true → (zB 4) = true)) (by kernel_rfl) ?_ ?_ ?_
    ·exact ⟨fun _ => false, fun zd => if zd = 39 then u39 else if zd = 38 then u38 else if zd = 37 then u37 else if zd = 36 then u36 else if zd = 35 then u35 else if zd = 34 then u34 else if zd = 33 then u33 else if zd = 32 then u32 else if zd = 31 then u31 else if zd = 30 then u30 else if zd = 29 then u29 else if zd = 28 then u28 else if zd = 27 then u27 else if zd = 26 then u26 else if zd = 25 then u25 else if zd = 24 then u24 else if zd = 23 then u23 else if zd = 22 then u22 else if zd = 21 then u21 else if zd = 20 then u20 else if zd = 19 then u19 else if zd = 18 then u18 else if zd = 17 then u17 else if zd = 16 then u16 else if zd = 15 then u15 else undef, true, rfl, by kernel_rfl, ⟨fun e => ft e, fun e => ft e, fun e => ft e, fun e => ft e, fun e => ft e, fun e => ft e, fun e => ft e, fun e => ft e, fun e => ft e, fun e => ft e, fun e => ft e, fun e => ft e, fun e => ft e, fun e => ft e, fun e => ft e, fun e => ft e, fun e => ft e, fun e => ft e, fun e => ft e, fun e => ft e, fun e => ft e, fun e => ft e, fun e => ft e, fun e => ft e, fun e => ft e⟩, ⟨Only.of (Below.refl _ _).drew, hz, fun _ => rfl, fun e => ft e, fun e => ft e, fun e => ft e⟩⟩
    ·refine StepsI.cons rfl ?_ ?_
     ·rintro L zA v9 ⟨zB, zS, mq, rfl, rfl, hF, hW⟩ hL hm K hK
      have hb0 : zB 0 = false := by simpa using hL
      clear hL hm
      simp only [pE]
      have HWz := mkHid hW
      clear hW
      go_simp
      have hW := HWz.out
      clear HWz
      exact hK.out _ _ ⟨fun zj => if zj = 0 then true else zB zj, fun zd => if zd = 15 then .pointer (some ⟨Xa, 0, none⟩) else zS zd, mq, rfl, by kernel_rfl, ⟨fun _ => rfl, hF.2.1, hF.2.2.1, hF.2.2.2.1, hF.2.2.2.2.1, hF.2.2.2.2.2.1, hF.2.2.2.2.2.2.1, hF.2.2.2.2.2.2.2.1, hF.2.2.2.2.2.2.2.2.1, hF.2.2.2.2.2.2.2.2.2.1, hF.2.2.2.2.2.2.2.2.2.2.1, hF.2.2.2.2.2.2.2.2.2.2.2.1, hF.2.2.2.2.2.2.2.2.2.2.2.2.1, hF.2.2.2.2.2.2.2.2.2.2.2.2.2.1, hF.2.2.2.2.2.2.2.2.2.2.2.2.2.2.1, hF.2.2.2.2.2.2.2.2.2.2.2.2.2.2.2.1, hF.2.2.2.2.2.2.2.2.2.2.2.2.2.2.2.2.1, hF.2.2.2.2.2.2.2.2.2.2.2.2.2.2.2.2.2.1, hF.2.2.2.2.2.2.2.2.2.2.2.2.2.2.2.2.2.2.1, hF.2.2.2.2.2.2.2.2.2.2.2.2.2.2.2.2.2.2.2.1, hF.2.2.2.2.2.2.2.2.2.2.2.2.2.2.2.2.2.2.2.2.1, hF.2.2.2.2.2.2.2.2.2.2.2.2.2.2.2.2.2.2.2.2.2.1, hF.2.2.2.2.2.2.2.2.2.2.2.2.2.2.2.2.2.2.2.2.2.2.1, hF.2.2.2.2.2.2.2.2.2.2.2.2.2.2.2.2.2.2.2.2.2.2.2.1, hF.2.2.2.2.2.2.2.2.2.2.2.2.2.2.2.2.2.2.2.2.2.2.2.2⟩, hW⟩
     refine StepsI.cons rfl ?_ ?_
     ·rintro L zA v9 ⟨zB, zS, mq, rfl, rfl, hF, hW⟩ hL hm K hK
      have hb1 : zB 1 = false := by simpa using hL
      clear hL hm
      simp only [pE]
      have HWz := mkHid hW
      clear hW
      go_simp
      have hW := HWz.out
      clear HWz
      exact hK.out _ _ ⟨fun zj => if zj = 1 then true else zB zj, fun zd => if zd = 16 then .pointer (some ⟨Xa, 0, none⟩) else zS zd, mq, rfl, by kernel_rfl, ⟨hF.1, fun _ => rfl, hF.2.2.1, hF.2.2.2.1, hF.2.2.2.2.1, hF.2.2.2.2.2.1, hF.2.2.2.2.2.2.1, hF.2.2.2.2.2.2.2.1, hF.2.2.2.2.2.2.2.2.1, hF.2.2.2.2.2.2.2.2.2.1, hF.2.2.2.2.2.2.2.2.2.2.1, hF.2.2.2.2.2.2.2.2.2.2.2.1, hF.2.2.2.2.2.2.2.2.2.2.2.2.1, hF.2.2.2.2.2.2.2.2.2.2.2.2.2.1, hF.2.2.2.2.2.2.2.2.2.2.2.2.2.2.1, hF.2.2.2.2.2.2.2.2.2.2.2.2.2.2.2.1, hF.2.2.2.2.2.2.2.2.2.2.2.2.2.2.2.2.1, hF.2.2.2.2.2.2.2.2.2.2.2.2.2.2.2.2.2.1, hF.2.2.2.2.2.2.2.2.2.2.2.2.2.2.2.2.2.2.1, hF.2.2.2.2.2.2.2.2.2.2.2.2.2.2.2.2.2.2.2.1, hF.2.2.2.2.2.2.2.2.2.2.2.2.2.2.2.2.2.2.2.2.1, hF.2.2.2.2.2.2.2.2.2.2.2.2.2.2.2.2.2.2.2.2.2.1, hF.2.2.2.2.2.2.2.2.2.2.2.2.2.2.2.2.2.2.2.2.2.2.1, hF.2.2.2.2.2.2.2.2.2.2.2.2.2.2.2.2.2.2.2.2.2.2.2.1, hF.2.2.2.2.2.2.2.2.2.2.2.2.2.2.2.2.2.2.2.2.2.2.2.2⟩, hW⟩
     refine StepsI.cons rfl ?_ ?_
     ·rintro L zA v9 ⟨zB, zS, mq, rfl, rfl, hF, hW⟩ hL hm K hK
      have hb2 : zB 2 = false := by simpa using hL
      have hb1 : zB 1 = true := mt 1 hm (by kernel_rfl)
      have e1 : zS 16 = .pointer (some ⟨Xa, 0, none⟩) := hF.2.1 hb1
      clear hL hm
      simp only [pE]
      simp only [e1]
      have HWz := mkHid hW
      clear hW
      go_simp
      have hW := HWz.out
      clear HWz
      exact hK.out _ _ ⟨fun zj => if zj = 1 then true else if zj = 2 then true else zB zj, fun zd => if zd = 17 then .pointer (some ⟨Xa, 0, none⟩) else if zd = 16 then .pointer (some ⟨Xa, 0, none⟩) else zS zd, mq, by simp [hb1], by kernel_rfl, ⟨hF.1, fun _ => rfl, fun _ => rfl, hF.2.2.2.1, hF.2.2.2.2.1, hF.2.2.2.2.2.1, hF.2.2.2.2.2.2.1, hF.2.2.2.2.2.2.2.1, hF.2.2.2.2.2.2.2.2.1, hF.2.2.2.2.2.2.2.2.2.1, hF.2.2.2.2.2.2.2.2.2.2.1, hF.2.2.2.2.2.2.2.2.2.2.2.1, hF.2.2.2.2.2.2.2.2.2.2.2.2.1, hF.2.2.2.2.2.2.2.2.2.2.2.2.2.1, hF.2.2.2.2.2.2.2.2.2.2.2.2.2.2.1, hF.2.2.2.2.2.2.2.2.2.2.2.2.2.2.2.1, hF.2.2.2.2.2.2.2.2.2.2.2.2.2.2.2.2.1, hF.2.2.2.2.2.2.2.2.2.2.2.2.2.2.2.2.2.1, hF.2.2.2.2.2.2.2.2.2.2.2.2.2.2.2.2.2.2.1, hF.2.2.2.2.2.2.2.2.2.2.2.2.2.2.2.2.2.2.2.1, hF.2.2.2.2.2.2.2.2.2.2.2.2.2.2.2.2.2.2.2.2.1, hF.2.2.2.2.2.2.2.2.2.2.2.2.2.2.2.2.2.2.2.2.2.1, hF.2.2.2.2.2.2.2.2.2.2.2.2.2.2.2.2.2.2.2.2.2.2.1, hF.2.2.2.2.2.2.2.2.2.2.2.2.2.2.2.2.2.2.2.2.2.2.2.1, hF.2.2.2.2.2.2.2.2.2.2.2.2.2.2.2.2.2.2.2.2.2.2.2.2⟩, hW⟩
     refine StepsI.cons rfl ?_ ?_
     ·rintro L zA v9 ⟨zB, zS, mq, rfl, rfl, hF, hW⟩ hL hm K hK
      have hb3 : zB 3 = false := by simpa using hL
      have hb2 : zB 2 = true := mt 2 hm (by kernel_rfl)
      have e2 : zS 17 = .pointer (some ⟨Xa, 0, none⟩) := hF.2.2.1 hb2
      clear hL hm
      simp only [pE]
      simp only [e2]
      have HWz := mkHid hW
      clear hW
      go_simp
      have hW := HWz.out
      clear HWz
      exact hK.out _ _ ⟨fun zj => if zj = 2 then true else if zj = 3 then true else zB zj, fun zd => if zd = 18 then .pointer (some ⟨Xa, 5, none⟩) else if zd = 17 then .pointer (some ⟨Xa, 0, none⟩) else zS zd, mq, by simp [hb2], by kernel_rfl, ⟨hF.1, hF.2.1, fun _ => rfl, fun _ => rfl, hF.2.2.2.2.1, hF.2.2.2.2.2.1, hF.2.2.2.2.2.2.1, hF.2.2.2.2.2.2.2.1, hF.2.2.2.2.2.2.2.2.1, hF.2.2.2.2.2.2.2.2.2.1, hF.2.2.2.2.2.2.2.2.2.2.1, hF.2.2.2.2.2.2.2.2.2.2.2.1, hF.2.2.2.2.2.2.2.2.2.2.2.2.1, hF.2.2.2.2.2.2.2.2.2.2.2.2.2.1, hF.2.2.2.2.2.2.2.2.2.2.2.2.2.2.1, hF.2.2.2.2.2.2.2.2.2.2.2.2.2.2.2.1, hF.2.2.2.2.2.2.2.2.2.2.2.2.2.2.2.2.1, hF.2.2.2.2.2.2.2.2.2.2.2.2.2.2.2.2.2.1, hF.2.2.2.2.2.2.2.2.2.2.2.2.2.2.2.2.2.2.1, hF.2.2.2.2.2.2.2.2.2.2.2.2.2.2.2.2.2.2.2.1, hF.2.2.2.2.2.2.2.2.2.2.2.2.2.2.2.2.2.2.2.2.1, hF.2.2.2.2.2.2.2.2.2.2.2.2.2.2.2.2.2.2.2.2.2.1, hF.2.2.2.2.2.2.2.2.2.2.2.2.2.2.2.2.2.2.2.2.2.2.1, hF.2.2.2.2.2.2.2.2.2.2.2.2.2.2.2.2.2.2.2.2.2.2.2.1, hF.2.2.2.2.2.2.2.2.2.2.2.2.2.2.2.2.2.2.2.2.2.2.2.2⟩, hW⟩
     refine StepsI.cons rfl ?_ ?_
     ·rintro L zA v9 ⟨zB, zS, mq, rfl, rfl, hF, hW⟩ hL hm K hK
      have hb4 : zB 4 = false := by simpa using hL
      have hb3 : zB 3 = true := mt 3 hm (by kernel_rfl)
      have e3 : zS 18 = .pointer (some ⟨Xa, 5, none⟩) := hF.2.2.2.1 hb3
      clear hL hm
      rw [hb4] at hW
      simp only [pE]
      simp only [e3]
      have h25 : zB 25 = false := by cases e : zB 25 with | false => rfl | true => exact ft (hW.2.2.2.1 e).1
      have em := hW.2.2.1 h25
      have hcl := hW.2.1
      rw [em] at hcl
      obtain ⟨_, _, _, _, _, c5, _, _, _, _, _, _, _, _⟩ := cel_of hcl
      clear em hcl
      have HWz := mkHid hW
      clear hW
      go_simp
      have hW := HWz.out
      clear HWz
      exact hK.out _ _ ⟨fun zj => if zj = 3 then true else if zj = 4 then true else zB zj, fun zd => if zd = 19 then .bool true else if zd = 18 then .pointer (some ⟨Xa, 5, none⟩) else zS zd, mq, by simp [hb3], by kernel_rfl, ⟨hF.1, hF.2.1, hF.2.2.1, fun _ => rfl, fun _ => rfl, hF.2.2.2.2.2.1, hF.2.2.2.2.2.2.1, hF.2.2.2.2.2.2.2.1, hF.2.2.2.2.2.2.2.2.1, hF.2.2.2.2.2.2.2.2.2.1, hF.2.2.2.2.2.2.2.2.2.2.1, hF.2.2.2.2.2.2.2.2.2.2.2.1, hF.2.2.2.2.2.2.2.2.2.2.2.2.1, hF.2.2.2.2.2.2.2.2.2.2.2.2.2.1, hF.2.2.2.2.2.2.2.2.2.2.2.2.2.2.1, hF.2.2.2.2.2.2.2.2.2.2.2.2.2.2.2.1, hF.2.2.2.2.2.2.2.2.2.2.2.2.2.2.2.2.1, hF.2.2.2.2.2.2.2.2.2.2.2.2.2.2.2.2.2.1, hF.2.2.2.2.2.2.2.2.2.2.2.2.2.2.2.2.2.2.1, hF.2.2.2.2.2.2.2.2.2.2.2.2.2.2.2.2.2.2.2.1, hF.2.2.2.2.2.2.2.2.2.2.2.2.2.2.2.2.2.2.2.2.1, hF.2.2.2.2.2.2.2.2.2.2.2.2.2.2.2.2.2.2.2.2.2.1, hF.2.2.2.2.2.2.2.2.2.2.2.2.2.2.2.2.2.2.2.2.2.2.1, hF.2.2.2.2.2.2.2.2.2.2.2.2.2.2.2.2.2.2.2.2.2.2.2.1, hF.2.2.2.2.2.2.2.2.2.2.2.2.2.2.2.2.2.2.2.2.2.2.2.2⟩, ⟨hW.1, hW.2.1, hW.2.2.1, fun e => ft (hW.2.2.2.1 e).1, fun _ => rfl, fun _ => rfl⟩⟩
     refine StepsI.cons rfl ?_ ?_
     ·rintro L zA v9 ⟨zB, zS, mq, rfl, rfl, hF, hW⟩ hL hm K hK
      have hb5 : zB 5 = false := by simpa using hL
      have hb4 : zB 4 = true := mt 4 hm (by kernel_rfl)
      have e4 : zS 19 = .bool true := hF.2.2.2.2.1 hb4
      clear hL hm
      rw [hb5] at hW
      rw [hb4] at hW
      simp only [pE]
      simp only [e4]
      have HWz := mkHid hW
      clear hW
      go_simp
      have hW := HWz.out
      clear HWz
      exact hK.out _ _ ⟨fun zj => if zj = 4 then true else if zj = 5 then true else zB zj, fun zd => if zd = 20 then .bool true else if zd = 19 then .bool true else zS zd, mq, by simp [hb4], by kernel_rfl, ⟨hF.1, hF.2.1, hF.2.2.1, hF.2.2.2.1, fun _ => rfl, fun _ => rfl, hF.2.2.2.2.2.2.1, hF.2.2.2.2.2.2.2.1, hF.2.2.2.2.2.2.2.2.1, hF.2.2.2.2.2.2.2.2.2.1, hF.2.2.2.2.2.2.2.2.2.2.1, hF.2.2.2.2.2.2.2.2.2.2.2.1, hF.2.2.2.2.2.2.2.2.2.2.2.2.1, hF.2.2.2.2.2.2.2.2.2.2.2.2.2.1, hF.2.2.2.2.2.2.2.2.2.2.2.2.2.2.1, hF.2.2.2.2.2.2.2.2.2.2.2.2.2.2.2.1, hF.2.2.2.2.2.2.2.2.2.2.2.2.2.2.2.2.1, hF.2.2.2.2.2.2.2.2.2.2.2.2.2.2.2.2.2.1, hF.2.2.2.2.2.2.2.2.2.2.2.2.2.2.2.2.2.2.1, hF.2.2.2.2.2.2.2.2.2.2.2.2.2.2.2.2.2.2.2.1, hF.2.2.2.2.2.2.2.2.2.2.2.2.2.2.2.2.2.2.2.2.1, hF.2.2.2.2.2.2.2.2.2.2.2.2.2.2.2.2.2.2.2.2.2.1, hF.2.2.2.2.2.2.2.2.2.2.2.2.2.2.2.2.2.2.2.2.2.2.1, hF.2.2.2.2.2.2.2.2.2.2.2.2.2.2.2.2.2.2.2.2.2.2.2.1, hF.2.2.2.2.2.2.2.2.2.2.2.2.2.2.2.2.2.2.2.2.2.2.2.2⟩, ⟨hW.1, hW.2.1, hW.2.2.1, hW.2.2.2.1, hW.2.2.2.2.1, fun _ => rfl⟩⟩
     refine StepsI.cons rfl ?_ ?_
     ·rintro L zA v9 ⟨zB, zS, mq, rfl, rfl, hF, hW⟩ hL hm K hK
      have hb6 : zB 6 = false := by simpa using hL
      have hb5 : zB 5 = true := mt 5 hm (by kernel_rfl)
      have e5 : zS 20 = .bool true := hF.2.2.2.2.2.1 hb5
      clear hL hm
      rw [hb5] at hW
      simp only [pE]
      simp only [e5]
      refine wpo_dif (hqd _ hW.1) rfl rfl ?_
      exact hK.out _ _ ⟨fun zj => if zj = 5 then true else if zj = 6 then true else zB zj, fun zd => if zd = 21 then .agg (Q.dA n G) else if zd = 20 then .bool true else zS zd, mq, by simp [hb5], by kernel_rfl, ⟨hF.1, hF.2.1, hF.2.2.1, hF.2.2.2.1, hF.2.2.2.2.1, fun _ => rfl, fun _ => rfl, hF.2.2.2.2.2.2.2.1, hF.2.2.2.2.2.2.2.2.1, hF.2.2.2.2.2.2.2.2.2.1, hF.2.2.2.2.2.2.2.2.2.2.1, hF.2.2.2.2.2.2.2.2.2.2.2.1, hF.2.2.2.2.2.2.2.2.2.2.2.2.1, hF.2.2.2.2.2.2.2.2.2.2.2.2.2.1, hF.2.2.2.2.2.2.2.2.2.2.2.2.2.2.1, hF.2.2.2.2.2.2.2.2.2.2.2.2.2.2.2.1, hF.2.2.2.2.2.2.2.2.2.2.2.2.2.2.2.2.1, hF.2.2.2.2.2.2.2.2.2.2.2.2.2.2.2.2.2.1, hF.2.2.2.2.2.2.2.2.2.2.2.2.2.2.2.2.2.2.1, hF.2.2.2.2.2.2.2.2.2.2.2.2.2.2.2.2.2.2.2.1, hF.2.2.2.2.2.2.2.2.2.2.2.2.2.2.2.2.2.2.2.2.1, hF.2.2.2.2.2.2.2.2.2.2.2.2.2.2.2.2.2.2.2.2.2.1, hF.2.2.2.2.2.2.2.2.2.2.2.2.2.2.2.2.2.2.2.2.2.2.1, hF.2.2.2.2.2.2.2.2.2.2.2.2.2.2.2.2.2.2.2.2.2.2.2.1, hF.2.2.2.2.2.2.2.2.2.2.2.2.2.2.2.2.2.2.2.2.2.2.2.2⟩, hW⟩
     refine StepsI.cons rfl ?_ ?_
     ·rintro L zA v9 ⟨zB, zS, mq, rfl, rfl, hF, hW⟩ hL hm K hK
      have hb7 : zB 7 = false := by simpa using hL
      have hb5 : zB 5 = true := mt 5 hm (by kernel_rfl)
      have e5 : zS 20 = .bool true := hF.2.2.2.2.2.1 hb5
      clear hL hm
      rw [hb5] at hW
      simp only [pE]
      simp only [e5]
      have HWz := mkHid hW
      clear hW
      go_simp
      have hW := HWz.out
      clear HWz
      exact hK.out _ _ ⟨fun zj => if zj = 5 then true else if zj = 7 then true else zB zj, fun zd => if zd = 22 then .pointer (some ⟨Xa, 0, none⟩) else if zd = 20 then .bool true else zS zd, mq, by simp [hb5], by kernel_rfl, ⟨hF.1, hF.2.1, hF.2.2.1, hF.2.2.2.1, hF.2.2.2.2.1, fun _ => rfl, hF.2.2.2.2.2.2.1, fun _ => rfl, hF.2.2.2.2.2.2.2.2.1, hF.2.2.2.2.2.2.2.2.2.1, hF.2.2.2.2.2.2.2.2.2.2.1, hF.2.2.2.2.2.2.2.2.2.2.2.1, hF.2.2.2.2.2.2.2.2.2.2.2.2.1, hF.2.2.2.2.2.2.2.2.2.2.2.2.2.1, hF.2.2.2.2.2.2.2.2.2.2.2.2.2.2.1, hF.2.2.2.2.2.2.2.2.2.2.2.2.2.2.2.1, hF.2.2.2.2.2.2.2.2.2.2.2.2.2.2.2.2.1, hF.2.2.2.2.2.2.2.2.2.2.2.2.2.2.2.2.2.1, hF.2.2.2.2.2.2.2.2.2.2.2.2.2.2.2.2.2.2.1, hF.2.2.2.2.2.2.2.2.2.2.2.2.2.2.2.2.2.2.2.1, hF.2.2.2.2.2.2.2.2.2.2.2.2.2.2.2.2.2.2.2.2.1, hF.2.2.2.2.2.2.2.2.2.2.2.2.2.2.2.2.2.2.2.2.2.1, hF.2.2.2.2.2.2.2.2.2.2.2.2.2.2.2.2.2.2.2.2.2.2.1, hF.2.2.2.2.2.2.2.2.2.2.2.2.2.2.2.2.2.2.2.2.2.2.2.1, hF.2.2.2.2.2.2.2.2.2.2.2.2.2.2.2.2.2.2.2.2.2.2.2.2⟩, hW⟩
     refine StepsI.cons rfl ?_ ?_
     ·rintro L zA v9 ⟨zB, zS, mq, rfl, rfl, hF, hW⟩ hL hm K hK
      have hb8 : zB 8 = false := by simpa using hL
      have hb5 : zB 5 = true := mt 5 hm (by kernel_rfl)
      have hb7 : zB 7 = true := mt 7 hm (by kernel_rfl)
      have e5 : zS 20 = .bool true := hF.2.2.2.2.2.1 hb5
      have e7 : zS 22 = .pointer (some ⟨Xa, 0, none⟩) := hF.2.2.2.2.2.2.2.1 hb7
      clear hL hm
      rw [hb5] at hW
      simp only [pE]
      simp only [e5, e7]
      have HWz := mkHid hW
      clear hW
      go_simp
      have hW := HWz.out
      clear HWz
      exact hK.out _ _ ⟨fun zj => if zj = 7 then true else if zj = 5 then true else if zj = 8 then true else zB zj, fun zd => if zd = 23 then .pointer (some ⟨Xa, 0, none⟩) else if zd = 22 then .pointer (some ⟨Xa, 0, none⟩) else if zd = 20 then .bool true else zS zd, mq, by simp [hb5, hb7], by kernel_rfl, ⟨hF.1, hF.2.1, hF.2.2.1, hF.2.2.2.1, hF.2.2.2.2.1, fun _ => rfl, hF.2.2.2.2.2.2.1, fun _ => rfl, fun _ => rfl, hF.2.2.2.2.2.2.2.2.2.1, hF.2.2.2.2.2.2.2.2.2.2.1, hF.2.2.2.2.2.2.2.2.2.2.2.1, hF.2.2.2.2.2.2.2.2.2.2.2.2.1, hF.2.2.2.2.2.2.2.2.2.2.2.2.2.1, hF.2.2.2.2.2.2.2.2.2.2.2.2.2.2.1, hF.2.2.2.2.2.2.2.2.2.2.2.2.2.2.2.1, hF.2.2.2.2.2.2.2.2.2.2.2.2.2.2.2.2.1, hF.2.2.2.2.2.2.2.2.2.2.2.2.2.2.2.2.2.1, hF.2.2.2.2.2.2.2.2.2.2.2.2.2.2.2.2.2.2.1, hF.2.2.2.2.2.2.2.2.2.2.2.2.2.2.2.2.2.2.2.1, hF.2.2.2.2.2.2.2.2.2.2.2.2.2.2.2.2.2.2.2.2.1, hF.2.2.2.2.2.2.2.2.2.2.2.2.2.2.2.2.2.2.2.2.2.1, hF.2.2.2.2.2.2.2.2.2.2.2.2.2.2.2.2.2.2.2.2.2.2.1, hF.2.2.2.2.2.2.2.2.2.2.2.2.2.2.2.2.2.2.2.2.2.2.2.1, hF.2.2.2.2.2.2.2.2.2.2.2.2.2.2.2.2.2.2.2.2.2.2.2.2⟩, hW⟩
     refine StepsI.cons rfl ?_ ?_
     ·rintro L zA v9 ⟨zB, zS, mq, rfl, rfl, hF, hW⟩ hL hm K hK
      have hb9 : zB 9 = false := by simpa using hL
      have hb5 : zB 5 = true := mt 5 hm (by kernel_rfl)
      have hb8 : zB 8 = true := mt 8 hm (by kernel_rfl)
      have e5 : zS 20 = .bool true := hF.2.2.2.2.2.1 hb5
      have e8 : zS 23 = .pointer (some ⟨Xa, 0, none⟩) := hF.2.2.2.2.2.2.2.2.1 hb8
      clear hL hm
      rw [hb5] at hW
      simp only [pE]
      simp only [e5, e8]
      have HWz := mkHid hW
      clear hW
      go_simp
      have hW := HWz.out
      clear HWz
      exact hK.out _ _ ⟨fun zj => if zj = 8 then true else if zj = 5 then true else if zj = 9 then true else zB zj, fun zd => if zd = 24 then .pointer (some ⟨Xa, 0, none⟩) else if zd = 23 then .pointer (some ⟨Xa, 0, none⟩) else if zd = 20 then .bool true else zS zd, mq, by simp [hb5, hb8], by kernel_rfl, ⟨hF.1, hF.2.1, hF.2.2.1, hF.2.2.2.1, hF.2.2.2.2.1, fun _ => rfl, hF.2.2.2.2.2.2.1, hF.2.2.2.2.2.2.2.1, fun _ => rfl, fun _ => rfl, hF.2.2.2.2.2.2.2.2.2.2.1, hF.2.2.2.2.2.2.2.2.2.2.2.1, hF.2.2.2.2.2.2.2.2.2.2.2.2.1, hF.2.2.2.2.2.2.2.2.2.2.2.2.2.1, hF.2.2.2.2.2.2.2.2.2.2.2.2.2.2.1, hF.2.2.2.2.2.2.2.2.2.2.2.2.2.2.2.1, hF.2.2.2.2.2.2.2.2.2.2.2.2.2.2.2.2.1, hF.2.2.2.2.2.2.2.2.2.2.2.2.2.2.2.2.2.1, hF.2.2.2.2.2.2.2.2.2.2.2.2.2.2.2.2.2.2.1, hF.2.2.2.2.2.2.2.2.2.2.2.2.2.2.2.2.2.2.2.1, hF.2.2.2.2.2.2.2.2.2.2.2.2.2.2.2.2.2.2.2.2.1, hF.2.2.2.2.2.2.2.2.2.2.2.2.2.2.2.2.2.2.2.2.2.1, hF.2.2.2.2.2.2.2.2.2.2.2.2.2.2.2.2.2.2.2.2.2.2.1, hF.2.2.2.2.2.2.2.2.2.2.2.2.2.2.2.2.2.2.2.2.2.2.2.1, hF.2.2.2.2.2.2.2.2.2.2.2.2.2.2.2.2.2.2.2.2.2.2.2.2⟩, hW⟩
     refine StepsI.cons rfl ?_ ?_
     ·rintro L zA v9 ⟨zB, zS, mq, rfl, rfl, hF, hW⟩ hL hm K hK
      have hb10 : zB 10 = false := by simpa using hL
      have hb5 : zB 5 = true := mt 5 hm (by kernel_rfl)
      have hb9 : zB 9 = true := mt 9 hm (by kernel_rfl)
      have e5 : zS 20 = .bool true := hF.2.2.2.2.2.1 hb5
      have e9 : zS 24 = .pointer (some ⟨Xa, 0, none⟩) := hF.2.2.2.2.2.2.2.2.2.1 hb9
      clear hL hm
      rw [hb5] at hW
      simp only [pE]
      simp only [e5, e9]
      have HWz := mkHid hW
      clear hW
      go_simp
      have hW := HWz.out
      clear HWz
      exact hK.out _ _ ⟨fun zj => if zj = 9 then true else if zj = 5 then true else if zj = 10 then true else zB zj, fun zd => if zd = 25 then .pointer (some ⟨Xa, 0, none⟩) else if zd = 24 then .pointer (some ⟨Xa, 0, none⟩) else if zd = 20 then .bool true else zS zd, mq, by simp [hb5, hb9], by kernel_rfl, ⟨hF.1, hF.2.1, hF.2.2.1, hF.2.2.2.1, hF.2.2.2.2.1, fun _ => rfl, hF.2.2.2.2.2.2.1, hF.2.2.2.2.2.2.2.1, hF.2.2.2.2.2.2.2.2.1, fun _ => rfl, fun _ => rfl, hF.2.2.2.2.2.2.2.2.2.2.2.1, hF.2.2.2.2.2.2.2.2.2.2.2.2.1, hF.2.2.2.2.2.2.2.2.2.2.2.2.2.1, hF.2.2.2.2.2.2.2.2.2.2.2.2.2.2.1, hF.2.2.2.2.2.2.2.2.2.2.2.2.2.2.2.1, hF.2.2.2.2.2.2.2.2.2.2.2.2.2.2.2.2.1, hF.2.2.2.2.2.2.2.2.2.2.2.2.2.2.2.2.2.1, hF.2.2.2.2.2.2.2.2.2.2.2.2.2.2.2.2.2.2.1, hF.2.2.2.2.2.2.2.2.2.2.2.2.2.2.2.2.2.2.2.1, hF.2.2.2.2.2.2.2.2.2.2.2.2.2.2.2.2.2.2.2.2.1, hF.2.2.2.2.2.2.2.2.2.2.2.2.2.2.2.2.2.2.2.2.2.1, hF.2.2.2.2.2.2.2.2.2.2.2.2.2.2.2.2.2.2.2.2.2.2.1, hF.2.2.2.2.2.2.2.2.2.2.2.2.2.2.2.2.2.2.2.2.2.2.2.1, hF.2.2.2.2.2.2.2.2.2.2.2.2.2.2.2.2.2.2.2.2.2.2.2.2⟩, hW⟩
     refine StepsI.cons rfl ?_ ?_
     ·rintro L zA v9 ⟨zB, zS, mq, rfl, rfl, hF, hW⟩ hL hm K hK
      have hb11 : zB 11 = false := by simpa using hL
      have hb5 : zB 5 = true := mt 5 hm (by kernel_rfl)
      have hb10 : zB 10 = true := mt 10 hm (by kernel_rfl)
      have e5 : zS 20 = .bool true := hF.2.2.2.2.2.1 hb5
      have e10 : zS 25 = .pointer (some ⟨Xa, 0, none⟩) := hF.2.2.2.2.2.2.2.2.2.2.1 hb10
      clear hL hm
      rw [hb5] at hW
      simp only [pE]
      simp only [e5, e10]
      have c0 := (cel_of hW.2.1).c0
      have HWz := mkHid hW
      clear hW
      go_simp
      have hW := HWz.out
      clear HWz
      exact hK.out _ _ ⟨fun zj => if zj = 10 then true else if zj = 5 then true else if zj = 11 then true else zB zj, fun zd => if zd = 26 then .slice ao l.length cap else if zd = 25 then .pointer (some ⟨Xa, 0, none⟩) else if zd = 20 then .bool true else zS zd, mq, by simp [hb5, hb10], by kernel_rfl, ⟨hF.1, hF.2.1, hF.2.2.1, hF.2.2.2.1, hF.2.2.2.2.1, fun _ => rfl, hF.2.2.2.2.2.2.1, hF.2.2.2.2.2.2.2.1, hF.2.2.2.2.2.2.2.2.1, hF.2.2.2.2.2.2.2.2.2.1, fun _ => rfl, fun _ => rfl, hF.2.2.2.2.2.2.2.2.2.2.2.2.1, hF.2.2.2.2.2.2.2.2.2.2.2.2.2.1, hF.2.2.2.2.2.2.2.2.2.2.2.2.2.2.1, hF.2.2.2.2.2.2.2.2.2.2.2.2.2.2.2.1, hF.2.2.2.2.2.2.2.2.2.2.2.2.2.2.2.2.1, hF.2.2.2.2.2.2.2.2.2.2.2.2.2.2.2.2.2.1, hF.2.2.2.2.2.2.2.2.2.2.2.2.2.2.2.2.2.2.1, hF.2.2.2.2.2.2.2.2.2.2.2.2.2.2.2.2.2.2.2.1, hF.2.2.2.2.2.2.2.2.2.2.2.2.2.2.2.2.2.2.2.2.1, hF.2.2.2.2.2.2.2.2.2.2.2.2.2.2.2.2.2.2.2.2.2.1, hF.2.2.2.2.2.2.2.2.2.2.2.2.2.2.2.2.2.2.2.2.2.2.1, hF.2.2.2.2.2.2.2.2.2.2.2.2.2.2.2.2.2.2.2.2.2.2.2.1, hF.2.2.2.2.2.2.2.2.2.2.2.2.2.2.2.2.2.2.2.2.2.2.2.2⟩, hW⟩
     refine StepsI.cons rfl ?_ ?_
     ·rintro L zA v9 ⟨zB, zS, mq, rfl, rfl, hF, hW⟩ hL hm K hK
      have hb12 : zB 12 = false := by simpa using hL
      have hb5 : zB 5 = true := mt 5 hm (by kernel_rfl)
      have e5 : zS 20 = .bool true := hF.2.2.2.2.2.1 hb5
      clear hL hm
      rw [hb5] at hW
      simp only [pE]
      simp only [e5]
      have HWz := mkHid hW
      clear hW
      go_simp
      have hW := HWz.out
      clear HWz
      exact hK.out _ _ ⟨fun zj => if zj = 5 then true else if zj = 12 then true else zB zj, fun zd => if zd = 27 then .pointer (some ⟨Xa, 0, none⟩) else if zd = 20 then .bool true else zS zd, mq, by simp [hb5], by kernel_rfl, ⟨hF.1, hF.2.1, hF.2.2.1, hF.2.2.2.1, hF.2.2.2.2.1, fun _ => rfl, hF.2.2.2.2.2.2.1, hF.2.2.2.2.2.2.2.1, hF.2.2.2.2.2.2.2.2.1, hF.2.2.2.2.2.2.2.2.2.1, hF.2.2.2.2.2.2.2.2.2.2.1, hF.2.2.2.2.2.2.2.2.2.2.2.1, fun _ => rfl, hF.2.2.2.2.2.2.2.2.2.2.2.2.2.1, hF.2.2.2.2.2.2.2.2.2.2.2.2.2.2.1, hF.2.2.2.2.2.2.2.2.2.2.2.2.2.2.2.1, hF.2.2.2.2.2.2.2.2.2.2.2.2.2.2.2.2.1, hF.2.2.2.2.2.2.2.2.2.2.2.2.2.2.2.2.2.1, hF.2.2.2.2.2.2.2.2.2.2.2.2.2.2.2.2.2.2.1, hF.2.2.2.2.2.2.2.2.2.2.2.2.2.2.2.2.2.2.2.1, hF.2.2.2.2.2.2.2.2.2.2.2.2.2.2.2.2.2.2.2.2.1, hF.2.2.2.2.2.2.2.2.2.2.2.2.2.2.2.2.2.2.2.2.2.1, hF.2.2.2.2.2.2.2.2.2.2.2.2.2.2.2.2.2.2.2.2.2.2.1, hF.2.2.2.2.2.2.2.2.2.2.2.2.2.2.2.2.2.2.2.2.2.2.2.1, hF.2.2.2.2.2.2.2.2.2.2.2.2.2.2.2.2.2.2.2.2.2.2.2.2⟩, hW⟩
     refine StepsI.cons rfl ?_ ?_
     ·rintro L zA v9 ⟨zB, zS, mq, rfl, rfl, hF, hW⟩ hL hm K hK
      have hb13 : zB 13 = false := by simpa using hL
      have hb5 : zB 5 = true := mt 5 hm (by kernel_rfl)
      have hb12 : zB 12 = true := mt 12 hm (by kernel_rfl)
      have e5 : zS 20 = .bool true := hF.2.2.2.2.2.1 hb5
      have e12 : zS 27 = .pointer (some ⟨Xa, 0, none⟩) := hF.2.2.2.2.2.2.2.2.2.2.2.2.1 hb12
      clear hL hm
      rw [hb5] at hW
      simp only [pE]
      simp only [e5, e12]
      have HWz := mkHid hW
      clear hW
      go_simp
      have hW := HWz.out
      clear HWz
      exact hK.out _ _ ⟨fun zj => if zj = 12 then true else if zj = 5 then true else if zj = 13 then true else zB zj, fun zd => if zd = 28 then .pointer (some ⟨Xa, 0, none⟩) else if zd = 27 then .pointer (some ⟨Xa, 0, none⟩) else if zd = 20 then .bool true else zS zd, mq, by simp [hb5, hb12], by kernel_rfl, ⟨hF.1, hF.2.1, hF.2.2.1, hF.2.2.2.1, hF.2.2.2.2.1, fun _ => rfl, hF.2.2.2.2.2.2.1, hF.2.2.2.2.2.2.2.1, hF.2.2.2.2.2.2.2.2.1, hF.2.2.2.2.2.2.2.2.2.1, hF.2.2.2.2.2.2.2.2.2.2.1, hF.2.2.2.2.2.2.2.2.2.2.2.1, fun _ => rfl, fun _ => rfl, hF.2.2.2.2.2.2.2.2.2.2.2.2.2.2.1, hF.2.2.2.2.2.2.2.2.2.2.2.2.2.2.2.1, hF.2.2.2.2.2.2.2.2.2.2.2.2.2.2.2.2.1, hF.2.2.2.2.2.2.2.2.2.2.2.2.2.2.2.2.2.1, hF.2.2.2.2.2.2.2.2.2.2.2.2.2.2.2.2.2.2.1, hF.2.2.2.2.2.2.2.2.2.2.2.2.2.2.2.2.2.2.2.1, hF.2.2.2.2.2.2.2.2.2.2.2.2.2.2.2.2.2.2.2.2.1, hF.2.2.2.2.2.2.2.2.2.2.2.2.2.2.2.2.2.2.2.2.2.1, hF.2.2.2.2.2.2.2.2.2.2.2.2.2.2.2.2.2.2.2.2.2.2.1, hF.2.2.2.2.2.2.2.2.2.2.2.2.2.2.2.2.2.2.2.2.2.2.2.1, hF.2.2.2.2.2.2.2.2.2.2.2.2.2.2.2.2.2.2.2.2.2.2.2.2⟩, hW⟩
     refine StepsI.cons rfl ?_ ?_
     ·rintro L zA v9 ⟨zB, zS, mq, rfl, rfl, hF, hW⟩ hL hm K hK
      have hb14 : zB 14 = false := by simpa using hL
      have hb5 : zB 5 = true := mt 5 hm (by kernel_rfl)
      have hb13 : zB 13 = true := mt 13 hm (by kernel_rfl)
      have e5 : zS 20 = .bool true := hF.2.2.2.2.2.1 hb5
      have e13 : zS 28 = .pointer (some ⟨Xa, 0, none⟩) := hF.2.2.2.2.2.2.2.2.2.2.2.2.2.1 hb13
      clear hL hm
      rw [hb5] at hW
      simp only [pE]
      simp only [e5, e13]
      have HWz := mkHid hW
      clear hW
      go_simp
      have hW := HWz.out
      clear HWz
      exact hK.out _ _ ⟨fun zj => if zj = 13 then true else if zj = 5 then true else if zj = 14 then true else zB zj, fun zd => if zd = 29 then .pointer (some ⟨Xa, 6, none⟩) else if zd = 28 then .pointer (some ⟨Xa, 0, none⟩) else if zd = 20 then .bool true else zS zd, mq, by simp [hb5, hb13], by kernel_rfl, ⟨hF.1, hF.2.1, hF.2.2.1, hF.2.2.2.1, hF.2.2.2.2.1, fun _ => rfl, hF.2.2.2.2.2.2.1, hF.2.2.2.2.2.2.2.1, hF.2.2.2.2.2.2.2.2.1, hF.2.2.2.2.2.2.2.2.2.1, hF.2.2.2.2.2.2.2.2.2.2.1, hF.2.2.2.2.2.2.2.2.2.2.2.1, hF.2.2.2.2.2.2.2.2.2.2.2.2.1, fun _ => rfl, fun _ => rfl, hF.2.2.2.2.2.2.2.2.2.2.2.2.2.2.2.1, hF.2.2.2.2.2.2.2.2.2.2.2.2.2.2.2.2.1, hF.2.2.2.2.2.2.2.2.2.2.2.2.2.2.2.2.2.1, hF.2.2.2.2.2.2.2.2.2.2.2.2.2.2.2.2.2.2.1, hF.2.2.2.2.2.2.2.2.2.2.2.2.2.2.2.2.2.2.2.1, hF.2.2.2.2.2.2.2.2.2.2.2.2.2.2.2.2.2.2.2.2.1, hF.2.2.2.2.2.2.2.2.2.2.2.2.2.2.2.2.2.2.2.2.2.1, hF.2.2.2.2.2.2.2.2.2.2.2.2.2.2.2.2.2.2.2.2.2.2.1, hF.2.2.2.2.2.2.2.2.2.2.2.2.2.2.2.2.2.2.2.2.2.2.2.1, hF.2.2.2.2.2.2.2.2.2.2.2.2.2.2.2.2.2.2.2.2.2.2.2.2⟩, hW⟩
     refine StepsI.cons rfl ?_ ?_
     ·rintro L zA v9 ⟨zB, zS, mq, rfl, rfl, hF, hW⟩ hL hm K hK
      have hb15 : zB 15 = false := by simpa using hL
      have hb5 : zB 5 = true := mt 5 hm (by kernel_rfl)
      have hb14 : zB 14 = true := mt 14 hm (by kernel_rfl)
      have e5 : zS 20 = .bool true := hF.2.2.2.2.2.1 hb5
      have e14 : zS 29 = .pointer (some ⟨Xa, 6, none⟩) := hF.2.2.2.2.2.2.2.2.2.2.2.2.2.2.1 hb14
      clear hL hm
      rw [hb5] at hW
      simp only [pE]
      simp only [e5, e14]
      have c0 := (cel_of hW.2.1).c6
      have HWz := mkHid hW
      clear hW
      go_simp
      have hW := HWz.out
      clear HWz
      exact hK.out _ _ ⟨fun zj => if zj = 14 then true else if zj = 5 then true else if zj = 15 then true else zB zj, fun zd => if zd = 30 then .pointer (some ⟨Xn, 0, none⟩) else if zd = 29 then .pointer (some ⟨Xa, 6, none⟩) else if zd = 20 then .bool true else zS zd, mq, by simp [hb5, hb14], by kernel_rfl, ⟨hF.1, hF.2.1, hF.2.2.1, hF.2.2.2.1, hF.2.2.2.2.1, fun _ => rfl, hF.2.2.2.2.2.2.1, hF.2.2.2.2.2.2.2.1, hF.2.2.2.2.2.2.2.2.1, hF.2.2.2.2.2.2.2.2.2.1, hF.2.2.2.2.2.2.2.2.2.2.1, hF.2.2.2.2.2.2.2.2.2.2.2.1, hF.2.2.2.2.2.2.2.2.2.2.2.2.1, hF.2.2.2.2.2.2.2.2.2.2.2.2.2.1, fun _ => rfl, fun _ => rfl, hF.2.2.2.2.2.2.2.2.2.2.2.2.2.2.2.2.1, hF.2.2.2.2.2.2.2.2.2.2.2.2.2.2.2.2.2.1, hF.2.2.2.2.2.2.2.2.2.2.2.2.2.2.2.2.2.2.1, hF.2.2.2.2.2.2.2.2.2.2.2.2.2.2.2.2.2.2.2.1, hF.2.2.2.2.2.2.2.2.2.2.2.2.2.2.2.2.2.2.2.2.1, hF.2.2.2.2.2.2.2.2.2.2.2.2.2.2.2.2.2.2.2.2.2.1, hF.2.2.2.2.2.2.2.2.2.2.2.2.2.2.2.2.2.2.2.2.2.2.1, hF.2.2.2.2.2.2.2.2.2.2.2.2.2.2.2.2.2.2.2.2.2.2.2.1, hF.2.2.2.2.2.2.2.2.2.2.2.2.2.2.2.2.2.2.2.2.2.2.2.2⟩, hW⟩
     refine StepsI.cons rfl ?_ ?_
     ·rintro L zA v9 ⟨zB, zS, mq, rfl, rfl, hF, hW⟩ hL hm K hK
      have hb16 : zB 16 = false := by simpa using hL
      have hb5 : zB 5 = true := mt 5 hm (by kernel_rfl)
      have hb15 : zB 15 = true := mt 15 hm (by kernel_rfl)
      have e5 : zS 20 = .bool true := hF.2.2.2.2.2.1 hb5
      have e15 : zS 30 = .pointer (some ⟨Xn, 0, none⟩) := hF.2.2.2.2.2.2.2.2.2.2.2.2.2.2.2.1 hb15
      clear hL hm
      rw [hb5] at hW
      simp only [pE]
      simp only [e5, e15]
      have HWz := mkHid hW
      clear hW
      go_simp
      have hW := HWz.out
      clear HWz
      exact hK.out _ _ ⟨fun zj => if zj = 15 then true else if zj = 5 then true else if zj = 16 then true else zB zj, fun zd => if zd = 31 then .pointer (some ⟨Xn, 0, none⟩) else if zd = 30 then .pointer (some ⟨Xn, 0, none⟩) else if zd = 20 then .bool true else zS zd, mq, by simp [hb5, hb15], by kernel_rfl, ⟨hF.1, hF.2.1, hF.2.2.1, hF.2.2.2.1, hF.2.2.2.2.1, fun _ => rfl, hF.2.2.2.2.2.2.1, hF.2.2.2.2.2.2.2.1, hF.2.2.2.2.2.2.2.2.1, hF.2.2.2.2.2.2.2.2.2.1, hF.2.2.2.2.2.2.2.2.2.2.1, hF.2.2.2.2.2.2.2.2.2.2.2.1, hF.2.2.2.2.2.2.2.2.2.2.2.2.1, hF.2.2.2.2.2.2.2.2.2.2.2.2.2.1, hF.2.2.2.2.2.2.2.2.2.2.2.2.2.2.1, fun _ => rfl, fun _ => rfl, hF.2.2.2.2.2.2.2.2.2.2.2.2.2.2.2.2.2.1, hF.2.2.2.2.2.2.2.2.2.2.2.2.2.2.2.2.2.2.1, hF.2.2.2.2.2.2.2.2.2.2.2.2.2.2.2.2.2.2.2.1, hF.2.2.2.2.2.2.2.2.2.2.2.2.2.2.2.2.2.2.2.2.1, hF.2.2.2.2.2.2.2.2.2.2.2.2.2.2.2.2.2.2.2.2.2.1, hF.2.2.2.2.2.2.2.2.2.2.2.2.2.2.2.2.2.2.2.2.2.2.1, hF.2.2.2.2.2.2.2.2.2.2.2.2.2.2.2.2.2.2.2.2.2.2.2.1, hF.2.2.2.2.2.2.2.2.2.2.2.2.2.2.2.2.2.2.2.2.2.2.2.2⟩, hW⟩
     refine StepsI.cons rfl ?_ ?_
     ·rintro L zA v9 ⟨zB, zS, mq, rfl, rfl, hF, hW⟩ hL hm K hK
      have hb17 : zB 17 = false := by simpa using hL
      have hb5 : zB 5 = true := mt 5 hm (by kernel_rfl)
      have hb16 : zB 16 = true := mt 16 hm (by kernel_rfl)
      have e5 : zS 20 = .bool true := hF.2.2.2.2.2.1 hb5
      have e16 : zS 31 = .pointer (some ⟨Xn, 0, none⟩) := hF.2.2.2.2.2.2.2.2.2.2.2.2.2.2.2.2.1 hb16
      clear hL hm
      rw [hb5] at hW
      simp only [pE]
      simp only [e5, e16]
      have HWz := mkHid hW
      clear hW
      go_simp
      have hW := HWz.out
      clear HWz
      exact hK.out _ _ ⟨fun zj => if zj = 16 then true else if zj = 5 then true else if zj = 17 then true else zB zj, fun zd => if zd = 32 then .pointer (some ⟨Xn, 0, none⟩) else if zd = 31 then .pointer (some ⟨Xn, 0, none⟩) else if zd = 20 then .bool true else zS zd, mq, by simp [hb5, hb16], by kernel_rfl, ⟨hF.1, hF.2.1, hF.2.2.1, hF.2.2.2.1, hF.2.2.2.2.1, fun _ => rfl, hF.2.2.2.2.2.2.1, hF.2.2.2.2.2.2.2.1, hF.2.2.2.2.2.2.2.2.1, hF.2.2.2.2.2.2.2.2.2.1, hF.2.2.2.2.2.2.2.2.2.2.1, hF.2.2.2.2.2.2.2.2.2.2.2.1, hF.2.2.2.2.2.2.2.2.2.2.2.2.1, hF.2.2.2.2.2.2.2.2.2.2.2.2.2.1, hF.2.2.2.2.2.2.2.2.2.2.2.2.2.2.1, hF.2.2.2.2.2.2.2.2.2.2.2.2.2.2.2.1, fun _ => rfl, fun _ => rfl, hF.2.2.2.2.2.2.2.2.2.2.2.2.2.2.2.2.2.2.1, hF.2.2.2.2.2.2.2.2.2.2.2.2.2.2.2.2.2.2.2.1, hF.2.2.2.2.2.2.2.2.2.2.2.2.2.2.2.2.2.2.2.2.1, hF.2.2.2.2.2.2.2.2.2.2.2.2.2.2.2.2.2.2.2.2.2.1, hF.2.2.2.2.2.2.2.2.2.2.2.2.2.2.2.2.2.2.2.2.2.2.1, hF.2.2.2.2.2.2.2.2.2.2.2.2.2.2.2.2.2.2.2.2.2.2.2.1, hF.2.2.2.2.2.2.2.2.2.2.2.2.2.2.2.2.2.2.2.2.2.2.2.2⟩, hW⟩
     refine StepsI.cons rfl ?_ ?_
     ·rintro L zA v9 ⟨zB, zS, mq, rfl, rfl, hF, hW⟩ hL hm K hK
      have hb18 : zB 18 = false := by simpa using hL
      have hb5 : zB 5 = true := mt 5 hm (by kernel_rfl)
      have hb17 : zB 17 = true := mt 17 hm (by kernel_rfl)
      have e5 : zS 20 = .bool true := hF.2.2.2.2.2.1 hb5
      have e17 : zS 32 = .pointer (some ⟨Xn, 0, none⟩) := hF.2.2.2.2.2.2.2.2.2.2.2.2.2.2.2.2.2.1 hb17
      clear hL hm
      rw [hb5] at hW
      simp only [pE]
      simp only [e5, e17]
      have HWz := mkHid hW
      clear hW
      go_simp
      have hW := HWz.out
      clear HWz
      exact hK.out _ _ ⟨fun zj => if zj = 17 then true else if zj = 5 then true else if zj = 18 then true else zB zj, fun zd => if zd = 33 then .pointer (some ⟨Xn, 0, none⟩) else if zd = 32 then .pointer (some ⟨Xn, 0, none⟩) else if zd = 20 then .bool true else zS zd, mq, by simp [hb5, hb17], by kernel_rfl, ⟨hF.1, hF.2.1, hF.2.2.1, hF.2.2.2.1, hF.2.2.2.2.1, fun _ => rfl, hF.2.2.2.2.2.2.1, hF.2.2.2.2.2.2.2.1, hF.2.2.2.2.2.2.2.2.1, hF.2.2.2.2.2.2.2.2.2.1, hF.2.2.2.2.2.2.2.2.2.2.1, hF.2.2.2.2.2.2.2.2.2.2.2.1, hF.2.2.2.2.2.2.2.2.2.2.2.2.1, hF.2.2.2.2.2.2.2.2.2.2.2.2.2.1, hF.2.2.2.2.2.2.2.2.2.2.2.2.2.2.1, hF.2.2.2.2.2.2.2.2.2.2.2.2.2.2.2.1, hF.2.2.2.2.2.2.2.2.2.2.2.2.2.2.2.2.1, fun _ => rfl, fun _ => rfl, hF.2.2.2.2.2.2.2.2.2.2.2.2.2.2.2.2.2.2.2.1, hF.2.2.2.2.2.2.2.2.2.2.2.2.2.2.2.2.2.2.2.2.1, hF.2.2.2.2.2.2.2.2.2.2.2.2.2.2.2.2.2.2.2.2.2.1, hF.2.2.2.2.2.2.2.2.2.2.2.2.2.2.2.2.2.2.2.2.2.2.1, hF.2.2.2.2.2.2.2.2.2.2.2.2.2.2.2.2.2.2.2.2.2.2.2.1, hF.2.2.2.2.2.2.2.2.2.2.2.2.2.2.2.2.2.2.2.2.2.2.2.2⟩, hW⟩
     refine StepsI.cons rfl ?_ ?_
     ·rintro L zA v9 ⟨zB, zS, mq, rfl, rfl, hF, hW⟩ hL hm K hK
      have hb19 : zB 19 = false := by simpa using hL
      have hb5 : zB 5 = true := mt 5 hm (by kernel_rfl)
      have hb18 : zB 18 = true := mt 18 hm (by kernel_rfl)
      have e5 : zS 20 = .bool true := hF.2.2.2.2.2.1 hb5
      have e18 : zS 33 = .pointer (some ⟨Xn, 0, none⟩) := hF.2.2.2.2.2.2.2.2.2.2.2.2.2.2.2.2.2.2.1 hb18
      clear hL hm
      rw [hb5] at hW
      simp only [pE]
      simp only [e5, e18]
      have c0 := hcn _ hW.1
      have HWz := mkHid hW
      clear hW
      go_simp
      have hW := HWz.out
      clear HWz
      exact hK.out _ _ ⟨fun zj => if zj = 18 then true else if zj = 5 then true else if zj = 19 then true else zB zj, fun zd => if zd = 34 then .slice an ln.length cn else if zd = 33 then .pointer (some ⟨Xn, 0, none⟩) else if zd = 20 then .bool true else zS zd, mq, by simp [hb5, hb18], by kernel_rfl, ⟨hF.1, hF.2.1, hF.2.2.1, hF.2.2.2.1, hF.2.2.2.2.1, fun _ => rfl, hF.2.2.2.2.2.2.1, hF.2.2.2.2.2.2.2.1, hF.2.2.2.2.2.2.2.2.1, hF.2.2.2.2.2.2.2.2.2.1, hF.2.2.2.2.2.2.2.2.2.2.1, hF.2.2.2.2.2.2.2.2.2.2.2.1, hF.2.2.2.2.2.2.2.2.2.2.2.2.1, hF.2.2.2.2.2.2.2.2.2.2.2.2.2.1, hF.2.2.2.2.2.2.2.2.2.2.2.2.2.2.1, hF.2.2.2.2.2.2.2.2.2.2.2.2.2.2.2.1, hF.2.2.2.2.2.2.2.2.2.2.2.2.2.2.2.2.1, hF.2.2.2.2.2.2.2.2.2.2.2.2.2.2.2.2.2.1, fun _ => rfl, fun _ => rfl, hF.2.2.2.2.2.2.2.2.2.2.2.2.2.2.2.2.2.2.2.2.1, hF.2.2.2.2.2.2.2.2.2.2.2.2.2.2.2.2.2.2.2.2.2.1, hF.2.2.2.2.2.2.2.2.2.2.2.2.2.2.2.2.2.2.2.2.2.2.1, hF.2.2.2.2.2.2.2.2.2.2.2.2.2.2.2.2.2.2.2.2.2.2.2.1, hF.2.2.2.2.2.2.2.2.2.2.2.2.2.2.2.2.2.2.2.2.2.2.2.2⟩, hW⟩
     refine StepsI.cons rfl ?_ ?_
     ·rintro L zA v9 ⟨zB, zS, mq, rfl, rfl, hF, hW⟩ hL hm K hK
      have hb20 : zB 20 = false := by simpa using hL
      have hb5 : zB 5 = true := mt 5 hm (by kernel_rfl)
      have hb6 : zB 6 = true := mt 6 hm (by kernel_rfl)
      have hb11 : zB 11 = true := mt 11 hm (by kernel_rfl)
      have hb19 : zB 19 = true := mt 19 hm (by kernel_rfl)
      have e5 : zS 20 = .bool true := hF.2.2.2.2.2.1 hb5
      have e6 : zS 21 = .agg (Q.dA n G) := hF.2.2.2.2.2.2.1 hb6
      have e11 : zS 26 = .slice ao l.length cap := hF.2.2.2.2.2.2.2.2.2.2.2.1 hb11
      have e19 : zS 34 = .slice an ln.length cn := hF.2.2.2.2.2.2.2.2.2.2.2.2.2.2.2.2.2.2.2.1 hb19
      clear hL hm
      rw [hb5] at hW
      simp only [pE]
      simp only [e5, e6, e11, e19]
      have HWz := mkHid hW
      clear hW
      go_simp
      have hW := HWz.out
      clear HWz
      refine (HAB.out l ln ao an cap cn _ HLN.out HLNN.out HWA.out HWN.out (hat _ hW.1) (hatn _ hW.1)).mono ?_
      rintro e v92 ⟨rfl, hb⟩
      rw [HBQ.out]
      have HWz := mkHid hW
      clear hW
      go_wp2_with fail
      have hW := HWz.out
      clear HWz
      exact hK.out _ _ ⟨fun zj => if zj = 19 then true else if zj = 11 then true else if zj = 6 then true else if zj = 5 then true else if zj = 20 then true else zB zj, fun zd => if zd = 35 then .bool bq else if zd = 34 then .slice an ln.length cn else if zd = 26 then .slice ao l.length cap else if zd = 21 then .agg (Q.dA n G) else if zd = 20 then .bool true else zS zd, mq, by simp [hb5, hb6, hb11, hb19], by kernel_rfl, ⟨hF.1, hF.2.1, hF.2.2.1, hF.2.2.2.1, hF.2.2.2.2.1, fun _ => rfl, fun _ => rfl, hF.2.2.2.2.2.2.2.1, hF.2.2.2.2.2.2.2.2.1, hF.2.2.2.2.2.2.2.2.2.1, hF.2.2.2.2.2.2.2.2.2.2.1, fun _ => rfl, hF.2.2.2.2.2.2.2.2.2.2.2.2.1, hF.2.2.2.2.2.2.2.2.2.2.2.2.2.1, hF.2.2.2.2.2.2.2.2.2.2.2.2.2.2.1, hF.2.2.2.2.2.2.2.2.2.2.2.2.2.2.2.1, hF.2.2.2.2.2.2.2.2.2.2.2.2.2.2.2.2.1, hF.2.2.2.2.2.2.2.2.2.2.2.2.2.2.2.2.2.1, hF.2.2.2.2.2.2.2.2.2.2.2.2.2.2.2.2.2.2.1, fun _ => rfl, fun _ => rfl, hF.2.2.2.2.2.2.2.2.2.2.2.2.2.2.2.2.2.2.2.2.2.1, hF.2.2.2.2.2.2.2.2.2.2.2.2.2.2.2.2.2.2.2.2.2.2.1, hF.2.2.2.2.2.2.2.2.2.2.2.2.2.2.2.2.2.2.2.2.2.2.2.1, hF.2.2.2.2.2.2.2.2.2.2.2.2.2.2.2.2.2.2.2.2.2.2.2.2⟩, ⟨hW.1.trans (Only.of hb), (hb.block Xa (heap_lt hW.2.1)).trans hW.2.1, hW.2.2.1, hW.2.2.2.1, hW.2.2.2.2.1, fun _ => hW.2.2.2.2.2 (by first | rfl | trivial)⟩⟩
     refine StepsI.cons rfl ?_ ?_
     ·rintro L zA v9 ⟨zB, zS, mq, rfl, rfl, hF, hW⟩ hL hm K hK
      have hb21 : zB 21 = false := by simpa using hL
      have hb5 : zB 5 = true := mt 5 hm (by kernel_rfl)
      have hb20 : zB 20 = true := mt 20 hm (by kernel_rfl)
      have e5 : zS 20 = .bool true := hF.2.2.2.2.2.1 hb5
      have e20 : zS 35 = .bool bq := hF.2.2.2.2.2.2.2.2.2.2.2.2.2.2.2.2.2.2.2.2.1 hb20
      clear hL hm
      rw [hb5] at hW
      simp only [pE]
      simp only [e5, e20]
      have HWz := mkHid hW
      clear hW
      go_simp
      have hW := HWz.out
      clear HWz
      exact hK.out _ _ ⟨fun zj => if zj = 20 then true else if zj = 5 then true else if zj = 21 then true else zB zj, fun zd => if zd = 36 then .bool (!bq) else if zd = 35 then .bool bq else if zd = 20 then .bool true else zS zd, mq, by simp [hb5, hb20], by kernel_rfl, ⟨hF.1, hF.2.1, hF.2.2.1, hF.2.2.2.1, hF.2.2.2.2.1, fun _ => rfl, hF.2.2.2.2.2.2.1, hF.2.2.2.2.2.2.2.1, hF.2.2.2.2.2.2.2.2.1, hF.2.2.2.2.2.2.2.2.2.1, hF.2.2.2.2.2.2.2.2.2.2.1, hF.2.2.2.2.2.2.2.2.2.2.2.1, hF.2.2.2.2.2.2.2.2.2.2.2.2.1, hF.2.2.2.2.2.2.2.2.2.2.2.2.2.1, hF.2.2.2.2.2.2.2.2.2.2.2.2.2.2.1, hF.2.2.2.2.2.2.2.2.2.2.2.2.2.2.2.1, hF.2.2.2.2.2.2.2.2.2.2.2.2.2.2.2.2.1, hF.2.2.2.2.2.2.2.2.2.2.2.2.2.2.2.2.2.1, hF.2.2.2.2.2.2.2.2.2.2.2.2.2.2.2.2.2.2.1, hF.2.2.2.2.2.2.2.2.2.2.2.2.2.2.2.2.2.2.2.1, fun _ => rfl, fun _ => rfl, hF.2.2.2.2.2.2.2.2.2.2.2.2.2.2.2.2.2.2.2.2.2.2.1, hF.2.2.2.2.2.2.2.2.2.2.2.2.2.2.2.2.2.2.2.2.2.2.2.1, hF.2.2.2.2.2.2.2.2.2.2.2.2.2.2.2.2.2.2.2.2.2.2.2.2⟩, hW⟩
     refine StepsI.cons rfl ?_ ?_
     ·rintro L zA v9 ⟨zB, zS, mq, rfl, rfl, hF, hW⟩ hL hm K hK
      have hb22 : zB 22 = false := by simpa using hL
      have hb5 : zB 5 = true := mt 5 hm (by kernel_rfl)
      have hb21 : zB 21 = true := mt 21 hm (by kernel_rfl)
      have e5 : zS 20 = .bool true := hF.2.2.2.2.2.1 hb5
      have e21 : zS 36 = .bool (!bq) := hF.2.2.2.2.2.2.2.2.2.2.2.2.2.2.2.2.2.2.2.2.2.1 hb21
      clear hL hm
      rw [hb22] at hW
      rw [hb5] at hW
      simp only [pE]
      simp only [e5, e21]
      have HWz := mkHid hW
      clear hW
      go_simp
      have hW := HWz.out
      clear HWz
      exact hK.out _ _ ⟨fun zj => if zj = 21 then true else if zj = 5 then true else if zj = 22 then true else zB zj, fun zd => if zd = 37 then .bool (!bq) else if zd = 36 then .bool (!bq) else if zd = 20 then .bool true else zS zd, mq, by simp [hb5, hb21], by kernel_rfl, ⟨hF.1, hF.2.1, hF.2.2.1, hF.2.2.2.1, hF.2.2.2.2.1, fun _ => rfl, hF.2.2.2.2.2.2.1, hF.2.2.2.2.2.2.2.1, hF.2.2.2.2.2.2.2.2.1, hF.2.2.2.2.2.2.2.2.2.1, hF.2.2.2.2.2.2.2.2.2.2.1, hF.2.2.2.2.2.2.2.2.2.2.2.1, hF.2.2.2.2.2.2.2.2.2.2.2.2.1, hF.2.2.2.2.2.2.2.2.2.2.2.2.2.1, hF.2.2.2.2.2.2.2.2.2.2.2.2.2.2.1, hF.2.2.2.2.2.2.2.2.2.2.2.2.2.2.2.1, hF.2.2.2.2.2.2.2.2.2.2.2.2.2.2.2.2.1, hF.2.2.2.2.2.2.2.2.2.2.2.2.2.2.2.2.2.1, hF.2.2.2.2.2.2.2.2.2.2.2.2.2.2.2.2.2.2.1, hF.2.2.2.2.2.2.2.2.2.2.2.2.2.2.2.2.2.2.2.1, hF.2.2.2.2.2.2.2.2.2.2.2.2.2.2.2.2.2.2.2.2.1, fun _ => rfl, fun _ => rfl, hF.2.2.2.2.2.2.2.2.2.2.2.2.2.2.2.2.2.2.2.2.2.2.2.1, hF.2.2.2.2.2.2.2.2.2.2.2.2.2.2.2.2.2.2.2.2.2.2.2.2⟩, ⟨hW.1, hW.2.1, hW.2.2.1, hW.2.2.2.1, fun _ => hW.2.2.2.2.2 rfl, fun _ => hW.2.2.2.2.2 rfl⟩⟩
     refine StepsI.cons rfl ?_ ?_
     ·rintro L zA v9 ⟨zB, zS, mq, rfl, rfl, hF, hW⟩ hL hm K hK
      have hb23 : zB 23 = false := by simpa using hL
      have hb0 : zB 0 = true := mt 0 hm (by kernel_rfl)
      have e0 : zS 15 = .pointer (some ⟨Xa, 0, none⟩) := hF.1 hb0
      clear hL hm
      simp only [pE]
      simp only [e0]
      have HWz := mkHid hW
      clear hW
      go_simp
      have hW := HWz.out
      clear HWz
      exact hK.out _ _ ⟨fun zj => if zj = 0 then true else if zj = 23 then true else zB zj, fun zd => if zd = 38 then .pointer (some ⟨Xa, 0, none⟩) else if zd = 15 then .pointer (some ⟨Xa, 0, none⟩) else zS zd, mq, by simp [hb0], by kernel_rfl, ⟨fun _ => rfl, hF.2.1, hF.2.2.1, hF.2.2.2.1, hF.2.2.2.2.1, hF.2.2.2.2.2.1, hF.2.2.2.2.2.2.1, hF.2.2.2.2.2.2.2.1, hF.2.2.2.2.2.2.2.2.1, hF.2.2.2.2.2.2.2.2.2.1, hF.2.2.2.2.2.2.2.2.2.2.1, hF.2.2.2.2.2.2.2.2.2.2.2.1, hF.2.2.2.2.2.2.2.2.2.2.2.2.1, hF.2.2.2.2.2.2.2.2.2.2.2.2.2.1, hF.2.2.2.2.2.2.2.2.2.2.2.2.2.2.1, hF.2.2.2.2.2.2.2.2.2.2.2.2.2.2.2.1, hF.2.2.2.2.2.2.2.2.2.2.2.2.2.2.2.2.1, hF.2.2.2.2.2.2.2.2.2.2.2.2.2.2.2.2.2.1, hF.2.2.2.2.2.2.2.2.2.2.2.2.2.2.2.2.2.2.1, hF.2.2.2.2.2.2.2.2.2.2.2.2.2.2.2.2.2.2.2.1, hF.2.2.2.2.2.2.2.2.2.2.2.2.2.2.2.2.2.2.2.2.1, hF.2.2.2.2.2.2.2.2.2.2.2.2.2.2.2.2.2.2.2.2.2.1, hF.2.2.2.2.2.2.2.2.2.2.2.2.2.2.2.2.2.2.2.2.2.2.1, fun _ => rfl, hF.2.2.2.2.2.2.2.2.2.2.2.2.2.2.2.2.2.2.2.2.2.2.2.2⟩, hW⟩
     refine StepsI.cons rfl ?_ ?_
     ·rintro L zA v9 ⟨zB, zS, mq, rfl, rfl, hF, hW⟩ hL hm K hK
      have hb24 : zB 24 = false := by simpa using hL
      have hb23 : zB 23 = true := mt 23 hm (by kernel_rfl)
      have e23 : zS 38 = .pointer (some ⟨Xa, 0, none⟩) := hF.2.2.2.2.2.2.2.2.2.2.2.2.2.2.2.2.2.2.2.2.2.2.2.1 hb23
      clear hL hm
      simp only [pE]
      simp only [e23]
      have HWz := mkHid hW
      clear hW
      go_simp
      have hW := HWz.out
      clear HWz
      exact hK.out _ _ ⟨fun zj => if zj = 23 then true else if zj = 24 then true else zB zj, fun zd => if zd = 39 then .pointer (some ⟨Xa, 5, none⟩) else if zd = 38 then .pointer (some ⟨Xa, 0, none⟩) else zS zd, mq, by simp [hb23], by kernel_rfl, ⟨hF.1, hF.2.1, hF.2.2.1, hF.2.2.2.1, hF.2.2.2.2.1, hF.2.2.2.2.2.1, hF.2.2.2.2.2.2.1, hF.2.2.2.2.2.2.2.1, hF.2.2.2.2.2.2.2.2.1, hF.2.2.2.2.2.2.2.2.2.1, hF.2.2.2.2.2.2.2.2.2.2.1, hF.2.2.2.2.2.2.2.2.2.2.2.1, hF.2.2.2.2.2.2.2.2.2.2.2.2.1, hF.2.2.2.2.2.2.2.2.2.2.2.2.2.1, hF.2.2.2.2.2.2.2.2.2.2.2.2.2.2.1, hF.2.2.2.2.2.2.2.2.2.2.2.2.2.2.2.1, hF.2.2.2.2.2.2.2.2.2.2.2.2.2.2.2.2.1, hF.2.2.2.2.2.2.2.2.2.2.2.2.2.2.2.2.2.1, hF.2.2.2.2.2.2.2.2.2.2.2.2.2.2.2.2.2.2.1, hF.2.2.2.2.2.2.2.2.2.2.2.2.2.2.2.2.2.2.2.1, hF.2.2.2.2.2.2.2.2.2.2.2.2.2.2.2.2.2.2.2.2.1, hF.2.2.2.2.2.2.2.2.2.2.2.2.2.2.2.2.2.2.2.2.2.1, hF.2.2.2.2.2.2.2.2.2.2.2.2.2.2.2.2.2.2.2.2.2.2.1, fun _ => rfl, fun _ => rfl⟩, hW⟩
     refine StepsI.cons rfl ?_ ?_
     ·rintro L zA v9 ⟨zB, zS, mq, rfl, rfl, hF, hW⟩ hL hm K hK
      have hb25 : zB 25 = false := by simpa using hL
      have hb22 : zB 22 = true := mt 22 hm (by kernel_rfl)
      have hb24 : zB 24 = true := mt 24 hm (by kernel_rfl)
      have e22 : zS 37 = .bool (!bq) := hF.2.2.2.2.2.2.2.2.2.2.2.2.2.2.2.2.2.2.2.2.2.2.1 hb22
      have e24 : zS 39 = .pointer (some ⟨Xa, 5, none⟩) := hF.2.2.2.2.2.2.2.2.2.2.2.2.2.2.2.2.2.2.2.2.2.2.2.2 hb24
      clear hL hm
      rw [hb25] at hW
      rw [hb22] at hW
      simp only [pE]
      simp only [e22, e24]
      have h4 := mkHid (hW.2.2.2.2.1 rfl)
      have hcl := mkHid hW.2.1
      have c5 := (cel_of hcl.out).c5
      have f5 := (cel_of hcl.out).f5
      have HWz := mkHid hW
      clear hW
      go_simp
      have hW := HWz.out
      clear HWz
      exact hK.out _ _ ⟨fun zj => if zj = 24 then true else if zj = 22 then true else if zj = 25 then true else zB zj, fun zd => if zd = 39 then .pointer (some ⟨Xa, 5, none⟩) else if zd = 37 then .bool (!bq) else zS zd, (!bq), by simp [hb22, hb24], by kernel_rfl, ⟨hF.1, hF.2.1, hF.2.2.1, hF.2.2.2.1, hF.2.2.2.2.1, hF.2.2.2.2.2.1, hF.2.2.2.2.2.2.1, hF.2.2.2.2.2.2.2.1, hF.2.2.2.2.2.2.2.2.1, hF.2.2.2.2.2.2.2.2.2.1, hF.2.2.2.2.2.2.2.2.2.2.1, hF.2.2.2.2.2.2.2.2.2.2.2.1, hF.2.2.2.2.2.2.2.2.2.2.2.2.1, hF.2.2.2.2.2.2.2.2.2.2.2.2.2.1, hF.2.2.2.2.2.2.2.2.2.2.2.2.2.2.1, hF.2.2.2.2.2.2.2.2.2.2.2.2.2.2.2.1, hF.2.2.2.2.2.2.2.2.2.2.2.2.2.2.2.2.1, hF.2.2.2.2.2.2.2.2.2.2.2.2.2.2.2.2.2.1, hF.2.2.2.2.2.2.2.2.2.2.2.2.2.2.2.2.2.2.1, hF.2.2.2.2.2.2.2.2.2.2.2.2.2.2.2.2.2.2.2.1, hF.2.2.2.2.2.2.2.2.2.2.2.2.2.2.2.2.2.2.2.2.1, hF.2.2.2.2.2.2.2.2.2.2.2.2.2.2.2.2.2.2.2.2.2.1, fun _ => rfl, hF.2.2.2.2.2.2.2.2.2.2.2.2.2.2.2.2.2.2.2.2.2.2.2.1, fun _ => rfl⟩, ⟨hW.1.trans (Only.set _ _ _ _), (by rw [heap_set_self hcl.out]; rfl), fun e => tf e, fun _ => ⟨h4.out, rfl⟩, fun _ => h4.out, fun _ => h4.out⟩⟩
     exact StepsI.nil (by kernel_rfl)
    ·rintro L zA v9 ⟨zB, zS, mq, rfl, rfl, hF, hW⟩ hr
     have hu := all_up (by kernel_rfl) (N := 26) (by kernel_rfl) hr
     have hb0 : zB 0 = true := by simpa using hu 0 (by decide)
     have hb1 : zB 1 = true := by simpa using hu 1 (by decide)
     have hb2 : zB 2 = true := by simpa using hu 2 (by decide)
     have hb3 : zB 3 = true := by simpa using hu 3 (by decide)
     have hb4 : zB 4 = true := by simpa using hu 4 (by decide)
     have hb5 : zB 5 = true := by simpa using hu 5 (by decide)
     have hb6 : zB 6 = true := by simpa using hu 6 (by decide)
     have hb7 : zB 7 = true := by simpa using hu 7 (by decide)
     have hb8 : zB 8 = true := by simpa using hu 8 (by decide)
     have hb9 : zB 9 = true := by simpa using hu 9 (by decide)
     have hb10 : zB 10 = true := by simpa using hu 10 (by decide)
     have hb11 : zB 11 = true := by simpa using hu 11 (by decide)
     have hb12 : zB 12 = true := by simpa using hu 12 (by decide)
     have hb13 : zB 13 = true := by simpa using hu 13 (by decide)
     have hb14 : zB 14 = true := by simpa using hu 14 (by decide)
     have hb15 : zB 15 = true := by simpa using hu 15 (by decide)
     have hb16 : zB 16 = true := by simpa using hu 16 (by decide)
     have hb17 : zB 17 = true := by simpa using hu 17 (by decide)
     have hb18 : zB 18 = true := by simpa using hu 18 (by decide)
     have hb19 : zB 19 = true := by simpa using hu 19 (by decide)
     have hb20 : zB 20 = true := by simpa using hu 20 (by decide)
     have hb21 : zB 21 = true := by simpa using hu 21 (by decide)
     have hb22 : zB 22 = true := by simpa using hu 22 (by decide)
     have hb23 : zB 23 = true := by simpa using hu 23 (by decide)
     have hb24 : zB 24 = true := by simpa using hu 24 (by decide)
     have hb25 : zB 25 = true := by simpa using hu 25 (by decide)
     have e0 : zS 15 = .pointer (some ⟨Xa, 0, none⟩) := hF.1 hb0
     have e1 : zS 16 = .pointer (some ⟨Xa, 0, none⟩) := hF.2.1 hb1
     have e2 : zS 17 = .pointer (some ⟨Xa, 0, none⟩) := hF.2.2.1 hb2
     have e3 : zS 18 = .pointer (some ⟨Xa, 5, none⟩) := hF.2.2.2.1 hb3
     have e4 : zS 19 = .bool true := hF.2.2.2.2.1 hb4
     have e5 : zS 20 = .bool true := hF.2.2.2.2.2.1 hb5
     have e6 : zS 21 = .agg (Q.dA n G) := hF.2.2.2.2.2.2.1 hb6
     have e7 : zS 22 = .pointer (some ⟨Xa, 0, none⟩) := hF.2.2.2.2.2.2.2.1 hb7
     have e8 : zS 23 = .pointer (some ⟨Xa, 0, none⟩) := hF.2.2.2.2.2.2.2.2.1 hb8
     have e9 : zS 24 = .pointer (some ⟨Xa, 0, none⟩) := hF.2.2.2.2.2.2.2.2.2.1 hb9
     have e10 : zS 25 = .pointer (some ⟨Xa, 0, none⟩) := hF.2.2.2.2.2.2.2.2.2.2.1 hb10
     have e11 : zS 26 = .slice ao l.length cap := hF.2.2.2.2.2.2.2.2.2.2.2.1 hb11
     have e12 : zS 27 = .pointer (some ⟨Xa, 0, none⟩) := hF.2.2.2.2.2.2.2.2.2.2.2.2.1 hb12
     have e13 : zS 28 = .pointer (some ⟨Xa, 0, none⟩) := hF.2.2.2.2.2.2.2.2.2.2.2.2.2.1 hb13
     have e14 : zS 29 = .pointer (some ⟨Xa, 6, none⟩) := hF.2.2.2.2.2.2.2.2.2.2.2.2.2.2.1 hb14
     have e15 : zS 30 = .pointer (some ⟨Xn, 0, none⟩) := hF.2.2.2.2.2.2.2.2.2.2.2.2.2.2.2.1 hb15
     have e16 : zS 31 = .pointer (some ⟨Xn, 0, none⟩) := hF.2.2.2.2.2.2.2.2.2.2.2.2.2.2.2.2.1 hb16
     have e17 : zS 32 = .pointer (some ⟨Xn, 0, none⟩) := hF.2.2.2.2.2.2.2.2.2.2.2.2.2.2.2.2.2.1 hb17
     have e18 : zS 33 = .pointer (some ⟨Xn, 0, none⟩) := hF.2.2.2.2.2.2.2.2.2.2.2.2.2.2.2.2.2.2.1 hb18
     have e19 : zS 34 = .slice an ln.length cn := hF.2.2.2.2.2.2.2.2.2.2.2.2.2.2.2.2.2.2.2.1 hb19
     have e20 : zS 35 = .bool bq := hF.2.2.2.2.2.2.2.2.2.2.2.2.2.2.2.2.2.2.2.2.1 hb20
     have e21 : zS 36 = .bool (!bq) := hF.2.2.2.2.2.2.2.2.2.2.2.2.2.2.2.2.2.2.2.2.2.1 hb21
     have e22 : zS 37 = .bool (!bq) := hF.2.2.2.2.2.2.2.2.2.2.2.2.2.2.2.2.2.2.2.2.2.2.1 hb22
     have e23 : zS 38 = .pointer (some ⟨Xa, 0, none⟩) := hF.2.2.2.2.2.2.2.2.2.2.2.2.2.2.2.2.2.2.2.2.2.2.2.1 hb23
     have e24 : zS 39 = .pointer (some ⟨Xa, 5, none⟩) := hF.2.2.2.2.2.2.2.2.2.2.2.2.2.2.2.2.2.2.2.2.2.2.2.2 hb24
     rw [hb4] at hW
     rw [hb5] at hW
     rw [hb22] at hW
     rw [hb25] at hW
     clear hu hr hF
     simp only [pE]
     simp only [e0, e1, e2, e3, e4, e5, e6, e7, e8, e9, e10, e11, e12, e13, e14, e15, e16, e17, e18, e19, e20, e21, e22, e23, e24]
     clear e0 e1 e2 e3 e4 e5 e6 e7 e8 e9 e10 e11 e12 e13 e14 e15 e16 e17 e18 e19 e20 e21 e22 e23 e24
     clear hb0 hb1 hb2 hb3 hb4 hb5 hb6 hb7 hb8 hb9 hb10 hb11 hb12 hb13 hb14 hb15 hb16 hb17 hb18 hb19 hb20 hb21 hb22 hb23 hb24 hb25
     clear zB zS
     have hO := mkHid hW.1
     have hH := hW.2.1
     rw [(hW.2.2.2.1 (by first | rfl | trivial)).2] at hH
     have HH := mkHid hH
     obtain ⟨_, _, _, _, _, _, c6, _, _, _, _, _, _, _⟩ := cel_of hH
     clear hW hH hat hatn hcn hqd
     go_wp2
     go_roundg R.length
     case measure => omega
     case rel => exact ⟨P1 ++ [(Xa, ⟨ka.b, ka.v, (!bq)⟩)], Xn, kn, R, rfl, Nat.le_refl _, HEND.out _ _ hO.out HH.out (by have h := HEQ.out; rw [List.map_cons, HFN.out bq HBQ.out] at h; simpa using h)⟩
end Go.Proofs.YtihpajiololfoaaGreat
