/-
  CONTRACT of siteOf: whether a site and its terms may be worked with.
  CONTRACTS of the specification's l13Facts and l13Sym.
  CONTRACTS of site.last, the two searches and site.span.
  CONTRACTS of site.searches and site.span.
  CONTRACTS of both SegSpans.
  CONTRACTS of both SegReads.
  PURE: cells that are written weakly. ROWS OF CELLS WRITTEN IN PLACE.
-/
import Derived.Test.YtihpajiololfoaaGreatSh26
import Derived.Test.YtihpajiololfoaaGreatSh10
import Derived.Test.YtihpajiololfoaaGreatSh27
import Derived.Test.YtihpajiololfoaaGreatSh00
import Derived.Test.YtihpajiololfoaaGreatSh20
import Derived.Deep.Cut
import Derived.Test.YtihpajiololfoaaGreatSh14
import Derived.Laws.OwnMore
namespace Go.Proofs.YtihpajiololfoaaGreat
open Go.RowKit

/-- The closed table of facts, or none. -/
def cF (z : Int) (l : List Int) : Option Q.Tab := (Q.okO z l).bind (Q.cloO z.toNat)
theorem cF_fine (z : Int) (l : List Int) : Q.FineO z.toNat (cF z l) := Q.clo_fineO (Q.okO_fine z l)
theorem cF_okz {z : Int} {l : List Int} {f : Q.Tab} (h : cF z l = some f) : Q.okF z l = true := by
 unfold cF at h
 cases hk : Q.okF z l
 ·rw [Q.okO_no hk] at h; cases h
 ·rfl
theorem cF_size {z : Int} {l : List Int} {f : Q.Tab} (h : cF z l = some f) : ∃ n : Nat, z = n ∧ 1 ≤ n ∧ n ≤ 13 := by
 obtain ⟨n, q0, q1, q2, _⟩ := Q.ok_of (cF_okz h)
 exact ⟨n, q0, q1, q2⟩
/-- What is known has this size, and is of something. -/
def FS (z : Int) (l : List Int) (size : Int) : Prop := ∃ f, cF z l = some f ∧ z = size
theorem wide_iff {n : Nat} {x : Y} : (Q.symB x.1 n && Q.offB x.2) = true ↔ Wd n x := by
 unfold Q.symB Q.offB Q.btw Wd
 simp
theorem D_size (n : Nat) (o : Option Q.Tab) : ∃ (m : Int) (G : List Int), Q.D n o = Q.dA m G ∧ G.length = 169 ∧ (m = if o.isSome then (n : Int) else 0) ∧ (∀ f, o = some f → G = Q.grid n f) := by
 cases o with
 | none => exact ⟨0, Q.zs, rfl, Q.zs_len, rfl, fun f e => by cases e⟩
 | some f => exact ⟨n, Q.grid n f, rfl, Q.grid_len n f, rfl, fun g e => by cases e; rfl⟩
theorem got_some {m z size lv : Int} {l : List Int} (hm : m = if (cF z l).isSome then (z.toNat : Int) else 0) (h : m = size) (hl : lenP size lv) : ∃ f, cF z l = some f := by
 cases hc : cF z l with
 | none => exfalso; rw [hc] at hm; unfold lenP at hl; simp at hm; omega
 | some f => exact ⟨f, rfl⟩
theorem res41 {tm : Array Value} {w : World} {b : Nat} {z lv : Int} {A : SAd} {S : SG} {n : Int} {G : List Int} {v : Bool} (hD : St w b z lv A S n G) (h10 : tm[10]?.getD undef = .pointer (some ⟨b, 0, none⟩)) (h11 : tm[11]?.getD undef = .bool v) :
  (results Tryz.f41 tm).run Tryz.prog w = .ok (.tuple #[.agg (sA z lv A S n G), .bool v]) w := by
 simp [results, Tryz.results41, h10, h11, asAddr, hD.loadVar]
set_option maxRecDepth 100000 in
set_option maxHeartbeats 12800000 in
theorem siteOf_any (size lv : Int) (S : SG) (A : SAd) (z : Int) (l : List Int) (a : Option Addr) (c : Nat) (Ts : List Y) (aT : Option Addr) (cT : Nat) (w : World) (hs : Small S) (hS : SegAt w A S) (hlc : l.length ≤ c) (hl : Q.IntsAt w a l) (hTl : Ts.length ≤ 1048576) (hT : At eY w aT Ts) :
  Calls Tryz.prog 41 #[.int .i64 size, .int .i64 lv, .agg #[.slice A.a0 S.B.length A.c0, .slice A.a1 S.V.length A.c1, .slice A.a2 S.M.length A.c2], .agg #[.int .i64 z, .slice a l.length c], .slice aT Ts.length cT] w fun e w' => Below w.heap.size w w' ∧
   ((∃ (n : Nat) (f : Q.Tab), size = n ∧ z = n ∧ cF z l = some f ∧ OkS size lv S.B S.V S.M ∧ (∀ x, x ∈ Ts → Wd n x) ∧ e = .returned (.tuple #[.agg (sA size lv A S n (Q.grid n f)), .bool true])) ∨
    (¬ (OkS size lv S.B S.V S.M ∧ FS z l size ∧ ∀ x, x ∈ Ts → Wd size.toNat x) ∧ e = .returned (.tuple #[.agg (sA 0 0 zAd zSG 0 Q.zs), .bool false]))) := by
 obtain ⟨m, G, hD, hGL, hm, hGf⟩ := D_size z.toNat (cF z l)
 have HDO : Hid (∀ v, Q.IntsAt v a l → Calls Tryz.prog 86 #[.agg #[.int .i64 z, .slice a l.length c]] v fun e w' => e = .returned (.agg (Q.D z.toNat (Q.okO z l))) ∧ Below v.heap.size v w') := mkHid fun v hv => Q.diffsD z l a c v hlc hv
 have HCL : Hid (∀ v, Calls Tryz.prog 87 #[.agg (Q.D z.toNat (Q.okO z l))] v fun e w' => e = .returned (.agg (Q.dA m G)) ∧ Below v.heap.size v w') := mkHid fun v => by rw [← hD]; exact Q.closedD z.toNat _ (Q.okO_fine z l).good v
 obtain ⟨DO, hDO⟩ : ∃ q, Q.D z.toNat (Q.okO z l) = q := ⟨_, rfl⟩
 rw [hDO] at HDO HCL
 have HOK : Hid (∀ v, SegAt v A S → Calls Tryz.prog 71 #[.int .i64 size, .int .i64 lv, .agg #[.slice A.a0 S.B.length A.c0, .slice A.a1 S.V.length A.c1, .slice A.a2 S.M.length A.c2]] v fun e w' => Tells v w' e (OkS size lv S.B S.V S.M)) := mkHid fun v hv => iSegOk_any size lv S A v hs hv
 obtain ⟨w0, hw0⟩ : ∃ q, ((w.alloc (.cells #[.slice A.a0 S.B.length A.c0, .slice A.a1 S.V.length A.c1, .slice A.a2 S.M.length A.c2] 35)).alloc (.cells #[.int .i64 z, .slice a l.length c] 38)).alloc (.cells Tryz.zeroCells82 82) = q := ⟨_, rfl⟩
 obtain ⟨X, hX⟩ : ∃ q, w.heap.size = q := ⟨_, rfl⟩
 have B0 : Hid (Below w.heap.size w w0) := mkHid (by rw [← hw0]; exact bl_alloc (bl_alloc (bl_alloc (Below.refl _ _) _) _) _)
 have G0 : Hid (G3 w0 X (.slice A.a0 S.B.length A.c0) (.slice A.a1 S.V.length A.c1) (.slice A.a2 S.M.length A.c2)) := mkHid (by rw [← hw0, ← hX]; exact (G3.new w _ _ _ 35).below (bl_alloc (bl_alloc (Below.refl _ _) _) _))
 have T0 : Hid (Q.Fc w0 (X + 1) z a l.length c) := mkHid (by rw [← hw0, ← hX]; have := (Q.Fc.new (w.alloc (.cells #[.slice A.a0 S.B.length A.c0, .slice A.a1 S.V.length A.c1, .slice A.a2 S.M.length A.c2] 35)) z a l.length c 38).below (bl_alloc (Below.refl _ _) (.cells Tryz.zeroCells82 82)); simpa using this)
 have Z0 : Hid (St w0 (X + 2) 0 0 zAd zSG 0 Q.zs) := mkHid (by rw [← hw0, ← hX]; have := St.newz ((w.alloc (.cells #[.slice A.a0 S.B.length A.c0, .slice A.a1 S.V.length A.c1, .slice A.a2 S.M.length A.c2] 35)).alloc (.cells #[.int .i64 z, .slice a l.length c] 38)); simpa using this)
 have HL := mkHid (hl.below B0.out)
 have HS := mkHid (hS.below B0.out)
 have HT := mkHid (hT.below B0.out)
 have HMM := mkHid hm
 have HGF := mkHid hGf
 have HGL := mkHid hGL
 have hXB : Hid (w.heap.size ≤ X + 2) := mkHid (by omega)
 have hg9 : ∀ v', Below w0.heap.size w0 v' → G3 v' X (.slice A.a0 S.B.length A.c0) (.slice A.a1 S.V.length A.c1) (.slice A.a2 S.M.length A.c2) := fun v' h => G0.out.below h
 have ht9 : ∀ v', Below w0.heap.size w0 v' → Q.Fc v' (X + 1) z a l.length c := fun v' h => T0.out.below h
 clear hl hS hT hs hlc hD hDO hm hGf hGL
 go_enter Tryz.func41, Tryz.ntmps41
 go_wp2_with fail
 first | rw [hw0] | skip
 first | rw [hX] | skip
 clear hw0 hX
 refine wp_region_inv2 (fun zA0 L zA v9 => ∃ (zB : Nat → Bool) (zS : Nat → Value) (q0 : Nat), L = #[zB 0, zB 1, zB 2, zB 3, zB 4, zB 5, zB 6, zB 7, zB 8] ∧ zA = puts zA0 [(15, zS 15), (16, zS 16), (17, zS 17), (18, zS 18), (19, zS 19), (20, zS 20), (21, zS 21), (12, zS 12)] ∧ ((zB 0 = true → zS 15 = .int .i64 size) ∧ (zB 1 = true → zS 16 = .int .i64 lv) ∧ (zB 2 = true → zS 17 = .agg #[.slice A.a0 S.B.length A.c0, .slice A.a1 S.V.length A.c1, .slice A.a2 S.M.length A.c2]) ∧ (zB 3 = true → zS 18 = .agg #[.int .i64 z, .slice a l.length c]) ∧ (zB 4 = true → zS 19 = .agg DO) ∧ (zB 5 = true → zS 20 = .agg (Q.dA m G)) ∧ (zB 6 = true → zS 21 = .agg (sA size lv A S m G)) ∧ (zB 7 = true → zS 12 = .pointer (some ⟨q0, 0, none⟩))) ∧ Below w0.heap.size w0 v9 ∧ ((zB 7) = true → (zB 8) = false → St v9 q0 0 0 zAd zSG 0 Q.zs ∧ w0.heap.size ≤ q0) ∧ ((zB 8) = true → (zB 7) = true ∧ St v9 q0 size lv A S m G ∧ w0.heap.size ≤ q0)) (by kernel_rfl) ?_ ?_ ?_
 ·exact ⟨fun _ => false, fun _ => undef, 0, rfl, by kernel_rfl, ⟨fun e => ft e, fun e => ft e, fun e => ft e, fun e => ft e, fun e => ft e, fun e => ft e, fun e => ft e, fun e => ft e⟩, ⟨(Below.refl _ _).drew, fun e => ft e, fun e => ft e⟩⟩
 ·refine StepsI.cons rfl ?_ ?_
  ·rintro L zA v9 ⟨zB, zS, q0, rfl, rfl, hF, hW⟩ hL hm K hK
   have hb0 : zB 0 = false := by simpa using hL
   clear hL hm
   simp only [pE]
   go_simp
   exact hK.out _ _ ⟨fun zj => if zj = 0 then true else zB zj, fun zd => if zd = 15 then .int .i64 size else zS zd, q0, rfl, by kernel_rfl, ⟨fun _ => rfl, hF.2.1, hF.2.2.1, hF.2.2.2.1, hF.2.2.2.2.1, hF.2.2.2.2.2.1, hF.2.2.2.2.2.2.1, hF.2.2.2.2.2.2.2⟩, hW⟩
  refine StepsI.cons rfl ?_ ?_
  ·rintro L zA v9 ⟨zB, zS, q0, rfl, rfl, hF, hW⟩ hL hm K hK
   have hb1 : zB 1 = false := by simpa using hL
   clear hL hm
   simp only [pE]
   go_simp
   exact hK.out _ _ ⟨fun zj => if zj = 1 then true else zB zj, fun zd => if zd = 16 then .int .i64 lv else zS zd, q0, rfl, by kernel_rfl, ⟨hF.1, fun _ => rfl, hF.2.2.1, hF.2.2.2.1, hF.2.2.2.2.1, hF.2.2.2.2.2.1, hF.2.2.2.2.2.2.1, hF.2.2.2.2.2.2.2⟩, hW⟩
  refine StepsI.cons rfl ?_ ?_
  ·rintro L zA v9 ⟨zB, zS, q0, rfl, rfl, hF, hW⟩ hL hm K hK
   have hb2 : zB 2 = false := by simpa using hL
   clear hL hm
   simp only [pE]
   obtain ⟨k0, k1, k2, _, _, _⟩ := hg9 _ hW.1
   go_simp
   exact hK.out _ _ ⟨fun zj => if zj = 2 then true else zB zj, fun zd => if zd = 17 then .agg #[.slice A.a0 S.B.length A.c0, .slice A.a1 S.V.length A.c1, .slice A.a2 S.M.length A.c2] else zS zd, q0, rfl, by kernel_rfl, ⟨hF.1, hF.2.1, fun _ => rfl, hF.2.2.2.1, hF.2.2.2.2.1, hF.2.2.2.2.2.1, hF.2.2.2.2.2.2.1, hF.2.2.2.2.2.2.2⟩, hW⟩
  refine StepsI.cons rfl ?_ ?_
  ·rintro L zA v9 ⟨zB, zS, q0, rfl, rfl, hF, hW⟩ hL hm K hK
   have hb3 : zB 3 = false := by simpa using hL
   clear hL hm
   simp only [pE]
   obtain ⟨k0, k1⟩ := ht9 _ hW.1
   go_simp
   exact hK.out _ _ ⟨fun zj => if zj = 3 then true else zB zj, fun zd => if zd = 18 then .agg #[.int .i64 z, .slice a l.length c] else zS zd, q0, rfl, by kernel_rfl, ⟨hF.1, hF.2.1, hF.2.2.1, fun _ => rfl, hF.2.2.2.2.1, hF.2.2.2.2.2.1, hF.2.2.2.2.2.2.1, hF.2.2.2.2.2.2.2⟩, hW⟩
  refine StepsI.cons rfl ?_ ?_
  ·rintro L zA v9 ⟨zB, zS, q0, rfl, rfl, hF, hW⟩ hL hm K hK
   have hb4 : zB 4 = false := by simpa using hL
   have hb3 : zB 3 = true := mt 3 hm (by kernel_rfl)
   have e3 : zS 18 = .agg #[.int .i64 z, .slice a l.length c] := hF.2.2.2.1 hb3
   clear hL hm
   simp only [pE]
   simp only [e3]
   go_simp
   refine (HDO.out _ (HL.out.below hW.1)).mono ?_
   rintro e v92 ⟨rfl, hb⟩
   go_wp2_with fail
   exact hK.out _ _ ⟨fun zj => if zj = 3 then true else if zj = 4 then true else zB zj, fun zd => if zd = 19 then .agg DO else if zd = 18 then .agg #[.int .i64 z, .slice a l.length c] else zS zd, q0, by simp [hb3], by kernel_rfl, ⟨hF.1, hF.2.1, hF.2.2.1, fun _ => rfl, fun _ => rfl, hF.2.2.2.2.2.1, hF.2.2.2.2.2.2.1, hF.2.2.2.2.2.2.2⟩, ⟨below_step hW.1 hb, fun q r => ⟨(hW.2.1 q r).1.below hb, (hW.2.1 q r).2⟩, fun q => ⟨(hW.2.2 q).1, (hW.2.2 q).2.1.below hb, (hW.2.2 q).2.2⟩⟩⟩
  refine StepsI.cons rfl ?_ ?_
  ·rintro L zA v9 ⟨zB, zS, q0, rfl, rfl, hF, hW⟩ hL hm K hK
   have hb5 : zB 5 = false := by simpa using hL
   have hb4 : zB 4 = true := mt 4 hm (by kernel_rfl)
   have e4 : zS 19 = .agg DO := hF.2.2.2.2.1 hb4
   clear hL hm
   simp only [pE]
   simp only [e4]
   go_simp
   refine (HCL.out _).mono ?_
   rintro e v92 ⟨rfl, hb⟩
   go_wp2_with fail
   exact hK.out _ _ ⟨fun zj => if zj = 4 then true else if zj = 5 then true else zB zj, fun zd => if zd = 20 then .agg (Q.dA m G) else if zd = 19 then .agg DO else zS zd, q0, by simp [hb4], by kernel_rfl, ⟨hF.1, hF.2.1, hF.2.2.1, hF.2.2.2.1, fun _ => rfl, fun _ => rfl, hF.2.2.2.2.2.2.1, hF.2.2.2.2.2.2.2⟩, ⟨below_step hW.1 hb, fun q r => ⟨(hW.2.1 q r).1.below hb, (hW.2.1 q r).2⟩, fun q => ⟨(hW.2.2 q).1, (hW.2.2 q).2.1.below hb, (hW.2.2 q).2.2⟩⟩⟩
  refine StepsI.cons rfl ?_ ?_
  ·rintro L zA v9 ⟨zB, zS, q0, rfl, rfl, hF, hW⟩ hL hm K hK
   have hb6 : zB 6 = false := by simpa using hL
   have hb0 : zB 0 = true := mt 0 hm (by kernel_rfl)
   have hb1 : zB 1 = true := mt 1 hm (by kernel_rfl)
   have hb2 : zB 2 = true := mt 2 hm (by kernel_rfl)
   have hb5 : zB 5 = true := mt 5 hm (by kernel_rfl)
   have e0 : zS 15 = .int .i64 size := hF.1 hb0
   have e1 : zS 16 = .int .i64 lv := hF.2.1 hb1
   have e2 : zS 17 = .agg #[.slice A.a0 S.B.length A.c0, .slice A.a1 S.V.length A.c1, .slice A.a2 S.M.length A.c2] := hF.2.2.1 hb2
   have e5 : zS 20 = .agg (Q.dA m G) := hF.2.2.2.2.2.1 hb5
   clear hL hm
   simp only [pE]
   simp only [e0, e1, e2, e5]
   refine wpo_build82 (A := A) (S := S) HGL.out rfl rfl rfl rfl rfl ?_
   exact hK.out _ _ ⟨fun zj => if zj = 5 then true else if zj = 2 then true else if zj = 1 then true else if zj = 0 then true else if zj = 6 then true else zB zj, fun zd => if zd = 21 then .agg (sA size lv A S m G) else if zd = 20 then .agg (Q.dA m G) else if zd = 17 then .agg #[.slice A.a0 S.B.length A.c0, .slice A.a1 S.V.length A.c1, .slice A.a2 S.M.length A.c2] else if zd = 16 then .int .i64 lv else if zd = 15 then .int .i64 size else zS zd, q0, by simp [hb0, hb1, hb2, hb5], by kernel_rfl, ⟨fun _ => rfl, fun _ => rfl, fun _ => rfl, hF.2.2.2.1, hF.2.2.2.2.1, fun _ => rfl, fun _ => rfl, hF.2.2.2.2.2.2.2⟩, hW⟩
  refine StepsI.cons rfl ?_ ?_
  ·rintro L zA v9 ⟨zB, zS, q0, rfl, rfl, hF, hW⟩ hL hm K hK
   have hb7 : zB 7 = false := by simpa using hL
   clear hL hm
   rw [hb7] at hW
   simp only [pE]
   go_simp
   exact hK.out _ _ ⟨fun zj => if zj = 7 then true else zB zj, fun zd => if zd = 12 then .pointer (some ⟨v9.heap.size, 0, none⟩) else zS zd, v9.heap.size, rfl, by kernel_rfl, ⟨hF.1, hF.2.1, hF.2.2.1, hF.2.2.2.1, hF.2.2.2.2.1, hF.2.2.2.2.2.1, hF.2.2.2.2.2.2.1, fun _ => rfl⟩, ⟨bl_alloc hW.1 _, fun _ _ => ⟨St.newz v9, hW.1.size⟩, fun e => ft (hW.2.2 e).1⟩⟩
  refine StepsI.cons rfl ?_ ?_
  ·rintro L zA v9 ⟨zB, zS, q0, rfl, rfl, hF, hW⟩ hL hm K hK
   have hb8 : zB 8 = false := by simpa using hL
   have hb6 : zB 6 = true := mt 6 hm (by kernel_rfl)
   have hb7 : zB 7 = true := mt 7 hm (by kernel_rfl)
   have e6 : zS 21 = .agg (sA size lv A S m G) := hF.2.2.2.2.2.2.1 hb6
   have e7 : zS 12 = .pointer (some ⟨q0, 0, none⟩) := hF.2.2.2.2.2.2.2 hb7
   clear hL hm
   rw [hb8] at hW
   rw [hb7] at hW
   simp only [pE]
   simp only [e6, e7]
   refine wpo_store82 (hW.2.1 rfl rfl).1 HGL.out rfl rfl rfl ?_
   intro w2 hD2 hg2
   exact hK.out _ _ ⟨fun zj => if zj = 7 then true else if zj = 6 then true else if zj = 8 then true else zB zj, fun zd => if zd = 12 then .pointer (some ⟨q0, 0, none⟩) else if zd = 21 then .agg (sA size lv A S m G) else zS zd, q0, by simp [hb6, hb7], by kernel_rfl, ⟨hF.1, hF.2.1, hF.2.2.1, hF.2.2.2.1, hF.2.2.2.2.1, hF.2.2.2.2.2.1, fun _ => rfl, fun _ => rfl⟩, ⟨hW.1.grown hg2 hW.1.size (fun q hq => by cases hq; exact (hW.2.1 rfl rfl).2), fun _ e => tf e, fun _ => ⟨rfl, hD2, (hW.2.1 rfl rfl).2⟩⟩⟩
  exact StepsI.nil (by kernel_rfl)
 ·rintro L zA v9 ⟨zB, zS, q0, rfl, rfl, hF, hW⟩ hr
  have hu := all_up (by kernel_rfl) (N := 9) (by kernel_rfl) hr
  have hb0 : zB 0 = true := by simpa using hu 0 (by decide)
  have hb1 : zB 1 = true := by simpa using hu 1 (by decide)
  have hb2 : zB 2 = true := by simpa using hu 2 (by decide)
  have hb3 : zB 3 = true := by simpa using hu 3 (by decide)
  have hb4 : zB 4 = true := by simpa using hu 4 (by decide)
  have hb5 : zB 5 = true := by simpa using hu 5 (by decide)
  have hb6 : zB 6 = true := by simpa using hu 6 (by decide)
  have hb7 : zB 7 = true := by simpa using hu 7 (by decide)
  have hb8 : zB 8 = true := by simpa using hu 8 (by decide)
  have e0 : zS 15 = .int .i64 size := hF.1 hb0
  have e1 : zS 16 = .int .i64 lv := hF.2.1 hb1
  have e2 : zS 17 = .agg #[.slice A.a0 S.B.length A.c0, .slice A.a1 S.V.length A.c1, .slice A.a2 S.M.length A.c2] := hF.2.2.1 hb2
  have e3 : zS 18 = .agg #[.int .i64 z, .slice a l.length c] := hF.2.2.2.1 hb3
  have e4 : zS 19 = .agg DO := hF.2.2.2.2.1 hb4
  have e5 : zS 20 = .agg (Q.dA m G) := hF.2.2.2.2.2.1 hb5
  have e6 : zS 21 = .agg (sA size lv A S m G) := hF.2.2.2.2.2.2.1 hb6
  have e7 : zS 12 = .pointer (some ⟨q0, 0, none⟩) := hF.2.2.2.2.2.2.2 hb7
  rw [hb7] at hW
  rw [hb8] at hW
  clear hu hr hF
  simp only [pE]
  simp only [e0, e1, e2, e3, e4, e5, e6, e7]
  clear e0 e1 e2 e3 e4 e5 e6 e7
  clear hb0 hb1 hb2 hb3 hb4 hb5 hb6 hb7 hb8
  clear zB zS
  have D1 := mkHid (hW.2.2 (by first | rfl | trivial)).2.1
  have hq0 := (hW.2.2 (by first | rfl | trivial)).2.2
  have B1 := mkHid (below_step B0.out hW.1)
  have HB1 := mkHid hW.1
  have S1 := mkHid (HS.out.below hW.1)
  have T1 := mkHid (HT.out.below hW.1)
  have Z1 := mkHid (Z0.out.below hW.1)
  have hzl := Z0.out.lt
  obtain ⟨k0, k1, k2, _, _, _⟩ := hg9 _ hW.1
  clear hW hg9 ht9 Z0 HS HT T0 G0
  go_wp2_with fail
  refine (HOK.out _ S1.out).mono ?_
  rintro e w2 ⟨hb2, r, rfl, hr⟩
  have D2 := mkHid (D1.out.below hb2)
  have B2 := mkHid (below_step B1.out hb2)
  have T2 := mkHid (T1.out.below hb2)
  have Z2 := mkHid (Z1.out.below hb2)
  have HRR := mkHid hr
  clear hb2 D1 B1 T1 Z1 S1 k0 k1 k2 hr
  cases r
  ·go_wp2_with (first | (refine wp_build82z rfl rfl ?_) | (refine wp_store82 Z2.out Q.zs_len rfl rfl rfl rfl ?_; intro w9 hD9 hg9))
   exact bodyPost_ret (res41 hD9 rfl rfl) rfl ⟨B2.out.grown hg9 B2.out.size (fun q hq => by cases hq; exact hXB.out), .inr ⟨fun h => absurd (HRR.out.2 h.1) (by decide), rfl⟩⟩
  ·have c5 := D2.out.c5
   have hok := HRR.out.1 rfl
   by_cases hms : m = size
   ·have hsz : (m != size) = false := by simpa using hms
    have HOKS := mkHid hok
    obtain ⟨f, hf⟩ := got_some HMM.out hms hok.len
    obtain ⟨n, hzn, hn1, hn2⟩ := cF_size hf
    have hmn : m = n := by rw [HMM.out, hf, hzn]; simp
    have hGG := HGF.out f hf
    rw [hzn, Int.toNat_natCast] at hGG
    have HSZ := mkHid (hms.symm.trans hmn)
    have HZN := mkHid hzn
    have HF := mkHid hf
    have HGG := mkHid hGG
    have HMN := mkHid hmn
    clear hok hms hf hzn hGG hmn
    go_wp2_with fail
    clear c5 hsz
    go_loopg [37, 14] Ts.length (fun g s37 s14 wr => ∃ (k : Nat), k ≤ Ts.length ∧ s37 = .int .i64 k ∧ Ts.length - k ≤ g ∧ (∀ x, x ∈ Ts.take k → Wd n x) ∧ Below w2.heap.size w2 wr)
    case atStart => exact ⟨0, Nat.zero_le _, rfl, by omega, fun x hx => by simp at hx, Below.refl _ _⟩
    case round =>
     obtain ⟨k, hk, rfl, hgk, hall, hbel⟩ := hrel
     have HA := mkHid hall
     have HB3 := mkHid hbel
     clear hall
     by_cases hlt : k < Ts.length
     ·obtain ⟨x, hx⟩ : ∃ x, Ts[k]? = some x := ⟨_, List.getElem?_eq_getElem hlt⟩
      obtain ⟨b, off, rfl, _, hq⟩ := (T2.out.below hbel).cons (by omega)
      obtain ⟨k0, k1⟩ := get_y hq hx
      have HX := mkHid hx
      have i0 : (0 : Int) ≤ (k : Int) := by omega
      have i1 : (k : Int) < (Ts.length : Int) := by omega
      clear hq hbel hx
      have HWI : Hid (∀ v, Calls Tryz.prog 88 #[.int .i64 size, .agg #[.int .i64 x.1, .int .i64 x.2]] v fun e w' => e = .returned (.bool (Q.symB x.1 n && Q.offB x.2)) ∧ Below v.heap.size v w') := mkHid fun v => by rw [HSZ.out]; exact Q.wide_any n (by omega) x.1 x.2 v
      go_wp2_with fail
      refine (HWI.out _).mono ?_
      rintro e w5 ⟨rfl, hb5⟩
      have HB5 := mkHid (below_step (below_step HB3.out (bl_alloc (Below.refl _ _) _)) hb5)
      clear hb5 k0 k1
      cases he : (Q.symB x.1 n && Q.offB x.2)
      ·have HE : Hid (¬ Wd n x) := mkHid (fun h => by rw [wide_iff.2 h] at he; cases he)
       have Z5 := mkHid (Z2.out.below HB5.out)
       have B5 := mkHid (below_step B2.out HB5.out)
       clear he
       go_wp2_with (first | (refine wp_build82z rfl rfl ?_) | (refine wp_store82 Z5.out Q.zs_len rfl rfl rfl rfl ?_; intro w9 hD9 hg9))
       exact bodyPost_ret (res41 hD9 rfl rfl) rfl ⟨B5.out.grown hg9 B5.out.size (fun q hq => by cases hq; exact hXB.out), .inr ⟨fun h => HE.out (by have := h.2.2 x (List.mem_of_getElem? HX.out); rw [HSZ.out, Int.toNat_natCast] at this; exact this), rfl⟩⟩
      ·have HE : Hid (Wd n x) := mkHid (wide_iff.1 he)
       clear he
       go_wp2
       go_roundg (Ts.length - (k + 1))
       case measure => omega
       case rel => exact ⟨k + 1, by omega, by go_num, Nat.le_refl _, (fun y hy => by rw [List.take_add_one, HX.out] at hy; simp at hy; rcases hy with hy | rfl; exact HA.out y hy; exact HE.out), HB5.out⟩
     ·have e : k = Ts.length := by omega
      subst e
      have hall := HA.out
      rw [List.take_length] at hall
      have HA := mkHid hall
      have D5 := mkHid (D2.out.below hbel)
      have Z5 := mkHid (Z2.out.below hbel)
      have B5 := mkHid (below_step B2.out hbel)
      clear hall hbel
      go_wp2_with (first | (refine wp_load82 D5.out rfl rfl rfl ?_) | (refine wp_store82 Z5.out HGL.out rfl rfl rfl rfl ?_; intro w9 hD9 hg9))
      have hD10 : St w9 (X + 2) size lv A S n (Q.grid n f) := by rw [← HGG.out, ← HMN.out]; exact hD9
      exact bodyPost_ret (res41 hD10 rfl rfl) rfl ⟨B5.out.grown hg9 B5.out.size (fun q hq => by cases hq; exact hXB.out), .inl ⟨n, f, HSZ.out, HZN.out, HF.out, HOKS.out, HA.out, rfl⟩⟩
   ·have hsz : (m != size) = true := by simpa using hms
    have HNM := mkHid hms
    clear hms hok
    go_wp2_with (first | (refine wp_build82z rfl rfl ?_) | (refine wp_store82 Z2.out Q.zs_len rfl rfl rfl rfl ?_; intro w9 hD9 hg9))
    exact bodyPost_ret (res41 hD9 rfl rfl) rfl ⟨B2.out.grown hg9 B2.out.size (fun q hq => by cases hq; exact hXB.out), .inr ⟨fun h => by obtain ⟨f, hf, e⟩ := h.2.1; have h1 := HMM.out; rw [hf] at h1; obtain ⟨n, q1, q2, q3⟩ := cF_size hf; exact HNM.out (by rw [h1, ← e, q1]; simp), rfl⟩⟩
end Go.Proofs.YtihpajiololfoaaGreat
namespace Go.Proofs.YtihpajiololfoaaGreat
open Go.RowKit

def zX (z : Int) (l : List Int) : Int := Q.outZ (cF z l) z.toNat
def lX (z : Int) (l : List Int) : List Int := Q.outL (cF z l) z.toNat
def fsB (z : Int) (l : List Int) (size : Int) : Bool := decide (zX z l = size) && decide (0 < size)
theorem fsB_iff {z : Int} {l : List Int} {size : Int} : fsB z l size = true ↔ FS z l size := by
  unfold fsB zX FS
  rw [Bool.and_eq_true, decide_eq_true_eq, decide_eq_true_eq]
  constructor
  · rintro ⟨h1, h2⟩
    cases hc : cF z l with
    | none => rw [hc] at h1; simp [Q.outZ] at h1; omega
    | some f =>
      obtain ⟨n, q0, q1, q2⟩ := cF_size hc
      rw [hc] at h1
      simp [Q.outZ] at h1
      exact ⟨f, rfl, by omega⟩
  · rintro ⟨f, hf, e⟩
    obtain ⟨n, q0, q1, q2⟩ := cF_size hf
    rw [hf]
    simp [Q.outZ]
    omega
theorem x_some {z : Int} {l : List Int} {n : Nat} {f : Q.Tab} (h : cF z l = some f) (hz : z = n) : zX z l = n ∧ lX z l = Q.mk n f := by
  unfold zX lX
  rw [h, hz, Int.toNat_natCast]
  exact ⟨rfl, rfl⟩
set_option maxRecDepth 100000 in
set_option maxHeartbeats 3200000 in
theorem l13Facts_any (size z : Int) (l : List Int) (a : Option Addr) (c : Nat) (w : World) (hl : Q.IntsAt w a l) :
    Calls Tryz.prog 34 #[.int .i64 size, .agg #[.int .i64 z, .slice a l.length c]] w fun e w' => ∃ ao cap, e = .returned (.tuple #[.agg #[.int .i64 (zX z l), .slice ao (lX z l).length cap], .bool (fsB z l size)]) ∧ Q.IntsAt w' ao (lX z l) ∧ Below w.heap.size w w' := by
  have HC : Hid (∀ v, Q.IntsAt v a l → Calls Tryz.prog 75 #[.agg #[.int .i64 z, .slice a l.length c]] v fun e w' => Q.Gives v w' e (zX z l) (lX z l)) := mkHid fun v h => Q.sClose_any z l a c v h
  obtain ⟨zx, hzx⟩ : ∃ q, zX z l = q := ⟨_, rfl⟩
  obtain ⟨lx, hlx⟩ : ∃ q, lX z l = q := ⟨_, rfl⟩
  have hfs : fsB z l size = (decide (zx = size) && decide (0 < size)) := by unfold fsB; rw [hzx]
  rw [hzx, hlx]
  rw [hzx, hlx] at HC
  obtain ⟨fb, hfb⟩ : ∃ q, fsB z l size = q := ⟨_, rfl⟩
  have HFB : Hid ((decide (zx = size) && decide (0 < size)) = fb) := mkHid (hfs.symm.trans hfb)
  rw [hfb]
  obtain ⟨w0, hw0⟩ : ∃ q, (w.alloc (.cells #[.int .i64 z, .slice a l.length c] 38)).alloc (.cells #[.int .i64 0, .slice none 0 0] 38) = q := ⟨_, rfl⟩
  obtain ⟨X, hX⟩ : ∃ q, w.heap.size = q := ⟨_, rfl⟩
  have B0 : Hid (Below w.heap.size w w0) := mkHid (by rw [← hw0]; exact bl_alloc (bl_alloc (Below.refl _ _) _) _)
  have T0 : Hid (Q.Fc w0 X z a l.length c) := mkHid (by rw [← hw0, ← hX]; exact (Q.Fc.new w z a l.length c 38).below (bl_alloc (Below.refl _ _) _))
  have Z0 : Hid (Q.Fz w0 (X + 1)) := mkHid (by rw [← hw0, ← hX]; have := Q.Fz.new (w.alloc (.cells #[.int .i64 z, .slice a l.length c] 38)); simpa using this)
  have HL := mkHid (hl.below B0.out)
  obtain ⟨t0, t1⟩ := T0.out
  have hwX : Hid (w.heap.size ≤ X + 1) := mkHid (by omega)
  clear hl hfs hzx hlx hfb
  go_enter Tryz.func34, Tryz.ntmps34
  go_wp2_with fail
  first | rw [hw0] | skip
  refine (HC.out _ HL.out).mono ?_
  rintro e w1 ⟨ao, cap, rfl, hO, hb⟩
  have HO := mkHid hO
  have B1 := mkHid (below_step B0.out hb)
  obtain ⟨⟨z0, z1⟩, z2, z3⟩ := Z0.out.below hb
  have hXlt : X + 1 < w0.heap.size := Z0.out.lt
  have HOB : Hid (∀ q, Value.ownBlock (.slice ao lx.length cap) = some q → X + 1 ≠ q) := mkHid (fun q hq => by have := (hO.lt hq).1; omega)
  obtain ⟨P, hP⟩ : ∃ q, w1.heap.size = q := ⟨_, rfl⟩
  obtain ⟨w2, hw2⟩ : ∃ q, w1.alloc (.cells #[.int .i64 zx, .slice ao lx.length cap] 38) = q := ⟨_, rfl⟩
  have A2 : Below w1.heap.size w1 w2 := by rw [← hw2]; exact bl_alloc (Below.refl _ _) _
  have E2 : Hid (Q.Fc w2 P zx ao lx.length cap) := mkHid (by rw [← hw2, ← hP]; exact Q.Fc.new _ _ _ _ _ 38)
  have HO2 := mkHid (hO.below A2)
  have B2 := mkHid (below_step B1.out A2)
  obtain ⟨⟨y0, y1⟩, y2, y3⟩ := (Z0.out.below hb).below A2
  obtain ⟨e0, e1⟩ := E2.out
  have hne : X + 1 ≠ P := by have := hb.size; omega
  have H3 := mkHid (fun (u v : Value) => ((HO2.out.grown (Q.grown_setCell w2 ⟨X + 1, 0, none⟩ u) (fun q hq e => HOB.out q hq (Option.some.inj e))).grown (Q.grown_setCell _ ⟨X + 1, 1, none⟩ v) (fun q hq e => HOB.out q hq (Option.some.inj e))).at)
  have H4 := mkHid (fun (u v : Value) => (B2.out.setCell (p := ⟨X + 1, 0, none⟩) hwX.out u).setCell (p := ⟨X + 1, 1, none⟩) hwX.out v)
  clear hO hb t0 t1 z0 z1 z2 z3 hw0 HO B1 A2 E2 HO2
  by_cases h1 : zx = size
  · by_cases h2 : 0 < size
    · have d1 : (zx == size) = true := by simpa using h1
      have ED : Hid ((decide (zx = size) && decide (0 < size)) = true) := mkHid (by simp [h1, h2])
      clear h1
      go_wp2_with fail
      all_goals (first | rw [hw2] | skip)
      all_goals (first | rw [hP] | skip)
      all_goals clear hw2 hP
      go_wp2
      exact bodyPost_ret (v := .tuple #[.agg #[.int .i64 zx, .slice ao lx.length cap], .bool true]) (by simp [results, Tryz.results34, go_sem, *]) rfl ⟨ao, cap, by rw [← HFB.out, ED.out], H3.out _ _, H4.out _ _⟩
    · have d1 : (zx == size) = true := by simpa using h1
      have ED : Hid ((decide (zx = size) && decide (0 < size)) = false) := mkHid (by simp [h2])
      clear h1
      go_wp2_with fail
      all_goals (first | rw [hw2] | skip)
      all_goals (first | rw [hP] | skip)
      all_goals clear hw2 hP
      go_wp2
      exact bodyPost_ret (v := .tuple #[.agg #[.int .i64 zx, .slice ao lx.length cap], .bool false]) (by simp [results, Tryz.results34, go_sem, *]) rfl ⟨ao, cap, by rw [← HFB.out, ED.out], H3.out _ _, H4.out _ _⟩
  · have d1 : (zx == size) = false := by simpa using h1
    have ED : Hid ((decide (zx = size) && decide (0 < size)) = false) := mkHid (by simp [h1])
    clear h1
    go_wp2_with fail
    all_goals (first | rw [hw2] | skip)
    all_goals (first | rw [hP] | skip)
    all_goals clear hw2 hP
    go_wp2
    exact bodyPost_ret (v := .tuple #[.agg #[.int .i64 zx, .slice ao lx.length cap], .bool false]) (by simp [results, Tryz.results34, go_sem, *]) rfl ⟨ao, cap, by rw [← HFB.out, ED.out], H3.out _ _, H4.out _ _⟩
set_option maxRecDepth 100000 in
set_option maxHeartbeats 1600000 in
theorem l13Sym_any (n : Nat) (hn : n ≤ 1000000) (x : Y) (w : World) : Calls Tryz.prog 57 #[.int .i64 n, .agg #[.int .i64 x.1, .int .i64 x.2]] w fun e w' => e = .returned (.bool (Q.symB x.1 n && Q.offB x.2)) ∧ Below w.heap.size w w' := by
  obtain ⟨v, c⟩ := x
  have B0 := mkHid (bl_alloc (Below.refl w.heap.size w) (.cells #[.int .i64 v, .int .i64 c] 49))
  obtain ⟨k, hk⟩ : ∃ k : Int, (n : Int) - 1 = k := ⟨_, rfl⟩
  have hwk : IntKind.i64.wrap ((n : Int) - 1) = k := by rw [← hk]; exact IntWalk.i64_in _ (by omega)
  have hbi := Q.btw_sym' v hk
  clear hk hn
  show Calls _ _ _ _ fun e w' => e = .returned (.bool (Q.symB v n && Q.offB c)) ∧ _
  cases hv : Q.symB v n
  · rw [hv] at hbi
    go_enter Tryz.func57, Tryz.ntmps57
    go_wp2_with (first | (go_at_call 95; refine (Q.between_any _ _ _ _).mono ?_; rintro e w' ⟨rfl, rfl⟩))
    go_ret
    exact ⟨rfl, B0.out⟩
  · rw [hv] at hbi
    go_enter Tryz.func57, Tryz.ntmps57
    go_wp2_with (first | (go_at_call 95; refine (Q.between_any _ _ _ _).mono ?_; rintro e w' ⟨rfl, rfl⟩) | (go_at_call 96; refine (Q.sOff_any _ _).mono ?_; rintro e w' ⟨rfl, rfl⟩))
    go_ret
    exact ⟨rfl, B0.out⟩
end Go.Proofs.YtihpajiololfoaaGreat
namespace Go.Proofs.YtihpajiololfoaaGreat
open Go.RowKit

end Go.Proofs.YtihpajiololfoaaGreat
namespace Go.Proofs.YtihpajiololfoaaGreat
open Go.RowKit

end Go.Proofs.YtihpajiololfoaaGreat
namespace Go.Proofs.YtihpajiololfoaaGreat
open Go.RowKit

/-- The arguments may be worked with: a size, a table. -/
def Site (size lv : Int) (S : SG) (z : Int) (l : List Int) (Ts : List Y) (n : Nat) (f : Q.Tab) : Prop := size = n ∧ z = n ∧ cF z l = some f ∧ OkS size lv S.B S.V S.M ∧ ∀ x, x ∈ Ts → Wd n x
def NoSite (size lv : Int) (S : SG) (z : Int) (l : List Int) (Ts : List Y) : Prop := ¬ (OkS size lv S.B S.V S.M ∧ FS z l size ∧ ∀ x, x ∈ Ts → Wd size.toNat x)
theorem Site.not {size lv : Int} {S : SG} {z : Int} {l : List Int} {Ts : List Y} {n : Nat} {f : Q.Tab} (h : Site size lv S z l Ts n f) : ¬ NoSite size lv S z l Ts := fun k => by
 obtain ⟨h1, h2, h3, h4, h5⟩ := h
 exact k ⟨h4, ⟨f, h3, h2.trans h1.symm⟩, fun x hx => by rw [h1, Int.toNat_natCast]; exact h5 x hx⟩
theorem Site.one {size lv : Int} {S : SG} {z : Int} {l : List Int} {Ts : List Y} {n n' : Nat} {f f' : Q.Tab} (h : Site size lv S z l Ts n f) (h' : Site size lv S z l Ts n' f') : n = n' ∧ f = f' := by
 obtain ⟨h1, h2, h3, h4, h5⟩ := h
 obtain ⟨k1, k2, k3, _, _⟩ := h'
 exact ⟨by omega, by rw [h3] at k3; exact Option.some.inj k3⟩
theorem Site.wds {size lv : Int} {S : SG} {z : Int} {l : List Int} {Ts : List Y} {n : Nat} {f : Q.Tab} (h : Site size lv S z l Ts n f) : Wds n S.B := fun b hb x hx => by
 obtain ⟨h1, h2, h3, h4, h5⟩ := h
 have := (h4.rows b hb).sym x hx
 unfold symP at this
 exact ⟨⟨by omega, by omega⟩, by omega, by omega⟩
theorem Site.bd {size lv : Int} {S : SG} {z : Int} {l : List Int} {Ts : List Y} {n : Nat} {f : Q.Tab} (h : Site size lv S z l Ts n f) : n ≤ 13 ∧ Q.Bd n f 10000000 := by
 obtain ⟨h1, h2, h3, h4, h5⟩ := h
 have := (cF_fine z l).good f h3
 rw [h2, Int.toNat_natCast] at this
 exact ⟨this.2.1, this.2.2⟩
/-- What SegSpan answers. -/
def SpR (size lv : Int) (S : SG) (z : Int) (l : List Int) (x y : Y) (r : Nat × Nat) : Prop := (∃ n f, Site size lv S z l [x, y] n f ∧ r = span f S.B x y) ∨ (NoSite size lv S z l [x, y] ∧ r = (0, 0))
theorem SpR.one {size lv : Int} {S : SG} {z : Int} {l : List Int} {x y : Y} {r r' : Nat × Nat} (h : SpR size lv S z l x y r) (h' : SpR size lv S z l x y r') : r = r' := by
 rcases h with ⟨n, f, h1, h2⟩ | ⟨h1, h2⟩ <;> rcases h' with ⟨n', f', k1, k2⟩ | ⟨k1, k2⟩
 ·obtain ⟨rfl, rfl⟩ := h1.one k1; rw [h2, k2]
 ·exact absurd k1 h1.not
 ·exact absurd h1 k1.not
 ·rw [h2, k2]
end Go.Proofs.YtihpajiololfoaaGreat
namespace Go.Proofs.YtihpajiololfoaaGreat
open Go.RowKit

def readV (f : Q.Tab) (S : SG) (a b : Y) : VV := amg S.V (span f S.B a b).1 ((span f S.B a b).2 - (span f S.B a b).1)
/-- What SegRead answers. -/
def RdR (size lv : Int) (S : SG) (z : Int) (l : List Int) (x y : Y) (r : VV) : Prop := (∃ n f, Site size lv S z l [x, y] n f ∧ r = readV f S x y) ∨ (NoSite size lv S z l [x, y] ∧ r = noneV)
theorem RdR.one {size lv : Int} {S : SG} {z : Int} {l : List Int} {x y : Y} {r r' : VV} (h : RdR size lv S z l x y r) (h' : RdR size lv S z l x y r') : r = r' := by
 rcases h with ⟨n, f, h1, h2⟩ | ⟨h1, h2⟩ <;> rcases h' with ⟨n', f', k1, k2⟩ | ⟨k1, k2⟩
 ·obtain ⟨rfl, rfl⟩ := h1.one k1; rw [h2, k2]
 ·exact absurd k1 h1.not
 ·exact absurd h1 k1.not
 ·rw [h2, k2]
theorem RdR.ex (size lv : Int) (S : SG) (z : Int) (l : List Int) (x y : Y) : ∃ r, RdR size lv S z l x y r := by
 by_cases h : OkS size lv S.B S.V S.M ∧ FS z l size ∧ ∀ t, t ∈ [x, y] → Wd size.toNat t
 ·obtain ⟨h1, ⟨f, h2, h3⟩, h4⟩ := h
  obtain ⟨n, q0, _, _⟩ := cF_size h2
  have hs : size = n := h3.symm.trans q0
  exact ⟨_, .inl ⟨n, f, ⟨hs, q0, h2, h1, fun t ht => by have := h4 t ht; rw [hs, Int.toNat_natCast] at this; exact this⟩, rfl⟩⟩
 ·exact ⟨_, .inr ⟨h, rfl⟩⟩
end Go.Proofs.YtihpajiololfoaaGreat
namespace Go.Proofs.YtihpajiololfoaaGreat
open Go.RowKit

end Go.Proofs.YtihpajiololfoaaGreat
