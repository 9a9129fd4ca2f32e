/-
  CONTRACT of the specification's l13Sharpen.
-/
import Derived.Test.YtihpajiololfoaaGreatSh31
import Derived.Test.YtihpajiololfoaaGreatSh13
import Derived.Deep.CutRange
namespace Go.Proofs.YtihpajiololfoaaGreat
open Go.RowKit

/-- A run of slots put anew. -/
def pC (a : Act) (m e : Nat) (vs : List Value) : Act := ⟨(a.tmps.toList.take m ++ vs ++ a.tmps.toList.drop e).toArray, a.defers⟩
theorem pCE : (∀ t ds m e vs, pC ⟨t, ds⟩ m e vs = ⟨(t.toList.take m ++ vs ++ t.toList.drop e).toArray, ds⟩) ∧ (∀ l : List Value, l.toArray.toList = l) ∧ (∀ (a : Value) l n, (a :: l).take (n + 1) = a :: l.take n) ∧ (∀ l : List Value, l.take 0 = []) ∧ (∀ (a : Value) l n, (a :: l).drop (n + 1) = l.drop n) ∧ (∀ l : List Value, l.drop 0 = l) ∧ (∀ (a : Value) l k, (a :: l) ++ k = a :: (l ++ k)) ∧ (∀ l : List Value, [] ++ l = l) :=
 ⟨fun _ _ _ _ _ => rfl, fun _ => rfl, fun _ _ _ => rfl, fun _ => rfl, fun _ _ _ => rfl, fun _ => rfl, fun _ _ _ => rfl, fun _ => rfl⟩
theorem set_same {α : Type} {L : List α} {i : Nat} {m : α} (h : L[i]? = some m) : L.set i m = L := by
 apply List.ext_getElem?
 intro j
 rw [List.getElem?_set]
 split
 ·rename_i e
  subst e
  obtain ⟨hi, he⟩ := List.getElem?_eq_some_iff.1 h
  simp [hi, he]
 ·rfl
theorem fresh_b {w' : World} {g base : Nat} (hb : base ≤ g) (hg : w'.heap[g]? = some (.cells #[] 4 (0, 0))) : Own eB 4 w' base (.slice (some ⟨g, 0, none⟩) 0 0) [] :=
 ⟨rfl, .inr ⟨g, 0, #[], rfl, hb, hg, Nat.le_refl _, by unfold maxLen; omega, rfl, rfl⟩⟩
/-- A row of flags of one's own: one of them is written. -/
theorem ownB_put {w : World} {base g n cap i : Nat} {L : List Bool} {m : Bool} (h : Own eB 4 w base (.slice (some ⟨g, 0, none⟩) n cap) L) (hm : L[i]? = some m) : w.cell? ⟨g, i, none⟩ = some (.bool m) ∧ w.frozen? ⟨g, i, none⟩ = false ∧ base ≤ g ∧ ∀ x : Bool, Own eB 4 (w.setCell ⟨g, i, none⟩ (.bool x)) base (.slice (some ⟨g, 0, none⟩) n cap) (L.set i x) := by
 obtain rfl : n = L.length := by obtain ⟨ao, cp, e1⟩ := h.form; cases e1; rfl
 obtain ⟨b, o, e, _, hq⟩ := h.at.cons (by have := (List.getElem?_eq_some_iff.1 hm).1; omega)
 cases e
 obtain ⟨cur, hc⟩ := h.block rfl
 refine ⟨by have := get_b hq hm; simpa using this, heap_free hc i, (h.lt rfl).1, fun x => ?_⟩
 have h2 := (World.ownsRow.stored h i (.bool x)).1
 have e : (eB.flat L).set i (.bool x) = eB.flat (L.set i x) := by
  have hf : ∀ l : List Bool, eB.flat l = l.map Value.bool := fun l => by induction l with | nil => rfl | cons q l ih => show eB.enc q ++ eB.flat l = _; rw [ih]; rfl
  rw [hf, hf, List.map_set]
 unfold Own
 rw [List.length_set, ← e]
 exact h2
set_option maxRecDepth 100000 in
set_option maxHeartbeats 12800000 in
theorem lSharp_any (z lv : Int) (A0 : SAd) (S : SG) (n : Nat) (f : Q.Tab) (h2 : n ≤ 13) (hbd : Q.Bd n f 10000000) (a : Option Addr) (c0 : Nat) (w : World) (hs : Small S) (hok : OkS z lv S.B S.V S.M) (hW : Wds n S.B) (hl : Q.IntsAt w a (Q.mk n f)) (hS : SegAt w A0 S) :
  Calls Tryz.prog 36 #[.agg #[.slice A0.a0 S.B.length A0.c0, .slice A0.a1 S.V.length A0.c1, .slice A0.a2 S.M.length A0.c2], .agg #[.int .i64 n, .slice a (Q.mk n f).length c0]] w fun e w' => GivesS w w' e (shSG f S) := by
 obtain ⟨TS, hTS⟩ : ∃ z, shSG f S = z := ⟨_, rfl⟩
 have HTS := mkHid hTS
 rw [hTS]
 clear hTS
 have HSM := mkHid hs
 have HOK := mkHid hok
 have HWD := mkHid hW
 have HLF := mkHid hl
 have HBT : Hid (∀ (d : Int) (M L : List Y) (am al : Option Addr) (cm cl : Nat) (v : World), 0 ≤ d ∧ d ≤ 1 → M.length ≤ 1048576 → L.length ≤ 1048576 → (∀ x, x ∈ M → Wd n x) → (∀ x, x ∈ L → Wd n x) → Q.IntsAt v a (Q.mk n f) → At eY v am M → At eY v al L → Calls Tryz.prog 81 #[.agg #[.int .i64 n, .slice a (Q.mk n f).length c0], .slice am M.length cm, .slice al L.length cl, .int .i64 d] v fun e w' => e = .returned (.bool (anyB f M L d)) ∧ Below v.heap.size v w') := mkHid fun d M L am al cm cl v q0 q1 q2 q3 q4 q5 q6 q7 => l13Between_any n f h2 hbd a c0 M am cm (by unfold maxLen; omega) q3 L al cl d q0 v (by unfold maxLen; omega) q4 q5 q7 q6
 obtain ⟨tb, hti, hz⟩ := Option.map_eq_some_iff.1 infoB'
 simp only [Prod.mk.injEq] at hz
 obtain ⟨hz0, hz1, hz2⟩ := hz
 have HIB := mkHid (show Tryz.prog.info? 113 = some tb ∧ tb.zero = some (.slice none 0 0) ∧ tb.size = 1 ∧ tb.bytes = 24 from ⟨hti, hz0, hz1, hz2⟩)
 clear hti hz0 hz1 hz2
 obtain ⟨tv, hti, hz⟩ := Option.map_eq_some_iff.1 infoV'
 simp only [Prod.mk.injEq] at hz
 obtain ⟨hz0, hz1, hz2⟩ := hz
 have HIV := mkHid (show Tryz.prog.info? 55 = some tv ∧ tv.zero = some (.agg #[.int .i64 0, .int .i64 0, .bool false]) ∧ tv.size = 3 ∧ tv.bytes = 24 from ⟨hti, hz0, hz1, hz2⟩)
 clear hti hz0 hz1 hz2
 obtain ⟨tm, hti, hz⟩ := Option.map_eq_some_iff.1 infoM'
 simp only [Prod.mk.injEq] at hz
 obtain ⟨hz0, hz1, hz2⟩ := hz
 have HIM := mkHid (show Tryz.prog.info? 4 = some tm ∧ tm.zero = some (.bool false) ∧ tm.size = 1 ∧ tm.bytes = 1 from ⟨hti, hz0, hz1, hz2⟩)
 clear hti hz0 hz1 hz2
 obtain ⟨ty, hti, hz⟩ := Option.map_eq_some_iff.1 infoY
 simp only [Prod.mk.injEq] at hz
 obtain ⟨hz0, hz1, hz2⟩ := hz
 have HIY := mkHid (show Tryz.prog.info? 49 = some ty ∧ ty.zero = some (.agg #[.int .i64 0, .int .i64 0]) ∧ ty.size = 2 ∧ ty.bytes = 16 from ⟨hti, hz0, hz1, hz2⟩)
 clear hti hz0 hz1 hz2
 obtain ⟨bb, ob, hab, hlb, hqb⟩ := hS.b.cons hok.k1
 have HLS := mkHid hS
 have HAB : Hid (A0.a0 = some ⟨bb, ob, none⟩) := mkHid hab
 have HRB : Hid (∀ (i : Nat) (l : List Y), S.B[i]? = some l → ∃ ao cap, (∀ v, Below w.heap.size w v → v.cell? ⟨bb, ob + i, none⟩ = some (.slice ao l.length cap)) ∧ At eY w ao l) := mkHid fun i l h => by obtain ⟨ao, cap, h1, h2⟩ := hqb i l h; exact ⟨ao, cap, fun v hv => (hv.cell (p := ⟨bb, ob + i, none⟩) hlb).trans h1, h2⟩
 obtain ⟨w0, hw0⟩ : ∃ z : World, ((w.alloc (.cells #[.slice A0.a0 S.B.length A0.c0, .slice A0.a1 S.V.length A0.c1, .slice A0.a2 S.M.length A0.c2] 35)).alloc (.cells #[.int .i64 n, .slice a (Q.mk n f).length c0] 38)).alloc (.cells #[.slice none 0 0, .slice none 0 0, .slice none 0 0] 35) = z := ⟨_, rfl⟩
 obtain ⟨X1, hX⟩ : ∃ z, w.heap.size = z := ⟨_, rfl⟩
 have HXX := mkHid hX
 have HB0 : Hid (Below w.heap.size w w0) := mkHid (by rw [← hw0]; exact bl_alloc (bl_alloc (bl_alloc (Below.refl _ _) _) _) _)
 have HZ0 : Hid (w0.heap[X1]? = some (.cells (sgC A0 S) 35 (0, 0)) ∧ w0.heap[X1 + 1]? = some (.cells #[.int .i64 n, .slice a (Q.mk n f).length c0] 38 (0, 0)) ∧ w0.heap[X1 + 1 + 1]? = some (.cells (sgC noA noS) 35 (0, 0)) ∧ w0.heap.size = X1 + 3) := mkHid (by
  rw [← hw0, ← hX]
  refine ⟨?_, ?_, heap_new _ _ (by simp), by simp⟩
  ·rw [heap_old _ _ (by simp; omega), heap_old _ _ (by simp)]; exact heap_new _ _ rfl
  ·rw [heap_old _ _ (by simp)]; exact heap_new _ _ (by simp))
 have HW0 := mkHid hw0
 obtain ⟨X3, hX3⟩ : ∃ z, X1 + 1 = z := ⟨_, rfl⟩
 obtain ⟨X2, hX2⟩ : ∃ z, X3 + 1 = z := ⟨_, rfl⟩
 have HX3 := mkHid hX3
 have HX2 := mkHid hX2
 rw [hX3, hX2] at HZ0
 obtain ⟨wq, hwq⟩ : ∃ z, w0.alloc (.cells #[] 4) = z := ⟨_, rfl⟩
 have hwb : Below w0.heap.size w0 wq := by rw [← hwq]; exact bl_alloc (Below.refl _ _) _
 have hbx := (hwb.block X1 (heap_lt HZ0.out.1)).trans HZ0.out.1
 have m2 := heap_cell hbx 2
 simp only [sgC] at m2
 simp at m2
 have hws := hwb.size
 have HFN : Hid (Own eB 4 wq w0.heap.size (.slice (some ⟨w0.heap.size, 0, none⟩) 0 0) []) := mkHid (by rw [← hwq]; exact fresh_b (Nat.le_refl _) (by have := heap_alloc_new w0 (.cells #[] 4); simpa using this))
 have HAM : Hid (At eB wq A0.a2 S.M) := mkHid ((hS.m.below HB0.out).below hwb)
 have HWQ := mkHid hwq
 have hml := hs.m
 clear hs hok hW hl hS hab hlb hqb hbd
 go_enter Tryz.func36, Tryz.ntmps36
 go_wp2_with (at_builtin; (try rw [HW0.out]); (try rw [HX3.out]); (try rw [HX2.out]); refine append_b _ rfl _ _ rfl w0.heap.size w0.heap.size rfl HFN.out A0.a2 A0.c2 S.M.length S.M rfl rfl HAM.out (by omega) hws ?_)
 intro gm cm w1 hown hgr
 have O1 := mkHid hown
 have HB1 : Hid (Below w0.heap.size w0 w1) := mkHid (by have h := HWQ.out; subst h; exact ((Below.refl _ _).alloc (Nat.le_refl _) _).grown hgr hws (fun q e => by cases e; exact Nat.le_refl _))
 clear hown hgr HFN HAM m2 hX hX3 hX2 HWQ hws hwb hwq hw0 hbx
 go_wp2
 go_loopg [6] S.M.length (fun g s6 wr => ∃ (i : Nat), i ≤ S.M.length ∧ s6 = .int .i64 (i : Int) ∧ S.M.length - i ≤ g ∧ Own eB 4 wr w0.heap.size (.slice (some ⟨gm, 0, none⟩) S.M.length cm) (mkMb f S.B S.M i) ∧ Below w0.heap.size w0 wr)
 case atStart => exact ⟨0, Nat.zero_le _, rfl, by omega, (by have h := O1.out; unfold mkMb; simpa using h), HB1.out⟩
 case round =>
  clear O1 HB1
  obtain ⟨i, hi, rfl, hg, hown, hbel⟩ := hrel
  have OW := mkHid hown
  have HBL := mkHid hbel
  have HBW := mkHid (below_step HB0.out hbel)
  have hZ1 := (hbel.block X1 (by have := HZ0.out.2.2.2; have := HX3.out; have := HX2.out; omega)).trans HZ0.out.1
  have hZ3 := (hbel.block X3 (by have := HZ0.out.2.2.2; have := HX3.out; have := HX2.out; omega)).trans HZ0.out.2.1
  have hZ2 := (hbel.block X2 (by have := HZ0.out.2.2.2; have := HX3.out; have := HX2.out; omega)).trans HZ0.out.2.2.1
  have HE1 := mkHid hZ1
  have HE3 := mkHid hZ3
  have HE2 := mkHid hZ2
  have hib : i ≤ 1048576 := by omega
  clear hown hbel hZ2
  by_cases hlt : i < S.M.length
  ·obtain ⟨b, hb⟩ : ∃ l, S.B[i]? = some l := ⟨_, List.getElem?_eq_getElem (by have := HOK.out.m; omega)⟩
   obtain ⟨b2, hb2⟩ : ∃ l, S.B[i + 1]? = some l := ⟨_, List.getElem?_eq_getElem (by have := HOK.out.m; omega)⟩
   obtain ⟨m, hm⟩ : ∃ l, S.M[i]? = some l := ⟨_, List.getElem?_eq_getElem hlt⟩
   obtain ⟨al, cl, hr1, ha1⟩ := HRB.out i b hb
   obtain ⟨al2, cl2, hr2, ha2⟩ := HRB.out (i + 1) b2 hb2
   have HC1 : Hid (∀ v, Below wr.heap.size wr v → v.cell? ⟨X1, 0, none⟩ = some (.slice (some ⟨bb, ob, none⟩) S.B.length A0.c0)) := mkHid fun v h => by have h1 := heap_cell ((h.block X1 (heap_lt HE1.out)).trans HE1.out) 0; simpa [sgC, HAB.out] using h1
   have HC3 : Hid (∀ v, Below wr.heap.size wr v → v.cell? ⟨X3, 0, none⟩ = some (.int .i64 n) ∧ v.cell? ⟨X3, 1, none⟩ = some (.slice a (Q.mk n f).length c0)) := mkHid fun v h => two_cells ((h.block X3 (heap_lt HE3.out)).trans HE3.out)
   have HR1 : Hid (∀ v, Below wr.heap.size wr v → v.cell? ⟨bb, ob + i, none⟩ = some (.slice al b.length cl)) := mkHid fun v h => hr1 v (below_step HBW.out h)
   have HR2 : Hid (∀ v, Below wr.heap.size wr v → v.cell? ⟨bb, ob + (i + 1), none⟩ = some (.slice al2 b2.length cl2)) := mkHid fun v h => hr2 v (below_step HBW.out h)
   obtain ⟨bq, hbq⟩ : ∃ z, anyB f b b2 1 = z := ⟨_, rfl⟩
   have HCB : Hid (∀ v, Below wr.heap.size wr v → Calls Tryz.prog 81 #[.agg #[.int .i64 n, .slice a (Q.mk n f).length c0], .slice al b.length cl, .slice al2 b2.length cl2, .int .i64 1] v fun e w' => e = .returned (.bool bq) ∧ Below v.heap.size v w') := mkHid fun v h => by rw [← hbq]; exact HBT.out 1 b b2 al al2 cl cl2 v ⟨by omega, by omega⟩ (HSM.out.row i b hb) (HSM.out.row (i + 1) b2 hb2) (HWD.out b (List.mem_of_getElem? hb)) (HWD.out b2 (List.mem_of_getElem? hb2)) (HLF.out.below (below_step HBW.out h)) (ha1.below (below_step HBW.out h)) (ha2.below (below_step HBW.out h))
   have HMK : Hid (mkMb f S.B S.M (i + 1) = (mkMb f S.B S.M i).set i (m && !bq)) := mkHid (by rw [← hbq]; exact mkMb_next hb hb2 hm)
   have HGM := mkHid (mkMb_get (f := f) (B := S.B) hm)
   have i0 : (0 : Int) ≤ (i : Int) := by omega
   have i1 : (i : Int) < (S.M.length : Int) := by omega
   have j1 : (i : Int) < (S.B.length : Int) := by have := HOK.out.m; omega
   have j2 : ((i + 1 : Nat) : Int) < (S.B.length : Int) := by have := HOK.out.m; omega
   have j3 : (i : Int) + 1 < (S.B.length : Int) := by have := HOK.out.m; omega
   have j0 : (0 : Int) ≤ ((i + 1 : Nat) : Int) := by omega
   have j4 : (0 : Int) ≤ (i : Int) + 1 := by omega
   have hw1 : IntKind.i64.wrap ((i : Int) + 1) = ((i + 1 : Nat) : Int) := by rw [IntWalk.i64_in _ (by omega)]; omega
   have hw2 : wrap64 ((i : Int) + 1) = ((i + 1 : Nat) : Int) := by unfold wrap64; omega
   clear hb hb2 hm hr1 hr2 ha1 ha2 hbq hZ1 hZ3
   go_wp2_with fail
   refine wp_region_inv2 (fun zA0 L zA v9 => ∃ (zB : Nat → Bool) (zS : Nat → Value), L = #[zB 0, zB 1, zB 2, zB 3, zB 4, zB 5, zB 6, zB 7, zB 8, zB 9, zB 10, zB 11, zB 12] ∧ zA = pC zA0 21 34 [zS 21, zS 22, zS 23, zS 24, zS 25, zS 26, zS 27, zS 28, zS 29, zS 30, zS 31, zS 32, zS 33] ∧ FF 21 [.agg #[.int .i64 n, .slice a (Q.mk n f).length c0], .pointer (some ⟨X1, 0, none⟩), .slice (some ⟨bb, ob, none⟩) S.B.length A0.c0, .int .i64 (i : Int), .pointer (some ⟨bb, ob + i, none⟩), .slice al b.length cl, .pointer (some ⟨X1, 0, none⟩), .slice (some ⟨bb, ob, none⟩) S.B.length A0.c0, .int .i64 (i : Int), .int .i64 ((i + 1 : Nat) : Int), .pointer (some ⟨bb, ob + (i + 1), none⟩), .slice al2 b2.length cl2, .bool bq] zB zS ∧ Below wr.heap.size wr v9) (by kernel_rfl) ?_ ?_ ?_
   ·exact ⟨fun _ => false, fun zd => [u21, u22, u23, u24, u25, u26, u27, u28, u29, u30, u31, u32, u33].getD (zd - 21) undef, rfl, by kernel_rfl, ff0, (Below.refl _ _).drew⟩
   ·refine StepsI.cons rfl ?_ ?_
    ·rintro L zA v9 ⟨zB, zS, rfl, rfl, hF, hW⟩ hL hm K hK
     have hb0 : zB 0 = false := by simpa using hL
     clear hL hm
     simp only [pCE]
     obtain ⟨q0, q1⟩ := HC3.out _ hW
     have HWz := mkHid hW
     clear hW
     go_simp
     have hW := HWz.out
     clear HWz
     exact hK.out _ _ ⟨ups zB [0], upv _ _ zS [0], rfl, by kernel_rfl, rk hF rfl, hW⟩
    refine StepsI.cons rfl ?_ ?_
    ·rintro L zA v9 ⟨zB, zS, rfl, rfl, hF, hW⟩ hL hm K hK
     have hb1 : zB 1 = false := by simpa using hL
     clear hL hm
     simp only [pCE]
     have HWz := mkHid hW
     clear hW
     go_simp
     have hW := HWz.out
     clear HWz
     exact hK.out _ _ ⟨ups zB [1], upv _ _ zS [1], rfl, by kernel_rfl, rk hF rfl, hW⟩
    refine StepsI.cons rfl ?_ ?_
    ·rintro L zA v9 ⟨zB, zS, rfl, rfl, hF, hW⟩ hL hm K hK
     have hb2 : zB 2 = false := by simpa using hL
     have hb1 : zB 1 = true := mt 1 hm (by kernel_rfl)
     have e1 : zS 22 = .pointer (some ⟨X1, 0, none⟩) := hF 1 _ rfl hb1
     clear hL hm
     simp only [pCE]
     simp only [e1]
     have q0 := HC1.out _ hW
     have HWz := mkHid hW
     clear hW
     go_simp
     have hW := HWz.out
     clear HWz
     exact hK.out _ _ ⟨ups zB [2], upv _ _ zS [2, 1], rfl, by kernel_rfl, rk hF rfl, hW⟩
    refine StepsI.cons rfl ?_ ?_
    ·rintro L zA v9 ⟨zB, zS, rfl, rfl, hF, hW⟩ hL hm K hK
     have hb3 : zB 3 = false := by simpa using hL
     clear hL hm
     simp only [pCE]
     have HWz := mkHid hW
     clear hW
     go_simp
     have hW := HWz.out
     clear HWz
     exact hK.out _ _ ⟨ups zB [3], upv _ _ zS [3], rfl, by kernel_rfl, rk hF rfl, hW⟩
    refine StepsI.cons rfl ?_ ?_
    ·rintro L zA v9 ⟨zB, zS, rfl, rfl, hF, hW⟩ hL hm K hK
     have hb4 : zB 4 = false := by simpa using hL
     have hb2 : zB 2 = true := mt 2 hm (by kernel_rfl)
     have hb3 : zB 3 = true := mt 3 hm (by kernel_rfl)
     have e2 : zS 23 = .slice (some ⟨bb, ob, none⟩) S.B.length A0.c0 := hF 2 _ rfl hb2
     have e3 : zS 24 = .int .i64 (i : Int) := hF 3 _ rfl hb3
     clear hL hm
     simp only [pCE]
     simp only [e2, e3]
     have HWz := mkHid hW
     clear hW
     go_simp
     have hW := HWz.out
     clear HWz
     exact hK.out _ _ ⟨ups zB [4], upv _ _ zS [4, 3, 2], rfl, by kernel_rfl, rk hF rfl, hW⟩
    refine StepsI.cons rfl ?_ ?_
    ·rintro L zA v9 ⟨zB, zS, rfl, rfl, hF, hW⟩ hL hm K hK
     have hb5 : zB 5 = false := by simpa using hL
     have hb4 : zB 4 = true := mt 4 hm (by kernel_rfl)
     have e4 : zS 25 = .pointer (some ⟨bb, ob + i, none⟩) := hF 4 _ rfl hb4
     clear hL hm
     simp only [pCE]
     simp only [e4]
     have q0 := HR1.out _ hW
     have HWz := mkHid hW
     clear hW
     go_simp
     have hW := HWz.out
     clear HWz
     exact hK.out _ _ ⟨ups zB [5], upv _ _ zS [5, 4], rfl, by kernel_rfl, rk hF rfl, hW⟩
    refine StepsI.cons rfl ?_ ?_
    ·rintro L zA v9 ⟨zB, zS, rfl, rfl, hF, hW⟩ hL hm K hK
     have hb6 : zB 6 = false := by simpa using hL
     clear hL hm
     simp only [pCE]
     have HWz := mkHid hW
     clear hW
     go_simp
     have hW := HWz.out
     clear HWz
     exact hK.out _ _ ⟨ups zB [6], upv _ _ zS [6], rfl, by kernel_rfl, rk hF rfl, hW⟩
    refine StepsI.cons rfl ?_ ?_
    ·rintro L zA v9 ⟨zB, zS, rfl, rfl, hF, hW⟩ hL hm K hK
     have hb7 : zB 7 = false := by simpa using hL
     have hb6 : zB 6 = true := mt 6 hm (by kernel_rfl)
     have e6 : zS 27 = .pointer (some ⟨X1, 0, none⟩) := hF 6 _ rfl hb6
     clear hL hm
     simp only [pCE]
     simp only [e6]
     have q0 := HC1.out _ hW
     have HWz := mkHid hW
     clear hW
     go_simp
     have hW := HWz.out
     clear HWz
     exact hK.out _ _ ⟨ups zB [7], upv _ _ zS [7, 6], rfl, by kernel_rfl, rk hF rfl, hW⟩
    refine StepsI.cons rfl ?_ ?_
    ·rintro L zA v9 ⟨zB, zS, rfl, rfl, hF, hW⟩ hL hm K hK
     have hb8 : zB 8 = false := by simpa using hL
     clear hL hm
     simp only [pCE]
     have HWz := mkHid hW
     clear hW
     go_simp
     have hW := HWz.out
     clear HWz
     exact hK.out _ _ ⟨ups zB [8], upv _ _ zS [8], rfl, by kernel_rfl, rk hF rfl, hW⟩
    refine StepsI.cons rfl ?_ ?_
    ·rintro L zA v9 ⟨zB, zS, rfl, rfl, hF, hW⟩ hL hm K hK
     have hb9 : zB 9 = false := by simpa using hL
     have hb8 : zB 8 = true := mt 8 hm (by kernel_rfl)
     have e8 : zS 29 = .int .i64 (i : Int) := hF 8 _ rfl hb8
     clear hL hm
     simp only [pCE]
     simp only [e8]
     have HWz := mkHid hW
     clear hW
     go_simp
     have hW := HWz.out
     clear HWz
     exact hK.out _ _ ⟨ups zB [9], upv _ _ zS [9, 8], rfl, by kernel_rfl, rk hF rfl, hW⟩
    refine StepsI.cons rfl ?_ ?_
    ·rintro L zA v9 ⟨zB, zS, rfl, rfl, hF, hW⟩ hL hm K hK
     have hb10 : zB 10 = false := by simpa using hL
     have hb7 : zB 7 = true := mt 7 hm (by kernel_rfl)
     have hb9 : zB 9 = true := mt 9 hm (by kernel_rfl)
     have e7 : zS 28 = .slice (some ⟨bb, ob, none⟩) S.B.length A0.c0 := hF 7 _ rfl hb7
     have e9 : zS 30 = .int .i64 ((i + 1 : Nat) : Int) := hF 9 _ rfl hb9
     clear hL hm
     simp only [pCE]
     simp only [e7, e9]
     have HWz := mkHid hW
     clear hW
     go_simp
     have hW := HWz.out
     clear HWz
     exact hK.out _ _ ⟨ups zB [10], upv _ _ zS [10, 9, 7], rfl, by kernel_rfl, rk hF rfl, hW⟩
    refine StepsI.cons rfl ?_ ?_
    ·rintro L zA v9 ⟨zB, zS, rfl, rfl, hF, hW⟩ hL hm K hK
     have hb11 : zB 11 = false := by simpa using hL
     have hb10 : zB 10 = true := mt 10 hm (by kernel_rfl)
     have e10 : zS 31 = .pointer (some ⟨bb, ob + (i + 1), none⟩) := hF 10 _ rfl hb10
     clear hL hm
     simp only [pCE]
     simp only [e10]
     have q0 := HR2.out _ hW
     have HWz := mkHid hW
     clear hW
     go_simp
     have hW := HWz.out
     clear HWz
     exact hK.out _ _ ⟨ups zB [11], upv _ _ zS [11, 10], rfl, by kernel_rfl, rk hF rfl, hW⟩
    refine StepsI.cons rfl ?_ ?_
    ·rintro L zA v9 ⟨zB, zS, rfl, rfl, hF, hW⟩ hL hm K hK
     have hb12 : zB 12 = false := by simpa using hL
     have hb0 : zB 0 = true := mt 0 hm (by kernel_rfl)
     have hb5 : zB 5 = true := mt 5 hm (by kernel_rfl)
     have hb11 : zB 11 = true := mt 11 hm (by kernel_rfl)
     have e0 : zS 21 = .agg #[.int .i64 n, .slice a (Q.mk n f).length c0] := hF 0 _ rfl hb0
     have e5 : zS 26 = .slice al b.length cl := hF 5 _ rfl hb5
     have e11 : zS 32 = .slice al2 b2.length cl2 := hF 11 _ rfl hb11
     clear hL hm
     simp only [pCE]
     simp only [e0, e5, e11]
     have HWz := mkHid hW
     clear hW
     go_simp
     have hW := HWz.out
     clear HWz
     refine (HCB.out _ hW).mono ?_
     rintro e v92 ⟨rfl, hb⟩
     have HWz := mkHid hW
     clear hW
     go_wp2_with fail
     have hW := HWz.out
     clear HWz
     exact hK.out _ _ ⟨ups zB [12], upv _ _ zS [12, 11, 5, 0], rfl, by kernel_rfl, rk hF rfl, below_step hW hb⟩
    exact StepsI.nil (by kernel_rfl)
   ·rintro L zA v9 ⟨zB, zS, rfl, rfl, hF, hW⟩ hr
    have hu := all_up (by kernel_rfl) (N := 13) (by kernel_rfl) hr
    have hb0 : zB 0 = true := by simpa using hu 0 (by decide)
    have hb1 : zB 1 = true := by simpa using hu 1 (by decide)
    have hb2 : zB 2 = true := by simpa using hu 2 (by decide)
    have hb3 : zB 3 = true := by simpa using hu 3 (by decide)
    have hb4 : zB 4 = true := by simpa using hu 4 (by decide)
    have hb5 : zB 5 = true := by simpa using hu 5 (by decide)
    have hb6 : zB 6 = true := by simpa using hu 6 (by decide)
    have hb7 : zB 7 = true := by simpa using hu 7 (by decide)
    have hb8 : zB 8 = true := by simpa using hu 8 (by decide)
    have hb9 : zB 9 = true := by simpa using hu 9 (by decide)
    have hb10 : zB 10 = true := by simpa using hu 10 (by decide)
    have hb11 : zB 11 = true := by simpa using hu 11 (by decide)
    have hb12 : zB 12 = true := by simpa using hu 12 (by decide)
    have e0 : zS 21 = .agg #[.int .i64 n, .slice a (Q.mk n f).length c0] := hF 0 _ rfl hb0
    have e1 : zS 22 = .pointer (some ⟨X1, 0, none⟩) := hF 1 _ rfl hb1
    have e2 : zS 23 = .slice (some ⟨bb, ob, none⟩) S.B.length A0.c0 := hF 2 _ rfl hb2
    have e3 : zS 24 = .int .i64 (i : Int) := hF 3 _ rfl hb3
    have e4 : zS 25 = .pointer (some ⟨bb, ob + i, none⟩) := hF 4 _ rfl hb4
    have e5 : zS 26 = .slice al b.length cl := hF 5 _ rfl hb5
    have e6 : zS 27 = .pointer (some ⟨X1, 0, none⟩) := hF 6 _ rfl hb6
    have e7 : zS 28 = .slice (some ⟨bb, ob, none⟩) S.B.length A0.c0 := hF 7 _ rfl hb7
    have e8 : zS 29 = .int .i64 (i : Int) := hF 8 _ rfl hb8
    have e9 : zS 30 = .int .i64 ((i + 1 : Nat) : Int) := hF 9 _ rfl hb9
    have e10 : zS 31 = .pointer (some ⟨bb, ob + (i + 1), none⟩) := hF 10 _ rfl hb10
    have e11 : zS 32 = .slice al2 b2.length cl2 := hF 11 _ rfl hb11
    have e12 : zS 33 = .bool bq := hF 12 _ rfl hb12
    clear hu hr hF
    simp only [pCE]
    simp only [e0, e1, e2, e3, e4, e5, e6, e7, e8, e9, e10, e11, e12]
    clear e0 e1 e2 e3 e4 e5 e6 e7 e8 e9 e10 e11 e12
    clear hb0 hb1 hb2 hb3 hb4 hb5 hb6 hb7 hb8 hb9 hb10 hb11 hb12
    clear zB zS
    have HB5 := mkHid hW
    have OW5 := mkHid (OW.out.below hW)
    clear hW HC1 HC3 HR1 HR2 HCB
    cases bq
    ·go_wp2
     go_roundg (S.M.length - (i + 1))
     case measure => omega
     case rel => exact ⟨i + 1, by omega, by go_num, Nat.le_refl _, (by have h := OW5.out; rw [HMK.out, show (m && !false) = m by simp, set_same HGM.out]; exact h), HBL.out.trans (HB5.out.mono (HBL.out.size))⟩
    ·obtain ⟨q0, q1, q2, q3⟩ := ownB_put OW5.out HGM.out
     have HQ3 := mkHid q3
     have HQ2 := mkHid q2
     clear q2 q3
     go_wp2
     go_roundg (S.M.length - (i + 1))
     case measure => omega
     case rel => exact ⟨i + 1, by omega, by go_num, Nat.le_refl _, (by have h := HQ3.out false; rw [HMK.out, show (m && !true) = false by simp]; exact h), (HBL.out.trans (HB5.out.mono (HBL.out.size))).setCell (p := ⟨gm, i, none⟩) HQ2.out _⟩
  ·have hiE : i = S.M.length := by omega
   have i1 : ¬ (i : Int) < (S.M.length : Int) := by omega
   have HFM : Hid (∀ (k : Nat) (m : Bool), (fmB f S.B S.M)[k]? = some m → wr.cell? ⟨gm, k, none⟩ = some (.bool m)) := mkHid fun k m hm => by
    have h := OW.out
    rw [hiE, mkMb_last] at h
    obtain ⟨q0, _, _, _⟩ := ownB_put h hm
    exact q0
   have HGL : Hid (w0.heap.size ≤ gm ∧ gm < wr.heap.size) := mkHid (OW.out.lt rfl)
   obtain ⟨b0, hb0⟩ : ∃ l, S.B[0]? = some l := ⟨_, List.getElem?_eq_getElem (by have := HOK.out.k1; omega)⟩
   obtain ⟨al, cl, hr1, ha1⟩ := HRB.out 0 b0 hb0
   obtain ⟨wq, hwq⟩ : ∃ z, wr.alloc (.cells #[] 49) = z := ⟨_, rfl⟩
   have hwb : Below wr.heap.size wr wq := by rw [← hwq]; exact bl_alloc (Below.refl _ _) _
   have q0 : wq.cell? ⟨X1, 0, none⟩ = some (.slice (some ⟨bb, ob, none⟩) S.B.length A0.c0) := by have h1 := heap_cell ((hwb.block X1 (heap_lt HE1.out)).trans HE1.out) 0; simpa [sgC, HAB.out] using h1
   have q1 : wq.cell? ⟨bb, ob, none⟩ = some (.slice al b0.length cl) := by have := hr1 wq (below_step HBW.out hwb); simpa using this
   have HFN : Hid (Own eY 49 wq wr.heap.size (.slice (some ⟨wr.heap.size, 0, none⟩) 0 0) []) := mkHid (by rw [← hwq]; exact fresh_y (Nat.le_refl _) (by have := heap_alloc_new wr (.cells #[] 49); simpa using this))
   have HA7 := mkHid (ha1.below (below_step HBW.out hwb))
   have hbl := HSM.out.row 0 b0 hb0
   have HBF := mkHid hb0
   have hk1 := HOK.out.k1
   have j1 : (0 : Int) < (S.B.length : Int) := by omega
   have hws := hwb.size
   have HWQ := mkHid hwq
   clear hb0 hr1 ha1 hZ1 hZ3 hwb
   go_wp2_with (at_builtin; (try rw [HWQ.out]); refine append_y _ rfl _ _ rfl wr.heap.size wr.heap.size 0 0 [] rfl rfl HFN.out al cl b0.length b0 rfl rfl HA7.out (by omega) hws ?_)
   intro g7 c7 w7 hown hgr
   have HO7 : Hid (Own eY 49 w7 wr.heap.size (.slice (some ⟨g7, 0, none⟩) b0.length c7) b0) := mkHid (by simpa using hown)
   have HB7 : Hid (Below wr.heap.size wr w7) := mkHid (by have h := HWQ.out; subst h; exact ((Below.refl _ _).alloc (Nat.le_refl _) _).grown hgr hws (fun q e => by cases e; exact Nat.le_refl _))
   try simp only [Nat.zero_add]
   clear hown hgr HFN HA7 q0 q1 hws HWQ
   obtain ⟨wA, hwA⟩ : ∃ z, ((w7.alloc (.cells #[.slice (some ⟨g7, 0, none⟩) b0.length c7] 113)).alloc (.cells #[.slice (some ⟨w7.heap.size, 0, none⟩) 1 1, .slice none 0 0, .slice none 0 0] 35)) = z := ⟨_, rfl⟩
   obtain ⟨Bx, hBx⟩ : ∃ z, w7.heap.size + 1 = z := ⟨_, rfl⟩
   have hfst := growS_first HO7.out HB7.out.size
   rw [hwA, hBx] at hfst
   obtain ⟨base, hbase⟩ : ∃ z, wr.heap.size = z := ⟨_, rfl⟩
   have HCC : Hid (ShC w base X1 X2 X3 Bx gm) := mkHid (by have h1 := HZ0.out.2.2.2; have h2 := HXX.out; have h3 := HX3.out; have h4 := HX2.out; have h5 := HGL.out; have h6 := HBL.out.size; have h7 := HB7.out.size; exact ⟨⟨by omega, by omega⟩, ⟨by omega, by omega, by omega⟩, ⟨by omega, by omega⟩, ⟨by omega, by omega⟩, by omega, by omega⟩)
   have HBA : Hid (Below wr.heap.size wr wA) := mkHid (HB7.out.trans (hfst.2.mono HB7.out.size))
   have HT0 : Hid (ShI w wA base X1 X2 X3 Bx A0 S #[.int .i64 n, .slice a (Q.mk n f).length c0] gm (fmB f S.B S.M) ⟨some ⟨w7.heap.size, 0, none⟩, 1, none, 0, none, 0⟩ ⟨[b0], [], []⟩) := mkHid (by
    have hG := hfst.1
    rw [hbase] at hG
    exact ⟨hG, (HBA.out.block X1 (heap_lt HE1.out)).trans HE1.out, (HBA.out.block X2 (heap_lt HE2.out)).trans HE2.out, (HBA.out.block X3 (heap_lt HE3.out)).trans HE3.out, fun k m hm => (HBA.out.cell (p := ⟨gm, k, none⟩) HGL.out.2).trans (HFM.out k m hm), below_step HBW.out HBA.out, by rw [← hbase]; exact HBA.out.size⟩)
   have HSE0 : Hid (ShE f n S (fmB f S.B S.M) TS ⟨[b0], [], []⟩ [] b0 0) := mkHid (by have h := ShE.first (f := f) (n := n) HBF.out HSM.out.t HWD.out; rw [HTS.out] at h; exact h)
   obtain ⟨FM, hFM⟩ : ∃ z, fmB f S.B S.M = z := ⟨_, rfl⟩
   have HFL : Hid (FM.length = S.M.length) := mkHid (by rw [← hFM]; exact fmB_len f S.B S.M)
   rw [hFM] at HT0 HSE0
   obtain ⟨fa, hfa⟩ : ∃ z : Array Value, #[.int .i64 n, .slice a (Q.mk n f).length c0] = z := ⟨_, rfl⟩
   rw [hfa] at HT0
   have HFA := mkHid hfa
   clear hfst hbase HBA HO7 HB7 HFM HGL HBF hFM HE1 HE2 HE3 OW HBL HBW hfa hiE i1 hi hg hib hlt
   have HWA := mkHid hwA
   clear hwA
   go_wp2
   clear hBx
   go_loopg [8, 9, 10] S.M.length (fun g s8 s9 s10 wr => ∃ (i : Nat) (A : SAd) (Z : SG) (P : List (List Y)) (cur : List Y), i ≤ S.M.length ∧ s8 = .int .i64 (i : Int) ∧ S.M.length - i ≤ g ∧ ShE f n S FM TS Z P cur i ∧ ShI w wr base X1 X2 X3 Bx A0 S fa gm FM A Z)
   case atStart => exact ⟨0, _, _, _, _, Nat.zero_le _, rfl, by omega, HSE0.out, by rw [HWA.out]; exact HT0.out⟩
   case round =>
    clear HT0 HSE0 HWA
    obtain ⟨i, A, Z, P, cur, hi, rfl, hg, hse, hsi⟩ := hrel
    have HSE := mkHid hse
    have HTI := mkHid hsi
    have hib : i ≤ 1048576 := by omega
    clear hse hsi
    by_cases hlt : i < S.M.length
    ·have hmz : S.M.length - (i + 1) < gk := by omega
     have hle : i + 1 ≤ S.M.length := by omega
     obtain ⟨b, hb⟩ : ∃ l, S.B[i + 1]? = some l := ⟨_, List.getElem?_eq_getElem (by have := HOK.out.m; omega)⟩
     obtain ⟨vx, hv⟩ : ∃ l, S.V[i]? = some l := ⟨_, List.getElem?_eq_getElem (by have := HOK.out.m; have := HOK.out.v; omega)⟩
     obtain ⟨mz, hm⟩ : ∃ l, FM[i]? = some l := ⟨_, List.getElem?_eq_getElem (by have := HFL.out; omega)⟩
     obtain ⟨al, cl, hr1, ha1⟩ := HRB.out (i + 1) b hb
     have HLP : Hid (0 < b.length) := mkHid (List.length_pos_iff.2 (HOK.out.rows b (List.mem_of_getElem? hb)).ne)
     have HLL : Hid (b.length ≤ 1048576) := mkHid (HSM.out.row (i + 1) b hb)
     obtain ⟨bl, ol, hal9, hlbl, hql⟩ := ha1.cons HLP.out
     subst hal9
     have HRL : Hid (∀ v, Below w.heap.size w v → ∀ (i : Nat) (x : Y), b[i]? = some x → ∀ (j : Nat) (u : Value), (eY.enc x)[j]? = some u → v.cell? ⟨bl, ol + i * eY.k + j, none⟩ = some u) := mkHid fun v h i x hx j u hu => (h.cell (p := ⟨bl, _, none⟩) hlbl).trans (hql i x hx j u hu)
     obtain ⟨bv, ov, hav, hlbv, hqv⟩ := HLS.out.v.cons (by have := HOK.out.m; have := HOK.out.v; omega)
     obtain ⟨dv0, dv1, dv2⟩ := get_v hqv hv
     have HRV : Hid (∀ z, Below w.heap.size w z → z.cell? ⟨bv, ov + i * 3, none⟩ = some (.int .i64 vx.1) ∧ z.cell? ⟨bv, ov + i * 3 + 1, none⟩ = some (.int .i64 vx.2.1) ∧ z.cell? ⟨bv, ov + i * 3 + 2, none⟩ = some (.bool vx.2.2)) := mkHid fun z hb => ⟨(hb.cell (p := ⟨bv, _, none⟩) hlbv).trans dv0, (hb.cell (p := ⟨bv, _, none⟩) hlbv).trans dv1, (hb.cell (p := ⟨bv, _, none⟩) hlbv).trans dv2⟩
     have HAV := mkHid hav
     have HR1 := mkHid hr1
     have HA1 := mkHid ha1
     have hzl : Z.B.length = P.length + 1 := by rw [HSE.out.b]; simp
     have hzc : Z.B[P.length]? = some cur := by rw [HSE.out.b]; simp
     have HZL := mkHid hzl
     obtain ⟨k, hk⟩ : ∃ z, P.length = z := ⟨_, rfl⟩
     have HK := mkHid hk
     rw [hk] at hzl hzc
     obtain ⟨g, og, hag, hlg, hqg⟩ := HTI.out.g.b.at.cons (by omega)
     obtain ⟨ac, cc, hgc, hac⟩ := hqg k cur hzc
     obtain rfl : og = 0 := by obtain ⟨vs, h1, _⟩ := HTI.out.g.b; obtain ⟨q, cap, e⟩ := World.ownsRow.form h1 (by omega); simp at e; have h9 := e.1.1; rw [hag] at h9; simp at h9; exact h9.2
     rw [Nat.zero_add] at hgc
     have HAG : Hid (A.a0 = some ⟨g, 0, none⟩) := mkHid hag
     have HAC := mkHid hac
     have HGC := mkHid hgc
     have HLG := mkHid hlg
     have HFZ : Hid (∀ v, Below wr.heap.size wr v → v.frozen? ⟨g, k, none⟩ = false) := mkHid fun v h => by obtain ⟨vs, h1, _⟩ := (HTI.out.g.b.below h); rw [HAG.out] at h1; obtain ⟨c, hc⟩ := owns_block h1 (q := g) rfl; exact heap_free hc k
     have HC1 : Hid (∀ v, Below wr.heap.size wr v → v.cell? ⟨X1, 0, none⟩ = some (.slice (some ⟨bb, ob, none⟩) S.B.length A0.c0) ∧ v.cell? ⟨X1, 1, none⟩ = some (.slice (some ⟨bv, ov, none⟩) S.V.length A0.c1)) := mkHid fun v h => by have h0 := (h.block X1 (heap_lt HTI.out.x1)).trans HTI.out.x1; have h1 := heap_cell h0 0; have h2 := heap_cell h0 1; exact ⟨by simpa [sgC, HAB.out] using h1, by simpa [sgC, HAV.out] using h2⟩
     have HC3 : Hid (∀ v, Below wr.heap.size wr v → v.cell? ⟨X3, 0, none⟩ = some (.int .i64 n) ∧ v.cell? ⟨X3, 1, none⟩ = some (.slice a (Q.mk n f).length c0)) := mkHid fun v h => two_cells (T := 38) (by have h0 := (h.block X3 (heap_lt HTI.out.x3)).trans HTI.out.x3; rw [← HFA.out] at h0; exact h0)
     have HCX : Hid (∀ v, Below wr.heap.size wr v → v.cell? ⟨Bx, 0, none⟩ = some (.slice (some ⟨g, 0, none⟩) Z.B.length A.c0)) := mkHid fun v h => by have h0 := heap_cell (HTI.out.g.below h).box 0; simpa [sgC, HAG.out] using h0
     have HRR : Hid (∀ v, Below wr.heap.size wr v → v.cell? ⟨bb, ob + (i + 1), none⟩ = some (.slice (some ⟨bl, ol, none⟩) b.length cl)) := mkHid fun v h => HR1.out v (below_step HTI.out.bel h)
     have HRW : Hid (∀ z, Below wr.heap.size wr z → z.cell? ⟨bv, ov + i * 3, none⟩ = some (.int .i64 vx.1) ∧ z.cell? ⟨bv, ov + i * 3 + 1, none⟩ = some (.int .i64 vx.2.1) ∧ z.cell? ⟨bv, ov + i * 3 + 2, none⟩ = some (.bool vx.2.2)) := mkHid fun z h => HRV.out z (below_step HTI.out.bel h)
     have HRM : Hid (∀ z, Below wr.heap.size wr z → z.cell? ⟨gm, i, none⟩ = some (.bool mz)) := mkHid fun z h => (HTI.out.below HCC.out h).mb i mz hm
     have HRC : Hid (∀ z, Below wr.heap.size wr z → z.cell? ⟨g, k, none⟩ = some (.slice ac cur.length cc)) := mkHid fun z h => (h.cell (p := ⟨g, k, none⟩) HLG.out).trans HGC.out
     have HCL : Hid (cur.length ≤ 1048576) := mkHid (by have h := HSE.out.tt; simp only [tot] at h; omega)
     have HCB2 : Hid (cur.length + b.length ≤ 1048576) := mkHid (by have h := HSE.out.tt; rw [drop_at hb] at h; simp only [tot] at h; omega)
     obtain ⟨bq, hbq⟩ : ∃ z, anyB f b cur 0 = z := ⟨_, rfl⟩
     obtain ⟨bn, hbn⟩ : ∃ z, noVB vx = z := ⟨_, rfl⟩
     obtain ⟨lm, hlm⟩ : ∃ z, setY (cur ++ b) = z := ⟨_, rfl⟩
     have HCB : Hid (∀ v, Below wr.heap.size wr v → Calls Tryz.prog 81 #[.agg #[.int .i64 n, .slice a (Q.mk n f).length c0], .slice (some ⟨bl, ol, none⟩) b.length cl, .slice ac cur.length cc, .int .i64 0] v fun e w' => e = .returned (.bool bq) ∧ Below v.heap.size v w') := mkHid fun v h => by rw [← hbq]; exact HBT.out 0 b cur _ ac cl cc v ⟨by omega, by omega⟩ HLL.out HCL.out (HWD.out b (List.mem_of_getElem? hb)) HSE.out.wd (HLF.out.below (below_step HTI.out.bel h)) (HA1.out.below (below_step HTI.out.bel h)) (HAC.out.below h)
     have HCN : Hid (∀ z, Calls Tryz.prog 82 #[.agg #[.int .i64 vx.1, .int .i64 vx.2.1, .bool vx.2.2]] z fun e w' => e = .returned (.bool bn) ∧ Below z.heap.size z w') := mkHid fun z => by rw [← hbn]; exact l09IsNone_any vx z
     have HSO : Hid (∀ (v : World) (q c : Nat), At eY v (some ⟨q, 0, none⟩) (cur ++ b) → Calls Tryz.prog 83 #[.slice (some ⟨q, 0, none⟩) (cur.length + b.length) c] v fun e w' => Below v.heap.size v w' ∧ ∃ (gr cr : Nat), e = .returned (.slice (some ⟨gr, 0, none⟩) lm.length cr) ∧ Own eY 49 w' v.heap.size (.slice (some ⟨gr, 0, none⟩) lm.length cr) lm) := mkHid fun v q c h => by have h9 := sSort_any (cur ++ b) (some ⟨q, 0, none⟩) c v (by rw [List.length_append]; exact HCB2.out) h; rw [List.length_append, hlm] at h9; exact h9
     have HFO : Hid ((mz && (bn || bq)) = true → ShE f n S FM TS ⟨Z.B.set k lm, Z.V, Z.M⟩ P lm (i + 1)) := mkHid fun hc => by have h := HSE.out.fold hb hv hm HWD.out (by rw [hbn, hbq]; exact hc) hlm; rw [HK.out] at h; exact h
     have HKE : Hid ((mz && (bn || bq)) = false → ShE f n S FM TS ⟨Z.B ++ [b], Z.V ++ [vx], Z.M ++ [mz]⟩ (P ++ [cur]) b (i + 1)) := mkHid fun hc => HSE.out.keep hb hv hm HWD.out (by rw [hbn, hbq]; exact hc)
     have HNB : Hid (Z.B.length ≤ 1048576 ∧ Z.V.length ≤ 1048576 ∧ Z.M.length ≤ 1048576) := mkHid (by have h1 := HSE.out.pl; have h2 := HSE.out.vl; have h3 := HSE.out.ml; omega)
     have hkb : k ≤ 1048576 := by have := HNB.out; omega
     have i0 : (0 : Int) ≤ (i : Int) := by omega
     have i1 : (i : Int) < (S.M.length : Int) := by omega
     have iv : (i : Int) < (S.V.length : Int) := by have := HOK.out.m; have := HOK.out.v; omega
     have j2 : ((i + 1 : Nat) : Int) < (S.B.length : Int) := by have := HOK.out.m; omega
     have j3 : (i : Int) + 1 < (S.B.length : Int) := by have := HOK.out.m; omega
     have j0 : (0 : Int) ≤ ((i + 1 : Nat) : Int) := by omega
     have j4 : (0 : Int) ≤ (i : Int) + 1 := by omega
     have k0 : (0 : Int) ≤ (k : Int) := by omega
     have k1 : (k : Int) < (Z.B.length : Int) := by omega
     have hw1 : IntKind.i64.wrap ((i : Int) + 1) = ((i + 1 : Nat) : Int) := by rw [IntWalk.i64_in _ (by omega)]; omega
     have hw2 : wrap64 ((i : Int) + 1) = ((i + 1 : Nat) : Int) := by unfold wrap64; omega
     have hw3 : IntKind.i64.wrap ((Z.B.length : Int) - 1) = (k : Int) := by rw [IntWalk.i64_in _ (by omega)]; omega
     have hw4 : wrap64 ((Z.B.length : Int) - 1) = (k : Int) := by unfold wrap64; omega
     have x0 := HCX.out wr (Below.refl _ _)
     have HMI := mkHid hm
     clear hb hv hm hr1 ha1 hlbl hql hav hlbv hqv dv0 dv1 dv2 hzl hzc hk hag hlg hqg hgc hac hbq hbn hlm
     go_upto_region 12 with fail
     clear x0
     go_cut [81] from 45 to 133 (fun s v => s = .bool (mz && (bn || bq)) ∧ Below wr.heap.size wr v)
     case first =>
      clear HFO HKE HSO HFZ
      cases mz
      ·go_wp2_with fail
       refine wp_region_inv2 (fun zA0 L zA v9 => ∃ (zB : Nat → Bool) (zS : Nat → Value), L = #[zB 0, zB 1, zB 2, zB 3, zB 4, zB 5, zB 6, zB 7, zB 8, zB 9, zB 10, zB 11, zB 12, zB 13, zB 14, zB 15, zB 16, zB 17, zB 18, zB 19, zB 20, zB 21, zB 22, zB 23, zB 24, zB 25, zB 26] ∧ zA = pC zA0 55 82 [zS 55, zS 56, zS 57, zS 58, zS 59, zS 60, zS 61, zS 62, zS 63, zS 64, zS 65, zS 66, zS 67, zS 68, zS 69, zS 70, zS 71, zS 72, zS 73, zS 74, zS 75, zS 76, zS 77, zS 78, zS 79, zS 80, zS 81] ∧ FF 55 [.slice (some ⟨gm, 0, none⟩) S.M.length cm, .int .i64 (i : Int), .pointer (some ⟨gm, i, none⟩), .bool false, .bool false, undef, undef, undef, undef, undef, undef, undef, undef, undef, undef, undef, undef, undef, undef, undef, undef, undef, undef, undef, undef, undef, .bool false] zB zS ∧ Below wr.heap.size wr v9) (by kernel_rfl) ?_ ?_ ?_
       ·exact ⟨fun _ => false, fun zd => [u55, u56, u57, u58, u59, u60, u61, u62, u63, u64, u65, u66, u67, u68, u69, u70, u71, u72, u73, u74, u75, u76, u77, u78, u79, u80, u81].getD (zd - 55) undef, rfl, by kernel_rfl, ff0, (Below.refl _ _).drew⟩
       ·refine StepsI.cons rfl ?_ ?_
        ·rintro L zA v9 ⟨zB, zS, rfl, rfl, hF, hW⟩ hL hm K hK
         have hb0 : zB 0 = false := by simpa using hL
         clear hL hm
         simp only [pCE]
         have HWz := mkHid hW
         clear hW
         go_simp
         have hW := HWz.out
         clear HWz
         exact hK.out _ _ ⟨ups zB [0], upv _ _ zS [0], rfl, by kernel_rfl, rk hF rfl, hW⟩
        refine StepsI.cons rfl ?_ ?_
        ·rintro L zA v9 ⟨zB, zS, rfl, rfl, hF, hW⟩ hL hm K hK
         have hb1 : zB 1 = false := by simpa using hL
         clear hL hm
         simp only [pCE]
         have HWz := mkHid hW
         clear hW
         go_simp
         have hW := HWz.out
         clear HWz
         exact hK.out _ _ ⟨ups zB [1], upv _ _ zS [1], rfl, by kernel_rfl, rk hF rfl, hW⟩
        refine StepsI.cons rfl ?_ ?_
        ·rintro L zA v9 ⟨zB, zS, rfl, rfl, hF, hW⟩ hL hm K hK
         have hb2 : zB 2 = false := by simpa using hL
         have hb0 : zB 0 = true := mt 0 hm (by kernel_rfl)
         have hb1 : zB 1 = true := mt 1 hm (by kernel_rfl)
         have e0 : zS 55 = .slice (some ⟨gm, 0, none⟩) S.M.length cm := hF 0 _ rfl hb0
         have e1 : zS 56 = .int .i64 (i : Int) := hF 1 _ rfl hb1
         clear hL hm
         simp only [pCE]
         simp only [e0, e1]
         have HWz := mkHid hW
         clear hW
         go_simp
         have hW := HWz.out
         clear HWz
         exact hK.out _ _ ⟨ups zB [2], upv _ _ zS [2, 1, 0], rfl, by kernel_rfl, rk hF rfl, hW⟩
        refine StepsI.cons rfl ?_ ?_
        ·rintro L zA v9 ⟨zB, zS, rfl, rfl, hF, hW⟩ hL hm K hK
         have hb3 : zB 3 = false := by simpa using hL
         have hb2 : zB 2 = true := mt 2 hm (by kernel_rfl)
         have e2 : zS 57 = .pointer (some ⟨gm, i, none⟩) := hF 2 _ rfl hb2
         clear hL hm
         simp only [pCE]
         simp only [e2]
         have q0 := HRM.out _ hW
         have HWz := mkHid hW
         clear hW
         go_simp
         have hW := HWz.out
         clear HWz
         exact hK.out _ _ ⟨ups zB [3], upv _ _ zS [3, 2], rfl, by kernel_rfl, rk hF rfl, hW⟩
        refine StepsI.cons rfl ?_ ?_
        ·rintro L zA v9 ⟨zB, zS, rfl, rfl, hF, hW⟩ hL hm K hK
         have hb4 : zB 4 = false := by simpa using hL
         have hb3 : zB 3 = true := mt 3 hm (by kernel_rfl)
         have e3 : zS 58 = .bool false := hF 3 _ rfl hb3
         clear hL hm
         simp only [pCE]
         simp only [e3]
         have HWz := mkHid hW
         clear hW
         go_simp
         have hW := HWz.out
         clear HWz
         exact hK.out _ _ ⟨ups zB [4], upv _ _ zS [4, 3], rfl, by kernel_rfl, rk hF rfl, hW⟩
        refine StepsI.cons rfl ?_ ?_
        ·rintro L zA v9 ⟨zB, zS, rfl, rfl, hF, hW⟩ hL hm K hK
         have hb5 : zB 5 = false := by simpa using hL
         have hb4 : zB 4 = true := mt 4 hm (by kernel_rfl)
         have e4 : zS 59 = .bool false := hF 4 _ rfl hb4
         clear hL hm
         simp only [pCE]
         simp only [e4]
         rw [if_neg (by exact Bool.false_ne_true)]
         exact hK.out _ _ ⟨ups zB [5], upv _ _ zS [5, 4], rfl, by kernel_rfl, rk hF rfl, hW⟩
        refine StepsI.cons rfl ?_ ?_
        ·rintro L zA v9 ⟨zB, zS, rfl, rfl, hF, hW⟩ hL hm K hK
         have hb6 : zB 6 = false := by simpa using hL
         have hb4 : zB 4 = true := mt 4 hm (by kernel_rfl)
         have e4 : zS 59 = .bool false := hF 4 _ rfl hb4
         clear hL hm
         simp only [pCE]
         simp only [e4]
         rw [if_neg (by exact Bool.false_ne_true)]
         exact hK.out _ _ ⟨ups zB [6], upv _ _ zS [6, 4], rfl, by kernel_rfl, rk hF rfl, hW⟩
        refine StepsI.cons rfl ?_ ?_
        ·rintro L zA v9 ⟨zB, zS, rfl, rfl, hF, hW⟩ hL hm K hK
         have hb7 : zB 7 = false := by simpa using hL
         have hb4 : zB 4 = true := mt 4 hm (by kernel_rfl)
         have e4 : zS 59 = .bool false := hF 4 _ rfl hb4
         clear hL hm
         simp only [pCE]
         simp only [e4]
         rw [if_neg (by exact Bool.false_ne_true)]
         exact hK.out _ _ ⟨ups zB [7], upv _ _ zS [7, 4], rfl, by kernel_rfl, rk hF rfl, hW⟩
        refine StepsI.cons rfl ?_ ?_
        ·rintro L zA v9 ⟨zB, zS, rfl, rfl, hF, hW⟩ hL hm K hK
         have hb8 : zB 8 = false := by simpa using hL
         have hb4 : zB 4 = true := mt 4 hm (by kernel_rfl)
         have e4 : zS 59 = .bool false := hF 4 _ rfl hb4
         clear hL hm
         simp only [pCE]
         simp only [e4]
         rw [if_neg (by exact Bool.false_ne_true)]
         exact hK.out _ _ ⟨ups zB [8], upv _ _ zS [8, 4], rfl, by kernel_rfl, rk hF rfl, hW⟩
        refine StepsI.cons rfl ?_ ?_
        ·rintro L zA v9 ⟨zB, zS, rfl, rfl, hF, hW⟩ hL hm K hK
         have hb9 : zB 9 = false := by simpa using hL
         have hb4 : zB 4 = true := mt 4 hm (by kernel_rfl)
         have e4 : zS 59 = .bool false := hF 4 _ rfl hb4
         clear hL hm
         simp only [pCE]
         simp only [e4]
         rw [if_neg (by exact Bool.false_ne_true)]
         exact hK.out _ _ ⟨ups zB [9], upv _ _ zS [9, 4], rfl, by kernel_rfl, rk hF rfl, hW⟩
        refine StepsI.cons rfl ?_ ?_
        ·rintro L zA v9 ⟨zB, zS, rfl, rfl, hF, hW⟩ hL hm K hK
         have hb10 : zB 10 = false := by simpa using hL
         have hb4 : zB 4 = true := mt 4 hm (by kernel_rfl)
         have e4 : zS 59 = .bool false := hF 4 _ rfl hb4
         clear hL hm
         simp only [pCE]
         simp only [e4]
         rw [if_neg (by exact Bool.false_ne_true)]
         exact hK.out _ _ ⟨ups zB [10], upv _ _ zS [10, 4], rfl, by kernel_rfl, rk hF rfl, hW⟩
        refine StepsI.cons rfl ?_ ?_
        ·rintro L zA v9 ⟨zB, zS, rfl, rfl, hF, hW⟩ hL hm K hK
         have hb11 : zB 11 = false := by simpa using hL
         have hb4 : zB 4 = true := mt 4 hm (by kernel_rfl)
         have e4 : zS 59 = .bool false := hF 4 _ rfl hb4
         clear hL hm
         simp only [pCE]
         simp only [e4]
         rw [if_neg (by exact Bool.false_ne_true)]
         exact hK.out _ _ ⟨ups zB [11], upv _ _ zS [11, 4], rfl, by kernel_rfl, rk hF rfl, hW⟩
        refine StepsI.cons rfl ?_ ?_
        ·rintro L zA v9 ⟨zB, zS, rfl, rfl, hF, hW⟩ hL hm K hK
         have hb12 : zB 12 = false := by simpa using hL
         have hb11 : zB 11 = true := mt 11 hm (by kernel_rfl)
         have e11 : zS 66 = undef := hF 11 _ rfl hb11
         clear hL hm
         simp only [pCE]
         simp only [e11]
         rw [if_neg (by exact Bool.false_ne_true)]
         exact hK.out _ _ ⟨ups zB [12], upv _ _ zS [12, 11], rfl, by kernel_rfl, rk hF rfl, hW⟩
        refine StepsI.cons rfl ?_ ?_
        ·rintro L zA v9 ⟨zB, zS, rfl, rfl, hF, hW⟩ hL hm K hK
         have hb13 : zB 13 = false := by simpa using hL
         have hb11 : zB 11 = true := mt 11 hm (by kernel_rfl)
         have e11 : zS 66 = undef := hF 11 _ rfl hb11
         clear hL hm
         simp only [pCE]
         simp only [e11]
         rw [if_neg (by exact Bool.false_ne_true)]
         exact hK.out _ _ ⟨ups zB [13], upv _ _ zS [13, 11], rfl, by kernel_rfl, rk hF rfl, hW⟩
        refine StepsI.cons rfl ?_ ?_
        ·rintro L zA v9 ⟨zB, zS, rfl, rfl, hF, hW⟩ hL hm K hK
         have hb14 : zB 14 = false := by simpa using hL
         have hb11 : zB 11 = true := mt 11 hm (by kernel_rfl)
         have e11 : zS 66 = undef := hF 11 _ rfl hb11
         clear hL hm
         simp only [pCE]
         simp only [e11]
         rw [if_neg (by exact Bool.false_ne_true)]
         exact hK.out _ _ ⟨ups zB [14], upv _ _ zS [14, 11], rfl, by kernel_rfl, rk hF rfl, hW⟩
        refine StepsI.cons rfl ?_ ?_
        ·rintro L zA v9 ⟨zB, zS, rfl, rfl, hF, hW⟩ hL hm K hK
         have hb15 : zB 15 = false := by simpa using hL
         have hb11 : zB 11 = true := mt 11 hm (by kernel_rfl)
         have e11 : zS 66 = undef := hF 11 _ rfl hb11
         clear hL hm
         simp only [pCE]
         simp only [e11]
         rw [if_neg (by exact Bool.false_ne_true)]
         exact hK.out _ _ ⟨ups zB [15], upv _ _ zS [15, 11], rfl, by kernel_rfl, rk hF rfl, hW⟩
        refine StepsI.cons rfl ?_ ?_
        ·rintro L zA v9 ⟨zB, zS, rfl, rfl, hF, hW⟩ hL hm K hK
         have hb16 : zB 16 = false := by simpa using hL
         have hb11 : zB 11 = true := mt 11 hm (by kernel_rfl)
         have e11 : zS 66 = undef := hF 11 _ rfl hb11
         clear hL hm
         simp only [pCE]
         simp only [e11]
         rw [if_neg (by exact Bool.false_ne_true)]
         exact hK.out _ _ ⟨ups zB [16], upv _ _ zS [16, 11], rfl, by kernel_rfl, rk hF rfl, hW⟩
        refine StepsI.cons rfl ?_ ?_
        ·rintro L zA v9 ⟨zB, zS, rfl, rfl, hF, hW⟩ hL hm K hK
         have hb17 : zB 17 = false := by simpa using hL
         have hb11 : zB 11 = true := mt 11 hm (by kernel_rfl)
         have e11 : zS 66 = undef := hF 11 _ rfl hb11
         clear hL hm
         simp only [pCE]
         simp only [e11]
         rw [if_neg (by exact Bool.false_ne_true)]
         exact hK.out _ _ ⟨ups zB [17], upv _ _ zS [17, 11], rfl, by kernel_rfl, rk hF rfl, hW⟩
        refine StepsI.cons rfl ?_ ?_
        ·rintro L zA v9 ⟨zB, zS, rfl, rfl, hF, hW⟩ hL hm K hK
         have hb18 : zB 18 = false := by simpa using hL
         have hb11 : zB 11 = true := mt 11 hm (by kernel_rfl)
         have e11 : zS 66 = undef := hF 11 _ rfl hb11
         clear hL hm
         simp only [pCE]
         simp only [e11]
         rw [if_neg (by exact Bool.false_ne_true)]
         exact hK.out _ _ ⟨ups zB [18], upv _ _ zS [18, 11], rfl, by kernel_rfl, rk hF rfl, hW⟩
        refine StepsI.cons rfl ?_ ?_
        ·rintro L zA v9 ⟨zB, zS, rfl, rfl, hF, hW⟩ hL hm K hK
         have hb19 : zB 19 = false := by simpa using hL
         have hb11 : zB 11 = true := mt 11 hm (by kernel_rfl)
         have e11 : zS 66 = undef := hF 11 _ rfl hb11
         clear hL hm
         simp only [pCE]
         simp only [e11]
         rw [if_neg (by exact Bool.false_ne_true)]
         exact hK.out _ _ ⟨ups zB [19], upv _ _ zS [19, 11], rfl, by kernel_rfl, rk hF rfl, hW⟩
        refine StepsI.cons rfl ?_ ?_
        ·rintro L zA v9 ⟨zB, zS, rfl, rfl, hF, hW⟩ hL hm K hK
         have hb20 : zB 20 = false := by simpa using hL
         have hb11 : zB 11 = true := mt 11 hm (by kernel_rfl)
         have e11 : zS 66 = undef := hF 11 _ rfl hb11
         clear hL hm
         simp only [pCE]
         simp only [e11]
         rw [if_neg (by exact Bool.false_ne_true)]
         exact hK.out _ _ ⟨ups zB [20], upv _ _ zS [20, 11], rfl, by kernel_rfl, rk hF rfl, hW⟩
        refine StepsI.cons rfl ?_ ?_
        ·rintro L zA v9 ⟨zB, zS, rfl, rfl, hF, hW⟩ hL hm K hK
         have hb21 : zB 21 = false := by simpa using hL
         have hb11 : zB 11 = true := mt 11 hm (by kernel_rfl)
         have e11 : zS 66 = undef := hF 11 _ rfl hb11
         clear hL hm
         simp only [pCE]
         simp only [e11]
         rw [if_neg (by exact Bool.false_ne_true)]
         exact hK.out _ _ ⟨ups zB [21], upv _ _ zS [21, 11], rfl, by kernel_rfl, rk hF rfl, hW⟩
        refine StepsI.cons rfl ?_ ?_
        ·rintro L zA v9 ⟨zB, zS, rfl, rfl, hF, hW⟩ hL hm K hK
         have hb22 : zB 22 = false := by simpa using hL
         have hb11 : zB 11 = true := mt 11 hm (by kernel_rfl)
         have e11 : zS 66 = undef := hF 11 _ rfl hb11
         clear hL hm
         simp only [pCE]
         simp only [e11]
         rw [if_neg (by exact Bool.false_ne_true)]
         exact hK.out _ _ ⟨ups zB [22], upv _ _ zS [22, 11], rfl, by kernel_rfl, rk hF rfl, hW⟩
        refine StepsI.cons rfl ?_ ?_
        ·rintro L zA v9 ⟨zB, zS, rfl, rfl, hF, hW⟩ hL hm K hK
         have hb23 : zB 23 = false := by simpa using hL
         have hb11 : zB 11 = true := mt 11 hm (by kernel_rfl)
         have e11 : zS 66 = undef := hF 11 _ rfl hb11
         clear hL hm
         simp only [pCE]
         simp only [e11]
         rw [if_neg (by exact Bool.false_ne_true)]
         exact hK.out _ _ ⟨ups zB [23], upv _ _ zS [23, 11], rfl, by kernel_rfl, rk hF rfl, hW⟩
        refine StepsI.cons rfl ?_ ?_
        ·rintro L zA v9 ⟨zB, zS, rfl, rfl, hF, hW⟩ hL hm K hK
         have hb24 : zB 24 = false := by simpa using hL
         have hb11 : zB 11 = true := mt 11 hm (by kernel_rfl)
         have e11 : zS 66 = undef := hF 11 _ rfl hb11
         clear hL hm
         simp only [pCE]
         simp only [e11]
         rw [if_neg (by exact Bool.false_ne_true)]
         exact hK.out _ _ ⟨ups zB [24], upv _ _ zS [24, 11], rfl, by kernel_rfl, rk hF rfl, hW⟩
        refine StepsI.cons rfl ?_ ?_
        ·rintro L zA v9 ⟨zB, zS, rfl, rfl, hF, hW⟩ hL hm K hK
         have hb25 : zB 25 = false := by simpa using hL
         have hb4 : zB 4 = true := mt 4 hm (by kernel_rfl)
         have e4 : zS 59 = .bool false := hF 4 _ rfl hb4
         clear hL hm
         simp only [pCE]
         simp only [e4]
         rw [if_neg (by exact Bool.false_ne_true)]
         exact hK.out _ _ ⟨ups zB [25], upv _ _ zS [25, 4], rfl, by kernel_rfl, rk hF rfl, hW⟩
        refine StepsI.cons rfl ?_ ?_
        ·rintro L zA v9 ⟨zB, zS, rfl, rfl, hF, hW⟩ hL hm K hK
         have hb26 : zB 26 = false := by simpa using hL
         have hb4 : zB 4 = true := mt 4 hm (by kernel_rfl)
         have hb25 : zB 25 = true := mt 25 hm (by kernel_rfl)
         have e4 : zS 59 = .bool false := hF 4 _ rfl hb4
         have e25 : zS 80 = undef := hF 25 _ rfl hb25
         clear hL hm
         simp only [pCE]
         simp only [e4, e25]
         have HWz := mkHid hW
         clear hW
         go_simp
         have hW := HWz.out
         clear HWz
         exact hK.out _ _ ⟨ups zB [26], upv _ _ zS [26, 25, 4], rfl, by kernel_rfl, rk hF rfl, hW⟩
        exact StepsI.nil (by kernel_rfl)
       ·rintro L zA v9 ⟨zB, zS, rfl, rfl, hF, hW⟩ hr
        have hu := all_up (by kernel_rfl) (N := 27) (by kernel_rfl) hr
        have hb0 : zB 0 = true := by simpa using hu 0 (by decide)
        have hb1 : zB 1 = true := by simpa using hu 1 (by decide)
        have hb2 : zB 2 = true := by simpa using hu 2 (by decide)
        have hb3 : zB 3 = true := by simpa using hu 3 (by decide)
        have hb4 : zB 4 = true := by simpa using hu 4 (by decide)
        have hb5 : zB 5 = true := by simpa using hu 5 (by decide)
        have hb6 : zB 6 = true := by simpa using hu 6 (by decide)
        have hb7 : zB 7 = true := by simpa using hu 7 (by decide)
        have hb8 : zB 8 = true := by simpa using hu 8 (by decide)
        have hb9 : zB 9 = true := by simpa using hu 9 (by decide)
        have hb10 : zB 10 = true := by simpa using hu 10 (by decide)
        have hb11 : zB 11 = true := by simpa using hu 11 (by decide)
        have hb12 : zB 12 = true := by simpa using hu 12 (by decide)
        have hb13 : zB 13 = true := by simpa using hu 13 (by decide)
        have hb14 : zB 14 = true := by simpa using hu 14 (by decide)
        have hb15 : zB 15 = true := by simpa using hu 15 (by decide)
        have hb16 : zB 16 = true := by simpa using hu 16 (by decide)
        have hb17 : zB 17 = true := by simpa using hu 17 (by decide)
        have hb18 : zB 18 = true := by simpa using hu 18 (by decide)
        have hb19 : zB 19 = true := by simpa using hu 19 (by decide)
        have hb20 : zB 20 = true := by simpa using hu 20 (by decide)
        have hb21 : zB 21 = true := by simpa using hu 21 (by decide)
        have hb22 : zB 22 = true := by simpa using hu 22 (by decide)
        have hb23 : zB 23 = true := by simpa using hu 23 (by decide)
        have hb24 : zB 24 = true := by simpa using hu 24 (by decide)
        have hb25 : zB 25 = true := by simpa using hu 25 (by decide)
        have hb26 : zB 26 = true := by simpa using hu 26 (by decide)
        have e0 : zS 55 = .slice (some ⟨gm, 0, none⟩) S.M.length cm := hF 0 _ rfl hb0
        have e1 : zS 56 = .int .i64 (i : Int) := hF 1 _ rfl hb1
        have e2 : zS 57 = .pointer (some ⟨gm, i, none⟩) := hF 2 _ rfl hb2
        have e3 : zS 58 = .bool false := hF 3 _ rfl hb3
        have e4 : zS 59 = .bool false := hF 4 _ rfl hb4
        have e5 : zS 60 = undef := hF 5 _ rfl hb5
        have e6 : zS 61 = undef := hF 6 _ rfl hb6
        have e7 : zS 62 = undef := hF 7 _ rfl hb7
        have e8 : zS 63 = undef := hF 8 _ rfl hb8
        have e9 : zS 64 = undef := hF 9 _ rfl hb9
        have e10 : zS 65 = undef := hF 10 _ rfl hb10
        have e11 : zS 66 = undef := hF 11 _ rfl hb11
        have e12 : zS 67 = undef := hF 12 _ rfl hb12
        have e13 : zS 68 = undef := hF 13 _ rfl hb13
        have e14 : zS 69 = undef := hF 14 _ rfl hb14
        have e15 : zS 70 = undef := hF 15 _ rfl hb15
        have e16 : zS 71 = undef := hF 16 _ rfl hb16
        have e17 : zS 72 = undef := hF 17 _ rfl hb17
        have e18 : zS 73 = undef := hF 18 _ rfl hb18
        have e19 : zS 74 = undef := hF 19 _ rfl hb19
        have e20 : zS 75 = undef := hF 20 _ rfl hb20
        have e21 : zS 76 = undef := hF 21 _ rfl hb21
        have e22 : zS 77 = undef := hF 22 _ rfl hb22
        have e23 : zS 78 = undef := hF 23 _ rfl hb23
        have e24 : zS 79 = undef := hF 24 _ rfl hb24
        have e25 : zS 80 = undef := hF 25 _ rfl hb25
        have e26 : zS 81 = .bool false := hF 26 _ rfl hb26
        clear hu hr hF
        simp only [pCE]
        simp only [e0, e1, e2, e3, e4, e5, e6, e7, e8, e9, e10, e11, e12, e13, e14, e15, e16, e17, e18, e19, e20, e21, e22, e23, e24, e25, e26]
        clear e0 e1 e2 e3 e4 e5 e6 e7 e8 e9 e10 e11 e12 e13 e14 e15 e16 e17 e18 e19 e20 e21 e22 e23 e24 e25 e26
        clear hb0 hb1 hb2 hb3 hb4 hb5 hb6 hb7 hb8 hb9 hb10 hb11 hb12 hb13 hb14 hb15 hb16 hb17 hb18 hb19 hb20 hb21 hb22 hb23 hb24 hb25 hb26
        clear zB zS
        go_wp2_with fail
        go_meet
        case rel => exact ⟨rfl, hW⟩
      ·cases bn
       ·go_wp2_with fail
        refine wp_region_inv2 (fun zA0 L zA v9 => ∃ (zB : Nat → Bool) (zS : Nat → Value), L = #[zB 0, zB 1, zB 2, zB 3, zB 4, zB 5, zB 6, zB 7, zB 8, zB 9, zB 10, zB 11, zB 12, zB 13, zB 14, zB 15, zB 16, zB 17, zB 18, zB 19, zB 20, zB 21, zB 22, zB 23, zB 24, zB 25, zB 26] ∧ zA = pC zA0 55 82 [zS 55, zS 56, zS 57, zS 58, zS 59, zS 60, zS 61, zS 62, zS 63, zS 64, zS 65, zS 66, zS 67, zS 68, zS 69, zS 70, zS 71, zS 72, zS 73, zS 74, zS 75, zS 76, zS 77, zS 78, zS 79, zS 80, zS 81] ∧ FF 55 [.slice (some ⟨gm, 0, none⟩) S.M.length cm, .int .i64 (i : Int), .pointer (some ⟨gm, i, none⟩), .bool true, .bool true, .pointer (some ⟨X1, 1, none⟩), .slice (some ⟨bv, ov, none⟩) S.V.length A0.c1, .int .i64 (i : Int), .pointer (some ⟨bv, ov + i * 3, none⟩), .agg #[.int .i64 vx.1, .int .i64 vx.2.1, .bool vx.2.2], .bool false, .bool false, .agg #[.int .i64 n, .slice a (Q.mk n f).length c0], .pointer (some ⟨X1, 0, none⟩), .slice (some ⟨bb, ob, none⟩) S.B.length A0.c0, .int .i64 (i : Int), .int .i64 ((i + 1 : Nat) : Int), .pointer (some ⟨bb, ob + (i + 1), none⟩), .slice (some ⟨bl, ol, none⟩) b.length cl, .pointer (some ⟨Bx, 0, none⟩), .slice (some ⟨g, 0, none⟩) Z.B.length A.c0, .int .i64 (k : Int), .pointer (some ⟨g, k, none⟩), .slice ac cur.length cc, .bool bq, .bool bq, .bool bq] zB zS ∧ Below wr.heap.size wr v9) (by kernel_rfl) ?_ ?_ ?_
        ·exact ⟨fun _ => false, fun zd => [u55, u56, u57, u58, u59, u60, u61, u62, u63, u64, u65, u66, u67, u68, u69, u70, u71, u72, u73, u74, u75, u76, u77, u78, u79, u80, u81].getD (zd - 55) undef, rfl, by kernel_rfl, ff0, (Below.refl _ _).drew⟩
        ·refine StepsI.cons rfl ?_ ?_
         ·rintro L zA v9 ⟨zB, zS, rfl, rfl, hF, hW⟩ hL hm K hK
          have hb0 : zB 0 = false := by simpa using hL
          clear hL hm
          simp only [pCE]
          have HWz := mkHid hW
          clear hW
          go_simp
          have hW := HWz.out
          clear HWz
          exact hK.out _ _ ⟨ups zB [0], upv _ _ zS [0], rfl, by kernel_rfl, rk hF rfl, hW⟩
         refine StepsI.cons rfl ?_ ?_
         ·rintro L zA v9 ⟨zB, zS, rfl, rfl, hF, hW⟩ hL hm K hK
          have hb1 : zB 1 = false := by simpa using hL
          clear hL hm
          simp only [pCE]
          have HWz := mkHid hW
          clear hW
          go_simp
          have hW := HWz.out
          clear HWz
          exact hK.out _ _ ⟨ups zB [1], upv _ _ zS [1], rfl, by kernel_rfl, rk hF rfl, hW⟩
         refine StepsI.cons rfl ?_ ?_
         ·rintro L zA v9 ⟨zB, zS, rfl, rfl, hF, hW⟩ hL hm K hK
          have hb2 : zB 2 = false := by simpa using hL
          have hb0 : zB 0 = true := mt 0 hm (by kernel_rfl)
          have hb1 : zB 1 = true := mt 1 hm (by kernel_rfl)
          have e0 : zS 55 = .slice (some ⟨gm, 0, none⟩) S.M.length cm := hF 0 _ rfl hb0
          have e1 : zS 56 = .int .i64 (i : Int) := hF 1 _ rfl hb1
          clear hL hm
          simp only [pCE]
          simp only [e0, e1]
          have HWz := mkHid hW
          clear hW
          go_simp
          have hW := HWz.out
          clear HWz
          exact hK.out _ _ ⟨ups zB [2], upv _ _ zS [2, 1, 0], rfl, by kernel_rfl, rk hF rfl, hW⟩
         refine StepsI.cons rfl ?_ ?_
         ·rintro L zA v9 ⟨zB, zS, rfl, rfl, hF, hW⟩ hL hm K hK
          have hb3 : zB 3 = false := by simpa using hL
          have hb2 : zB 2 = true := mt 2 hm (by kernel_rfl)
          have e2 : zS 57 = .pointer (some ⟨gm, i, none⟩) := hF 2 _ rfl hb2
          clear hL hm
          simp only [pCE]
          simp only [e2]
          have q0 := HRM.out _ hW
          have HWz := mkHid hW
          clear hW
          go_simp
          have hW := HWz.out
          clear HWz
          exact hK.out _ _ ⟨ups zB [3], upv _ _ zS [3, 2], rfl, by kernel_rfl, rk hF rfl, hW⟩
         refine StepsI.cons rfl ?_ ?_
         ·rintro L zA v9 ⟨zB, zS, rfl, rfl, hF, hW⟩ hL hm K hK
          have hb4 : zB 4 = false := by simpa using hL
          have hb3 : zB 3 = true := mt 3 hm (by kernel_rfl)
          have e3 : zS 58 = .bool true := hF 3 _ rfl hb3
          clear hL hm
          simp only [pCE]
          simp only [e3]
          have HWz := mkHid hW
          clear hW
          go_simp
          have hW := HWz.out
          clear HWz
          exact hK.out _ _ ⟨ups zB [4], upv _ _ zS [4, 3], rfl, by kernel_rfl, rk hF rfl, hW⟩
         refine StepsI.cons rfl ?_ ?_
         ·rintro L zA v9 ⟨zB, zS, rfl, rfl, hF, hW⟩ hL hm K hK
          have hb5 : zB 5 = false := by simpa using hL
          have hb4 : zB 4 = true := mt 4 hm (by kernel_rfl)
          have e4 : zS 59 = .bool true := hF 4 _ rfl hb4
          clear hL hm
          simp only [pCE]
          simp only [e4]
          have HWz := mkHid hW
          clear hW
          go_simp
          have hW := HWz.out
          clear HWz
          exact hK.out _ _ ⟨ups zB [5], upv _ _ zS [5, 4], rfl, by kernel_rfl, rk hF rfl, hW⟩
         refine StepsI.cons rfl ?_ ?_
         ·rintro L zA v9 ⟨zB, zS, rfl, rfl, hF, hW⟩ hL hm K hK
          have hb6 : zB 6 = false := by simpa using hL
          have hb4 : zB 4 = true := mt 4 hm (by kernel_rfl)
          have hb5 : zB 5 = true := mt 5 hm (by kernel_rfl)
          have e4 : zS 59 = .bool true := hF 4 _ rfl hb4
          have e5 : zS 60 = .pointer (some ⟨X1, 1, none⟩) := hF 5 _ rfl hb5
          clear hL hm
          simp only [pCE]
          simp only [e4, e5]
          obtain ⟨_, q0⟩ := HC1.out _ hW
          have HWz := mkHid hW
          clear hW
          go_simp
          have hW := HWz.out
          clear HWz
          exact hK.out _ _ ⟨ups zB [6], upv _ _ zS [6, 5, 4], rfl, by kernel_rfl, rk hF rfl, hW⟩
         refine StepsI.cons rfl ?_ ?_
         ·rintro L zA v9 ⟨zB, zS, rfl, rfl, hF, hW⟩ hL hm K hK
          have hb7 : zB 7 = false := by simpa using hL
          have hb4 : zB 4 = true := mt 4 hm (by kernel_rfl)
          have e4 : zS 59 = .bool true := hF 4 _ rfl hb4
          clear hL hm
          simp only [pCE]
          simp only [e4]
          have HWz := mkHid hW
          clear hW
          go_simp
          have hW := HWz.out
          clear HWz
          exact hK.out _ _ ⟨ups zB [7], upv _ _ zS [7, 4], rfl, by kernel_rfl, rk hF rfl, hW⟩
         refine StepsI.cons rfl ?_ ?_
         ·rintro L zA v9 ⟨zB, zS, rfl, rfl, hF, hW⟩ hL hm K hK
          have hb8 : zB 8 = false := by simpa using hL
          have hb4 : zB 4 = true := mt 4 hm (by kernel_rfl)
          have hb6 : zB 6 = true := mt 6 hm (by kernel_rfl)
          have hb7 : zB 7 = true := mt 7 hm (by kernel_rfl)
          have e4 : zS 59 = .bool true := hF 4 _ rfl hb4
          have e6 : zS 61 = .slice (some ⟨bv, ov, none⟩) S.V.length A0.c1 := hF 6 _ rfl hb6
          have e7 : zS 62 = .int .i64 (i : Int) := hF 7 _ rfl hb7
          clear hL hm
          simp only [pCE]
          simp only [e4, e6, e7]
          have HWz := mkHid hW
          clear hW
          go_simp
          have hW := HWz.out
          clear HWz
          exact hK.out _ _ ⟨ups zB [8], upv _ _ zS [8, 7, 6, 4], rfl, by kernel_rfl, rk hF rfl, hW⟩
         refine StepsI.cons rfl ?_ ?_
         ·rintro L zA v9 ⟨zB, zS, rfl, rfl, hF, hW⟩ hL hm K hK
          have hb9 : zB 9 = false := by simpa using hL
          have hb4 : zB 4 = true := mt 4 hm (by kernel_rfl)
          have hb8 : zB 8 = true := mt 8 hm (by kernel_rfl)
          have e4 : zS 59 = .bool true := hF 4 _ rfl hb4
          have e8 : zS 63 = .pointer (some ⟨bv, ov + i * 3, none⟩) := hF 8 _ rfl hb8
          clear hL hm
          simp only [pCE]
          simp only [e4, e8]
          obtain ⟨d0, d1, d2⟩ := HRW.out _ hW
          have HWz := mkHid hW
          clear hW
          go_simp
          have hW := HWz.out
          clear HWz
          exact hK.out _ _ ⟨ups zB [9], upv _ _ zS [9, 8, 4], rfl, by kernel_rfl, rk hF rfl, hW⟩
         refine StepsI.cons rfl ?_ ?_
         ·rintro L zA v9 ⟨zB, zS, rfl, rfl, hF, hW⟩ hL hm K hK
          have hb10 : zB 10 = false := by simpa using hL
          have hb4 : zB 4 = true := mt 4 hm (by kernel_rfl)
          have hb9 : zB 9 = true := mt 9 hm (by kernel_rfl)
          have e4 : zS 59 = .bool true := hF 4 _ rfl hb4
          have e9 : zS 64 = .agg #[.int .i64 vx.1, .int .i64 vx.2.1, .bool vx.2.2] := hF 9 _ rfl hb9
          clear hL hm
          simp only [pCE]
          simp only [e4, e9]
          have HWz := mkHid hW
          clear hW
          go_simp
          have hW := HWz.out
          clear HWz
          refine (HCN.out _).mono ?_
          rintro e v92 ⟨rfl, hb⟩
          have HWz := mkHid hW
          clear hW
          go_wp2_with fail
          have hW := HWz.out
          clear HWz
          exact hK.out _ _ ⟨ups zB [10], upv _ _ zS [10, 9, 4], rfl, by kernel_rfl, rk hF rfl, below_step hW hb⟩
         refine StepsI.cons rfl ?_ ?_
         ·rintro L zA v9 ⟨zB, zS, rfl, rfl, hF, hW⟩ hL hm K hK
          have hb11 : zB 11 = false := by simpa using hL
          have hb4 : zB 4 = true := mt 4 hm (by kernel_rfl)
          have hb10 : zB 10 = true := mt 10 hm (by kernel_rfl)
          have e4 : zS 59 = .bool true := hF 4 _ rfl hb4
          have e10 : zS 65 = .bool false := hF 10 _ rfl hb10
          clear hL hm
          simp only [pCE]
          simp only [e4, e10]
          have HWz := mkHid hW
          clear hW
          go_simp
          have hW := HWz.out
          clear HWz
          exact hK.out _ _ ⟨ups zB [11], upv _ _ zS [11, 10, 4], rfl, by kernel_rfl, rk hF rfl, hW⟩
         refine StepsI.cons rfl ?_ ?_
         ·rintro L zA v9 ⟨zB, zS, rfl, rfl, hF, hW⟩ hL hm K hK
          have hb12 : zB 12 = false := by simpa using hL
          have hb11 : zB 11 = true := mt 11 hm (by kernel_rfl)
          have e11 : zS 66 = .bool false := hF 11 _ rfl hb11
          clear hL hm
          simp only [pCE]
          simp only [e11]
          obtain ⟨q0, q1⟩ := HC3.out _ hW
          have HWz := mkHid hW
          clear hW
          go_simp
          have hW := HWz.out
          clear HWz
          exact hK.out _ _ ⟨ups zB [12], upv _ _ zS [12, 11], rfl, by kernel_rfl, rk hF rfl, hW⟩
         refine StepsI.cons rfl ?_ ?_
         ·rintro L zA v9 ⟨zB, zS, rfl, rfl, hF, hW⟩ hL hm K hK
          have hb13 : zB 13 = false := by simpa using hL
          have hb11 : zB 11 = true := mt 11 hm (by kernel_rfl)
          have e11 : zS 66 = .bool false := hF 11 _ rfl hb11
          clear hL hm
          simp only [pCE]
          simp only [e11]
          have HWz := mkHid hW
          clear hW
          go_simp
          have hW := HWz.out
          clear HWz
          exact hK.out _ _ ⟨ups zB [13], upv _ _ zS [13, 11], rfl, by kernel_rfl, rk hF rfl, hW⟩
         refine StepsI.cons rfl ?_ ?_
         ·rintro L zA v9 ⟨zB, zS, rfl, rfl, hF, hW⟩ hL hm K hK
          have hb14 : zB 14 = false := by simpa using hL
          have hb11 : zB 11 = true := mt 11 hm (by kernel_rfl)
          have hb13 : zB 13 = true := mt 13 hm (by kernel_rfl)
          have e11 : zS 66 = .bool false := hF 11 _ rfl hb11
          have e13 : zS 68 = .pointer (some ⟨X1, 0, none⟩) := hF 13 _ rfl hb13
          clear hL hm
          simp only [pCE]
          simp only [e11, e13]
          obtain ⟨q0, _⟩ := HC1.out _ hW
          have HWz := mkHid hW
          clear hW
          go_simp
          have hW := HWz.out
          clear HWz
          exact hK.out _ _ ⟨ups zB [14], upv _ _ zS [14, 13, 11], rfl, by kernel_rfl, rk hF rfl, hW⟩
         refine StepsI.cons rfl ?_ ?_
         ·rintro L zA v9 ⟨zB, zS, rfl, rfl, hF, hW⟩ hL hm K hK
          have hb15 : zB 15 = false := by simpa using hL
          have hb11 : zB 11 = true := mt 11 hm (by kernel_rfl)
          have e11 : zS 66 = .bool false := hF 11 _ rfl hb11
          clear hL hm
          simp only [pCE]
          simp only [e11]
          have HWz := mkHid hW
          clear hW
          go_simp
          have hW := HWz.out
          clear HWz
          exact hK.out _ _ ⟨ups zB [15], upv _ _ zS [15, 11], rfl, by kernel_rfl, rk hF rfl, hW⟩
         refine StepsI.cons rfl ?_ ?_
         ·rintro L zA v9 ⟨zB, zS, rfl, rfl, hF, hW⟩ hL hm K hK
          have hb16 : zB 16 = false := by simpa using hL
          have hb11 : zB 11 = true := mt 11 hm (by kernel_rfl)
          have hb15 : zB 15 = true := mt 15 hm (by kernel_rfl)
          have e11 : zS 66 = .bool false := hF 11 _ rfl hb11
          have e15 : zS 70 = .int .i64 (i : Int) := hF 15 _ rfl hb15
          clear hL hm
          simp only [pCE]
          simp only [e11, e15]
          have HWz := mkHid hW
          clear hW
          go_simp
          have hW := HWz.out
          clear HWz
          exact hK.out _ _ ⟨ups zB [16], upv _ _ zS [16, 15, 11], rfl, by kernel_rfl, rk hF rfl, hW⟩
         refine StepsI.cons rfl ?_ ?_
         ·rintro L zA v9 ⟨zB, zS, rfl, rfl, hF, hW⟩ hL hm K hK
          have hb17 : zB 17 = false := by simpa using hL
          have hb11 : zB 11 = true := mt 11 hm (by kernel_rfl)
          have hb14 : zB 14 = true := mt 14 hm (by kernel_rfl)
          have hb16 : zB 16 = true := mt 16 hm (by kernel_rfl)
          have e11 : zS 66 = .bool false := hF 11 _ rfl hb11
          have e14 : zS 69 = .slice (some ⟨bb, ob, none⟩) S.B.length A0.c0 := hF 14 _ rfl hb14
          have e16 : zS 71 = .int .i64 ((i + 1 : Nat) : Int) := hF 16 _ rfl hb16
          clear hL hm
          simp only [pCE]
          simp only [e11, e14, e16]
          have HWz := mkHid hW
          clear hW
          go_simp
          have hW := HWz.out
          clear HWz
          exact hK.out _ _ ⟨ups zB [17], upv _ _ zS [17, 16, 14, 11], rfl, by kernel_rfl, rk hF rfl, hW⟩
         refine StepsI.cons rfl ?_ ?_
         ·rintro L zA v9 ⟨zB, zS, rfl, rfl, hF, hW⟩ hL hm K hK
          have hb18 : zB 18 = false := by simpa using hL
          have hb11 : zB 11 = true := mt 11 hm (by kernel_rfl)
          have hb17 : zB 17 = true := mt 17 hm (by kernel_rfl)
          have e11 : zS 66 = .bool false := hF 11 _ rfl hb11
          have e17 : zS 72 = .pointer (some ⟨bb, ob + (i + 1), none⟩) := hF 17 _ rfl hb17
          clear hL hm
          simp only [pCE]
          simp only [e11, e17]
          have q0 := HRR.out _ hW
          have HWz := mkHid hW
          clear hW
          go_simp
          have hW := HWz.out
          clear HWz
          exact hK.out _ _ ⟨ups zB [18], upv _ _ zS [18, 17, 11], rfl, by kernel_rfl, rk hF rfl, hW⟩
         refine StepsI.cons rfl ?_ ?_
         ·rintro L zA v9 ⟨zB, zS, rfl, rfl, hF, hW⟩ hL hm K hK
          have hb19 : zB 19 = false := by simpa using hL
          have hb11 : zB 11 = true := mt 11 hm (by kernel_rfl)
          have e11 : zS 66 = .bool false := hF 11 _ rfl hb11
          clear hL hm
          simp only [pCE]
          simp only [e11]
          have HWz := mkHid hW
          clear hW
          go_simp
          have hW := HWz.out
          clear HWz
          exact hK.out _ _ ⟨ups zB [19], upv _ _ zS [19, 11], rfl, by kernel_rfl, rk hF rfl, hW⟩
         refine StepsI.cons rfl ?_ ?_
         ·rintro L zA v9 ⟨zB, zS, rfl, rfl, hF, hW⟩ hL hm K hK
          have hb20 : zB 20 = false := by simpa using hL
          have hb11 : zB 11 = true := mt 11 hm (by kernel_rfl)
          have hb19 : zB 19 = true := mt 19 hm (by kernel_rfl)
          have e11 : zS 66 = .bool false := hF 11 _ rfl hb11
          have e19 : zS 74 = .pointer (some ⟨Bx, 0, none⟩) := hF 19 _ rfl hb19
          clear hL hm
          simp only [pCE]
          simp only [e11, e19]
          have q0 := HCX.out _ hW
          have HWz := mkHid hW
          clear hW
          go_simp
          have hW := HWz.out
          clear HWz
          exact hK.out _ _ ⟨ups zB [20], upv _ _ zS [20, 19, 11], rfl, by kernel_rfl, rk hF rfl, hW⟩
         refine StepsI.cons rfl ?_ ?_
         ·rintro L zA v9 ⟨zB, zS, rfl, rfl, hF, hW⟩ hL hm K hK
          have hb21 : zB 21 = false := by simpa using hL
          have hb11 : zB 11 = true := mt 11 hm (by kernel_rfl)
          have e11 : zS 66 = .bool false := hF 11 _ rfl hb11
          clear hL hm
          simp only [pCE]
          simp only [e11]
          have HWz := mkHid hW
          clear hW
          go_simp
          have hW := HWz.out
          clear HWz
          exact hK.out _ _ ⟨ups zB [21], upv _ _ zS [21, 11], rfl, by kernel_rfl, rk hF rfl, hW⟩
         refine StepsI.cons rfl ?_ ?_
         ·rintro L zA v9 ⟨zB, zS, rfl, rfl, hF, hW⟩ hL hm K hK
          have hb22 : zB 22 = false := by simpa using hL
          have hb11 : zB 11 = true := mt 11 hm (by kernel_rfl)
          have hb20 : zB 20 = true := mt 20 hm (by kernel_rfl)
          have hb21 : zB 21 = true := mt 21 hm (by kernel_rfl)
          have e11 : zS 66 = .bool false := hF 11 _ rfl hb11
          have e20 : zS 75 = .slice (some ⟨g, 0, none⟩) Z.B.length A.c0 := hF 20 _ rfl hb20
          have e21 : zS 76 = .int .i64 (k : Int) := hF 21 _ rfl hb21
          clear hL hm
          simp only [pCE]
          simp only [e11, e20, e21]
          have HWz := mkHid hW
          clear hW
          go_simp
          have hW := HWz.out
          clear HWz
          exact hK.out _ _ ⟨ups zB [22], upv _ _ zS [22, 21, 20, 11], rfl, by kernel_rfl, rk hF rfl, hW⟩
         refine StepsI.cons rfl ?_ ?_
         ·rintro L zA v9 ⟨zB, zS, rfl, rfl, hF, hW⟩ hL hm K hK
          have hb23 : zB 23 = false := by simpa using hL
          have hb11 : zB 11 = true := mt 11 hm (by kernel_rfl)
          have hb22 : zB 22 = true := mt 22 hm (by kernel_rfl)
          have e11 : zS 66 = .bool false := hF 11 _ rfl hb11
          have e22 : zS 77 = .pointer (some ⟨g, k, none⟩) := hF 22 _ rfl hb22
          clear hL hm
          simp only [pCE]
          simp only [e11, e22]
          have q0 := HRC.out _ hW
          have HWz := mkHid hW
          clear hW
          go_simp
          have hW := HWz.out
          clear HWz
          exact hK.out _ _ ⟨ups zB [23], upv _ _ zS [23, 22, 11], rfl, by kernel_rfl, rk hF rfl, hW⟩
         refine StepsI.cons rfl ?_ ?_
         ·rintro L zA v9 ⟨zB, zS, rfl, rfl, hF, hW⟩ hL hm K hK
          have hb24 : zB 24 = false := by simpa using hL
          have hb11 : zB 11 = true := mt 11 hm (by kernel_rfl)
          have hb12 : zB 12 = true := mt 12 hm (by kernel_rfl)
          have hb18 : zB 18 = true := mt 18 hm (by kernel_rfl)
          have hb23 : zB 23 = true := mt 23 hm (by kernel_rfl)
          have e11 : zS 66 = .bool false := hF 11 _ rfl hb11
          have e12 : zS 67 = .agg #[.int .i64 n, .slice a (Q.mk n f).length c0] := hF 12 _ rfl hb12
          have e18 : zS 73 = .slice (some ⟨bl, ol, none⟩) b.length cl := hF 18 _ rfl hb18
          have e23 : zS 78 = .slice ac cur.length cc := hF 23 _ rfl hb23
          clear hL hm
          simp only [pCE]
          simp only [e11, e12, e18, e23]
          have HWz := mkHid hW
          clear hW
          go_simp
          have hW := HWz.out
          clear HWz
          refine (HCB.out _ hW).mono ?_
          rintro e v92 ⟨rfl, hb⟩
          have HWz := mkHid hW
          clear hW
          go_wp2_with fail
          have hW := HWz.out
          clear HWz
          exact hK.out _ _ ⟨ups zB [24], upv _ _ zS [24, 23, 18, 12, 11], rfl, by kernel_rfl, rk hF rfl, below_step hW hb⟩
         refine StepsI.cons rfl ?_ ?_
         ·rintro L zA v9 ⟨zB, zS, rfl, rfl, hF, hW⟩ hL hm K hK
          have hb25 : zB 25 = false := by simpa using hL
          have hb4 : zB 4 = true := mt 4 hm (by kernel_rfl)
          have hb11 : zB 11 = true := mt 11 hm (by kernel_rfl)
          have hb24 : zB 24 = true := mt 24 hm (by kernel_rfl)
          have e4 : zS 59 = .bool true := hF 4 _ rfl hb4
          have e11 : zS 66 = .bool false := hF 11 _ rfl hb11
          have e24 : zS 79 = .bool bq := hF 24 _ rfl hb24
          clear hL hm
          simp only [pCE]
          simp only [e4, e11, e24]
          have HWz := mkHid hW
          clear hW
          go_simp
          have hW := HWz.out
          clear HWz
          exact hK.out _ _ ⟨ups zB [25], upv _ _ zS [25, 24, 11, 4], rfl, by kernel_rfl, rk hF rfl, hW⟩
         refine StepsI.cons rfl ?_ ?_
         ·rintro L zA v9 ⟨zB, zS, rfl, rfl, hF, hW⟩ hL hm K hK
          have hb26 : zB 26 = false := by simpa using hL
          have hb4 : zB 4 = true := mt 4 hm (by kernel_rfl)
          have hb25 : zB 25 = true := mt 25 hm (by kernel_rfl)
          have e4 : zS 59 = .bool true := hF 4 _ rfl hb4
          have e25 : zS 80 = .bool bq := hF 25 _ rfl hb25
          clear hL hm
          simp only [pCE]
          simp only [e4, e25]
          have HWz := mkHid hW
          clear hW
          go_simp
          have hW := HWz.out
          clear HWz
          exact hK.out _ _ ⟨ups zB [26], upv _ _ zS [26, 25, 4], rfl, by kernel_rfl, rk hF rfl, hW⟩
         exact StepsI.nil (by kernel_rfl)
        ·rintro L zA v9 ⟨zB, zS, rfl, rfl, hF, hW⟩ hr
         have hu := all_up (by kernel_rfl) (N := 27) (by kernel_rfl) hr
         have hb0 : zB 0 = true := by simpa using hu 0 (by decide)
         have hb1 : zB 1 = true := by simpa using hu 1 (by decide)
         have hb2 : zB 2 = true := by simpa using hu 2 (by decide)
         have hb3 : zB 3 = true := by simpa using hu 3 (by decide)
         have hb4 : zB 4 = true := by simpa using hu 4 (by decide)
         have hb5 : zB 5 = true := by simpa using hu 5 (by decide)
         have hb6 : zB 6 = true := by simpa using hu 6 (by decide)
         have hb7 : zB 7 = true := by simpa using hu 7 (by decide)
         have hb8 : zB 8 = true := by simpa using hu 8 (by decide)
         have hb9 : zB 9 = true := by simpa using hu 9 (by decide)
         have hb10 : zB 10 = true := by simpa using hu 10 (by decide)
         have hb11 : zB 11 = true := by simpa using hu 11 (by decide)
         have hb12 : zB 12 = true := by simpa using hu 12 (by decide)
         have hb13 : zB 13 = true := by simpa using hu 13 (by decide)
         have hb14 : zB 14 = true := by simpa using hu 14 (by decide)
         have hb15 : zB 15 = true := by simpa using hu 15 (by decide)
         have hb16 : zB 16 = true := by simpa using hu 16 (by decide)
         have hb17 : zB 17 = true := by simpa using hu 17 (by decide)
         have hb18 : zB 18 = true := by simpa using hu 18 (by decide)
         have hb19 : zB 19 = true := by simpa using hu 19 (by decide)
         have hb20 : zB 20 = true := by simpa using hu 20 (by decide)
         have hb21 : zB 21 = true := by simpa using hu 21 (by decide)
         have hb22 : zB 22 = true := by simpa using hu 22 (by decide)
         have hb23 : zB 23 = true := by simpa using hu 23 (by decide)
         have hb24 : zB 24 = true := by simpa using hu 24 (by decide)
         have hb25 : zB 25 = true := by simpa using hu 25 (by decide)
         have hb26 : zB 26 = true := by simpa using hu 26 (by decide)
         have e0 : zS 55 = .slice (some ⟨gm, 0, none⟩) S.M.length cm := hF 0 _ rfl hb0
         have e1 : zS 56 = .int .i64 (i : Int) := hF 1 _ rfl hb1
         have e2 : zS 57 = .pointer (some ⟨gm, i, none⟩) := hF 2 _ rfl hb2
         have e3 : zS 58 = .bool true := hF 3 _ rfl hb3
         have e4 : zS 59 = .bool true := hF 4 _ rfl hb4
         have e5 : zS 60 = .pointer (some ⟨X1, 1, none⟩) := hF 5 _ rfl hb5
         have e6 : zS 61 = .slice (some ⟨bv, ov, none⟩) S.V.length A0.c1 := hF 6 _ rfl hb6
         have e7 : zS 62 = .int .i64 (i : Int) := hF 7 _ rfl hb7
         have e8 : zS 63 = .pointer (some ⟨bv, ov + i * 3, none⟩) := hF 8 _ rfl hb8
         have e9 : zS 64 = .agg #[.int .i64 vx.1, .int .i64 vx.2.1, .bool vx.2.2] := hF 9 _ rfl hb9
         have e10 : zS 65 = .bool false := hF 10 _ rfl hb10
         have e11 : zS 66 = .bool false := hF 11 _ rfl hb11
         have e12 : zS 67 = .agg #[.int .i64 n, .slice a (Q.mk n f).length c0] := hF 12 _ rfl hb12
         have e13 : zS 68 = .pointer (some ⟨X1, 0, none⟩) := hF 13 _ rfl hb13
         have e14 : zS 69 = .slice (some ⟨bb, ob, none⟩) S.B.length A0.c0 := hF 14 _ rfl hb14
         have e15 : zS 70 = .int .i64 (i : Int) := hF 15 _ rfl hb15
         have e16 : zS 71 = .int .i64 ((i + 1 : Nat) : Int) := hF 16 _ rfl hb16
         have e17 : zS 72 = .pointer (some ⟨bb, ob + (i + 1), none⟩) := hF 17 _ rfl hb17
         have e18 : zS 73 = .slice (some ⟨bl, ol, none⟩) b.length cl := hF 18 _ rfl hb18
         have e19 : zS 74 = .pointer (some ⟨Bx, 0, none⟩) := hF 19 _ rfl hb19
         have e20 : zS 75 = .slice (some ⟨g, 0, none⟩) Z.B.length A.c0 := hF 20 _ rfl hb20
         have e21 : zS 76 = .int .i64 (k : Int) := hF 21 _ rfl hb21
         have e22 : zS 77 = .pointer (some ⟨g, k, none⟩) := hF 22 _ rfl hb22
         have e23 : zS 78 = .slice ac cur.length cc := hF 23 _ rfl hb23
         have e24 : zS 79 = .bool bq := hF 24 _ rfl hb24
         have e25 : zS 80 = .bool bq := hF 25 _ rfl hb25
         have e26 : zS 81 = .bool bq := hF 26 _ rfl hb26
         clear hu hr hF
         simp only [pCE]
         simp only [e0, e1, e2, e3, e4, e5, e6, e7, e8, e9, e10, e11, e12, e13, e14, e15, e16, e17, e18, e19, e20, e21, e22, e23, e24, e25, e26]
         clear e0 e1 e2 e3 e4 e5 e6 e7 e8 e9 e10 e11 e12 e13 e14 e15 e16 e17 e18 e19 e20 e21 e22 e23 e24 e25 e26
         clear hb0 hb1 hb2 hb3 hb4 hb5 hb6 hb7 hb8 hb9 hb10 hb11 hb12 hb13 hb14 hb15 hb16 hb17 hb18 hb19 hb20 hb21 hb22 hb23 hb24 hb25 hb26
         clear zB zS
         go_wp2_with fail
         go_meet
         case rel => exact ⟨rfl, hW⟩
       ·go_wp2_with fail
        refine wp_region_inv2 (fun zA0 L zA v9 => ∃ (zB : Nat → Bool) (zS : Nat → Value), L = #[zB 0, zB 1, zB 2, zB 3, zB 4, zB 5, zB 6, zB 7, zB 8, zB 9, zB 10, zB 11, zB 12, zB 13, zB 14, zB 15, zB 16, zB 17, zB 18, zB 19, zB 20, zB 21, zB 22, zB 23, zB 24, zB 25, zB 26] ∧ zA = pC zA0 55 82 [zS 55, zS 56, zS 57, zS 58, zS 59, zS 60, zS 61, zS 62, zS 63, zS 64, zS 65, zS 66, zS 67, zS 68, zS 69, zS 70, zS 71, zS 72, zS 73, zS 74, zS 75, zS 76, zS 77, zS 78, zS 79, zS 80, zS 81] ∧ FF 55 [.slice (some ⟨gm, 0, none⟩) S.M.length cm, .int .i64 (i : Int), .pointer (some ⟨gm, i, none⟩), .bool true, .bool true, .pointer (some ⟨X1, 1, none⟩), .slice (some ⟨bv, ov, none⟩) S.V.length A0.c1, .int .i64 (i : Int), .pointer (some ⟨bv, ov + i * 3, none⟩), .agg #[.int .i64 vx.1, .int .i64 vx.2.1, .bool vx.2.2], .bool true, .bool true, undef, undef, undef, undef, undef, undef, undef, undef, undef, undef, undef, undef, undef, .bool true, .bool true] zB zS ∧ Below wr.heap.size wr v9) (by kernel_rfl) ?_ ?_ ?_
        ·exact ⟨fun _ => false, fun zd => [u55, u56, u57, u58, u59, u60, u61, u62, u63, u64, u65, u66, u67, u68, u69, u70, u71, u72, u73, u74, u75, u76, u77, u78, u79, u80, u81].getD (zd - 55) undef, rfl, by kernel_rfl, ff0, (Below.refl _ _).drew⟩
        ·refine StepsI.cons rfl ?_ ?_
         ·rintro L zA v9 ⟨zB, zS, rfl, rfl, hF, hW⟩ hL hm K hK
          have hb0 : zB 0 = false := by simpa using hL
          clear hL hm
          simp only [pCE]
          have HWz := mkHid hW
          clear hW
          go_simp
          have hW := HWz.out
          clear HWz
          exact hK.out _ _ ⟨ups zB [0], upv _ _ zS [0], rfl, by kernel_rfl, rk hF rfl, hW⟩
         refine StepsI.cons rfl ?_ ?_
         ·rintro L zA v9 ⟨zB, zS, rfl, rfl, hF, hW⟩ hL hm K hK
          have hb1 : zB 1 = false := by simpa using hL
          clear hL hm
          simp only [pCE]
          have HWz := mkHid hW
          clear hW
          go_simp
          have hW := HWz.out
          clear HWz
          exact hK.out _ _ ⟨ups zB [1], upv _ _ zS [1], rfl, by kernel_rfl, rk hF rfl, hW⟩
         refine StepsI.cons rfl ?_ ?_
         ·rintro L zA v9 ⟨zB, zS, rfl, rfl, hF, hW⟩ hL hm K hK
          have hb2 : zB 2 = false := by simpa using hL
          have hb0 : zB 0 = true := mt 0 hm (by kernel_rfl)
          have hb1 : zB 1 = true := mt 1 hm (by kernel_rfl)
          have e0 : zS 55 = .slice (some ⟨gm, 0, none⟩) S.M.length cm := hF 0 _ rfl hb0
          have e1 : zS 56 = .int .i64 (i : Int) := hF 1 _ rfl hb1
          clear hL hm
          simp only [pCE]
          simp only [e0, e1]
          have HWz := mkHid hW
          clear hW
          go_simp
          have hW := HWz.out
          clear HWz
          exact hK.out _ _ ⟨ups zB [2], upv _ _ zS [2, 1, 0], rfl, by kernel_rfl, rk hF rfl, hW⟩
         refine StepsI.cons rfl ?_ ?_
         ·rintro L zA v9 ⟨zB, zS, rfl, rfl, hF, hW⟩ hL hm K hK
          have hb3 : zB 3 = false := by simpa using hL
          have hb2 : zB 2 = true := mt 2 hm (by kernel_rfl)
          have e2 : zS 57 = .pointer (some ⟨gm, i, none⟩) := hF 2 _ rfl hb2
          clear hL hm
          simp only [pCE]
          simp only [e2]
          have q0 := HRM.out _ hW
          have HWz := mkHid hW
          clear hW
          go_simp
          have hW := HWz.out
          clear HWz
          exact hK.out _ _ ⟨ups zB [3], upv _ _ zS [3, 2], rfl, by kernel_rfl, rk hF rfl, hW⟩
         refine StepsI.cons rfl ?_ ?_
         ·rintro L zA v9 ⟨zB, zS, rfl, rfl, hF, hW⟩ hL hm K hK
          have hb4 : zB 4 = false := by simpa using hL
          have hb3 : zB 3 = true := mt 3 hm (by kernel_rfl)
          have e3 : zS 58 = .bool true := hF 3 _ rfl hb3
          clear hL hm
          simp only [pCE]
          simp only [e3]
          have HWz := mkHid hW
          clear hW
          go_simp
          have hW := HWz.out
          clear HWz
          exact hK.out _ _ ⟨ups zB [4], upv _ _ zS [4, 3], rfl, by kernel_rfl, rk hF rfl, hW⟩
         refine StepsI.cons rfl ?_ ?_
         ·rintro L zA v9 ⟨zB, zS, rfl, rfl, hF, hW⟩ hL hm K hK
          have hb5 : zB 5 = false := by simpa using hL
          have hb4 : zB 4 = true := mt 4 hm (by kernel_rfl)
          have e4 : zS 59 = .bool true := hF 4 _ rfl hb4
          clear hL hm
          simp only [pCE]
          simp only [e4]
          have HWz := mkHid hW
          clear hW
          go_simp
          have hW := HWz.out
          clear HWz
          exact hK.out _ _ ⟨ups zB [5], upv _ _ zS [5, 4], rfl, by kernel_rfl, rk hF rfl, hW⟩
         refine StepsI.cons rfl ?_ ?_
         ·rintro L zA v9 ⟨zB, zS, rfl, rfl, hF, hW⟩ hL hm K hK
          have hb6 : zB 6 = false := by simpa using hL
          have hb4 : zB 4 = true := mt 4 hm (by kernel_rfl)
          have hb5 : zB 5 = true := mt 5 hm (by kernel_rfl)
          have e4 : zS 59 = .bool true := hF 4 _ rfl hb4
          have e5 : zS 60 = .pointer (some ⟨X1, 1, none⟩) := hF 5 _ rfl hb5
          clear hL hm
          simp only [pCE]
          simp only [e4, e5]
          obtain ⟨_, q0⟩ := HC1.out _ hW
          have HWz := mkHid hW
          clear hW
          go_simp
          have hW := HWz.out
          clear HWz
          exact hK.out _ _ ⟨ups zB [6], upv _ _ zS [6, 5, 4], rfl, by kernel_rfl, rk hF rfl, hW⟩
         refine StepsI.cons rfl ?_ ?_
         ·rintro L zA v9 ⟨zB, zS, rfl, rfl, hF, hW⟩ hL hm K hK
          have hb7 : zB 7 = false := by simpa using hL
          have hb4 : zB 4 = true := mt 4 hm (by kernel_rfl)
          have e4 : zS 59 = .bool true := hF 4 _ rfl hb4
          clear hL hm
          simp only [pCE]
          simp only [e4]
          have HWz := mkHid hW
          clear hW
          go_simp
          have hW := HWz.out
          clear HWz
          exact hK.out _ _ ⟨ups zB [7], upv _ _ zS [7, 4], rfl, by kernel_rfl, rk hF rfl, hW⟩
         refine StepsI.cons rfl ?_ ?_
         ·rintro L zA v9 ⟨zB, zS, rfl, rfl, hF, hW⟩ hL hm K hK
          have hb8 : zB 8 = false := by simpa using hL
          have hb4 : zB 4 = true := mt 4 hm (by kernel_rfl)
          have hb6 : zB 6 = true := mt 6 hm (by kernel_rfl)
          have hb7 : zB 7 = true := mt 7 hm (by kernel_rfl)
          have e4 : zS 59 = .bool true := hF 4 _ rfl hb4
          have e6 : zS 61 = .slice (some ⟨bv, ov, none⟩) S.V.length A0.c1 := hF 6 _ rfl hb6
          have e7 : zS 62 = .int .i64 (i : Int) := hF 7 _ rfl hb7
          clear hL hm
          simp only [pCE]
          simp only [e4, e6, e7]
          have HWz := mkHid hW
          clear hW
          go_simp
          have hW := HWz.out
          clear HWz
          exact hK.out _ _ ⟨ups zB [8], upv _ _ zS [8, 7, 6, 4], rfl, by kernel_rfl, rk hF rfl, hW⟩
         refine StepsI.cons rfl ?_ ?_
         ·rintro L zA v9 ⟨zB, zS, rfl, rfl, hF, hW⟩ hL hm K hK
          have hb9 : zB 9 = false := by simpa using hL
          have hb4 : zB 4 = true := mt 4 hm (by kernel_rfl)
          have hb8 : zB 8 = true := mt 8 hm (by kernel_rfl)
          have e4 : zS 59 = .bool true := hF 4 _ rfl hb4
          have e8 : zS 63 = .pointer (some ⟨bv, ov + i * 3, none⟩) := hF 8 _ rfl hb8
          clear hL hm
          simp only [pCE]
          simp only [e4, e8]
          obtain ⟨d0, d1, d2⟩ := HRW.out _ hW
          have HWz := mkHid hW
          clear hW
          go_simp
          have hW := HWz.out
          clear HWz
          exact hK.out _ _ ⟨ups zB [9], upv _ _ zS [9, 8, 4], rfl, by kernel_rfl, rk hF rfl, hW⟩
         refine StepsI.cons rfl ?_ ?_
         ·rintro L zA v9 ⟨zB, zS, rfl, rfl, hF, hW⟩ hL hm K hK
          have hb10 : zB 10 = false := by simpa using hL
          have hb4 : zB 4 = true := mt 4 hm (by kernel_rfl)
          have hb9 : zB 9 = true := mt 9 hm (by kernel_rfl)
          have e4 : zS 59 = .bool true := hF 4 _ rfl hb4
          have e9 : zS 64 = .agg #[.int .i64 vx.1, .int .i64 vx.2.1, .bool vx.2.2] := hF 9 _ rfl hb9
          clear hL hm
          simp only [pCE]
          simp only [e4, e9]
          have HWz := mkHid hW
          clear hW
          go_simp
          have hW := HWz.out
          clear HWz
          refine (HCN.out _).mono ?_
          rintro e v92 ⟨rfl, hb⟩
          have HWz := mkHid hW
          clear hW
          go_wp2_with fail
          have hW := HWz.out
          clear HWz
          exact hK.out _ _ ⟨ups zB [10], upv _ _ zS [10, 9, 4], rfl, by kernel_rfl, rk hF rfl, below_step hW hb⟩
         refine StepsI.cons rfl ?_ ?_
         ·rintro L zA v9 ⟨zB, zS, rfl, rfl, hF, hW⟩ hL hm K hK
          have hb11 : zB 11 = false := by simpa using hL
          have hb4 : zB 4 = true := mt 4 hm (by kernel_rfl)
          have hb10 : zB 10 = true := mt 10 hm (by kernel_rfl)
          have e4 : zS 59 = .bool true := hF 4 _ rfl hb4
          have e10 : zS 65 = .bool true := hF 10 _ rfl hb10
          clear hL hm
          simp only [pCE]
          simp only [e4, e10]
          have HWz := mkHid hW
          clear hW
          go_simp
          have hW := HWz.out
          clear HWz
          exact hK.out _ _ ⟨ups zB [11], upv _ _ zS [11, 10, 4], rfl, by kernel_rfl, rk hF rfl, hW⟩
         refine StepsI.cons rfl ?_ ?_
         ·rintro L zA v9 ⟨zB, zS, rfl, rfl, hF, hW⟩ hL hm K hK
          have hb12 : zB 12 = false := by simpa using hL
          have hb11 : zB 11 = true := mt 11 hm (by kernel_rfl)
          have e11 : zS 66 = .bool true := hF 11 _ rfl hb11
          clear hL hm
          simp only [pCE]
          simp only [e11]
          rw [if_neg (by exact Bool.false_ne_true)]
          exact hK.out _ _ ⟨ups zB [12], upv _ _ zS [12, 11], rfl, by kernel_rfl, rk hF rfl, hW⟩
         refine StepsI.cons rfl ?_ ?_
         ·rintro L zA v9 ⟨zB, zS, rfl, rfl, hF, hW⟩ hL hm K hK
          have hb13 : zB 13 = false := by simpa using hL
          have hb11 : zB 11 = true := mt 11 hm (by kernel_rfl)
          have e11 : zS 66 = .bool true := hF 11 _ rfl hb11
          clear hL hm
          simp only [pCE]
          simp only [e11]
          rw [if_neg (by exact Bool.false_ne_true)]
          exact hK.out _ _ ⟨ups zB [13], upv _ _ zS [13, 11], rfl, by kernel_rfl, rk hF rfl, hW⟩
         refine StepsI.cons rfl ?_ ?_
         ·rintro L zA v9 ⟨zB, zS, rfl, rfl, hF, hW⟩ hL hm K hK
          have hb14 : zB 14 = false := by simpa using hL
          have hb11 : zB 11 = true := mt 11 hm (by kernel_rfl)
          have e11 : zS 66 = .bool true := hF 11 _ rfl hb11
          clear hL hm
          simp only [pCE]
          simp only [e11]
          rw [if_neg (by exact Bool.false_ne_true)]
          exact hK.out _ _ ⟨ups zB [14], upv _ _ zS [14, 11], rfl, by kernel_rfl, rk hF rfl, hW⟩
         refine StepsI.cons rfl ?_ ?_
         ·rintro L zA v9 ⟨zB, zS, rfl, rfl, hF, hW⟩ hL hm K hK
          have hb15 : zB 15 = false := by simpa using hL
          have hb11 : zB 11 = true := mt 11 hm (by kernel_rfl)
          have e11 : zS 66 = .bool true := hF 11 _ rfl hb11
          clear hL hm
          simp only [pCE]
          simp only [e11]
          rw [if_neg (by exact Bool.false_ne_true)]
          exact hK.out _ _ ⟨ups zB [15], upv _ _ zS [15, 11], rfl, by kernel_rfl, rk hF rfl, hW⟩
         refine StepsI.cons rfl ?_ ?_
         ·rintro L zA v9 ⟨zB, zS, rfl, rfl, hF, hW⟩ hL hm K hK
          have hb16 : zB 16 = false := by simpa using hL
          have hb11 : zB 11 = true := mt 11 hm (by kernel_rfl)
          have e11 : zS 66 = .bool true := hF 11 _ rfl hb11
          clear hL hm
          simp only [pCE]
          simp only [e11]
          rw [if_neg (by exact Bool.false_ne_true)]
          exact hK.out _ _ ⟨ups zB [16], upv _ _ zS [16, 11], rfl, by kernel_rfl, rk hF rfl, hW⟩
         refine StepsI.cons rfl ?_ ?_
         ·rintro L zA v9 ⟨zB, zS, rfl, rfl, hF, hW⟩ hL hm K hK
          have hb17 : zB 17 = false := by simpa using hL
          have hb11 : zB 11 = true := mt 11 hm (by kernel_rfl)
          have e11 : zS 66 = .bool true := hF 11 _ rfl hb11
          clear hL hm
          simp only [pCE]
          simp only [e11]
          rw [if_neg (by exact Bool.false_ne_true)]
          exact hK.out _ _ ⟨ups zB [17], upv _ _ zS [17, 11], rfl, by kernel_rfl, rk hF rfl, hW⟩
         refine StepsI.cons rfl ?_ ?_
         ·rintro L zA v9 ⟨zB, zS, rfl, rfl, hF, hW⟩ hL hm K hK
          have hb18 : zB 18 = false := by simpa using hL
          have hb11 : zB 11 = true := mt 11 hm (by kernel_rfl)
          have e11 : zS 66 = .bool true := hF 11 _ rfl hb11
          clear hL hm
          simp only [pCE]
          simp only [e11]
          rw [if_neg (by exact Bool.false_ne_true)]
          exact hK.out _ _ ⟨ups zB [18], upv _ _ zS [18, 11], rfl, by kernel_rfl, rk hF rfl, hW⟩
         refine StepsI.cons rfl ?_ ?_
         ·rintro L zA v9 ⟨zB, zS, rfl, rfl, hF, hW⟩ hL hm K hK
          have hb19 : zB 19 = false := by simpa using hL
          have hb11 : zB 11 = true := mt 11 hm (by kernel_rfl)
          have e11 : zS 66 = .bool true := hF 11 _ rfl hb11
          clear hL hm
          simp only [pCE]
          simp only [e11]
          rw [if_neg (by exact Bool.false_ne_true)]
          exact hK.out _ _ ⟨ups zB [19], upv _ _ zS [19, 11], rfl, by kernel_rfl, rk hF rfl, hW⟩
         refine StepsI.cons rfl ?_ ?_
         ·rintro L zA v9 ⟨zB, zS, rfl, rfl, hF, hW⟩ hL hm K hK
          have hb20 : zB 20 = false := by simpa using hL
          have hb11 : zB 11 = true := mt 11 hm (by kernel_rfl)
          have e11 : zS 66 = .bool true := hF 11 _ rfl hb11
          clear hL hm
          simp only [pCE]
          simp only [e11]
          rw [if_neg (by exact Bool.false_ne_true)]
          exact hK.out _ _ ⟨ups zB [20], upv _ _ zS [20, 11], rfl, by kernel_rfl, rk hF rfl, hW⟩
         refine StepsI.cons rfl ?_ ?_
         ·rintro L zA v9 ⟨zB, zS, rfl, rfl, hF, hW⟩ hL hm K hK
          have hb21 : zB 21 = false := by simpa using hL
          have hb11 : zB 11 = true := mt 11 hm (by kernel_rfl)
          have e11 : zS 66 = .bool true := hF 11 _ rfl hb11
          clear hL hm
          simp only [pCE]
          simp only [e11]
          rw [if_neg (by exact Bool.false_ne_true)]
          exact hK.out _ _ ⟨ups zB [21], upv _ _ zS [21, 11], rfl, by kernel_rfl, rk hF rfl, hW⟩
         refine StepsI.cons rfl ?_ ?_
         ·rintro L zA v9 ⟨zB, zS, rfl, rfl, hF, hW⟩ hL hm K hK
          have hb22 : zB 22 = false := by simpa using hL
          have hb11 : zB 11 = true := mt 11 hm (by kernel_rfl)
          have e11 : zS 66 = .bool true := hF 11 _ rfl hb11
          clear hL hm
          simp only [pCE]
          simp only [e11]
          rw [if_neg (by exact Bool.false_ne_true)]
          exact hK.out _ _ ⟨ups zB [22], upv _ _ zS [22, 11], rfl, by kernel_rfl, rk hF rfl, hW⟩
         refine StepsI.cons rfl ?_ ?_
         ·rintro L zA v9 ⟨zB, zS, rfl, rfl, hF, hW⟩ hL hm K hK
          have hb23 : zB 23 = false := by simpa using hL
          have hb11 : zB 11 = true := mt 11 hm (by kernel_rfl)
          have e11 : zS 66 = .bool true := hF 11 _ rfl hb11
          clear hL hm
          simp only [pCE]
          simp only [e11]
          rw [if_neg (by exact Bool.false_ne_true)]
          exact hK.out _ _ ⟨ups zB [23], upv _ _ zS [23, 11], rfl, by kernel_rfl, rk hF rfl, hW⟩
         refine StepsI.cons rfl ?_ ?_
         ·rintro L zA v9 ⟨zB, zS, rfl, rfl, hF, hW⟩ hL hm K hK
          have hb24 : zB 24 = false := by simpa using hL
          have hb11 : zB 11 = true := mt 11 hm (by kernel_rfl)
          have e11 : zS 66 = .bool true := hF 11 _ rfl hb11
          clear hL hm
          simp only [pCE]
          simp only [e11]
          rw [if_neg (by exact Bool.false_ne_true)]
          exact hK.out _ _ ⟨ups zB [24], upv _ _ zS [24, 11], rfl, by kernel_rfl, rk hF rfl, hW⟩
         refine StepsI.cons rfl ?_ ?_
         ·rintro L zA v9 ⟨zB, zS, rfl, rfl, hF, hW⟩ hL hm K hK
          have hb25 : zB 25 = false := by simpa using hL
          have hb4 : zB 4 = true := mt 4 hm (by kernel_rfl)
          have hb11 : zB 11 = true := mt 11 hm (by kernel_rfl)
          have hb24 : zB 24 = true := mt 24 hm (by kernel_rfl)
          have e4 : zS 59 = .bool true := hF 4 _ rfl hb4
          have e11 : zS 66 = .bool true := hF 11 _ rfl hb11
          have e24 : zS 79 = undef := hF 24 _ rfl hb24
          clear hL hm
          simp only [pCE]
          simp only [e4, e11, e24]
          have HWz := mkHid hW
          clear hW
          go_simp
          have hW := HWz.out
          clear HWz
          exact hK.out _ _ ⟨ups zB [25], upv _ _ zS [25, 24, 11, 4], rfl, by kernel_rfl, rk hF rfl, hW⟩
         refine StepsI.cons rfl ?_ ?_
         ·rintro L zA v9 ⟨zB, zS, rfl, rfl, hF, hW⟩ hL hm K hK
          have hb26 : zB 26 = false := by simpa using hL
          have hb4 : zB 4 = true := mt 4 hm (by kernel_rfl)
          have hb25 : zB 25 = true := mt 25 hm (by kernel_rfl)
          have e4 : zS 59 = .bool true := hF 4 _ rfl hb4
          have e25 : zS 80 = .bool true := hF 25 _ rfl hb25
          clear hL hm
          simp only [pCE]
          simp only [e4, e25]
          have HWz := mkHid hW
          clear hW
          go_simp
          have hW := HWz.out
          clear HWz
          exact hK.out _ _ ⟨ups zB [26], upv _ _ zS [26, 25, 4], rfl, by kernel_rfl, rk hF rfl, hW⟩
         exact StepsI.nil (by kernel_rfl)
        ·rintro L zA v9 ⟨zB, zS, rfl, rfl, hF, hW⟩ hr
         have hu := all_up (by kernel_rfl) (N := 27) (by kernel_rfl) hr
         have hb0 : zB 0 = true := by simpa using hu 0 (by decide)
         have hb1 : zB 1 = true := by simpa using hu 1 (by decide)
         have hb2 : zB 2 = true := by simpa using hu 2 (by decide)
         have hb3 : zB 3 = true := by simpa using hu 3 (by decide)
         have hb4 : zB 4 = true := by simpa using hu 4 (by decide)
         have hb5 : zB 5 = true := by simpa using hu 5 (by decide)
         have hb6 : zB 6 = true := by simpa using hu 6 (by decide)
         have hb7 : zB 7 = true := by simpa using hu 7 (by decide)
         have hb8 : zB 8 = true := by simpa using hu 8 (by decide)
         have hb9 : zB 9 = true := by simpa using hu 9 (by decide)
         have hb10 : zB 10 = true := by simpa using hu 10 (by decide)
         have hb11 : zB 11 = true := by simpa using hu 11 (by decide)
         have hb12 : zB 12 = true := by simpa using hu 12 (by decide)
         have hb13 : zB 13 = true := by simpa using hu 13 (by decide)
         have hb14 : zB 14 = true := by simpa using hu 14 (by decide)
         have hb15 : zB 15 = true := by simpa using hu 15 (by decide)
         have hb16 : zB 16 = true := by simpa using hu 16 (by decide)
         have hb17 : zB 17 = true := by simpa using hu 17 (by decide)
         have hb18 : zB 18 = true := by simpa using hu 18 (by decide)
         have hb19 : zB 19 = true := by simpa using hu 19 (by decide)
         have hb20 : zB 20 = true := by simpa using hu 20 (by decide)
         have hb21 : zB 21 = true := by simpa using hu 21 (by decide)
         have hb22 : zB 22 = true := by simpa using hu 22 (by decide)
         have hb23 : zB 23 = true := by simpa using hu 23 (by decide)
         have hb24 : zB 24 = true := by simpa using hu 24 (by decide)
         have hb25 : zB 25 = true := by simpa using hu 25 (by decide)
         have hb26 : zB 26 = true := by simpa using hu 26 (by decide)
         have e0 : zS 55 = .slice (some ⟨gm, 0, none⟩) S.M.length cm := hF 0 _ rfl hb0
         have e1 : zS 56 = .int .i64 (i : Int) := hF 1 _ rfl hb1
         have e2 : zS 57 = .pointer (some ⟨gm, i, none⟩) := hF 2 _ rfl hb2
         have e3 : zS 58 = .bool true := hF 3 _ rfl hb3
         have e4 : zS 59 = .bool true := hF 4 _ rfl hb4
         have e5 : zS 60 = .pointer (some ⟨X1, 1, none⟩) := hF 5 _ rfl hb5
         have e6 : zS 61 = .slice (some ⟨bv, ov, none⟩) S.V.length A0.c1 := hF 6 _ rfl hb6
         have e7 : zS 62 = .int .i64 (i : Int) := hF 7 _ rfl hb7
         have e8 : zS 63 = .pointer (some ⟨bv, ov + i * 3, none⟩) := hF 8 _ rfl hb8
         have e9 : zS 64 = .agg #[.int .i64 vx.1, .int .i64 vx.2.1, .bool vx.2.2] := hF 9 _ rfl hb9
         have e10 : zS 65 = .bool true := hF 10 _ rfl hb10
         have e11 : zS 66 = .bool true := hF 11 _ rfl hb11
         have e12 : zS 67 = undef := hF 12 _ rfl hb12
         have e13 : zS 68 = undef := hF 13 _ rfl hb13
         have e14 : zS 69 = undef := hF 14 _ rfl hb14
         have e15 : zS 70 = undef := hF 15 _ rfl hb15
         have e16 : zS 71 = undef := hF 16 _ rfl hb16
         have e17 : zS 72 = undef := hF 17 _ rfl hb17
         have e18 : zS 73 = undef := hF 18 _ rfl hb18
         have e19 : zS 74 = undef := hF 19 _ rfl hb19
         have e20 : zS 75 = undef := hF 20 _ rfl hb20
         have e21 : zS 76 = undef := hF 21 _ rfl hb21
         have e22 : zS 77 = undef := hF 22 _ rfl hb22
         have e23 : zS 78 = undef := hF 23 _ rfl hb23
         have e24 : zS 79 = undef := hF 24 _ rfl hb24
         have e25 : zS 80 = .bool true := hF 25 _ rfl hb25
         have e26 : zS 81 = .bool true := hF 26 _ rfl hb26
         clear hu hr hF
         simp only [pCE]
         simp only [e0, e1, e2, e3, e4, e5, e6, e7, e8, e9, e10, e11, e12, e13, e14, e15, e16, e17, e18, e19, e20, e21, e22, e23, e24, e25, e26]
         clear e0 e1 e2 e3 e4 e5 e6 e7 e8 e9 e10 e11 e12 e13 e14 e15 e16 e17 e18 e19 e20 e21 e22 e23 e24 e25 e26
         clear hb0 hb1 hb2 hb3 hb4 hb5 hb6 hb7 hb8 hb9 hb10 hb11 hb12 hb13 hb14 hb15 hb16 hb17 hb18 hb19 hb20 hb21 hb22 hb23 hb24 hb25 hb26
         clear zB zS
         go_wp2_with fail
         go_meet
         case rel => exact ⟨rfl, hW⟩
     case rest =>
      obtain ⟨rfl, hW⟩ := hcut
      obtain ⟨cb, hcb⟩ : ∃ z, (mz && (bn || bq)) = z := ⟨_, rfl⟩
      rw [hcb]
      have HCT := mkHid hcb
      clear hcb
      cases cb
      ·have HT2 := mkHid (HTI.out.below HCC.out hW)
       have HG := mkHid HT2.out.g
       have hbs := HT2.out.bs
       obtain ⟨vs, hvs, hin⟩ := HT2.out.g.b
       have HVS := mkHid hvs
       have HIN := mkHid hin
       have HX14 : Hid (∀ v, Below wc.heap.size wc v → v.cell? ⟨X1, 0, none⟩ = some (.slice (some ⟨bb, ob, none⟩) S.B.length A0.c0)) := mkHid fun v h => by have h0 := heap_cell (HT2.out.below HCC.out h).x1 0; simpa [sgC, HAB.out] using h0
       have HR14 : Hid (∀ v, Below wc.heap.size wc v → v.cell? ⟨bb, ob + (i + 1), none⟩ = some (.slice (some ⟨bl, ol, none⟩) b.length cl)) := mkHid fun v h => HR1.out v (HT2.out.below HCC.out h).bel
       have HL14 : Hid (∀ v, Below wc.heap.size wc v → ∀ (i : Nat) (x : Y), b[i]? = some x → ∀ (j : Nat) (u : Value), (eY.enc x)[j]? = some u → v.cell? ⟨bl, ol + i * eY.k + j, none⟩ = some u) := mkHid fun v h => HRL.out v (HT2.out.below HCC.out h).bel
       clear hvs hin hW
       go_wp2_with fail
       refine wp_region_inv2 (fun zA0 L zA va => ∃ (zB : Nat → Bool) (zS : Nat → Value) (E : Nat) (gx : Option Addr) (cx : Nat) (R : Nat) (ga : Nat) (ca : Nat), L = #[zB 0, zB 1, zB 2, zB 3, zB 4, zB 5, zB 6, zB 7, zB 8, zB 9, zB 10, zB 11, zB 12, zB 13] ∧ zA = pC zA0 102 115 [zS 102, zS 103, zS 104, zS 105, zS 106, zS 107, zS 108, zS 109, zS 110, zS 111, zS 112, zS 113, zS 114] ∧ ((zB 0 = true → zS 102 = .pointer (some ⟨Bx, 0, none⟩)) ∧ (zB 1 = true → zS 103 = .slice A.a0 Z.B.length A.c0) ∧ (zB 2 = true → zS 104 = .slice (some ⟨E, 0, none⟩) 0 0) ∧ (zB 3 = true → zS 105 = .pointer (some ⟨X1, 0, none⟩)) ∧ (zB 4 = true → zS 106 = .slice (some ⟨bb, ob, none⟩) S.B.length A0.c0) ∧ (zB 5 = true → zS 107 = .int .i64 (i : Int)) ∧ (zB 6 = true → zS 108 = .int .i64 ((i + 1 : Nat) : Int)) ∧ (zB 7 = true → zS 109 = .pointer (some ⟨bb, ob + (i + 1), none⟩)) ∧ (zB 8 = true → zS 110 = .slice (some ⟨bl, ol, none⟩) b.length cl) ∧ (zB 9 = true → zS 111 = .slice gx b.length cx) ∧ (zB 10 = true → zS 112 = .slice (some ⟨R, 0, none⟩) 1 1) ∧ (zB 11 = true → zS 113 = .slice (some ⟨ga, 0, none⟩) (Z.B.length + 1) ca) ∧ (zB 12 = true → zS 114 = .pointer (some ⟨Bx, 0, none⟩))) ∧ (Ap wc va (zB 9) (zB 10) (zB 11) (zB 13) (fun v => Own eY 49 v wc.heap.size (.slice gx b.length cx) b) R [.slice gx b.length cx] (Value.ownBlock (.slice A.a0 Z.B.length A.c0)) (fun v => v.ownsRow base 113 1 (.slice (some ⟨ga, 0, none⟩) (Z.B.length + 1) ca) (Z.B.length + 1) (vs ++ [.slice gx b.length cx])) Bx 0 (.slice (some ⟨ga, 0, none⟩) (Z.B.length + 1) ca)) ∧ ((zB 7) = true → (zB 4) = true) ∧ ((zB 9) = true → (zB 2) = true ∧ (zB 8) = true) ∧ ((zB 10) = true → (zB 9) = true) ∧ ((zB 11) = true → (zB 1) = true ∧ (zB 10) = true) ∧ ((zB 13) = true → (zB 11) = true) ∧ ((zB 8) = true → (zB 7) = true) ∧ ((zB 2) = true → (zB 9) = false → Own eY 49 va wc.heap.size (.slice (some ⟨E, 0, none⟩) 0 0) [])) (by kernel_rfl) ?_ ?_ ?_
       ·exact ⟨fun _ => false, fun zd => if zd = 114 then u114 else if zd = 113 then u113 else if zd = 112 then u112 else if zd = 111 then u111 else if zd = 110 then u110 else if zd = 109 then u109 else if zd = 108 then u108 else if zd = 107 then u107 else if zd = 106 then u106 else if zd = 105 then u105 else if zd = 104 then u104 else if zd = 103 then u103 else if zd = 102 then u102 else undef, 0, none, 0, 0, 0, 0, rfl, by kernel_rfl, ⟨fun e => ft e, fun e => ft e, fun e => ft e, fun e => ft e, fun e => ft e, fun e => ft e, fun e => ft e, fun e => ft e, fun e => ft e, fun e => ft e, fun e => ft e, fun e => ft e, fun e => ft e⟩, ⟨Ap.start _ _ _ _ _ _ _ _ _, fun e => ft e, fun e => ft e, fun e => ft e, fun e => ft e, fun e => ft e, fun e => ft e, fun e => ft e⟩⟩
       ·refine StepsI.cons rfl ?_ ?_
        ·rintro L zA va ⟨zB, zS, E, gx, cx, R, ga, ca, rfl, rfl, hF, hW⟩ hL hm K hK
         have hb0 : zB 0 = false := by simpa using hL
         clear hL hm
         simp only [pCE]
         have HWz := mkHid hW
         clear hW
         go_simp
         have hW := HWz.out
         clear HWz
         exact hK.out _ _ ⟨fun zj => if zj = 0 then true else zB zj, fun zd => if zd = 102 then .pointer (some ⟨Bx, 0, none⟩) else zS zd, E, gx, cx, R, ga, ca, rfl, by kernel_rfl, ⟨fun _ => rfl, hF.2.1, hF.2.2.1, hF.2.2.2.1, hF.2.2.2.2.1, hF.2.2.2.2.2.1, hF.2.2.2.2.2.2.1, hF.2.2.2.2.2.2.2.1, hF.2.2.2.2.2.2.2.2.1, hF.2.2.2.2.2.2.2.2.2.1, hF.2.2.2.2.2.2.2.2.2.2.1, hF.2.2.2.2.2.2.2.2.2.2.2.1, hF.2.2.2.2.2.2.2.2.2.2.2.2⟩, hW⟩
        refine StepsI.cons rfl ?_ ?_
        ·rintro L zA va ⟨zB, zS, E, gx, cx, R, ga, ca, rfl, rfl, hF, hW⟩ hL hm K hK
         have hb1 : zB 1 = false := by simpa using hL
         have hb0 : zB 0 = true := mt 0 hm (by kernel_rfl)
         have e0 : zS 102 = .pointer (some ⟨Bx, 0, none⟩) := hF.1 hb0
         clear hL hm
         rw [hb1] at hW
         simp only [pCE]
         simp only [e0]
         have hf11 : zB 11 = false := by cases e : zB 11 with | false => rfl | true => exact ft ((hW.2.2.2.2.1 e).1)
         have hf13 : zB 13 = false := by cases e : zB 13 with | false => rfl | true => exact ft (hf11.symm.trans (hW.2.2.2.2.2.1 e))
         have hpre := hW.1.pre hf11
         obtain ⟨q0, q1, q2, _, _, _⟩ := (HG.out.below hpre).g3
         have HWz := mkHid hW
         clear hW
         go_simp
         have hW := HWz.out
         clear HWz
         exact hK.out _ _ ⟨fun zj => if zj = 0 then true else if zj = 1 then true else zB zj, fun zd => if zd = 103 then .slice A.a0 Z.B.length A.c0 else if zd = 102 then .pointer (some ⟨Bx, 0, none⟩) else zS zd, E, gx, cx, R, ga, ca, by simp [hb0], by kernel_rfl, ⟨fun _ => rfl, fun _ => rfl, hF.2.2.1, hF.2.2.2.1, hF.2.2.2.2.1, hF.2.2.2.2.2.1, hF.2.2.2.2.2.2.1, hF.2.2.2.2.2.2.2.1, hF.2.2.2.2.2.2.2.2.1, hF.2.2.2.2.2.2.2.2.2.1, hF.2.2.2.2.2.2.2.2.2.2.1, hF.2.2.2.2.2.2.2.2.2.2.2.1, hF.2.2.2.2.2.2.2.2.2.2.2.2⟩, ⟨hW.1, hW.2.1, hW.2.2.1, hW.2.2.2.1, fun e => ft (hf11.symm.trans e), fun e => ft (hf13.symm.trans e), hW.2.2.2.2.2.2.1, hW.2.2.2.2.2.2.2⟩⟩
        refine StepsI.cons rfl ?_ ?_
        ·rintro L zA va ⟨zB, zS, E, gx, cx, R, ga, ca, rfl, rfl, hF, hW⟩ hL hm K hK
         have hb2 : zB 2 = false := by simpa using hL
         clear hL hm
         rw [hb2] at hW
         simp only [pCE]
         have hf9 : zB 9 = false := by cases e : zB 9 with | false => rfl | true => exact ft ((hW.2.2.1 e).1)
         have hf10 : zB 10 = false := by cases e : zB 10 with | false => rfl | true => exact ft (hf9.symm.trans (hW.2.2.2.1 e))
         have hf11 : zB 11 = false := by cases e : zB 11 with | false => rfl | true => exact ft (hf10.symm.trans (hW.2.2.2.2.1 e).2)
         have hf13 : zB 13 = false := by cases e : zB 13 with | false => rfl | true => exact ft (hf11.symm.trans (hW.2.2.2.2.2.1 e))
         have hpre := hW.1.pre hf11
         have HWz := mkHid hW
         clear hW
         go_simp
         have hW := HWz.out
         clear HWz
         exact hK.out _ _ ⟨fun zj => if zj = 2 then true else zB zj, fun zd => if zd = 104 then .slice (some ⟨va.heap.size, 0, none⟩) 0 0 else zS zd, va.heap.size, gx, cx, R, ga, ca, rfl, by kernel_rfl, ⟨hF.1, hF.2.1, fun _ => rfl, hF.2.2.2.1, hF.2.2.2.2.1, hF.2.2.2.2.2.1, hF.2.2.2.2.2.2.1, hF.2.2.2.2.2.2.2.1, hF.2.2.2.2.2.2.2.2.1, hF.2.2.2.2.2.2.2.2.2.1, hF.2.2.2.2.2.2.2.2.2.2.1, hF.2.2.2.2.2.2.2.2.2.2.2.1, hF.2.2.2.2.2.2.2.2.2.2.2.2⟩, ⟨hW.1.more hf9 hf10 hf11 hf13 (bl_alloc (Below.refl _ _) _), hW.2.1, fun e => ft (hf9.symm.trans e), fun e => ft (hf10.symm.trans e), fun e => ft (hf11.symm.trans e), fun e => ft (hf13.symm.trans e), hW.2.2.2.2.2.2.1, fun _ _ => fresh_y hpre.size (by have := heap_alloc_new va (.cells #[] 49); simpa using this)⟩⟩
        refine StepsI.cons rfl ?_ ?_
        ·rintro L zA va ⟨zB, zS, E, gx, cx, R, ga, ca, rfl, rfl, hF, hW⟩ hL hm K hK
         have hb3 : zB 3 = false := by simpa using hL
         clear hL hm
         simp only [pCE]
         have HWz := mkHid hW
         clear hW
         go_simp
         have hW := HWz.out
         clear HWz
         exact hK.out _ _ ⟨fun zj => if zj = 3 then true else zB zj, fun zd => if zd = 105 then .pointer (some ⟨X1, 0, none⟩) else zS zd, E, gx, cx, R, ga, ca, rfl, by kernel_rfl, ⟨hF.1, hF.2.1, hF.2.2.1, fun _ => rfl, hF.2.2.2.2.1, hF.2.2.2.2.2.1, hF.2.2.2.2.2.2.1, hF.2.2.2.2.2.2.2.1, hF.2.2.2.2.2.2.2.2.1, hF.2.2.2.2.2.2.2.2.2.1, hF.2.2.2.2.2.2.2.2.2.2.1, hF.2.2.2.2.2.2.2.2.2.2.2.1, hF.2.2.2.2.2.2.2.2.2.2.2.2⟩, hW⟩
        refine StepsI.cons rfl ?_ ?_
        ·rintro L zA va ⟨zB, zS, E, gx, cx, R, ga, ca, rfl, rfl, hF, hW⟩ hL hm K hK
         have hb4 : zB 4 = false := by simpa using hL
         have hb3 : zB 3 = true := mt 3 hm (by kernel_rfl)
         have e3 : zS 105 = .pointer (some ⟨X1, 0, none⟩) := hF.2.2.2.1 hb3
         clear hL hm
         rw [hb4] at hW
         simp only [pCE]
         simp only [e3]
         have hf7 : zB 7 = false := by cases e : zB 7 with | false => rfl | true => exact ft ((hW.2.1 e))
         have hf8 : zB 8 = false := by cases e : zB 8 with | false => rfl | true => exact ft (hf7.symm.trans (hW.2.2.2.2.2.2.1 e))
         have hf9 : zB 9 = false := by cases e : zB 9 with | false => rfl | true => exact ft (hf8.symm.trans (hW.2.2.1 e).2)
         have hf10 : zB 10 = false := by cases e : zB 10 with | false => rfl | true => exact ft (hf9.symm.trans (hW.2.2.2.1 e))
         have hf11 : zB 11 = false := by cases e : zB 11 with | false => rfl | true => exact ft (hf10.symm.trans (hW.2.2.2.2.1 e).2)
         have hf13 : zB 13 = false := by cases e : zB 13 with | false => rfl | true => exact ft (hf11.symm.trans (hW.2.2.2.2.2.1 e))
         have hpre := hW.1.pre hf11
         have q0 := HX14.out va hpre
         have HWz := mkHid hW
         clear hW
         go_simp
         have hW := HWz.out
         clear HWz
         exact hK.out _ _ ⟨fun zj => if zj = 3 then true else if zj = 4 then true else zB zj, fun zd => if zd = 106 then .slice (some ⟨bb, ob, none⟩) S.B.length A0.c0 else if zd = 105 then .pointer (some ⟨X1, 0, none⟩) else zS zd, E, gx, cx, R, ga, ca, by simp [hb3], by kernel_rfl, ⟨hF.1, hF.2.1, hF.2.2.1, fun _ => rfl, fun _ => rfl, hF.2.2.2.2.2.1, hF.2.2.2.2.2.2.1, hF.2.2.2.2.2.2.2.1, hF.2.2.2.2.2.2.2.2.1, hF.2.2.2.2.2.2.2.2.2.1, hF.2.2.2.2.2.2.2.2.2.2.1, hF.2.2.2.2.2.2.2.2.2.2.2.1, hF.2.2.2.2.2.2.2.2.2.2.2.2⟩, ⟨hW.1, fun e => ft (hf7.symm.trans e), fun e => ft (hf9.symm.trans e), fun e => ft (hf10.symm.trans e), fun e => ft (hf11.symm.trans e), fun e => ft (hf13.symm.trans e), fun e => ft (hf8.symm.trans e), hW.2.2.2.2.2.2.2⟩⟩
        refine StepsI.cons rfl ?_ ?_
        ·rintro L zA va ⟨zB, zS, E, gx, cx, R, ga, ca, rfl, rfl, hF, hW⟩ hL hm K hK
         have hb5 : zB 5 = false := by simpa using hL
         clear hL hm
         simp only [pCE]
         have HWz := mkHid hW
         clear hW
         go_simp
         have hW := HWz.out
         clear HWz
         exact hK.out _ _ ⟨fun zj => if zj = 5 then true else zB zj, fun zd => if zd = 107 then .int .i64 (i : Int) else zS zd, E, gx, cx, R, ga, ca, rfl, by kernel_rfl, ⟨hF.1, hF.2.1, hF.2.2.1, hF.2.2.2.1, hF.2.2.2.2.1, fun _ => rfl, hF.2.2.2.2.2.2.1, hF.2.2.2.2.2.2.2.1, hF.2.2.2.2.2.2.2.2.1, hF.2.2.2.2.2.2.2.2.2.1, hF.2.2.2.2.2.2.2.2.2.2.1, hF.2.2.2.2.2.2.2.2.2.2.2.1, hF.2.2.2.2.2.2.2.2.2.2.2.2⟩, hW⟩
        refine StepsI.cons rfl ?_ ?_
        ·rintro L zA va ⟨zB, zS, E, gx, cx, R, ga, ca, rfl, rfl, hF, hW⟩ hL hm K hK
         have hb6 : zB 6 = false := by simpa using hL
         have hb5 : zB 5 = true := mt 5 hm (by kernel_rfl)
         have e5 : zS 107 = .int .i64 (i : Int) := hF.2.2.2.2.2.1 hb5
         clear hL hm
         simp only [pCE]
         simp only [e5]
         have HWz := mkHid hW
         clear hW
         go_simp
         have hW := HWz.out
         clear HWz
         exact hK.out _ _ ⟨fun zj => if zj = 5 then true else if zj = 6 then true else zB zj, fun zd => if zd = 108 then .int .i64 ((i + 1 : Nat) : Int) else if zd = 107 then .int .i64 (i : Int) else zS zd, E, gx, cx, R, ga, ca, by simp [hb5], by kernel_rfl, ⟨hF.1, hF.2.1, hF.2.2.1, hF.2.2.2.1, hF.2.2.2.2.1, fun _ => rfl, fun _ => rfl, hF.2.2.2.2.2.2.2.1, hF.2.2.2.2.2.2.2.2.1, hF.2.2.2.2.2.2.2.2.2.1, hF.2.2.2.2.2.2.2.2.2.2.1, hF.2.2.2.2.2.2.2.2.2.2.2.1, hF.2.2.2.2.2.2.2.2.2.2.2.2⟩, hW⟩
        refine StepsI.cons rfl ?_ ?_
        ·rintro L zA va ⟨zB, zS, E, gx, cx, R, ga, ca, rfl, rfl, hF, hW⟩ hL hm K hK
         have hb7 : zB 7 = false := by simpa using hL
         have hb4 : zB 4 = true := mt 4 hm (by kernel_rfl)
         have hb6 : zB 6 = true := mt 6 hm (by kernel_rfl)
         have e4 : zS 106 = .slice (some ⟨bb, ob, none⟩) S.B.length A0.c0 := hF.2.2.2.2.1 hb4
         have e6 : zS 108 = .int .i64 ((i + 1 : Nat) : Int) := hF.2.2.2.2.2.2.1 hb6
         clear hL hm
         rw [hb7] at hW
         rw [hb4] at hW
         simp only [pCE]
         simp only [e4, e6]
         have hf8 : zB 8 = false := by cases e : zB 8 with | false => rfl | true => exact ft ((hW.2.2.2.2.2.2.1 e))
         have hf9 : zB 9 = false := by cases e : zB 9 with | false => rfl | true => exact ft (hf8.symm.trans (hW.2.2.1 e).2)
         have hf10 : zB 10 = false := by cases e : zB 10 with | false => rfl | true => exact ft (hf9.symm.trans (hW.2.2.2.1 e))
         have hf11 : zB 11 = false := by cases e : zB 11 with | false => rfl | true => exact ft (hf10.symm.trans (hW.2.2.2.2.1 e).2)
         have hf13 : zB 13 = false := by cases e : zB 13 with | false => rfl | true => exact ft (hf11.symm.trans (hW.2.2.2.2.2.1 e))
         have HWz := mkHid hW
         clear hW
         go_simp
         have hW := HWz.out
         clear HWz
         exact hK.out _ _ ⟨fun zj => if zj = 6 then true else if zj = 4 then true else if zj = 7 then true else zB zj, fun zd => if zd = 109 then .pointer (some ⟨bb, ob + (i + 1), none⟩) else if zd = 108 then .int .i64 ((i + 1 : Nat) : Int) else if zd = 106 then .slice (some ⟨bb, ob, none⟩) S.B.length A0.c0 else zS zd, E, gx, cx, R, ga, ca, by simp [hb4, hb6], by kernel_rfl, ⟨hF.1, hF.2.1, hF.2.2.1, hF.2.2.2.1, fun _ => rfl, hF.2.2.2.2.2.1, fun _ => rfl, fun _ => rfl, hF.2.2.2.2.2.2.2.2.1, hF.2.2.2.2.2.2.2.2.2.1, hF.2.2.2.2.2.2.2.2.2.2.1, hF.2.2.2.2.2.2.2.2.2.2.2.1, hF.2.2.2.2.2.2.2.2.2.2.2.2⟩, ⟨hW.1, fun _ => rfl, fun e => ft (hf9.symm.trans e), fun e => ft (hf10.symm.trans e), fun e => ft (hf11.symm.trans e), fun e => ft (hf13.symm.trans e), fun e => ft (hf8.symm.trans e), hW.2.2.2.2.2.2.2⟩⟩
        refine StepsI.cons rfl ?_ ?_
        ·rintro L zA va ⟨zB, zS, E, gx, cx, R, ga, ca, rfl, rfl, hF, hW⟩ hL hm K hK
         have hb8 : zB 8 = false := by simpa using hL
         have hb7 : zB 7 = true := mt 7 hm (by kernel_rfl)
         have e7 : zS 109 = .pointer (some ⟨bb, ob + (i + 1), none⟩) := hF.2.2.2.2.2.2.2.1 hb7
         clear hL hm
         rw [hb8] at hW
         rw [hb7] at hW
         simp only [pCE]
         simp only [e7]
         have hf9 : zB 9 = false := by cases e : zB 9 with | false => rfl | true => exact ft ((hW.2.2.1 e).2)
         have hf10 : zB 10 = false := by cases e : zB 10 with | false => rfl | true => exact ft (hf9.symm.trans (hW.2.2.2.1 e))
         have hf11 : zB 11 = false := by cases e : zB 11 with | false => rfl | true => exact ft (hf10.symm.trans (hW.2.2.2.2.1 e).2)
         have hf13 : zB 13 = false := by cases e : zB 13 with | false => rfl | true => exact ft (hf11.symm.trans (hW.2.2.2.2.2.1 e))
         have hpre := hW.1.pre hf11
         have q0 := HR14.out va hpre
         have HWz := mkHid hW
         clear hW
         go_simp
         have hW := HWz.out
         clear HWz
         exact hK.out _ _ ⟨fun zj => if zj = 7 then true else if zj = 8 then true else zB zj, fun zd => if zd = 110 then .slice (some ⟨bl, ol, none⟩) b.length cl else if zd = 109 then .pointer (some ⟨bb, ob + (i + 1), none⟩) else zS zd, E, gx, cx, R, ga, ca, by simp [hb7], by kernel_rfl, ⟨hF.1, hF.2.1, hF.2.2.1, hF.2.2.2.1, hF.2.2.2.2.1, hF.2.2.2.2.2.1, hF.2.2.2.2.2.2.1, fun _ => rfl, fun _ => rfl, hF.2.2.2.2.2.2.2.2.2.1, hF.2.2.2.2.2.2.2.2.2.2.1, hF.2.2.2.2.2.2.2.2.2.2.2.1, hF.2.2.2.2.2.2.2.2.2.2.2.2⟩, ⟨hW.1, hW.2.1, fun e => ft (hf9.symm.trans e), fun e => ft (hf10.symm.trans e), fun e => ft (hf11.symm.trans e), fun e => ft (hf13.symm.trans e), fun _ => rfl, hW.2.2.2.2.2.2.2⟩⟩
        refine StepsI.cons rfl ?_ ?_
        ·rintro L zA va ⟨zB, zS, E, gx, cx, R, ga, ca, rfl, rfl, hF, hW⟩ hL hm K hK
         have hb9 : zB 9 = false := by simpa using hL
         have hb2 : zB 2 = true := mt 2 hm (by kernel_rfl)
         have hb8 : zB 8 = true := mt 8 hm (by kernel_rfl)
         have e2 : zS 104 = .slice (some ⟨E, 0, none⟩) 0 0 := hF.2.2.1 hb2
         have e8 : zS 110 = .slice (some ⟨bl, ol, none⟩) b.length cl := hF.2.2.2.2.2.2.2.2.1 hb8
         clear hL hm
         rw [hb9] at hW
         rw [hb2] at hW
         rw [hb8] at hW
         simp only [pCE]
         simp only [e2, e8]
         have hf10 : zB 10 = false := by cases e : zB 10 with | false => rfl | true => exact ft ((hW.2.2.2.1 e))
         have hf11 : zB 11 = false := by cases e : zB 11 with | false => rfl | true => exact ft (hf10.symm.trans (hW.2.2.2.2.1 e).2)
         have hf13 : zB 13 = false := by cases e : zB 13 with | false => rfl | true => exact ft (hf11.symm.trans (hW.2.2.2.2.2.1 e))
         have hpre := hW.1.pre hf11
         have hfr := hW.2.2.2.2.2.2.2 rfl rfl
         rw [if_pos (by rfl)]
         refine wp_append_lies _ _ _ 113 rfl wc.heap.size 49 ty (.agg #[.int .i64 0, .int .i64 0]) 2 16 Tryz.underlying113 HIY.out.1 HIY.out.2.1 HIY.out.2.2.1 HIY.out.2.2.2 rfl (by decide) (.slice (some ⟨E, 0, none⟩) 0 0) 0 [] rfl hfr ⟨bl, ol, none⟩ b.length cl (eY.flat b) rfl (eY.flat_len b) (news_at (HL14.out va hpre)) (fun u hu => flat_one hu) HLP.out (by have := HLL.out; unfold maxLen; omega) (by have := HLL.out; omega) hpre.size va.heap.size rfl ?_
         intro g9 c9 va2 hown hgrow hat9 hlt9
         have hbr : Below wc.heap.size wc va2 := hpre.grown hgrow hpre.size (fun q hq => (hfr.lt hq).1)
         have hown9 : Own eY 49 va2 wc.heap.size (.slice (some ⟨g9, 0, none⟩) b.length c9) b := by have h := hown; simp only [Nat.zero_add, List.nil_append] at h; exact h
         simp only [Nat.zero_add]
         exact hK.out _ _ ⟨fun zj => if zj = 8 then true else if zj = 2 then true else if zj = 9 then true else zB zj, fun zd => if zd = 111 then .slice (some ⟨g9, 0, none⟩) b.length c9 else if zd = 110 then .slice (some ⟨bl, ol, none⟩) b.length cl else if zd = 104 then .slice (some ⟨E, 0, none⟩) 0 0 else zS zd, E, (some ⟨g9, 0, none⟩), c9, R, ga, ca, by simp [hb2, hb8], by kernel_rfl, ⟨hF.1, hF.2.1, fun _ => rfl, hF.2.2.2.1, hF.2.2.2.2.1, hF.2.2.2.2.2.1, hF.2.2.2.2.2.2.1, hF.2.2.2.2.2.2.2.1, fun _ => rfl, fun _ => rfl, hF.2.2.2.2.2.2.2.2.2.2.1, hF.2.2.2.2.2.2.2.2.2.2.2.1, hF.2.2.2.2.2.2.2.2.2.2.2.2⟩, ⟨hW.1.elemr hf10 hf11 hf13 hbr (hown9), hW.2.1, fun _ => ⟨rfl, rfl⟩, fun e => ft (hf10.symm.trans e), fun e => ft (hf11.symm.trans e), fun e => ft (hf13.symm.trans e), fun _ => hW.2.2.2.2.2.2.1 (by trivial), fun _ e => tf e⟩⟩
        refine StepsI.cons rfl ?_ ?_
        ·rintro L zA va ⟨zB, zS, E, gx, cx, R, ga, ca, rfl, rfl, hF, hW⟩ hL hm K hK
         have hb10 : zB 10 = false := by simpa using hL
         have hb9 : zB 9 = true := mt 9 hm (by kernel_rfl)
         have e9 : zS 111 = .slice gx b.length cx := hF.2.2.2.2.2.2.2.2.2.1 hb9
         clear hL hm
         rw [hb10] at hW
         rw [hb9] at hW
         simp only [pCE]
         simp only [e9]
         have hf11 : zB 11 = false := by cases e : zB 11 with | false => rfl | true => exact ft ((hW.2.2.2.2.1 e).2)
         have hf13 : zB 13 = false := by cases e : zB 13 with | false => rfl | true => exact ft (hf11.symm.trans (hW.2.2.2.2.2.1 e))
         have hpre := hW.1.pre hf11
         have HWz := mkHid hW
         clear hW
         go_simp
         have hW := HWz.out
         clear HWz
         exact hK.out _ _ ⟨fun zj => if zj = 9 then true else if zj = 10 then true else zB zj, fun zd => if zd = 112 then .slice (some ⟨va.heap.size, 0, none⟩) 1 1 else if zd = 111 then .slice gx b.length cx else zS zd, E, gx, cx, va.heap.size, ga, ca, by simp [hb9], by kernel_rfl, ⟨hF.1, hF.2.1, hF.2.2.1, hF.2.2.2.1, hF.2.2.2.2.1, hF.2.2.2.2.2.1, hF.2.2.2.2.2.2.1, hF.2.2.2.2.2.2.2.1, hF.2.2.2.2.2.2.2.2.1, fun _ => rfl, fun _ => rfl, hF.2.2.2.2.2.2.2.2.2.2.2.1, hF.2.2.2.2.2.2.2.2.2.2.2.2⟩, ⟨hW.1.lay hf11 hf13 (fun _ _ h hb => Own.below h hb) rfl, hW.2.1, hW.2.2.1, fun _ => rfl, fun e => ft (hf11.symm.trans e), fun e => ft (hf13.symm.trans e), hW.2.2.2.2.2.2.1, fun _ e => tf e⟩⟩
        refine StepsI.cons rfl ?_ ?_
        ·rintro L zA va ⟨zB, zS, E, gx, cx, R, ga, ca, rfl, rfl, hF, hW⟩ hL hm K hK
         have hb11 : zB 11 = false := by simpa using hL
         have hb1 : zB 1 = true := mt 1 hm (by kernel_rfl)
         have hb10 : zB 10 = true := mt 10 hm (by kernel_rfl)
         have e1 : zS 103 = .slice A.a0 Z.B.length A.c0 := hF.2.1 hb1
         have e10 : zS 112 = .slice (some ⟨R, 0, none⟩) 1 1 := hF.2.2.2.2.2.2.2.2.2.2.1 hb10
         clear hL hm
         rw [hb11] at hW
         rw [hb1] at hW
         rw [hb10] at hW
         simp only [pCE]
         simp only [e1, e10]
         have hf13 : zB 13 = false := by cases e : zB 13 with | false => rfl | true => exact ft ((hW.2.2.2.2.2.1 e))
         have hpre := hW.1.pre rfl
         rw [if_pos (by rfl)]
         refine wp_append_lies _ _ _ 32 rfl base 113 tb (.slice none 0 0) 1 24 Tryz.underlying32 HIB.out.1 HIB.out.2.1 HIB.out.2.2.1 HIB.out.2.2.2 rfl (by decide) (.slice A.a0 Z.B.length A.c0) Z.B.length (vs) rfl (owns_below HVS.out hpre) ⟨R, 0, none⟩ 1 1 [.slice gx b.length cx] rfl rfl (hW.1.tmp rfl rfl) (fun u hu => by simp at hu; subst hu; rfl) (by decide) (by have := HNB.out.1; unfold maxLen; omega) (by have := HNB.out.1; omega) (Nat.le_trans hbs hpre.size) va.heap.size rfl ?_
         intro ga9 ca9 va2 hown hgrow hat9 hlt9
         exact hK.out _ _ ⟨fun zj => if zj = 10 then true else if zj = 1 then true else if zj = 11 then true else zB zj, fun zd => if zd = 113 then .slice (some ⟨ga9, 0, none⟩) (Z.B.length + 1) ca9 else if zd = 112 then .slice (some ⟨R, 0, none⟩) 1 1 else if zd = 103 then .slice A.a0 Z.B.length A.c0 else zS zd, E, gx, cx, R, ga9, ca9, by simp [hb1, hb10], by kernel_rfl, ⟨hF.1, fun _ => rfl, hF.2.2.1, hF.2.2.2.1, hF.2.2.2.2.1, hF.2.2.2.2.2.1, hF.2.2.2.2.2.2.1, hF.2.2.2.2.2.2.2.1, hF.2.2.2.2.2.2.2.2.1, hF.2.2.2.2.2.2.2.2.2.1, fun _ => rfl, fun _ => rfl, hF.2.2.2.2.2.2.2.2.2.2.2.2⟩, ⟨hW.1.app ((hW.2.2.2.1 rfl)) hf13 hgrow hown, hW.2.1, hW.2.2.1, hW.2.2.2.1, fun _ => ⟨rfl, rfl⟩, fun e => ft (hf13.symm.trans e), hW.2.2.2.2.2.2.1, fun _ e8 => ft (e8.symm.trans (hW.2.2.2.1 rfl))⟩⟩
        refine StepsI.cons rfl ?_ ?_
        ·rintro L zA va ⟨zB, zS, E, gx, cx, R, ga, ca, rfl, rfl, hF, hW⟩ hL hm K hK
         have hb12 : zB 12 = false := by simpa using hL
         clear hL hm
         simp only [pCE]
         have HWz := mkHid hW
         clear hW
         go_simp
         have hW := HWz.out
         clear HWz
         exact hK.out _ _ ⟨fun zj => if zj = 12 then true else zB zj, fun zd => if zd = 114 then .pointer (some ⟨Bx, 0, none⟩) else zS zd, E, gx, cx, R, ga, ca, rfl, by kernel_rfl, ⟨hF.1, hF.2.1, hF.2.2.1, hF.2.2.2.1, hF.2.2.2.2.1, hF.2.2.2.2.2.1, hF.2.2.2.2.2.2.1, hF.2.2.2.2.2.2.2.1, hF.2.2.2.2.2.2.2.2.1, hF.2.2.2.2.2.2.2.2.2.1, hF.2.2.2.2.2.2.2.2.2.2.1, hF.2.2.2.2.2.2.2.2.2.2.2.1, fun _ => rfl⟩, hW⟩
        refine StepsI.cons rfl ?_ ?_
        ·rintro L zA va ⟨zB, zS, E, gx, cx, R, ga, ca, rfl, rfl, hF, hW⟩ hL hm K hK
         have hb13 : zB 13 = false := by simpa using hL
         have hb11 : zB 11 = true := mt 11 hm (by kernel_rfl)
         have hb12 : zB 12 = true := mt 12 hm (by kernel_rfl)
         have e11 : zS 113 = .slice (some ⟨ga, 0, none⟩) (Z.B.length + 1) ca := hF.2.2.2.2.2.2.2.2.2.2.2.1 hb11
         have e12 : zS 114 = .pointer (some ⟨Bx, 0, none⟩) := hF.2.2.2.2.2.2.2.2.2.2.2.2 hb12
         clear hL hm
         rw [hb13] at hW
         rw [hb11] at hW
         simp only [pCE]
         simp only [e11, e12]
         have hbx := (hW.1.aft rfl rfl).box HG.out.box (fun v hv q e hq => by subst hq; obtain ⟨c7, h7⟩ := owns_block (owns_below HVS.out hv) e; have h8 := (hv.block _ (heap_lt HG.out.box)).trans HG.out.box; rw [h7] at h8; simp at h8)
         have q0 := heap_cell hbx 0
         have f0 := heap_free hbx 0
         simp only [sgC] at q0
         simp at q0
         have HWz := mkHid hW
         clear hW
         go_simp
         have hW := HWz.out
         clear HWz
         exact hK.out _ _ ⟨fun zj => if zj = 12 then true else if zj = 11 then true else if zj = 13 then true else zB zj, fun zd => if zd = 114 then .pointer (some ⟨Bx, 0, none⟩) else if zd = 113 then .slice (some ⟨ga, 0, none⟩) (Z.B.length + 1) ca else zS zd, E, gx, cx, R, ga, ca, by simp [hb11, hb12], by kernel_rfl, ⟨hF.1, hF.2.1, hF.2.2.1, hF.2.2.2.1, hF.2.2.2.2.1, hF.2.2.2.2.2.1, hF.2.2.2.2.2.2.1, hF.2.2.2.2.2.2.2.1, hF.2.2.2.2.2.2.2.2.1, hF.2.2.2.2.2.2.2.2.2.1, hF.2.2.2.2.2.2.2.2.2.2.1, fun _ => rfl, fun _ => rfl⟩, ⟨hW.1.store, hW.2.1, hW.2.2.1, hW.2.2.2.1, hW.2.2.2.2.1, fun _ => rfl, hW.2.2.2.2.2.2.1, fun _ e8 => ft (e8.symm.trans (hW.2.2.2.1 (hW.2.2.2.2.1 rfl).2))⟩⟩
        exact StepsI.nil (by kernel_rfl)
       ·rintro L zA va ⟨zB, zS, E, gx, cx, R, ga, ca, rfl, rfl, hF, hW⟩ hr
        have hu := all_up (by kernel_rfl) (N := 14) (by kernel_rfl) hr
        have hb0 : zB 0 = true := by simpa using hu 0 (by decide)
        have hb1 : zB 1 = true := by simpa using hu 1 (by decide)
        have hb2 : zB 2 = true := by simpa using hu 2 (by decide)
        have hb3 : zB 3 = true := by simpa using hu 3 (by decide)
        have hb4 : zB 4 = true := by simpa using hu 4 (by decide)
        have hb5 : zB 5 = true := by simpa using hu 5 (by decide)
        have hb6 : zB 6 = true := by simpa using hu 6 (by decide)
        have hb7 : zB 7 = true := by simpa using hu 7 (by decide)
        have hb8 : zB 8 = true := by simpa using hu 8 (by decide)
        have hb9 : zB 9 = true := by simpa using hu 9 (by decide)
        have hb10 : zB 10 = true := by simpa using hu 10 (by decide)
        have hb11 : zB 11 = true := by simpa using hu 11 (by decide)
        have hb12 : zB 12 = true := by simpa using hu 12 (by decide)
        have hb13 : zB 13 = true := by simpa using hu 13 (by decide)
        have e0 : zS 102 = .pointer (some ⟨Bx, 0, none⟩) := hF.1 hb0
        have e1 : zS 103 = .slice A.a0 Z.B.length A.c0 := hF.2.1 hb1
        have e2 : zS 104 = .slice (some ⟨E, 0, none⟩) 0 0 := hF.2.2.1 hb2
        have e3 : zS 105 = .pointer (some ⟨X1, 0, none⟩) := hF.2.2.2.1 hb3
        have e4 : zS 106 = .slice (some ⟨bb, ob, none⟩) S.B.length A0.c0 := hF.2.2.2.2.1 hb4
        have e5 : zS 107 = .int .i64 (i : Int) := hF.2.2.2.2.2.1 hb5
        have e6 : zS 108 = .int .i64 ((i + 1 : Nat) : Int) := hF.2.2.2.2.2.2.1 hb6
        have e7 : zS 109 = .pointer (some ⟨bb, ob + (i + 1), none⟩) := hF.2.2.2.2.2.2.2.1 hb7
        have e8 : zS 110 = .slice (some ⟨bl, ol, none⟩) b.length cl := hF.2.2.2.2.2.2.2.2.1 hb8
        have e9 : zS 111 = .slice gx b.length cx := hF.2.2.2.2.2.2.2.2.2.1 hb9
        have e10 : zS 112 = .slice (some ⟨R, 0, none⟩) 1 1 := hF.2.2.2.2.2.2.2.2.2.2.1 hb10
        have e11 : zS 113 = .slice (some ⟨ga, 0, none⟩) (Z.B.length + 1) ca := hF.2.2.2.2.2.2.2.2.2.2.2.1 hb11
        have e12 : zS 114 = .pointer (some ⟨Bx, 0, none⟩) := hF.2.2.2.2.2.2.2.2.2.2.2.2 hb12
        rw [hb1] at hW
        rw [hb2] at hW
        rw [hb4] at hW
        rw [hb7] at hW
        rw [hb8] at hW
        rw [hb9] at hW
        rw [hb10] at hW
        rw [hb11] at hW
        rw [hb13] at hW
        clear hu hr hF
        simp only [pCE]
        simp only [e0, e1, e2, e3, e4, e5, e6, e7, e8, e9, e10, e11, e12]
        clear e0 e1 e2 e3 e4 e5 e6 e7 e8 e9 e10 e11 e12
        clear hb0 hb1 hb2 hb3 hb4 hb5 hb6 hb7 hb8 hb9 hb10 hb11 hb12 hb13
        clear zB zS
        obtain ⟨hg9, hk9⟩ := HG.out.stepB hbs HVS.out HIN.out (hW.1.fin rfl)
        have HT3 := mkHid (HT2.out.grow HCC.out hg9 hk9)
        obtain ⟨Z1, hZ1⟩ : ∃ z, (⟨Z.B ++ [b], Z.V, Z.M⟩ : SG) = z := ⟨_, rfl⟩
        obtain ⟨A1, hA1⟩ : ∃ z, (⟨some ⟨ga, 0, none⟩, ca, A.a1, A.c1, A.a2, A.c2⟩ : SAd) = z := ⟨_, rfl⟩
        rw [hZ1, hA1] at HT3
        have HZ1 := mkHid hZ1.symm
        have HG1 := mkHid HT3.out.g
        have HX16 : Hid (∀ z, Below va.heap.size va z → z.cell? ⟨X1, 1, none⟩ = some (.slice (some ⟨bv, ov, none⟩) S.V.length A0.c1)) := mkHid fun z h => by have h0 := heap_cell (HT3.out.below HCC.out h).x1 1; simpa [sgC, HAV.out] using h0
        have HV16 : Hid (∀ z, Below va.heap.size va z → z.cell? ⟨bv, ov + i * 3, none⟩ = some (.int .i64 vx.1) ∧ z.cell? ⟨bv, ov + i * 3 + 1, none⟩ = some (.int .i64 vx.2.1) ∧ z.cell? ⟨bv, ov + i * 3 + 2, none⟩ = some (.bool vx.2.2)) := mkHid fun z h => HRV.out z (HT3.out.below HCC.out h).bel
        have HNV : Hid (Z1.V.length ≤ 1048576) := mkHid (by rw [HZ1.out]; exact HNB.out.2.1)
        have hbs := HT3.out.bs
        clear hW hg9 hk9 HG HVS HIN HX14 HR14 HL14 HT2 hZ1 hA1
        go_wp2_with fail
        refine wp_region_inv2 (fun zA0 L zA vb => ∃ (zB : Nat → Bool) (zS : Nat → Value) (R : Nat) (ga : Nat) (ca : Nat), L = #[zB 0, zB 1, zB 2, zB 3, zB 4, zB 5, zB 6, zB 7, zB 8, zB 9, zB 10] ∧ zA = pC zA0 115 125 [zS 115, zS 116, zS 117, zS 118, zS 119, zS 120, zS 121, zS 122, zS 123, zS 124] ∧ ((zB 0 = true → zS 115 = .pointer (some ⟨Bx, 1, none⟩)) ∧ (zB 1 = true → zS 116 = .slice A1.a1 Z1.V.length A1.c1) ∧ (zB 2 = true → zS 117 = .pointer (some ⟨X1, 1, none⟩)) ∧ (zB 3 = true → zS 118 = .slice (some ⟨bv, ov, none⟩) S.V.length A0.c1) ∧ (zB 4 = true → zS 119 = .int .i64 (i : Int)) ∧ (zB 5 = true → zS 120 = .pointer (some ⟨bv, ov + i * 3, none⟩)) ∧ (zB 6 = true → zS 121 = .agg #[.int .i64 vx.1, .int .i64 vx.2.1, .bool vx.2.2]) ∧ (zB 7 = true → zS 122 = .slice (some ⟨R, 0, none⟩) 1 1) ∧ (zB 8 = true → zS 123 = .slice (some ⟨ga, 0, none⟩) (Z1.V.length + 1) ca) ∧ (zB 9 = true → zS 124 = .pointer (some ⟨Bx, 1, none⟩))) ∧ (Ap va vb true (zB 7) (zB 8) (zB 10) (fun _ => True) R [.int .i64 vx.1, .int .i64 vx.2.1, .bool vx.2.2] (Value.ownBlock (.slice A1.a1 Z1.V.length A1.c1)) (fun v => v.ownsRow base 55 3 (.slice (some ⟨ga, 0, none⟩) (Z1.V.length + 1) ca) (Z1.V.length + 1) (eV.flat Z1.V ++ [.int .i64 vx.1, .int .i64 vx.2.1, .bool vx.2.2])) Bx 1 (.slice (some ⟨ga, 0, none⟩) (Z1.V.length + 1) ca)) ∧ ((zB 5) = true → (zB 3) = true) ∧ ((zB 7) = true → (zB 6) = true) ∧ ((zB 8) = true → (zB 1) = true ∧ (zB 7) = true) ∧ ((zB 10) = true → (zB 8) = true) ∧ ((zB 6) = true → (zB 5) = true)) (by kernel_rfl) ?_ ?_ ?_
        ·exact ⟨fun _ => false, fun zd => if zd = 124 then u124 else if zd = 123 then u123 else if zd = 122 then u122 else if zd = 121 then u121 else if zd = 120 then u120 else if zd = 119 then u119 else if zd = 118 then u118 else if zd = 117 then u117 else if zd = 116 then u116 else if zd = 115 then u115 else undef, 0, 0, 0, rfl, by kernel_rfl, ⟨fun e => ft e, fun e => ft e, fun e => ft e, fun e => ft e, fun e => ft e, fun e => ft e, fun e => ft e, fun e => ft e, fun e => ft e, fun e => ft e⟩, ⟨Ap.start1 _ _ _ _ _ _ _ _, fun e => ft e, fun e => ft e, fun e => ft e, fun e => ft e, fun e => ft e⟩⟩
        ·refine StepsI.cons rfl ?_ ?_
         ·rintro L zA vb ⟨zB, zS, R, ga, ca, rfl, rfl, hF, hW⟩ hL hm K hK
          have hb0 : zB 0 = false := by simpa using hL
          clear hL hm
          simp only [pCE]
          have HWz := mkHid hW
          clear hW
          go_simp
          have hW := HWz.out
          clear HWz
          exact hK.out _ _ ⟨fun zj => if zj = 0 then true else zB zj, fun zd => if zd = 115 then .pointer (some ⟨Bx, 1, none⟩) else zS zd, R, ga, ca, rfl, by kernel_rfl, ⟨fun _ => rfl, hF.2.1, hF.2.2.1, hF.2.2.2.1, hF.2.2.2.2.1, hF.2.2.2.2.2.1, hF.2.2.2.2.2.2.1, hF.2.2.2.2.2.2.2.1, hF.2.2.2.2.2.2.2.2.1, hF.2.2.2.2.2.2.2.2.2⟩, hW⟩
         refine StepsI.cons rfl ?_ ?_
         ·rintro L zA vb ⟨zB, zS, R, ga, ca, rfl, rfl, hF, hW⟩ hL hm K hK
          have hb1 : zB 1 = false := by simpa using hL
          have hb0 : zB 0 = true := mt 0 hm (by kernel_rfl)
          have e0 : zS 115 = .pointer (some ⟨Bx, 1, none⟩) := hF.1 hb0
          clear hL hm
          rw [hb1] at hW
          simp only [pCE]
          simp only [e0]
          have hf8 : zB 8 = false := by cases e : zB 8 with | false => rfl | true => exact ft ((hW.2.2.2.1 e).1)
          have hf10 : zB 10 = false := by cases e : zB 10 with | false => rfl | true => exact ft (hf8.symm.trans (hW.2.2.2.2.1 e))
          have hpre := hW.1.pre hf8
          obtain ⟨q0, q1, q2, _, _, _⟩ := (HG1.out.below hpre).g3
          have HWz := mkHid hW
          clear hW
          go_simp
          have hW := HWz.out
          clear HWz
          exact hK.out _ _ ⟨fun zj => if zj = 0 then true else if zj = 1 then true else zB zj, fun zd => if zd = 116 then .slice A1.a1 Z1.V.length A1.c1 else if zd = 115 then .pointer (some ⟨Bx, 1, none⟩) else zS zd, R, ga, ca, by simp [hb0], by kernel_rfl, ⟨fun _ => rfl, fun _ => rfl, hF.2.2.1, hF.2.2.2.1, hF.2.2.2.2.1, hF.2.2.2.2.2.1, hF.2.2.2.2.2.2.1, hF.2.2.2.2.2.2.2.1, hF.2.2.2.2.2.2.2.2.1, hF.2.2.2.2.2.2.2.2.2⟩, ⟨hW.1, hW.2.1, hW.2.2.1, fun e => ft (hf8.symm.trans e), fun e => ft (hf10.symm.trans e), hW.2.2.2.2.2⟩⟩
         refine StepsI.cons rfl ?_ ?_
         ·rintro L zA vb ⟨zB, zS, R, ga, ca, rfl, rfl, hF, hW⟩ hL hm K hK
          have hb2 : zB 2 = false := by simpa using hL
          clear hL hm
          simp only [pCE]
          have HWz := mkHid hW
          clear hW
          go_simp
          have hW := HWz.out
          clear HWz
          exact hK.out _ _ ⟨fun zj => if zj = 2 then true else zB zj, fun zd => if zd = 117 then .pointer (some ⟨X1, 1, none⟩) else zS zd, R, ga, ca, rfl, by kernel_rfl, ⟨hF.1, hF.2.1, fun _ => rfl, hF.2.2.2.1, hF.2.2.2.2.1, hF.2.2.2.2.2.1, hF.2.2.2.2.2.2.1, hF.2.2.2.2.2.2.2.1, hF.2.2.2.2.2.2.2.2.1, hF.2.2.2.2.2.2.2.2.2⟩, hW⟩
         refine StepsI.cons rfl ?_ ?_
         ·rintro L zA vb ⟨zB, zS, R, ga, ca, rfl, rfl, hF, hW⟩ hL hm K hK
          have hb3 : zB 3 = false := by simpa using hL
          have hb2 : zB 2 = true := mt 2 hm (by kernel_rfl)
          have e2 : zS 117 = .pointer (some ⟨X1, 1, none⟩) := hF.2.2.1 hb2
          clear hL hm
          rw [hb3] at hW
          simp only [pCE]
          simp only [e2]
          have hf5 : zB 5 = false := by cases e : zB 5 with | false => rfl | true => exact ft ((hW.2.1 e))
          have hf6 : zB 6 = false := by cases e : zB 6 with | false => rfl | true => exact ft (hf5.symm.trans (hW.2.2.2.2.2 e))
          have hf7 : zB 7 = false := by cases e : zB 7 with | false => rfl | true => exact ft (hf6.symm.trans (hW.2.2.1 e))
          have hf8 : zB 8 = false := by cases e : zB 8 with | false => rfl | true => exact ft (hf7.symm.trans (hW.2.2.2.1 e).2)
          have hf10 : zB 10 = false := by cases e : zB 10 with | false => rfl | true => exact ft (hf8.symm.trans (hW.2.2.2.2.1 e))
          have hpre := hW.1.pre hf8
          have q0 := HX16.out vb hpre
          have HWz := mkHid hW
          clear hW
          go_simp
          have hW := HWz.out
          clear HWz
          exact hK.out _ _ ⟨fun zj => if zj = 2 then true else if zj = 3 then true else zB zj, fun zd => if zd = 118 then .slice (some ⟨bv, ov, none⟩) S.V.length A0.c1 else if zd = 117 then .pointer (some ⟨X1, 1, none⟩) else zS zd, R, ga, ca, by simp [hb2], by kernel_rfl, ⟨hF.1, hF.2.1, fun _ => rfl, fun _ => rfl, hF.2.2.2.2.1, hF.2.2.2.2.2.1, hF.2.2.2.2.2.2.1, hF.2.2.2.2.2.2.2.1, hF.2.2.2.2.2.2.2.2.1, hF.2.2.2.2.2.2.2.2.2⟩, ⟨hW.1, fun e => ft (hf5.symm.trans e), fun e => ft (hf7.symm.trans e), fun e => ft (hf8.symm.trans e), fun e => ft (hf10.symm.trans e), fun e => ft (hf6.symm.trans e)⟩⟩
         refine StepsI.cons rfl ?_ ?_
         ·rintro L zA vb ⟨zB, zS, R, ga, ca, rfl, rfl, hF, hW⟩ hL hm K hK
          have hb4 : zB 4 = false := by simpa using hL
          clear hL hm
          simp only [pCE]
          have HWz := mkHid hW
          clear hW
          go_simp
          have hW := HWz.out
          clear HWz
          exact hK.out _ _ ⟨fun zj => if zj = 4 then true else zB zj, fun zd => if zd = 119 then .int .i64 (i : Int) else zS zd, R, ga, ca, rfl, by kernel_rfl, ⟨hF.1, hF.2.1, hF.2.2.1, hF.2.2.2.1, fun _ => rfl, hF.2.2.2.2.2.1, hF.2.2.2.2.2.2.1, hF.2.2.2.2.2.2.2.1, hF.2.2.2.2.2.2.2.2.1, hF.2.2.2.2.2.2.2.2.2⟩, hW⟩
         refine StepsI.cons rfl ?_ ?_
         ·rintro L zA vb ⟨zB, zS, R, ga, ca, rfl, rfl, hF, hW⟩ hL hm K hK
          have hb5 : zB 5 = false := by simpa using hL
          have hb3 : zB 3 = true := mt 3 hm (by kernel_rfl)
          have hb4 : zB 4 = true := mt 4 hm (by kernel_rfl)
          have e3 : zS 118 = .slice (some ⟨bv, ov, none⟩) S.V.length A0.c1 := hF.2.2.2.1 hb3
          have e4 : zS 119 = .int .i64 (i : Int) := hF.2.2.2.2.1 hb4
          clear hL hm
          rw [hb5] at hW
          rw [hb3] at hW
          simp only [pCE]
          simp only [e3, e4]
          have hf6 : zB 6 = false := by cases e : zB 6 with | false => rfl | true => exact ft ((hW.2.2.2.2.2 e))
          have hf7 : zB 7 = false := by cases e : zB 7 with | false => rfl | true => exact ft (hf6.symm.trans (hW.2.2.1 e))
          have hf8 : zB 8 = false := by cases e : zB 8 with | false => rfl | true => exact ft (hf7.symm.trans (hW.2.2.2.1 e).2)
          have hf10 : zB 10 = false := by cases e : zB 10 with | false => rfl | true => exact ft (hf8.symm.trans (hW.2.2.2.2.1 e))
          have HWz := mkHid hW
          clear hW
          go_simp
          have hW := HWz.out
          clear HWz
          exact hK.out _ _ ⟨fun zj => if zj = 4 then true else if zj = 3 then true else if zj = 5 then true else zB zj, fun zd => if zd = 120 then .pointer (some ⟨bv, ov + i * 3, none⟩) else if zd = 119 then .int .i64 (i : Int) else if zd = 118 then .slice (some ⟨bv, ov, none⟩) S.V.length A0.c1 else zS zd, R, ga, ca, by simp [hb3, hb4], by kernel_rfl, ⟨hF.1, hF.2.1, hF.2.2.1, fun _ => rfl, fun _ => rfl, fun _ => rfl, hF.2.2.2.2.2.2.1, hF.2.2.2.2.2.2.2.1, hF.2.2.2.2.2.2.2.2.1, hF.2.2.2.2.2.2.2.2.2⟩, ⟨hW.1, fun _ => rfl, fun e => ft (hf7.symm.trans e), fun e => ft (hf8.symm.trans e), fun e => ft (hf10.symm.trans e), fun e => ft (hf6.symm.trans e)⟩⟩
         refine StepsI.cons rfl ?_ ?_
         ·rintro L zA vb ⟨zB, zS, R, ga, ca, rfl, rfl, hF, hW⟩ hL hm K hK
          have hb6 : zB 6 = false := by simpa using hL
          have hb5 : zB 5 = true := mt 5 hm (by kernel_rfl)
          have e5 : zS 120 = .pointer (some ⟨bv, ov + i * 3, none⟩) := hF.2.2.2.2.2.1 hb5
          clear hL hm
          rw [hb6] at hW
          rw [hb5] at hW
          simp only [pCE]
          simp only [e5]
          have hf7 : zB 7 = false := by cases e : zB 7 with | false => rfl | true => exact ft ((hW.2.2.1 e))
          have hf8 : zB 8 = false := by cases e : zB 8 with | false => rfl | true => exact ft (hf7.symm.trans (hW.2.2.2.1 e).2)
          have hf10 : zB 10 = false := by cases e : zB 10 with | false => rfl | true => exact ft (hf8.symm.trans (hW.2.2.2.2.1 e))
          have hpre := hW.1.pre hf8
          obtain ⟨d0, d1, d2⟩ := HV16.out vb hpre
          have HWz := mkHid hW
          clear hW
          go_simp
          have hW := HWz.out
          clear HWz
          exact hK.out _ _ ⟨fun zj => if zj = 5 then true else if zj = 6 then true else zB zj, fun zd => if zd = 121 then .agg #[.int .i64 vx.1, .int .i64 vx.2.1, .bool vx.2.2] else if zd = 120 then .pointer (some ⟨bv, ov + i * 3, none⟩) else zS zd, R, ga, ca, by simp [hb5], by kernel_rfl, ⟨hF.1, hF.2.1, hF.2.2.1, hF.2.2.2.1, hF.2.2.2.2.1, fun _ => rfl, fun _ => rfl, hF.2.2.2.2.2.2.2.1, hF.2.2.2.2.2.2.2.2.1, hF.2.2.2.2.2.2.2.2.2⟩, ⟨hW.1, hW.2.1, fun e => ft (hf7.symm.trans e), fun e => ft (hf8.symm.trans e), fun e => ft (hf10.symm.trans e), fun _ => rfl⟩⟩
         refine StepsI.cons rfl ?_ ?_
         ·rintro L zA vb ⟨zB, zS, R, ga, ca, rfl, rfl, hF, hW⟩ hL hm K hK
          have hb7 : zB 7 = false := by simpa using hL
          have hb6 : zB 6 = true := mt 6 hm (by kernel_rfl)
          have e6 : zS 121 = .agg #[.int .i64 vx.1, .int .i64 vx.2.1, .bool vx.2.2] := hF.2.2.2.2.2.2.1 hb6
          clear hL hm
          rw [hb7] at hW
          rw [hb6] at hW
          simp only [pCE]
          simp only [e6]
          have hf8 : zB 8 = false := by cases e : zB 8 with | false => rfl | true => exact ft ((hW.2.2.2.1 e).2)
          have hf10 : zB 10 = false := by cases e : zB 10 with | false => rfl | true => exact ft (hf8.symm.trans (hW.2.2.2.2.1 e))
          have hpre := hW.1.pre hf8
          have HWz := mkHid hW
          clear hW
          go_simp
          have hW := HWz.out
          clear HWz
          exact hK.out _ _ ⟨fun zj => if zj = 6 then true else if zj = 7 then true else zB zj, fun zd => if zd = 122 then .slice (some ⟨vb.heap.size, 0, none⟩) 1 1 else if zd = 121 then .agg #[.int .i64 vx.1, .int .i64 vx.2.1, .bool vx.2.2] else zS zd, vb.heap.size, ga, ca, by simp [hb6], by kernel_rfl, ⟨hF.1, hF.2.1, hF.2.2.1, hF.2.2.2.1, hF.2.2.2.2.1, hF.2.2.2.2.2.1, fun _ => rfl, fun _ => rfl, hF.2.2.2.2.2.2.2.2.1, hF.2.2.2.2.2.2.2.2.2⟩, ⟨hW.1.lay hf8 hf10 (fun _ _ _ _ => True.intro) rfl, hW.2.1, fun _ => rfl, fun e => ft (hf8.symm.trans e), fun e => ft (hf10.symm.trans e), hW.2.2.2.2.2⟩⟩
         refine StepsI.cons rfl ?_ ?_
         ·rintro L zA vb ⟨zB, zS, R, ga, ca, rfl, rfl, hF, hW⟩ hL hm K hK
          have hb8 : zB 8 = false := by simpa using hL
          have hb1 : zB 1 = true := mt 1 hm (by kernel_rfl)
          have hb7 : zB 7 = true := mt 7 hm (by kernel_rfl)
          have e1 : zS 116 = .slice A1.a1 Z1.V.length A1.c1 := hF.2.1 hb1
          have e7 : zS 122 = .slice (some ⟨R, 0, none⟩) 1 1 := hF.2.2.2.2.2.2.2.1 hb7
          clear hL hm
          rw [hb8] at hW
          rw [hb1] at hW
          rw [hb7] at hW
          simp only [pCE]
          simp only [e1, e7]
          have hf10 : zB 10 = false := by cases e : zB 10 with | false => rfl | true => exact ft ((hW.2.2.2.2.1 e))
          have hpre := hW.1.pre rfl
          rw [if_pos (by rfl)]
          refine wp_append_lies _ _ _ 33 rfl base 55 tv (.agg #[.int .i64 0, .int .i64 0, .bool false]) 3 24 Tryz.underlying33 HIV.out.1 HIV.out.2.1 HIV.out.2.2.1 HIV.out.2.2.2 rfl (by decide) (.slice A1.a1 Z1.V.length A1.c1) Z1.V.length (eV.flat Z1.V) rfl ((HG1.out.below hpre).v) ⟨R, 0, none⟩ 1 1 [.int .i64 vx.1, .int .i64 vx.2.1, .bool vx.2.2] rfl rfl (hW.1.tmp rfl rfl) (fun u hu => by simp at hu; rcases hu with rfl | rfl | rfl <;> rfl) (by decide) (by have := HNV.out; unfold maxLen; omega) (by have := HNV.out; omega) (Nat.le_trans hbs hpre.size) vb.heap.size rfl ?_
          intro ga9 ca9 vb2 hown hgrow hat9 hlt9
          exact hK.out _ _ ⟨fun zj => if zj = 7 then true else if zj = 1 then true else if zj = 8 then true else zB zj, fun zd => if zd = 123 then .slice (some ⟨ga9, 0, none⟩) (Z1.V.length + 1) ca9 else if zd = 122 then .slice (some ⟨R, 0, none⟩) 1 1 else if zd = 116 then .slice A1.a1 Z1.V.length A1.c1 else zS zd, R, ga9, ca9, by simp [hb1, hb7], by kernel_rfl, ⟨hF.1, fun _ => rfl, hF.2.2.1, hF.2.2.2.1, hF.2.2.2.2.1, hF.2.2.2.2.2.1, hF.2.2.2.2.2.2.1, fun _ => rfl, fun _ => rfl, hF.2.2.2.2.2.2.2.2.2⟩, ⟨hW.1.app (rfl) hf10 hgrow hown, hW.2.1, hW.2.2.1, fun _ => ⟨rfl, rfl⟩, fun e => ft (hf10.symm.trans e), hW.2.2.2.2.2⟩⟩
         refine StepsI.cons rfl ?_ ?_
         ·rintro L zA vb ⟨zB, zS, R, ga, ca, rfl, rfl, hF, hW⟩ hL hm K hK
          have hb9 : zB 9 = false := by simpa using hL
          clear hL hm
          simp only [pCE]
          have HWz := mkHid hW
          clear hW
          go_simp
          have hW := HWz.out
          clear HWz
          exact hK.out _ _ ⟨fun zj => if zj = 9 then true else zB zj, fun zd => if zd = 124 then .pointer (some ⟨Bx, 1, none⟩) else zS zd, R, ga, ca, rfl, by kernel_rfl, ⟨hF.1, hF.2.1, hF.2.2.1, hF.2.2.2.1, hF.2.2.2.2.1, hF.2.2.2.2.2.1, hF.2.2.2.2.2.2.1, hF.2.2.2.2.2.2.2.1, hF.2.2.2.2.2.2.2.2.1, fun _ => rfl⟩, hW⟩
         refine StepsI.cons rfl ?_ ?_
         ·rintro L zA vb ⟨zB, zS, R, ga, ca, rfl, rfl, hF, hW⟩ hL hm K hK
          have hb10 : zB 10 = false := by simpa using hL
          have hb8 : zB 8 = true := mt 8 hm (by kernel_rfl)
          have hb9 : zB 9 = true := mt 9 hm (by kernel_rfl)
          have e8 : zS 123 = .slice (some ⟨ga, 0, none⟩) (Z1.V.length + 1) ca := hF.2.2.2.2.2.2.2.2.1 hb8
          have e9 : zS 124 = .pointer (some ⟨Bx, 1, none⟩) := hF.2.2.2.2.2.2.2.2.2 hb9
          clear hL hm
          rw [hb10] at hW
          rw [hb8] at hW
          simp only [pCE]
          simp only [e8, e9]
          have hbx := (hW.1.aft rfl rfl).box HG1.out.box (fun v hv q e hq => by subst hq; obtain ⟨c7, h7⟩ := (HG1.out.below hv).v.block e; have h8 := (HG1.out.below hv).box; rw [h7] at h8; simp at h8)
          have q0 := heap_cell hbx 1
          have f0 := heap_free hbx 1
          simp only [sgC] at q0
          simp at q0
          have HWz := mkHid hW
          clear hW
          go_simp
          have hW := HWz.out
          clear HWz
          exact hK.out _ _ ⟨fun zj => if zj = 9 then true else if zj = 8 then true else if zj = 10 then true else zB zj, fun zd => if zd = 124 then .pointer (some ⟨Bx, 1, none⟩) else if zd = 123 then .slice (some ⟨ga, 0, none⟩) (Z1.V.length + 1) ca else zS zd, R, ga, ca, by simp [hb8, hb9], by kernel_rfl, ⟨hF.1, hF.2.1, hF.2.2.1, hF.2.2.2.1, hF.2.2.2.2.1, hF.2.2.2.2.2.1, hF.2.2.2.2.2.2.1, hF.2.2.2.2.2.2.2.1, fun _ => rfl, fun _ => rfl⟩, ⟨hW.1.store, hW.2.1, hW.2.2.1, hW.2.2.2.1, fun _ => rfl, hW.2.2.2.2.2⟩⟩
         exact StepsI.nil (by kernel_rfl)
        ·rintro L zA vb ⟨zB, zS, R, ga, ca, rfl, rfl, hF, hW⟩ hr
         have hu := all_up (by kernel_rfl) (N := 11) (by kernel_rfl) hr
         have hb0 : zB 0 = true := by simpa using hu 0 (by decide)
         have hb1 : zB 1 = true := by simpa using hu 1 (by decide)
         have hb2 : zB 2 = true := by simpa using hu 2 (by decide)
         have hb3 : zB 3 = true := by simpa using hu 3 (by decide)
         have hb4 : zB 4 = true := by simpa using hu 4 (by decide)
         have hb5 : zB 5 = true := by simpa using hu 5 (by decide)
         have hb6 : zB 6 = true := by simpa using hu 6 (by decide)
         have hb7 : zB 7 = true := by simpa using hu 7 (by decide)
         have hb8 : zB 8 = true := by simpa using hu 8 (by decide)
         have hb9 : zB 9 = true := by simpa using hu 9 (by decide)
         have hb10 : zB 10 = true := by simpa using hu 10 (by decide)
         have e0 : zS 115 = .pointer (some ⟨Bx, 1, none⟩) := hF.1 hb0
         have e1 : zS 116 = .slice A1.a1 Z1.V.length A1.c1 := hF.2.1 hb1
         have e2 : zS 117 = .pointer (some ⟨X1, 1, none⟩) := hF.2.2.1 hb2
         have e3 : zS 118 = .slice (some ⟨bv, ov, none⟩) S.V.length A0.c1 := hF.2.2.2.1 hb3
         have e4 : zS 119 = .int .i64 (i : Int) := hF.2.2.2.2.1 hb4
         have e5 : zS 120 = .pointer (some ⟨bv, ov + i * 3, none⟩) := hF.2.2.2.2.2.1 hb5
         have e6 : zS 121 = .agg #[.int .i64 vx.1, .int .i64 vx.2.1, .bool vx.2.2] := hF.2.2.2.2.2.2.1 hb6
         have e7 : zS 122 = .slice (some ⟨R, 0, none⟩) 1 1 := hF.2.2.2.2.2.2.2.1 hb7
         have e8 : zS 123 = .slice (some ⟨ga, 0, none⟩) (Z1.V.length + 1) ca := hF.2.2.2.2.2.2.2.2.1 hb8
         have e9 : zS 124 = .pointer (some ⟨Bx, 1, none⟩) := hF.2.2.2.2.2.2.2.2.2 hb9
         rw [hb1] at hW
         rw [hb3] at hW
         rw [hb5] at hW
         rw [hb6] at hW
         rw [hb7] at hW
         rw [hb8] at hW
         rw [hb10] at hW
         clear hu hr hF
         simp only [pCE]
         simp only [e0, e1, e2, e3, e4, e5, e6, e7, e8, e9]
         clear e0 e1 e2 e3 e4 e5 e6 e7 e8 e9
         clear hb0 hb1 hb2 hb3 hb4 hb5 hb6 hb7 hb8 hb9 hb10
         clear zB zS
         obtain ⟨hg9, hk9⟩ := HG1.out.stepV (x := vx) hbs (hW.1.fin rfl)
         have HT4 := mkHid (HT3.out.grow HCC.out hg9 hk9)
         obtain ⟨Z2, hZ2⟩ : ∃ z, (⟨Z1.B, Z1.V ++ [vx], Z1.M⟩ : SG) = z := ⟨_, rfl⟩
         obtain ⟨A2, hA2⟩ : ∃ z, (⟨A1.a0, A1.c0, some ⟨ga, 0, none⟩, ca, A1.a2, A1.c2⟩ : SAd) = z := ⟨_, rfl⟩
         rw [hZ2, hA2] at HT4
         have HZ2 := mkHid hZ2.symm
         have HG2 := mkHid HT4.out.g
         have HM17 : Hid (∀ z, Below vb.heap.size vb z → z.cell? ⟨gm, i, none⟩ = some (.bool mz)) := mkHid fun z h => (HT4.out.below HCC.out h).mb i mz HMI.out
         have HNM : Hid (Z2.M.length ≤ 1048576) := mkHid (by rw [HZ2.out, HZ1.out]; exact HNB.out.2.2)
         have hbs := HT4.out.bs
         clear hW hg9 hk9 HG1 HX16 HV16 HT3 hZ2 hA2
         go_wp2_with fail
         refine wp_region_inv2 (fun zA0 L zA vc => ∃ (zB : Nat → Bool) (zS : Nat → Value) (R : Nat) (ga : Nat) (ca : Nat), L = #[zB 0, zB 1, zB 2, zB 3, zB 4, zB 5, zB 6, zB 7, zB 8, zB 9] ∧ zA = pC zA0 125 134 [zS 125, zS 126, zS 127, zS 128, zS 129, zS 130, zS 131, zS 132, zS 133] ∧ ((zB 0 = true → zS 125 = .pointer (some ⟨Bx, 2, none⟩)) ∧ (zB 1 = true → zS 126 = .slice A2.a2 Z2.M.length A2.c2) ∧ (zB 2 = true → zS 127 = .slice (some ⟨gm, 0, none⟩) S.M.length cm) ∧ (zB 3 = true → zS 128 = .int .i64 (i : Int)) ∧ (zB 4 = true → zS 129 = .pointer (some ⟨gm, i, none⟩)) ∧ (zB 5 = true → zS 130 = .bool mz) ∧ (zB 6 = true → zS 131 = .slice (some ⟨R, 0, none⟩) 1 1) ∧ (zB 7 = true → zS 132 = .slice (some ⟨ga, 0, none⟩) (Z2.M.length + 1) ca) ∧ (zB 8 = true → zS 133 = .pointer (some ⟨Bx, 2, none⟩))) ∧ (Ap vb vc true (zB 6) (zB 7) (zB 9) (fun _ => True) R [.bool mz] (Value.ownBlock (.slice A2.a2 Z2.M.length A2.c2)) (fun v => v.ownsRow base 4 1 (.slice (some ⟨ga, 0, none⟩) (Z2.M.length + 1) ca) (Z2.M.length + 1) (eB.flat Z2.M ++ [.bool mz])) Bx 2 (.slice (some ⟨ga, 0, none⟩) (Z2.M.length + 1) ca)) ∧ ((zB 6) = true → (zB 5) = true) ∧ ((zB 7) = true → (zB 1) = true ∧ (zB 6) = true) ∧ ((zB 9) = true → (zB 7) = true)) (by kernel_rfl) ?_ ?_ ?_
         ·exact ⟨fun _ => false, fun zd => if zd = 133 then u133 else if zd = 132 then u132 else if zd = 131 then u131 else if zd = 130 then u130 else if zd = 129 then u129 else if zd = 128 then u128 else if zd = 127 then u127 else if zd = 126 then u126 else if zd = 125 then u125 else undef, 0, 0, 0, rfl, by kernel_rfl, ⟨fun e => ft e, fun e => ft e, fun e => ft e, fun e => ft e, fun e => ft e, fun e => ft e, fun e => ft e, fun e => ft e, fun e => ft e⟩, ⟨Ap.start1 _ _ _ _ _ _ _ _, fun e => ft e, fun e => ft e, fun e => ft e⟩⟩
         ·refine StepsI.cons rfl ?_ ?_
          ·rintro L zA vc ⟨zB, zS, R, ga, ca, rfl, rfl, hF, hW⟩ hL hm K hK
           have hb0 : zB 0 = false := by simpa using hL
           clear hL hm
           simp only [pCE]
           have HWz := mkHid hW
           clear hW
           go_simp
           have hW := HWz.out
           clear HWz
           exact hK.out _ _ ⟨fun zj => if zj = 0 then true else zB zj, fun zd => if zd = 125 then .pointer (some ⟨Bx, 2, none⟩) else zS zd, R, ga, ca, rfl, by kernel_rfl, ⟨fun _ => rfl, hF.2.1, hF.2.2.1, hF.2.2.2.1, hF.2.2.2.2.1, hF.2.2.2.2.2.1, hF.2.2.2.2.2.2.1, hF.2.2.2.2.2.2.2.1, hF.2.2.2.2.2.2.2.2⟩, hW⟩
          refine StepsI.cons rfl ?_ ?_
          ·rintro L zA vc ⟨zB, zS, R, ga, ca, rfl, rfl, hF, hW⟩ hL hm K hK
           have hb1 : zB 1 = false := by simpa using hL
           have hb0 : zB 0 = true := mt 0 hm (by kernel_rfl)
           have e0 : zS 125 = .pointer (some ⟨Bx, 2, none⟩) := hF.1 hb0
           clear hL hm
           rw [hb1] at hW
           simp only [pCE]
           simp only [e0]
           have hf7 : zB 7 = false := by cases e : zB 7 with | false => rfl | true => exact ft ((hW.2.2.1 e).1)
           have hf9 : zB 9 = false := by cases e : zB 9 with | false => rfl | true => exact ft (hf7.symm.trans (hW.2.2.2 e))
           have hpre := hW.1.pre hf7
           obtain ⟨q0, q1, q2, _, _, _⟩ := (HG2.out.below hpre).g3
           have HWz := mkHid hW
           clear hW
           go_simp
           have hW := HWz.out
           clear HWz
           exact hK.out _ _ ⟨fun zj => if zj = 0 then true else if zj = 1 then true else zB zj, fun zd => if zd = 126 then .slice A2.a2 Z2.M.length A2.c2 else if zd = 125 then .pointer (some ⟨Bx, 2, none⟩) else zS zd, R, ga, ca, by simp [hb0], by kernel_rfl, ⟨fun _ => rfl, fun _ => rfl, hF.2.2.1, hF.2.2.2.1, hF.2.2.2.2.1, hF.2.2.2.2.2.1, hF.2.2.2.2.2.2.1, hF.2.2.2.2.2.2.2.1, hF.2.2.2.2.2.2.2.2⟩, ⟨hW.1, hW.2.1, fun e => ft (hf7.symm.trans e), fun e => ft (hf9.symm.trans e)⟩⟩
          refine StepsI.cons rfl ?_ ?_
          ·rintro L zA vc ⟨zB, zS, R, ga, ca, rfl, rfl, hF, hW⟩ hL hm K hK
           have hb2 : zB 2 = false := by simpa using hL
           clear hL hm
           simp only [pCE]
           have HWz := mkHid hW
           clear hW
           go_simp
           have hW := HWz.out
           clear HWz
           exact hK.out _ _ ⟨fun zj => if zj = 2 then true else zB zj, fun zd => if zd = 127 then .slice (some ⟨gm, 0, none⟩) S.M.length cm else zS zd, R, ga, ca, rfl, by kernel_rfl, ⟨hF.1, hF.2.1, fun _ => rfl, hF.2.2.2.1, hF.2.2.2.2.1, hF.2.2.2.2.2.1, hF.2.2.2.2.2.2.1, hF.2.2.2.2.2.2.2.1, hF.2.2.2.2.2.2.2.2⟩, hW⟩
          refine StepsI.cons rfl ?_ ?_
          ·rintro L zA vc ⟨zB, zS, R, ga, ca, rfl, rfl, hF, hW⟩ hL hm K hK
           have hb3 : zB 3 = false := by simpa using hL
           clear hL hm
           simp only [pCE]
           have HWz := mkHid hW
           clear hW
           go_simp
           have hW := HWz.out
           clear HWz
           exact hK.out _ _ ⟨fun zj => if zj = 3 then true else zB zj, fun zd => if zd = 128 then .int .i64 (i : Int) else zS zd, R, ga, ca, rfl, by kernel_rfl, ⟨hF.1, hF.2.1, hF.2.2.1, fun _ => rfl, hF.2.2.2.2.1, hF.2.2.2.2.2.1, hF.2.2.2.2.2.2.1, hF.2.2.2.2.2.2.2.1, hF.2.2.2.2.2.2.2.2⟩, hW⟩
          refine StepsI.cons rfl ?_ ?_
          ·rintro L zA vc ⟨zB, zS, R, ga, ca, rfl, rfl, hF, hW⟩ hL hm K hK
           have hb4 : zB 4 = false := by simpa using hL
           have hb2 : zB 2 = true := mt 2 hm (by kernel_rfl)
           have hb3 : zB 3 = true := mt 3 hm (by kernel_rfl)
           have e2 : zS 127 = .slice (some ⟨gm, 0, none⟩) S.M.length cm := hF.2.2.1 hb2
           have e3 : zS 128 = .int .i64 (i : Int) := hF.2.2.2.1 hb3
           clear hL hm
           simp only [pCE]
           simp only [e2, e3]
           have HWz := mkHid hW
           clear hW
           go_simp
           have hW := HWz.out
           clear HWz
           exact hK.out _ _ ⟨fun zj => if zj = 3 then true else if zj = 2 then true else if zj = 4 then true else zB zj, fun zd => if zd = 129 then .pointer (some ⟨gm, i, none⟩) else if zd = 128 then .int .i64 (i : Int) else if zd = 127 then .slice (some ⟨gm, 0, none⟩) S.M.length cm else zS zd, R, ga, ca, by simp [hb2, hb3], by kernel_rfl, ⟨hF.1, hF.2.1, fun _ => rfl, fun _ => rfl, fun _ => rfl, hF.2.2.2.2.2.1, hF.2.2.2.2.2.2.1, hF.2.2.2.2.2.2.2.1, hF.2.2.2.2.2.2.2.2⟩, hW⟩
          refine StepsI.cons rfl ?_ ?_
          ·rintro L zA vc ⟨zB, zS, R, ga, ca, rfl, rfl, hF, hW⟩ hL hm K hK
           have hb5 : zB 5 = false := by simpa using hL
           have hb4 : zB 4 = true := mt 4 hm (by kernel_rfl)
           have e4 : zS 129 = .pointer (some ⟨gm, i, none⟩) := hF.2.2.2.2.1 hb4
           clear hL hm
           rw [hb5] at hW
           simp only [pCE]
           simp only [e4]
           have hf6 : zB 6 = false := by cases e : zB 6 with | false => rfl | true => exact ft ((hW.2.1 e))
           have hf7 : zB 7 = false := by cases e : zB 7 with | false => rfl | true => exact ft (hf6.symm.trans (hW.2.2.1 e).2)
           have hf9 : zB 9 = false := by cases e : zB 9 with | false => rfl | true => exact ft (hf7.symm.trans (hW.2.2.2 e))
           have hpre := hW.1.pre hf7
           have q0 := HM17.out vc hpre
           have HWz := mkHid hW
           clear hW
           go_simp
           have hW := HWz.out
           clear HWz
           exact hK.out _ _ ⟨fun zj => if zj = 4 then true else if zj = 5 then true else zB zj, fun zd => if zd = 130 then .bool mz else if zd = 129 then .pointer (some ⟨gm, i, none⟩) else zS zd, R, ga, ca, by simp [hb4], by kernel_rfl, ⟨hF.1, hF.2.1, hF.2.2.1, hF.2.2.2.1, fun _ => rfl, fun _ => rfl, hF.2.2.2.2.2.2.1, hF.2.2.2.2.2.2.2.1, hF.2.2.2.2.2.2.2.2⟩, ⟨hW.1, fun e => ft (hf6.symm.trans e), fun e => ft (hf7.symm.trans e), fun e => ft (hf9.symm.trans e)⟩⟩
          refine StepsI.cons rfl ?_ ?_
          ·rintro L zA vc ⟨zB, zS, R, ga, ca, rfl, rfl, hF, hW⟩ hL hm K hK
           have hb6 : zB 6 = false := by simpa using hL
           have hb5 : zB 5 = true := mt 5 hm (by kernel_rfl)
           have e5 : zS 130 = .bool mz := hF.2.2.2.2.2.1 hb5
           clear hL hm
           rw [hb6] at hW
           rw [hb5] at hW
           simp only [pCE]
           simp only [e5]
           have hf7 : zB 7 = false := by cases e : zB 7 with | false => rfl | true => exact ft ((hW.2.2.1 e).2)
           have hf9 : zB 9 = false := by cases e : zB 9 with | false => rfl | true => exact ft (hf7.symm.trans (hW.2.2.2 e))
           have hpre := hW.1.pre hf7
           have HWz := mkHid hW
           clear hW
           go_simp
           have hW := HWz.out
           clear HWz
           exact hK.out _ _ ⟨fun zj => if zj = 5 then true else if zj = 6 then true else zB zj, fun zd => if zd = 131 then .slice (some ⟨vc.heap.size, 0, none⟩) 1 1 else if zd = 130 then .bool mz else zS zd, vc.heap.size, ga, ca, by simp [hb5], by kernel_rfl, ⟨hF.1, hF.2.1, hF.2.2.1, hF.2.2.2.1, hF.2.2.2.2.1, fun _ => rfl, fun _ => rfl, hF.2.2.2.2.2.2.2.1, hF.2.2.2.2.2.2.2.2⟩, ⟨hW.1.lay hf7 hf9 (fun _ _ _ _ => True.intro) rfl, fun _ => rfl, fun e => ft (hf7.symm.trans e), fun e => ft (hf9.symm.trans e)⟩⟩
          refine StepsI.cons rfl ?_ ?_
          ·rintro L zA vc ⟨zB, zS, R, ga, ca, rfl, rfl, hF, hW⟩ hL hm K hK
           have hb7 : zB 7 = false := by simpa using hL
           have hb1 : zB 1 = true := mt 1 hm (by kernel_rfl)
           have hb6 : zB 6 = true := mt 6 hm (by kernel_rfl)
           have e1 : zS 126 = .slice A2.a2 Z2.M.length A2.c2 := hF.2.1 hb1
           have e6 : zS 131 = .slice (some ⟨R, 0, none⟩) 1 1 := hF.2.2.2.2.2.2.1 hb6
           clear hL hm
           rw [hb7] at hW
           rw [hb1] at hW
           rw [hb6] at hW
           simp only [pCE]
           simp only [e1, e6]
           have hf9 : zB 9 = false := by cases e : zB 9 with | false => rfl | true => exact ft ((hW.2.2.2 e))
           have hpre := hW.1.pre rfl
           rw [if_pos (by rfl)]
           refine wp_append_lies _ _ _ 24 rfl base 4 tm (.bool false) 1 1 Tryz.underlying24 HIM.out.1 HIM.out.2.1 HIM.out.2.2.1 HIM.out.2.2.2 rfl (by decide) (.slice A2.a2 Z2.M.length A2.c2) Z2.M.length (eB.flat Z2.M) rfl ((HG2.out.below hpre).m) ⟨R, 0, none⟩ 1 1 [.bool mz] rfl rfl (hW.1.tmp rfl rfl) (fun u hu => by simp at hu; subst hu; rfl) (by decide) (by have := HNM.out; unfold maxLen; omega) (by have := HNM.out; omega) (Nat.le_trans hbs hpre.size) vc.heap.size rfl ?_
           intro ga9 ca9 vc2 hown hgrow hat9 hlt9
           exact hK.out _ _ ⟨fun zj => if zj = 6 then true else if zj = 1 then true else if zj = 7 then true else zB zj, fun zd => if zd = 132 then .slice (some ⟨ga9, 0, none⟩) (Z2.M.length + 1) ca9 else if zd = 131 then .slice (some ⟨R, 0, none⟩) 1 1 else if zd = 126 then .slice A2.a2 Z2.M.length A2.c2 else zS zd, R, ga9, ca9, by simp [hb1, hb6], by kernel_rfl, ⟨hF.1, fun _ => rfl, hF.2.2.1, hF.2.2.2.1, hF.2.2.2.2.1, hF.2.2.2.2.2.1, fun _ => rfl, fun _ => rfl, hF.2.2.2.2.2.2.2.2⟩, ⟨hW.1.app (rfl) hf9 hgrow hown, hW.2.1, fun _ => ⟨rfl, rfl⟩, fun e => ft (hf9.symm.trans e)⟩⟩
          refine StepsI.cons rfl ?_ ?_
          ·rintro L zA vc ⟨zB, zS, R, ga, ca, rfl, rfl, hF, hW⟩ hL hm K hK
           have hb8 : zB 8 = false := by simpa using hL
           clear hL hm
           simp only [pCE]
           have HWz := mkHid hW
           clear hW
           go_simp
           have hW := HWz.out
           clear HWz
           exact hK.out _ _ ⟨fun zj => if zj = 8 then true else zB zj, fun zd => if zd = 133 then .pointer (some ⟨Bx, 2, none⟩) else zS zd, R, ga, ca, rfl, by kernel_rfl, ⟨hF.1, hF.2.1, hF.2.2.1, hF.2.2.2.1, hF.2.2.2.2.1, hF.2.2.2.2.2.1, hF.2.2.2.2.2.2.1, hF.2.2.2.2.2.2.2.1, fun _ => rfl⟩, hW⟩
          refine StepsI.cons rfl ?_ ?_
          ·rintro L zA vc ⟨zB, zS, R, ga, ca, rfl, rfl, hF, hW⟩ hL hm K hK
           have hb9 : zB 9 = false := by simpa using hL
           have hb7 : zB 7 = true := mt 7 hm (by kernel_rfl)
           have hb8 : zB 8 = true := mt 8 hm (by kernel_rfl)
           have e7 : zS 132 = .slice (some ⟨ga, 0, none⟩) (Z2.M.length + 1) ca := hF.2.2.2.2.2.2.2.1 hb7
           have e8 : zS 133 = .pointer (some ⟨Bx, 2, none⟩) := hF.2.2.2.2.2.2.2.2 hb8
           clear hL hm
           rw [hb9] at hW
           rw [hb7] at hW
           simp only [pCE]
           simp only [e7, e8]
           have hbx := (hW.1.aft rfl rfl).box HG2.out.box (fun v hv q e hq => by subst hq; obtain ⟨c7, h7⟩ := (HG2.out.below hv).m.block e; have h8 := (HG2.out.below hv).box; rw [h7] at h8; simp at h8)
           have q0 := heap_cell hbx 2
           have f0 := heap_free hbx 2
           simp only [sgC] at q0
           simp at q0
           have HWz := mkHid hW
           clear hW
           go_simp
           have hW := HWz.out
           clear HWz
           exact hK.out _ _ ⟨fun zj => if zj = 8 then true else if zj = 7 then true else if zj = 9 then true else zB zj, fun zd => if zd = 133 then .pointer (some ⟨Bx, 2, none⟩) else if zd = 132 then .slice (some ⟨ga, 0, none⟩) (Z2.M.length + 1) ca else zS zd, R, ga, ca, by simp [hb7, hb8], by kernel_rfl, ⟨hF.1, hF.2.1, hF.2.2.1, hF.2.2.2.1, hF.2.2.2.2.1, hF.2.2.2.2.2.1, hF.2.2.2.2.2.2.1, fun _ => rfl, fun _ => rfl⟩, ⟨hW.1.store, hW.2.1, hW.2.2.1, fun _ => rfl⟩⟩
          exact StepsI.nil (by kernel_rfl)
         ·rintro L zA vc ⟨zB, zS, R, ga, ca, rfl, rfl, hF, hW⟩ hr
          have hu := all_up (by kernel_rfl) (N := 10) (by kernel_rfl) hr
          have hb0 : zB 0 = true := by simpa using hu 0 (by decide)
          have hb1 : zB 1 = true := by simpa using hu 1 (by decide)
          have hb2 : zB 2 = true := by simpa using hu 2 (by decide)
          have hb3 : zB 3 = true := by simpa using hu 3 (by decide)
          have hb4 : zB 4 = true := by simpa using hu 4 (by decide)
          have hb5 : zB 5 = true := by simpa using hu 5 (by decide)
          have hb6 : zB 6 = true := by simpa using hu 6 (by decide)
          have hb7 : zB 7 = true := by simpa using hu 7 (by decide)
          have hb8 : zB 8 = true := by simpa using hu 8 (by decide)
          have hb9 : zB 9 = true := by simpa using hu 9 (by decide)
          have e0 : zS 125 = .pointer (some ⟨Bx, 2, none⟩) := hF.1 hb0
          have e1 : zS 126 = .slice A2.a2 Z2.M.length A2.c2 := hF.2.1 hb1
          have e2 : zS 127 = .slice (some ⟨gm, 0, none⟩) S.M.length cm := hF.2.2.1 hb2
          have e3 : zS 128 = .int .i64 (i : Int) := hF.2.2.2.1 hb3
          have e4 : zS 129 = .pointer (some ⟨gm, i, none⟩) := hF.2.2.2.2.1 hb4
          have e5 : zS 130 = .bool mz := hF.2.2.2.2.2.1 hb5
          have e6 : zS 131 = .slice (some ⟨R, 0, none⟩) 1 1 := hF.2.2.2.2.2.2.1 hb6
          have e7 : zS 132 = .slice (some ⟨ga, 0, none⟩) (Z2.M.length + 1) ca := hF.2.2.2.2.2.2.2.1 hb7
          have e8 : zS 133 = .pointer (some ⟨Bx, 2, none⟩) := hF.2.2.2.2.2.2.2.2 hb8
          rw [hb1] at hW
          rw [hb5] at hW
          rw [hb6] at hW
          rw [hb7] at hW
          rw [hb9] at hW
          clear hu hr hF
          simp only [pCE]
          simp only [e0, e1, e2, e3, e4, e5, e6, e7, e8]
          clear e0 e1 e2 e3 e4 e5 e6 e7 e8
          clear hb0 hb1 hb2 hb3 hb4 hb5 hb6 hb7 hb8 hb9
          clear zB zS
          obtain ⟨hg9, hk9⟩ := HG2.out.stepM (x := mz) hbs (hW.1.fin rfl)
          have HT5 := mkHid (HT4.out.grow HCC.out hg9 hk9)
          have HNX := mkHid (HKE.out HCT.out)
          clear hW hg9 hk9 HG2 HM17 HT4 hbs
          go_wp2
          go_roundg (S.M.length - (i + 1))
          case measure => exact hmz
          case rel => exact ⟨i + 1, _, _, _, _, hle, by go_num, Nat.le_refl _, HNX.out, (by have h := HT5.out; rw [HZ2.out, HZ1.out] at h; exact h)⟩
      ·have HBM := mkHid hW
       have HT2 := mkHid (HTI.out.below HCC.out hW)
       obtain ⟨wq, hwq⟩ : ∃ z, wc.alloc (.cells #[] 49) = z := ⟨_, rfl⟩
       have hwb : Below wc.heap.size wc wq := by rw [← hwq]; exact bl_alloc (Below.refl _ _) _
       have q0 := HCX.out wq (below_step hW hwb)
       have q1 := HRC.out wq (below_step hW hwb)
       have HFN : Hid (Own eY 49 wq wc.heap.size (.slice (some ⟨wc.heap.size, 0, none⟩) 0 0) []) := mkHid (by rw [← hwq]; exact fresh_y (Nat.le_refl _) (by have := heap_alloc_new wc (.cells #[] 49); simpa using this))
       have HA7 := mkHid (HAC.out.below (below_step hW hwb))
       have hcl := HCL.out
       have hws := hwb.size
       have HWQ := mkHid hwq
       clear hW hwb
       go_wp2_with (at_builtin; (try rw [HWQ.out]); refine append_y _ rfl _ _ rfl wc.heap.size wc.heap.size 0 0 [] rfl rfl HFN.out ac cc cur.length cur rfl rfl HA7.out (by omega) hws ?_)
       intro g3 c3 w3 hown hgr
       have HO3 : Hid (Own eY 49 w3 wc.heap.size (.slice (some ⟨g3, 0, none⟩) cur.length c3) cur) := mkHid (by simpa using hown)
       have HB3 : Hid (Below wc.heap.size wc w3) := mkHid (by have h := HWQ.out; subst h; exact ((Below.refl _ _).alloc (Nat.le_refl _) _).grown hgr hws (fun q e => by cases e; exact Nat.le_refl _))
       try simp only [Nat.zero_add]
       clear hown hgr HFN HA7 q0 q1 hws HWQ hwq
       go_wp2_with fail
       refine wp_region_inv2 (fun zA0 L zA v8 => ∃ (zB : Nat → Bool) (zS : Nat → Value) (ga : Nat) (ca : Nat) (gr : Nat) (cr : Nat), L = #[zB 0, zB 1, zB 2, zB 3, zB 4, zB 5, zB 6, zB 7, zB 8, zB 9, zB 10, zB 11, zB 12, zB 13] ∧ zA = pC zA0 89 102 [zS 89, zS 90, zS 91, zS 92, zS 93, zS 94, zS 95, zS 96, zS 97, zS 98, zS 99, zS 100, zS 101] ∧ ((zB 0 = true → zS 89 = .pointer (some ⟨Bx, 0, none⟩)) ∧ (zB 1 = true → zS 90 = .slice (some ⟨g, 0, none⟩) Z.B.length A.c0) ∧ (zB 2 = true → zS 91 = .int .i64 (k : Int)) ∧ (zB 3 = true → zS 92 = .slice (some ⟨g3, 0, none⟩) cur.length c3) ∧ (zB 4 = true → zS 93 = .pointer (some ⟨X1, 0, none⟩)) ∧ (zB 5 = true → zS 94 = .slice (some ⟨bb, ob, none⟩) S.B.length A0.c0) ∧ (zB 6 = true → zS 95 = .int .i64 (i : Int)) ∧ (zB 7 = true → zS 96 = .int .i64 ((i + 1 : Nat) : Int)) ∧ (zB 8 = true → zS 97 = .pointer (some ⟨bb, ob + (i + 1), none⟩)) ∧ (zB 9 = true → zS 98 = .slice (some ⟨bl, ol, none⟩) b.length cl) ∧ (zB 10 = true → zS 99 = .slice (some ⟨ga, 0, none⟩) (cur.length + b.length) ca) ∧ (zB 11 = true → zS 100 = .slice (some ⟨gr, 0, none⟩) lm.length cr) ∧ (zB 12 = true → zS 101 = .pointer (some ⟨g, k, none⟩))) ∧ ((zB 13) = false → Below wc.heap.size wc v8) ∧ ((zB 10) = false → Own eY 49 v8 wc.heap.size (.slice (some ⟨g3, 0, none⟩) cur.length c3) cur) ∧ ((zB 10) = true → (zB 11) = false → Own eY 49 v8 wc.heap.size (.slice (some ⟨ga, 0, none⟩) (cur.length + b.length) ca) (cur ++ b)) ∧ ((zB 11) = true → (zB 13) = false → Own eY 49 v8 wc.heap.size (.slice (some ⟨gr, 0, none⟩) lm.length cr) lm) ∧ ((zB 13) = true → ∃ vb, Below wc.heap.size wc vb ∧ Own eY 49 vb wc.heap.size (.slice (some ⟨gr, 0, none⟩) lm.length cr) lm ∧ v8 = vb.setCell ⟨g, k, none⟩ (.slice (some ⟨gr, 0, none⟩) lm.length cr)) ∧ ((zB 13) = true → (zB 12) = true ∧ (zB 11) = true) ∧ ((zB 12) = true → (zB 1) = true) ∧ ((zB 11) = true → (zB 10) = true) ∧ ((zB 10) = true → (zB 9) = true) ∧ ((zB 9) = true → (zB 8) = true) ∧ ((zB 8) = true → (zB 5) = true)) (by kernel_rfl) ?_ ?_ ?_
       ·exact ⟨fun _ => false, fun zd => if zd = 101 then u101 else if zd = 100 then u100 else if zd = 99 then u99 else if zd = 98 then u98 else if zd = 97 then u97 else if zd = 96 then u96 else if zd = 95 then u95 else if zd = 94 then u94 else if zd = 93 then u93 else if zd = 92 then u92 else if zd = 91 then u91 else if zd = 90 then u90 else if zd = 89 then u89 else undef, 0, 0, 0, 0, rfl, by kernel_rfl, ⟨fun e => ft e, fun e => ft e, fun e => ft e, fun e => ft e, fun e => ft e, fun e => ft e, fun e => ft e, fun e => ft e, fun e => ft e, fun e => ft e, fun e => ft e, fun e => ft e, fun e => ft e⟩, ⟨fun _ => bl_drew HB3.out, fun _ => HO3.out.below (Below.refl _ _).drew, fun e => ft e, fun e => ft e, fun e => ft e, fun e => ft e, fun e => ft e, fun e => ft e, fun e => ft e, fun e => ft e, fun e => ft e⟩⟩
       ·refine StepsI.cons rfl ?_ ?_
        ·rintro L zA v8 ⟨zB, zS, ga, ca, gr, cr, rfl, rfl, hF, hW⟩ hL hm K hK
         have hb0 : zB 0 = false := by simpa using hL
         clear hL hm
         simp only [pCE]
         have HWz := mkHid hW
         clear hW
         go_simp
         have hW := HWz.out
         clear HWz
         exact hK.out _ _ ⟨fun zj => if zj = 0 then true else zB zj, fun zd => if zd = 89 then .pointer (some ⟨Bx, 0, none⟩) else zS zd, ga, ca, gr, cr, rfl, by kernel_rfl, ⟨fun _ => rfl, hF.2.1, hF.2.2.1, hF.2.2.2.1, hF.2.2.2.2.1, hF.2.2.2.2.2.1, hF.2.2.2.2.2.2.1, hF.2.2.2.2.2.2.2.1, hF.2.2.2.2.2.2.2.2.1, hF.2.2.2.2.2.2.2.2.2.1, hF.2.2.2.2.2.2.2.2.2.2.1, hF.2.2.2.2.2.2.2.2.2.2.2.1, hF.2.2.2.2.2.2.2.2.2.2.2.2⟩, hW⟩
        refine StepsI.cons rfl ?_ ?_
        ·rintro L zA v8 ⟨zB, zS, ga, ca, gr, cr, rfl, rfl, hF, hW⟩ hL hm K hK
         have hb1 : zB 1 = false := by simpa using hL
         have hb0 : zB 0 = true := mt 0 hm (by kernel_rfl)
         have e0 : zS 89 = .pointer (some ⟨Bx, 0, none⟩) := hF.1 hb0
         clear hL hm
         rw [hb1] at hW
         simp only [pCE]
         simp only [e0]
         have hf12 : zB 12 = false := by cases e : zB 12 with | false => rfl | true => exact ft ((hW.2.2.2.2.2.2.1 e))
         have hf13 : zB 13 = false := by cases e : zB 13 with | false => rfl | true => exact ft (hf12.symm.trans (hW.2.2.2.2.2.1 e).1)
         have hpre := hW.1 hf13
         have q0 := HCX.out _ (below_step HBM.out hpre)
         have HWz := mkHid hW
         clear hW
         go_simp
         have hW := HWz.out
         clear HWz
         exact hK.out _ _ ⟨fun zj => if zj = 0 then true else if zj = 1 then true else zB zj, fun zd => if zd = 90 then .slice (some ⟨g, 0, none⟩) Z.B.length A.c0 else if zd = 89 then .pointer (some ⟨Bx, 0, none⟩) else zS zd, ga, ca, gr, cr, by simp [hb0], by kernel_rfl, ⟨fun _ => rfl, fun _ => rfl, hF.2.2.1, hF.2.2.2.1, hF.2.2.2.2.1, hF.2.2.2.2.2.1, hF.2.2.2.2.2.2.1, hF.2.2.2.2.2.2.2.1, hF.2.2.2.2.2.2.2.2.1, hF.2.2.2.2.2.2.2.2.2.1, hF.2.2.2.2.2.2.2.2.2.2.1, hF.2.2.2.2.2.2.2.2.2.2.2.1, hF.2.2.2.2.2.2.2.2.2.2.2.2⟩, ⟨hW.1, hW.2.1, hW.2.2.1, hW.2.2.2.1, hW.2.2.2.2.1, fun e => ft (hf13.symm.trans e), fun e => ft (hf12.symm.trans e), hW.2.2.2.2.2.2.2.1, hW.2.2.2.2.2.2.2.2.1, hW.2.2.2.2.2.2.2.2.2.1, hW.2.2.2.2.2.2.2.2.2.2⟩⟩
        refine StepsI.cons rfl ?_ ?_
        ·rintro L zA v8 ⟨zB, zS, ga, ca, gr, cr, rfl, rfl, hF, hW⟩ hL hm K hK
         have hb2 : zB 2 = false := by simpa using hL
         clear hL hm
         simp only [pCE]
         have HWz := mkHid hW
         clear hW
         go_simp
         have hW := HWz.out
         clear HWz
         exact hK.out _ _ ⟨fun zj => if zj = 2 then true else zB zj, fun zd => if zd = 91 then .int .i64 (k : Int) else zS zd, ga, ca, gr, cr, rfl, by kernel_rfl, ⟨hF.1, hF.2.1, fun _ => rfl, hF.2.2.2.1, hF.2.2.2.2.1, hF.2.2.2.2.2.1, hF.2.2.2.2.2.2.1, hF.2.2.2.2.2.2.2.1, hF.2.2.2.2.2.2.2.2.1, hF.2.2.2.2.2.2.2.2.2.1, hF.2.2.2.2.2.2.2.2.2.2.1, hF.2.2.2.2.2.2.2.2.2.2.2.1, hF.2.2.2.2.2.2.2.2.2.2.2.2⟩, hW⟩
        refine StepsI.cons rfl ?_ ?_
        ·rintro L zA v8 ⟨zB, zS, ga, ca, gr, cr, rfl, rfl, hF, hW⟩ hL hm K hK
         have hb3 : zB 3 = false := by simpa using hL
         clear hL hm
         simp only [pCE]
         have HWz := mkHid hW
         clear hW
         go_simp
         have hW := HWz.out
         clear HWz
         exact hK.out _ _ ⟨fun zj => if zj = 3 then true else zB zj, fun zd => if zd = 92 then .slice (some ⟨g3, 0, none⟩) cur.length c3 else zS zd, ga, ca, gr, cr, rfl, by kernel_rfl, ⟨hF.1, hF.2.1, hF.2.2.1, fun _ => rfl, hF.2.2.2.2.1, hF.2.2.2.2.2.1, hF.2.2.2.2.2.2.1, hF.2.2.2.2.2.2.2.1, hF.2.2.2.2.2.2.2.2.1, hF.2.2.2.2.2.2.2.2.2.1, hF.2.2.2.2.2.2.2.2.2.2.1, hF.2.2.2.2.2.2.2.2.2.2.2.1, hF.2.2.2.2.2.2.2.2.2.2.2.2⟩, hW⟩
        refine StepsI.cons rfl ?_ ?_
        ·rintro L zA v8 ⟨zB, zS, ga, ca, gr, cr, rfl, rfl, hF, hW⟩ hL hm K hK
         have hb4 : zB 4 = false := by simpa using hL
         clear hL hm
         simp only [pCE]
         have HWz := mkHid hW
         clear hW
         go_simp
         have hW := HWz.out
         clear HWz
         exact hK.out _ _ ⟨fun zj => if zj = 4 then true else zB zj, fun zd => if zd = 93 then .pointer (some ⟨X1, 0, none⟩) else zS zd, ga, ca, gr, cr, rfl, by kernel_rfl, ⟨hF.1, hF.2.1, hF.2.2.1, hF.2.2.2.1, fun _ => rfl, hF.2.2.2.2.2.1, hF.2.2.2.2.2.2.1, hF.2.2.2.2.2.2.2.1, hF.2.2.2.2.2.2.2.2.1, hF.2.2.2.2.2.2.2.2.2.1, hF.2.2.2.2.2.2.2.2.2.2.1, hF.2.2.2.2.2.2.2.2.2.2.2.1, hF.2.2.2.2.2.2.2.2.2.2.2.2⟩, hW⟩
        refine StepsI.cons rfl ?_ ?_
        ·rintro L zA v8 ⟨zB, zS, ga, ca, gr, cr, rfl, rfl, hF, hW⟩ hL hm K hK
         have hb5 : zB 5 = false := by simpa using hL
         have hb4 : zB 4 = true := mt 4 hm (by kernel_rfl)
         have e4 : zS 93 = .pointer (some ⟨X1, 0, none⟩) := hF.2.2.2.2.1 hb4
         clear hL hm
         rw [hb5] at hW
         simp only [pCE]
         simp only [e4]
         have hf8 : zB 8 = false := by cases e : zB 8 with | false => rfl | true => exact ft ((hW.2.2.2.2.2.2.2.2.2.2 e))
         have hf9 : zB 9 = false := by cases e : zB 9 with | false => rfl | true => exact ft (hf8.symm.trans (hW.2.2.2.2.2.2.2.2.2.1 e))
         have hf10 : zB 10 = false := by cases e : zB 10 with | false => rfl | true => exact ft (hf9.symm.trans (hW.2.2.2.2.2.2.2.2.1 e))
         have hf11 : zB 11 = false := by cases e : zB 11 with | false => rfl | true => exact ft (hf10.symm.trans (hW.2.2.2.2.2.2.2.1 e))
         have hf13 : zB 13 = false := by cases e : zB 13 with | false => rfl | true => exact ft (hf11.symm.trans (hW.2.2.2.2.2.1 e).2)
         have hpre := hW.1 hf13
         obtain ⟨q0, _⟩ := HC1.out _ (below_step HBM.out hpre)
         have HWz := mkHid hW
         clear hW
         go_simp
         have hW := HWz.out
         clear HWz
         exact hK.out _ _ ⟨fun zj => if zj = 4 then true else if zj = 5 then true else zB zj, fun zd => if zd = 94 then .slice (some ⟨bb, ob, none⟩) S.B.length A0.c0 else if zd = 93 then .pointer (some ⟨X1, 0, none⟩) else zS zd, ga, ca, gr, cr, by simp [hb4], by kernel_rfl, ⟨hF.1, hF.2.1, hF.2.2.1, hF.2.2.2.1, fun _ => rfl, fun _ => rfl, hF.2.2.2.2.2.2.1, hF.2.2.2.2.2.2.2.1, hF.2.2.2.2.2.2.2.2.1, hF.2.2.2.2.2.2.2.2.2.1, hF.2.2.2.2.2.2.2.2.2.2.1, hF.2.2.2.2.2.2.2.2.2.2.2.1, hF.2.2.2.2.2.2.2.2.2.2.2.2⟩, ⟨hW.1, hW.2.1, hW.2.2.1, hW.2.2.2.1, hW.2.2.2.2.1, fun e => ft (hf13.symm.trans e), hW.2.2.2.2.2.2.1, fun e => ft (hf11.symm.trans e), fun e => ft (hf10.symm.trans e), fun e => ft (hf9.symm.trans e), fun e => ft (hf8.symm.trans e)⟩⟩
        refine StepsI.cons rfl ?_ ?_
        ·rintro L zA v8 ⟨zB, zS, ga, ca, gr, cr, rfl, rfl, hF, hW⟩ hL hm K hK
         have hb6 : zB 6 = false := by simpa using hL
         clear hL hm
         simp only [pCE]
         have HWz := mkHid hW
         clear hW
         go_simp
         have hW := HWz.out
         clear HWz
         exact hK.out _ _ ⟨fun zj => if zj = 6 then true else zB zj, fun zd => if zd = 95 then .int .i64 (i : Int) else zS zd, ga, ca, gr, cr, rfl, by kernel_rfl, ⟨hF.1, hF.2.1, hF.2.2.1, hF.2.2.2.1, hF.2.2.2.2.1, hF.2.2.2.2.2.1, fun _ => rfl, hF.2.2.2.2.2.2.2.1, hF.2.2.2.2.2.2.2.2.1, hF.2.2.2.2.2.2.2.2.2.1, hF.2.2.2.2.2.2.2.2.2.2.1, hF.2.2.2.2.2.2.2.2.2.2.2.1, hF.2.2.2.2.2.2.2.2.2.2.2.2⟩, hW⟩
        refine StepsI.cons rfl ?_ ?_
        ·rintro L zA v8 ⟨zB, zS, ga, ca, gr, cr, rfl, rfl, hF, hW⟩ hL hm K hK
         have hb7 : zB 7 = false := by simpa using hL
         have hb6 : zB 6 = true := mt 6 hm (by kernel_rfl)
         have e6 : zS 95 = .int .i64 (i : Int) := hF.2.2.2.2.2.2.1 hb6
         clear hL hm
         simp only [pCE]
         simp only [e6]
         have HWz := mkHid hW
         clear hW
         go_simp
         have hW := HWz.out
         clear HWz
         exact hK.out _ _ ⟨fun zj => if zj = 6 then true else if zj = 7 then true else zB zj, fun zd => if zd = 96 then .int .i64 ((i + 1 : Nat) : Int) else if zd = 95 then .int .i64 (i : Int) else zS zd, ga, ca, gr, cr, by simp [hb6], by kernel_rfl, ⟨hF.1, hF.2.1, hF.2.2.1, hF.2.2.2.1, hF.2.2.2.2.1, hF.2.2.2.2.2.1, fun _ => rfl, fun _ => rfl, hF.2.2.2.2.2.2.2.2.1, hF.2.2.2.2.2.2.2.2.2.1, hF.2.2.2.2.2.2.2.2.2.2.1, hF.2.2.2.2.2.2.2.2.2.2.2.1, hF.2.2.2.2.2.2.2.2.2.2.2.2⟩, hW⟩
        refine StepsI.cons rfl ?_ ?_
        ·rintro L zA v8 ⟨zB, zS, ga, ca, gr, cr, rfl, rfl, hF, hW⟩ hL hm K hK
         have hb8 : zB 8 = false := by simpa using hL
         have hb5 : zB 5 = true := mt 5 hm (by kernel_rfl)
         have hb7 : zB 7 = true := mt 7 hm (by kernel_rfl)
         have e5 : zS 94 = .slice (some ⟨bb, ob, none⟩) S.B.length A0.c0 := hF.2.2.2.2.2.1 hb5
         have e7 : zS 96 = .int .i64 ((i + 1 : Nat) : Int) := hF.2.2.2.2.2.2.2.1 hb7
         clear hL hm
         rw [hb8] at hW
         rw [hb5] at hW
         simp only [pCE]
         simp only [e5, e7]
         have hf9 : zB 9 = false := by cases e : zB 9 with | false => rfl | true => exact ft ((hW.2.2.2.2.2.2.2.2.2.1 e))
         have hf10 : zB 10 = false := by cases e : zB 10 with | false => rfl | true => exact ft (hf9.symm.trans (hW.2.2.2.2.2.2.2.2.1 e))
         have hf11 : zB 11 = false := by cases e : zB 11 with | false => rfl | true => exact ft (hf10.symm.trans (hW.2.2.2.2.2.2.2.1 e))
         have hf13 : zB 13 = false := by cases e : zB 13 with | false => rfl | true => exact ft (hf11.symm.trans (hW.2.2.2.2.2.1 e).2)
         have HWz := mkHid hW
         clear hW
         go_simp
         have hW := HWz.out
         clear HWz
         exact hK.out _ _ ⟨fun zj => if zj = 7 then true else if zj = 5 then true else if zj = 8 then true else zB zj, fun zd => if zd = 97 then .pointer (some ⟨bb, ob + (i + 1), none⟩) else if zd = 96 then .int .i64 ((i + 1 : Nat) : Int) else if zd = 94 then .slice (some ⟨bb, ob, none⟩) S.B.length A0.c0 else zS zd, ga, ca, gr, cr, by simp [hb5, hb7], by kernel_rfl, ⟨hF.1, hF.2.1, hF.2.2.1, hF.2.2.2.1, hF.2.2.2.2.1, fun _ => rfl, hF.2.2.2.2.2.2.1, fun _ => rfl, fun _ => rfl, hF.2.2.2.2.2.2.2.2.2.1, hF.2.2.2.2.2.2.2.2.2.2.1, hF.2.2.2.2.2.2.2.2.2.2.2.1, hF.2.2.2.2.2.2.2.2.2.2.2.2⟩, ⟨hW.1, hW.2.1, hW.2.2.1, hW.2.2.2.1, hW.2.2.2.2.1, fun e => ft (hf13.symm.trans e), hW.2.2.2.2.2.2.1, fun e => ft (hf11.symm.trans e), fun e => ft (hf10.symm.trans e), fun e => ft (hf9.symm.trans e), fun _ => rfl⟩⟩
        refine StepsI.cons rfl ?_ ?_
        ·rintro L zA v8 ⟨zB, zS, ga, ca, gr, cr, rfl, rfl, hF, hW⟩ hL hm K hK
         have hb9 : zB 9 = false := by simpa using hL
         have hb8 : zB 8 = true := mt 8 hm (by kernel_rfl)
         have e8 : zS 97 = .pointer (some ⟨bb, ob + (i + 1), none⟩) := hF.2.2.2.2.2.2.2.2.1 hb8
         clear hL hm
         rw [hb9] at hW
         rw [hb8] at hW
         simp only [pCE]
         simp only [e8]
         have hf10 : zB 10 = false := by cases e : zB 10 with | false => rfl | true => exact ft ((hW.2.2.2.2.2.2.2.2.1 e))
         have hf11 : zB 11 = false := by cases e : zB 11 with | false => rfl | true => exact ft (hf10.symm.trans (hW.2.2.2.2.2.2.2.1 e))
         have hf13 : zB 13 = false := by cases e : zB 13 with | false => rfl | true => exact ft (hf11.symm.trans (hW.2.2.2.2.2.1 e).2)
         have hpre := hW.1 hf13
         have q0 := HRR.out _ (below_step HBM.out hpre)
         have HWz := mkHid hW
         clear hW
         go_simp
         have hW := HWz.out
         clear HWz
         exact hK.out _ _ ⟨fun zj => if zj = 8 then true else if zj = 9 then true else zB zj, fun zd => if zd = 98 then .slice (some ⟨bl, ol, none⟩) b.length cl else if zd = 97 then .pointer (some ⟨bb, ob + (i + 1), none⟩) else zS zd, ga, ca, gr, cr, by simp [hb8], by kernel_rfl, ⟨hF.1, hF.2.1, hF.2.2.1, hF.2.2.2.1, hF.2.2.2.2.1, hF.2.2.2.2.2.1, hF.2.2.2.2.2.2.1, hF.2.2.2.2.2.2.2.1, fun _ => rfl, fun _ => rfl, hF.2.2.2.2.2.2.2.2.2.2.1, hF.2.2.2.2.2.2.2.2.2.2.2.1, hF.2.2.2.2.2.2.2.2.2.2.2.2⟩, ⟨hW.1, hW.2.1, hW.2.2.1, hW.2.2.2.1, hW.2.2.2.2.1, fun e => ft (hf13.symm.trans e), hW.2.2.2.2.2.2.1, fun e => ft (hf11.symm.trans e), fun e => ft (hf10.symm.trans e), fun _ => rfl, hW.2.2.2.2.2.2.2.2.2.2⟩⟩
        refine StepsI.cons rfl ?_ ?_
        ·rintro L zA v8 ⟨zB, zS, ga, ca, gr, cr, rfl, rfl, hF, hW⟩ hL hm K hK
         have hb10 : zB 10 = false := by simpa using hL
         have hb3 : zB 3 = true := mt 3 hm (by kernel_rfl)
         have hb9 : zB 9 = true := mt 9 hm (by kernel_rfl)
         have e3 : zS 92 = .slice (some ⟨g3, 0, none⟩) cur.length c3 := hF.2.2.2.1 hb3
         have e9 : zS 98 = .slice (some ⟨bl, ol, none⟩) b.length cl := hF.2.2.2.2.2.2.2.2.2.1 hb9
         clear hL hm
         rw [hb10] at hW
         rw [hb9] at hW
         simp only [pCE]
         simp only [e3, e9]
         have hf11 : zB 11 = false := by cases e : zB 11 with | false => rfl | true => exact ft ((hW.2.2.2.2.2.2.2.1 e))
         have hf13 : zB 13 = false := by cases e : zB 13 with | false => rfl | true => exact ft (hf11.symm.trans (hW.2.2.2.2.2.1 e).2)
         have hpre := hW.1 hf13
         have hfr := hW.2.1 rfl
         rw [if_pos (by rfl)]
         refine wp_append_lies _ _ _ 113 rfl wc.heap.size 49 ty (.agg #[.int .i64 0, .int .i64 0]) 2 16 Tryz.underlying113 HIY.out.1 HIY.out.2.1 HIY.out.2.2.1 HIY.out.2.2.2 rfl (by decide) (.slice (some ⟨g3, 0, none⟩) cur.length c3) cur.length (eY.flat cur) rfl hfr ⟨bl, ol, none⟩ b.length cl (eY.flat b) rfl (eY.flat_len b) (news_at (HRL.out v8 (below_step (below_step HTI.out.bel HBM.out) hpre))) (fun u hu => flat_one hu) HLP.out (by have := HCB2.out; unfold maxLen; omega) (by have := HCB2.out; omega) hpre.size v8.heap.size rfl ?_
         intro ga9 ca9 v82 hown hgrow hat9 hlt9
         have hbr : Below wc.heap.size wc v82 := hpre.grown hgrow hpre.size (fun q hq => (hfr.lt hq).1)
         have hown9 : Own eY 49 v82 wc.heap.size (.slice (some ⟨ga9, 0, none⟩) (cur.length + b.length) ca9) (cur ++ b) := by unfold Own; rw [List.length_append, El.flat_app]; exact hown
         exact hK.out _ _ ⟨fun zj => if zj = 9 then true else if zj = 3 then true else if zj = 10 then true else zB zj, fun zd => if zd = 99 then .slice (some ⟨ga9, 0, none⟩) (cur.length + b.length) ca9 else if zd = 98 then .slice (some ⟨bl, ol, none⟩) b.length cl else if zd = 92 then .slice (some ⟨g3, 0, none⟩) cur.length c3 else zS zd, ga9, ca9, gr, cr, by simp [hb3, hb9], by kernel_rfl, ⟨hF.1, hF.2.1, hF.2.2.1, fun _ => rfl, hF.2.2.2.2.1, hF.2.2.2.2.2.1, hF.2.2.2.2.2.2.1, hF.2.2.2.2.2.2.2.1, hF.2.2.2.2.2.2.2.2.1, fun _ => rfl, fun _ => rfl, hF.2.2.2.2.2.2.2.2.2.2.2.1, hF.2.2.2.2.2.2.2.2.2.2.2.2⟩, ⟨fun _ => hbr, fun e => tf e, fun _ _ => hown9, fun e => ft (hf11.symm.trans e), fun e => ft (hf13.symm.trans e), fun e => ft (hf13.symm.trans e), hW.2.2.2.2.2.2.1, fun e => ft (hf11.symm.trans e), fun _ => rfl, hW.2.2.2.2.2.2.2.2.2.1, hW.2.2.2.2.2.2.2.2.2.2⟩⟩
        refine StepsI.cons rfl ?_ ?_
        ·rintro L zA v8 ⟨zB, zS, ga, ca, gr, cr, rfl, rfl, hF, hW⟩ hL hm K hK
         have hb11 : zB 11 = false := by simpa using hL
         have hb10 : zB 10 = true := mt 10 hm (by kernel_rfl)
         have e10 : zS 99 = .slice (some ⟨ga, 0, none⟩) (cur.length + b.length) ca := hF.2.2.2.2.2.2.2.2.2.2.1 hb10
         clear hL hm
         rw [hb11] at hW
         rw [hb10] at hW
         simp only [pCE]
         simp only [e10]
         have hf13 : zB 13 = false := by cases e : zB 13 with | false => rfl | true => exact ft ((hW.2.2.2.2.2.1 e).2)
         have hpre := hW.1 hf13
         have HWz := mkHid hW
         clear hW
         go_simp
         have hW := HWz.out
         clear HWz
         refine (HSO.out _ ga ca (hW.2.2.1 rfl rfl).at).mono ?_
         rintro e v82 ⟨hb, g9, c9, rfl, hown9⟩
         have HWz := mkHid hW
         clear hW
         go_wp2_with fail
         have hW := HWz.out
         clear HWz
         exact hK.out _ _ ⟨fun zj => if zj = 10 then true else if zj = 11 then true else zB zj, fun zd => if zd = 100 then .slice (some ⟨g9, 0, none⟩) lm.length c9 else if zd = 99 then .slice (some ⟨ga, 0, none⟩) (cur.length + b.length) ca else zS zd, ga, ca, g9, c9, by simp [hb10], by kernel_rfl, ⟨hF.1, hF.2.1, hF.2.2.1, hF.2.2.2.1, hF.2.2.2.2.1, hF.2.2.2.2.2.1, hF.2.2.2.2.2.2.1, hF.2.2.2.2.2.2.2.1, hF.2.2.2.2.2.2.2.2.1, hF.2.2.2.2.2.2.2.2.2.1, fun _ => rfl, fun _ => rfl, hF.2.2.2.2.2.2.2.2.2.2.2.2⟩, ⟨fun _ => below_step hpre hb, fun e => tf e, fun _ e => tf e, fun _ _ => hown9.mono hpre.size, fun e => ft (hf13.symm.trans e), fun e => ft (hf13.symm.trans e), hW.2.2.2.2.2.2.1, fun _ => rfl, fun _ => hW.2.2.2.2.2.2.2.2.1 (by first | rfl | trivial), hW.2.2.2.2.2.2.2.2.2.1, hW.2.2.2.2.2.2.2.2.2.2⟩⟩
        refine StepsI.cons rfl ?_ ?_
        ·rintro L zA v8 ⟨zB, zS, ga, ca, gr, cr, rfl, rfl, hF, hW⟩ hL hm K hK
         have hb12 : zB 12 = false := by simpa using hL
         have hb1 : zB 1 = true := mt 1 hm (by kernel_rfl)
         have hb2 : zB 2 = true := mt 2 hm (by kernel_rfl)
         have e1 : zS 90 = .slice (some ⟨g, 0, none⟩) Z.B.length A.c0 := hF.2.1 hb1
         have e2 : zS 91 = .int .i64 (k : Int) := hF.2.2.1 hb2
         clear hL hm
         rw [hb12] at hW
         rw [hb1] at hW
         simp only [pCE]
         simp only [e1, e2]
         have hf13 : zB 13 = false := by cases e : zB 13 with | false => rfl | true => exact ft ((hW.2.2.2.2.2.1 e).1)
         have HWz := mkHid hW
         clear hW
         go_simp
         have hW := HWz.out
         clear HWz
         exact hK.out _ _ ⟨fun zj => if zj = 2 then true else if zj = 1 then true else if zj = 12 then true else zB zj, fun zd => if zd = 101 then .pointer (some ⟨g, k, none⟩) else if zd = 91 then .int .i64 (k : Int) else if zd = 90 then .slice (some ⟨g, 0, none⟩) Z.B.length A.c0 else zS zd, ga, ca, gr, cr, by simp [hb1, hb2], by kernel_rfl, ⟨hF.1, fun _ => rfl, fun _ => rfl, hF.2.2.2.1, hF.2.2.2.2.1, hF.2.2.2.2.2.1, hF.2.2.2.2.2.2.1, hF.2.2.2.2.2.2.2.1, hF.2.2.2.2.2.2.2.2.1, hF.2.2.2.2.2.2.2.2.2.1, hF.2.2.2.2.2.2.2.2.2.2.1, hF.2.2.2.2.2.2.2.2.2.2.2.1, fun _ => rfl⟩, ⟨hW.1, hW.2.1, hW.2.2.1, hW.2.2.2.1, hW.2.2.2.2.1, fun e => ft (hf13.symm.trans e), fun _ => rfl, hW.2.2.2.2.2.2.2.1, hW.2.2.2.2.2.2.2.2.1, hW.2.2.2.2.2.2.2.2.2.1, hW.2.2.2.2.2.2.2.2.2.2⟩⟩
        refine StepsI.cons rfl ?_ ?_
        ·rintro L zA v8 ⟨zB, zS, ga, ca, gr, cr, rfl, rfl, hF, hW⟩ hL hm K hK
         have hb13 : zB 13 = false := by simpa using hL
         have hb11 : zB 11 = true := mt 11 hm (by kernel_rfl)
         have hb12 : zB 12 = true := mt 12 hm (by kernel_rfl)
         have e11 : zS 100 = .slice (some ⟨gr, 0, none⟩) lm.length cr := hF.2.2.2.2.2.2.2.2.2.2.2.1 hb11
         have e12 : zS 101 = .pointer (some ⟨g, k, none⟩) := hF.2.2.2.2.2.2.2.2.2.2.2.2 hb12
         clear hL hm
         rw [hb13] at hW
         rw [hb11] at hW
         rw [hb12] at hW
         simp only [pCE]
         simp only [e11, e12]
         have h10 : Hid (zB 10 = true) := mkHid (hW.2.2.2.2.2.2.2.1 rfl)
         have hpre := hW.1 rfl
         have q0 := HRC.out _ (below_step HBM.out hpre)
         have q1 := HFZ.out _ (below_step HBM.out hpre)
         have HWz := mkHid hW
         clear hW
         go_simp
         have hW := HWz.out
         clear HWz
         exact hK.out _ _ ⟨fun zj => if zj = 12 then true else if zj = 11 then true else if zj = 13 then true else zB zj, fun zd => if zd = 101 then .pointer (some ⟨g, k, none⟩) else if zd = 100 then .slice (some ⟨gr, 0, none⟩) lm.length cr else zS zd, ga, ca, gr, cr, by simp [hb11, hb12], by kernel_rfl, ⟨hF.1, hF.2.1, hF.2.2.1, hF.2.2.2.1, hF.2.2.2.2.1, hF.2.2.2.2.2.1, hF.2.2.2.2.2.2.1, hF.2.2.2.2.2.2.2.1, hF.2.2.2.2.2.2.2.2.1, hF.2.2.2.2.2.2.2.2.2.1, hF.2.2.2.2.2.2.2.2.2.2.1, fun _ => rfl, fun _ => rfl⟩, ⟨fun e => tf e, fun e => tf (h10.out.symm.trans e), fun _ e => tf e, fun _ e => tf e, fun _ => ⟨v8, hpre, hW.2.2.2.1 rfl rfl, rfl⟩, fun _ => ⟨rfl, rfl⟩, hW.2.2.2.2.2.2.1, hW.2.2.2.2.2.2.2.1, hW.2.2.2.2.2.2.2.2.1, hW.2.2.2.2.2.2.2.2.2.1, hW.2.2.2.2.2.2.2.2.2.2⟩⟩
        exact StepsI.nil (by kernel_rfl)
       ·rintro L zA v8 ⟨zB, zS, ga, ca, gr, cr, rfl, rfl, hF, hW⟩ hr
        have hu := all_up (by kernel_rfl) (N := 14) (by kernel_rfl) hr
        have hb0 : zB 0 = true := by simpa using hu 0 (by decide)
        have hb1 : zB 1 = true := by simpa using hu 1 (by decide)
        have hb2 : zB 2 = true := by simpa using hu 2 (by decide)
        have hb3 : zB 3 = true := by simpa using hu 3 (by decide)
        have hb4 : zB 4 = true := by simpa using hu 4 (by decide)
        have hb5 : zB 5 = true := by simpa using hu 5 (by decide)
        have hb6 : zB 6 = true := by simpa using hu 6 (by decide)
        have hb7 : zB 7 = true := by simpa using hu 7 (by decide)
        have hb8 : zB 8 = true := by simpa using hu 8 (by decide)
        have hb9 : zB 9 = true := by simpa using hu 9 (by decide)
        have hb10 : zB 10 = true := by simpa using hu 10 (by decide)
        have hb11 : zB 11 = true := by simpa using hu 11 (by decide)
        have hb12 : zB 12 = true := by simpa using hu 12 (by decide)
        have hb13 : zB 13 = true := by simpa using hu 13 (by decide)
        have e0 : zS 89 = .pointer (some ⟨Bx, 0, none⟩) := hF.1 hb0
        have e1 : zS 90 = .slice (some ⟨g, 0, none⟩) Z.B.length A.c0 := hF.2.1 hb1
        have e2 : zS 91 = .int .i64 (k : Int) := hF.2.2.1 hb2
        have e3 : zS 92 = .slice (some ⟨g3, 0, none⟩) cur.length c3 := hF.2.2.2.1 hb3
        have e4 : zS 93 = .pointer (some ⟨X1, 0, none⟩) := hF.2.2.2.2.1 hb4
        have e5 : zS 94 = .slice (some ⟨bb, ob, none⟩) S.B.length A0.c0 := hF.2.2.2.2.2.1 hb5
        have e6 : zS 95 = .int .i64 (i : Int) := hF.2.2.2.2.2.2.1 hb6
        have e7 : zS 96 = .int .i64 ((i + 1 : Nat) : Int) := hF.2.2.2.2.2.2.2.1 hb7
        have e8 : zS 97 = .pointer (some ⟨bb, ob + (i + 1), none⟩) := hF.2.2.2.2.2.2.2.2.1 hb8
        have e9 : zS 98 = .slice (some ⟨bl, ol, none⟩) b.length cl := hF.2.2.2.2.2.2.2.2.2.1 hb9
        have e10 : zS 99 = .slice (some ⟨ga, 0, none⟩) (cur.length + b.length) ca := hF.2.2.2.2.2.2.2.2.2.2.1 hb10
        have e11 : zS 100 = .slice (some ⟨gr, 0, none⟩) lm.length cr := hF.2.2.2.2.2.2.2.2.2.2.2.1 hb11
        have e12 : zS 101 = .pointer (some ⟨g, k, none⟩) := hF.2.2.2.2.2.2.2.2.2.2.2.2 hb12
        rw [hb1] at hW
        rw [hb5] at hW
        rw [hb8] at hW
        rw [hb9] at hW
        rw [hb10] at hW
        rw [hb11] at hW
        rw [hb12] at hW
        rw [hb13] at hW
        clear hu hr hF
        simp only [pCE]
        simp only [e0, e1, e2, e3, e4, e5, e6, e7, e8, e9, e10, e11, e12]
        clear e0 e1 e2 e3 e4 e5 e6 e7 e8 e9 e10 e11 e12
        clear hb0 hb1 hb2 hb3 hb4 hb5 hb6 hb7 hb8 hb9 hb10 hb11 hb12 hb13
        clear zB zS
        obtain ⟨vb, hb9, ho9, he9⟩ := hW.2.2.2.2.1 rfl
        have HT3 : Hid (ShI w v8 base X1 X2 X3 Bx A0 S fa gm FM A ⟨Z.B.set k lm, Z.V, Z.M⟩) := mkHid (by rw [he9]; exact HT2.out.put (i := k) HCC.out HAG.out hb9 ho9)
        have HNX := mkHid (HFO.out HCT.out)
        clear hW hb9 ho9 he9 HT2
        go_wp2
        go_roundg (S.M.length - (i + 1))
        case measure => exact hmz
        case rel => exact ⟨i + 1, A, _, P, lm, hle, by go_num, Nat.le_refl _, HNX.out, HT3.out⟩
    ·have i1 : ¬ (i : Int) < (S.M.length : Int) := by omega
     have HSZ : Hid (TS = Z) := mkHid (HSE.out.last (by have := HFL.out; omega))
     have HGS := mkHid HTI.out.g
     have hx2 := HTI.out.x2
     obtain ⟨q0, q1, q2, _, _, _⟩ := HGS.out.g3
     have z0 := heap_cell hx2 0
     have z1 := heap_cell hx2 1
     have z2 := heap_cell hx2 2
     have y0 := heap_free hx2 0
     have y1 := heap_free hx2 1
     have y2 := heap_free hx2 2
     simp only [sgC, noA, noS] at z0 z1 z2
     simp at z0 z1 z2
     have HF : Hid (GivesS w (put3 wr X2 (.slice A.a0 Z.B.length A.c0) (.slice A.a1 Z.V.length A.c1) (.slice A.a2 Z.M.length A.c2)) (.returned (.agg #[.slice A.a0 Z.B.length A.c0, .slice A.a1 Z.V.length A.c1, .slice A.a2 Z.M.length A.c2])) TS) := mkHid (by rw [HSZ.out]; exact gives_shut HGS.out.owns (show X2 + 1 ≤ base from HCC.out.x2.2.1) (Nat.le_refl _) HTI.out.bel HCC.out.x2.1)
     clear hx2
     go_wp2
     refine bodyPost_ret (v := .agg #[.slice A.a0 Z.B.length A.c0, .slice A.a1 Z.V.length A.c1, .slice A.a2 Z.M.length A.c2]) (by simp [results, Tryz.results36, go_sem, *]) rfl HF.out
end Go.Proofs.YtihpajiololfoaaGreat
