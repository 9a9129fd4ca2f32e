/-
  CONTRACT of the program's rowOf: a Seg as links of its own.
-/
import Derived.Test.YtihpajiololfoaaGreatSh06
import Derived.Test.YtihpajiololfoaaGreatSh10
namespace Go.Proofs.YtihpajiololfoaaGreat
open Go.RowKit

/-- A row of links of one's own, no two in one block. -/
def rowB (w : World) (X : Nat) : Option Nat := (w.cell? ⟨X, 0, none⟩).bind Value.ownBlock
/-- No two links have their terms in one block. -/
def RowsD (w : World) (L : List Nat) : Prop := L.Pairwise fun x y => ∀ b, rowB w x = some b → rowB w y ≠ some b
theorem rowB_of {w : World} {X : Nat} {v0 : Value} {v : VV} {m : Bool} {p : Option Addr} {T : TypeId} {fz : Nat × Nat} (h : w.heap[X]? = some (.cells (lkC v0 v m p) T fz)) : rowB w X = v0.ownBlock := by
 unfold rowB
 rw [heap_cell h 0]
 rfl
theorem rowB_block {w w' : World} {X : Nat} (h : w'.heap[X]? = w.heap[X]?) : rowB w' X = rowB w X := by
 unfold rowB
 rw [World.cell?_of_block (a := ⟨X, 0, none⟩) h]
theorem LinkO.row {w : World} {base X : Nat} {k : Lk} {p : Option Addr} (h : LinkO w base X k p) {b : Nat} (hb : rowB w X = some b) : base ≤ b ∧ b < w.heap.size := by
 obtain ⟨ao, cap, h1, h2⟩ := h.mem
 rw [rowB_of h1] at hb
 exact h2.lt hb
theorem Ch.row {w : World} {base : Nat} : ∀ {L : List (Nat × Lk)} {p q : Option Addr}, Ch w base L p q → ∀ x, x ∈ L.map Prod.fst → ∀ b, rowB w x = some b → b < w.heap.size
 | [], _, _, _, x, hx => by simp at hx
 | y :: _, _, _, ⟨e, p', h1, h2⟩, x, hx => by
  rcases List.mem_cons.1 hx with rfl | hx
  ·exact fun b hb => (h1.row hb).2
  ·exact Ch.row h2 x hx
theorem RowsD.same {w w' : World} {L : List Nat} (h : RowsD w L) (he : ∀ x, x ∈ L → rowB w' x = rowB w x) : RowsD w' L :=
 List.Pairwise.imp_of_mem (fun ha hb hr b h1 h2 => hr b (by rw [← he _ ha]; exact h1) (by rw [← he _ hb]; exact h2)) h
theorem RowsD.upd {w w' : World} {X N : Nat} {L R : List Nat} (h : RowsD w (L ++ X :: R)) (he : ∀ x, x ∈ L ++ R → rowB w' x = rowB w x) (hold : ∀ x, x ∈ L ++ R → ∀ b, rowB w x = some b → b < N) (hnew : ∀ b, rowB w' X = some b → N ≤ b) : RowsD w' (L ++ X :: R) := by
 unfold RowsD at h ⊢
 rw [List.pairwise_append, List.pairwise_cons] at h ⊢
 obtain ⟨h1, ⟨h2, h3⟩, h4⟩ := h
 refine ⟨RowsD.same h1 (fun x hx => he x (List.mem_append_left _ hx)), ⟨fun y hy b e1 e2 => ?_, RowsD.same h3 (fun x hx => he x (List.mem_append_right _ hx))⟩, fun x hx y hy b e1 e2 => ?_⟩
 ·rw [he y (List.mem_append_right _ hy)] at e2
  have := hold y (List.mem_append_right _ hy) b e2
  have := hnew b e1
  omega
 ·rw [he x (List.mem_append_left _ hx)] at e1
  rcases List.mem_cons.1 hy with rfl | hy
  ·have := hold x (List.mem_append_left _ hx) b e1
   have := hnew b e2
   omega
  ·rw [he y (List.mem_append_right _ hy)] at e2
   exact h4 x hx y (List.mem_cons_of_mem _ hy) b e1 e2
theorem Ch.rows_below {w w' : World} {base : Nat} {L : List (Nat × Lk)} {p q : Option Addr} (h : Ch w base L p q) (hr : RowsD w (L.map Prod.fst)) (hb : Below w.heap.size w w') : RowsD w' (L.map Prod.fst) :=
 hr.same fun x hx => by
  obtain ⟨y, hy, e⟩ := List.mem_map.1 hx
  rw [← e]
  exact rowB_block (hb.block _ (h.lt y hy))
def ChN (w : World) (base X : Nat) (ks : List Lk) : Prop := ∃ L : List (Nat × Lk), Ch w base L (some ⟨X, 0, none⟩) none ∧ L.map Prod.snd = ks ∧ (L.map Prod.fst).Nodup ∧ RowsD w (L.map Prod.fst)
theorem ChN.below {w w' : World} {base X : Nat} {ks : List Lk} (h : ChN w base X ks) (hb : Below w.heap.size w w') : ChN w' base X ks := by
 obtain ⟨L, h1, h2, h3, h4⟩ := h
 exact ⟨L, h1.below hb, h2, h3, h1.rows_below h4 hb⟩
theorem ChN.one {w : World} {base X : Nat} {k : Lk} (h : LinkO w base X k none) : ChN w base X [k] := ⟨[(X, k)], ⟨rfl, none, h, rfl⟩, rfl, by simp, by simp [RowsD]⟩
theorem chn_cons {w w' : World} {base X Z : Nat} {k : Lk} {ks : List Lk} (h : LinkO w' w.heap.size Z k (some ⟨X, 0, none⟩)) (hc : ChN w base X ks) (hb : Below w.heap.size w w') (hB : base ≤ w.heap.size) : ChN w' base Z (k :: ks) := by
 obtain ⟨L, h1, h2, h3, h4⟩ := hc
 refine ⟨(Z, k) :: L, ⟨rfl, _, h.mono hB, h1.below hb⟩, by rw [List.map_cons, h2], ?_, List.pairwise_cons.2 ⟨fun y hy b e1 e2 => ?_, h1.rows_below h4 hb⟩⟩
 rotate_left
 ·obtain ⟨x, hx, e⟩ := List.mem_map.1 hy
  subst e
  rw [rowB_block (hb.block _ (h1.lt x hx))] at e2
  have := h1.row _ (List.mem_map_of_mem hx) b e2
  have := (h.row e1).1
  omega
 rw [List.map_cons, List.nodup_cons]
 refine ⟨fun hm => ?_, h3⟩
 obtain ⟨x, hx, e⟩ := List.mem_map.1 hm
 have := h1.lt x hx
 have := h.lo
 omega
theorem linkO_new {va : World} {ao : Option Addr} {base cap Z : Nat} {l : List Y} {vv : VV} {mm : Bool} {p : Option Addr} (h : Own eY 49 va base (.slice ao l.length cap) l) (hZ : Z = va.heap.size) (hb : base ≤ va.heap.size) :
  LinkO (va.alloc (.cells #[.slice ao l.length cap, .func (.func 132) #[] #[], .int .i64 vv.1, .int .i64 vv.2.1, .bool vv.2.2, .bool mm, .pointer p] 130)) base Z ⟨l, vv, mm⟩ p := by
 subst hZ
 exact ⟨⟨ao, cap, heap_new _ _ rfl, h.below ((Below.refl _ _).alloc (Nat.le_refl _) _)⟩, hb⟩
set_option maxRecDepth 100000 in
set_option maxHeartbeats 6400000 in
theorem rowOf_own (S : SG) (A : SAd) (w : World) (hs : Small S) (hk : 1 ≤ S.B.length) (hvl : S.V.length + 1 = S.B.length) (hml : S.M.length + 1 = S.B.length) (has : ∀ b, b ∈ S.B → b.Pairwise LtY) (hl : SegAt w A S) :
  Calls Tryz.prog 42 #[.agg #[.slice A.a0 S.B.length A.c0, .slice A.a1 S.V.length A.c1, .slice A.a2 S.M.length A.c2]] w fun e w' => Below w.heap.size w w' ∧ ∃ X, e = .returned (.pointer (some ⟨X, 0, none⟩)) ∧ ChN w' w.heap.size X (linksOf S.B S.V S.M) := by
 have HSM := mkHid hs
 have HAA := mkHid has
 obtain ⟨n, hn⟩ : ∃ n, S.B.length - 1 = n := ⟨_, rfl⟩
 have hsb := hs.b
 have hwn : IntKind.i64.wrap ((S.B.length : Int) - 1) = (n : Int) := by rw [IntWalk.i64_in _ (by omega)]; omega
 have hwn2 : wrap64 ((S.B.length : Int) - 1) = (n : Int) := by unfold wrap64; omega
 obtain ⟨bl, hbl⟩ : ∃ b, S.B[n]? = some b := ⟨_, List.getElem?_eq_getElem (by omega)⟩
 have hn1 : n + 1 ≤ S.B.length := by omega
 have hn2 : S.B.length ≤ n + 1 := by omega
 obtain ⟨bb, ob, hab, hlb, hqb⟩ := hl.b.cons (by omega)
 have HQB := mkHid hqb
 obtain ⟨w0, hw0⟩ : ∃ x : World, w.alloc (.cells #[.slice A.a0 S.B.length A.c0, .slice A.a1 S.V.length A.c1, .slice A.a2 S.M.length A.c2] 35) = x := ⟨_, rfl⟩
 obtain ⟨Q, hQ⟩ : ∃ x, w.heap.size = x := ⟨_, rfl⟩
 have HB : Hid (Below w.heap.size w w0) := mkHid (by rw [← hw0]; exact bl_alloc (Below.refl _ _) _)
 have P0 : Hid (G3 w0 Q (.slice A.a0 S.B.length A.c0) (.slice A.a1 S.V.length A.c1) (.slice A.a2 S.M.length A.c2)) := mkHid (by rw [← hw0, ← hQ]; exact G3.new _ _ _ _ _)
 have HL := mkHid (hl.below HB.out)
 obtain ⟨al, cl, c0', hat⟩ := hqb n bl hbl
 have c0 : w0.cell? ⟨bb, ob + n, none⟩ = some (.slice al bl.length cl) := (HB.out.cell (p := ⟨bb, ob + n, none⟩) hlb).trans c0'
 have HAT := mkHid (hat.below HB.out)
 obtain ⟨q0, q1, q2, _, _, _⟩ := P0.out
 have HAB := mkHid hab
 have HBL := mkHid hbl
 have HVL := mkHid hvl
 have HML := mkHid hml
 rw [hab] at hw0 q0 ⊢
 obtain ⟨wa, hwa⟩ : ∃ z : World, w0.alloc (.cells #[.slice al bl.length cl] 113) = z := ⟨_, rfl⟩
 obtain ⟨R, hR⟩ : ∃ z, w0.heap.size = z := ⟨_, rfl⟩
 have BA : Hid (Below w0.heap.size w0 wa) := mkHid (by rw [← hwa]; exact bl_alloc (Below.refl _ _) _)
 have CA : Hid (wa.cell? ⟨R, 0, none⟩ = some (.slice al bl.length cl)) := mkHid (by rw [← hwa, ← hR]; simp [go_sem])
 have HLA := mkHid (HAT.out.below BA.out)
 have i0 : (0 : Int) ≤ (n : Int) := by omega
 have i1 : (n : Int) < (S.B.length : Int) := by omega
 clear hab hbl hvl hml hqb hat c0' hn hs has hl hlb
 go_enter Tryz.func42, Tryz.ntmps42
 go_wp2_with fail
 clear hw0 hQ hwa hR q0 q1 q2 c0
 refine (termsOf_any [bl] (some ⟨R, 0, none⟩) 1 _ (by simp) (by have := HSM.out.row n bl HBL.out; simpa using this) (Own.one CA.out HLA.out)).mono ?_
 rintro e w1 ⟨hb, m, ao, cap, rfl, hset, ho⟩
 obtain rfl : m = bl := IsSet.unique (by simpa using hset) (IsSet.self (HAA.out bl (List.mem_of_getElem? HBL.out)))
 have HB1 := mkHid (below_step BA.out hb)
 have HO := mkHid (ho.mono (base' := w.heap.size) (Nat.le_trans HB.out.size BA.out.size))
 clear hset ho hb
 obtain ⟨wb, hwb⟩ : ∃ z : World, w1.alloc (.cells #[.slice ao m.length cap, .func (.func 132) #[] #[], .int .i64 0, .int .i64 0, .bool false, .bool false, .pointer none] 130) = z := ⟨_, rfl⟩
 obtain ⟨X0, hX0⟩ : ∃ z, w1.heap.size = z := ⟨_, rfl⟩
 have BB : Hid (Below w0.heap.size w0 wb) := mkHid (by rw [← hwb]; exact bl_alloc HB1.out _)
 have LK : Hid (LinkO wb w.heap.size X0 ⟨m, (0, 0, false), false⟩ none) := mkHid (by rw [← hwb]; exact linkO_new (vv := (0, 0, false)) HO.out hX0.symm (Nat.le_trans HB.out.size HB1.out.size))
 have hwm : IntKind.i64.wrap ((n : Int) - 1) = (n : Int) - 1 := IntWalk.i64_in _ (by omega)
 have HCH : Hid (ChN wb w.heap.size X0 (linksOf (S.B.drop n) (S.V.drop n) (S.M.drop n))) := mkHid (by rw [links_last HBL.out (by omega)]; exact ChN.one LK.out)
 go_wp2
 clear hwb hX0 HO HB1 BA CA HLA HAT LK
 go_loopg [4, 5] n (fun g s4 s5 wr => ∃ (j X : Nat) (z : Int), j ≤ n ∧ s5 = .int .i64 z ∧ z = (j : Int) - 1 ∧ s4 = .pointer (some ⟨X, 0, none⟩) ∧ j ≤ g ∧ ChN wr w.heap.size X (linksOf (S.B.drop j) (S.V.drop j) (S.M.drop j)) ∧ Below w0.heap.size w0 wr)
 case atStart => exact ⟨n, X0, (n : Int) - 1, Nat.le_refl _, rfl, rfl, rfl, Nat.le_refl _, HCH.out, BB.out⟩
 case round =>
  obtain ⟨j, X, z, hj, rfl, hz, rfl, hgj, hch, hbel⟩ := hrel
  have HC := mkHid hch
  have HBE := mkHid hbel
  have HB2 := mkHid (below_step HB.out hbel)
  clear hch HCH BB
  by_cases hj0 : j = 0
  ·subst hj0
   have hz0 : ¬ (0 : Int) ≤ z := by omega
   have HCF : Hid (ChN wr w.heap.size X (linksOf S.B S.V S.M)) := mkHid (by have h := HC.out; simpa using h)
   clear hz hbel
   go_wp2
   go_ret
   exact ⟨HB2.out, X, rfl, HCF.out⟩
  obtain ⟨i, hji⟩ : ∃ i, j = i + 1 := ⟨j - 1, by omega⟩
  subst hji
  obtain rfl : z = (i : Int) := by omega
  have hz0 : (0 : Int) ≤ (i : Int) := by omega
  obtain ⟨l, hlx⟩ : ∃ b, S.B[i]? = some b := ⟨_, List.getElem?_eq_getElem (by omega)⟩
  obtain ⟨vv, hvx⟩ : ∃ b, S.V[i]? = some b := ⟨_, List.getElem?_eq_getElem (by have := HVL.out; omega)⟩
  obtain ⟨mm, hmx⟩ : ∃ b, S.M[i]? = some b := ⟨_, List.getElem?_eq_getElem (by have := HML.out; omega)⟩
  have L1 := HL.out.below hbel
  obtain ⟨_, _, hab, hlbb, hqb⟩ := L1.b.cons (by omega)
  rw [HAB.out] at hab
  cases hab
  obtain ⟨bv, ov, hav, hlbv, hqv⟩ := L1.v.cons (by have := HVL.out; omega)
  obtain ⟨bm, om, ham, hlbm, hqm⟩ := L1.m.cons (by have := HML.out; omega)
  obtain ⟨al, cl, d0, hat⟩ := hqb i l hlx
  obtain ⟨d1, d2, d3⟩ := get_v hqv hvx
  have d4 := get_b hqm hmx
  have P1 := P0.out.below hbel
  obtain ⟨e0, e1, e2, _, _, _⟩ := P1
  rw [HAB.out] at e0
  rw [hav] at e1
  rw [ham] at e2
  have hlq := World.block_lt_of_cell? wr _ e0
  have hbox : ∀ v, Below wr.heap.size wr v → v.cell? ⟨Q, 0, none⟩ = some (.slice (some ⟨bb, ob, none⟩) S.B.length A.c0) ∧ v.cell? ⟨Q, 1, none⟩ = some (.slice (some ⟨bv, ov, none⟩) S.V.length A.c1) ∧ v.cell? ⟨Q, 2, none⟩ = some (.slice (some ⟨bm, om, none⟩) S.M.length A.c2) := fun v h => by
   obtain ⟨hc, _⟩ := bcell h
   exact ⟨(hc _ _ hlq).trans e0, (hc _ _ hlq).trans e1, (hc _ _ hlq).trans e2⟩
  have hcel : ∀ v, Below wr.heap.size wr v → v.cell? ⟨bb, ob + i, none⟩ = some (.slice al l.length cl) ∧ v.cell? ⟨bv, ov + i * 3, none⟩ = some (.int .i64 vv.1) ∧ v.cell? ⟨bv, ov + i * 3 + 1, none⟩ = some (.int .i64 vv.2.1) ∧ v.cell? ⟨bv, ov + i * 3 + 2, none⟩ = some (.bool vv.2.2) ∧ v.cell? ⟨bm, om + i, none⟩ = some (.bool mm) := fun v h => by
   obtain ⟨hc, _⟩ := bcell h
   exact ⟨(hc _ _ hlbb).trans d0, (hc _ _ hlbv).trans d1, (hc _ _ hlbv).trans d2, (hc _ _ hlbv).trans d3, (hc _ _ hlbm).trans d4⟩
  have HAL := mkHid hat
  have HLN := mkHid (HSM.out.row i l hlx)
  have HAS := mkHid (HAA.out l (List.mem_of_getElem? hlx))
  have HST := mkHid (links_step hlx hvx hmx (show i + 1 < S.B.length by omega))
  have j1 : (i : Int) < (S.B.length : Int) := by omega
  have j2 : (i : Int) < (S.V.length : Int) := by have := HVL.out; omega
  have j3 : (i : Int) < (S.M.length : Int) := by have := HML.out; omega
  clear hlx hvx hmx L1 hqb hqv hqm hav ham d0 d1 d2 d3 d4 e0 e1 e2 hat hbel hz
  go_wp2_with fail
  refine wp_region_inv2 (fun zA0 L zA va => ∃ (zB : Nat → Bool) (zS : Nat → Value) (R : Nat) (ao : Option Addr) (cap : Nat) (Z : Nat), L = #[zB 0, zB 1, zB 2, zB 3, zB 4, zB 5, zB 6, zB 7, zB 8, zB 9, zB 10, zB 11, zB 12, zB 13, zB 14, zB 15, zB 16, zB 17, zB 18, zB 19, zB 20] ∧ zA = puts zA0 [(25, zS 25), (26, zS 26), (27, zS 27), (28, zS 28), (29, zS 29), (30, zS 30), (31, zS 31), (32, zS 32), (33, zS 33), (34, zS 34), (35, zS 35), (36, zS 36), (37, zS 37), (38, zS 38), (39, zS 39), (40, zS 40), (41, zS 41), (42, zS 42), (43, zS 43), (44, zS 44), (4, zS 4)] ∧ ((zB 0 = true → zS 25 = .pointer (some ⟨Q, 0, none⟩)) ∧ (zB 1 = true → zS 26 = .slice (some ⟨bb, ob, none⟩) S.B.length A.c0) ∧ (zB 2 = true → zS 27 = .int .i64 (i : Int)) ∧ (zB 3 = true → zS 28 = .pointer (some ⟨bb, ob + i, none⟩)) ∧ (zB 4 = true → zS 29 = .slice al l.length cl) ∧ (zB 5 = true → zS 30 = .slice (some ⟨R, 0, none⟩) 1 1) ∧ (zB 6 = true → zS 31 = .agg #[.slice ao l.length cap, .func (.func 132) #[] #[]]) ∧ (zB 7 = true → zS 32 = .pointer (some ⟨Q, 1, none⟩)) ∧ (zB 8 = true → zS 33 = .slice (some ⟨bv, ov, none⟩) S.V.length A.c1) ∧ (zB 9 = true → zS 34 = .int .i64 (i : Int)) ∧ (zB 10 = true → zS 35 = .pointer (some ⟨bv, ov + i * 3, none⟩)) ∧ (zB 11 = true → zS 36 = .agg #[.int .i64 vv.1, .int .i64 vv.2.1, .bool vv.2.2]) ∧ (zB 12 = true → zS 37 = .pointer (some ⟨Q, 2, none⟩)) ∧ (zB 13 = true → zS 38 = .slice (some ⟨bm, om, none⟩) S.M.length A.c2) ∧ (zB 14 = true → zS 39 = .int .i64 (i : Int)) ∧ (zB 15 = true → zS 40 = .pointer (some ⟨bm, om + i, none⟩)) ∧ (zB 16 = true → zS 41 = .bool mm) ∧ (zB 17 = true → zS 42 = .pointer (some ⟨X, 0, none⟩)) ∧ (zB 18 = true → zS 43 = .agg #[.slice ao l.length cap, .func (.func 132) #[] #[], .int .i64 vv.1, .int .i64 vv.2.1, .bool vv.2.2, .bool mm, .pointer (some ⟨X, 0, none⟩)]) ∧ (zB 19 = true → zS 44 = .pointer (some ⟨Z, 0, none⟩)) ∧ (zB 20 = true → zS 4 = .pointer (some ⟨Z, 0, none⟩))) ∧ (Below wr.heap.size wr va) ∧ ((zB 5) = true → (zB 6) = false → va.cell? ⟨R, 0, none⟩ = some (.slice al l.length cl)) ∧ ((zB 6) = true → Own eY 49 va wr.heap.size (.slice ao l.length cap) l) ∧ ((zB 19) = true → LinkO va wr.heap.size Z ⟨l, vv, mm⟩ (some ⟨X, 0, none⟩)) ∧ ((zB 18) = true → (zB 6) = true ∧ (zB 17) = true) ∧ ((zB 19) = true → (zB 18) = true) ∧ ((zB 20) = true → (zB 19) = true) ∧ ((zB 20) = false → zS 4 = .pointer (some ⟨X, 0, none⟩))) (by kernel_rfl) ?_ ?_ ?_
  ·exact ⟨fun _ => false, fun zd => if zd = 4 then .pointer (some ⟨X, 0, none⟩) else if zd = 44 then u44 else if zd = 43 then u43 else if zd = 42 then u42 else if zd = 41 then u41 else if zd = 40 then u40 else if zd = 39 then u39 else if zd = 38 then u38 else if zd = 37 then u37 else if zd = 36 then u36 else if zd = 35 then u35 else if zd = 34 then u34 else if zd = 33 then u33 else if zd = 32 then u32 else if zd = 31 then u31 else if zd = 30 then u30 else if zd = 29 then u29 else if zd = 28 then u28 else if zd = 27 then u27 else if zd = 26 then u26 else if zd = 25 then u25 else undef, 0, none, 0, 0, rfl, by kernel_rfl, ⟨fun e => ft e, fun e => ft e, fun e => ft e, fun e => ft e, fun e => ft e, fun e => ft e, fun e => ft e, fun e => ft e, fun e => ft e, fun e => ft e, fun e => ft e, fun e => ft e, fun e => ft e, fun e => ft e, fun e => ft e, fun e => ft e, fun e => ft e, fun e => ft e, fun e => ft e, fun e => ft e, fun e => ft e⟩, ⟨(Below.refl _ _).drew, fun e _ => ft e, fun e => ft e, fun e => ft e, fun e => ft e, fun e => ft e, fun e => ft e, fun _ => rfl⟩⟩
  ·refine StepsI.cons rfl ?_ ?_
   ·rintro L zA va ⟨zB, zS, R, ao, cap, Z, rfl, rfl, hF, hW⟩ hL hm K hK
    have hb0 : zB 0 = false := by simpa using hL
    clear hL hm
    simp only [pE]
    go_simp
    exact hK.out _ _ ⟨fun zj => if zj = 0 then true else zB zj, fun zd => if zd = 25 then .pointer (some ⟨Q, 0, none⟩) else zS zd, R, ao, cap, Z, rfl, by kernel_rfl, ⟨fun _ => rfl, hF.2.1, hF.2.2.1, hF.2.2.2.1, hF.2.2.2.2.1, hF.2.2.2.2.2.1, hF.2.2.2.2.2.2.1, hF.2.2.2.2.2.2.2.1, hF.2.2.2.2.2.2.2.2.1, hF.2.2.2.2.2.2.2.2.2.1, hF.2.2.2.2.2.2.2.2.2.2.1, hF.2.2.2.2.2.2.2.2.2.2.2.1, hF.2.2.2.2.2.2.2.2.2.2.2.2.1, hF.2.2.2.2.2.2.2.2.2.2.2.2.2.1, hF.2.2.2.2.2.2.2.2.2.2.2.2.2.2.1, hF.2.2.2.2.2.2.2.2.2.2.2.2.2.2.2.1, hF.2.2.2.2.2.2.2.2.2.2.2.2.2.2.2.2.1, hF.2.2.2.2.2.2.2.2.2.2.2.2.2.2.2.2.2.1, hF.2.2.2.2.2.2.2.2.2.2.2.2.2.2.2.2.2.2.1, hF.2.2.2.2.2.2.2.2.2.2.2.2.2.2.2.2.2.2.2.1, hF.2.2.2.2.2.2.2.2.2.2.2.2.2.2.2.2.2.2.2.2⟩, hW⟩
   refine StepsI.cons rfl ?_ ?_
   ·rintro L zA va ⟨zB, zS, R, ao, cap, Z, rfl, rfl, hF, hW⟩ hL hm K hK
    have hb1 : zB 1 = false := by simpa using hL
    have hb0 : zB 0 = true := mt 0 hm (by kernel_rfl)
    have e0 : zS 25 = .pointer (some ⟨Q, 0, none⟩) := hF.1 hb0
    clear hL hm
    simp only [pE]
    simp only [e0]
    obtain ⟨q0, q1, q2⟩ := hbox _ hW.1
    go_simp
    exact hK.out _ _ ⟨fun zj => if zj = 0 then true else if zj = 1 then true else zB zj, fun zd => if zd = 26 then .slice (some ⟨bb, ob, none⟩) S.B.length A.c0 else if zd = 25 then .pointer (some ⟨Q, 0, none⟩) else zS zd, R, ao, cap, Z, by simp [hb0], by kernel_rfl, ⟨fun _ => rfl, fun _ => rfl, hF.2.2.1, hF.2.2.2.1, hF.2.2.2.2.1, hF.2.2.2.2.2.1, hF.2.2.2.2.2.2.1, hF.2.2.2.2.2.2.2.1, hF.2.2.2.2.2.2.2.2.1, hF.2.2.2.2.2.2.2.2.2.1, hF.2.2.2.2.2.2.2.2.2.2.1, hF.2.2.2.2.2.2.2.2.2.2.2.1, hF.2.2.2.2.2.2.2.2.2.2.2.2.1, hF.2.2.2.2.2.2.2.2.2.2.2.2.2.1, hF.2.2.2.2.2.2.2.2.2.2.2.2.2.2.1, hF.2.2.2.2.2.2.2.2.2.2.2.2.2.2.2.1, hF.2.2.2.2.2.2.2.2.2.2.2.2.2.2.2.2.1, hF.2.2.2.2.2.2.2.2.2.2.2.2.2.2.2.2.2.1, hF.2.2.2.2.2.2.2.2.2.2.2.2.2.2.2.2.2.2.1, hF.2.2.2.2.2.2.2.2.2.2.2.2.2.2.2.2.2.2.2.1, hF.2.2.2.2.2.2.2.2.2.2.2.2.2.2.2.2.2.2.2.2⟩, hW⟩
   refine StepsI.cons rfl ?_ ?_
   ·rintro L zA va ⟨zB, zS, R, ao, cap, Z, rfl, rfl, hF, hW⟩ hL hm K hK
    have hb2 : zB 2 = false := by simpa using hL
    clear hL hm
    simp only [pE]
    go_simp
    exact hK.out _ _ ⟨fun zj => if zj = 2 then true else zB zj, fun zd => if zd = 27 then .int .i64 (i : Int) else zS zd, R, ao, cap, Z, rfl, by kernel_rfl, ⟨hF.1, hF.2.1, fun _ => rfl, hF.2.2.2.1, hF.2.2.2.2.1, hF.2.2.2.2.2.1, hF.2.2.2.2.2.2.1, hF.2.2.2.2.2.2.2.1, hF.2.2.2.2.2.2.2.2.1, hF.2.2.2.2.2.2.2.2.2.1, hF.2.2.2.2.2.2.2.2.2.2.1, hF.2.2.2.2.2.2.2.2.2.2.2.1, hF.2.2.2.2.2.2.2.2.2.2.2.2.1, hF.2.2.2.2.2.2.2.2.2.2.2.2.2.1, hF.2.2.2.2.2.2.2.2.2.2.2.2.2.2.1, hF.2.2.2.2.2.2.2.2.2.2.2.2.2.2.2.1, hF.2.2.2.2.2.2.2.2.2.2.2.2.2.2.2.2.1, hF.2.2.2.2.2.2.2.2.2.2.2.2.2.2.2.2.2.1, hF.2.2.2.2.2.2.2.2.2.2.2.2.2.2.2.2.2.2.1, hF.2.2.2.2.2.2.2.2.2.2.2.2.2.2.2.2.2.2.2.1, hF.2.2.2.2.2.2.2.2.2.2.2.2.2.2.2.2.2.2.2.2⟩, hW⟩
   refine StepsI.cons rfl ?_ ?_
   ·rintro L zA va ⟨zB, zS, R, ao, cap, Z, rfl, rfl, hF, hW⟩ hL hm K hK
    have hb3 : zB 3 = false := by simpa using hL
    have hb1 : zB 1 = true := mt 1 hm (by kernel_rfl)
    have hb2 : zB 2 = true := mt 2 hm (by kernel_rfl)
    have e1 : zS 26 = .slice (some ⟨bb, ob, none⟩) S.B.length A.c0 := hF.2.1 hb1
    have e2 : zS 27 = .int .i64 (i : Int) := hF.2.2.1 hb2
    clear hL hm
    simp only [pE]
    simp only [e1, e2]
    go_simp
    exact hK.out _ _ ⟨fun zj => if zj = 2 then true else if zj = 1 then true else if zj = 3 then true else zB zj, fun zd => if zd = 28 then .pointer (some ⟨bb, ob + i, none⟩) else if zd = 27 then .int .i64 (i : Int) else if zd = 26 then .slice (some ⟨bb, ob, none⟩) S.B.length A.c0 else zS zd, R, ao, cap, Z, by simp [hb1, hb2], by kernel_rfl, ⟨hF.1, fun _ => rfl, fun _ => rfl, fun _ => rfl, hF.2.2.2.2.1, hF.2.2.2.2.2.1, hF.2.2.2.2.2.2.1, hF.2.2.2.2.2.2.2.1, hF.2.2.2.2.2.2.2.2.1, hF.2.2.2.2.2.2.2.2.2.1, hF.2.2.2.2.2.2.2.2.2.2.1, hF.2.2.2.2.2.2.2.2.2.2.2.1, hF.2.2.2.2.2.2.2.2.2.2.2.2.1, hF.2.2.2.2.2.2.2.2.2.2.2.2.2.1, hF.2.2.2.2.2.2.2.2.2.2.2.2.2.2.1, hF.2.2.2.2.2.2.2.2.2.2.2.2.2.2.2.1, hF.2.2.2.2.2.2.2.2.2.2.2.2.2.2.2.2.1, hF.2.2.2.2.2.2.2.2.2.2.2.2.2.2.2.2.2.1, hF.2.2.2.2.2.2.2.2.2.2.2.2.2.2.2.2.2.2.1, hF.2.2.2.2.2.2.2.2.2.2.2.2.2.2.2.2.2.2.2.1, hF.2.2.2.2.2.2.2.2.2.2.2.2.2.2.2.2.2.2.2.2⟩, hW⟩
   refine StepsI.cons rfl ?_ ?_
   ·rintro L zA va ⟨zB, zS, R, ao, cap, Z, rfl, rfl, hF, hW⟩ hL hm K hK
    have hb4 : zB 4 = false := by simpa using hL
    have hb3 : zB 3 = true := mt 3 hm (by kernel_rfl)
    have e3 : zS 28 = .pointer (some ⟨bb, ob + i, none⟩) := hF.2.2.2.1 hb3
    clear hL hm
    simp only [pE]
    simp only [e3]
    have c0 := (hcel _ hW.1).1
    go_simp
    exact hK.out _ _ ⟨fun zj => if zj = 3 then true else if zj = 4 then true else zB zj, fun zd => if zd = 29 then .slice al l.length cl else if zd = 28 then .pointer (some ⟨bb, ob + i, none⟩) else zS zd, R, ao, cap, Z, by simp [hb3], by kernel_rfl, ⟨hF.1, hF.2.1, hF.2.2.1, fun _ => rfl, fun _ => rfl, hF.2.2.2.2.2.1, hF.2.2.2.2.2.2.1, hF.2.2.2.2.2.2.2.1, hF.2.2.2.2.2.2.2.2.1, hF.2.2.2.2.2.2.2.2.2.1, hF.2.2.2.2.2.2.2.2.2.2.1, hF.2.2.2.2.2.2.2.2.2.2.2.1, hF.2.2.2.2.2.2.2.2.2.2.2.2.1, hF.2.2.2.2.2.2.2.2.2.2.2.2.2.1, hF.2.2.2.2.2.2.2.2.2.2.2.2.2.2.1, hF.2.2.2.2.2.2.2.2.2.2.2.2.2.2.2.1, hF.2.2.2.2.2.2.2.2.2.2.2.2.2.2.2.2.1, hF.2.2.2.2.2.2.2.2.2.2.2.2.2.2.2.2.2.1, hF.2.2.2.2.2.2.2.2.2.2.2.2.2.2.2.2.2.2.1, hF.2.2.2.2.2.2.2.2.2.2.2.2.2.2.2.2.2.2.2.1, hF.2.2.2.2.2.2.2.2.2.2.2.2.2.2.2.2.2.2.2.2⟩, hW⟩
   refine StepsI.cons rfl ?_ ?_
   ·rintro L zA va ⟨zB, zS, R, ao, cap, Z, rfl, rfl, hF, hW⟩ hL hm K hK
    have hb5 : zB 5 = false := by simpa using hL
    have hb4 : zB 4 = true := mt 4 hm (by kernel_rfl)
    have e4 : zS 29 = .slice al l.length cl := hF.2.2.2.2.1 hb4
    clear hL hm
    rw [hb5] at hW
    simp only [pE]
    simp only [e4]
    go_simp
    exact hK.out _ _ ⟨fun zj => if zj = 4 then true else if zj = 5 then true else zB zj, fun zd => if zd = 30 then .slice (some ⟨va.heap.size, 0, none⟩) 1 1 else if zd = 29 then .slice al l.length cl else zS zd, va.heap.size, ao, cap, Z, by simp [hb4], by kernel_rfl, ⟨hF.1, hF.2.1, hF.2.2.1, hF.2.2.2.1, fun _ => rfl, fun _ => rfl, hF.2.2.2.2.2.2.1, hF.2.2.2.2.2.2.2.1, hF.2.2.2.2.2.2.2.2.1, hF.2.2.2.2.2.2.2.2.2.1, hF.2.2.2.2.2.2.2.2.2.2.1, hF.2.2.2.2.2.2.2.2.2.2.2.1, hF.2.2.2.2.2.2.2.2.2.2.2.2.1, hF.2.2.2.2.2.2.2.2.2.2.2.2.2.1, hF.2.2.2.2.2.2.2.2.2.2.2.2.2.2.1, hF.2.2.2.2.2.2.2.2.2.2.2.2.2.2.2.1, hF.2.2.2.2.2.2.2.2.2.2.2.2.2.2.2.2.1, hF.2.2.2.2.2.2.2.2.2.2.2.2.2.2.2.2.2.1, hF.2.2.2.2.2.2.2.2.2.2.2.2.2.2.2.2.2.2.1, hF.2.2.2.2.2.2.2.2.2.2.2.2.2.2.2.2.2.2.2.1, hF.2.2.2.2.2.2.2.2.2.2.2.2.2.2.2.2.2.2.2.2⟩, ⟨bl_alloc hW.1 _, fun _ _ => by simp [go_sem], fun e => (hW.2.2.1 e).below ((Below.refl _ _).alloc (Nat.le_refl _) _), fun e => (hW.2.2.2.1 e).below ((Below.refl _ _).alloc (Nat.le_refl _) _), hW.2.2.2.2.1, hW.2.2.2.2.2.1, hW.2.2.2.2.2.2.1, hW.2.2.2.2.2.2.2⟩⟩
   refine StepsI.cons rfl ?_ ?_
   ·rintro L zA va ⟨zB, zS, R, ao, cap, Z, rfl, rfl, hF, hW⟩ hL hm K hK
    have hb6 : zB 6 = false := by simpa using hL
    have hb5 : zB 5 = true := mt 5 hm (by kernel_rfl)
    have e5 : zS 30 = .slice (some ⟨R, 0, none⟩) 1 1 := hF.2.2.2.2.2.1 hb5
    clear hL hm
    rw [hb6] at hW
    rw [hb5] at hW
    simp only [pE]
    simp only [e5]
    go_simp
    refine (termsOf_any [l] (some ⟨R, 0, none⟩) 1 _ (by simp) (by simpa using HLN.out) (Own.one (hW.2.1 rfl rfl) (HAL.out.below hW.1))).mono ?_
    rintro e va2 ⟨hb, m9, ao9, cap9, rfl, hset, hown⟩
    have e9 : l = m9 := (IsSet.unique (by simpa using hset) (IsSet.self HAS.out)).symm
    subst e9
    go_wp2_with fail
    exact hK.out _ _ ⟨fun zj => if zj = 5 then true else if zj = 6 then true else zB zj, fun zd => if zd = 31 then .agg #[.slice ao9 l.length cap9, .func (.func 132) #[] #[]] else if zd = 30 then .slice (some ⟨R, 0, none⟩) 1 1 else zS zd, R, ao9, cap9, Z, by simp [hb5], by kernel_rfl, ⟨hF.1, hF.2.1, hF.2.2.1, hF.2.2.2.1, hF.2.2.2.2.1, fun _ => rfl, fun _ => rfl, hF.2.2.2.2.2.2.2.1, hF.2.2.2.2.2.2.2.2.1, hF.2.2.2.2.2.2.2.2.2.1, hF.2.2.2.2.2.2.2.2.2.2.1, hF.2.2.2.2.2.2.2.2.2.2.2.1, hF.2.2.2.2.2.2.2.2.2.2.2.2.1, hF.2.2.2.2.2.2.2.2.2.2.2.2.2.1, hF.2.2.2.2.2.2.2.2.2.2.2.2.2.2.1, hF.2.2.2.2.2.2.2.2.2.2.2.2.2.2.2.1, hF.2.2.2.2.2.2.2.2.2.2.2.2.2.2.2.2.1, hF.2.2.2.2.2.2.2.2.2.2.2.2.2.2.2.2.2.1, fun e => ft (hW.2.2.2.2.1 e).1, hF.2.2.2.2.2.2.2.2.2.2.2.2.2.2.2.2.2.2.2.1, hF.2.2.2.2.2.2.2.2.2.2.2.2.2.2.2.2.2.2.2.2⟩, ⟨below_step hW.1 hb, fun _ e => tf e, fun _ => hown.mono hW.1.size, fun e => (hW.2.2.2.1 e).below hb, fun e => ft (hW.2.2.2.2.1 e).1, hW.2.2.2.2.2.1, hW.2.2.2.2.2.2.1, hW.2.2.2.2.2.2.2⟩⟩
   refine StepsI.cons rfl ?_ ?_
   ·rintro L zA va ⟨zB, zS, R, ao, cap, Z, rfl, rfl, hF, hW⟩ hL hm K hK
    have hb7 : zB 7 = false := by simpa using hL
    clear hL hm
    simp only [pE]
    go_simp
    exact hK.out _ _ ⟨fun zj => if zj = 7 then true else zB zj, fun zd => if zd = 32 then .pointer (some ⟨Q, 1, none⟩) else zS zd, R, ao, cap, Z, rfl, by kernel_rfl, ⟨hF.1, hF.2.1, hF.2.2.1, hF.2.2.2.1, hF.2.2.2.2.1, hF.2.2.2.2.2.1, hF.2.2.2.2.2.2.1, fun _ => rfl, hF.2.2.2.2.2.2.2.2.1, hF.2.2.2.2.2.2.2.2.2.1, hF.2.2.2.2.2.2.2.2.2.2.1, hF.2.2.2.2.2.2.2.2.2.2.2.1, hF.2.2.2.2.2.2.2.2.2.2.2.2.1, hF.2.2.2.2.2.2.2.2.2.2.2.2.2.1, hF.2.2.2.2.2.2.2.2.2.2.2.2.2.2.1, hF.2.2.2.2.2.2.2.2.2.2.2.2.2.2.2.1, hF.2.2.2.2.2.2.2.2.2.2.2.2.2.2.2.2.1, hF.2.2.2.2.2.2.2.2.2.2.2.2.2.2.2.2.2.1, hF.2.2.2.2.2.2.2.2.2.2.2.2.2.2.2.2.2.2.1, hF.2.2.2.2.2.2.2.2.2.2.2.2.2.2.2.2.2.2.2.1, hF.2.2.2.2.2.2.2.2.2.2.2.2.2.2.2.2.2.2.2.2⟩, hW⟩
   refine StepsI.cons rfl ?_ ?_
   ·rintro L zA va ⟨zB, zS, R, ao, cap, Z, rfl, rfl, hF, hW⟩ hL hm K hK
    have hb8 : zB 8 = false := by simpa using hL
    have hb7 : zB 7 = true := mt 7 hm (by kernel_rfl)
    have e7 : zS 32 = .pointer (some ⟨Q, 1, none⟩) := hF.2.2.2.2.2.2.2.1 hb7
    clear hL hm
    simp only [pE]
    simp only [e7]
    obtain ⟨q0, q1, q2⟩ := hbox _ hW.1
    go_simp
    exact hK.out _ _ ⟨fun zj => if zj = 7 then true else if zj = 8 then true else zB zj, fun zd => if zd = 33 then .slice (some ⟨bv, ov, none⟩) S.V.length A.c1 else if zd = 32 then .pointer (some ⟨Q, 1, none⟩) else zS zd, R, ao, cap, Z, by simp [hb7], by kernel_rfl, ⟨hF.1, hF.2.1, hF.2.2.1, hF.2.2.2.1, hF.2.2.2.2.1, hF.2.2.2.2.2.1, hF.2.2.2.2.2.2.1, fun _ => rfl, fun _ => rfl, hF.2.2.2.2.2.2.2.2.2.1, hF.2.2.2.2.2.2.2.2.2.2.1, hF.2.2.2.2.2.2.2.2.2.2.2.1, hF.2.2.2.2.2.2.2.2.2.2.2.2.1, hF.2.2.2.2.2.2.2.2.2.2.2.2.2.1, hF.2.2.2.2.2.2.2.2.2.2.2.2.2.2.1, hF.2.2.2.2.2.2.2.2.2.2.2.2.2.2.2.1, hF.2.2.2.2.2.2.2.2.2.2.2.2.2.2.2.2.1, hF.2.2.2.2.2.2.2.2.2.2.2.2.2.2.2.2.2.1, hF.2.2.2.2.2.2.2.2.2.2.2.2.2.2.2.2.2.2.1, hF.2.2.2.2.2.2.2.2.2.2.2.2.2.2.2.2.2.2.2.1, hF.2.2.2.2.2.2.2.2.2.2.2.2.2.2.2.2.2.2.2.2⟩, hW⟩
   refine StepsI.cons rfl ?_ ?_
   ·rintro L zA va ⟨zB, zS, R, ao, cap, Z, rfl, rfl, hF, hW⟩ hL hm K hK
    have hb9 : zB 9 = false := by simpa using hL
    clear hL hm
    simp only [pE]
    go_simp
    exact hK.out _ _ ⟨fun zj => if zj = 9 then true else zB zj, fun zd => if zd = 34 then .int .i64 (i : Int) else zS zd, R, ao, cap, Z, rfl, by kernel_rfl, ⟨hF.1, hF.2.1, hF.2.2.1, hF.2.2.2.1, hF.2.2.2.2.1, hF.2.2.2.2.2.1, hF.2.2.2.2.2.2.1, hF.2.2.2.2.2.2.2.1, hF.2.2.2.2.2.2.2.2.1, fun _ => rfl, hF.2.2.2.2.2.2.2.2.2.2.1, hF.2.2.2.2.2.2.2.2.2.2.2.1, hF.2.2.2.2.2.2.2.2.2.2.2.2.1, hF.2.2.2.2.2.2.2.2.2.2.2.2.2.1, hF.2.2.2.2.2.2.2.2.2.2.2.2.2.2.1, hF.2.2.2.2.2.2.2.2.2.2.2.2.2.2.2.1, hF.2.2.2.2.2.2.2.2.2.2.2.2.2.2.2.2.1, hF.2.2.2.2.2.2.2.2.2.2.2.2.2.2.2.2.2.1, hF.2.2.2.2.2.2.2.2.2.2.2.2.2.2.2.2.2.2.1, hF.2.2.2.2.2.2.2.2.2.2.2.2.2.2.2.2.2.2.2.1, hF.2.2.2.2.2.2.2.2.2.2.2.2.2.2.2.2.2.2.2.2⟩, hW⟩
   refine StepsI.cons rfl ?_ ?_
   ·rintro L zA va ⟨zB, zS, R, ao, cap, Z, rfl, rfl, hF, hW⟩ hL hm K hK
    have hb10 : zB 10 = false := by simpa using hL
    have hb8 : zB 8 = true := mt 8 hm (by kernel_rfl)
    have hb9 : zB 9 = true := mt 9 hm (by kernel_rfl)
    have e8 : zS 33 = .slice (some ⟨bv, ov, none⟩) S.V.length A.c1 := hF.2.2.2.2.2.2.2.2.1 hb8
    have e9 : zS 34 = .int .i64 (i : Int) := hF.2.2.2.2.2.2.2.2.2.1 hb9
    clear hL hm
    simp only [pE]
    simp only [e8, e9]
    go_simp
    exact hK.out _ _ ⟨fun zj => if zj = 9 then true else if zj = 8 then true else if zj = 10 then true else zB zj, fun zd => if zd = 35 then .pointer (some ⟨bv, ov + i * 3, none⟩) else if zd = 34 then .int .i64 (i : Int) else if zd = 33 then .slice (some ⟨bv, ov, none⟩) S.V.length A.c1 else zS zd, R, ao, cap, Z, by simp [hb8, hb9], by kernel_rfl, ⟨hF.1, hF.2.1, hF.2.2.1, hF.2.2.2.1, hF.2.2.2.2.1, hF.2.2.2.2.2.1, hF.2.2.2.2.2.2.1, hF.2.2.2.2.2.2.2.1, fun _ => rfl, fun _ => rfl, fun _ => rfl, hF.2.2.2.2.2.2.2.2.2.2.2.1, hF.2.2.2.2.2.2.2.2.2.2.2.2.1, hF.2.2.2.2.2.2.2.2.2.2.2.2.2.1, hF.2.2.2.2.2.2.2.2.2.2.2.2.2.2.1, hF.2.2.2.2.2.2.2.2.2.2.2.2.2.2.2.1, hF.2.2.2.2.2.2.2.2.2.2.2.2.2.2.2.2.1, hF.2.2.2.2.2.2.2.2.2.2.2.2.2.2.2.2.2.1, hF.2.2.2.2.2.2.2.2.2.2.2.2.2.2.2.2.2.2.1, hF.2.2.2.2.2.2.2.2.2.2.2.2.2.2.2.2.2.2.2.1, hF.2.2.2.2.2.2.2.2.2.2.2.2.2.2.2.2.2.2.2.2⟩, hW⟩
   refine StepsI.cons rfl ?_ ?_
   ·rintro L zA va ⟨zB, zS, R, ao, cap, Z, rfl, rfl, hF, hW⟩ hL hm K hK
    have hb11 : zB 11 = false := by simpa using hL
    have hb10 : zB 10 = true := mt 10 hm (by kernel_rfl)
    have e10 : zS 35 = .pointer (some ⟨bv, ov + i * 3, none⟩) := hF.2.2.2.2.2.2.2.2.2.2.1 hb10
    clear hL hm
    simp only [pE]
    simp only [e10]
    obtain ⟨_, c0, c1, c2, _⟩ := hcel _ hW.1
    go_simp
    exact hK.out _ _ ⟨fun zj => if zj = 10 then true else if zj = 11 then true else zB zj, fun zd => if zd = 36 then .agg #[.int .i64 vv.1, .int .i64 vv.2.1, .bool vv.2.2] else if zd = 35 then .pointer (some ⟨bv, ov + i * 3, none⟩) else zS zd, R, ao, cap, Z, by simp [hb10], by kernel_rfl, ⟨hF.1, hF.2.1, hF.2.2.1, hF.2.2.2.1, hF.2.2.2.2.1, hF.2.2.2.2.2.1, hF.2.2.2.2.2.2.1, hF.2.2.2.2.2.2.2.1, hF.2.2.2.2.2.2.2.2.1, hF.2.2.2.2.2.2.2.2.2.1, fun _ => rfl, fun _ => rfl, hF.2.2.2.2.2.2.2.2.2.2.2.2.1, hF.2.2.2.2.2.2.2.2.2.2.2.2.2.1, hF.2.2.2.2.2.2.2.2.2.2.2.2.2.2.1, hF.2.2.2.2.2.2.2.2.2.2.2.2.2.2.2.1, hF.2.2.2.2.2.2.2.2.2.2.2.2.2.2.2.2.1, hF.2.2.2.2.2.2.2.2.2.2.2.2.2.2.2.2.2.1, hF.2.2.2.2.2.2.2.2.2.2.2.2.2.2.2.2.2.2.1, hF.2.2.2.2.2.2.2.2.2.2.2.2.2.2.2.2.2.2.2.1, hF.2.2.2.2.2.2.2.2.2.2.2.2.2.2.2.2.2.2.2.2⟩, hW⟩
   refine StepsI.cons rfl ?_ ?_
   ·rintro L zA va ⟨zB, zS, R, ao, cap, Z, rfl, rfl, hF, hW⟩ hL hm K hK
    have hb12 : zB 12 = false := by simpa using hL
    clear hL hm
    simp only [pE]
    go_simp
    exact hK.out _ _ ⟨fun zj => if zj = 12 then true else zB zj, fun zd => if zd = 37 then .pointer (some ⟨Q, 2, none⟩) else zS zd, R, ao, cap, Z, rfl, by kernel_rfl, ⟨hF.1, hF.2.1, hF.2.2.1, hF.2.2.2.1, hF.2.2.2.2.1, hF.2.2.2.2.2.1, hF.2.2.2.2.2.2.1, hF.2.2.2.2.2.2.2.1, hF.2.2.2.2.2.2.2.2.1, hF.2.2.2.2.2.2.2.2.2.1, hF.2.2.2.2.2.2.2.2.2.2.1, hF.2.2.2.2.2.2.2.2.2.2.2.1, fun _ => rfl, hF.2.2.2.2.2.2.2.2.2.2.2.2.2.1, hF.2.2.2.2.2.2.2.2.2.2.2.2.2.2.1, hF.2.2.2.2.2.2.2.2.2.2.2.2.2.2.2.1, hF.2.2.2.2.2.2.2.2.2.2.2.2.2.2.2.2.1, hF.2.2.2.2.2.2.2.2.2.2.2.2.2.2.2.2.2.1, hF.2.2.2.2.2.2.2.2.2.2.2.2.2.2.2.2.2.2.1, hF.2.2.2.2.2.2.2.2.2.2.2.2.2.2.2.2.2.2.2.1, hF.2.2.2.2.2.2.2.2.2.2.2.2.2.2.2.2.2.2.2.2⟩, hW⟩
   refine StepsI.cons rfl ?_ ?_
   ·rintro L zA va ⟨zB, zS, R, ao, cap, Z, rfl, rfl, hF, hW⟩ hL hm K hK
    have hb13 : zB 13 = false := by simpa using hL
    have hb12 : zB 12 = true := mt 12 hm (by kernel_rfl)
    have e12 : zS 37 = .pointer (some ⟨Q, 2, none⟩) := hF.2.2.2.2.2.2.2.2.2.2.2.2.1 hb12
    clear hL hm
    simp only [pE]
    simp only [e12]
    obtain ⟨q0, q1, q2⟩ := hbox _ hW.1
    go_simp
    exact hK.out _ _ ⟨fun zj => if zj = 12 then true else if zj = 13 then true else zB zj, fun zd => if zd = 38 then .slice (some ⟨bm, om, none⟩) S.M.length A.c2 else if zd = 37 then .pointer (some ⟨Q, 2, none⟩) else zS zd, R, ao, cap, Z, by simp [hb12], by kernel_rfl, ⟨hF.1, hF.2.1, hF.2.2.1, hF.2.2.2.1, hF.2.2.2.2.1, hF.2.2.2.2.2.1, hF.2.2.2.2.2.2.1, hF.2.2.2.2.2.2.2.1, hF.2.2.2.2.2.2.2.2.1, hF.2.2.2.2.2.2.2.2.2.1, hF.2.2.2.2.2.2.2.2.2.2.1, hF.2.2.2.2.2.2.2.2.2.2.2.1, fun _ => rfl, fun _ => rfl, hF.2.2.2.2.2.2.2.2.2.2.2.2.2.2.1, hF.2.2.2.2.2.2.2.2.2.2.2.2.2.2.2.1, hF.2.2.2.2.2.2.2.2.2.2.2.2.2.2.2.2.1, hF.2.2.2.2.2.2.2.2.2.2.2.2.2.2.2.2.2.1, hF.2.2.2.2.2.2.2.2.2.2.2.2.2.2.2.2.2.2.1, hF.2.2.2.2.2.2.2.2.2.2.2.2.2.2.2.2.2.2.2.1, hF.2.2.2.2.2.2.2.2.2.2.2.2.2.2.2.2.2.2.2.2⟩, hW⟩
   refine StepsI.cons rfl ?_ ?_
   ·rintro L zA va ⟨zB, zS, R, ao, cap, Z, rfl, rfl, hF, hW⟩ hL hm K hK
    have hb14 : zB 14 = false := by simpa using hL
    clear hL hm
    simp only [pE]
    go_simp
    exact hK.out _ _ ⟨fun zj => if zj = 14 then true else zB zj, fun zd => if zd = 39 then .int .i64 (i : Int) else zS zd, R, ao, cap, Z, rfl, by kernel_rfl, ⟨hF.1, hF.2.1, hF.2.2.1, hF.2.2.2.1, hF.2.2.2.2.1, hF.2.2.2.2.2.1, hF.2.2.2.2.2.2.1, hF.2.2.2.2.2.2.2.1, hF.2.2.2.2.2.2.2.2.1, hF.2.2.2.2.2.2.2.2.2.1, hF.2.2.2.2.2.2.2.2.2.2.1, hF.2.2.2.2.2.2.2.2.2.2.2.1, hF.2.2.2.2.2.2.2.2.2.2.2.2.1, hF.2.2.2.2.2.2.2.2.2.2.2.2.2.1, fun _ => rfl, hF.2.2.2.2.2.2.2.2.2.2.2.2.2.2.2.1, hF.2.2.2.2.2.2.2.2.2.2.2.2.2.2.2.2.1, hF.2.2.2.2.2.2.2.2.2.2.2.2.2.2.2.2.2.1, hF.2.2.2.2.2.2.2.2.2.2.2.2.2.2.2.2.2.2.1, hF.2.2.2.2.2.2.2.2.2.2.2.2.2.2.2.2.2.2.2.1, hF.2.2.2.2.2.2.2.2.2.2.2.2.2.2.2.2.2.2.2.2⟩, hW⟩
   refine StepsI.cons rfl ?_ ?_
   ·rintro L zA va ⟨zB, zS, R, ao, cap, Z, rfl, rfl, hF, hW⟩ hL hm K hK
    have hb15 : zB 15 = false := by simpa using hL
    have hb13 : zB 13 = true := mt 13 hm (by kernel_rfl)
    have hb14 : zB 14 = true := mt 14 hm (by kernel_rfl)
    have e13 : zS 38 = .slice (some ⟨bm, om, none⟩) S.M.length A.c2 := hF.2.2.2.2.2.2.2.2.2.2.2.2.2.1 hb13
    have e14 : zS 39 = .int .i64 (i : Int) := hF.2.2.2.2.2.2.2.2.2.2.2.2.2.2.1 hb14
    clear hL hm
    simp only [pE]
    simp only [e13, e14]
    go_simp
    exact hK.out _ _ ⟨fun zj => if zj = 14 then true else if zj = 13 then true else if zj = 15 then true else zB zj, fun zd => if zd = 40 then .pointer (some ⟨bm, om + i, none⟩) else if zd = 39 then .int .i64 (i : Int) else if zd = 38 then .slice (some ⟨bm, om, none⟩) S.M.length A.c2 else zS zd, R, ao, cap, Z, by simp [hb13, hb14], by kernel_rfl, ⟨hF.1, hF.2.1, hF.2.2.1, hF.2.2.2.1, hF.2.2.2.2.1, hF.2.2.2.2.2.1, hF.2.2.2.2.2.2.1, hF.2.2.2.2.2.2.2.1, hF.2.2.2.2.2.2.2.2.1, hF.2.2.2.2.2.2.2.2.2.1, hF.2.2.2.2.2.2.2.2.2.2.1, hF.2.2.2.2.2.2.2.2.2.2.2.1, hF.2.2.2.2.2.2.2.2.2.2.2.2.1, fun _ => rfl, fun _ => rfl, fun _ => rfl, hF.2.2.2.2.2.2.2.2.2.2.2.2.2.2.2.2.1, hF.2.2.2.2.2.2.2.2.2.2.2.2.2.2.2.2.2.1, hF.2.2.2.2.2.2.2.2.2.2.2.2.2.2.2.2.2.2.1, hF.2.2.2.2.2.2.2.2.2.2.2.2.2.2.2.2.2.2.2.1, hF.2.2.2.2.2.2.2.2.2.2.2.2.2.2.2.2.2.2.2.2⟩, hW⟩
   refine StepsI.cons rfl ?_ ?_
   ·rintro L zA va ⟨zB, zS, R, ao, cap, Z, rfl, rfl, hF, hW⟩ hL hm K hK
    have hb16 : zB 16 = false := by simpa using hL
    have hb15 : zB 15 = true := mt 15 hm (by kernel_rfl)
    have e15 : zS 40 = .pointer (some ⟨bm, om + i, none⟩) := hF.2.2.2.2.2.2.2.2.2.2.2.2.2.2.2.1 hb15
    clear hL hm
    simp only [pE]
    simp only [e15]
    obtain ⟨_, _, _, _, c0⟩ := hcel _ hW.1
    go_simp
    exact hK.out _ _ ⟨fun zj => if zj = 15 then true else if zj = 16 then true else zB zj, fun zd => if zd = 41 then .bool mm else if zd = 40 then .pointer (some ⟨bm, om + i, none⟩) else zS zd, R, ao, cap, Z, by simp [hb15], by kernel_rfl, ⟨hF.1, hF.2.1, hF.2.2.1, hF.2.2.2.1, hF.2.2.2.2.1, hF.2.2.2.2.2.1, hF.2.2.2.2.2.2.1, hF.2.2.2.2.2.2.2.1, hF.2.2.2.2.2.2.2.2.1, hF.2.2.2.2.2.2.2.2.2.1, hF.2.2.2.2.2.2.2.2.2.2.1, hF.2.2.2.2.2.2.2.2.2.2.2.1, hF.2.2.2.2.2.2.2.2.2.2.2.2.1, hF.2.2.2.2.2.2.2.2.2.2.2.2.2.1, hF.2.2.2.2.2.2.2.2.2.2.2.2.2.2.1, fun _ => rfl, fun _ => rfl, hF.2.2.2.2.2.2.2.2.2.2.2.2.2.2.2.2.2.1, hF.2.2.2.2.2.2.2.2.2.2.2.2.2.2.2.2.2.2.1, hF.2.2.2.2.2.2.2.2.2.2.2.2.2.2.2.2.2.2.2.1, hF.2.2.2.2.2.2.2.2.2.2.2.2.2.2.2.2.2.2.2.2⟩, hW⟩
   refine StepsI.cons rfl ?_ ?_
   ·rintro L zA va ⟨zB, zS, R, ao, cap, Z, rfl, rfl, hF, hW⟩ hL hm K hK
    have hb17 : zB 17 = false := by simpa using hL
    clear hL hm
    rw [hb17] at hW
    simp only [pE]
    have h20 : zB 20 = false := (by cases e : zB 20 with | false => rfl | true => exact ft (hW.2.2.2.2.1 (hW.2.2.2.2.2.1 (hW.2.2.2.2.2.2.1 e))).2)
    have h4 : zS 4 = .pointer (some ⟨X, 0, none⟩) := hW.2.2.2.2.2.2.2 h20
    simp only [h4]
    go_simp
    exact hK.out _ _ ⟨fun zj => if zj = 17 then true else zB zj, fun zd => if zd = 42 then .pointer (some ⟨X, 0, none⟩) else if zd = 4 then .pointer (some ⟨X, 0, none⟩) else zS zd, R, ao, cap, Z, rfl, by kernel_rfl, ⟨hF.1, hF.2.1, hF.2.2.1, hF.2.2.2.1, hF.2.2.2.2.1, hF.2.2.2.2.2.1, hF.2.2.2.2.2.2.1, hF.2.2.2.2.2.2.2.1, hF.2.2.2.2.2.2.2.2.1, hF.2.2.2.2.2.2.2.2.2.1, hF.2.2.2.2.2.2.2.2.2.2.1, hF.2.2.2.2.2.2.2.2.2.2.2.1, hF.2.2.2.2.2.2.2.2.2.2.2.2.1, hF.2.2.2.2.2.2.2.2.2.2.2.2.2.1, hF.2.2.2.2.2.2.2.2.2.2.2.2.2.2.1, hF.2.2.2.2.2.2.2.2.2.2.2.2.2.2.2.1, hF.2.2.2.2.2.2.2.2.2.2.2.2.2.2.2.2.1, fun _ => rfl, hF.2.2.2.2.2.2.2.2.2.2.2.2.2.2.2.2.2.2.1, hF.2.2.2.2.2.2.2.2.2.2.2.2.2.2.2.2.2.2.2.1, fun e => ft (h20.symm.trans e)⟩, ⟨hW.1, hW.2.1, hW.2.2.1, hW.2.2.2.1, fun e => ft (hW.2.2.2.2.1 e).2, hW.2.2.2.2.2.1, hW.2.2.2.2.2.2.1, fun _ => rfl⟩⟩
   refine StepsI.cons rfl ?_ ?_
   ·rintro L zA va ⟨zB, zS, R, ao, cap, Z, rfl, rfl, hF, hW⟩ hL hm K hK
    have hb18 : zB 18 = false := by simpa using hL
    have hb6 : zB 6 = true := mt 6 hm (by kernel_rfl)
    have hb11 : zB 11 = true := mt 11 hm (by kernel_rfl)
    have hb16 : zB 16 = true := mt 16 hm (by kernel_rfl)
    have hb17 : zB 17 = true := mt 17 hm (by kernel_rfl)
    have e6 : zS 31 = .agg #[.slice ao l.length cap, .func (.func 132) #[] #[]] := hF.2.2.2.2.2.2.1 hb6
    have e11 : zS 36 = .agg #[.int .i64 vv.1, .int .i64 vv.2.1, .bool vv.2.2] := hF.2.2.2.2.2.2.2.2.2.2.2.1 hb11
    have e16 : zS 41 = .bool mm := hF.2.2.2.2.2.2.2.2.2.2.2.2.2.2.2.2.1 hb16
    have e17 : zS 42 = .pointer (some ⟨X, 0, none⟩) := hF.2.2.2.2.2.2.2.2.2.2.2.2.2.2.2.2.2.1 hb17
    clear hL hm
    rw [hb18] at hW
    rw [hb6] at hW
    rw [hb17] at hW
    simp only [pE]
    simp only [e6, e11, e16, e17]
    go_simp
    exact hK.out _ _ ⟨fun zj => if zj = 17 then true else if zj = 16 then true else if zj = 11 then true else if zj = 6 then true else if zj = 18 then true else zB zj, fun zd => if zd = 43 then .agg #[.slice ao l.length cap, .func (.func 132) #[] #[], .int .i64 vv.1, .int .i64 vv.2.1, .bool vv.2.2, .bool mm, .pointer (some ⟨X, 0, none⟩)] else if zd = 42 then .pointer (some ⟨X, 0, none⟩) else if zd = 41 then .bool mm else if zd = 36 then .agg #[.int .i64 vv.1, .int .i64 vv.2.1, .bool vv.2.2] else if zd = 31 then .agg #[.slice ao l.length cap, .func (.func 132) #[] #[]] else zS zd, R, ao, cap, Z, by simp [hb6, hb11, hb16, hb17], by kernel_rfl, ⟨hF.1, hF.2.1, hF.2.2.1, hF.2.2.2.1, hF.2.2.2.2.1, hF.2.2.2.2.2.1, fun _ => rfl, hF.2.2.2.2.2.2.2.1, hF.2.2.2.2.2.2.2.2.1, hF.2.2.2.2.2.2.2.2.2.1, hF.2.2.2.2.2.2.2.2.2.2.1, fun _ => rfl, hF.2.2.2.2.2.2.2.2.2.2.2.2.1, hF.2.2.2.2.2.2.2.2.2.2.2.2.2.1, hF.2.2.2.2.2.2.2.2.2.2.2.2.2.2.1, hF.2.2.2.2.2.2.2.2.2.2.2.2.2.2.2.1, fun _ => rfl, fun _ => rfl, fun _ => rfl, hF.2.2.2.2.2.2.2.2.2.2.2.2.2.2.2.2.2.2.2.1, hF.2.2.2.2.2.2.2.2.2.2.2.2.2.2.2.2.2.2.2.2⟩, ⟨hW.1, hW.2.1, hW.2.2.1, hW.2.2.2.1, fun _ => ⟨rfl, rfl⟩, fun _ => rfl, hW.2.2.2.2.2.2.1, hW.2.2.2.2.2.2.2⟩⟩
   refine StepsI.cons rfl ?_ ?_
   ·rintro L zA va ⟨zB, zS, R, ao, cap, Z, rfl, rfl, hF, hW⟩ hL hm K hK
    have hb19 : zB 19 = false := by simpa using hL
    have hb18 : zB 18 = true := mt 18 hm (by kernel_rfl)
    have e18 : zS 43 = .agg #[.slice ao l.length cap, .func (.func 132) #[] #[], .int .i64 vv.1, .int .i64 vv.2.1, .bool vv.2.2, .bool mm, .pointer (some ⟨X, 0, none⟩)] := hF.2.2.2.2.2.2.2.2.2.2.2.2.2.2.2.2.2.2.1 hb18
    clear hL hm
    rw [hb19] at hW
    rw [hb18] at hW
    simp only [pE]
    simp only [e18]
    have HW := mkHid hW
    clear hW
    go_simp
    have hW := HW.out
    exact hK.out _ _ ⟨fun zj => if zj = 18 then true else if zj = 19 then true else zB zj, fun zd => if zd = 44 then .pointer (some ⟨va.heap.size, 0, none⟩) else if zd = 43 then .agg #[.slice ao l.length cap, .func (.func 132) #[] #[], .int .i64 vv.1, .int .i64 vv.2.1, .bool vv.2.2, .bool mm, .pointer (some ⟨X, 0, none⟩)] else zS zd, R, ao, cap, va.heap.size, by simp [hb18], by kernel_rfl, ⟨hF.1, hF.2.1, hF.2.2.1, hF.2.2.2.1, hF.2.2.2.2.1, hF.2.2.2.2.2.1, hF.2.2.2.2.2.2.1, hF.2.2.2.2.2.2.2.1, hF.2.2.2.2.2.2.2.2.1, hF.2.2.2.2.2.2.2.2.2.1, hF.2.2.2.2.2.2.2.2.2.2.1, hF.2.2.2.2.2.2.2.2.2.2.2.1, hF.2.2.2.2.2.2.2.2.2.2.2.2.1, hF.2.2.2.2.2.2.2.2.2.2.2.2.2.1, hF.2.2.2.2.2.2.2.2.2.2.2.2.2.2.1, hF.2.2.2.2.2.2.2.2.2.2.2.2.2.2.2.1, hF.2.2.2.2.2.2.2.2.2.2.2.2.2.2.2.2.1, hF.2.2.2.2.2.2.2.2.2.2.2.2.2.2.2.2.2.1, fun _ => rfl, fun _ => rfl, fun e => ft (hW.2.2.2.2.2.2.1 e)⟩, ⟨bl_alloc hW.1 _, fun e e2 => (((Below.refl _ _).alloc (Nat.le_refl _) _).cell (World.block_lt_of_cell? _ _ (hW.2.1 e e2))).trans (hW.2.1 e e2), fun e => (hW.2.2.1 e).below ((Below.refl _ _).alloc (Nat.le_refl _) _), fun _ => linkO_new (hW.2.2.1 (hW.2.2.2.2.1 rfl).1) rfl hW.1.size, fun _ => hW.2.2.2.2.1 rfl, fun _ => rfl, fun _ => rfl, hW.2.2.2.2.2.2.2⟩⟩
   refine StepsI.cons rfl ?_ ?_
   ·rintro L zA va ⟨zB, zS, R, ao, cap, Z, rfl, rfl, hF, hW⟩ hL hm K hK
    have hb20 : zB 20 = false := by simpa using hL
    have hb19 : zB 19 = true := mt 19 hm (by kernel_rfl)
    have e19 : zS 44 = .pointer (some ⟨Z, 0, none⟩) := hF.2.2.2.2.2.2.2.2.2.2.2.2.2.2.2.2.2.2.2.1 hb19
    clear hL hm
    rw [hb20] at hW
    rw [hb19] at hW
    simp only [pE]
    simp only [e19]
    have HW := mkHid hW
    clear hW
    go_simp
    have hW := HW.out
    exact hK.out _ _ ⟨fun zj => if zj = 19 then true else if zj = 20 then true else zB zj, fun zd => if zd = 4 then .pointer (some ⟨Z, 0, none⟩) else if zd = 44 then .pointer (some ⟨Z, 0, none⟩) else zS zd, R, ao, cap, Z, by simp [hb19], by kernel_rfl, ⟨hF.1, hF.2.1, hF.2.2.1, hF.2.2.2.1, hF.2.2.2.2.1, hF.2.2.2.2.2.1, hF.2.2.2.2.2.2.1, hF.2.2.2.2.2.2.2.1, hF.2.2.2.2.2.2.2.2.1, hF.2.2.2.2.2.2.2.2.2.1, hF.2.2.2.2.2.2.2.2.2.2.1, hF.2.2.2.2.2.2.2.2.2.2.2.1, hF.2.2.2.2.2.2.2.2.2.2.2.2.1, hF.2.2.2.2.2.2.2.2.2.2.2.2.2.1, hF.2.2.2.2.2.2.2.2.2.2.2.2.2.2.1, hF.2.2.2.2.2.2.2.2.2.2.2.2.2.2.2.1, hF.2.2.2.2.2.2.2.2.2.2.2.2.2.2.2.2.1, hF.2.2.2.2.2.2.2.2.2.2.2.2.2.2.2.2.2.1, hF.2.2.2.2.2.2.2.2.2.2.2.2.2.2.2.2.2.2.1, fun _ => rfl, fun _ => rfl⟩, ⟨hW.1, hW.2.1, hW.2.2.1, hW.2.2.2.1, hW.2.2.2.2.1, hW.2.2.2.2.2.1, fun _ => rfl, fun e => tf e⟩⟩
   exact StepsI.nil (by kernel_rfl)
  ·rintro L zA va ⟨zB, zS, R, ao, cap, Z, rfl, rfl, hF, hW⟩ hr
   have hu := all_up (by kernel_rfl) (N := 21) (by kernel_rfl) hr
   have hb0 : zB 0 = true := by simpa using hu 0 (by decide)
   have hb1 : zB 1 = true := by simpa using hu 1 (by decide)
   have hb2 : zB 2 = true := by simpa using hu 2 (by decide)
   have hb3 : zB 3 = true := by simpa using hu 3 (by decide)
   have hb4 : zB 4 = true := by simpa using hu 4 (by decide)
   have hb5 : zB 5 = true := by simpa using hu 5 (by decide)
   have hb6 : zB 6 = true := by simpa using hu 6 (by decide)
   have hb7 : zB 7 = true := by simpa using hu 7 (by decide)
   have hb8 : zB 8 = true := by simpa using hu 8 (by decide)
   have hb9 : zB 9 = true := by simpa using hu 9 (by decide)
   have hb10 : zB 10 = true := by simpa using hu 10 (by decide)
   have hb11 : zB 11 = true := by simpa using hu 11 (by decide)
   have hb12 : zB 12 = true := by simpa using hu 12 (by decide)
   have hb13 : zB 13 = true := by simpa using hu 13 (by decide)
   have hb14 : zB 14 = true := by simpa using hu 14 (by decide)
   have hb15 : zB 15 = true := by simpa using hu 15 (by decide)
   have hb16 : zB 16 = true := by simpa using hu 16 (by decide)
   have hb17 : zB 17 = true := by simpa using hu 17 (by decide)
   have hb18 : zB 18 = true := by simpa using hu 18 (by decide)
   have hb19 : zB 19 = true := by simpa using hu 19 (by decide)
   have hb20 : zB 20 = true := by simpa using hu 20 (by decide)
   have e0 : zS 25 = .pointer (some ⟨Q, 0, none⟩) := hF.1 hb0
   have e1 : zS 26 = .slice (some ⟨bb, ob, none⟩) S.B.length A.c0 := hF.2.1 hb1
   have e2 : zS 27 = .int .i64 (i : Int) := hF.2.2.1 hb2
   have e3 : zS 28 = .pointer (some ⟨bb, ob + i, none⟩) := hF.2.2.2.1 hb3
   have e4 : zS 29 = .slice al l.length cl := hF.2.2.2.2.1 hb4
   have e5 : zS 30 = .slice (some ⟨R, 0, none⟩) 1 1 := hF.2.2.2.2.2.1 hb5
   have e6 : zS 31 = .agg #[.slice ao l.length cap, .func (.func 132) #[] #[]] := hF.2.2.2.2.2.2.1 hb6
   have e7 : zS 32 = .pointer (some ⟨Q, 1, none⟩) := hF.2.2.2.2.2.2.2.1 hb7
   have e8 : zS 33 = .slice (some ⟨bv, ov, none⟩) S.V.length A.c1 := hF.2.2.2.2.2.2.2.2.1 hb8
   have e9 : zS 34 = .int .i64 (i : Int) := hF.2.2.2.2.2.2.2.2.2.1 hb9
   have e10 : zS 35 = .pointer (some ⟨bv, ov + i * 3, none⟩) := hF.2.2.2.2.2.2.2.2.2.2.1 hb10
   have e11 : zS 36 = .agg #[.int .i64 vv.1, .int .i64 vv.2.1, .bool vv.2.2] := hF.2.2.2.2.2.2.2.2.2.2.2.1 hb11
   have e12 : zS 37 = .pointer (some ⟨Q, 2, none⟩) := hF.2.2.2.2.2.2.2.2.2.2.2.2.1 hb12
   have e13 : zS 38 = .slice (some ⟨bm, om, none⟩) S.M.length A.c2 := hF.2.2.2.2.2.2.2.2.2.2.2.2.2.1 hb13
   have e14 : zS 39 = .int .i64 (i : Int) := hF.2.2.2.2.2.2.2.2.2.2.2.2.2.2.1 hb14
   have e15 : zS 40 = .pointer (some ⟨bm, om + i, none⟩) := hF.2.2.2.2.2.2.2.2.2.2.2.2.2.2.2.1 hb15
   have e16 : zS 41 = .bool mm := hF.2.2.2.2.2.2.2.2.2.2.2.2.2.2.2.2.1 hb16
   have e17 : zS 42 = .pointer (some ⟨X, 0, none⟩) := hF.2.2.2.2.2.2.2.2.2.2.2.2.2.2.2.2.2.1 hb17
   have e18 : zS 43 = .agg #[.slice ao l.length cap, .func (.func 132) #[] #[], .int .i64 vv.1, .int .i64 vv.2.1, .bool vv.2.2, .bool mm, .pointer (some ⟨X, 0, none⟩)] := hF.2.2.2.2.2.2.2.2.2.2.2.2.2.2.2.2.2.2.1 hb18
   have e19 : zS 44 = .pointer (some ⟨Z, 0, none⟩) := hF.2.2.2.2.2.2.2.2.2.2.2.2.2.2.2.2.2.2.2.1 hb19
   have e20 : zS 4 = .pointer (some ⟨Z, 0, none⟩) := hF.2.2.2.2.2.2.2.2.2.2.2.2.2.2.2.2.2.2.2.2 hb20
   rw [hb5] at hW
   rw [hb6] at hW
   rw [hb17] at hW
   rw [hb18] at hW
   rw [hb19] at hW
   rw [hb20] at hW
   clear hu hr hF
   simp only [pE]
   simp only [e0, e1, e2, e3, e4, e5, e6, e7, e8, e9, e10, e11, e12, e13, e14, e15, e16, e17, e18, e19, e20]
   clear e0 e1 e2 e3 e4 e5 e6 e7 e8 e9 e10 e11 e12 e13 e14 e15 e16 e17 e18 e19 e20
   clear hb0 hb1 hb2 hb3 hb4 hb5 hb6 hb7 hb8 hb9 hb10 hb11 hb12 hb13 hb14 hb15 hb16 hb17 hb18 hb19 hb20
   have hB := hW.1
   have hL := hW.2.2.2.1 rfl
   clear hW
   clear zB zS
   have HBE2 := mkHid (below_step HBE.out hB)
   have HCN : Hid (ChN va w.heap.size Z (linksOf (S.B.drop i) (S.V.drop i) (S.M.drop i))) := mkHid (by rw [HST.out]; exact chn_cons hL HC.out hB HB2.out.size)
   have hwi : IntKind.i64.wrap ((i : Int) - 1) = (i : Int) - 1 := IntWalk.i64_in _ (by omega)
   clear hB hL hbox hcel
   go_wp2
   go_roundg i
   case measure => omega
   case rel => exact ⟨i, Z, (i : Int) - 1, by omega, rfl, rfl, rfl, Nat.le_refl _, HCN.out, HBE2.out⟩
end Go.Proofs.YtihpajiololfoaaGreat
