/-
  CONTRACT of the specification's l10Tidy.
-/
import Derived.Test.YtihpajiololfoaaGreatCc17
namespace Go.Proofs.YtihpajiololfoaaGreat
open Go.RowKit

def vC (v : VV) : Array Value := #[.int .i64 v.1, .int .i64 v.2.1, .bool v.2.2]
theorem vC_cells {w : World} {X : Nat} {v : VV} {T : TypeId} {fz : Nat × Nat} (h : w.heap[X]? = some (.cells (vC v) T fz)) : w.cell? ⟨X, 0, none⟩ = some (.int .i64 v.1) ∧ w.cell? ⟨X, 1, none⟩ = some (.int .i64 v.2.1) ∧ w.cell? ⟨X, 2, none⟩ = some (.bool v.2.2) := ⟨heap_cell h 0, heap_cell h 1, heap_cell h 2⟩
theorem news_at {w : World} {b o : Nat} {l : List Y} (hq : ∀ (i : Nat) (x : Y), l[i]? = some x → ∀ (j : Nat) (v : Value), (eY.enc x)[j]? = some v → w.cell? ⟨b, o + i * eY.k + j, none⟩ = some v) : ∀ (j : Nat) (u : Value), (eY.flat l)[j]? = some u → w.cell? ((⟨b, o, none⟩ : Addr).add j) = some u := by
 intro j u hu
 have hj : j < l.length * 2 := by have := (List.getElem?_eq_some_iff.1 hu).1; rw [El.flat_len] at this; exact this
 obtain ⟨x, hx⟩ : ∃ x, l[j / 2]? = some x := ⟨_, List.getElem?_eq_getElem (by omega)⟩
 have e : j / 2 * eY.k + j % 2 = j := by show j / 2 * 2 + j % 2 = j; omega
 have h1 := eY.flat_get hx (j := j % 2) (by show j % 2 < 2; omega)
 rw [e, hu] at h1
 have h2 := hq (j / 2) x hx (j % 2) u h1.symm
 rw [Nat.add_assoc, e] at h2
 rw [Addr.add_lit]
 exact h2
theorem flat_one {l : List Y} {u : Value} (hu : u ∈ eY.flat l) : u.oneCell' = true := by
 simp [El.flat, eY] at hu
 obtain ⟨p, q, _, h⟩ := hu
 rcases h with rfl | rfl <;> rfl
/-- What holds at the head of the loop: s in X1, the answer's box X2, v in V4, out in Bx. -/
structure TyI (w wr : World) (base X1 X2 V4 Bx : Nat) (A0 : SAd) (S : SG) (A : SAd) (Z : SG) (v : VV) : Prop where
 g : GrowS wr base Bx A Z
 v4 : wr.heap[V4]? = some (.cells (vC v) 55 (0, 0))
 x1 : wr.heap[X1]? = some (.cells (sgC A0 S) 35 (0, 0))
 x2 : wr.heap[X2]? = some (.cells (sgC noA noS) 35 (0, 0))
 bel : Below w.heap.size w wr
 bs : base ≤ wr.heap.size
structure TyC (w : World) (base X1 X2 V4 Bx : Nat) : Prop where
 x1 : w.heap.size ≤ X1 ∧ X1 < base ∧ X1 ≠ Bx ∧ X1 ≠ V4
 x2 : w.heap.size ≤ X2 ∧ X2 < base ∧ X2 ≠ Bx ∧ X2 ≠ V4
 v4 : w.heap.size ≤ V4 ∧ V4 < base ∧ V4 ≠ Bx
 bx : w.heap.size ≤ Bx ∧ Bx < base
section
variable {w wr va : World} {base X1 X2 V4 Bx : Nat} {A0 A A' : SAd} {S Z Z' : SG} {v v' : VV}
theorem TyI.grow (h : TyI w wr base X1 X2 V4 Bx A0 S A Z v) (c : TyC w base X1 X2 V4 Bx) (hg : GrowS va base Bx A' Z') (hk : Kp base Bx wr va) : TyI w va base X1 X2 V4 Bx A0 S A' Z' v :=
 ⟨hg, (hk.block V4 c.v4.2.1 c.v4.2.2).trans h.v4, (hk.block X1 c.x1.2.1 c.x1.2.2.1).trans h.x1, (hk.block X2 c.x2.2.1 c.x2.2.2.1).trans h.x2, Kp.below h.bel hk (Nat.le_trans c.bx.1 (Nat.le_of_lt c.bx.2)) c.bx.1, Nat.le_trans h.bs hk.size⟩
theorem TyI.below (h : TyI w wr base X1 X2 V4 Bx A0 S A Z v) (hb : Below wr.heap.size wr va) : TyI w va base X1 X2 V4 Bx A0 S A Z v :=
 ⟨h.g.below hb, (hb.block _ (heap_lt h.v4)).trans h.v4, (hb.block _ (heap_lt h.x1)).trans h.x1, (hb.block _ (heap_lt h.x2)).trans h.x2, below_step h.bel hb, Nat.le_trans h.bs hb.size⟩
theorem TyI.setV (h : TyI w wr base X1 X2 V4 Bx A0 S A Z v) (c : TyC w base X1 X2 V4 Bx) (hO : Only V4 wr va) (hv : va.heap[V4]? = some (.cells (vC v') 55 (0, 0))) : TyI w va base X1 X2 V4 Bx A0 S A Z v' := by
 have ne : ∀ k : Nat, k ≠ V4 → some k ≠ (some V4 : Option Nat) := fun k hk e => hk (Option.some.inj e)
 have lt := c.v4.2.1
 refine ⟨⟨(hO.block Bx h.g.lt (ne _ (fun e => c.v4.2.2 e.symm))).trans h.g.box, ?_, h.g.v.keptBy hO (fun q hq e => ?_), h.g.m.keptBy hO (fun q hq e => ?_)⟩, hv, (hO.block X1 (heap_lt h.x1) (ne _ c.x1.2.2.2)).trans h.x1, (hO.block X2 (heap_lt h.x2) (ne _ c.x2.2.2.2)).trans h.x2, Only.below h.bel hO h.bel.size c.v4.1, Nat.le_trans h.bs hO.size⟩
 ·obtain ⟨vs, h1, h2⟩ := h.g.b
  refine ⟨vs, World.ownsRow.kept h1 hO ?_, h2.1, fun i z l hz hl => (h2.2.1 i z l hz hl).keptBy hO (fun q hq e => ?_), h2.2.2⟩
  ·rcases h1.2 with ⟨e, _⟩ | ⟨g, cap, cur, e, hg, _⟩
   ·exact .inl (by rw [e]; rfl)
   ·refine .inr fun e2 => ?_
    rw [e] at e2
    simp [Value.ownBlock] at e2
    omega
  ·have := ((h2.2.1 i z l hz hl).lt hq).1
   have := Option.some.inj e
   omega
 ·have := (h.g.v.lt hq).1
  have := Option.some.inj e
  omega
 ·have := (h.g.m.lt hq).1
  have := Option.some.inj e
  omega
end
def tidyS (S : SG) : SG := ⟨S.B.headD [] :: (tidyR noneV true S.B.tail S.V S.M).1, (tidyR noneV true S.B.tail S.V S.M).2.1, (tidyR noneV true S.B.tail S.V S.M).2.2⟩
/-- The loop's state against what is to come. -/
def TyF (S Z : SG) (v : VV) (mb : Bool) (j : Nat) : Prop := tidyS S = ⟨Z.B ++ (tidyR v mb (S.B.drop (j + 1)) (S.V.drop j) (S.M.drop j)).1, Z.V ++ (tidyR v mb (S.B.drop (j + 1)) (S.V.drop j) (S.M.drop j)).2.1, Z.M ++ (tidyR v mb (S.B.drop (j + 1)) (S.V.drop j) (S.M.drop j)).2.2⟩
def TyE (S Z : SG) (v : VV) (mb : Bool) : Nat → Prop
 | 0 => Z = noS ∧ v = noneV ∧ mb = true
 | j + 1 => TyF S Z v mb j
theorem drop_at {α : Type} {L : List α} {i : Nat} {x : α} (h : L[i]? = some x) : L.drop i = x :: L.drop (i + 1) := by
 obtain ⟨hi, rfl⟩ := List.getElem?_eq_some_iff.1 h
 exact List.drop_eq_getElem_cons hi
theorem TyE.first {S : SG} {l : List Y} (h : S.B[0]? = some l) : TyE S ⟨[l], [], []⟩ noneV true 1 := by
 have e : S.B = l :: S.B.drop 1 := by have := drop_at h; simpa using this
 show TyF S _ _ _ 0
 unfold TyF tidyS
 rw [show S.B.headD [] = l by rw [e]; rfl, show S.B.tail = S.B.drop 1 by simp]
 simp
theorem TyE.skip {S Z : SG} {v x : VV} {mb m : Bool} {j : Nat} {l : List Y} (h : TyE S Z v mb (j + 1)) (hl : S.B[j + 1]? = some l) (hx : S.V[j]? = some x) (hm : S.M[j]? = some m) (h0 : l = []) : TyE S Z (jv v x) (mb && m) (j + 1 + 1) := by
 have h : TyF S Z v mb j := h
 show TyF S Z (jv v x) (mb && m) (j + 1)
 unfold TyF at h ⊢
 rw [drop_at hl, drop_at hx, drop_at hm, tidyR, if_pos h0] at h
 exact h
theorem TyE.take {S Z : SG} {v x : VV} {mb m : Bool} {j : Nat} {l : List Y} (h : TyE S Z v mb (j + 1)) (hl : S.B[j + 1]? = some l) (hx : S.V[j]? = some x) (hm : S.M[j]? = some m) (h0 : l ≠ []) : TyE S ⟨Z.B ++ [l], Z.V ++ [jv v x], Z.M ++ [mb && m]⟩ noneV true (j + 1 + 1) := by
 have h : TyF S Z v mb j := h
 show TyF S ⟨Z.B ++ [l], Z.V ++ [jv v x], Z.M ++ [mb && m]⟩ noneV true (j + 1)
 unfold TyF at h ⊢
 rw [drop_at hl, drop_at hx, drop_at hm, tidyR, if_neg h0] at h
 simpa using h
theorem TyE.last {S Z : SG} {v : VV} {mb : Bool} {i : Nat} (h : TyE S Z v mb i) (hi : i = S.B.length) (h0 : 1 ≤ i) : tidyS S = Z := by
 cases i with
 | zero => omega
 | succ j =>
  have h : TyF S Z v mb j := h
  unfold TyF at h
  rw [List.drop_of_length_le (i := j + 1) (l := S.B) (by omega)] at h
  simpa [tidyR] using h
set_option maxRecDepth 100000 in
set_option maxHeartbeats 6400000 in
theorem tidy_any (S : SG) (A0 : SAd) (w : World) (hs : Small S) (hk : 1 ≤ S.B.length) (hv : S.V.length + 1 = S.B.length) (hm : S.M.length + 1 = S.B.length) (h0 : S.B[0]? ≠ some []) (hl : SegAt w A0 S) :
  Calls Tryz.prog 110 #[.agg #[.slice A0.a0 S.B.length A0.c0, .slice A0.a1 S.V.length A0.c1, .slice A0.a2 S.M.length A0.c2]] w fun e w' => GivesS w w' e (tidyS S) := by
 obtain ⟨TS, hTS⟩ : ∃ z, tidyS S = z := ⟨_, rfl⟩
 have HTS := mkHid hTS
 rw [hTS]
 clear hTS
 have HSM := mkHid hs
 have HK1 := mkHid hk
 have HVL := mkHid hv
 have HML := mkHid hm
 have H00 := mkHid h0
 obtain ⟨tb, hti, hz⟩ := Option.map_eq_some_iff.1 infoB'
 simp only [Prod.mk.injEq] at hz
 obtain ⟨hz0, hz1, hz2⟩ := hz
 have HIB := mkHid (show Tryz.prog.info? 113 = some tb ∧ tb.zero = some (.slice none 0 0) ∧ tb.size = 1 ∧ tb.bytes = 24 from ⟨hti, hz0, hz1, hz2⟩)
 clear hti hz0 hz1 hz2
 obtain ⟨tv, hti, hz⟩ := Option.map_eq_some_iff.1 infoV'
 simp only [Prod.mk.injEq] at hz
 obtain ⟨hz0, hz1, hz2⟩ := hz
 have HIV := mkHid (show Tryz.prog.info? 55 = some tv ∧ tv.zero = some (.agg #[.int .i64 0, .int .i64 0, .bool false]) ∧ tv.size = 3 ∧ tv.bytes = 24 from ⟨hti, hz0, hz1, hz2⟩)
 clear hti hz0 hz1 hz2
 obtain ⟨tm, hti, hz⟩ := Option.map_eq_some_iff.1 infoM'
 simp only [Prod.mk.injEq] at hz
 obtain ⟨hz0, hz1, hz2⟩ := hz
 have HIM := mkHid (show Tryz.prog.info? 4 = some tm ∧ tm.zero = some (.bool false) ∧ tm.size = 1 ∧ tm.bytes = 1 from ⟨hti, hz0, hz1, hz2⟩)
 clear hti hz0 hz1 hz2
 obtain ⟨ty, hti, hz⟩ := Option.map_eq_some_iff.1 infoY
 simp only [Prod.mk.injEq] at hz
 obtain ⟨hz0, hz1, hz2⟩ := hz
 have HIY := mkHid (show Tryz.prog.info? 49 = some ty ∧ ty.zero = some (.agg #[.int .i64 0, .int .i64 0]) ∧ ty.size = 2 ∧ ty.bytes = 16 from ⟨hti, hz0, hz1, hz2⟩)
 clear hti hz0 hz1 hz2
 obtain ⟨bb, ob, hab, hlb, hqb⟩ := hl.b.cons (by omega)
 have HLS := mkHid hl
 have HAB : Hid (A0.a0 = some ⟨bb, ob, none⟩) := mkHid hab
 have HRB : Hid (∀ (i : Nat) (l : List Y), S.B[i]? = some l → ∃ ao cap, (∀ v, Below w.heap.size w v → v.cell? ⟨bb, ob + i, none⟩ = some (.slice ao l.length cap)) ∧ At eY w ao l) := mkHid fun i l h => by obtain ⟨ao, cap, h1, h2⟩ := hqb i l h; exact ⟨ao, cap, fun v hv => (hv.cell (p := ⟨bb, ob + i, none⟩) hlb).trans h1, h2⟩
 obtain ⟨w0, hw0⟩ : ∃ z : World, ((w.alloc (.cells #[.slice A0.a0 S.B.length A0.c0, .slice A0.a1 S.V.length A0.c1, .slice A0.a2 S.M.length A0.c2] 35)).alloc (.cells #[.slice none 0 0, .slice none 0 0, .slice none 0 0] 35)).alloc (.cells #[.slice none 0 0, .slice none 0 0, .slice none 0 0] 35) = z := ⟨_, rfl⟩
 obtain ⟨X1, hX⟩ : ∃ z, w.heap.size = z := ⟨_, rfl⟩
 have HXX := mkHid hX
 have HB0 : Hid (Below w.heap.size w w0) := mkHid (by rw [← hw0]; exact bl_alloc (bl_alloc (bl_alloc (Below.refl _ _) _) _) _)
 have HZ0 : Hid (w0.heap[X1]? = some (.cells (sgC A0 S) 35 (0, 0)) ∧ w0.heap[X1 + 1]? = some (.cells (sgC noA noS) 35 (0, 0)) ∧ w0.heap[X1 + 1 + 1]? = some (.cells (sgC noA noS) 35 (0, 0)) ∧ w0.heap.size = X1 + 3) := mkHid (by
  rw [← hw0, ← hX]
  refine ⟨?_, ?_, heap_new _ _ (by simp), by simp⟩
  ·rw [heap_old _ _ (by simp; omega), heap_old _ _ (by simp)]; exact heap_new _ _ rfl
  ·rw [heap_old _ _ (by simp)]; exact heap_new _ _ (by simp))
 have HW0 := mkHid hw0
 clear hl hs hk hv hm h0 hab hlb hqb hw0
 go_enter Tryz.func110, Tryz.ntmps110
 go_wp2_with fail
 rw [HW0.out]
 clear hX HW0
 refine (sVnone_any _).mono ?_
 rintro e w1 ⟨rfl, hb⟩
 obtain ⟨V4, hV4⟩ : ∃ z, w1.heap.size = z := ⟨_, rfl⟩
 obtain ⟨base, hbase⟩ : ∃ z, V4 + 1 = z := ⟨_, rfl⟩
 obtain ⟨X2, hX2⟩ : ∃ z, X1 + 1 = z := ⟨_, rfl⟩
 obtain ⟨Bx, hBx⟩ : ∃ z, X2 + 1 = z := ⟨_, rfl⟩
 have hsz := hb.size
 have HTC : Hid (TyC w base X1 X2 V4 Bx) := mkHid (by have h1 := HZ0.out.2.2.2; have h2 := HXX.out; exact ⟨⟨by omega, by omega, by omega, by omega⟩, ⟨by omega, by omega, by omega, by omega⟩, ⟨by omega, by omega, by omega⟩, ⟨by omega, by omega⟩⟩)
 have HT0 : Hid (TyI w (w1.alloc (.cells #[.int .i64 1, .int .i64 0, .bool true] 55)) base X1 X2 V4 Bx A0 S noA noS noneV) := mkHid (by
  have h1 := HZ0.out
  rw [hX2, hBx] at h1
  have hal : Below w0.heap.size w0 (w1.alloc (.cells #[.int .i64 1, .int .i64 0, .bool true] 55)) := bl_alloc hb _
  refine ⟨⟨(hal.block Bx (by omega)).trans h1.2.2.1, OwnYY.nil _ _, Own.nil _ _ _ _, Own.nil _ _ _ _⟩, heap_new _ _ hV4.symm, (hal.block X1 (by omega)).trans h1.1, (hal.block X2 (by omega)).trans h1.2.1, below_step HB0.out hal, by rw [← hbase, ← hV4]; simp⟩)
 have HX21 := mkHid hX2
 have HBX1 := mkHid hBx
 have HVV := mkHid hV4
 have HBB := mkHid hbase
 clear hb HZ0 HB0 hsz hbase
 go_wp2
 clear hV4 hX2 hBx
 go_loopg [5, 6] S.B.length (fun g s5 s6 wr => ∃ (i : Nat) (mb : Bool) (A : SAd) (Z : SG) (v : VV), i ≤ S.B.length ∧ s6 = .int .i64 (i : Int) ∧ s5 = .bool mb ∧ S.B.length - i ≤ g ∧ TyE S Z v mb i ∧ TyI w wr base X1 X2 V4 Bx A0 S A Z v ∧ Z.B.length ≤ i ∧ Z.V.length ≤ i ∧ Z.M.length ≤ i)
 case atStart => exact ⟨0, true, noA, noS, noneV, Nat.zero_le _, rfl, rfl, by omega, ⟨rfl, rfl, rfl⟩, HT0.out, Nat.le_refl _, Nat.le_refl _, Nat.le_refl _⟩
 case round =>
  clear HT0
  obtain ⟨i, mb, A, Z, v, hi, rfl, rfl, hg, hte, hti, hzl⟩ := hrel
  have hib : i ≤ 1048576 := by have := HSM.out.b; omega
  have HTE := mkHid hte
  have HTI := mkHid hti
  have HZL := mkHid hzl
  have hbx := HTI.out.x1
  have e0 := heap_cell hbx 0
  simp only [sgC] at e0
  simp at e0
  rw [HAB.out] at e0
  clear hte hti hzl hbx
  by_cases hlt : i < S.B.length
  ·obtain ⟨l, hlx⟩ : ∃ l, S.B[i]? = some l := ⟨_, List.getElem?_eq_getElem hlt⟩
   have HLX := mkHid hlx
   obtain ⟨al, cl, hrow, hal⟩ := HRB.out i l hlx
   have HLL : Hid (l.length ≤ 1048576) := mkHid (HSM.out.row i l hlx)
   have hrc := hrow wr HTI.out.bel
   have HRO := mkHid hrow
   have HAL := mkHid hal
   have i1 : (i : Int) < (S.B.length : Int) := by omega
   have i0 : (0 : Int) ≤ (i : Int) := by omega
   clear hlx hrow hal
   rcases Nat.eq_zero_or_pos i with hz | hz
   ·have hne : l ≠ [] := fun e => H00.out (by rw [← e, ← HLX.out, hz])
    have hp : ¬ (0 : Int) < (i : Int) := by omega
    have hp2 : ¬ 0 < i := by omega
    obtain ⟨bl, ol, hal9, hlbl, hql⟩ := HAL.out.cons (List.length_pos_iff.2 hne)
    have HAA := mkHid hal9
    have HLP : Hid (0 < l.length) := mkHid (List.length_pos_iff.2 hne)
    subst hal9
    have HRW : Hid (∀ v, Below w.heap.size w v → v.cell? ⟨bb, ob + i, none⟩ = some (.slice (some ⟨bl, ol, none⟩) l.length cl)) := mkHid fun v h => HRO.out v h
    have HRL : Hid (∀ v, Below w.heap.size w v → ∀ (i : Nat) (x : Y), l[i]? = some x → ∀ (j : Nat) (u : Value), (eY.enc x)[j]? = some u → v.cell? ⟨bl, ol + i * eY.k + j, none⟩ = some u) := mkHid fun v h i x hx j u hu => (h.cell (p := ⟨bl, _, none⟩) hlbl).trans (hql i x hx j u hu)
    have hn0 : ((l.length : Int) == 0) = false := by have := HLP.out; simp; omega
    have hn1 : ¬ (l.length : Int) = 0 := by have := HLP.out; omega
    have hn2 : l.length ≠ 0 := by have := HLP.out; omega
    clear hlbl hql
    have HNX : Hid (TyE S ⟨Z.B ++ [l], Z.V, Z.M⟩ noneV true (i + 1)) := mkHid (by have h := HTE.out; rw [hz] at h; obtain ⟨h1, _, _⟩ := h; rw [hz, h1]; exact TyE.first (by rw [← hz]; exact HLX.out))
    have HLZ : Hid ((Z.B ++ [l]).length ≤ i + 1 ∧ Z.V.length ≤ i + 1 ∧ Z.M.length ≤ i + 1) := mkHid (by have := HZL.out; simp; omega)
    have HNB : Hid (Z.B.length ≤ 1048576) := mkHid (by have := HZL.out; have := HSM.out.b; omega)
    have HG := mkHid HTI.out.g
    have hbs := HTI.out.bs
    obtain ⟨vs, hvs, hin⟩ := HTI.out.g.b
    have HVS := mkHid hvs
    have HIN := mkHid hin
    have HX14 : Hid (∀ v, Below wr.heap.size wr v → v.cell? ⟨X1, 0, none⟩ = some (.slice (some ⟨bb, ob, none⟩) S.B.length A0.c0)) := mkHid fun v h => by have := heap_cell (HTI.out.below h).x1 0; simpa [sgC, HAB.out] using this
    have HR14 : Hid (∀ v, Below wr.heap.size wr v → v.cell? ⟨bb, ob + i, none⟩ = some (.slice (some ⟨bl, ol, none⟩) l.length cl)) := mkHid fun v h => HRW.out v (HTI.out.below h).bel
    have HL14 : Hid (∀ v, Below wr.heap.size wr v → ∀ (i : Nat) (x : Y), l[i]? = some x → ∀ (j : Nat) (u : Value), (eY.enc x)[j]? = some u → v.cell? ⟨bl, ol + i * eY.k + j, none⟩ = some u) := mkHid fun v h => HRL.out v (HTI.out.below h).bel
    clear hvs hin
    clear hne hz
    go_wp2_with fail
    clear e0 hrc hn0 hn1 hn2 hp hp2
    refine wp_region_inv2 (fun zA0 L zA va => ∃ (zB : Nat → Bool) (zS : Nat → Value) (E : Nat) (g : Option Addr) (c : Nat) (R : Nat) (ga : Nat) (ca : Nat), L = #[zB 0, zB 1, zB 2, zB 3, zB 4, zB 5, zB 6, zB 7, zB 8, zB 9, zB 10, zB 11, zB 12] ∧ zA = puts zA0 [(56, zS 56), (57, zS 57), (58, zS 58), (59, zS 59), (60, zS 60), (61, zS 61), (62, zS 62), (63, zS 63), (64, zS 64), (65, zS 65), (66, zS 66), (67, zS 67)] ∧ ((zB 0 = true → zS 56 = .pointer (some ⟨Bx, 0, none⟩)) ∧ (zB 1 = true → zS 57 = .slice A.a0 Z.B.length A.c0) ∧ (zB 2 = true → zS 58 = .slice (some ⟨E, 0, none⟩) 0 0) ∧ (zB 3 = true → zS 59 = .pointer (some ⟨X1, 0, none⟩)) ∧ (zB 4 = true → zS 60 = .slice (some ⟨bb, ob, none⟩) S.B.length A0.c0) ∧ (zB 5 = true → zS 61 = .int .i64 (i : Int)) ∧ (zB 6 = true → zS 62 = .pointer (some ⟨bb, ob + i, none⟩)) ∧ (zB 7 = true → zS 63 = .slice (some ⟨bl, ol, none⟩) l.length cl) ∧ (zB 8 = true → zS 64 = .slice g l.length c) ∧ (zB 9 = true → zS 65 = .slice (some ⟨R, 0, none⟩) 1 1) ∧ (zB 10 = true → zS 66 = .slice (some ⟨ga, 0, none⟩) (Z.B.length + 1) ca) ∧ (zB 11 = true → zS 67 = .pointer (some ⟨Bx, 0, none⟩))) ∧ (Ap wr va (zB 8) (zB 9) (zB 10) (zB 12) (fun v => Own eY 49 v wr.heap.size (.slice g l.length c) l) R [.slice g l.length c] (Value.ownBlock (.slice A.a0 Z.B.length A.c0)) (fun v => v.ownsRow base 113 1 (.slice (some ⟨ga, 0, none⟩) (Z.B.length + 1) ca) (Z.B.length + 1) (vs ++ [.slice g l.length c])) Bx 0 (.slice (some ⟨ga, 0, none⟩) (Z.B.length + 1) ca)) ∧ ((zB 6) = true → (zB 4) = true) ∧ ((zB 8) = true → (zB 2) = true ∧ (zB 7) = true) ∧ ((zB 9) = true → (zB 8) = true) ∧ ((zB 10) = true → (zB 1) = true ∧ (zB 9) = true) ∧ ((zB 12) = true → (zB 10) = true) ∧ ((zB 7) = true → (zB 6) = true) ∧ ((zB 2) = true → (zB 8) = false → Own eY 49 va wr.heap.size (.slice (some ⟨E, 0, none⟩) 0 0) [])) (by kernel_rfl) ?_ ?_ ?_
    ·exact ⟨fun _ => false, fun zd => if zd = 67 then u67 else if zd = 66 then u66 else if zd = 65 then u65 else if zd = 64 then u64 else if zd = 63 then u63 else if zd = 62 then u62 else if zd = 61 then u61 else if zd = 60 then u60 else if zd = 59 then u59 else if zd = 58 then u58 else if zd = 57 then u57 else if zd = 56 then u56 else undef, 0, none, 0, 0, 0, 0, rfl, by kernel_rfl, ⟨fun e => ft e, fun e => ft e, fun e => ft e, fun e => ft e, fun e => ft e, fun e => ft e, fun e => ft e, fun e => ft e, fun e => ft e, fun e => ft e, fun e => ft e, fun e => ft e⟩, ⟨Ap.start _ _ _ _ _ _ _ _ _, fun e => ft e, fun e => ft e, fun e => ft e, fun e => ft e, fun e => ft e, fun e => ft e, fun e => ft e⟩⟩
    ·refine StepsI.cons rfl ?_ ?_
     ·rintro L zA va ⟨zB, zS, E, g, c, R, ga, ca, rfl, rfl, hF, hW⟩ hL hm K hK
      have hb0 : zB 0 = false := by simpa using hL
      clear hL hm
      simp only [pE]
      have HWz := mkHid hW
      clear hW
      go_simp
      have hW := HWz.out
      clear HWz
      exact hK.out _ _ ⟨fun zj => if zj = 0 then true else zB zj, fun zd => if zd = 56 then .pointer (some ⟨Bx, 0, none⟩) else zS zd, E, g, c, R, ga, ca, rfl, by kernel_rfl, ⟨fun _ => rfl, hF.2.1, hF.2.2.1, hF.2.2.2.1, hF.2.2.2.2.1, hF.2.2.2.2.2.1, hF.2.2.2.2.2.2.1, hF.2.2.2.2.2.2.2.1, hF.2.2.2.2.2.2.2.2.1, hF.2.2.2.2.2.2.2.2.2.1, hF.2.2.2.2.2.2.2.2.2.2.1, hF.2.2.2.2.2.2.2.2.2.2.2⟩, hW⟩
     refine StepsI.cons rfl ?_ ?_
     ·rintro L zA va ⟨zB, zS, E, g, c, R, ga, ca, rfl, rfl, hF, hW⟩ hL hm K hK
      have hb1 : zB 1 = false := by simpa using hL
      have hb0 : zB 0 = true := mt 0 hm (by kernel_rfl)
      have e0 : zS 56 = .pointer (some ⟨Bx, 0, none⟩) := hF.1 hb0
      clear hL hm
      rw [hb1] at hW
      simp only [pE]
      simp only [e0]
      have hf10 : zB 10 = false := by cases e : zB 10 with | false => rfl | true => exact ft ((hW.2.2.2.2.1 e).1)
      have hf12 : zB 12 = false := by cases e : zB 12 with | false => rfl | true => exact ft (hf10.symm.trans (hW.2.2.2.2.2.1 e))
      have hpre := hW.1.pre hf10
      obtain ⟨q0, q1, q2, _, _, _⟩ := (HG.out.below hpre).g3
      have HWz := mkHid hW
      clear hW
      go_simp
      have hW := HWz.out
      clear HWz
      exact hK.out _ _ ⟨fun zj => if zj = 0 then true else if zj = 1 then true else zB zj, fun zd => if zd = 57 then .slice A.a0 Z.B.length A.c0 else if zd = 56 then .pointer (some ⟨Bx, 0, none⟩) else zS zd, E, g, c, R, ga, ca, by simp [hb0], by kernel_rfl, ⟨fun _ => rfl, fun _ => rfl, hF.2.2.1, hF.2.2.2.1, hF.2.2.2.2.1, hF.2.2.2.2.2.1, hF.2.2.2.2.2.2.1, hF.2.2.2.2.2.2.2.1, hF.2.2.2.2.2.2.2.2.1, hF.2.2.2.2.2.2.2.2.2.1, hF.2.2.2.2.2.2.2.2.2.2.1, hF.2.2.2.2.2.2.2.2.2.2.2⟩, ⟨hW.1, hW.2.1, hW.2.2.1, hW.2.2.2.1, fun e => ft (hf10.symm.trans e), fun e => ft (hf12.symm.trans e), hW.2.2.2.2.2.2.1, hW.2.2.2.2.2.2.2⟩⟩
     refine StepsI.cons rfl ?_ ?_
     ·rintro L zA va ⟨zB, zS, E, g, c, R, ga, ca, rfl, rfl, hF, hW⟩ hL hm K hK
      have hb2 : zB 2 = false := by simpa using hL
      clear hL hm
      rw [hb2] at hW
      simp only [pE]
      have hf8 : zB 8 = false := by cases e : zB 8 with | false => rfl | true => exact ft ((hW.2.2.1 e).1)
      have hf9 : zB 9 = false := by cases e : zB 9 with | false => rfl | true => exact ft (hf8.symm.trans (hW.2.2.2.1 e))
      have hf10 : zB 10 = false := by cases e : zB 10 with | false => rfl | true => exact ft (hf9.symm.trans (hW.2.2.2.2.1 e).2)
      have hf12 : zB 12 = false := by cases e : zB 12 with | false => rfl | true => exact ft (hf10.symm.trans (hW.2.2.2.2.2.1 e))
      have hpre := hW.1.pre hf10
      have HWz := mkHid hW
      clear hW
      go_simp
      have hW := HWz.out
      clear HWz
      exact hK.out _ _ ⟨fun zj => if zj = 2 then true else zB zj, fun zd => if zd = 58 then .slice (some ⟨va.heap.size, 0, none⟩) 0 0 else zS zd, va.heap.size, g, c, R, ga, ca, rfl, by kernel_rfl, ⟨hF.1, hF.2.1, fun _ => rfl, hF.2.2.2.1, hF.2.2.2.2.1, hF.2.2.2.2.2.1, hF.2.2.2.2.2.2.1, hF.2.2.2.2.2.2.2.1, hF.2.2.2.2.2.2.2.2.1, hF.2.2.2.2.2.2.2.2.2.1, hF.2.2.2.2.2.2.2.2.2.2.1, hF.2.2.2.2.2.2.2.2.2.2.2⟩, ⟨hW.1.more hf8 hf9 hf10 hf12 (bl_alloc (Below.refl _ _) _), hW.2.1, fun e => ft (hf8.symm.trans e), fun e => ft (hf9.symm.trans e), fun e => ft (hf10.symm.trans e), fun e => ft (hf12.symm.trans e), hW.2.2.2.2.2.2.1, fun _ _ => fresh_y hpre.size (by have := heap_alloc_new va (.cells #[] 49); simpa using this)⟩⟩
     refine StepsI.cons rfl ?_ ?_
     ·rintro L zA va ⟨zB, zS, E, g, c, R, ga, ca, rfl, rfl, hF, hW⟩ hL hm K hK
      have hb3 : zB 3 = false := by simpa using hL
      clear hL hm
      simp only [pE]
      have HWz := mkHid hW
      clear hW
      go_simp
      have hW := HWz.out
      clear HWz
      exact hK.out _ _ ⟨fun zj => if zj = 3 then true else zB zj, fun zd => if zd = 59 then .pointer (some ⟨X1, 0, none⟩) else zS zd, E, g, c, R, ga, ca, rfl, by kernel_rfl, ⟨hF.1, hF.2.1, hF.2.2.1, fun _ => rfl, hF.2.2.2.2.1, hF.2.2.2.2.2.1, hF.2.2.2.2.2.2.1, hF.2.2.2.2.2.2.2.1, hF.2.2.2.2.2.2.2.2.1, hF.2.2.2.2.2.2.2.2.2.1, hF.2.2.2.2.2.2.2.2.2.2.1, hF.2.2.2.2.2.2.2.2.2.2.2⟩, hW⟩
     refine StepsI.cons rfl ?_ ?_
     ·rintro L zA va ⟨zB, zS, E, g, c, R, ga, ca, rfl, rfl, hF, hW⟩ hL hm K hK
      have hb4 : zB 4 = false := by simpa using hL
      have hb3 : zB 3 = true := mt 3 hm (by kernel_rfl)
      have e3 : zS 59 = .pointer (some ⟨X1, 0, none⟩) := hF.2.2.2.1 hb3
      clear hL hm
      rw [hb4] at hW
      simp only [pE]
      simp only [e3]
      have hf6 : zB 6 = false := by cases e : zB 6 with | false => rfl | true => exact ft ((hW.2.1 e))
      have hf7 : zB 7 = false := by cases e : zB 7 with | false => rfl | true => exact ft (hf6.symm.trans (hW.2.2.2.2.2.2.1 e))
      have hf8 : zB 8 = false := by cases e : zB 8 with | false => rfl | true => exact ft (hf7.symm.trans (hW.2.2.1 e).2)
      have hf9 : zB 9 = false := by cases e : zB 9 with | false => rfl | true => exact ft (hf8.symm.trans (hW.2.2.2.1 e))
      have hf10 : zB 10 = false := by cases e : zB 10 with | false => rfl | true => exact ft (hf9.symm.trans (hW.2.2.2.2.1 e).2)
      have hf12 : zB 12 = false := by cases e : zB 12 with | false => rfl | true => exact ft (hf10.symm.trans (hW.2.2.2.2.2.1 e))
      have hpre := hW.1.pre hf10
      have q0 := HX14.out va hpre
      have HWz := mkHid hW
      clear hW
      go_simp
      have hW := HWz.out
      clear HWz
      exact hK.out _ _ ⟨fun zj => if zj = 3 then true else if zj = 4 then true else zB zj, fun zd => if zd = 60 then .slice (some ⟨bb, ob, none⟩) S.B.length A0.c0 else if zd = 59 then .pointer (some ⟨X1, 0, none⟩) else zS zd, E, g, c, R, ga, ca, by simp [hb3], by kernel_rfl, ⟨hF.1, hF.2.1, hF.2.2.1, fun _ => rfl, fun _ => rfl, hF.2.2.2.2.2.1, hF.2.2.2.2.2.2.1, hF.2.2.2.2.2.2.2.1, hF.2.2.2.2.2.2.2.2.1, hF.2.2.2.2.2.2.2.2.2.1, hF.2.2.2.2.2.2.2.2.2.2.1, hF.2.2.2.2.2.2.2.2.2.2.2⟩, ⟨hW.1, fun e => ft (hf6.symm.trans e), fun e => ft (hf8.symm.trans e), fun e => ft (hf9.symm.trans e), fun e => ft (hf10.symm.trans e), fun e => ft (hf12.symm.trans e), fun e => ft (hf7.symm.trans e), hW.2.2.2.2.2.2.2⟩⟩
     refine StepsI.cons rfl ?_ ?_
     ·rintro L zA va ⟨zB, zS, E, g, c, R, ga, ca, rfl, rfl, hF, hW⟩ hL hm K hK
      have hb5 : zB 5 = false := by simpa using hL
      clear hL hm
      simp only [pE]
      have HWz := mkHid hW
      clear hW
      go_simp
      have hW := HWz.out
      clear HWz
      exact hK.out _ _ ⟨fun zj => if zj = 5 then true else zB zj, fun zd => if zd = 61 then .int .i64 (i : Int) else zS zd, E, g, c, R, ga, ca, rfl, by kernel_rfl, ⟨hF.1, hF.2.1, hF.2.2.1, hF.2.2.2.1, hF.2.2.2.2.1, fun _ => rfl, hF.2.2.2.2.2.2.1, hF.2.2.2.2.2.2.2.1, hF.2.2.2.2.2.2.2.2.1, hF.2.2.2.2.2.2.2.2.2.1, hF.2.2.2.2.2.2.2.2.2.2.1, hF.2.2.2.2.2.2.2.2.2.2.2⟩, hW⟩
     refine StepsI.cons rfl ?_ ?_
     ·rintro L zA va ⟨zB, zS, E, g, c, R, ga, ca, rfl, rfl, hF, hW⟩ hL hm K hK
      have hb6 : zB 6 = false := by simpa using hL
      have hb4 : zB 4 = true := mt 4 hm (by kernel_rfl)
      have hb5 : zB 5 = true := mt 5 hm (by kernel_rfl)
      have e4 : zS 60 = .slice (some ⟨bb, ob, none⟩) S.B.length A0.c0 := hF.2.2.2.2.1 hb4
      have e5 : zS 61 = .int .i64 (i : Int) := hF.2.2.2.2.2.1 hb5
      clear hL hm
      rw [hb6] at hW
      rw [hb4] at hW
      simp only [pE]
      simp only [e4, e5]
      have hf7 : zB 7 = false := by cases e : zB 7 with | false => rfl | true => exact ft ((hW.2.2.2.2.2.2.1 e))
      have hf8 : zB 8 = false := by cases e : zB 8 with | false => rfl | true => exact ft (hf7.symm.trans (hW.2.2.1 e).2)
      have hf9 : zB 9 = false := by cases e : zB 9 with | false => rfl | true => exact ft (hf8.symm.trans (hW.2.2.2.1 e))
      have hf10 : zB 10 = false := by cases e : zB 10 with | false => rfl | true => exact ft (hf9.symm.trans (hW.2.2.2.2.1 e).2)
      have hf12 : zB 12 = false := by cases e : zB 12 with | false => rfl | true => exact ft (hf10.symm.trans (hW.2.2.2.2.2.1 e))
      have HWz := mkHid hW
      clear hW
      go_simp
      have hW := HWz.out
      clear HWz
      exact hK.out _ _ ⟨fun zj => if zj = 5 then true else if zj = 4 then true else if zj = 6 then true else zB zj, fun zd => if zd = 62 then .pointer (some ⟨bb, ob + i, none⟩) else if zd = 61 then .int .i64 (i : Int) else if zd = 60 then .slice (some ⟨bb, ob, none⟩) S.B.length A0.c0 else zS zd, E, g, c, R, ga, ca, by simp [hb4, hb5], by kernel_rfl, ⟨hF.1, hF.2.1, hF.2.2.1, hF.2.2.2.1, fun _ => rfl, fun _ => rfl, fun _ => rfl, hF.2.2.2.2.2.2.2.1, hF.2.2.2.2.2.2.2.2.1, hF.2.2.2.2.2.2.2.2.2.1, hF.2.2.2.2.2.2.2.2.2.2.1, hF.2.2.2.2.2.2.2.2.2.2.2⟩, ⟨hW.1, fun _ => rfl, fun e => ft (hf8.symm.trans e), fun e => ft (hf9.symm.trans e), fun e => ft (hf10.symm.trans e), fun e => ft (hf12.symm.trans e), fun e => ft (hf7.symm.trans e), hW.2.2.2.2.2.2.2⟩⟩
     refine StepsI.cons rfl ?_ ?_
     ·rintro L zA va ⟨zB, zS, E, g, c, R, ga, ca, rfl, rfl, hF, hW⟩ hL hm K hK
      have hb7 : zB 7 = false := by simpa using hL
      have hb6 : zB 6 = true := mt 6 hm (by kernel_rfl)
      have e6 : zS 62 = .pointer (some ⟨bb, ob + i, none⟩) := hF.2.2.2.2.2.2.1 hb6
      clear hL hm
      rw [hb7] at hW
      rw [hb6] at hW
      simp only [pE]
      simp only [e6]
      have hf8 : zB 8 = false := by cases e : zB 8 with | false => rfl | true => exact ft ((hW.2.2.1 e).2)
      have hf9 : zB 9 = false := by cases e : zB 9 with | false => rfl | true => exact ft (hf8.symm.trans (hW.2.2.2.1 e))
      have hf10 : zB 10 = false := by cases e : zB 10 with | false => rfl | true => exact ft (hf9.symm.trans (hW.2.2.2.2.1 e).2)
      have hf12 : zB 12 = false := by cases e : zB 12 with | false => rfl | true => exact ft (hf10.symm.trans (hW.2.2.2.2.2.1 e))
      have hpre := hW.1.pre hf10
      have q0 := HR14.out va hpre
      have HWz := mkHid hW
      clear hW
      go_simp
      have hW := HWz.out
      clear HWz
      exact hK.out _ _ ⟨fun zj => if zj = 6 then true else if zj = 7 then true else zB zj, fun zd => if zd = 63 then .slice (some ⟨bl, ol, none⟩) l.length cl else if zd = 62 then .pointer (some ⟨bb, ob + i, none⟩) else zS zd, E, g, c, R, ga, ca, by simp [hb6], by kernel_rfl, ⟨hF.1, hF.2.1, hF.2.2.1, hF.2.2.2.1, hF.2.2.2.2.1, hF.2.2.2.2.2.1, fun _ => rfl, fun _ => rfl, hF.2.2.2.2.2.2.2.2.1, hF.2.2.2.2.2.2.2.2.2.1, hF.2.2.2.2.2.2.2.2.2.2.1, hF.2.2.2.2.2.2.2.2.2.2.2⟩, ⟨hW.1, hW.2.1, fun e => ft (hf8.symm.trans e), fun e => ft (hf9.symm.trans e), fun e => ft (hf10.symm.trans e), fun e => ft (hf12.symm.trans e), fun _ => rfl, hW.2.2.2.2.2.2.2⟩⟩
     refine StepsI.cons rfl ?_ ?_
     ·rintro L zA va ⟨zB, zS, E, g, c, R, ga, ca, rfl, rfl, hF, hW⟩ hL hm K hK
      have hb8 : zB 8 = false := by simpa using hL
      have hb2 : zB 2 = true := mt 2 hm (by kernel_rfl)
      have hb7 : zB 7 = true := mt 7 hm (by kernel_rfl)
      have e2 : zS 58 = .slice (some ⟨E, 0, none⟩) 0 0 := hF.2.2.1 hb2
      have e7 : zS 63 = .slice (some ⟨bl, ol, none⟩) l.length cl := hF.2.2.2.2.2.2.2.1 hb7
      clear hL hm
      rw [hb8] at hW
      rw [hb2] at hW
      rw [hb7] at hW
      simp only [pE]
      simp only [e2, e7]
      have hf9 : zB 9 = false := by cases e : zB 9 with | false => rfl | true => exact ft ((hW.2.2.2.1 e))
      have hf10 : zB 10 = false := by cases e : zB 10 with | false => rfl | true => exact ft (hf9.symm.trans (hW.2.2.2.2.1 e).2)
      have hf12 : zB 12 = false := by cases e : zB 12 with | false => rfl | true => exact ft (hf10.symm.trans (hW.2.2.2.2.2.1 e))
      have hpre := hW.1.pre hf10
      have hfr := hW.2.2.2.2.2.2.2 rfl rfl
      rw [if_pos (by rfl)]
      refine wp_append_lies _ _ _ 113 rfl wr.heap.size 49 ty (.agg #[.int .i64 0, .int .i64 0]) 2 16 Tryz.underlying113 HIY.out.1 HIY.out.2.1 HIY.out.2.2.1 HIY.out.2.2.2 rfl (by decide) (.slice (some ⟨E, 0, none⟩) 0 0) 0 [] rfl hfr ⟨bl, ol, none⟩ l.length cl (eY.flat l) rfl (eY.flat_len l) (news_at (HL14.out va hpre)) (fun u hu => flat_one hu) HLP.out (by have := HLL.out; unfold maxLen; omega) (by have := HLL.out; omega) hpre.size va.heap.size rfl ?_
      intro g9 c9 va2 hown hgrow hat9 hlt9
      have hbr : Below wr.heap.size wr va2 := hpre.grown hgrow hpre.size (fun q hq => (hfr.lt hq).1)
      have hown9 : Own eY 49 va2 wr.heap.size (.slice (some ⟨g9, 0, none⟩) l.length c9) l := by have h := hown; simp only [Nat.zero_add, List.nil_append] at h; exact h
      simp only [Nat.zero_add]
      exact hK.out _ _ ⟨fun zj => if zj = 7 then true else if zj = 2 then true else if zj = 8 then true else zB zj, fun zd => if zd = 64 then .slice (some ⟨g9, 0, none⟩) l.length c9 else if zd = 63 then .slice (some ⟨bl, ol, none⟩) l.length cl else if zd = 58 then .slice (some ⟨E, 0, none⟩) 0 0 else zS zd, E, (some ⟨g9, 0, none⟩), c9, R, ga, ca, by simp [hb2, hb7], by kernel_rfl, ⟨hF.1, hF.2.1, fun _ => rfl, hF.2.2.2.1, hF.2.2.2.2.1, hF.2.2.2.2.2.1, hF.2.2.2.2.2.2.1, fun _ => rfl, fun _ => rfl, hF.2.2.2.2.2.2.2.2.2.1, hF.2.2.2.2.2.2.2.2.2.2.1, hF.2.2.2.2.2.2.2.2.2.2.2⟩, ⟨hW.1.elemr hf9 hf10 hf12 hbr (hown9), hW.2.1, fun _ => ⟨rfl, rfl⟩, fun e => ft (hf9.symm.trans e), fun e => ft (hf10.symm.trans e), fun e => ft (hf12.symm.trans e), fun _ => hW.2.2.2.2.2.2.1 (by trivial), fun _ e => tf e⟩⟩
     refine StepsI.cons rfl ?_ ?_
     ·rintro L zA va ⟨zB, zS, E, g, c, R, ga, ca, rfl, rfl, hF, hW⟩ hL hm K hK
      have hb9 : zB 9 = false := by simpa using hL
      have hb8 : zB 8 = true := mt 8 hm (by kernel_rfl)
      have e8 : zS 64 = .slice g l.length c := hF.2.2.2.2.2.2.2.2.1 hb8
      clear hL hm
      rw [hb9] at hW
      rw [hb8] at hW
      simp only [pE]
      simp only [e8]
      have hf10 : zB 10 = false := by cases e : zB 10 with | false => rfl | true => exact ft ((hW.2.2.2.2.1 e).2)
      have hf12 : zB 12 = false := by cases e : zB 12 with | false => rfl | true => exact ft (hf10.symm.trans (hW.2.2.2.2.2.1 e))
      have hpre := hW.1.pre hf10
      have HWz := mkHid hW
      clear hW
      go_simp
      have hW := HWz.out
      clear HWz
      exact hK.out _ _ ⟨fun zj => if zj = 8 then true else if zj = 9 then true else zB zj, fun zd => if zd = 65 then .slice (some ⟨va.heap.size, 0, none⟩) 1 1 else if zd = 64 then .slice g l.length c else zS zd, E, g, c, va.heap.size, ga, ca, by simp [hb8], by kernel_rfl, ⟨hF.1, hF.2.1, hF.2.2.1, hF.2.2.2.1, hF.2.2.2.2.1, hF.2.2.2.2.2.1, hF.2.2.2.2.2.2.1, hF.2.2.2.2.2.2.2.1, fun _ => rfl, fun _ => rfl, hF.2.2.2.2.2.2.2.2.2.2.1, hF.2.2.2.2.2.2.2.2.2.2.2⟩, ⟨hW.1.lay hf10 hf12 (fun _ _ h hb => Own.below h hb) rfl, hW.2.1, hW.2.2.1, fun _ => rfl, fun e => ft (hf10.symm.trans e), fun e => ft (hf12.symm.trans e), hW.2.2.2.2.2.2.1, fun _ e => tf e⟩⟩
     refine StepsI.cons rfl ?_ ?_
     ·rintro L zA va ⟨zB, zS, E, g, c, R, ga, ca, rfl, rfl, hF, hW⟩ hL hm K hK
      have hb10 : zB 10 = false := by simpa using hL
      have hb1 : zB 1 = true := mt 1 hm (by kernel_rfl)
      have hb9 : zB 9 = true := mt 9 hm (by kernel_rfl)
      have e1 : zS 57 = .slice A.a0 Z.B.length A.c0 := hF.2.1 hb1
      have e9 : zS 65 = .slice (some ⟨R, 0, none⟩) 1 1 := hF.2.2.2.2.2.2.2.2.2.1 hb9
      clear hL hm
      rw [hb10] at hW
      rw [hb1] at hW
      rw [hb9] at hW
      simp only [pE]
      simp only [e1, e9]
      have hf12 : zB 12 = false := by cases e : zB 12 with | false => rfl | true => exact ft ((hW.2.2.2.2.2.1 e))
      have hpre := hW.1.pre rfl
      rw [if_pos (by rfl)]
      refine wp_append_lies _ _ _ 32 rfl base 113 tb (.slice none 0 0) 1 24 Tryz.underlying32 HIB.out.1 HIB.out.2.1 HIB.out.2.2.1 HIB.out.2.2.2 rfl (by decide) (.slice A.a0 Z.B.length A.c0) Z.B.length (vs) rfl (owns_below HVS.out hpre) ⟨R, 0, none⟩ 1 1 [.slice g l.length c] rfl rfl (hW.1.tmp rfl rfl) (fun u hu => by simp at hu; subst hu; rfl) (by decide) (by have := HNB.out; unfold maxLen; omega) (by have := HNB.out; omega) (Nat.le_trans hbs hpre.size) va.heap.size rfl ?_
      intro ga9 ca9 va2 hown hgrow hat9 hlt9
      exact hK.out _ _ ⟨fun zj => if zj = 9 then true else if zj = 1 then true else if zj = 10 then true else zB zj, fun zd => if zd = 66 then .slice (some ⟨ga9, 0, none⟩) (Z.B.length + 1) ca9 else if zd = 65 then .slice (some ⟨R, 0, none⟩) 1 1 else if zd = 57 then .slice A.a0 Z.B.length A.c0 else zS zd, E, g, c, R, ga9, ca9, by simp [hb1, hb9], by kernel_rfl, ⟨hF.1, fun _ => rfl, hF.2.2.1, hF.2.2.2.1, hF.2.2.2.2.1, hF.2.2.2.2.2.1, hF.2.2.2.2.2.2.1, hF.2.2.2.2.2.2.2.1, hF.2.2.2.2.2.2.2.2.1, fun _ => rfl, fun _ => rfl, hF.2.2.2.2.2.2.2.2.2.2.2⟩, ⟨hW.1.app ((hW.2.2.2.1 rfl)) hf12 hgrow hown, hW.2.1, hW.2.2.1, hW.2.2.2.1, fun _ => ⟨rfl, rfl⟩, fun e => ft (hf12.symm.trans e), hW.2.2.2.2.2.2.1, fun _ e8 => ft (e8.symm.trans (hW.2.2.2.1 rfl))⟩⟩
     refine StepsI.cons rfl ?_ ?_
     ·rintro L zA va ⟨zB, zS, E, g, c, R, ga, ca, rfl, rfl, hF, hW⟩ hL hm K hK
      have hb11 : zB 11 = false := by simpa using hL
      clear hL hm
      simp only [pE]
      have HWz := mkHid hW
      clear hW
      go_simp
      have hW := HWz.out
      clear HWz
      exact hK.out _ _ ⟨fun zj => if zj = 11 then true else zB zj, fun zd => if zd = 67 then .pointer (some ⟨Bx, 0, none⟩) else zS zd, E, g, c, R, ga, ca, rfl, by kernel_rfl, ⟨hF.1, hF.2.1, hF.2.2.1, hF.2.2.2.1, hF.2.2.2.2.1, hF.2.2.2.2.2.1, hF.2.2.2.2.2.2.1, hF.2.2.2.2.2.2.2.1, hF.2.2.2.2.2.2.2.2.1, hF.2.2.2.2.2.2.2.2.2.1, hF.2.2.2.2.2.2.2.2.2.2.1, fun _ => rfl⟩, hW⟩
     refine StepsI.cons rfl ?_ ?_
     ·rintro L zA va ⟨zB, zS, E, g, c, R, ga, ca, rfl, rfl, hF, hW⟩ hL hm K hK
      have hb12 : zB 12 = false := by simpa using hL
      have hb10 : zB 10 = true := mt 10 hm (by kernel_rfl)
      have hb11 : zB 11 = true := mt 11 hm (by kernel_rfl)
      have e10 : zS 66 = .slice (some ⟨ga, 0, none⟩) (Z.B.length + 1) ca := hF.2.2.2.2.2.2.2.2.2.2.1 hb10
      have e11 : zS 67 = .pointer (some ⟨Bx, 0, none⟩) := hF.2.2.2.2.2.2.2.2.2.2.2 hb11
      clear hL hm
      rw [hb12] at hW
      rw [hb10] at hW
      simp only [pE]
      simp only [e10, e11]
      have hbx := (hW.1.aft rfl rfl).box HG.out.box (fun v hv q e hq => by subst hq; obtain ⟨c7, h7⟩ := owns_block (owns_below HVS.out hv) e; have h8 := (hv.block _ (heap_lt HG.out.box)).trans HG.out.box; rw [h7] at h8; simp at h8)
      have q0 := heap_cell hbx 0
      have f0 := heap_free hbx 0
      simp only [sgC] at q0
      simp at q0
      have HWz := mkHid hW
      clear hW
      go_simp
      have hW := HWz.out
      clear HWz
      exact hK.out _ _ ⟨fun zj => if zj = 11 then true else if zj = 10 then true else if zj = 12 then true else zB zj, fun zd => if zd = 67 then .pointer (some ⟨Bx, 0, none⟩) else if zd = 66 then .slice (some ⟨ga, 0, none⟩) (Z.B.length + 1) ca else zS zd, E, g, c, R, ga, ca, by simp [hb10, hb11], by kernel_rfl, ⟨hF.1, hF.2.1, hF.2.2.1, hF.2.2.2.1, hF.2.2.2.2.1, hF.2.2.2.2.2.1, hF.2.2.2.2.2.2.1, hF.2.2.2.2.2.2.2.1, hF.2.2.2.2.2.2.2.2.1, hF.2.2.2.2.2.2.2.2.2.1, fun _ => rfl, fun _ => rfl⟩, ⟨hW.1.store, hW.2.1, hW.2.2.1, hW.2.2.2.1, hW.2.2.2.2.1, fun _ => rfl, hW.2.2.2.2.2.2.1, fun _ e8 => ft (e8.symm.trans (hW.2.2.2.1 (hW.2.2.2.2.1 rfl).2))⟩⟩
     exact StepsI.nil (by kernel_rfl)
    ·rintro L zA va ⟨zB, zS, E, g, c, R, ga, ca, rfl, rfl, hF, hW⟩ hr
     have hu := all_up (by kernel_rfl) (N := 13) (by kernel_rfl) hr
     have hb0 : zB 0 = true := by simpa using hu 0 (by decide)
     have hb1 : zB 1 = true := by simpa using hu 1 (by decide)
     have hb2 : zB 2 = true := by simpa using hu 2 (by decide)
     have hb3 : zB 3 = true := by simpa using hu 3 (by decide)
     have hb4 : zB 4 = true := by simpa using hu 4 (by decide)
     have hb5 : zB 5 = true := by simpa using hu 5 (by decide)
     have hb6 : zB 6 = true := by simpa using hu 6 (by decide)
     have hb7 : zB 7 = true := by simpa using hu 7 (by decide)
     have hb8 : zB 8 = true := by simpa using hu 8 (by decide)
     have hb9 : zB 9 = true := by simpa using hu 9 (by decide)
     have hb10 : zB 10 = true := by simpa using hu 10 (by decide)
     have hb11 : zB 11 = true := by simpa using hu 11 (by decide)
     have hb12 : zB 12 = true := by simpa using hu 12 (by decide)
     have e0 : zS 56 = .pointer (some ⟨Bx, 0, none⟩) := hF.1 hb0
     have e1 : zS 57 = .slice A.a0 Z.B.length A.c0 := hF.2.1 hb1
     have e2 : zS 58 = .slice (some ⟨E, 0, none⟩) 0 0 := hF.2.2.1 hb2
     have e3 : zS 59 = .pointer (some ⟨X1, 0, none⟩) := hF.2.2.2.1 hb3
     have e4 : zS 60 = .slice (some ⟨bb, ob, none⟩) S.B.length A0.c0 := hF.2.2.2.2.1 hb4
     have e5 : zS 61 = .int .i64 (i : Int) := hF.2.2.2.2.2.1 hb5
     have e6 : zS 62 = .pointer (some ⟨bb, ob + i, none⟩) := hF.2.2.2.2.2.2.1 hb6
     have e7 : zS 63 = .slice (some ⟨bl, ol, none⟩) l.length cl := hF.2.2.2.2.2.2.2.1 hb7
     have e8 : zS 64 = .slice g l.length c := hF.2.2.2.2.2.2.2.2.1 hb8
     have e9 : zS 65 = .slice (some ⟨R, 0, none⟩) 1 1 := hF.2.2.2.2.2.2.2.2.2.1 hb9
     have e10 : zS 66 = .slice (some ⟨ga, 0, none⟩) (Z.B.length + 1) ca := hF.2.2.2.2.2.2.2.2.2.2.1 hb10
     have e11 : zS 67 = .pointer (some ⟨Bx, 0, none⟩) := hF.2.2.2.2.2.2.2.2.2.2.2 hb11
     rw [hb1] at hW
     rw [hb2] at hW
     rw [hb4] at hW
     rw [hb6] at hW
     rw [hb7] at hW
     rw [hb8] at hW
     rw [hb9] at hW
     rw [hb10] at hW
     rw [hb12] at hW
     clear hu hr hF
     simp only [pE]
     simp only [e0, e1, e2, e3, e4, e5, e6, e7, e8, e9, e10, e11]
     clear e0 e1 e2 e3 e4 e5 e6 e7 e8 e9 e10 e11
     clear hb0 hb1 hb2 hb3 hb4 hb5 hb6 hb7 hb8 hb9 hb10 hb11 hb12
     clear zB zS
     obtain ⟨hg9, hk9⟩ := HG.out.stepB hbs HVS.out HIN.out (hW.1.fin rfl)
     have HT9 := mkHid (HTI.out.grow HTC.out hg9 hk9)
     clear hW hg9 hk9 HG HVS HIN HX14 HR14 HL14 hbs HTI
     go_wp2_with fail
     refine (sVnone_any _).mono ?_
     rintro e wx ⟨rfl, hb⟩
     have HT10 := mkHid (HT9.out.below hb)
     have hC := HT10.out.v4
     obtain ⟨c0, c1, c2⟩ := vC_cells hC
     have f0 := heap_free hC 0
     have f1 := heap_free hC 1
     have f2 := heap_free hC 2
     have HTF := mkHid (HT10.out.setV (v' := noneV) HTC.out (Only.trans (Only.trans (Only.set wx V4 0 (.int .i64 1)) (Only.set _ V4 1 (.int .i64 0))) (Only.set _ V4 2 (.bool true))) (by rw [heap_set_self (heap_set_self (heap_set_self hC _ _) _ _) _ _]; rfl))
     clear hb hC HT9 HT10
     go_wp2
     go_roundg (S.B.length - (i + 1))
     case measure => omega
     case rel => exact ⟨i + 1, true, _, _, noneV, by omega, by go_num, rfl, Nat.le_refl _, HNX.out, HTF.out, HLZ.out⟩
   ·obtain ⟨j, hj⟩ : ∃ j, i = j + 1 := ⟨i - 1, by omega⟩
    have hp : (0 : Int) < (i : Int) := by omega
    have hwm : IntKind.i64.wrap ((i : Int) - 1) = (j : Int) := by rw [IntWalk.i64_in _ (by have := HSM.out.b; omega)]; omega
    have hwm2 : wrap64 ((i : Int) - 1) = (j : Int) := by have := HSM.out.b; unfold wrap64; omega
    obtain ⟨x, hx⟩ : ∃ x, S.V[j]? = some x := ⟨_, List.getElem?_eq_getElem (by have := HVL.out; omega)⟩
    obtain ⟨m, hm⟩ : ∃ x, S.M[j]? = some x := ⟨_, List.getElem?_eq_getElem (by have := HML.out; omega)⟩
    have HX := mkHid hx
    have HM := mkHid hm
    have HJ := mkHid hj
    obtain ⟨bv, ov, hav, hlbv, hqv⟩ := HLS.out.v.cons (by have := HVL.out; omega)
    obtain ⟨bm, om, ham, hlbm, hqm⟩ := HLS.out.m.cons (by have := HML.out; omega)
    obtain ⟨dv0, dv1, dv2⟩ := get_v hqv hx
    have dm := get_b hqm hm
    have hO4 : ∀ z, Only V4 wr z → Below w.heap.size w z := fun z h => Only.below HTI.out.bel h HTI.out.bel.size HTC.out.v4.1
    have hx1 : ∀ z, Only V4 wr z → z.cell? ⟨X1, 1, none⟩ = some (.slice (some ⟨bv, ov, none⟩) S.V.length A0.c1) := fun z h => by
     have h1 := heap_cell ((h.block X1 (heap_lt HTI.out.x1) (fun e => HTC.out.x1.2.2.2 (Option.some.inj e))).trans HTI.out.x1) 1
     simpa [sgC, hav] using h1
    have hvr : ∀ z, Only V4 wr z → z.cell? ⟨bv, ov + j * 3, none⟩ = some (.int .i64 x.1) ∧ z.cell? ⟨bv, ov + j * 3 + 1, none⟩ = some (.int .i64 x.2.1) ∧ z.cell? ⟨bv, ov + j * 3 + 2, none⟩ = some (.bool x.2.2) := fun z h => by
     have hb := hO4 z h
     exact ⟨(hb.cell (p := ⟨bv, _, none⟩) hlbv).trans dv0, (hb.cell (p := ⟨bv, _, none⟩) hlbv).trans dv1, (hb.cell (p := ⟨bv, _, none⟩) hlbv).trans dv2⟩
    have HM1 : Hid (∀ z, Below w.heap.size w z → z.cell? ⟨bm, om + j, none⟩ = some (.bool m)) := mkHid fun z h => (h.cell (p := ⟨bm, _, none⟩) hlbm).trans dm
    have HAM := mkHid ham
    have hV0 := HTI.out.v4
    obtain ⟨vj, hvj⟩ : ∃ z, joinV v.1 v.2.1 v.2.2 x.1 x.2.1 x.2.2 = z := ⟨_, rfl⟩
    have HVJ := mkHid hvj
    have j0 : (0 : Int) ≤ (j : Int) := by omega
    have j1 : (j : Int) < (S.V.length : Int) := by have := HVL.out; omega
    have j2 : (j : Int) < (S.M.length : Int) := by have := HML.out; omega
    clear hx hm hav ham hqv hqm dv0 dv1 dv2 dm hO4 hvj hlbv hlbm hj hrc
    have HP := mkHid hz
    go_wp2_with fail
    clear e0 hz hp
    refine wp_region_inv2 (fun zA0 L zA va => ∃ (zB : Nat → Bool) (zS : Nat → Value), L = #[zB 0, zB 1, zB 2, zB 3, zB 4, zB 5, zB 6, zB 7, zB 8] ∧ zA = puts zA0 [(18, zS 18), (19, zS 19), (20, zS 20), (21, zS 21), (22, zS 22), (23, zS 23), (24, zS 24), (25, zS 25)] ∧ FF 18 [.agg #[.int .i64 v.1, .int .i64 v.2.1, .bool v.2.2], .pointer (some ⟨X1, 1, none⟩), .slice (some ⟨bv, ov, none⟩) S.V.length A0.c1, .int .i64 (i : Int), .int .i64 (j : Int), .pointer (some ⟨bv, ov + j * 3, none⟩), .agg #[.int .i64 x.1, .int .i64 x.2.1, .bool x.2.2], .agg #[.int .i64 vj.1, .int .i64 vj.2.1, .bool vj.2.2]] zB zS ∧ (Only V4 wr va) ∧ (va.heap[V4]? = some (.cells (vC (sel (zB 8) vj v)) 55 (0, 0))) ∧ ((zB 8) = true → (zB 7) = true) ∧ ((zB 7) = true → (zB 0) = true ∧ (zB 6) = true)) (by kernel_rfl) ?_ ?_ ?_
    ·exact ⟨fun _ => false, fun zd => [u18, u19, u20, u21, u22, u23, u24, u25].getD (zd - 18) undef, rfl, by kernel_rfl, ff0, ⟨(Only.of (Below.refl _ _).drew), hV0, fun e => ft e, fun e => ft e⟩⟩
    ·refine StepsI.cons rfl ?_ ?_
     ·rintro L zA va ⟨zB, zS, rfl, rfl, hF, hW⟩ hL hm K hK
      have hb0 : zB 0 = false := by simpa using hL
      clear hL hm
      rw [hb0] at hW
      simp only [pE]
      have h7 : zB 7 = false := by cases e : zB 7 with | false => rfl | true => exact ft (hW.2.2.2 e).1
      have h8 : zB 8 = false := by cases e : zB 8 with | false => rfl | true => exact ft (h7.symm.trans (hW.2.2.1 e))
      have hC := hW.2.1
      rw [h8] at hC
      obtain ⟨c0, c1, c2⟩ := vC_cells hC
      simp only [sel] at c0 c1 c2
      clear hC
      have HWz := mkHid hW
      clear hW
      go_simp
      have hW := HWz.out
      clear HWz
      exact hK.out _ _ ⟨ups zB [0], upv _ _ zS [0], rfl, by kernel_rfl, rk hF rfl, ⟨hW.1, hW.2.1, hW.2.2.1, fun e => ft (h7.symm.trans e)⟩⟩
     refine StepsI.cons rfl ?_ ?_
     ·rintro L zA va ⟨zB, zS, rfl, rfl, hF, hW⟩ hL hm K hK
      have hb1 : zB 1 = false := by simpa using hL
      clear hL hm
      simp only [pE]
      have HWz := mkHid hW
      clear hW
      go_simp
      have hW := HWz.out
      clear HWz
      exact hK.out _ _ ⟨ups zB [1], upv _ _ zS [1], rfl, by kernel_rfl, rk hF rfl, hW⟩
     refine StepsI.cons rfl ?_ ?_
     ·rintro L zA va ⟨zB, zS, rfl, rfl, hF, hW⟩ hL hm K hK
      have hb2 : zB 2 = false := by simpa using hL
      have hb1 : zB 1 = true := mt 1 hm (by kernel_rfl)
      have e1 : zS 19 = .pointer (some ⟨X1, 1, none⟩) := hF 1 _ rfl hb1
      clear hL hm
      simp only [pE]
      simp only [e1]
      have q1 := hx1 va hW.1
      have HWz := mkHid hW
      clear hW
      go_simp
      have hW := HWz.out
      clear HWz
      exact hK.out _ _ ⟨ups zB [2], upv _ _ zS [2, 1], rfl, by kernel_rfl, rk hF rfl, hW⟩
     refine StepsI.cons rfl ?_ ?_
     ·rintro L zA va ⟨zB, zS, rfl, rfl, hF, hW⟩ hL hm K hK
      have hb3 : zB 3 = false := by simpa using hL
      clear hL hm
      simp only [pE]
      have HWz := mkHid hW
      clear hW
      go_simp
      have hW := HWz.out
      clear HWz
      exact hK.out _ _ ⟨ups zB [3], upv _ _ zS [3], rfl, by kernel_rfl, rk hF rfl, hW⟩
     refine StepsI.cons rfl ?_ ?_
     ·rintro L zA va ⟨zB, zS, rfl, rfl, hF, hW⟩ hL hm K hK
      have hb4 : zB 4 = false := by simpa using hL
      have hb3 : zB 3 = true := mt 3 hm (by kernel_rfl)
      have e3 : zS 21 = .int .i64 (i : Int) := hF 3 _ rfl hb3
      clear hL hm
      simp only [pE]
      simp only [e3]
      have HWz := mkHid hW
      clear hW
      go_simp
      have hW := HWz.out
      clear HWz
      exact hK.out _ _ ⟨ups zB [4], upv _ _ zS [4, 3], rfl, by kernel_rfl, rk hF rfl, hW⟩
     refine StepsI.cons rfl ?_ ?_
     ·rintro L zA va ⟨zB, zS, rfl, rfl, hF, hW⟩ hL hm K hK
      have hb5 : zB 5 = false := by simpa using hL
      have hb2 : zB 2 = true := mt 2 hm (by kernel_rfl)
      have hb4 : zB 4 = true := mt 4 hm (by kernel_rfl)
      have e2 : zS 20 = .slice (some ⟨bv, ov, none⟩) S.V.length A0.c1 := hF 2 _ rfl hb2
      have e4 : zS 22 = .int .i64 (j : Int) := hF 4 _ rfl hb4
      clear hL hm
      simp only [pE]
      simp only [e2, e4]
      have HWz := mkHid hW
      clear hW
      go_simp
      have hW := HWz.out
      clear HWz
      exact hK.out _ _ ⟨ups zB [5], upv _ _ zS [5, 4, 2], rfl, by kernel_rfl, rk hF rfl, hW⟩
     refine StepsI.cons rfl ?_ ?_
     ·rintro L zA va ⟨zB, zS, rfl, rfl, hF, hW⟩ hL hm K hK
      have hb6 : zB 6 = false := by simpa using hL
      have hb5 : zB 5 = true := mt 5 hm (by kernel_rfl)
      have e5 : zS 23 = .pointer (some ⟨bv, ov + j * 3, none⟩) := hF 5 _ rfl hb5
      clear hL hm
      rw [hb6] at hW
      simp only [pE]
      simp only [e5]
      have h7 : zB 7 = false := by cases e : zB 7 with | false => rfl | true => exact ft (hW.2.2.2 e).2
      obtain ⟨d0, d1, d2⟩ := hvr va hW.1
      have HWz := mkHid hW
      clear hW
      go_simp
      have hW := HWz.out
      clear HWz
      exact hK.out _ _ ⟨ups zB [6], upv _ _ zS [6, 5], rfl, by kernel_rfl, rk hF rfl, ⟨hW.1, hW.2.1, hW.2.2.1, fun e => ft (h7.symm.trans e)⟩⟩
     refine StepsI.cons rfl ?_ ?_
     ·rintro L zA va ⟨zB, zS, rfl, rfl, hF, hW⟩ hL hm K hK
      have hb7 : zB 7 = false := by simpa using hL
      have hb0 : zB 0 = true := mt 0 hm (by kernel_rfl)
      have hb6 : zB 6 = true := mt 6 hm (by kernel_rfl)
      have e0 : zS 18 = .agg #[.int .i64 v.1, .int .i64 v.2.1, .bool v.2.2] := hF 0 _ rfl hb0
      have e6 : zS 24 = .agg #[.int .i64 x.1, .int .i64 x.2.1, .bool x.2.2] := hF 6 _ rfl hb6
      clear hL hm
      rw [hb7] at hW
      rw [hb0] at hW
      rw [hb6] at hW
      simp only [pE]
      simp only [e0, e6]
      have HWz := mkHid hW
      clear hW
      go_simp
      have hW := HWz.out
      clear HWz
      refine (sVjoin_any v.1 v.2.1 v.2.2 x.1 x.2.1 x.2.2 _).mono ?_
      rintro e va2 ⟨rfl, hb⟩
      rw [HVJ.out]
      have HWz := mkHid hW
      clear hW
      go_wp2_with fail
      have hW := HWz.out
      clear HWz
      exact hK.out _ _ ⟨ups zB [6, 0, 7], upv _ _ zS [7, 6, 0], by simp [ups, hb6, hb0], by kernel_rfl, rk hF rfl, ⟨hW.1.trans (Only.of hb), (hb.block _ (heap_lt hW.2.1)).trans hW.2.1, fun e => rfl, fun _ => ⟨rfl, rfl⟩⟩⟩
     refine StepsI.cons rfl ?_ ?_
     ·rintro L zA va ⟨zB, zS, rfl, rfl, hF, hW⟩ hL hm K hK
      have hb8 : zB 8 = false := by simpa using hL
      have hb7 : zB 7 = true := mt 7 hm (by kernel_rfl)
      have e7 : zS 25 = .agg #[.int .i64 vj.1, .int .i64 vj.2.1, .bool vj.2.2] := hF 7 _ rfl hb7
      clear hL hm
      rw [hb8] at hW
      rw [hb7] at hW
      simp only [pE]
      simp only [e7]
      have hC := hW.2.1
      obtain ⟨c0, c1, c2⟩ := vC_cells hC
      have f0 := heap_free hC 0
      have f1 := heap_free hC 1
      have f2 := heap_free hC 2
      have HWz := mkHid hW
      clear hW
      go_simp
      have hW := HWz.out
      clear HWz
      exact hK.out _ _ ⟨ups zB [7, 8], upv _ _ zS [7], by simp [ups, hb7], by kernel_rfl, rk hF rfl, ⟨(((hW.1.trans (Only.set _ _ _ _)).trans (Only.set _ _ _ _)).trans (Only.set _ _ _ _)), by rw [(heap_set_self (heap_set_self (heap_set_self hW.2.1 _ _) _ _) _ _)]; rfl, fun _ => rfl, hW.2.2.2⟩⟩
     exact StepsI.nil (by kernel_rfl)
    ·rintro L zA va ⟨zB, zS, rfl, rfl, hF, hW⟩ hr
     have hu := all_up (by kernel_rfl) (N := 9) (by kernel_rfl) hr
     have hb0 : zB 0 = true := by simpa using hu 0 (by decide)
     have hb1 : zB 1 = true := by simpa using hu 1 (by decide)
     have hb2 : zB 2 = true := by simpa using hu 2 (by decide)
     have hb3 : zB 3 = true := by simpa using hu 3 (by decide)
     have hb4 : zB 4 = true := by simpa using hu 4 (by decide)
     have hb5 : zB 5 = true := by simpa using hu 5 (by decide)
     have hb6 : zB 6 = true := by simpa using hu 6 (by decide)
     have hb7 : zB 7 = true := by simpa using hu 7 (by decide)
     have hb8 : zB 8 = true := by simpa using hu 8 (by decide)
     have e0 : zS 18 = .agg #[.int .i64 v.1, .int .i64 v.2.1, .bool v.2.2] := hF 0 _ rfl hb0
     have e1 : zS 19 = .pointer (some ⟨X1, 1, none⟩) := hF 1 _ rfl hb1
     have e2 : zS 20 = .slice (some ⟨bv, ov, none⟩) S.V.length A0.c1 := hF 2 _ rfl hb2
     have e3 : zS 21 = .int .i64 (i : Int) := hF 3 _ rfl hb3
     have e4 : zS 22 = .int .i64 (j : Int) := hF 4 _ rfl hb4
     have e5 : zS 23 = .pointer (some ⟨bv, ov + j * 3, none⟩) := hF 5 _ rfl hb5
     have e6 : zS 24 = .agg #[.int .i64 x.1, .int .i64 x.2.1, .bool x.2.2] := hF 6 _ rfl hb6
     have e7 : zS 25 = .agg #[.int .i64 vj.1, .int .i64 vj.2.1, .bool vj.2.2] := hF 7 _ rfl hb7
     rw [hb0] at hW
     rw [hb6] at hW
     rw [hb7] at hW
     rw [hb8] at hW
     clear hu hr hF
     simp only [pE]
     simp only [e0, e1, e2, e3, e4, e5, e6, e7]
     clear e0 e1 e2 e3 e4 e5 e6 e7
     clear hb0 hb1 hb2 hb3 hb4 hb5 hb6 hb7 hb8
     clear zB zS
     have hO := hW.1
     have hH := hW.2.1
     clear hW
     simp only [sel] at hH
     have HT1 := mkHid (HTI.out.setV HTC.out hO hH)
     have HJV : Hid (jv v x = vj) := mkHid HVJ.out
     clear hO hH hx1 hvr hV0 HTI
     have hbx := HT1.out.x1
     have e0 := heap_cell hbx 0
     have e2 := heap_cell hbx 2
     simp only [sgC] at e0 e2
     simp at e0 e2
     rw [HAB.out] at e0
     rw [HAM.out] at e2
     have dm := HM1.out va HT1.out.bel
     have hrc := HRO.out va HT1.out.bel
     clear hbx
     cases mb
     ·have hz := HP.out
      have hp : (0 : Int) < (i : Int) := by omega
      by_cases he : l = []
      ·have HNX : Hid (TyE S Z vj false (i + 1)) := mkHid (by have h := HTE.out; have hj := HJ.out; subst hj; have h2 := TyE.skip h HLX.out HX.out HM.out he; rw [HJV.out] at h2; rw [Bool.false_and] at h2; exact h2)
       have hn0 : ((l.length : Int) == 0) = true := by simp [he]
       have hn1 : (l.length : Int) = 0 := by simp [he]
       have hn2 : l.length = 0 := by simp [he]
       have HLZ := HZL
       clear he
       go_wp2
       go_roundg (S.B.length - (i + 1))
       case measure => omega
       case rel => exact ⟨i + 1, false, A, Z, vj, by omega, by go_num, rfl, Nat.le_refl _, HNX.out, HT1.out, by have := HLZ.out; omega⟩
      ·have hne : l ≠ [] := he
       clear he
       obtain ⟨bl, ol, hal9, hlbl, hql⟩ := HAL.out.cons (List.length_pos_iff.2 hne)
       have HAA := mkHid hal9
       have HLP : Hid (0 < l.length) := mkHid (List.length_pos_iff.2 hne)
       subst hal9
       have HRW : Hid (∀ v, Below w.heap.size w v → v.cell? ⟨bb, ob + i, none⟩ = some (.slice (some ⟨bl, ol, none⟩) l.length cl)) := mkHid fun v h => HRO.out v h
       have HRL : Hid (∀ v, Below w.heap.size w v → ∀ (i : Nat) (x : Y), l[i]? = some x → ∀ (j : Nat) (u : Value), (eY.enc x)[j]? = some u → v.cell? ⟨bl, ol + i * eY.k + j, none⟩ = some u) := mkHid fun v h i x hx j u hu => (h.cell (p := ⟨bl, _, none⟩) hlbl).trans (hql i x hx j u hu)
       have hn0 : ((l.length : Int) == 0) = false := by have := HLP.out; simp; omega
       have hn1 : ¬ (l.length : Int) = 0 := by have := HLP.out; omega
       have hn2 : l.length ≠ 0 := by have := HLP.out; omega
       clear hlbl hql
       have HNX : Hid (TyE S ⟨Z.B ++ [l], Z.V ++ [vj], Z.M ++ [false]⟩ noneV true (i + 1)) := mkHid (by have h := HTE.out; have hj := HJ.out; subst hj; have h2 := TyE.take h HLX.out HX.out HM.out hne; rw [HJV.out] at h2; rw [Bool.false_and] at h2; exact h2)
       have HLZ : Hid ((Z.B ++ [l]).length ≤ i + 1 ∧ (Z.V ++ [vj]).length ≤ i + 1 ∧ (Z.M ++ [false]).length ≤ i + 1) := mkHid (by have := HZL.out; simp; omega)
       have HNB : Hid (Z.B.length ≤ 1048576) := mkHid (by have := HZL.out; have := HSM.out.b; omega)
       have HNV : Hid (Z.V.length ≤ 1048576) := mkHid (by have := HZL.out; have := HSM.out.b; omega)
       have HNM : Hid (Z.M.length ≤ 1048576) := mkHid (by have := HZL.out; have := HSM.out.b; omega)
       have hC := HT1.out.v4
       obtain ⟨c0, c1, c2⟩ := vC_cells hC
       obtain ⟨q0, q1, q2, _, _, _⟩ := HT1.out.g.g3
       clear hC hne
       have HGX := mkHid HT1.out.g
       have HOX : Hid (va.ownsRow base 55 3 (.slice A.a1 Z.V.length A.c1) Z.V.length (eV.flat Z.V)) := mkHid HGX.out.v
       have hbsx := HT1.out.bs
       go_wp2_with (at_builtin; refine wpList_append_lies _ rfl _ _ 33 rfl base 55 tv (.agg #[.int .i64 0, .int .i64 0, .bool false]) 3 24 Tryz.underlying33 HIV.out.1 HIV.out.2.1 HIV.out.2.2.1 HIV.out.2.2.2 rfl (by decide) _ _ _ rfl (World.ownsRow.alloc HOX.out _) ⟨va.heap.size, 0, none⟩ 1 1 [.int .i64 vj.1, .int .i64 vj.2.1, .bool vj.2.2] rfl rfl (fun j u hj => news_one va _ _ j u hj) (fun u hu => by simp at hu; rcases hu with rfl | rfl | rfl <;> rfl) (by decide) (by have := HNV.out; unfold maxLen; omega) (by have := HNV.out; omega) (by first | omega | (simp; omega)) (va.heap.size + 1) (by simp) ?_)
       intro gv cv w7 hown hgrow hat9 hlt9
       have HAF : Hid (Aft va (fun _ => True) (Value.ownBlock (.slice A.a1 Z.V.length A.c1)) (fun v => v.ownsRow base 55 3 (.slice (some ⟨gv, 0, none⟩) (Z.V.length + 1) cv) (Z.V.length + 1) (eV.flat Z.V ++ [.int .i64 vj.1, .int .i64 vj.2.1, .bool vj.2.2])) w7) := mkHid ⟨_, bl_alloc (Below.refl _ _) _, True.intro, hgrow, hown⟩
       have hbx := HAF.out.box HGX.out.box (fun v hv q e hq => by subst hq; obtain ⟨c7, h7⟩ := (HGX.out.below hv).v.block e; have h8 := (HGX.out.below hv).box; rw [h7] at h8; simp at h8)
       have b0 := heap_cell hbx 1
       have b1 := heap_free hbx 1
       simp only [sgC] at b0
       simp at b0
       obtain ⟨w8, hw8⟩ : ∃ z, w7.setCell ⟨Bx, 1, none⟩ (.slice (some ⟨gv, 0, none⟩) (Z.V.length + 1) cv) = z := ⟨_, rfl⟩
       obtain ⟨hg9, hk9⟩ := HGX.out.stepV (x := vj) hbsx ⟨w7, HAF.out, hw8.symm⟩
       have HT1n := mkHid (HT1.out.grow HTC.out hg9 hk9)
       have hbsx := HT1n.out.bs
       clear hown hgrow hat9 hlt9 hbx hg9 hk9 HGX HOX HAF HT1
       clear c0 c1 c2 q0 q1 q2
       obtain ⟨q0, q1, q2, _, _, _⟩ := HT1n.out.g.g3
       clear q0 q1
       have HGX := mkHid HT1n.out.g
       have HOX : Hid (w8.ownsRow base 4 1 (.slice A.a2 Z.M.length A.c2) Z.M.length (eB.flat Z.M)) := mkHid HGX.out.m
       have hbsx := HT1n.out.bs
       go_wp2_with (at_builtin; refine wpList_append_lies _ rfl _ _ 24 rfl base 4 tm (.bool false) 1 1 Tryz.underlying24 HIM.out.1 HIM.out.2.1 HIM.out.2.2.1 HIM.out.2.2.2 rfl (by decide) _ _ _ rfl (World.ownsRow.alloc HOX.out _) ⟨w8.heap.size, 0, none⟩ 1 1 [.bool false] rfl rfl (fun j u hj => news_one w8 _ _ j u hj) (fun u hu => by simp at hu; subst hu; rfl) (by decide) (by have := HNM.out; unfold maxLen; omega) (by have := HNM.out; omega) (by first | omega | (simp; omega)) (w8.heap.size + 1) (by simp) ?_)
       intro gm cm w9 hown hgrow hat9 hlt9
       have HAF : Hid (Aft w8 (fun _ => True) (Value.ownBlock (.slice A.a2 Z.M.length A.c2)) (fun v => v.ownsRow base 4 1 (.slice (some ⟨gm, 0, none⟩) (Z.M.length + 1) cm) (Z.M.length + 1) (eB.flat Z.M ++ [.bool false])) w9) := mkHid ⟨_, bl_alloc (Below.refl _ _) _, True.intro, hgrow, hown⟩
       have hbx := HAF.out.box HGX.out.box (fun v hv q e hq => by subst hq; obtain ⟨c7, h7⟩ := (HGX.out.below hv).m.block e; have h8 := (HGX.out.below hv).box; rw [h7] at h8; simp at h8)
       have b0 := heap_cell hbx 2
       have b1 := heap_free hbx 2
       simp only [sgC] at b0
       simp at b0
       obtain ⟨w10, hw8⟩ : ∃ z, w9.setCell ⟨Bx, 2, none⟩ (.slice (some ⟨gm, 0, none⟩) (Z.M.length + 1) cm) = z := ⟨_, rfl⟩
       obtain ⟨hg9, hk9⟩ := HGX.out.stepM (x := false) hbsx ⟨w9, HAF.out, hw8.symm⟩
       have HT1nn := mkHid (HT1n.out.grow HTC.out hg9 hk9)
       have hbsx := HT1nn.out.bs
       clear hown hgrow hat9 hlt9 hbx hg9 hk9 HGX HOX HAF HT1n
       clear q2
       obtain ⟨A2, hA2⟩ : ∃ z : SAd, ⟨A.a0, A.c0, some ⟨gv, 0, none⟩, cv, some ⟨gm, 0, none⟩, cm⟩ = z := ⟨_, rfl⟩
       obtain ⟨Z2, hZ2⟩ : ∃ z : SG, ⟨Z.B, Z.V ++ [vj], Z.M ++ [false]⟩ = z := ⟨_, rfl⟩
       have HT3 : Hid (TyI w w10 base X1 X2 V4 Bx A0 S ⟨A.a0, A.c0, some ⟨gv, 0, none⟩, cv, some ⟨gm, 0, none⟩, cm⟩ ⟨Z.B, Z.V ++ [vj], Z.M ++ [false]⟩ vj) := mkHid HT1nn.out
       rw [hA2, hZ2] at HT3
       have HZ2 := mkHid hZ2.symm
       clear HT1nn hA2 hZ2
       have HNB : Hid (Z2.B.length ≤ 1048576) := mkHid (by rw [HZ2.out]; exact HNB.out)
       have HG := mkHid HT3.out.g
       have hbs := HT3.out.bs
       obtain ⟨vs, hvs, hin⟩ := HT3.out.g.b
       have HVS := mkHid hvs
       have HIN := mkHid hin
       have HX14 : Hid (∀ v, Below w10.heap.size w10 v → v.cell? ⟨X1, 0, none⟩ = some (.slice (some ⟨bb, ob, none⟩) S.B.length A0.c0)) := mkHid fun v h => by have := heap_cell (HT3.out.below h).x1 0; simpa [sgC, HAB.out] using this
       have HR14 : Hid (∀ v, Below w10.heap.size w10 v → v.cell? ⟨bb, ob + i, none⟩ = some (.slice (some ⟨bl, ol, none⟩) l.length cl)) := mkHid fun v h => HRW.out v (HT3.out.below h).bel
       have HL14 : Hid (∀ v, Below w10.heap.size w10 v → ∀ (i : Nat) (x : Y), l[i]? = some x → ∀ (j : Nat) (u : Value), (eY.enc x)[j]? = some u → v.cell? ⟨bl, ol + i * eY.k + j, none⟩ = some u) := mkHid fun v h => HRL.out v (HT3.out.below h).bel
       clear hvs hin
       go_wp2_with fail
       clear hw8 hz hp hn0 hn1 hn2 e0 e2 dm hrc
       refine wp_region_inv2 (fun zA0 L zA vb => ∃ (zB : Nat → Bool) (zS : Nat → Value) (E : Nat) (g : Option Addr) (c : Nat) (R : Nat) (ga : Nat) (ca : Nat), L = #[zB 0, zB 1, zB 2, zB 3, zB 4, zB 5, zB 6, zB 7, zB 8, zB 9, zB 10, zB 11, zB 12] ∧ zA = puts zA0 [(56, zS 56), (57, zS 57), (58, zS 58), (59, zS 59), (60, zS 60), (61, zS 61), (62, zS 62), (63, zS 63), (64, zS 64), (65, zS 65), (66, zS 66), (67, zS 67)] ∧ ((zB 0 = true → zS 56 = .pointer (some ⟨Bx, 0, none⟩)) ∧ (zB 1 = true → zS 57 = .slice A2.a0 Z2.B.length A2.c0) ∧ (zB 2 = true → zS 58 = .slice (some ⟨E, 0, none⟩) 0 0) ∧ (zB 3 = true → zS 59 = .pointer (some ⟨X1, 0, none⟩)) ∧ (zB 4 = true → zS 60 = .slice (some ⟨bb, ob, none⟩) S.B.length A0.c0) ∧ (zB 5 = true → zS 61 = .int .i64 (i : Int)) ∧ (zB 6 = true → zS 62 = .pointer (some ⟨bb, ob + i, none⟩)) ∧ (zB 7 = true → zS 63 = .slice (some ⟨bl, ol, none⟩) l.length cl) ∧ (zB 8 = true → zS 64 = .slice g l.length c) ∧ (zB 9 = true → zS 65 = .slice (some ⟨R, 0, none⟩) 1 1) ∧ (zB 10 = true → zS 66 = .slice (some ⟨ga, 0, none⟩) (Z2.B.length + 1) ca) ∧ (zB 11 = true → zS 67 = .pointer (some ⟨Bx, 0, none⟩))) ∧ (Ap w10 vb (zB 8) (zB 9) (zB 10) (zB 12) (fun v => Own eY 49 v w10.heap.size (.slice g l.length c) l) R [.slice g l.length c] (Value.ownBlock (.slice A2.a0 Z2.B.length A2.c0)) (fun v => v.ownsRow base 113 1 (.slice (some ⟨ga, 0, none⟩) (Z2.B.length + 1) ca) (Z2.B.length + 1) (vs ++ [.slice g l.length c])) Bx 0 (.slice (some ⟨ga, 0, none⟩) (Z2.B.length + 1) ca)) ∧ ((zB 6) = true → (zB 4) = true) ∧ ((zB 8) = true → (zB 2) = true ∧ (zB 7) = true) ∧ ((zB 9) = true → (zB 8) = true) ∧ ((zB 10) = true → (zB 1) = true ∧ (zB 9) = true) ∧ ((zB 12) = true → (zB 10) = true) ∧ ((zB 7) = true → (zB 6) = true) ∧ ((zB 2) = true → (zB 8) = false → Own eY 49 vb w10.heap.size (.slice (some ⟨E, 0, none⟩) 0 0) [])) (by kernel_rfl) ?_ ?_ ?_
       ·exact ⟨fun _ => false, fun zd => if zd = 67 then u67 else if zd = 66 then u66 else if zd = 65 then u65 else if zd = 64 then u64 else if zd = 63 then u63 else if zd = 62 then u62 else if zd = 61 then u61 else if zd = 60 then u60 else if zd = 59 then u59 else if zd = 58 then u58 else if zd = 57 then u57 else if zd = 56 then u56 else undef, 0, none, 0, 0, 0, 0, rfl, by kernel_rfl, ⟨fun e => ft e, fun e => ft e, fun e => ft e, fun e => ft e, fun e => ft e, fun e => ft e, fun e => ft e, fun e => ft e, fun e => ft e, fun e => ft e, fun e => ft e, fun e => ft e⟩, ⟨Ap.start _ _ _ _ _ _ _ _ _, fun e => ft e, fun e => ft e, fun e => ft e, fun e => ft e, fun e => ft e, fun e => ft e, fun e => ft e⟩⟩
       ·refine StepsI.cons rfl ?_ ?_
        ·rintro L zA vb ⟨zB, zS, E, g, c, R, ga, ca, rfl, rfl, hF, hW⟩ hL hm K hK
         have hb0 : zB 0 = false := by simpa using hL
         clear hL hm
         simp only [pE]
         have HWz := mkHid hW
         clear hW
         go_simp
         have hW := HWz.out
         clear HWz
         exact hK.out _ _ ⟨fun zj => if zj = 0 then true else zB zj, fun zd => if zd = 56 then .pointer (some ⟨Bx, 0, none⟩) else zS zd, E, g, c, R, ga, ca, rfl, by kernel_rfl, ⟨fun _ => rfl, hF.2.1, hF.2.2.1, hF.2.2.2.1, hF.2.2.2.2.1, hF.2.2.2.2.2.1, hF.2.2.2.2.2.2.1, hF.2.2.2.2.2.2.2.1, hF.2.2.2.2.2.2.2.2.1, hF.2.2.2.2.2.2.2.2.2.1, hF.2.2.2.2.2.2.2.2.2.2.1, hF.2.2.2.2.2.2.2.2.2.2.2⟩, hW⟩
        refine StepsI.cons rfl ?_ ?_
        ·rintro L zA vb ⟨zB, zS, E, g, c, R, ga, ca, rfl, rfl, hF, hW⟩ hL hm K hK
         have hb1 : zB 1 = false := by simpa using hL
         have hb0 : zB 0 = true := mt 0 hm (by kernel_rfl)
         have e0 : zS 56 = .pointer (some ⟨Bx, 0, none⟩) := hF.1 hb0
         clear hL hm
         rw [hb1] at hW
         simp only [pE]
         simp only [e0]
         have hf10 : zB 10 = false := by cases e : zB 10 with | false => rfl | true => exact ft ((hW.2.2.2.2.1 e).1)
         have hf12 : zB 12 = false := by cases e : zB 12 with | false => rfl | true => exact ft (hf10.symm.trans (hW.2.2.2.2.2.1 e))
         have hpre := hW.1.pre hf10
         obtain ⟨q0, q1, q2, _, _, _⟩ := (HG.out.below hpre).g3
         have HWz := mkHid hW
         clear hW
         go_simp
         have hW := HWz.out
         clear HWz
         exact hK.out _ _ ⟨fun zj => if zj = 0 then true else if zj = 1 then true else zB zj, fun zd => if zd = 57 then .slice A2.a0 Z2.B.length A2.c0 else if zd = 56 then .pointer (some ⟨Bx, 0, none⟩) else zS zd, E, g, c, R, ga, ca, by simp [hb0], by kernel_rfl, ⟨fun _ => rfl, fun _ => rfl, hF.2.2.1, hF.2.2.2.1, hF.2.2.2.2.1, hF.2.2.2.2.2.1, hF.2.2.2.2.2.2.1, hF.2.2.2.2.2.2.2.1, hF.2.2.2.2.2.2.2.2.1, hF.2.2.2.2.2.2.2.2.2.1, hF.2.2.2.2.2.2.2.2.2.2.1, hF.2.2.2.2.2.2.2.2.2.2.2⟩, ⟨hW.1, hW.2.1, hW.2.2.1, hW.2.2.2.1, fun e => ft (hf10.symm.trans e), fun e => ft (hf12.symm.trans e), hW.2.2.2.2.2.2.1, hW.2.2.2.2.2.2.2⟩⟩
        refine StepsI.cons rfl ?_ ?_
        ·rintro L zA vb ⟨zB, zS, E, g, c, R, ga, ca, rfl, rfl, hF, hW⟩ hL hm K hK
         have hb2 : zB 2 = false := by simpa using hL
         clear hL hm
         rw [hb2] at hW
         simp only [pE]
         have hf8 : zB 8 = false := by cases e : zB 8 with | false => rfl | true => exact ft ((hW.2.2.1 e).1)
         have hf9 : zB 9 = false := by cases e : zB 9 with | false => rfl | true => exact ft (hf8.symm.trans (hW.2.2.2.1 e))
         have hf10 : zB 10 = false := by cases e : zB 10 with | false => rfl | true => exact ft (hf9.symm.trans (hW.2.2.2.2.1 e).2)
         have hf12 : zB 12 = false := by cases e : zB 12 with | false => rfl | true => exact ft (hf10.symm.trans (hW.2.2.2.2.2.1 e))
         have hpre := hW.1.pre hf10
         have HWz := mkHid hW
         clear hW
         go_simp
         have hW := HWz.out
         clear HWz
         exact hK.out _ _ ⟨fun zj => if zj = 2 then true else zB zj, fun zd => if zd = 58 then .slice (some ⟨vb.heap.size, 0, none⟩) 0 0 else zS zd, vb.heap.size, g, c, R, ga, ca, rfl, by kernel_rfl, ⟨hF.1, hF.2.1, fun _ => rfl, hF.2.2.2.1, hF.2.2.2.2.1, hF.2.2.2.2.2.1, hF.2.2.2.2.2.2.1, hF.2.2.2.2.2.2.2.1, hF.2.2.2.2.2.2.2.2.1, hF.2.2.2.2.2.2.2.2.2.1, hF.2.2.2.2.2.2.2.2.2.2.1, hF.2.2.2.2.2.2.2.2.2.2.2⟩, ⟨hW.1.more hf8 hf9 hf10 hf12 (bl_alloc (Below.refl _ _) _), hW.2.1, fun e => ft (hf8.symm.trans e), fun e => ft (hf9.symm.trans e), fun e => ft (hf10.symm.trans e), fun e => ft (hf12.symm.trans e), hW.2.2.2.2.2.2.1, fun _ _ => fresh_y hpre.size (by have := heap_alloc_new vb (.cells #[] 49); simpa using this)⟩⟩
        refine StepsI.cons rfl ?_ ?_
        ·rintro L zA vb ⟨zB, zS, E, g, c, R, ga, ca, rfl, rfl, hF, hW⟩ hL hm K hK
         have hb3 : zB 3 = false := by simpa using hL
         clear hL hm
         simp only [pE]
         have HWz := mkHid hW
         clear hW
         go_simp
         have hW := HWz.out
         clear HWz
         exact hK.out _ _ ⟨fun zj => if zj = 3 then true else zB zj, fun zd => if zd = 59 then .pointer (some ⟨X1, 0, none⟩) else zS zd, E, g, c, R, ga, ca, rfl, by kernel_rfl, ⟨hF.1, hF.2.1, hF.2.2.1, fun _ => rfl, hF.2.2.2.2.1, hF.2.2.2.2.2.1, hF.2.2.2.2.2.2.1, hF.2.2.2.2.2.2.2.1, hF.2.2.2.2.2.2.2.2.1, hF.2.2.2.2.2.2.2.2.2.1, hF.2.2.2.2.2.2.2.2.2.2.1, hF.2.2.2.2.2.2.2.2.2.2.2⟩, hW⟩
        refine StepsI.cons rfl ?_ ?_
        ·rintro L zA vb ⟨zB, zS, E, g, c, R, ga, ca, rfl, rfl, hF, hW⟩ hL hm K hK
         have hb4 : zB 4 = false := by simpa using hL
         have hb3 : zB 3 = true := mt 3 hm (by kernel_rfl)
         have e3 : zS 59 = .pointer (some ⟨X1, 0, none⟩) := hF.2.2.2.1 hb3
         clear hL hm
         rw [hb4] at hW
         simp only [pE]
         simp only [e3]
         have hf6 : zB 6 = false := by cases e : zB 6 with | false => rfl | true => exact ft ((hW.2.1 e))
         have hf7 : zB 7 = false := by cases e : zB 7 with | false => rfl | true => exact ft (hf6.symm.trans (hW.2.2.2.2.2.2.1 e))
         have hf8 : zB 8 = false := by cases e : zB 8 with | false => rfl | true => exact ft (hf7.symm.trans (hW.2.2.1 e).2)
         have hf9 : zB 9 = false := by cases e : zB 9 with | false => rfl | true => exact ft (hf8.symm.trans (hW.2.2.2.1 e))
         have hf10 : zB 10 = false := by cases e : zB 10 with | false => rfl | true => exact ft (hf9.symm.trans (hW.2.2.2.2.1 e).2)
         have hf12 : zB 12 = false := by cases e : zB 12 with | false => rfl | true => exact ft (hf10.symm.trans (hW.2.2.2.2.2.1 e))
         have hpre := hW.1.pre hf10
         have q0 := HX14.out vb hpre
         have HWz := mkHid hW
         clear hW
         go_simp
         have hW := HWz.out
         clear HWz
         exact hK.out _ _ ⟨fun zj => if zj = 3 then true else if zj = 4 then true else zB zj, fun zd => if zd = 60 then .slice (some ⟨bb, ob, none⟩) S.B.length A0.c0 else if zd = 59 then .pointer (some ⟨X1, 0, none⟩) else zS zd, E, g, c, R, ga, ca, by simp [hb3], by kernel_rfl, ⟨hF.1, hF.2.1, hF.2.2.1, fun _ => rfl, fun _ => rfl, hF.2.2.2.2.2.1, hF.2.2.2.2.2.2.1, hF.2.2.2.2.2.2.2.1, hF.2.2.2.2.2.2.2.2.1, hF.2.2.2.2.2.2.2.2.2.1, hF.2.2.2.2.2.2.2.2.2.2.1, hF.2.2.2.2.2.2.2.2.2.2.2⟩, ⟨hW.1, fun e => ft (hf6.symm.trans e), fun e => ft (hf8.symm.trans e), fun e => ft (hf9.symm.trans e), fun e => ft (hf10.symm.trans e), fun e => ft (hf12.symm.trans e), fun e => ft (hf7.symm.trans e), hW.2.2.2.2.2.2.2⟩⟩
        refine StepsI.cons rfl ?_ ?_
        ·rintro L zA vb ⟨zB, zS, E, g, c, R, ga, ca, rfl, rfl, hF, hW⟩ hL hm K hK
         have hb5 : zB 5 = false := by simpa using hL
         clear hL hm
         simp only [pE]
         have HWz := mkHid hW
         clear hW
         go_simp
         have hW := HWz.out
         clear HWz
         exact hK.out _ _ ⟨fun zj => if zj = 5 then true else zB zj, fun zd => if zd = 61 then .int .i64 (i : Int) else zS zd, E, g, c, R, ga, ca, rfl, by kernel_rfl, ⟨hF.1, hF.2.1, hF.2.2.1, hF.2.2.2.1, hF.2.2.2.2.1, fun _ => rfl, hF.2.2.2.2.2.2.1, hF.2.2.2.2.2.2.2.1, hF.2.2.2.2.2.2.2.2.1, hF.2.2.2.2.2.2.2.2.2.1, hF.2.2.2.2.2.2.2.2.2.2.1, hF.2.2.2.2.2.2.2.2.2.2.2⟩, hW⟩
        refine StepsI.cons rfl ?_ ?_
        ·rintro L zA vb ⟨zB, zS, E, g, c, R, ga, ca, rfl, rfl, hF, hW⟩ hL hm K hK
         have hb6 : zB 6 = false := by simpa using hL
         have hb4 : zB 4 = true := mt 4 hm (by kernel_rfl)
         have hb5 : zB 5 = true := mt 5 hm (by kernel_rfl)
         have e4 : zS 60 = .slice (some ⟨bb, ob, none⟩) S.B.length A0.c0 := hF.2.2.2.2.1 hb4
         have e5 : zS 61 = .int .i64 (i : Int) := hF.2.2.2.2.2.1 hb5
         clear hL hm
         rw [hb6] at hW
         rw [hb4] at hW
         simp only [pE]
         simp only [e4, e5]
         have hf7 : zB 7 = false := by cases e : zB 7 with | false => rfl | true => exact ft ((hW.2.2.2.2.2.2.1 e))
         have hf8 : zB 8 = false := by cases e : zB 8 with | false => rfl | true => exact ft (hf7.symm.trans (hW.2.2.1 e).2)
         have hf9 : zB 9 = false := by cases e : zB 9 with | false => rfl | true => exact ft (hf8.symm.trans (hW.2.2.2.1 e))
         have hf10 : zB 10 = false := by cases e : zB 10 with | false => rfl | true => exact ft (hf9.symm.trans (hW.2.2.2.2.1 e).2)
         have hf12 : zB 12 = false := by cases e : zB 12 with | false => rfl | true => exact ft (hf10.symm.trans (hW.2.2.2.2.2.1 e))
         have HWz := mkHid hW
         clear hW
         go_simp
         have hW := HWz.out
         clear HWz
         exact hK.out _ _ ⟨fun zj => if zj = 5 then true else if zj = 4 then true else if zj = 6 then true else zB zj, fun zd => if zd = 62 then .pointer (some ⟨bb, ob + i, none⟩) else if zd = 61 then .int .i64 (i : Int) else if zd = 60 then .slice (some ⟨bb, ob, none⟩) S.B.length A0.c0 else zS zd, E, g, c, R, ga, ca, by simp [hb4, hb5], by kernel_rfl, ⟨hF.1, hF.2.1, hF.2.2.1, hF.2.2.2.1, fun _ => rfl, fun _ => rfl, fun _ => rfl, hF.2.2.2.2.2.2.2.1, hF.2.2.2.2.2.2.2.2.1, hF.2.2.2.2.2.2.2.2.2.1, hF.2.2.2.2.2.2.2.2.2.2.1, hF.2.2.2.2.2.2.2.2.2.2.2⟩, ⟨hW.1, fun _ => rfl, fun e => ft (hf8.symm.trans e), fun e => ft (hf9.symm.trans e), fun e => ft (hf10.symm.trans e), fun e => ft (hf12.symm.trans e), fun e => ft (hf7.symm.trans e), hW.2.2.2.2.2.2.2⟩⟩
        refine StepsI.cons rfl ?_ ?_
        ·rintro L zA vb ⟨zB, zS, E, g, c, R, ga, ca, rfl, rfl, hF, hW⟩ hL hm K hK
         have hb7 : zB 7 = false := by simpa using hL
         have hb6 : zB 6 = true := mt 6 hm (by kernel_rfl)
         have e6 : zS 62 = .pointer (some ⟨bb, ob + i, none⟩) := hF.2.2.2.2.2.2.1 hb6
         clear hL hm
         rw [hb7] at hW
         rw [hb6] at hW
         simp only [pE]
         simp only [e6]
         have hf8 : zB 8 = false := by cases e : zB 8 with | false => rfl | true => exact ft ((hW.2.2.1 e).2)
         have hf9 : zB 9 = false := by cases e : zB 9 with | false => rfl | true => exact ft (hf8.symm.trans (hW.2.2.2.1 e))
         have hf10 : zB 10 = false := by cases e : zB 10 with | false => rfl | true => exact ft (hf9.symm.trans (hW.2.2.2.2.1 e).2)
         have hf12 : zB 12 = false := by cases e : zB 12 with | false => rfl | true => exact ft (hf10.symm.trans (hW.2.2.2.2.2.1 e))
         have hpre := hW.1.pre hf10
         have q0 := HR14.out vb hpre
         have HWz := mkHid hW
         clear hW
         go_simp
         have hW := HWz.out
         clear HWz
         exact hK.out _ _ ⟨fun zj => if zj = 6 then true else if zj = 7 then true else zB zj, fun zd => if zd = 63 then .slice (some ⟨bl, ol, none⟩) l.length cl else if zd = 62 then .pointer (some ⟨bb, ob + i, none⟩) else zS zd, E, g, c, R, ga, ca, by simp [hb6], by kernel_rfl, ⟨hF.1, hF.2.1, hF.2.2.1, hF.2.2.2.1, hF.2.2.2.2.1, hF.2.2.2.2.2.1, fun _ => rfl, fun _ => rfl, hF.2.2.2.2.2.2.2.2.1, hF.2.2.2.2.2.2.2.2.2.1, hF.2.2.2.2.2.2.2.2.2.2.1, hF.2.2.2.2.2.2.2.2.2.2.2⟩, ⟨hW.1, hW.2.1, fun e => ft (hf8.symm.trans e), fun e => ft (hf9.symm.trans e), fun e => ft (hf10.symm.trans e), fun e => ft (hf12.symm.trans e), fun _ => rfl, hW.2.2.2.2.2.2.2⟩⟩
        refine StepsI.cons rfl ?_ ?_
        ·rintro L zA vb ⟨zB, zS, E, g, c, R, ga, ca, rfl, rfl, hF, hW⟩ hL hm K hK
         have hb8 : zB 8 = false := by simpa using hL
         have hb2 : zB 2 = true := mt 2 hm (by kernel_rfl)
         have hb7 : zB 7 = true := mt 7 hm (by kernel_rfl)
         have e2 : zS 58 = .slice (some ⟨E, 0, none⟩) 0 0 := hF.2.2.1 hb2
         have e7 : zS 63 = .slice (some ⟨bl, ol, none⟩) l.length cl := hF.2.2.2.2.2.2.2.1 hb7
         clear hL hm
         rw [hb8] at hW
         rw [hb2] at hW
         rw [hb7] at hW
         simp only [pE]
         simp only [e2, e7]
         have hf9 : zB 9 = false := by cases e : zB 9 with | false => rfl | true => exact ft ((hW.2.2.2.1 e))
         have hf10 : zB 10 = false := by cases e : zB 10 with | false => rfl | true => exact ft (hf9.symm.trans (hW.2.2.2.2.1 e).2)
         have hf12 : zB 12 = false := by cases e : zB 12 with | false => rfl | true => exact ft (hf10.symm.trans (hW.2.2.2.2.2.1 e))
         have hpre := hW.1.pre hf10
         have hfr := hW.2.2.2.2.2.2.2 rfl rfl
         rw [if_pos (by rfl)]
         refine wp_append_lies _ _ _ 113 rfl w10.heap.size 49 ty (.agg #[.int .i64 0, .int .i64 0]) 2 16 Tryz.underlying113 HIY.out.1 HIY.out.2.1 HIY.out.2.2.1 HIY.out.2.2.2 rfl (by decide) (.slice (some ⟨E, 0, none⟩) 0 0) 0 [] rfl hfr ⟨bl, ol, none⟩ l.length cl (eY.flat l) rfl (eY.flat_len l) (news_at (HL14.out vb hpre)) (fun u hu => flat_one hu) HLP.out (by have := HLL.out; unfold maxLen; omega) (by have := HLL.out; omega) hpre.size vb.heap.size rfl ?_
         intro g9 c9 vb2 hown hgrow hat9 hlt9
         have hbr : Below w10.heap.size w10 vb2 := hpre.grown hgrow hpre.size (fun q hq => (hfr.lt hq).1)
         have hown9 : Own eY 49 vb2 w10.heap.size (.slice (some ⟨g9, 0, none⟩) l.length c9) l := by have h := hown; simp only [Nat.zero_add, List.nil_append] at h; exact h
         simp only [Nat.zero_add]
         exact hK.out _ _ ⟨fun zj => if zj = 7 then true else if zj = 2 then true else if zj = 8 then true else zB zj, fun zd => if zd = 64 then .slice (some ⟨g9, 0, none⟩) l.length c9 else if zd = 63 then .slice (some ⟨bl, ol, none⟩) l.length cl else if zd = 58 then .slice (some ⟨E, 0, none⟩) 0 0 else zS zd, E, (some ⟨g9, 0, none⟩), c9, R, ga, ca, by simp [hb2, hb7], by kernel_rfl, ⟨hF.1, hF.2.1, fun _ => rfl, hF.2.2.2.1, hF.2.2.2.2.1, hF.2.2.2.2.2.1, hF.2.2.2.2.2.2.1, fun _ => rfl, fun _ => rfl, hF.2.2.2.2.2.2.2.2.2.1, hF.2.2.2.2.2.2.2.2.2.2.1, hF.2.2.2.2.2.2.2.2.2.2.2⟩, ⟨hW.1.elemr hf9 hf10 hf12 hbr (hown9), hW.2.1, fun _ => ⟨rfl, rfl⟩, fun e => ft (hf9.symm.trans e), fun e => ft (hf10.symm.trans e), fun e => ft (hf12.symm.trans e), fun _ => hW.2.2.2.2.2.2.1 (by trivial), fun _ e => tf e⟩⟩
        refine StepsI.cons rfl ?_ ?_
        ·rintro L zA vb ⟨zB, zS, E, g, c, R, ga, ca, rfl, rfl, hF, hW⟩ hL hm K hK
         have hb9 : zB 9 = false := by simpa using hL
         have hb8 : zB 8 = true := mt 8 hm (by kernel_rfl)
         have e8 : zS 64 = .slice g l.length c := hF.2.2.2.2.2.2.2.2.1 hb8
         clear hL hm
         rw [hb9] at hW
         rw [hb8] at hW
         simp only [pE]
         simp only [e8]
         have hf10 : zB 10 = false := by cases e : zB 10 with | false => rfl | true => exact ft ((hW.2.2.2.2.1 e).2)
         have hf12 : zB 12 = false := by cases e : zB 12 with | false => rfl | true => exact ft (hf10.symm.trans (hW.2.2.2.2.2.1 e))
         have hpre := hW.1.pre hf10
         have HWz := mkHid hW
         clear hW
         go_simp
         have hW := HWz.out
         clear HWz
         exact hK.out _ _ ⟨fun zj => if zj = 8 then true else if zj = 9 then true else zB zj, fun zd => if zd = 65 then .slice (some ⟨vb.heap.size, 0, none⟩) 1 1 else if zd = 64 then .slice g l.length c else zS zd, E, g, c, vb.heap.size, ga, ca, by simp [hb8], by kernel_rfl, ⟨hF.1, hF.2.1, hF.2.2.1, hF.2.2.2.1, hF.2.2.2.2.1, hF.2.2.2.2.2.1, hF.2.2.2.2.2.2.1, hF.2.2.2.2.2.2.2.1, fun _ => rfl, fun _ => rfl, hF.2.2.2.2.2.2.2.2.2.2.1, hF.2.2.2.2.2.2.2.2.2.2.2⟩, ⟨hW.1.lay hf10 hf12 (fun _ _ h hb => Own.below h hb) rfl, hW.2.1, hW.2.2.1, fun _ => rfl, fun e => ft (hf10.symm.trans e), fun e => ft (hf12.symm.trans e), hW.2.2.2.2.2.2.1, fun _ e => tf e⟩⟩
        refine StepsI.cons rfl ?_ ?_
        ·rintro L zA vb ⟨zB, zS, E, g, c, R, ga, ca, rfl, rfl, hF, hW⟩ hL hm K hK
         have hb10 : zB 10 = false := by simpa using hL
         have hb1 : zB 1 = true := mt 1 hm (by kernel_rfl)
         have hb9 : zB 9 = true := mt 9 hm (by kernel_rfl)
         have e1 : zS 57 = .slice A2.a0 Z2.B.length A2.c0 := hF.2.1 hb1
         have e9 : zS 65 = .slice (some ⟨R, 0, none⟩) 1 1 := hF.2.2.2.2.2.2.2.2.2.1 hb9
         clear hL hm
         rw [hb10] at hW
         rw [hb1] at hW
         rw [hb9] at hW
         simp only [pE]
         simp only [e1, e9]
         have hf12 : zB 12 = false := by cases e : zB 12 with | false => rfl | true => exact ft ((hW.2.2.2.2.2.1 e))
         have hpre := hW.1.pre rfl
         rw [if_pos (by rfl)]
         refine wp_append_lies _ _ _ 32 rfl base 113 tb (.slice none 0 0) 1 24 Tryz.underlying32 HIB.out.1 HIB.out.2.1 HIB.out.2.2.1 HIB.out.2.2.2 rfl (by decide) (.slice A2.a0 Z2.B.length A2.c0) Z2.B.length (vs) rfl (owns_below HVS.out hpre) ⟨R, 0, none⟩ 1 1 [.slice g l.length c] rfl rfl (hW.1.tmp rfl rfl) (fun u hu => by simp at hu; subst hu; rfl) (by decide) (by have := HNB.out; unfold maxLen; omega) (by have := HNB.out; omega) (Nat.le_trans hbs hpre.size) vb.heap.size rfl ?_
         intro ga9 ca9 vb2 hown hgrow hat9 hlt9
         exact hK.out _ _ ⟨fun zj => if zj = 9 then true else if zj = 1 then true else if zj = 10 then true else zB zj, fun zd => if zd = 66 then .slice (some ⟨ga9, 0, none⟩) (Z2.B.length + 1) ca9 else if zd = 65 then .slice (some ⟨R, 0, none⟩) 1 1 else if zd = 57 then .slice A2.a0 Z2.B.length A2.c0 else zS zd, E, g, c, R, ga9, ca9, by simp [hb1, hb9], by kernel_rfl, ⟨hF.1, fun _ => rfl, hF.2.2.1, hF.2.2.2.1, hF.2.2.2.2.1, hF.2.2.2.2.2.1, hF.2.2.2.2.2.2.1, hF.2.2.2.2.2.2.2.1, hF.2.2.2.2.2.2.2.2.1, fun _ => rfl, fun _ => rfl, hF.2.2.2.2.2.2.2.2.2.2.2⟩, ⟨hW.1.app ((hW.2.2.2.1 rfl)) hf12 hgrow hown, hW.2.1, hW.2.2.1, hW.2.2.2.1, fun _ => ⟨rfl, rfl⟩, fun e => ft (hf12.symm.trans e), hW.2.2.2.2.2.2.1, fun _ e8 => ft (e8.symm.trans (hW.2.2.2.1 rfl))⟩⟩
        refine StepsI.cons rfl ?_ ?_
        ·rintro L zA vb ⟨zB, zS, E, g, c, R, ga, ca, rfl, rfl, hF, hW⟩ hL hm K hK
         have hb11 : zB 11 = false := by simpa using hL
         clear hL hm
         simp only [pE]
         have HWz := mkHid hW
         clear hW
         go_simp
         have hW := HWz.out
         clear HWz
         exact hK.out _ _ ⟨fun zj => if zj = 11 then true else zB zj, fun zd => if zd = 67 then .pointer (some ⟨Bx, 0, none⟩) else zS zd, E, g, c, R, ga, ca, rfl, by kernel_rfl, ⟨hF.1, hF.2.1, hF.2.2.1, hF.2.2.2.1, hF.2.2.2.2.1, hF.2.2.2.2.2.1, hF.2.2.2.2.2.2.1, hF.2.2.2.2.2.2.2.1, hF.2.2.2.2.2.2.2.2.1, hF.2.2.2.2.2.2.2.2.2.1, hF.2.2.2.2.2.2.2.2.2.2.1, fun _ => rfl⟩, hW⟩
        refine StepsI.cons rfl ?_ ?_
        ·rintro L zA vb ⟨zB, zS, E, g, c, R, ga, ca, rfl, rfl, hF, hW⟩ hL hm K hK
         have hb12 : zB 12 = false := by simpa using hL
         have hb10 : zB 10 = true := mt 10 hm (by kernel_rfl)
         have hb11 : zB 11 = true := mt 11 hm (by kernel_rfl)
         have e10 : zS 66 = .slice (some ⟨ga, 0, none⟩) (Z2.B.length + 1) ca := hF.2.2.2.2.2.2.2.2.2.2.1 hb10
         have e11 : zS 67 = .pointer (some ⟨Bx, 0, none⟩) := hF.2.2.2.2.2.2.2.2.2.2.2 hb11
         clear hL hm
         rw [hb12] at hW
         rw [hb10] at hW
         simp only [pE]
         simp only [e10, e11]
         have hbx := (hW.1.aft rfl rfl).box HG.out.box (fun v hv q e hq => by subst hq; obtain ⟨c7, h7⟩ := owns_block (owns_below HVS.out hv) e; have h8 := (hv.block _ (heap_lt HG.out.box)).trans HG.out.box; rw [h7] at h8; simp at h8)
         have q0 := heap_cell hbx 0
         have f0 := heap_free hbx 0
         simp only [sgC] at q0
         simp at q0
         have HWz := mkHid hW
         clear hW
         go_simp
         have hW := HWz.out
         clear HWz
         exact hK.out _ _ ⟨fun zj => if zj = 11 then true else if zj = 10 then true else if zj = 12 then true else zB zj, fun zd => if zd = 67 then .pointer (some ⟨Bx, 0, none⟩) else if zd = 66 then .slice (some ⟨ga, 0, none⟩) (Z2.B.length + 1) ca else zS zd, E, g, c, R, ga, ca, by simp [hb10, hb11], by kernel_rfl, ⟨hF.1, hF.2.1, hF.2.2.1, hF.2.2.2.1, hF.2.2.2.2.1, hF.2.2.2.2.2.1, hF.2.2.2.2.2.2.1, hF.2.2.2.2.2.2.2.1, hF.2.2.2.2.2.2.2.2.1, hF.2.2.2.2.2.2.2.2.2.1, fun _ => rfl, fun _ => rfl⟩, ⟨hW.1.store, hW.2.1, hW.2.2.1, hW.2.2.2.1, hW.2.2.2.2.1, fun _ => rfl, hW.2.2.2.2.2.2.1, fun _ e8 => ft (e8.symm.trans (hW.2.2.2.1 (hW.2.2.2.2.1 rfl).2))⟩⟩
        exact StepsI.nil (by kernel_rfl)
       ·rintro L zA vb ⟨zB, zS, E, g, c, R, ga, ca, rfl, rfl, hF, hW⟩ hr
        have hu := all_up (by kernel_rfl) (N := 13) (by kernel_rfl) hr
        have hb0 : zB 0 = true := by simpa using hu 0 (by decide)
        have hb1 : zB 1 = true := by simpa using hu 1 (by decide)
        have hb2 : zB 2 = true := by simpa using hu 2 (by decide)
        have hb3 : zB 3 = true := by simpa using hu 3 (by decide)
        have hb4 : zB 4 = true := by simpa using hu 4 (by decide)
        have hb5 : zB 5 = true := by simpa using hu 5 (by decide)
        have hb6 : zB 6 = true := by simpa using hu 6 (by decide)
        have hb7 : zB 7 = true := by simpa using hu 7 (by decide)
        have hb8 : zB 8 = true := by simpa using hu 8 (by decide)
        have hb9 : zB 9 = true := by simpa using hu 9 (by decide)
        have hb10 : zB 10 = true := by simpa using hu 10 (by decide)
        have hb11 : zB 11 = true := by simpa using hu 11 (by decide)
        have hb12 : zB 12 = true := by simpa using hu 12 (by decide)
        have e0 : zS 56 = .pointer (some ⟨Bx, 0, none⟩) := hF.1 hb0
        have e1 : zS 57 = .slice A2.a0 Z2.B.length A2.c0 := hF.2.1 hb1
        have e2 : zS 58 = .slice (some ⟨E, 0, none⟩) 0 0 := hF.2.2.1 hb2
        have e3 : zS 59 = .pointer (some ⟨X1, 0, none⟩) := hF.2.2.2.1 hb3
        have e4 : zS 60 = .slice (some ⟨bb, ob, none⟩) S.B.length A0.c0 := hF.2.2.2.2.1 hb4
        have e5 : zS 61 = .int .i64 (i : Int) := hF.2.2.2.2.2.1 hb5
        have e6 : zS 62 = .pointer (some ⟨bb, ob + i, none⟩) := hF.2.2.2.2.2.2.1 hb6
        have e7 : zS 63 = .slice (some ⟨bl, ol, none⟩) l.length cl := hF.2.2.2.2.2.2.2.1 hb7
        have e8 : zS 64 = .slice g l.length c := hF.2.2.2.2.2.2.2.2.1 hb8
        have e9 : zS 65 = .slice (some ⟨R, 0, none⟩) 1 1 := hF.2.2.2.2.2.2.2.2.2.1 hb9
        have e10 : zS 66 = .slice (some ⟨ga, 0, none⟩) (Z2.B.length + 1) ca := hF.2.2.2.2.2.2.2.2.2.2.1 hb10
        have e11 : zS 67 = .pointer (some ⟨Bx, 0, none⟩) := hF.2.2.2.2.2.2.2.2.2.2.2 hb11
        rw [hb1] at hW
        rw [hb2] at hW
        rw [hb4] at hW
        rw [hb6] at hW
        rw [hb7] at hW
        rw [hb8] at hW
        rw [hb9] at hW
        rw [hb10] at hW
        rw [hb12] at hW
        clear hu hr hF
        simp only [pE]
        simp only [e0, e1, e2, e3, e4, e5, e6, e7, e8, e9, e10, e11]
        clear e0 e1 e2 e3 e4 e5 e6 e7 e8 e9 e10 e11
        clear hb0 hb1 hb2 hb3 hb4 hb5 hb6 hb7 hb8 hb9 hb10 hb11 hb12
        clear zB zS
        obtain ⟨hg9, hk9⟩ := HG.out.stepB hbs HVS.out HIN.out (hW.1.fin rfl)
        have HT9 := mkHid (HT3.out.grow HTC.out hg9 hk9)
        clear hW hg9 hk9 HG HVS HIN HX14 HR14 HL14 hbs HT3
        go_wp2_with fail
        refine (sVnone_any _).mono ?_
        rintro e wx ⟨rfl, hb⟩
        have HT10 := mkHid (HT9.out.below hb)
        have hC := HT10.out.v4
        obtain ⟨c0, c1, c2⟩ := vC_cells hC
        have f0 := heap_free hC 0
        have f1 := heap_free hC 1
        have f2 := heap_free hC 2
        have HTF := mkHid (HT10.out.setV (v' := noneV) HTC.out (Only.trans (Only.trans (Only.set wx V4 0 (.int .i64 1)) (Only.set _ V4 1 (.int .i64 0))) (Only.set _ V4 2 (.bool true))) (by rw [heap_set_self (heap_set_self (heap_set_self hC _ _) _ _) _ _]; rfl))
        clear hb hC HT9 HT10
        go_wp2
        go_roundg (S.B.length - (i + 1))
        case measure => omega
        case rel => exact ⟨i + 1, true, _, ⟨Z.B ++ [l], Z.V ++ [vj], Z.M ++ [false]⟩, noneV, by omega, by go_num, rfl, Nat.le_refl _, HNX.out, (by have h := HTF.out; rw [HZ2.out] at h; exact h), HLZ.out⟩
     ·have hz := HP.out
      have hp : (0 : Int) < (i : Int) := by omega
      by_cases he : l = []
      ·have HNX : Hid (TyE S Z vj m (i + 1)) := mkHid (by have h := HTE.out; have hj := HJ.out; subst hj; have h2 := TyE.skip h HLX.out HX.out HM.out he; rw [HJV.out] at h2; rw [Bool.true_and] at h2; exact h2)
       have hn0 : ((l.length : Int) == 0) = true := by simp [he]
       have hn1 : (l.length : Int) = 0 := by simp [he]
       have hn2 : l.length = 0 := by simp [he]
       have HLZ := HZL
       clear he
       go_wp2
       go_roundg (S.B.length - (i + 1))
       case measure => omega
       case rel => exact ⟨i + 1, m, A, Z, vj, by omega, by go_num, rfl, Nat.le_refl _, HNX.out, HT1.out, by have := HLZ.out; omega⟩
      ·have hne : l ≠ [] := he
       clear he
       obtain ⟨bl, ol, hal9, hlbl, hql⟩ := HAL.out.cons (List.length_pos_iff.2 hne)
       have HAA := mkHid hal9
       have HLP : Hid (0 < l.length) := mkHid (List.length_pos_iff.2 hne)
       subst hal9
       have HRW : Hid (∀ v, Below w.heap.size w v → v.cell? ⟨bb, ob + i, none⟩ = some (.slice (some ⟨bl, ol, none⟩) l.length cl)) := mkHid fun v h => HRO.out v h
       have HRL : Hid (∀ v, Below w.heap.size w v → ∀ (i : Nat) (x : Y), l[i]? = some x → ∀ (j : Nat) (u : Value), (eY.enc x)[j]? = some u → v.cell? ⟨bl, ol + i * eY.k + j, none⟩ = some u) := mkHid fun v h i x hx j u hu => (h.cell (p := ⟨bl, _, none⟩) hlbl).trans (hql i x hx j u hu)
       have hn0 : ((l.length : Int) == 0) = false := by have := HLP.out; simp; omega
       have hn1 : ¬ (l.length : Int) = 0 := by have := HLP.out; omega
       have hn2 : l.length ≠ 0 := by have := HLP.out; omega
       clear hlbl hql
       have HNX : Hid (TyE S ⟨Z.B ++ [l], Z.V ++ [vj], Z.M ++ [m]⟩ noneV true (i + 1)) := mkHid (by have h := HTE.out; have hj := HJ.out; subst hj; have h2 := TyE.take h HLX.out HX.out HM.out hne; rw [HJV.out] at h2; rw [Bool.true_and] at h2; exact h2)
       have HLZ : Hid ((Z.B ++ [l]).length ≤ i + 1 ∧ (Z.V ++ [vj]).length ≤ i + 1 ∧ (Z.M ++ [m]).length ≤ i + 1) := mkHid (by have := HZL.out; simp; omega)
       have HNB : Hid (Z.B.length ≤ 1048576) := mkHid (by have := HZL.out; have := HSM.out.b; omega)
       have HNV : Hid (Z.V.length ≤ 1048576) := mkHid (by have := HZL.out; have := HSM.out.b; omega)
       have HNM : Hid (Z.M.length ≤ 1048576) := mkHid (by have := HZL.out; have := HSM.out.b; omega)
       have hC := HT1.out.v4
       obtain ⟨c0, c1, c2⟩ := vC_cells hC
       obtain ⟨q0, q1, q2, _, _, _⟩ := HT1.out.g.g3
       clear hC hne
       have HGX := mkHid HT1.out.g
       have HOX : Hid (va.ownsRow base 55 3 (.slice A.a1 Z.V.length A.c1) Z.V.length (eV.flat Z.V)) := mkHid HGX.out.v
       have hbsx := HT1.out.bs
       go_wp2_with (at_builtin; refine wpList_append_lies _ rfl _ _ 33 rfl base 55 tv (.agg #[.int .i64 0, .int .i64 0, .bool false]) 3 24 Tryz.underlying33 HIV.out.1 HIV.out.2.1 HIV.out.2.2.1 HIV.out.2.2.2 rfl (by decide) _ _ _ rfl (World.ownsRow.alloc HOX.out _) ⟨va.heap.size, 0, none⟩ 1 1 [.int .i64 vj.1, .int .i64 vj.2.1, .bool vj.2.2] rfl rfl (fun j u hj => news_one va _ _ j u hj) (fun u hu => by simp at hu; rcases hu with rfl | rfl | rfl <;> rfl) (by decide) (by have := HNV.out; unfold maxLen; omega) (by have := HNV.out; omega) (by first | omega | (simp; omega)) (va.heap.size + 1) (by simp) ?_)
       intro gv cv w7 hown hgrow hat9 hlt9
       have HAF : Hid (Aft va (fun _ => True) (Value.ownBlock (.slice A.a1 Z.V.length A.c1)) (fun v => v.ownsRow base 55 3 (.slice (some ⟨gv, 0, none⟩) (Z.V.length + 1) cv) (Z.V.length + 1) (eV.flat Z.V ++ [.int .i64 vj.1, .int .i64 vj.2.1, .bool vj.2.2])) w7) := mkHid ⟨_, bl_alloc (Below.refl _ _) _, True.intro, hgrow, hown⟩
       have hbx := HAF.out.box HGX.out.box (fun v hv q e hq => by subst hq; obtain ⟨c7, h7⟩ := (HGX.out.below hv).v.block e; have h8 := (HGX.out.below hv).box; rw [h7] at h8; simp at h8)
       have b0 := heap_cell hbx 1
       have b1 := heap_free hbx 1
       simp only [sgC] at b0
       simp at b0
       obtain ⟨w8, hw8⟩ : ∃ z, w7.setCell ⟨Bx, 1, none⟩ (.slice (some ⟨gv, 0, none⟩) (Z.V.length + 1) cv) = z := ⟨_, rfl⟩
       obtain ⟨hg9, hk9⟩ := HGX.out.stepV (x := vj) hbsx ⟨w7, HAF.out, hw8.symm⟩
       have HT1n := mkHid (HT1.out.grow HTC.out hg9 hk9)
       have hbsx := HT1n.out.bs
       clear hown hgrow hat9 hlt9 hbx hg9 hk9 HGX HOX HAF HT1
       clear c0 c1 c2 q0 q1 q2
       obtain ⟨q0, q1, q2, _, _, _⟩ := HT1n.out.g.g3
       clear q0 q1
       have HGX := mkHid HT1n.out.g
       have HOX : Hid (w8.ownsRow base 4 1 (.slice A.a2 Z.M.length A.c2) Z.M.length (eB.flat Z.M)) := mkHid HGX.out.m
       have hbsx := HT1n.out.bs
       go_wp2_with (at_builtin; refine wpList_append_lies _ rfl _ _ 24 rfl base 4 tm (.bool false) 1 1 Tryz.underlying24 HIM.out.1 HIM.out.2.1 HIM.out.2.2.1 HIM.out.2.2.2 rfl (by decide) _ _ _ rfl (World.ownsRow.alloc HOX.out _) ⟨w8.heap.size, 0, none⟩ 1 1 [.bool m] rfl rfl (fun j u hj => news_one w8 _ _ j u hj) (fun u hu => by simp at hu; subst hu; rfl) (by decide) (by have := HNM.out; unfold maxLen; omega) (by have := HNM.out; omega) (by first | omega | (simp; omega)) (w8.heap.size + 1) (by simp) ?_)
       intro gm cm w9 hown hgrow hat9 hlt9
       have HAF : Hid (Aft w8 (fun _ => True) (Value.ownBlock (.slice A.a2 Z.M.length A.c2)) (fun v => v.ownsRow base 4 1 (.slice (some ⟨gm, 0, none⟩) (Z.M.length + 1) cm) (Z.M.length + 1) (eB.flat Z.M ++ [.bool m])) w9) := mkHid ⟨_, bl_alloc (Below.refl _ _) _, True.intro, hgrow, hown⟩
       have hbx := HAF.out.box HGX.out.box (fun v hv q e hq => by subst hq; obtain ⟨c7, h7⟩ := (HGX.out.below hv).m.block e; have h8 := (HGX.out.below hv).box; rw [h7] at h8; simp at h8)
       have b0 := heap_cell hbx 2
       have b1 := heap_free hbx 2
       simp only [sgC] at b0
       simp at b0
       obtain ⟨w10, hw8⟩ : ∃ z, w9.setCell ⟨Bx, 2, none⟩ (.slice (some ⟨gm, 0, none⟩) (Z.M.length + 1) cm) = z := ⟨_, rfl⟩
       obtain ⟨hg9, hk9⟩ := HGX.out.stepM (x := m) hbsx ⟨w9, HAF.out, hw8.symm⟩
       have HT1nn := mkHid (HT1n.out.grow HTC.out hg9 hk9)
       have hbsx := HT1nn.out.bs
       clear hown hgrow hat9 hlt9 hbx hg9 hk9 HGX HOX HAF HT1n
       clear q2
       obtain ⟨A2, hA2⟩ : ∃ z : SAd, ⟨A.a0, A.c0, some ⟨gv, 0, none⟩, cv, some ⟨gm, 0, none⟩, cm⟩ = z := ⟨_, rfl⟩
       obtain ⟨Z2, hZ2⟩ : ∃ z : SG, ⟨Z.B, Z.V ++ [vj], Z.M ++ [m]⟩ = z := ⟨_, rfl⟩
       have HT3 : Hid (TyI w w10 base X1 X2 V4 Bx A0 S ⟨A.a0, A.c0, some ⟨gv, 0, none⟩, cv, some ⟨gm, 0, none⟩, cm⟩ ⟨Z.B, Z.V ++ [vj], Z.M ++ [m]⟩ vj) := mkHid HT1nn.out
       rw [hA2, hZ2] at HT3
       have HZ2 := mkHid hZ2.symm
       clear HT1nn hA2 hZ2
       have HNB : Hid (Z2.B.length ≤ 1048576) := mkHid (by rw [HZ2.out]; exact HNB.out)
       have HG := mkHid HT3.out.g
       have hbs := HT3.out.bs
       obtain ⟨vs, hvs, hin⟩ := HT3.out.g.b
       have HVS := mkHid hvs
       have HIN := mkHid hin
       have HX14 : Hid (∀ v, Below w10.heap.size w10 v → v.cell? ⟨X1, 0, none⟩ = some (.slice (some ⟨bb, ob, none⟩) S.B.length A0.c0)) := mkHid fun v h => by have := heap_cell (HT3.out.below h).x1 0; simpa [sgC, HAB.out] using this
       have HR14 : Hid (∀ v, Below w10.heap.size w10 v → v.cell? ⟨bb, ob + i, none⟩ = some (.slice (some ⟨bl, ol, none⟩) l.length cl)) := mkHid fun v h => HRW.out v (HT3.out.below h).bel
       have HL14 : Hid (∀ v, Below w10.heap.size w10 v → ∀ (i : Nat) (x : Y), l[i]? = some x → ∀ (j : Nat) (u : Value), (eY.enc x)[j]? = some u → v.cell? ⟨bl, ol + i * eY.k + j, none⟩ = some u) := mkHid fun v h => HRL.out v (HT3.out.below h).bel
       clear hvs hin
       go_wp2_with fail
       clear hw8 hz hp hn0 hn1 hn2 e0 e2 dm hrc
       refine wp_region_inv2 (fun zA0 L zA vb => ∃ (zB : Nat → Bool) (zS : Nat → Value) (E : Nat) (g : Option Addr) (c : Nat) (R : Nat) (ga : Nat) (ca : Nat), L = #[zB 0, zB 1, zB 2, zB 3, zB 4, zB 5, zB 6, zB 7, zB 8, zB 9, zB 10, zB 11, zB 12] ∧ zA = puts zA0 [(56, zS 56), (57, zS 57), (58, zS 58), (59, zS 59), (60, zS 60), (61, zS 61), (62, zS 62), (63, zS 63), (64, zS 64), (65, zS 65), (66, zS 66), (67, zS 67)] ∧ ((zB 0 = true → zS 56 = .pointer (some ⟨Bx, 0, none⟩)) ∧ (zB 1 = true → zS 57 = .slice A2.a0 Z2.B.length A2.c0) ∧ (zB 2 = true → zS 58 = .slice (some ⟨E, 0, none⟩) 0 0) ∧ (zB 3 = true → zS 59 = .pointer (some ⟨X1, 0, none⟩)) ∧ (zB 4 = true → zS 60 = .slice (some ⟨bb, ob, none⟩) S.B.length A0.c0) ∧ (zB 5 = true → zS 61 = .int .i64 (i : Int)) ∧ (zB 6 = true → zS 62 = .pointer (some ⟨bb, ob + i, none⟩)) ∧ (zB 7 = true → zS 63 = .slice (some ⟨bl, ol, none⟩) l.length cl) ∧ (zB 8 = true → zS 64 = .slice g l.length c) ∧ (zB 9 = true → zS 65 = .slice (some ⟨R, 0, none⟩) 1 1) ∧ (zB 10 = true → zS 66 = .slice (some ⟨ga, 0, none⟩) (Z2.B.length + 1) ca) ∧ (zB 11 = true → zS 67 = .pointer (some ⟨Bx, 0, none⟩))) ∧ (Ap w10 vb (zB 8) (zB 9) (zB 10) (zB 12) (fun v => Own eY 49 v w10.heap.size (.slice g l.length c) l) R [.slice g l.length c] (Value.ownBlock (.slice A2.a0 Z2.B.length A2.c0)) (fun v => v.ownsRow base 113 1 (.slice (some ⟨ga, 0, none⟩) (Z2.B.length + 1) ca) (Z2.B.length + 1) (vs ++ [.slice g l.length c])) Bx 0 (.slice (some ⟨ga, 0, none⟩) (Z2.B.length + 1) ca)) ∧ ((zB 6) = true → (zB 4) = true) ∧ ((zB 8) = true → (zB 2) = true ∧ (zB 7) = true) ∧ ((zB 9) = true → (zB 8) = true) ∧ ((zB 10) = true → (zB 1) = true ∧ (zB 9) = true) ∧ ((zB 12) = true → (zB 10) = true) ∧ ((zB 7) = true → (zB 6) = true) ∧ ((zB 2) = true → (zB 8) = false → Own eY 49 vb w10.heap.size (.slice (some ⟨E, 0, none⟩) 0 0) [])) (by kernel_rfl) ?_ ?_ ?_
       ·exact ⟨fun _ => false, fun zd => if zd = 67 then u67 else if zd = 66 then u66 else if zd = 65 then u65 else if zd = 64 then u64 else if zd = 63 then u63 else if zd = 62 then u62 else if zd = 61 then u61 else if zd = 60 then u60 else if zd = 59 then u59 else if zd = 58 then u58 else if zd = 57 then u57 else if zd = 56 then u56 else undef, 0, none, 0, 0, 0, 0, rfl, by kernel_rfl, ⟨fun e => ft e, fun e => ft e, fun e => ft e, fun e => ft e, fun e => ft e, fun e => ft e, fun e => ft e, fun e => ft e, fun e => ft e, fun e => ft e, fun e => ft e, fun e => ft e⟩, ⟨Ap.start _ _ _ _ _ _ _ _ _, fun e => ft e, fun e => ft e, fun e => ft e, fun e => ft e, fun e => ft e, fun e => ft e, fun e => ft e⟩⟩
       ·refine StepsI.cons rfl ?_ ?_
        ·rintro L zA vb ⟨zB, zS, E, g, c, R, ga, ca, rfl, rfl, hF, hW⟩ hL hm K hK
         have hb0 : zB 0 = false := by simpa using hL
         clear hL hm
         simp only [pE]
         have HWz := mkHid hW
         clear hW
         go_simp
         have hW := HWz.out
         clear HWz
         exact hK.out _ _ ⟨fun zj => if zj = 0 then true else zB zj, fun zd => if zd = 56 then .pointer (some ⟨Bx, 0, none⟩) else zS zd, E, g, c, R, ga, ca, rfl, by kernel_rfl, ⟨fun _ => rfl, hF.2.1, hF.2.2.1, hF.2.2.2.1, hF.2.2.2.2.1, hF.2.2.2.2.2.1, hF.2.2.2.2.2.2.1, hF.2.2.2.2.2.2.2.1, hF.2.2.2.2.2.2.2.2.1, hF.2.2.2.2.2.2.2.2.2.1, hF.2.2.2.2.2.2.2.2.2.2.1, hF.2.2.2.2.2.2.2.2.2.2.2⟩, hW⟩
        refine StepsI.cons rfl ?_ ?_
        ·rintro L zA vb ⟨zB, zS, E, g, c, R, ga, ca, rfl, rfl, hF, hW⟩ hL hm K hK
         have hb1 : zB 1 = false := by simpa using hL
         have hb0 : zB 0 = true := mt 0 hm (by kernel_rfl)
         have e0 : zS 56 = .pointer (some ⟨Bx, 0, none⟩) := hF.1 hb0
         clear hL hm
         rw [hb1] at hW
         simp only [pE]
         simp only [e0]
         have hf10 : zB 10 = false := by cases e : zB 10 with | false => rfl | true => exact ft ((hW.2.2.2.2.1 e).1)
         have hf12 : zB 12 = false := by cases e : zB 12 with | false => rfl | true => exact ft (hf10.symm.trans (hW.2.2.2.2.2.1 e))
         have hpre := hW.1.pre hf10
         obtain ⟨q0, q1, q2, _, _, _⟩ := (HG.out.below hpre).g3
         have HWz := mkHid hW
         clear hW
         go_simp
         have hW := HWz.out
         clear HWz
         exact hK.out _ _ ⟨fun zj => if zj = 0 then true else if zj = 1 then true else zB zj, fun zd => if zd = 57 then .slice A2.a0 Z2.B.length A2.c0 else if zd = 56 then .pointer (some ⟨Bx, 0, none⟩) else zS zd, E, g, c, R, ga, ca, by simp [hb0], by kernel_rfl, ⟨fun _ => rfl, fun _ => rfl, hF.2.2.1, hF.2.2.2.1, hF.2.2.2.2.1, hF.2.2.2.2.2.1, hF.2.2.2.2.2.2.1, hF.2.2.2.2.2.2.2.1, hF.2.2.2.2.2.2.2.2.1, hF.2.2.2.2.2.2.2.2.2.1, hF.2.2.2.2.2.2.2.2.2.2.1, hF.2.2.2.2.2.2.2.2.2.2.2⟩, ⟨hW.1, hW.2.1, hW.2.2.1, hW.2.2.2.1, fun e => ft (hf10.symm.trans e), fun e => ft (hf12.symm.trans e), hW.2.2.2.2.2.2.1, hW.2.2.2.2.2.2.2⟩⟩
        refine StepsI.cons rfl ?_ ?_
        ·rintro L zA vb ⟨zB, zS, E, g, c, R, ga, ca, rfl, rfl, hF, hW⟩ hL hm K hK
         have hb2 : zB 2 = false := by simpa using hL
         clear hL hm
         rw [hb2] at hW
         simp only [pE]
         have hf8 : zB 8 = false := by cases e : zB 8 with | false => rfl | true => exact ft ((hW.2.2.1 e).1)
         have hf9 : zB 9 = false := by cases e : zB 9 with | false => rfl | true => exact ft (hf8.symm.trans (hW.2.2.2.1 e))
         have hf10 : zB 10 = false := by cases e : zB 10 with | false => rfl | true => exact ft (hf9.symm.trans (hW.2.2.2.2.1 e).2)
         have hf12 : zB 12 = false := by cases e : zB 12 with | false => rfl | true => exact ft (hf10.symm.trans (hW.2.2.2.2.2.1 e))
         have hpre := hW.1.pre hf10
         have HWz := mkHid hW
         clear hW
         go_simp
         have hW := HWz.out
         clear HWz
         exact hK.out _ _ ⟨fun zj => if zj = 2 then true else zB zj, fun zd => if zd = 58 then .slice (some ⟨vb.heap.size, 0, none⟩) 0 0 else zS zd, vb.heap.size, g, c, R, ga, ca, rfl, by kernel_rfl, ⟨hF.1, hF.2.1, fun _ => rfl, hF.2.2.2.1, hF.2.2.2.2.1, hF.2.2.2.2.2.1, hF.2.2.2.2.2.2.1, hF.2.2.2.2.2.2.2.1, hF.2.2.2.2.2.2.2.2.1, hF.2.2.2.2.2.2.2.2.2.1, hF.2.2.2.2.2.2.2.2.2.2.1, hF.2.2.2.2.2.2.2.2.2.2.2⟩, ⟨hW.1.more hf8 hf9 hf10 hf12 (bl_alloc (Below.refl _ _) _), hW.2.1, fun e => ft (hf8.symm.trans e), fun e => ft (hf9.symm.trans e), fun e => ft (hf10.symm.trans e), fun e => ft (hf12.symm.trans e), hW.2.2.2.2.2.2.1, fun _ _ => fresh_y hpre.size (by have := heap_alloc_new vb (.cells #[] 49); simpa using this)⟩⟩
        refine StepsI.cons rfl ?_ ?_
        ·rintro L zA vb ⟨zB, zS, E, g, c, R, ga, ca, rfl, rfl, hF, hW⟩ hL hm K hK
         have hb3 : zB 3 = false := by simpa using hL
         clear hL hm
         simp only [pE]
         have HWz := mkHid hW
         clear hW
         go_simp
         have hW := HWz.out
         clear HWz
         exact hK.out _ _ ⟨fun zj => if zj = 3 then true else zB zj, fun zd => if zd = 59 then .pointer (some ⟨X1, 0, none⟩) else zS zd, E, g, c, R, ga, ca, rfl, by kernel_rfl, ⟨hF.1, hF.2.1, hF.2.2.1, fun _ => rfl, hF.2.2.2.2.1, hF.2.2.2.2.2.1, hF.2.2.2.2.2.2.1, hF.2.2.2.2.2.2.2.1, hF.2.2.2.2.2.2.2.2.1, hF.2.2.2.2.2.2.2.2.2.1, hF.2.2.2.2.2.2.2.2.2.2.1, hF.2.2.2.2.2.2.2.2.2.2.2⟩, hW⟩
        refine StepsI.cons rfl ?_ ?_
        ·rintro L zA vb ⟨zB, zS, E, g, c, R, ga, ca, rfl, rfl, hF, hW⟩ hL hm K hK
         have hb4 : zB 4 = false := by simpa using hL
         have hb3 : zB 3 = true := mt 3 hm (by kernel_rfl)
         have e3 : zS 59 = .pointer (some ⟨X1, 0, none⟩) := hF.2.2.2.1 hb3
         clear hL hm
         rw [hb4] at hW
         simp only [pE]
         simp only [e3]
         have hf6 : zB 6 = false := by cases e : zB 6 with | false => rfl | true => exact ft ((hW.2.1 e))
         have hf7 : zB 7 = false := by cases e : zB 7 with | false => rfl | true => exact ft (hf6.symm.trans (hW.2.2.2.2.2.2.1 e))
         have hf8 : zB 8 = false := by cases e : zB 8 with | false => rfl | true => exact ft (hf7.symm.trans (hW.2.2.1 e).2)
         have hf9 : zB 9 = false := by cases e : zB 9 with | false => rfl | true => exact ft (hf8.symm.trans (hW.2.2.2.1 e))
         have hf10 : zB 10 = false := by cases e : zB 10 with | false => rfl | true => exact ft (hf9.symm.trans (hW.2.2.2.2.1 e).2)
         have hf12 : zB 12 = false := by cases e : zB 12 with | false => rfl | true => exact ft (hf10.symm.trans (hW.2.2.2.2.2.1 e))
         have hpre := hW.1.pre hf10
         have q0 := HX14.out vb hpre
         have HWz := mkHid hW
         clear hW
         go_simp
         have hW := HWz.out
         clear HWz
         exact hK.out _ _ ⟨fun zj => if zj = 3 then true else if zj = 4 then true else zB zj, fun zd => if zd = 60 then .slice (some ⟨bb, ob, none⟩) S.B.length A0.c0 else if zd = 59 then .pointer (some ⟨X1, 0, none⟩) else zS zd, E, g, c, R, ga, ca, by simp [hb3], by kernel_rfl, ⟨hF.1, hF.2.1, hF.2.2.1, fun _ => rfl, fun _ => rfl, hF.2.2.2.2.2.1, hF.2.2.2.2.2.2.1, hF.2.2.2.2.2.2.2.1, hF.2.2.2.2.2.2.2.2.1, hF.2.2.2.2.2.2.2.2.2.1, hF.2.2.2.2.2.2.2.2.2.2.1, hF.2.2.2.2.2.2.2.2.2.2.2⟩, ⟨hW.1, fun e => ft (hf6.symm.trans e), fun e => ft (hf8.symm.trans e), fun e => ft (hf9.symm.trans e), fun e => ft (hf10.symm.trans e), fun e => ft (hf12.symm.trans e), fun e => ft (hf7.symm.trans e), hW.2.2.2.2.2.2.2⟩⟩
        refine StepsI.cons rfl ?_ ?_
        ·rintro L zA vb ⟨zB, zS, E, g, c, R, ga, ca, rfl, rfl, hF, hW⟩ hL hm K hK
         have hb5 : zB 5 = false := by simpa using hL
         clear hL hm
         simp only [pE]
         have HWz := mkHid hW
         clear hW
         go_simp
         have hW := HWz.out
         clear HWz
         exact hK.out _ _ ⟨fun zj => if zj = 5 then true else zB zj, fun zd => if zd = 61 then .int .i64 (i : Int) else zS zd, E, g, c, R, ga, ca, rfl, by kernel_rfl, ⟨hF.1, hF.2.1, hF.2.2.1, hF.2.2.2.1, hF.2.2.2.2.1, fun _ => rfl, hF.2.2.2.2.2.2.1, hF.2.2.2.2.2.2.2.1, hF.2.2.2.2.2.2.2.2.1, hF.2.2.2.2.2.2.2.2.2.1, hF.2.2.2.2.2.2.2.2.2.2.1, hF.2.2.2.2.2.2.2.2.2.2.2⟩, hW⟩
        refine StepsI.cons rfl ?_ ?_
        ·rintro L zA vb ⟨zB, zS, E, g, c, R, ga, ca, rfl, rfl, hF, hW⟩ hL hm K hK
         have hb6 : zB 6 = false := by simpa using hL
         have hb4 : zB 4 = true := mt 4 hm (by kernel_rfl)
         have hb5 : zB 5 = true := mt 5 hm (by kernel_rfl)
         have e4 : zS 60 = .slice (some ⟨bb, ob, none⟩) S.B.length A0.c0 := hF.2.2.2.2.1 hb4
         have e5 : zS 61 = .int .i64 (i : Int) := hF.2.2.2.2.2.1 hb5
         clear hL hm
         rw [hb6] at hW
         rw [hb4] at hW
         simp only [pE]
         simp only [e4, e5]
         have hf7 : zB 7 = false := by cases e : zB 7 with | false => rfl | true => exact ft ((hW.2.2.2.2.2.2.1 e))
         have hf8 : zB 8 = false := by cases e : zB 8 with | false => rfl | true => exact ft (hf7.symm.trans (hW.2.2.1 e).2)
         have hf9 : zB 9 = false := by cases e : zB 9 with | false => rfl | true => exact ft (hf8.symm.trans (hW.2.2.2.1 e))
         have hf10 : zB 10 = false := by cases e : zB 10 with | false => rfl | true => exact ft (hf9.symm.trans (hW.2.2.2.2.1 e).2)
         have hf12 : zB 12 = false := by cases e : zB 12 with | false => rfl | true => exact ft (hf10.symm.trans (hW.2.2.2.2.2.1 e))
         have HWz := mkHid hW
         clear hW
         go_simp
         have hW := HWz.out
         clear HWz
         exact hK.out _ _ ⟨fun zj => if zj = 5 then true else if zj = 4 then true else if zj = 6 then true else zB zj, fun zd => if zd = 62 then .pointer (some ⟨bb, ob + i, none⟩) else if zd = 61 then .int .i64 (i : Int) else if zd = 60 then .slice (some ⟨bb, ob, none⟩) S.B.length A0.c0 else zS zd, E, g, c, R, ga, ca, by simp [hb4, hb5], by kernel_rfl, ⟨hF.1, hF.2.1, hF.2.2.1, hF.2.2.2.1, fun _ => rfl, fun _ => rfl, fun _ => rfl, hF.2.2.2.2.2.2.2.1, hF.2.2.2.2.2.2.2.2.1, hF.2.2.2.2.2.2.2.2.2.1, hF.2.2.2.2.2.2.2.2.2.2.1, hF.2.2.2.2.2.2.2.2.2.2.2⟩, ⟨hW.1, fun _ => rfl, fun e => ft (hf8.symm.trans e), fun e => ft (hf9.symm.trans e), fun e => ft (hf10.symm.trans e), fun e => ft (hf12.symm.trans e), fun e => ft (hf7.symm.trans e), hW.2.2.2.2.2.2.2⟩⟩
        refine StepsI.cons rfl ?_ ?_
        ·rintro L zA vb ⟨zB, zS, E, g, c, R, ga, ca, rfl, rfl, hF, hW⟩ hL hm K hK
         have hb7 : zB 7 = false := by simpa using hL
         have hb6 : zB 6 = true := mt 6 hm (by kernel_rfl)
         have e6 : zS 62 = .pointer (some ⟨bb, ob + i, none⟩) := hF.2.2.2.2.2.2.1 hb6
         clear hL hm
         rw [hb7] at hW
         rw [hb6] at hW
         simp only [pE]
         simp only [e6]
         have hf8 : zB 8 = false := by cases e : zB 8 with | false => rfl | true => exact ft ((hW.2.2.1 e).2)
         have hf9 : zB 9 = false := by cases e : zB 9 with | false => rfl | true => exact ft (hf8.symm.trans (hW.2.2.2.1 e))
         have hf10 : zB 10 = false := by cases e : zB 10 with | false => rfl | true => exact ft (hf9.symm.trans (hW.2.2.2.2.1 e).2)
         have hf12 : zB 12 = false := by cases e : zB 12 with | false => rfl | true => exact ft (hf10.symm.trans (hW.2.2.2.2.2.1 e))
         have hpre := hW.1.pre hf10
         have q0 := HR14.out vb hpre
         have HWz := mkHid hW
         clear hW
         go_simp
         have hW := HWz.out
         clear HWz
         exact hK.out _ _ ⟨fun zj => if zj = 6 then true else if zj = 7 then true else zB zj, fun zd => if zd = 63 then .slice (some ⟨bl, ol, none⟩) l.length cl else if zd = 62 then .pointer (some ⟨bb, ob + i, none⟩) else zS zd, E, g, c, R, ga, ca, by simp [hb6], by kernel_rfl, ⟨hF.1, hF.2.1, hF.2.2.1, hF.2.2.2.1, hF.2.2.2.2.1, hF.2.2.2.2.2.1, fun _ => rfl, fun _ => rfl, hF.2.2.2.2.2.2.2.2.1, hF.2.2.2.2.2.2.2.2.2.1, hF.2.2.2.2.2.2.2.2.2.2.1, hF.2.2.2.2.2.2.2.2.2.2.2⟩, ⟨hW.1, hW.2.1, fun e => ft (hf8.symm.trans e), fun e => ft (hf9.symm.trans e), fun e => ft (hf10.symm.trans e), fun e => ft (hf12.symm.trans e), fun _ => rfl, hW.2.2.2.2.2.2.2⟩⟩
        refine StepsI.cons rfl ?_ ?_
        ·rintro L zA vb ⟨zB, zS, E, g, c, R, ga, ca, rfl, rfl, hF, hW⟩ hL hm K hK
         have hb8 : zB 8 = false := by simpa using hL
         have hb2 : zB 2 = true := mt 2 hm (by kernel_rfl)
         have hb7 : zB 7 = true := mt 7 hm (by kernel_rfl)
         have e2 : zS 58 = .slice (some ⟨E, 0, none⟩) 0 0 := hF.2.2.1 hb2
         have e7 : zS 63 = .slice (some ⟨bl, ol, none⟩) l.length cl := hF.2.2.2.2.2.2.2.1 hb7
         clear hL hm
         rw [hb8] at hW
         rw [hb2] at hW
         rw [hb7] at hW
         simp only [pE]
         simp only [e2, e7]
         have hf9 : zB 9 = false := by cases e : zB 9 with | false => rfl | true => exact ft ((hW.2.2.2.1 e))
         have hf10 : zB 10 = false := by cases e : zB 10 with | false => rfl | true => exact ft (hf9.symm.trans (hW.2.2.2.2.1 e).2)
         have hf12 : zB 12 = false := by cases e : zB 12 with | false => rfl | true => exact ft (hf10.symm.trans (hW.2.2.2.2.2.1 e))
         have hpre := hW.1.pre hf10
         have hfr := hW.2.2.2.2.2.2.2 rfl rfl
         rw [if_pos (by rfl)]
         refine wp_append_lies _ _ _ 113 rfl w10.heap.size 49 ty (.agg #[.int .i64 0, .int .i64 0]) 2 16 Tryz.underlying113 HIY.out.1 HIY.out.2.1 HIY.out.2.2.1 HIY.out.2.2.2 rfl (by decide) (.slice (some ⟨E, 0, none⟩) 0 0) 0 [] rfl hfr ⟨bl, ol, none⟩ l.length cl (eY.flat l) rfl (eY.flat_len l) (news_at (HL14.out vb hpre)) (fun u hu => flat_one hu) HLP.out (by have := HLL.out; unfold maxLen; omega) (by have := HLL.out; omega) hpre.size vb.heap.size rfl ?_
         intro g9 c9 vb2 hown hgrow hat9 hlt9
         have hbr : Below w10.heap.size w10 vb2 := hpre.grown hgrow hpre.size (fun q hq => (hfr.lt hq).1)
         have hown9 : Own eY 49 vb2 w10.heap.size (.slice (some ⟨g9, 0, none⟩) l.length c9) l := by have h := hown; simp only [Nat.zero_add, List.nil_append] at h; exact h
         simp only [Nat.zero_add]
         exact hK.out _ _ ⟨fun zj => if zj = 7 then true else if zj = 2 then true else if zj = 8 then true else zB zj, fun zd => if zd = 64 then .slice (some ⟨g9, 0, none⟩) l.length c9 else if zd = 63 then .slice (some ⟨bl, ol, none⟩) l.length cl else if zd = 58 then .slice (some ⟨E, 0, none⟩) 0 0 else zS zd, E, (some ⟨g9, 0, none⟩), c9, R, ga, ca, by simp [hb2, hb7], by kernel_rfl, ⟨hF.1, hF.2.1, fun _ => rfl, hF.2.2.2.1, hF.2.2.2.2.1, hF.2.2.2.2.2.1, hF.2.2.2.2.2.2.1, fun _ => rfl, fun _ => rfl, hF.2.2.2.2.2.2.2.2.2.1, hF.2.2.2.2.2.2.2.2.2.2.1, hF.2.2.2.2.2.2.2.2.2.2.2⟩, ⟨hW.1.elemr hf9 hf10 hf12 hbr (hown9), hW.2.1, fun _ => ⟨rfl, rfl⟩, fun e => ft (hf9.symm.trans e), fun e => ft (hf10.symm.trans e), fun e => ft (hf12.symm.trans e), fun _ => hW.2.2.2.2.2.2.1 (by trivial), fun _ e => tf e⟩⟩
        refine StepsI.cons rfl ?_ ?_
        ·rintro L zA vb ⟨zB, zS, E, g, c, R, ga, ca, rfl, rfl, hF, hW⟩ hL hm K hK
         have hb9 : zB 9 = false := by simpa using hL
         have hb8 : zB 8 = true := mt 8 hm (by kernel_rfl)
         have e8 : zS 64 = .slice g l.length c := hF.2.2.2.2.2.2.2.2.1 hb8
         clear hL hm
         rw [hb9] at hW
         rw [hb8] at hW
         simp only [pE]
         simp only [e8]
         have hf10 : zB 10 = false := by cases e : zB 10 with | false => rfl | true => exact ft ((hW.2.2.2.2.1 e).2)
         have hf12 : zB 12 = false := by cases e : zB 12 with | false => rfl | true => exact ft (hf10.symm.trans (hW.2.2.2.2.2.1 e))
         have hpre := hW.1.pre hf10
         have HWz := mkHid hW
         clear hW
         go_simp
         have hW := HWz.out
         clear HWz
         exact hK.out _ _ ⟨fun zj => if zj = 8 then true else if zj = 9 then true else zB zj, fun zd => if zd = 65 then .slice (some ⟨vb.heap.size, 0, none⟩) 1 1 else if zd = 64 then .slice g l.length c else zS zd, E, g, c, vb.heap.size, ga, ca, by simp [hb8], by kernel_rfl, ⟨hF.1, hF.2.1, hF.2.2.1, hF.2.2.2.1, hF.2.2.2.2.1, hF.2.2.2.2.2.1, hF.2.2.2.2.2.2.1, hF.2.2.2.2.2.2.2.1, fun _ => rfl, fun _ => rfl, hF.2.2.2.2.2.2.2.2.2.2.1, hF.2.2.2.2.2.2.2.2.2.2.2⟩, ⟨hW.1.lay hf10 hf12 (fun _ _ h hb => Own.below h hb) rfl, hW.2.1, hW.2.2.1, fun _ => rfl, fun e => ft (hf10.symm.trans e), fun e => ft (hf12.symm.trans e), hW.2.2.2.2.2.2.1, fun _ e => tf e⟩⟩
        refine StepsI.cons rfl ?_ ?_
        ·rintro L zA vb ⟨zB, zS, E, g, c, R, ga, ca, rfl, rfl, hF, hW⟩ hL hm K hK
         have hb10 : zB 10 = false := by simpa using hL
         have hb1 : zB 1 = true := mt 1 hm (by kernel_rfl)
         have hb9 : zB 9 = true := mt 9 hm (by kernel_rfl)
         have e1 : zS 57 = .slice A2.a0 Z2.B.length A2.c0 := hF.2.1 hb1
         have e9 : zS 65 = .slice (some ⟨R, 0, none⟩) 1 1 := hF.2.2.2.2.2.2.2.2.2.1 hb9
         clear hL hm
         rw [hb10] at hW
         rw [hb1] at hW
         rw [hb9] at hW
         simp only [pE]
         simp only [e1, e9]
         have hf12 : zB 12 = false := by cases e : zB 12 with | false => rfl | true => exact ft ((hW.2.2.2.2.2.1 e))
         have hpre := hW.1.pre rfl
         rw [if_pos (by rfl)]
         refine wp_append_lies _ _ _ 32 rfl base 113 tb (.slice none 0 0) 1 24 Tryz.underlying32 HIB.out.1 HIB.out.2.1 HIB.out.2.2.1 HIB.out.2.2.2 rfl (by decide) (.slice A2.a0 Z2.B.length A2.c0) Z2.B.length (vs) rfl (owns_below HVS.out hpre) ⟨R, 0, none⟩ 1 1 [.slice g l.length c] rfl rfl (hW.1.tmp rfl rfl) (fun u hu => by simp at hu; subst hu; rfl) (by decide) (by have := HNB.out; unfold maxLen; omega) (by have := HNB.out; omega) (Nat.le_trans hbs hpre.size) vb.heap.size rfl ?_
         intro ga9 ca9 vb2 hown hgrow hat9 hlt9
         exact hK.out _ _ ⟨fun zj => if zj = 9 then true else if zj = 1 then true else if zj = 10 then true else zB zj, fun zd => if zd = 66 then .slice (some ⟨ga9, 0, none⟩) (Z2.B.length + 1) ca9 else if zd = 65 then .slice (some ⟨R, 0, none⟩) 1 1 else if zd = 57 then .slice A2.a0 Z2.B.length A2.c0 else zS zd, E, g, c, R, ga9, ca9, by simp [hb1, hb9], by kernel_rfl, ⟨hF.1, fun _ => rfl, hF.2.2.1, hF.2.2.2.1, hF.2.2.2.2.1, hF.2.2.2.2.2.1, hF.2.2.2.2.2.2.1, hF.2.2.2.2.2.2.2.1, hF.2.2.2.2.2.2.2.2.1, fun _ => rfl, fun _ => rfl, hF.2.2.2.2.2.2.2.2.2.2.2⟩, ⟨hW.1.app ((hW.2.2.2.1 rfl)) hf12 hgrow hown, hW.2.1, hW.2.2.1, hW.2.2.2.1, fun _ => ⟨rfl, rfl⟩, fun e => ft (hf12.symm.trans e), hW.2.2.2.2.2.2.1, fun _ e8 => ft (e8.symm.trans (hW.2.2.2.1 rfl))⟩⟩
        refine StepsI.cons rfl ?_ ?_
        ·rintro L zA vb ⟨zB, zS, E, g, c, R, ga, ca, rfl, rfl, hF, hW⟩ hL hm K hK
         have hb11 : zB 11 = false := by simpa using hL
         clear hL hm
         simp only [pE]
         have HWz := mkHid hW
         clear hW
         go_simp
         have hW := HWz.out
         clear HWz
         exact hK.out _ _ ⟨fun zj => if zj = 11 then true else zB zj, fun zd => if zd = 67 then .pointer (some ⟨Bx, 0, none⟩) else zS zd, E, g, c, R, ga, ca, rfl, by kernel_rfl, ⟨hF.1, hF.2.1, hF.2.2.1, hF.2.2.2.1, hF.2.2.2.2.1, hF.2.2.2.2.2.1, hF.2.2.2.2.2.2.1, hF.2.2.2.2.2.2.2.1, hF.2.2.2.2.2.2.2.2.1, hF.2.2.2.2.2.2.2.2.2.1, hF.2.2.2.2.2.2.2.2.2.2.1, fun _ => rfl⟩, hW⟩
        refine StepsI.cons rfl ?_ ?_
        ·rintro L zA vb ⟨zB, zS, E, g, c, R, ga, ca, rfl, rfl, hF, hW⟩ hL hm K hK
         have hb12 : zB 12 = false := by simpa using hL
         have hb10 : zB 10 = true := mt 10 hm (by kernel_rfl)
         have hb11 : zB 11 = true := mt 11 hm (by kernel_rfl)
         have e10 : zS 66 = .slice (some ⟨ga, 0, none⟩) (Z2.B.length + 1) ca := hF.2.2.2.2.2.2.2.2.2.2.1 hb10
         have e11 : zS 67 = .pointer (some ⟨Bx, 0, none⟩) := hF.2.2.2.2.2.2.2.2.2.2.2 hb11
         clear hL hm
         rw [hb12] at hW
         rw [hb10] at hW
         simp only [pE]
         simp only [e10, e11]
         have hbx := (hW.1.aft rfl rfl).box HG.out.box (fun v hv q e hq => by subst hq; obtain ⟨c7, h7⟩ := owns_block (owns_below HVS.out hv) e; have h8 := (hv.block _ (heap_lt HG.out.box)).trans HG.out.box; rw [h7] at h8; simp at h8)
         have q0 := heap_cell hbx 0
         have f0 := heap_free hbx 0
         simp only [sgC] at q0
         simp at q0
         have HWz := mkHid hW
         clear hW
         go_simp
         have hW := HWz.out
         clear HWz
         exact hK.out _ _ ⟨fun zj => if zj = 11 then true else if zj = 10 then true else if zj = 12 then true else zB zj, fun zd => if zd = 67 then .pointer (some ⟨Bx, 0, none⟩) else if zd = 66 then .slice (some ⟨ga, 0, none⟩) (Z2.B.length + 1) ca else zS zd, E, g, c, R, ga, ca, by simp [hb10, hb11], by kernel_rfl, ⟨hF.1, hF.2.1, hF.2.2.1, hF.2.2.2.1, hF.2.2.2.2.1, hF.2.2.2.2.2.1, hF.2.2.2.2.2.2.1, hF.2.2.2.2.2.2.2.1, hF.2.2.2.2.2.2.2.2.1, hF.2.2.2.2.2.2.2.2.2.1, fun _ => rfl, fun _ => rfl⟩, ⟨hW.1.store, hW.2.1, hW.2.2.1, hW.2.2.2.1, hW.2.2.2.2.1, fun _ => rfl, hW.2.2.2.2.2.2.1, fun _ e8 => ft (e8.symm.trans (hW.2.2.2.1 (hW.2.2.2.2.1 rfl).2))⟩⟩
        exact StepsI.nil (by kernel_rfl)
       ·rintro L zA vb ⟨zB, zS, E, g, c, R, ga, ca, rfl, rfl, hF, hW⟩ hr
        have hu := all_up (by kernel_rfl) (N := 13) (by kernel_rfl) hr
        have hb0 : zB 0 = true := by simpa using hu 0 (by decide)
        have hb1 : zB 1 = true := by simpa using hu 1 (by decide)
        have hb2 : zB 2 = true := by simpa using hu 2 (by decide)
        have hb3 : zB 3 = true := by simpa using hu 3 (by decide)
        have hb4 : zB 4 = true := by simpa using hu 4 (by decide)
        have hb5 : zB 5 = true := by simpa using hu 5 (by decide)
        have hb6 : zB 6 = true := by simpa using hu 6 (by decide)
        have hb7 : zB 7 = true := by simpa using hu 7 (by decide)
        have hb8 : zB 8 = true := by simpa using hu 8 (by decide)
        have hb9 : zB 9 = true := by simpa using hu 9 (by decide)
        have hb10 : zB 10 = true := by simpa using hu 10 (by decide)
        have hb11 : zB 11 = true := by simpa using hu 11 (by decide)
        have hb12 : zB 12 = true := by simpa using hu 12 (by decide)
        have e0 : zS 56 = .pointer (some ⟨Bx, 0, none⟩) := hF.1 hb0
        have e1 : zS 57 = .slice A2.a0 Z2.B.length A2.c0 := hF.2.1 hb1
        have e2 : zS 58 = .slice (some ⟨E, 0, none⟩) 0 0 := hF.2.2.1 hb2
        have e3 : zS 59 = .pointer (some ⟨X1, 0, none⟩) := hF.2.2.2.1 hb3
        have e4 : zS 60 = .slice (some ⟨bb, ob, none⟩) S.B.length A0.c0 := hF.2.2.2.2.1 hb4
        have e5 : zS 61 = .int .i64 (i : Int) := hF.2.2.2.2.2.1 hb5
        have e6 : zS 62 = .pointer (some ⟨bb, ob + i, none⟩) := hF.2.2.2.2.2.2.1 hb6
        have e7 : zS 63 = .slice (some ⟨bl, ol, none⟩) l.length cl := hF.2.2.2.2.2.2.2.1 hb7
        have e8 : zS 64 = .slice g l.length c := hF.2.2.2.2.2.2.2.2.1 hb8
        have e9 : zS 65 = .slice (some ⟨R, 0, none⟩) 1 1 := hF.2.2.2.2.2.2.2.2.2.1 hb9
        have e10 : zS 66 = .slice (some ⟨ga, 0, none⟩) (Z2.B.length + 1) ca := hF.2.2.2.2.2.2.2.2.2.2.1 hb10
        have e11 : zS 67 = .pointer (some ⟨Bx, 0, none⟩) := hF.2.2.2.2.2.2.2.2.2.2.2 hb11
        rw [hb1] at hW
        rw [hb2] at hW
        rw [hb4] at hW
        rw [hb6] at hW
        rw [hb7] at hW
        rw [hb8] at hW
        rw [hb9] at hW
        rw [hb10] at hW
        rw [hb12] at hW
        clear hu hr hF
        simp only [pE]
        simp only [e0, e1, e2, e3, e4, e5, e6, e7, e8, e9, e10, e11]
        clear e0 e1 e2 e3 e4 e5 e6 e7 e8 e9 e10 e11
        clear hb0 hb1 hb2 hb3 hb4 hb5 hb6 hb7 hb8 hb9 hb10 hb11 hb12
        clear zB zS
        obtain ⟨hg9, hk9⟩ := HG.out.stepB hbs HVS.out HIN.out (hW.1.fin rfl)
        have HT9 := mkHid (HT3.out.grow HTC.out hg9 hk9)
        clear hW hg9 hk9 HG HVS HIN HX14 HR14 HL14 hbs HT3
        go_wp2_with fail
        refine (sVnone_any _).mono ?_
        rintro e wx ⟨rfl, hb⟩
        have HT10 := mkHid (HT9.out.below hb)
        have hC := HT10.out.v4
        obtain ⟨c0, c1, c2⟩ := vC_cells hC
        have f0 := heap_free hC 0
        have f1 := heap_free hC 1
        have f2 := heap_free hC 2
        have HTF := mkHid (HT10.out.setV (v' := noneV) HTC.out (Only.trans (Only.trans (Only.set wx V4 0 (.int .i64 1)) (Only.set _ V4 1 (.int .i64 0))) (Only.set _ V4 2 (.bool true))) (by rw [heap_set_self (heap_set_self (heap_set_self hC _ _) _ _) _ _]; rfl))
        clear hb hC HT9 HT10
        go_wp2
        go_roundg (S.B.length - (i + 1))
        case measure => omega
        case rel => exact ⟨i + 1, true, _, ⟨Z.B ++ [l], Z.V ++ [vj], Z.M ++ [m]⟩, noneV, by omega, by go_num, rfl, Nat.le_refl _, HNX.out, (by have h := HTF.out; rw [HZ2.out] at h; exact h), HLZ.out⟩
  ·have i1 : ¬ (i : Int) < (S.B.length : Int) := by omega
   have HSE : Hid (TS = Z) := mkHid (HTS.out.symm.trans (HTE.out.last (by omega) (by have := HK1.out; omega)))
   have HGS := mkHid HTI.out.g
   have hx2 := HTI.out.x2
   obtain ⟨q0, q1, q2, _, _, _⟩ := HGS.out.g3
   have z0 := heap_cell hx2 0
   have z1 := heap_cell hx2 1
   have z2 := heap_cell hx2 2
   have y0 := heap_free hx2 0
   have y1 := heap_free hx2 1
   have y2 := heap_free hx2 2
   simp only [sgC, noA, noS] at z0 z1 z2
   simp at z0 z1 z2
   have HF : Hid (GivesS w (put3 wr X2 (.slice A.a0 Z.B.length A.c0) (.slice A.a1 Z.V.length A.c1) (.slice A.a2 Z.M.length A.c2)) (.returned (.agg #[.slice A.a0 Z.B.length A.c0, .slice A.a1 Z.V.length A.c1, .slice A.a2 Z.M.length A.c2])) TS) := mkHid (by rw [HSE.out]; exact gives_shut HGS.out.owns (show X2 + 1 ≤ base from HTC.out.x2.2.1) (Nat.le_refl _) HTI.out.bel HTC.out.x2.1)
   clear hx2
   go_wp2
   refine bodyPost_ret (v := .agg #[.slice A.a0 Z.B.length A.c0, .slice A.a1 Z.V.length A.c1, .slice A.a2 Z.M.length A.c2]) (by simp [results, Tryz.results110, go_sem, *]) rfl HF.out
end Go.Proofs.YtihpajiololfoaaGreat
