/-
  PURE: what is said between two bounds; CONTRACTS of the specification's l13Among and the program's saidBetween.
-/
import Derived.Test.YtihpajiololfoaaGreatCb30
import Derived.Test.YtihpajiololfoaaGreatCb31
import Derived.Test.YtihpajiololfoaaGreatCb15
namespace Go.Proofs.YtihpajiololfoaaGreat
open Go.RowKit

/-- A value and a flag are answered. -/
def TupV (e : Ending) (x : Value) : Prop := ∃ mb : Bool, e = .returned (.tuple #[x, .bool mb])
/-- The join of so many from one on. -/
def amg (V : List VV) (fr : Nat) : Nat → VV
  | 0 => noneV
  | k + 1 => jv (amg V fr k) (V.getD (fr + k) noneV)
theorem amg_next {V : List VV} {fr k : Nat} {x : VV} (h : V[fr + k]? = some x) : amg V fr (k + 1) = jv (amg V fr k) x := by
  show jv _ _ = _
  rw [List.getD_eq_getElem?_getD, h]
  rfl
theorem V3.belowAt {v v' : World} {B X : Nat} {a b : Int} {s : Bool} (h : V3 v X a b s) (hb : Below B v v') (hX : X < B) : V3 v' X a b s := by
  have hc : ∀ o, v'.cell? ⟨X, o, none⟩ = v.cell? ⟨X, o, none⟩ := fun o => hb.cell (p := ⟨X, o, none⟩) hX
  have hf : ∀ o, v'.frozen? ⟨X, o, none⟩ = v.frozen? ⟨X, o, none⟩ := fun o => hb.frozen (p := ⟨X, o, none⟩) hX
  exact ⟨(hc _).trans h.c0, (hc _).trans h.c1, (hc _).trans h.c2, (hf _).trans h.f0, (hf _).trans h.f1, (hf _).trans h.f2⟩
theorem below_set3 {B : Nat} {w v : World} (h : Below B w v) {X : Nat} (hX : B ≤ X) (a b c : Value) : Below B w (((v.setCell ⟨X, 0, none⟩ a).setCell ⟨X, 1, none⟩ b).setCell ⟨X, 2, none⟩ c) := ((h.setCell (p := ⟨X, 0, none⟩) hX a).setCell (p := ⟨X, 1, none⟩) hX b).setCell (p := ⟨X, 2, none⟩) hX c
set_option maxRecDepth 100000 in
set_option maxHeartbeats 6400000 in
theorem l13Among_any (S : SG) (A : SAd) (fr to' : Nat) (hft : fr ≤ to') (hto : to' ≤ S.V.length) (w : World) (hs : Small S) (hS : SegAt w A S) :
    Calls Tryz.prog 61 #[.agg #[.slice A.a0 S.B.length A.c0, .slice A.a1 S.V.length A.c1, .slice A.a2 S.M.length A.c2], .int .i64 fr, .int .i64 to'] w fun e w' => e = .returned (.agg #[.int .i64 (amg S.V fr (to' - fr)).1, .int .i64 (amg S.V fr (to' - fr)).2.1, .bool (amg S.V fr (to' - fr)).2.2]) ∧ Below w.heap.size w w' := by
  have hvl := hs.v
  obtain ⟨w0, hw0⟩ : ∃ q, (w.alloc (.cells #[.slice A.a0 S.B.length A.c0, .slice A.a1 S.V.length A.c1, .slice A.a2 S.M.length A.c2] 35)).alloc (.cells #[.int .i64 0, .int .i64 0, .bool false] 55) = q := ⟨_, rfl⟩
  obtain ⟨X, hX⟩ : ∃ q, w.heap.size = q := ⟨_, rfl⟩
  have B0 : Hid (Below w.heap.size w w0) := mkHid (by rw [← hw0]; exact bl_alloc (bl_alloc (Below.refl _ _) _) _)
  have G0 : Hid (G3 w0 X (.slice A.a0 S.B.length A.c0) (.slice A.a1 S.V.length A.c1) (.slice A.a2 S.M.length A.c2)) := mkHid (by rw [← hw0, ← hX]; exact (G3.new w _ _ _ 35).below (bl_alloc (Below.refl _ _) _))
  have Z0 : Hid (V3 w0 (X + 1) 0 0 false) := mkHid (by rw [← hw0, ← hX]; have := V3.new (w.alloc (.cells #[.slice A.a0 S.B.length A.c0, .slice A.a1 S.V.length A.c1, .slice A.a2 S.M.length A.c2] 35)) 0 0 false 55; simpa using this)
  have HS := mkHid (hS.below B0.out)
  have hXB : Hid (w.heap.size ≤ X + 1) := mkHid (by omega)
  clear hS hs
  go_enter Tryz.func61, Tryz.ntmps61
  go_wp2_with fail
  first | rw [hw0] | skip
  refine (sVnone_any _).mono ?_
  rintro e w1 ⟨rfl, hb⟩
  have B1 := mkHid (below_step B0.out hb)
  have G1 := mkHid (G0.out.below hb)
  have Z1 := mkHid (Z0.out.below hb)
  have S1 := mkHid (HS.out.below hb)
  obtain ⟨P, hP⟩ : ∃ q, w1.heap.size = q := ⟨_, rfl⟩
  obtain ⟨w2, hw2⟩ : ∃ q, w1.alloc (.cells #[.int .i64 1, .int .i64 0, .bool true] 55) = q := ⟨_, rfl⟩
  have V2 : Hid (V3 w2 P 1 0 true) := mkHid (by rw [← hw2, ← hP]; exact V3.new _ _ _ _ 55)
  have A2 : Hid (Below w1.heap.size w1 w2) := mkHid (by rw [← hw2]; exact bl_alloc (Below.refl _ _) _)
  have HPW := mkHid hP
  have hPX : X + 1 < P := by rw [← hP]; exact Z1.out.lt
  clear hb B0 G0 Z0 HS hw0
  go_wp2
  first | rw [hw2] | skip
  first | rw [hP] | skip
  first | rw [hX] | skip
  clear hw2 hP hX
  go_loopg [8] (to' - fr) (fun g s8 wr => ∃ (k : Nat), k ≤ to' - fr ∧ s8 = .int .i64 (fr + k : Nat) ∧ to' - fr - k ≤ g ∧ V3 wr P (amg S.V fr k).1 (amg S.V fr k).2.1 (amg S.V fr k).2.2 ∧ Below w1.heap.size w1 wr)
  case atStart => exact ⟨0, Nat.zero_le _, rfl, by omega, V2.out, A2.out⟩
  case round =>
    obtain ⟨k, hk, rfl, hgk, hv3, hbel⟩ := hrel
    have HV := mkHid hv3
    have HB1 := mkHid hbel
    clear hv3 hbel
    by_cases hlt : k < to' - fr
    · obtain ⟨x, hx⟩ : ∃ x, S.V[fr + k]? = some x := ⟨_, List.getElem?_eq_getElem (by omega)⟩
      obtain ⟨v, hv⟩ : ∃ v, amg S.V fr k = v := ⟨_, rfl⟩
      have HNX := mkHid (amg_next hx)
      rw [hv] at HV HNX
      obtain ⟨bb, off, hab, _, hq⟩ := S1.out.v.cons (by omega)
      obtain ⟨e0, e1, e2⟩ := get_v hq hx
      have hX9 : ∀ v', Below w1.heap.size w1 v' → G3 v' X (.slice A.a0 S.B.length A.c0) (.slice A.a1 S.V.length A.c1) (.slice A.a2 S.M.length A.c2) := fun v' h => G1.out.below h
      have he9 : ∀ v', Below w1.heap.size w1 v' → v'.cell? ⟨bb, off + (fr + k) * 3, none⟩ = some (.int .i64 x.1) ∧ v'.cell? ⟨bb, off + (fr + k) * 3 + 1, none⟩ = some (.int .i64 x.2.1) ∧ v'.cell? ⟨bb, off + (fr + k) * 3 + 2, none⟩ = some (.bool x.2.2) := fun v' h => ⟨(h.cell (p := ⟨bb, off + (fr + k) * 3, none⟩) (World.block_lt_of_cell? w1 _ e0)).trans e0, (h.cell (p := ⟨bb, off + (fr + k) * 3 + 1, none⟩) (World.block_lt_of_cell? w1 _ e1)).trans e1, (h.cell (p := ⟨bb, off + (fr + k) * 3 + 2, none⟩) (World.block_lt_of_cell? w1 _ e2)).trans e2⟩
      have i0 : (0 : Int) ≤ ((fr + k : Nat) : Int) := by omega
      have i1 : ((fr + k : Nat) : Int) < (S.V.length : Int) := by omega
      have i2 : ((fr + k : Nat) : Int) < (to' : Int) := by omega
      obtain ⟨q, hqq⟩ : ∃ q, fr + k = q := ⟨_, rfl⟩
      rw [hqq] at he9 i0 i1 i2
      rw [hqq]
      have HQQ := mkHid hqq
      have HAB := mkHid hab
      clear hq hx e0 e1 e2 hv hqq hab
      go_wp2_with fail
      refine wp_region_inv2 (fun zA0 L zA v9 => ∃ (zB : Nat → Bool) (zS : Nat → Value), L = #[zB 0, zB 1, zB 2, zB 3, zB 4, zB 5, zB 6, zB 7] ∧ zA = puts zA0 [(16, zS 16), (17, zS 17), (18, zS 18), (19, zS 19), (20, zS 20), (21, zS 21), (22, zS 22)] ∧ ((zB 0 = true → zS 16 = .agg #[.int .i64 v.1, .int .i64 v.2.1, .bool v.2.2]) ∧ (zB 1 = true → zS 17 = .pointer (some ⟨X, 1, none⟩)) ∧ (zB 2 = true → zS 18 = .slice (some ⟨bb, off, none⟩) S.V.length A.c1) ∧ (zB 3 = true → zS 19 = .int .i64 (q : Int)) ∧ (zB 4 = true → zS 20 = .pointer (some ⟨bb, off + q * 3, none⟩)) ∧ (zB 5 = true → zS 21 = .agg #[.int .i64 x.1, .int .i64 x.2.1, .bool x.2.2]) ∧ (zB 6 = true → zS 22 = .agg #[.int .i64 (jv v x).1, .int .i64 (jv v x).2.1, .bool (jv v x).2.2])) ∧ Below w1.heap.size w1 v9 ∧ ((zB 7) = false → V3 v9 P v.1 v.2.1 v.2.2) ∧ ((zB 7) = true → (zB 0) = true ∧ V3 v9 P (jv v x).1 (jv v x).2.1 (jv v x).2.2) ∧ ((zB 6) = true → (zB 0) = true)) (by kernel_rfl) ?_ ?_ ?_
      · exact ⟨fun _ => false, fun zd => if zd = 22 then u22 else if zd = 21 then u21 else if zd = 20 then u20 else if zd = 19 then u19 else if zd = 18 then u18 else if zd = 17 then u17 else if zd = 16 then u16 else undef, rfl, by kernel_rfl, ⟨fun e => ft e, fun e => ft e, fun e => ft e, fun e => ft e, fun e => ft e, fun e => ft e, fun e => ft e⟩, ⟨HB1.out.drew, fun _ => HV.out.drew, fun e => ft e, fun e => ft e⟩⟩
      · refine StepsI.cons rfl ?_ ?_
        · rintro L zA v9 ⟨zB, zS, rfl, rfl, hF, hW⟩ hL hm K hK
          have hb0 : zB 0 = false := by simpa using hL
          clear hL hm
          rw [hb0] at hW
          simp only [puts, Act.put, List.setIfInBounds_toArray, List.set_cons_zero, List.set_cons_succ]
          have h7 : zB 7 = false := by cases e : zB 7 with | false => rfl | true => exact ft (hW.2.2.1 e).1
          obtain ⟨k0, k1, k2, _, _, _⟩ := hW.2.1 h7
          have HWz := mkHid hW
          clear hW
          go_simp
          have hW := HWz.out
          clear HWz
          exact hK.out _ _ ⟨fun zj => if zj = 0 then true else zB zj, fun zd => if zd = 16 then .agg #[.int .i64 v.1, .int .i64 v.2.1, .bool v.2.2] else zS zd, rfl, by kernel_rfl, ⟨fun _ => rfl, hF.2.1, hF.2.2.1, hF.2.2.2.1, hF.2.2.2.2.1, hF.2.2.2.2.2.1, hF.2.2.2.2.2.2⟩, ⟨hW.1, hW.2.1, fun e => ft (hW.2.2.1 e).1, fun _ => rfl⟩⟩
        refine StepsI.cons rfl ?_ ?_
        · rintro L zA v9 ⟨zB, zS, rfl, rfl, hF, hW⟩ hL hm K hK
          have hb1 : zB 1 = false := by simpa using hL
          clear hL hm
          simp only [puts, Act.put, List.setIfInBounds_toArray, List.set_cons_zero, List.set_cons_succ]
          have HWz := mkHid hW
          clear hW
          go_simp
          have hW := HWz.out
          clear HWz
          exact hK.out _ _ ⟨fun zj => if zj = 1 then true else zB zj, fun zd => if zd = 17 then .pointer (some ⟨X, 1, none⟩) else zS zd, rfl, by kernel_rfl, ⟨hF.1, fun _ => rfl, hF.2.2.1, hF.2.2.2.1, hF.2.2.2.2.1, hF.2.2.2.2.2.1, hF.2.2.2.2.2.2⟩, hW⟩
        refine StepsI.cons rfl ?_ ?_
        · rintro L zA v9 ⟨zB, zS, rfl, rfl, hF, hW⟩ hL hm K hK
          have hb2 : zB 2 = false := by simpa using hL
          have hb1 : zB 1 = true := by cases e : zB 1 with | false => (exfalso; revert hm; simp [metB, Region.binds, e]) | true => rfl
          have e1 : zS 17 = .pointer (some ⟨X, 1, none⟩) := hF.2.1 hb1
          clear hL hm
          simp only [puts, Act.put, List.setIfInBounds_toArray, List.set_cons_zero, List.set_cons_succ]
          simp only [e1]
          have k0 := (hX9 _ hW.1).c1
          rw [HAB.out] at k0
          have HWz := mkHid hW
          clear hW
          go_simp
          have hW := HWz.out
          clear HWz
          exact hK.out _ _ ⟨fun zj => if zj = 1 then true else if zj = 2 then true else zB zj, fun zd => if zd = 18 then .slice (some ⟨bb, off, none⟩) S.V.length A.c1 else if zd = 17 then .pointer (some ⟨X, 1, none⟩) else zS zd, by simp [hb1], by kernel_rfl, ⟨hF.1, fun _ => rfl, fun _ => rfl, hF.2.2.2.1, hF.2.2.2.2.1, hF.2.2.2.2.2.1, hF.2.2.2.2.2.2⟩, hW⟩
        refine StepsI.cons rfl ?_ ?_
        · rintro L zA v9 ⟨zB, zS, rfl, rfl, hF, hW⟩ hL hm K hK
          have hb3 : zB 3 = false := by simpa using hL
          clear hL hm
          simp only [puts, Act.put, List.setIfInBounds_toArray, List.set_cons_zero, List.set_cons_succ]
          have HWz := mkHid hW
          clear hW
          go_simp
          have hW := HWz.out
          clear HWz
          exact hK.out _ _ ⟨fun zj => if zj = 3 then true else zB zj, fun zd => if zd = 19 then .int .i64 (q : Int) else zS zd, rfl, by kernel_rfl, ⟨hF.1, hF.2.1, hF.2.2.1, fun _ => rfl, hF.2.2.2.2.1, hF.2.2.2.2.2.1, hF.2.2.2.2.2.2⟩, hW⟩
        refine StepsI.cons rfl ?_ ?_
        · rintro L zA v9 ⟨zB, zS, rfl, rfl, hF, hW⟩ hL hm K hK
          have hb4 : zB 4 = false := by simpa using hL
          have hb2 : zB 2 = true := by cases e : zB 2 with | false => (exfalso; revert hm; simp [metB, Region.binds, e]) | true => rfl
          have hb3 : zB 3 = true := by cases e : zB 3 with | false => (exfalso; revert hm; simp [metB, Region.binds, e]) | true => rfl
          have e2 : zS 18 = .slice (some ⟨bb, off, none⟩) S.V.length A.c1 := hF.2.2.1 hb2
          have e3 : zS 19 = .int .i64 (q : Int) := hF.2.2.2.1 hb3
          clear hL hm
          simp only [puts, Act.put, List.setIfInBounds_toArray, List.set_cons_zero, List.set_cons_succ]
          simp only [e2, e3]
          have HWz := mkHid hW
          clear hW
          go_simp
          have hW := HWz.out
          clear HWz
          exact hK.out _ _ ⟨fun zj => if zj = 3 then true else if zj = 2 then true else if zj = 4 then true else zB zj, fun zd => if zd = 20 then .pointer (some ⟨bb, off + q * 3, none⟩) else if zd = 19 then .int .i64 (q : Int) else if zd = 18 then .slice (some ⟨bb, off, none⟩) S.V.length A.c1 else zS zd, by simp [hb2, hb3], by kernel_rfl, ⟨hF.1, hF.2.1, fun _ => rfl, fun _ => rfl, fun _ => rfl, hF.2.2.2.2.2.1, hF.2.2.2.2.2.2⟩, hW⟩
        refine StepsI.cons rfl ?_ ?_
        · rintro L zA v9 ⟨zB, zS, rfl, rfl, hF, hW⟩ hL hm K hK
          have hb5 : zB 5 = false := by simpa using hL
          have hb4 : zB 4 = true := by cases e : zB 4 with | false => (exfalso; revert hm; simp [metB, Region.binds, e]) | true => rfl
          have e4 : zS 20 = .pointer (some ⟨bb, off + q * 3, none⟩) := hF.2.2.2.2.1 hb4
          clear hL hm
          simp only [puts, Act.put, List.setIfInBounds_toArray, List.set_cons_zero, List.set_cons_succ]
          simp only [e4]
          obtain ⟨k0, k1, k2⟩ := he9 _ hW.1
          have HWz := mkHid hW
          clear hW
          go_simp
          have hW := HWz.out
          clear HWz
          exact hK.out _ _ ⟨fun zj => if zj = 4 then true else if zj = 5 then true else zB zj, fun zd => if zd = 21 then .agg #[.int .i64 x.1, .int .i64 x.2.1, .bool x.2.2] else if zd = 20 then .pointer (some ⟨bb, off + q * 3, none⟩) else zS zd, by simp [hb4], by kernel_rfl, ⟨hF.1, hF.2.1, hF.2.2.1, hF.2.2.2.1, fun _ => rfl, fun _ => rfl, hF.2.2.2.2.2.2⟩, hW⟩
        refine StepsI.cons rfl ?_ ?_
        · rintro L zA v9 ⟨zB, zS, rfl, rfl, hF, hW⟩ hL hm K hK
          have hb6 : zB 6 = false := by simpa using hL
          have hb0 : zB 0 = true := by cases e : zB 0 with | false => (exfalso; revert hm; simp [metB, Region.binds, e]) | true => rfl
          have hb5 : zB 5 = true := by cases e : zB 5 with | false => (exfalso; revert hm; simp [metB, Region.binds, e]) | true => rfl
          have e0 : zS 16 = .agg #[.int .i64 v.1, .int .i64 v.2.1, .bool v.2.2] := hF.1 hb0
          have e5 : zS 21 = .agg #[.int .i64 x.1, .int .i64 x.2.1, .bool x.2.2] := hF.2.2.2.2.2.1 hb5
          clear hL hm
          rw [hb6] at hW
          rw [hb0] at hW
          simp only [puts, Act.put, List.setIfInBounds_toArray, List.set_cons_zero, List.set_cons_succ]
          simp only [e0, e5]
          have HWz := mkHid hW
          clear hW
          go_simp
          have hW := HWz.out
          clear HWz
          refine (sVjoin_any _ _ _ _ _ _ _).mono ?_
          rintro e v92 ⟨rfl, hb⟩
          have HWz := mkHid hW
          clear hW
          go_wp2_with fail
          have hW := HWz.out
          clear HWz
          exact hK.out _ _ ⟨fun zj => if zj = 5 then true else if zj = 0 then true else if zj = 6 then true else zB zj, fun zd => if zd = 22 then .agg #[.int .i64 (jv v x).1, .int .i64 (jv v x).2.1, .bool (jv v x).2.2] else if zd = 21 then .agg #[.int .i64 x.1, .int .i64 x.2.1, .bool x.2.2] else if zd = 16 then .agg #[.int .i64 v.1, .int .i64 v.2.1, .bool v.2.2] else zS zd, by simp [hb0, hb5], by kernel_rfl, ⟨fun _ => rfl, hF.2.1, hF.2.2.1, hF.2.2.2.1, hF.2.2.2.2.1, fun _ => rfl, fun _ => rfl⟩, ⟨below_step hW.1 hb, fun q => (hW.2.1 q).below hb, fun q => ⟨rfl, (hW.2.2.1 q).2.below hb⟩, fun _ => rfl⟩⟩
        refine StepsI.cons rfl ?_ ?_
        · rintro L zA v9 ⟨zB, zS, rfl, rfl, hF, hW⟩ hL hm K hK
          have hb7 : zB 7 = false := by simpa using hL
          have hb6 : zB 6 = true := by cases e : zB 6 with | false => (exfalso; revert hm; simp [metB, Region.binds, e]) | true => rfl
          have e6 : zS 22 = .agg #[.int .i64 (jv v x).1, .int .i64 (jv v x).2.1, .bool (jv v x).2.2] := hF.2.2.2.2.2.2 hb6
          clear hL hm
          rw [hb7] at hW
          rw [hb6] at hW
          simp only [puts, Act.put, List.setIfInBounds_toArray, List.set_cons_zero, List.set_cons_succ]
          simp only [e6]
          have hv3 := hW.2.1 rfl
          have hv4 := hv3
          obtain ⟨k0, k1, k2, k3, k4, k5⟩ := hv3
          have h0 := mkHid (hW.2.2.2 rfl)
          have HWz := mkHid hW
          clear hW
          go_simp
          have hW := HWz.out
          clear HWz
          exact hK.out _ _ ⟨fun zj => if zj = 6 then true else if zj = 7 then true else zB zj, fun zd => if zd = 22 then .agg #[.int .i64 (jv v x).1, .int .i64 (jv v x).2.1, .bool (jv v x).2.2] else zS zd, by simp [hb6], by kernel_rfl, ⟨hF.1, hF.2.1, hF.2.2.1, hF.2.2.2.1, hF.2.2.2.2.1, hF.2.2.2.2.2.1, fun _ => rfl⟩, ⟨below_set3 hW.1 (Nat.le_of_eq HPW.out) _ _ _, fun e => tf e, fun _ => ⟨h0.out, hv4.set _ _ _⟩, fun _ => h0.out⟩⟩
        exact StepsI.nil (by kernel_rfl)
      · rintro L zA v9 ⟨zB, zS, rfl, rfl, hF, hW⟩ hr
        have hu := all_up (by kernel_rfl) (N := 8) (by kernel_rfl) hr
        have hb0 : zB 0 = true := by simpa using hu 0 (by decide)
        have hb1 : zB 1 = true := by simpa using hu 1 (by decide)
        have hb2 : zB 2 = true := by simpa using hu 2 (by decide)
        have hb3 : zB 3 = true := by simpa using hu 3 (by decide)
        have hb4 : zB 4 = true := by simpa using hu 4 (by decide)
        have hb5 : zB 5 = true := by simpa using hu 5 (by decide)
        have hb6 : zB 6 = true := by simpa using hu 6 (by decide)
        have hb7 : zB 7 = true := by simpa using hu 7 (by decide)
        have e0 : zS 16 = .agg #[.int .i64 v.1, .int .i64 v.2.1, .bool v.2.2] := hF.1 hb0
        have e1 : zS 17 = .pointer (some ⟨X, 1, none⟩) := hF.2.1 hb1
        have e2 : zS 18 = .slice (some ⟨bb, off, none⟩) S.V.length A.c1 := hF.2.2.1 hb2
        have e3 : zS 19 = .int .i64 (q : Int) := hF.2.2.2.1 hb3
        have e4 : zS 20 = .pointer (some ⟨bb, off + q * 3, none⟩) := hF.2.2.2.2.1 hb4
        have e5 : zS 21 = .agg #[.int .i64 x.1, .int .i64 x.2.1, .bool x.2.2] := hF.2.2.2.2.2.1 hb5
        have e6 : zS 22 = .agg #[.int .i64 (jv v x).1, .int .i64 (jv v x).2.1, .bool (jv v x).2.2] := hF.2.2.2.2.2.2 hb6
        rw [hb0] at hW
        rw [hb6] at hW
        rw [hb7] at hW
        clear hu hr hF
        simp only [puts, Act.put, List.setIfInBounds_toArray, List.set_cons_zero, List.set_cons_succ]
        simp only [e0, e1, e2, e3, e4, e5, e6]
        clear e0 e1 e2 e3 e4 e5 e6
        clear hb0 hb1 hb2 hb3 hb4 hb5 hb6 hb7
        clear zB zS
        have HV2 := mkHid (hW.2.2.1 (by first | rfl | trivial)).2
        have HB2 := mkHid hW.1
        clear hW hX9 he9
        go_wp2
        go_roundg (to' - fr - (k + 1))
        case measure => omega
        case rel => exact ⟨k + 1, by omega, (by rw [← HQQ.out]; go_num), by omega, by rw [HNX.out]; exact HV2.out, HB2.out⟩
    · have e : k = to' - fr := by omega
      subst e
      have i2 : ¬ (((fr + (to' - fr) : Nat) : Int) < (to' : Int)) := by omega
      obtain ⟨v, hv⟩ : ∃ v, amg S.V fr (to' - fr) = v := ⟨_, rfl⟩
      rw [hv] at HV
      have HVV := mkHid hv
      obtain ⟨q, hqq⟩ : ∃ q, fr + (to' - fr) = q := ⟨_, rfl⟩
      rw [hqq] at i2
      rw [hqq]
      obtain ⟨k0, k1, k2, k3, k4, k5⟩ := HV.out
      obtain ⟨z0, z1, z2, z3, z4, z5⟩ := Z1.out.belowAt HB1.out Z1.out.lt
      have HE := mkHid (fun a b c => below_set3 (below_step B1.out HB1.out) hXB.out a b c)
      clear hv hqq hlt
      go_wp2
      rw [HVV.out]
      exact bodyPost_ret (v := .agg #[.int .i64 v.1, .int .i64 v.2.1, .bool v.2.2]) (by simp [results, Tryz.results61, go_sem, *]) rfl ⟨rfl, HE.out _ _ _⟩
set_option maxRecDepth 100000 in
set_option maxHeartbeats 6400000 in
theorem saidBetween_any (S : SG) (A : SAd) (fr to' : Nat) (hft : fr ≤ to') (hto : to' ≤ S.V.length) (hvm : S.V.length = S.M.length) (w : World) (hs : Small S) (hS : SegAt w A S) :
    Calls Tryz.prog 63 #[.agg #[.slice A.a0 S.B.length A.c0, .slice A.a1 S.V.length A.c1, .slice A.a2 S.M.length A.c2], .int .i64 fr, .int .i64 to'] w fun e w' => TupV e (.agg #[.int .i64 (amg S.V fr (to' - fr)).1, .int .i64 (amg S.V fr (to' - fr)).2.1, .bool (amg S.V fr (to' - fr)).2.2]) ∧ Below w.heap.size w w' := by
  have hvl := hs.v
  have HVM := mkHid hvm
  clear hvm
  obtain ⟨w0, hw0⟩ : ∃ q, (w.alloc (.cells #[.slice A.a0 S.B.length A.c0, .slice A.a1 S.V.length A.c1, .slice A.a2 S.M.length A.c2] 35)).alloc (.cells #[.int .i64 0, .int .i64 0, .bool false] 55) = q := ⟨_, rfl⟩
  obtain ⟨X, hX⟩ : ∃ q, w.heap.size = q := ⟨_, rfl⟩
  have B0 : Hid (Below w.heap.size w w0) := mkHid (by rw [← hw0]; exact bl_alloc (bl_alloc (Below.refl _ _) _) _)
  have G0 : Hid (G3 w0 X (.slice A.a0 S.B.length A.c0) (.slice A.a1 S.V.length A.c1) (.slice A.a2 S.M.length A.c2)) := mkHid (by rw [← hw0, ← hX]; exact (G3.new w _ _ _ 35).below (bl_alloc (Below.refl _ _) _))
  have Z0 : Hid (V3 w0 (X + 1) 0 0 false) := mkHid (by rw [← hw0, ← hX]; have := V3.new (w.alloc (.cells #[.slice A.a0 S.B.length A.c0, .slice A.a1 S.V.length A.c1, .slice A.a2 S.M.length A.c2] 35)) 0 0 false 55; simpa using this)
  have HS := mkHid (hS.below B0.out)
  have hXB : Hid (w.heap.size ≤ X + 1) := mkHid (by omega)
  clear hS hs
  go_enter Tryz.func63, Tryz.ntmps63
  go_wp2_with fail
  first | rw [hw0] | skip
  refine (iVnone_any _).mono ?_
  rintro e w1 ⟨rfl, hb⟩
  have B1 := mkHid (below_step B0.out hb)
  have G1 := mkHid (G0.out.below hb)
  have Z1 := mkHid (Z0.out.below hb)
  have S1 := mkHid (HS.out.below hb)
  obtain ⟨P, hP⟩ : ∃ q, w1.heap.size = q := ⟨_, rfl⟩
  obtain ⟨w2, hw2⟩ : ∃ q, w1.alloc (.cells #[.int .i64 1, .int .i64 0, .bool true] 55) = q := ⟨_, rfl⟩
  have V2 : Hid (V3 w2 P 1 0 true) := mkHid (by rw [← hw2, ← hP]; exact V3.new _ _ _ _ 55)
  have A2 : Hid (Below w1.heap.size w1 w2) := mkHid (by rw [← hw2]; exact bl_alloc (Below.refl _ _) _)
  have HPW := mkHid hP
  have hPX : X + 1 < P := by rw [← hP]; exact Z1.out.lt
  clear hb B0 G0 Z0 HS hw0
  go_wp2
  first | rw [hw2] | skip
  first | rw [hP] | skip
  first | rw [hX] | skip
  clear hw2 hP hX
  go_loopg [9, 10] (to' - fr) (fun g s9 s10 wr => ∃ (k : Nat) (mb : Bool), k ≤ to' - fr ∧ s9 = .bool mb ∧ s10 = .int .i64 (fr + k : Nat) ∧ to' - fr - k ≤ g ∧ V3 wr P (amg S.V fr k).1 (amg S.V fr k).2.1 (amg S.V fr k).2.2 ∧ Below w1.heap.size w1 wr)
  case atStart => exact ⟨0, true, Nat.zero_le _, rfl, rfl, by omega, V2.out, A2.out⟩
  case round =>
    obtain ⟨k, mb, hk, rfl, rfl, hgk, hv3, hbel⟩ := hrel
    have HV := mkHid hv3
    have HB1 := mkHid hbel
    clear hv3 hbel
    by_cases hlt : k < to' - fr
    · obtain ⟨x, hx⟩ : ∃ x, S.V[fr + k]? = some x := ⟨_, List.getElem?_eq_getElem (by omega)⟩
      obtain ⟨v, hv⟩ : ∃ v, amg S.V fr k = v := ⟨_, rfl⟩
      have HNX := mkHid (amg_next hx)
      rw [hv] at HV HNX
      obtain ⟨bb, off, hab, _, hq⟩ := S1.out.v.cons (by omega)
      obtain ⟨e0, e1, e2⟩ := get_v hq hx
      have hX9 : ∀ v', Below w1.heap.size w1 v' → G3 v' X (.slice A.a0 S.B.length A.c0) (.slice A.a1 S.V.length A.c1) (.slice A.a2 S.M.length A.c2) := fun v' h => G1.out.below h
      have he9 : ∀ v', Below w1.heap.size w1 v' → v'.cell? ⟨bb, off + (fr + k) * 3, none⟩ = some (.int .i64 x.1) ∧ v'.cell? ⟨bb, off + (fr + k) * 3 + 1, none⟩ = some (.int .i64 x.2.1) ∧ v'.cell? ⟨bb, off + (fr + k) * 3 + 2, none⟩ = some (.bool x.2.2) := fun v' h => ⟨(h.cell (p := ⟨bb, off + (fr + k) * 3, none⟩) (World.block_lt_of_cell? w1 _ e0)).trans e0, (h.cell (p := ⟨bb, off + (fr + k) * 3 + 1, none⟩) (World.block_lt_of_cell? w1 _ e1)).trans e1, (h.cell (p := ⟨bb, off + (fr + k) * 3 + 2, none⟩) (World.block_lt_of_cell? w1 _ e2)).trans e2⟩
      obtain ⟨m, hmx⟩ : ∃ x, S.M[fr + k]? = some x := ⟨_, List.getElem?_eq_getElem (by have := HVM.out; omega)⟩
      obtain ⟨bm, om, ham, _, hqm⟩ := S1.out.m.cons (by have := HVM.out; omega)
      have m0 := get_b hqm hmx
      have hm9 : ∀ v', Below w1.heap.size w1 v' → v'.cell? ⟨bm, om + (fr + k), none⟩ = some (.bool m) := fun v' h => (h.cell (p := ⟨bm, om + (fr + k), none⟩) (World.block_lt_of_cell? w1 _ m0)).trans m0
      have i5 : ((fr + k : Nat) : Int) < (S.M.length : Int) := by have := HVM.out; omega
      clear hmx hqm m0
      have HAM := mkHid ham
      clear ham
      have i0 : (0 : Int) ≤ ((fr + k : Nat) : Int) := by omega
      have i1 : ((fr + k : Nat) : Int) < (S.V.length : Int) := by omega
      have i2 : ((fr + k : Nat) : Int) < (to' : Int) := by omega
      obtain ⟨q, hqq⟩ : ∃ q, fr + k = q := ⟨_, rfl⟩
      rw [hqq] at he9 i0 i1 i2 hm9 i5
      rw [hqq]
      have HQQ := mkHid hqq
      have HAB := mkHid hab
      clear hq hx e0 e1 e2 hv hqq hab
      go_wp2_with fail
      cases mb
      · refine wp_region_inv2 (fun zA0 L zA v9 => ∃ (zB : Nat → Bool) (zS : Nat → Value), L = #[zB 0, zB 1, zB 2, zB 3, zB 4, zB 5, zB 6, zB 7, zB 8, zB 9, zB 10, zB 11, zB 12, zB 13, zB 14, zB 15, zB 16] ∧ zA = puts zA0 [(18, zS 18), (19, zS 19), (20, zS 20), (21, zS 21), (22, zS 22), (23, zS 23), (24, zS 24), (25, zS 25), (26, zS 26), (27, zS 27), (28, zS 28), (29, zS 29), (30, zS 30), (31, zS 31), (32, zS 32), (9, zS 9)] ∧ ((zB 0 = true → zS 18 = .agg #[.int .i64 v.1, .int .i64 v.2.1, .bool v.2.2]) ∧ (zB 1 = true → zS 19 = .pointer (some ⟨X, 1, none⟩)) ∧ (zB 2 = true → zS 20 = .slice (some ⟨bb, off, none⟩) S.V.length A.c1) ∧ (zB 3 = true → zS 21 = .int .i64 (q : Int)) ∧ (zB 4 = true → zS 22 = .pointer (some ⟨bb, off + q * 3, none⟩)) ∧ (zB 5 = true → zS 23 = .agg #[.int .i64 x.1, .int .i64 x.2.1, .bool x.2.2]) ∧ (zB 6 = true → zS 24 = .agg #[.int .i64 (jv v x).1, .int .i64 (jv v x).2.1, .bool (jv v x).2.2]) ∧ (zB 7 = true → zS 25 = .bool false) ∧ (zB 8 = true → zS 26 = .bool false) ∧ (zB 9 = true → zS 27 = undef) ∧ (zB 10 = true → zS 28 = undef) ∧ (zB 11 = true → zS 29 = undef) ∧ (zB 12 = true → zS 30 = undef) ∧ (zB 13 = true → zS 31 = undef) ∧ (zB 14 = true → zS 32 = .bool false) ∧ (zB 16 = true → zS 9 = .bool false)) ∧ Below w1.heap.size w1 v9 ∧ ((zB 15) = false → V3 v9 P v.1 v.2.1 v.2.2) ∧ ((zB 15) = true → (zB 0) = true ∧ V3 v9 P (jv v x).1 (jv v x).2.1 (jv v x).2.2) ∧ ((zB 6) = true → (zB 0) = true) ∧ ((zB 16) = false → zS 9 = .bool false) ∧ ((zB 16) = true → (zB 7) = true) ∧ ((zB 14) = true → (zB 7) = true) ∧ ((zB 8) = true → (zB 7) = true)) (by kernel_rfl) ?_ ?_ ?_
        · exact ⟨fun _ => false, fun zd => if zd = 9 then .bool false else if zd = 32 then u32 else if zd = 31 then u31 else if zd = 30 then u30 else if zd = 29 then u29 else if zd = 28 then u28 else if zd = 27 then u27 else if zd = 26 then u26 else if zd = 25 then u25 else if zd = 24 then u24 else if zd = 23 then u23 else if zd = 22 then u22 else if zd = 21 then u21 else if zd = 20 then u20 else if zd = 19 then u19 else if zd = 18 then u18 else undef, rfl, by kernel_rfl, ⟨fun e => ft e, fun e => ft e, fun e => ft e, fun e => ft e, fun e => ft e, fun e => ft e, fun e => ft e, fun e => ft e, fun e => ft e, fun e => ft e, fun e => ft e, fun e => ft e, fun e => ft e, fun e => ft e, fun e => ft e, fun e => ft e⟩, ⟨HB1.out.drew, fun _ => HV.out.drew, fun e => ft e, fun e => ft e, fun _ => rfl, fun e => ft e, fun e => ft e, fun e => ft e⟩⟩
        · refine StepsI.cons rfl ?_ ?_
          · rintro L zA v9 ⟨zB, zS, rfl, rfl, hF, hW⟩ hL hm K hK
            have hb0 : zB 0 = false := by simpa using hL
            clear hL hm
            rw [hb0] at hW
            simp only [puts, Act.put, List.setIfInBounds_toArray, List.set_cons_zero, List.set_cons_succ]
            have h7 : zB 15 = false := by cases e : zB 15 with | false => rfl | true => exact ft (hW.2.2.1 e).1
            obtain ⟨k0, k1, k2, _, _, _⟩ := hW.2.1 h7
            have HWz := mkHid hW
            clear hW
            go_simp
            have hW := HWz.out
            clear HWz
            exact hK.out _ _ ⟨fun zj => if zj = 0 then true else zB zj, fun zd => if zd = 18 then .agg #[.int .i64 v.1, .int .i64 v.2.1, .bool v.2.2] else zS zd, rfl, by kernel_rfl, ⟨fun _ => rfl, hF.2.1, hF.2.2.1, hF.2.2.2.1, hF.2.2.2.2.1, hF.2.2.2.2.2.1, hF.2.2.2.2.2.2.1, hF.2.2.2.2.2.2.2.1, hF.2.2.2.2.2.2.2.2.1, hF.2.2.2.2.2.2.2.2.2.1, hF.2.2.2.2.2.2.2.2.2.2.1, hF.2.2.2.2.2.2.2.2.2.2.2.1, hF.2.2.2.2.2.2.2.2.2.2.2.2.1, hF.2.2.2.2.2.2.2.2.2.2.2.2.2.1, hF.2.2.2.2.2.2.2.2.2.2.2.2.2.2.1, hF.2.2.2.2.2.2.2.2.2.2.2.2.2.2.2⟩, ⟨hW.1, hW.2.1, fun e => ft (hW.2.2.1 e).1, fun _ => rfl, hW.2.2.2.2⟩⟩
          refine StepsI.cons rfl ?_ ?_
          · rintro L zA v9 ⟨zB, zS, rfl, rfl, hF, hW⟩ hL hm K hK
            have hb1 : zB 1 = false := by simpa using hL
            clear hL hm
            simp only [puts, Act.put, List.setIfInBounds_toArray, List.set_cons_zero, List.set_cons_succ]
            have HWz := mkHid hW
            clear hW
            go_simp
            have hW := HWz.out
            clear HWz
            exact hK.out _ _ ⟨fun zj => if zj = 1 then true else zB zj, fun zd => if zd = 19 then .pointer (some ⟨X, 1, none⟩) else zS zd, rfl, by kernel_rfl, ⟨hF.1, fun _ => rfl, hF.2.2.1, hF.2.2.2.1, hF.2.2.2.2.1, hF.2.2.2.2.2.1, hF.2.2.2.2.2.2.1, hF.2.2.2.2.2.2.2.1, hF.2.2.2.2.2.2.2.2.1, hF.2.2.2.2.2.2.2.2.2.1, hF.2.2.2.2.2.2.2.2.2.2.1, hF.2.2.2.2.2.2.2.2.2.2.2.1, hF.2.2.2.2.2.2.2.2.2.2.2.2.1, hF.2.2.2.2.2.2.2.2.2.2.2.2.2.1, hF.2.2.2.2.2.2.2.2.2.2.2.2.2.2.1, hF.2.2.2.2.2.2.2.2.2.2.2.2.2.2.2⟩, hW⟩
          refine StepsI.cons rfl ?_ ?_
          · rintro L zA v9 ⟨zB, zS, rfl, rfl, hF, hW⟩ hL hm K hK
            have hb2 : zB 2 = false := by simpa using hL
            have hb1 : zB 1 = true := by cases e : zB 1 with | false => (exfalso; revert hm; simp [metB, Region.binds, e]) | true => rfl
            have e1 : zS 19 = .pointer (some ⟨X, 1, none⟩) := hF.2.1 hb1
            clear hL hm
            simp only [puts, Act.put, List.setIfInBounds_toArray, List.set_cons_zero, List.set_cons_succ]
            simp only [e1]
            have k0 := (hX9 _ hW.1).c1
            rw [HAB.out] at k0
            have HWz := mkHid hW
            clear hW
            go_simp
            have hW := HWz.out
            clear HWz
            exact hK.out _ _ ⟨fun zj => if zj = 1 then true else if zj = 2 then true else zB zj, fun zd => if zd = 20 then .slice (some ⟨bb, off, none⟩) S.V.length A.c1 else if zd = 19 then .pointer (some ⟨X, 1, none⟩) else zS zd, by simp [hb1], by kernel_rfl, ⟨hF.1, fun _ => rfl, fun _ => rfl, hF.2.2.2.1, hF.2.2.2.2.1, hF.2.2.2.2.2.1, hF.2.2.2.2.2.2.1, hF.2.2.2.2.2.2.2.1, hF.2.2.2.2.2.2.2.2.1, hF.2.2.2.2.2.2.2.2.2.1, hF.2.2.2.2.2.2.2.2.2.2.1, hF.2.2.2.2.2.2.2.2.2.2.2.1, hF.2.2.2.2.2.2.2.2.2.2.2.2.1, hF.2.2.2.2.2.2.2.2.2.2.2.2.2.1, hF.2.2.2.2.2.2.2.2.2.2.2.2.2.2.1, hF.2.2.2.2.2.2.2.2.2.2.2.2.2.2.2⟩, hW⟩
          refine StepsI.cons rfl ?_ ?_
          · rintro L zA v9 ⟨zB, zS, rfl, rfl, hF, hW⟩ hL hm K hK
            have hb3 : zB 3 = false := by simpa using hL
            clear hL hm
            simp only [puts, Act.put, List.setIfInBounds_toArray, List.set_cons_zero, List.set_cons_succ]
            have HWz := mkHid hW
            clear hW
            go_simp
            have hW := HWz.out
            clear HWz
            exact hK.out _ _ ⟨fun zj => if zj = 3 then true else zB zj, fun zd => if zd = 21 then .int .i64 (q : Int) else zS zd, rfl, by kernel_rfl, ⟨hF.1, hF.2.1, hF.2.2.1, fun _ => rfl, hF.2.2.2.2.1, hF.2.2.2.2.2.1, hF.2.2.2.2.2.2.1, hF.2.2.2.2.2.2.2.1, hF.2.2.2.2.2.2.2.2.1, hF.2.2.2.2.2.2.2.2.2.1, hF.2.2.2.2.2.2.2.2.2.2.1, hF.2.2.2.2.2.2.2.2.2.2.2.1, hF.2.2.2.2.2.2.2.2.2.2.2.2.1, hF.2.2.2.2.2.2.2.2.2.2.2.2.2.1, hF.2.2.2.2.2.2.2.2.2.2.2.2.2.2.1, hF.2.2.2.2.2.2.2.2.2.2.2.2.2.2.2⟩, hW⟩
          refine StepsI.cons rfl ?_ ?_
          · rintro L zA v9 ⟨zB, zS, rfl, rfl, hF, hW⟩ hL hm K hK
            have hb4 : zB 4 = false := by simpa using hL
            have hb2 : zB 2 = true := by cases e : zB 2 with | false => (exfalso; revert hm; simp [metB, Region.binds, e]) | true => rfl
            have hb3 : zB 3 = true := by cases e : zB 3 with | false => (exfalso; revert hm; simp [metB, Region.binds, e]) | true => rfl
            have e2 : zS 20 = .slice (some ⟨bb, off, none⟩) S.V.length A.c1 := hF.2.2.1 hb2
            have e3 : zS 21 = .int .i64 (q : Int) := hF.2.2.2.1 hb3
            clear hL hm
            simp only [puts, Act.put, List.setIfInBounds_toArray, List.set_cons_zero, List.set_cons_succ]
            simp only [e2, e3]
            have HWz := mkHid hW
            clear hW
            go_simp
            have hW := HWz.out
            clear HWz
            exact hK.out _ _ ⟨fun zj => if zj = 3 then true else if zj = 2 then true else if zj = 4 then true else zB zj, fun zd => if zd = 22 then .pointer (some ⟨bb, off + q * 3, none⟩) else if zd = 21 then .int .i64 (q : Int) else if zd = 20 then .slice (some ⟨bb, off, none⟩) S.V.length A.c1 else zS zd, by simp [hb2, hb3], by kernel_rfl, ⟨hF.1, hF.2.1, fun _ => rfl, fun _ => rfl, fun _ => rfl, hF.2.2.2.2.2.1, hF.2.2.2.2.2.2.1, hF.2.2.2.2.2.2.2.1, hF.2.2.2.2.2.2.2.2.1, hF.2.2.2.2.2.2.2.2.2.1, hF.2.2.2.2.2.2.2.2.2.2.1, hF.2.2.2.2.2.2.2.2.2.2.2.1, hF.2.2.2.2.2.2.2.2.2.2.2.2.1, hF.2.2.2.2.2.2.2.2.2.2.2.2.2.1, hF.2.2.2.2.2.2.2.2.2.2.2.2.2.2.1, hF.2.2.2.2.2.2.2.2.2.2.2.2.2.2.2⟩, hW⟩
          refine StepsI.cons rfl ?_ ?_
          · rintro L zA v9 ⟨zB, zS, rfl, rfl, hF, hW⟩ hL hm K hK
            have hb5 : zB 5 = false := by simpa using hL
            have hb4 : zB 4 = true := by cases e : zB 4 with | false => (exfalso; revert hm; simp [metB, Region.binds, e]) | true => rfl
            have e4 : zS 22 = .pointer (some ⟨bb, off + q * 3, none⟩) := hF.2.2.2.2.1 hb4
            clear hL hm
            simp only [puts, Act.put, List.setIfInBounds_toArray, List.set_cons_zero, List.set_cons_succ]
            simp only [e4]
            obtain ⟨k0, k1, k2⟩ := he9 _ hW.1
            have HWz := mkHid hW
            clear hW
            go_simp
            have hW := HWz.out
            clear HWz
            exact hK.out _ _ ⟨fun zj => if zj = 4 then true else if zj = 5 then true else zB zj, fun zd => if zd = 23 then .agg #[.int .i64 x.1, .int .i64 x.2.1, .bool x.2.2] else if zd = 22 then .pointer (some ⟨bb, off + q * 3, none⟩) else zS zd, by simp [hb4], by kernel_rfl, ⟨hF.1, hF.2.1, hF.2.2.1, hF.2.2.2.1, fun _ => rfl, fun _ => rfl, hF.2.2.2.2.2.2.1, hF.2.2.2.2.2.2.2.1, hF.2.2.2.2.2.2.2.2.1, hF.2.2.2.2.2.2.2.2.2.1, hF.2.2.2.2.2.2.2.2.2.2.1, hF.2.2.2.2.2.2.2.2.2.2.2.1, hF.2.2.2.2.2.2.2.2.2.2.2.2.1, hF.2.2.2.2.2.2.2.2.2.2.2.2.2.1, hF.2.2.2.2.2.2.2.2.2.2.2.2.2.2.1, hF.2.2.2.2.2.2.2.2.2.2.2.2.2.2.2⟩, hW⟩
          refine StepsI.cons rfl ?_ ?_
          · rintro L zA v9 ⟨zB, zS, rfl, rfl, hF, hW⟩ hL hm K hK
            have hb6 : zB 6 = false := by simpa using hL
            have hb0 : zB 0 = true := by cases e : zB 0 with | false => (exfalso; revert hm; simp [metB, Region.binds, e]) | true => rfl
            have hb5 : zB 5 = true := by cases e : zB 5 with | false => (exfalso; revert hm; simp [metB, Region.binds, e]) | true => rfl
            have e0 : zS 18 = .agg #[.int .i64 v.1, .int .i64 v.2.1, .bool v.2.2] := hF.1 hb0
            have e5 : zS 23 = .agg #[.int .i64 x.1, .int .i64 x.2.1, .bool x.2.2] := hF.2.2.2.2.2.1 hb5
            clear hL hm
            rw [hb6] at hW
            rw [hb0] at hW
            simp only [puts, Act.put, List.setIfInBounds_toArray, List.set_cons_zero, List.set_cons_succ]
            simp only [e0, e5]
            have HWz := mkHid hW
            clear hW
            go_simp
            have hW := HWz.out
            clear HWz
            refine (iVjoin_any _ _ _ _ _ _ _).mono ?_
            rintro e v92 ⟨rfl, hb⟩
            have HWz := mkHid hW
            clear hW
            go_wp2_with fail
            have hW := HWz.out
            clear HWz
            exact hK.out _ _ ⟨fun zj => if zj = 5 then true else if zj = 0 then true else if zj = 6 then true else zB zj, fun zd => if zd = 24 then .agg #[.int .i64 (jv v x).1, .int .i64 (jv v x).2.1, .bool (jv v x).2.2] else if zd = 23 then .agg #[.int .i64 x.1, .int .i64 x.2.1, .bool x.2.2] else if zd = 18 then .agg #[.int .i64 v.1, .int .i64 v.2.1, .bool v.2.2] else zS zd, by simp [hb0, hb5], by kernel_rfl, ⟨fun _ => rfl, hF.2.1, hF.2.2.1, hF.2.2.2.1, hF.2.2.2.2.1, fun _ => rfl, fun _ => rfl, hF.2.2.2.2.2.2.2.1, hF.2.2.2.2.2.2.2.2.1, hF.2.2.2.2.2.2.2.2.2.1, hF.2.2.2.2.2.2.2.2.2.2.1, hF.2.2.2.2.2.2.2.2.2.2.2.1, hF.2.2.2.2.2.2.2.2.2.2.2.2.1, hF.2.2.2.2.2.2.2.2.2.2.2.2.2.1, hF.2.2.2.2.2.2.2.2.2.2.2.2.2.2.1, hF.2.2.2.2.2.2.2.2.2.2.2.2.2.2.2⟩, ⟨below_step hW.1 hb, fun q => (hW.2.1 q).below hb, fun q => ⟨rfl, (hW.2.2.1 q).2.below hb⟩, fun _ => rfl, hW.2.2.2.2⟩⟩
          refine StepsI.cons rfl ?_ ?_
          · rintro L zA v9 ⟨zB, zS, rfl, rfl, hF, hW⟩ hL hm K hK
            have hb7 : zB 7 = false := by simpa using hL
            clear hL hm
            rw [hb7] at hW
            simp only [puts, Act.put, List.setIfInBounds_toArray, List.set_cons_zero, List.set_cons_succ]
            have h16 : zB 16 = false := by cases e : zB 16 with | false => rfl | true => exact ft (hW.2.2.2.2.2.1 e)
            have e9 := mkHid (hW.2.2.2.2.1 h16)
            have HWz := mkHid hW
            clear hW
            go_simp
            have hW := HWz.out
            clear HWz
            exact hK.out _ _ ⟨fun zj => if zj = 7 then true else zB zj, fun zd => if zd = 25 then zS 9 else zS zd, rfl, by kernel_rfl, ⟨hF.1, hF.2.1, hF.2.2.1, hF.2.2.2.1, hF.2.2.2.2.1, hF.2.2.2.2.2.1, hF.2.2.2.2.2.2.1, fun _ => e9.out, hF.2.2.2.2.2.2.2.2.1, hF.2.2.2.2.2.2.2.2.2.1, hF.2.2.2.2.2.2.2.2.2.2.1, hF.2.2.2.2.2.2.2.2.2.2.2.1, hF.2.2.2.2.2.2.2.2.2.2.2.2.1, hF.2.2.2.2.2.2.2.2.2.2.2.2.2.1, hF.2.2.2.2.2.2.2.2.2.2.2.2.2.2.1, hF.2.2.2.2.2.2.2.2.2.2.2.2.2.2.2⟩, ⟨hW.1, hW.2.1, hW.2.2.1, hW.2.2.2.1, hW.2.2.2.2.1, fun _ => rfl, fun _ => rfl, fun _ => rfl⟩⟩
          refine StepsI.cons rfl ?_ ?_
          · rintro L zA v9 ⟨zB, zS, rfl, rfl, hF, hW⟩ hL hm K hK
            have hb8 : zB 8 = false := by simpa using hL
            have hb7 : zB 7 = true := by cases e : zB 7 with | false => (exfalso; revert hm; simp [metB, Region.binds, e]) | true => rfl
            have e7 : zS 25 = .bool false := hF.2.2.2.2.2.2.2.1 hb7
            clear hL hm
            rw [hb8] at hW
            rw [hb7] at hW
            simp only [puts, Act.put, List.setIfInBounds_toArray, List.set_cons_zero, List.set_cons_succ]
            simp only [e7]
            have HWz := mkHid hW
            clear hW
            go_simp
            have hW := HWz.out
            clear HWz
            exact hK.out _ _ ⟨fun zj => if zj = 7 then true else if zj = 8 then true else zB zj, fun zd => if zd = 26 then .bool false else if zd = 25 then .bool false else zS zd, by simp [hb7], by kernel_rfl, ⟨hF.1, hF.2.1, hF.2.2.1, hF.2.2.2.1, hF.2.2.2.2.1, hF.2.2.2.2.2.1, hF.2.2.2.2.2.2.1, fun _ => rfl, fun _ => rfl, hF.2.2.2.2.2.2.2.2.2.1, hF.2.2.2.2.2.2.2.2.2.2.1, hF.2.2.2.2.2.2.2.2.2.2.2.1, hF.2.2.2.2.2.2.2.2.2.2.2.2.1, hF.2.2.2.2.2.2.2.2.2.2.2.2.2.1, hF.2.2.2.2.2.2.2.2.2.2.2.2.2.2.1, hF.2.2.2.2.2.2.2.2.2.2.2.2.2.2.2⟩, ⟨hW.1, hW.2.1, hW.2.2.1, hW.2.2.2.1, hW.2.2.2.2.1, fun _ => rfl, fun _ => rfl, fun _ => rfl⟩⟩
          refine StepsI.cons rfl ?_ ?_
          · rintro L zA v9 ⟨zB, zS, rfl, rfl, hF, hW⟩ hL hm K hK
            have hb9 : zB 9 = false := by simpa using hL
            have hb8 : zB 8 = true := by cases e : zB 8 with | false => (exfalso; revert hm; simp [metB, Region.binds, e]) | true => rfl
            have e8 : zS 26 = .bool false := hF.2.2.2.2.2.2.2.2.1 hb8
            clear hL hm
            rw [hb8] at hW
            simp only [puts, Act.put, List.setIfInBounds_toArray, List.set_cons_zero, List.set_cons_succ]
            simp only [e8]
            rw [if_neg (by exact Bool.false_ne_true)]
            exact hK.out _ _ ⟨fun zj => if zj = 8 then true else if zj = 9 then true else zB zj, fun zd => if zd = 27 then undef else if zd = 26 then .bool false else zS zd, by simp [hb8], by kernel_rfl, ⟨hF.1, hF.2.1, hF.2.2.1, hF.2.2.2.1, hF.2.2.2.2.1, hF.2.2.2.2.2.1, hF.2.2.2.2.2.2.1, hF.2.2.2.2.2.2.2.1, fun _ => rfl, fun _ => rfl, hF.2.2.2.2.2.2.2.2.2.2.1, hF.2.2.2.2.2.2.2.2.2.2.2.1, hF.2.2.2.2.2.2.2.2.2.2.2.2.1, hF.2.2.2.2.2.2.2.2.2.2.2.2.2.1, hF.2.2.2.2.2.2.2.2.2.2.2.2.2.2.1, hF.2.2.2.2.2.2.2.2.2.2.2.2.2.2.2⟩, hW⟩
          refine StepsI.cons rfl ?_ ?_
          · rintro L zA v9 ⟨zB, zS, rfl, rfl, hF, hW⟩ hL hm K hK
            have hb10 : zB 10 = false := by simpa using hL
            have hb8 : zB 8 = true := by cases e : zB 8 with | false => (exfalso; revert hm; simp [metB, Region.binds, e]) | true => rfl
            have e8 : zS 26 = .bool false := hF.2.2.2.2.2.2.2.2.1 hb8
            clear hL hm
            rw [hb8] at hW
            simp only [puts, Act.put, List.setIfInBounds_toArray, List.set_cons_zero, List.set_cons_succ]
            simp only [e8]
            rw [if_neg (by exact Bool.false_ne_true)]
            exact hK.out _ _ ⟨fun zj => if zj = 8 then true else if zj = 10 then true else zB zj, fun zd => if zd = 28 then undef else if zd = 26 then .bool false else zS zd, by simp [hb8], by kernel_rfl, ⟨hF.1, hF.2.1, hF.2.2.1, hF.2.2.2.1, hF.2.2.2.2.1, hF.2.2.2.2.2.1, hF.2.2.2.2.2.2.1, hF.2.2.2.2.2.2.2.1, fun _ => rfl, hF.2.2.2.2.2.2.2.2.2.1, fun _ => rfl, hF.2.2.2.2.2.2.2.2.2.2.2.1, hF.2.2.2.2.2.2.2.2.2.2.2.2.1, hF.2.2.2.2.2.2.2.2.2.2.2.2.2.1, hF.2.2.2.2.2.2.2.2.2.2.2.2.2.2.1, hF.2.2.2.2.2.2.2.2.2.2.2.2.2.2.2⟩, hW⟩
          refine StepsI.cons rfl ?_ ?_
          · rintro L zA v9 ⟨zB, zS, rfl, rfl, hF, hW⟩ hL hm K hK
            have hb11 : zB 11 = false := by simpa using hL
            have hb8 : zB 8 = true := by cases e : zB 8 with | false => (exfalso; revert hm; simp [metB, Region.binds, e]) | true => rfl
            have e8 : zS 26 = .bool false := hF.2.2.2.2.2.2.2.2.1 hb8
            clear hL hm
            rw [hb8] at hW
            simp only [puts, Act.put, List.setIfInBounds_toArray, List.set_cons_zero, List.set_cons_succ]
            simp only [e8]
            rw [if_neg (by exact Bool.false_ne_true)]
            exact hK.out _ _ ⟨fun zj => if zj = 8 then true else if zj = 11 then true else zB zj, fun zd => if zd = 29 then undef else if zd = 26 then .bool false else zS zd, by simp [hb8], by kernel_rfl, ⟨hF.1, hF.2.1, hF.2.2.1, hF.2.2.2.1, hF.2.2.2.2.1, hF.2.2.2.2.2.1, hF.2.2.2.2.2.2.1, hF.2.2.2.2.2.2.2.1, fun _ => rfl, hF.2.2.2.2.2.2.2.2.2.1, hF.2.2.2.2.2.2.2.2.2.2.1, fun _ => rfl, hF.2.2.2.2.2.2.2.2.2.2.2.2.1, hF.2.2.2.2.2.2.2.2.2.2.2.2.2.1, hF.2.2.2.2.2.2.2.2.2.2.2.2.2.2.1, hF.2.2.2.2.2.2.2.2.2.2.2.2.2.2.2⟩, hW⟩
          refine StepsI.cons rfl ?_ ?_
          · rintro L zA v9 ⟨zB, zS, rfl, rfl, hF, hW⟩ hL hm K hK
            have hb12 : zB 12 = false := by simpa using hL
            have hb8 : zB 8 = true := by cases e : zB 8 with | false => (exfalso; revert hm; simp [metB, Region.binds, e]) | true => rfl
            have e8 : zS 26 = .bool false := hF.2.2.2.2.2.2.2.2.1 hb8
            clear hL hm
            rw [hb8] at hW
            simp only [puts, Act.put, List.setIfInBounds_toArray, List.set_cons_zero, List.set_cons_succ]
            simp only [e8]
            rw [if_neg (by exact Bool.false_ne_true)]
            exact hK.out _ _ ⟨fun zj => if zj = 8 then true else if zj = 12 then true else zB zj, fun zd => if zd = 30 then undef else if zd = 26 then .bool false else zS zd, by simp [hb8], by kernel_rfl, ⟨hF.1, hF.2.1, hF.2.2.1, hF.2.2.2.1, hF.2.2.2.2.1, hF.2.2.2.2.2.1, hF.2.2.2.2.2.2.1, hF.2.2.2.2.2.2.2.1, fun _ => rfl, hF.2.2.2.2.2.2.2.2.2.1, hF.2.2.2.2.2.2.2.2.2.2.1, hF.2.2.2.2.2.2.2.2.2.2.2.1, fun _ => rfl, hF.2.2.2.2.2.2.2.2.2.2.2.2.2.1, hF.2.2.2.2.2.2.2.2.2.2.2.2.2.2.1, hF.2.2.2.2.2.2.2.2.2.2.2.2.2.2.2⟩, hW⟩
          refine StepsI.cons rfl ?_ ?_
          · rintro L zA v9 ⟨zB, zS, rfl, rfl, hF, hW⟩ hL hm K hK
            have hb13 : zB 13 = false := by simpa using hL
            have hb8 : zB 8 = true := by cases e : zB 8 with | false => (exfalso; revert hm; simp [metB, Region.binds, e]) | true => rfl
            have e8 : zS 26 = .bool false := hF.2.2.2.2.2.2.2.2.1 hb8
            clear hL hm
            rw [hb8] at hW
            simp only [puts, Act.put, List.setIfInBounds_toArray, List.set_cons_zero, List.set_cons_succ]
            simp only [e8]
            rw [if_neg (by exact Bool.false_ne_true)]
            exact hK.out _ _ ⟨fun zj => if zj = 8 then true else if zj = 13 then true else zB zj, fun zd => if zd = 31 then undef else if zd = 26 then .bool false else zS zd, by simp [hb8], by kernel_rfl, ⟨hF.1, hF.2.1, hF.2.2.1, hF.2.2.2.1, hF.2.2.2.2.1, hF.2.2.2.2.2.1, hF.2.2.2.2.2.2.1, hF.2.2.2.2.2.2.2.1, fun _ => rfl, hF.2.2.2.2.2.2.2.2.2.1, hF.2.2.2.2.2.2.2.2.2.2.1, hF.2.2.2.2.2.2.2.2.2.2.2.1, hF.2.2.2.2.2.2.2.2.2.2.2.2.1, fun _ => rfl, hF.2.2.2.2.2.2.2.2.2.2.2.2.2.2.1, hF.2.2.2.2.2.2.2.2.2.2.2.2.2.2.2⟩, hW⟩
          refine StepsI.cons rfl ?_ ?_
          · rintro L zA v9 ⟨zB, zS, rfl, rfl, hF, hW⟩ hL hm K hK
            have hb14 : zB 14 = false := by simpa using hL
            have hb8 : zB 8 = true := by cases e : zB 8 with | false => (exfalso; revert hm; simp [metB, Region.binds, e]) | true => rfl
            have hb13 : zB 13 = true := by cases e : zB 13 with | false => (exfalso; revert hm; simp [metB, Region.binds, e]) | true => rfl
            have e8 : zS 26 = .bool false := hF.2.2.2.2.2.2.2.2.1 hb8
            have e13 : zS 31 = undef := hF.2.2.2.2.2.2.2.2.2.2.2.2.2.1 hb13
            clear hL hm
            rw [hb14] at hW
            rw [hb8] at hW
            simp only [puts, Act.put, List.setIfInBounds_toArray, List.set_cons_zero, List.set_cons_succ]
            simp only [e8, e13]
            have HWz := mkHid hW
            clear hW
            go_simp
            have hW := HWz.out
            clear HWz
            exact hK.out _ _ ⟨fun zj => if zj = 13 then true else if zj = 8 then true else if zj = 14 then true else zB zj, fun zd => if zd = 32 then .bool false else if zd = 31 then undef else if zd = 26 then .bool false else zS zd, by simp [hb8, hb13], by kernel_rfl, ⟨hF.1, hF.2.1, hF.2.2.1, hF.2.2.2.1, hF.2.2.2.2.1, hF.2.2.2.2.2.1, hF.2.2.2.2.2.2.1, hF.2.2.2.2.2.2.2.1, fun _ => rfl, hF.2.2.2.2.2.2.2.2.2.1, hF.2.2.2.2.2.2.2.2.2.2.1, hF.2.2.2.2.2.2.2.2.2.2.2.1, hF.2.2.2.2.2.2.2.2.2.2.2.2.1, fun _ => rfl, fun _ => rfl, hF.2.2.2.2.2.2.2.2.2.2.2.2.2.2.2⟩, ⟨hW.1, hW.2.1, hW.2.2.1, hW.2.2.2.1, hW.2.2.2.2.1, hW.2.2.2.2.2.1, fun _ => hW.2.2.2.2.2.2.2 rfl, fun _ => hW.2.2.2.2.2.2.2 rfl⟩⟩
          refine StepsI.cons rfl ?_ ?_
          · rintro L zA v9 ⟨zB, zS, rfl, rfl, hF, hW⟩ hL hm K hK
            have hb15 : zB 15 = false := by simpa using hL
            have hb6 : zB 6 = true := by cases e : zB 6 with | false => (exfalso; revert hm; simp [metB, Region.binds, e]) | true => rfl
            have e6 : zS 24 = .agg #[.int .i64 (jv v x).1, .int .i64 (jv v x).2.1, .bool (jv v x).2.2] := hF.2.2.2.2.2.2.1 hb6
            clear hL hm
            rw [hb15] at hW
            rw [hb6] at hW
            simp only [puts, Act.put, List.setIfInBounds_toArray, List.set_cons_zero, List.set_cons_succ]
            simp only [e6]
            have hv3 := hW.2.1 rfl
            have hv4 := hv3
            obtain ⟨k0, k1, k2, k3, k4, k5⟩ := hv3
            have h0 := mkHid (hW.2.2.2.1 rfl)
            have HWz := mkHid hW
            clear hW
            go_simp
            have hW := HWz.out
            clear HWz
            exact hK.out _ _ ⟨fun zj => if zj = 6 then true else if zj = 15 then true else zB zj, fun zd => if zd = 24 then .agg #[.int .i64 (jv v x).1, .int .i64 (jv v x).2.1, .bool (jv v x).2.2] else zS zd, by simp [hb6], by kernel_rfl, ⟨hF.1, hF.2.1, hF.2.2.1, hF.2.2.2.1, hF.2.2.2.2.1, hF.2.2.2.2.2.1, fun _ => rfl, hF.2.2.2.2.2.2.2.1, hF.2.2.2.2.2.2.2.2.1, hF.2.2.2.2.2.2.2.2.2.1, hF.2.2.2.2.2.2.2.2.2.2.1, hF.2.2.2.2.2.2.2.2.2.2.2.1, hF.2.2.2.2.2.2.2.2.2.2.2.2.1, hF.2.2.2.2.2.2.2.2.2.2.2.2.2.1, hF.2.2.2.2.2.2.2.2.2.2.2.2.2.2.1, hF.2.2.2.2.2.2.2.2.2.2.2.2.2.2.2⟩, ⟨below_set3 hW.1 (Nat.le_of_eq HPW.out) _ _ _, fun e => tf e, fun _ => ⟨h0.out, hv4.set _ _ _⟩, fun _ => h0.out, hW.2.2.2.2⟩⟩
          refine StepsI.cons rfl ?_ ?_
          · rintro L zA v9 ⟨zB, zS, rfl, rfl, hF, hW⟩ hL hm K hK
            have hb16 : zB 16 = false := by simpa using hL
            have hb14 : zB 14 = true := by cases e : zB 14 with | false => (exfalso; revert hm; simp [metB, Region.binds, e]) | true => rfl
            have e14 : zS 32 = .bool false := hF.2.2.2.2.2.2.2.2.2.2.2.2.2.2.1 hb14
            clear hL hm
            rw [hb16] at hW
            rw [hb14] at hW
            simp only [puts, Act.put, List.setIfInBounds_toArray, List.set_cons_zero, List.set_cons_succ]
            simp only [e14]
            have HWz := mkHid hW
            clear hW
            go_simp
            have hW := HWz.out
            clear HWz
            exact hK.out _ _ ⟨fun zj => if zj = 14 then true else if zj = 16 then true else zB zj, fun zd => if zd = 9 then .bool false else if zd = 32 then .bool false else zS zd, by simp [hb14], by kernel_rfl, ⟨hF.1, hF.2.1, hF.2.2.1, hF.2.2.2.1, hF.2.2.2.2.1, hF.2.2.2.2.2.1, hF.2.2.2.2.2.2.1, hF.2.2.2.2.2.2.2.1, hF.2.2.2.2.2.2.2.2.1, hF.2.2.2.2.2.2.2.2.2.1, hF.2.2.2.2.2.2.2.2.2.2.1, hF.2.2.2.2.2.2.2.2.2.2.2.1, hF.2.2.2.2.2.2.2.2.2.2.2.2.1, hF.2.2.2.2.2.2.2.2.2.2.2.2.2.1, fun _ => rfl, fun _ => rfl⟩, ⟨hW.1, hW.2.1, hW.2.2.1, hW.2.2.2.1, fun e => tf e, fun _ => hW.2.2.2.2.2.2.1 rfl, fun _ => hW.2.2.2.2.2.2.1 rfl, hW.2.2.2.2.2.2.2⟩⟩
          exact StepsI.nil (by kernel_rfl)
        · rintro L zA v9 ⟨zB, zS, rfl, rfl, hF, hW⟩ hr
          have hu := all_up (by kernel_rfl) (N := 17) (by kernel_rfl) hr
          have hb0 : zB 0 = true := by simpa using hu 0 (by decide)
          have hb1 : zB 1 = true := by simpa using hu 1 (by decide)
          have hb2 : zB 2 = true := by simpa using hu 2 (by decide)
          have hb3 : zB 3 = true := by simpa using hu 3 (by decide)
          have hb4 : zB 4 = true := by simpa using hu 4 (by decide)
          have hb5 : zB 5 = true := by simpa using hu 5 (by decide)
          have hb6 : zB 6 = true := by simpa using hu 6 (by decide)
          have hb7 : zB 7 = true := by simpa using hu 7 (by decide)
          have hb8 : zB 8 = true := by simpa using hu 8 (by decide)
          have hb9 : zB 9 = true := by simpa using hu 9 (by decide)
          have hb10 : zB 10 = true := by simpa using hu 10 (by decide)
          have hb11 : zB 11 = true := by simpa using hu 11 (by decide)
          have hb12 : zB 12 = true := by simpa using hu 12 (by decide)
          have hb13 : zB 13 = true := by simpa using hu 13 (by decide)
          have hb14 : zB 14 = true := by simpa using hu 14 (by decide)
          have hb15 : zB 15 = true := by simpa using hu 15 (by decide)
          have hb16 : zB 16 = true := by simpa using hu 16 (by decide)
          have e0 : zS 18 = .agg #[.int .i64 v.1, .int .i64 v.2.1, .bool v.2.2] := hF.1 hb0
          have e1 : zS 19 = .pointer (some ⟨X, 1, none⟩) := hF.2.1 hb1
          have e2 : zS 20 = .slice (some ⟨bb, off, none⟩) S.V.length A.c1 := hF.2.2.1 hb2
          have e3 : zS 21 = .int .i64 (q : Int) := hF.2.2.2.1 hb3
          have e4 : zS 22 = .pointer (some ⟨bb, off + q * 3, none⟩) := hF.2.2.2.2.1 hb4
          have e5 : zS 23 = .agg #[.int .i64 x.1, .int .i64 x.2.1, .bool x.2.2] := hF.2.2.2.2.2.1 hb5
          have e6 : zS 24 = .agg #[.int .i64 (jv v x).1, .int .i64 (jv v x).2.1, .bool (jv v x).2.2] := hF.2.2.2.2.2.2.1 hb6
          have e7 : zS 25 = .bool false := hF.2.2.2.2.2.2.2.1 hb7
          have e8 : zS 26 = .bool false := hF.2.2.2.2.2.2.2.2.1 hb8
          have e9 : zS 27 = undef := hF.2.2.2.2.2.2.2.2.2.1 hb9
          have e10 : zS 28 = undef := hF.2.2.2.2.2.2.2.2.2.2.1 hb10
          have e11 : zS 29 = undef := hF.2.2.2.2.2.2.2.2.2.2.2.1 hb11
          have e12 : zS 30 = undef := hF.2.2.2.2.2.2.2.2.2.2.2.2.1 hb12
          have e13 : zS 31 = undef := hF.2.2.2.2.2.2.2.2.2.2.2.2.2.1 hb13
          have e14 : zS 32 = .bool false := hF.2.2.2.2.2.2.2.2.2.2.2.2.2.2.1 hb14
          have e16 : zS 9 = .bool false := hF.2.2.2.2.2.2.2.2.2.2.2.2.2.2.2 hb16
          rw [hb0] at hW
          rw [hb6] at hW
          rw [hb7] at hW
          rw [hb8] at hW
          rw [hb14] at hW
          rw [hb15] at hW
          rw [hb16] at hW
          clear hu hr hF
          have hWx := And.intro hW.1 (And.intro hW.2.1 (And.intro hW.2.2.1 hW.2.2.2.1))
          clear hW
          have hW := hWx
          clear hWx
          simp only [puts, Act.put, List.setIfInBounds_toArray, List.set_cons_zero, List.set_cons_succ]
          simp only [e0, e1, e2, e3, e4, e5, e6, e7, e8, e9, e10, e11, e12, e13, e14, e16]
          clear e0 e1 e2 e3 e4 e5 e6 e7 e8 e9 e10 e11 e12 e13 e14 e16
          clear hb0 hb1 hb2 hb3 hb4 hb5 hb6 hb7 hb8 hb9 hb10 hb11 hb12 hb13 hb14 hb15 hb16
          clear zB zS
          have HV2 := mkHid (hW.2.2.1 (by first | rfl | trivial)).2
          have HB2 := mkHid hW.1
          clear hW hX9 he9 hm9
          go_wp2
          go_roundg (to' - fr - (k + 1))
          case measure => omega
          case rel => exact ⟨k + 1, _, by omega, rfl, (by rw [← HQQ.out]; go_num), by omega, by rw [HNX.out]; exact HV2.out, HB2.out⟩
      · refine wp_region_inv2 (fun zA0 L zA v9 => ∃ (zB : Nat → Bool) (zS : Nat → Value), L = #[zB 0, zB 1, zB 2, zB 3, zB 4, zB 5, zB 6, zB 7, zB 8, zB 9, zB 10, zB 11, zB 12, zB 13, zB 14, zB 15, zB 16] ∧ zA = puts zA0 [(18, zS 18), (19, zS 19), (20, zS 20), (21, zS 21), (22, zS 22), (23, zS 23), (24, zS 24), (25, zS 25), (26, zS 26), (27, zS 27), (28, zS 28), (29, zS 29), (30, zS 30), (31, zS 31), (32, zS 32), (9, zS 9)] ∧ ((zB 0 = true → zS 18 = .agg #[.int .i64 v.1, .int .i64 v.2.1, .bool v.2.2]) ∧ (zB 1 = true → zS 19 = .pointer (some ⟨X, 1, none⟩)) ∧ (zB 2 = true → zS 20 = .slice (some ⟨bb, off, none⟩) S.V.length A.c1) ∧ (zB 3 = true → zS 21 = .int .i64 (q : Int)) ∧ (zB 4 = true → zS 22 = .pointer (some ⟨bb, off + q * 3, none⟩)) ∧ (zB 5 = true → zS 23 = .agg #[.int .i64 x.1, .int .i64 x.2.1, .bool x.2.2]) ∧ (zB 6 = true → zS 24 = .agg #[.int .i64 (jv v x).1, .int .i64 (jv v x).2.1, .bool (jv v x).2.2]) ∧ (zB 7 = true → zS 25 = .bool true) ∧ (zB 8 = true → zS 26 = .bool true) ∧ (zB 9 = true → zS 27 = .pointer (some ⟨X, 2, none⟩)) ∧ (zB 10 = true → zS 28 = .slice (some ⟨bm, om, none⟩) S.M.length A.c2) ∧ (zB 11 = true → zS 29 = .int .i64 (q : Int)) ∧ (zB 12 = true → zS 30 = .pointer (some ⟨bm, om + q, none⟩)) ∧ (zB 13 = true → zS 31 = .bool m) ∧ (zB 14 = true → zS 32 = .bool m) ∧ (zB 16 = true → zS 9 = .bool m)) ∧ Below w1.heap.size w1 v9 ∧ ((zB 15) = false → V3 v9 P v.1 v.2.1 v.2.2) ∧ ((zB 15) = true → (zB 0) = true ∧ V3 v9 P (jv v x).1 (jv v x).2.1 (jv v x).2.2) ∧ ((zB 6) = true → (zB 0) = true) ∧ ((zB 16) = false → zS 9 = .bool true) ∧ ((zB 16) = true → (zB 7) = true) ∧ ((zB 14) = true → (zB 7) = true) ∧ ((zB 8) = true → (zB 7) = true)) (by kernel_rfl) ?_ ?_ ?_
        · exact ⟨fun _ => false, fun zd => if zd = 9 then .bool true else if zd = 32 then u32 else if zd = 31 then u31 else if zd = 30 then u30 else if zd = 29 then u29 else if zd = 28 then u28 else if zd = 27 then u27 else if zd = 26 then u26 else if zd = 25 then u25 else if zd = 24 then u24 else if zd = 23 then u23 else if zd = 22 then u22 else if zd = 21 then u21 else if zd = 20 then u20 else if zd = 19 then u19 else if zd = 18 then u18 else undef, rfl, by kernel_rfl, ⟨fun e => ft e, fun e => ft e, fun e => ft e, fun e => ft e, fun e => ft e, fun e => ft e, fun e => ft e, fun e => ft e, fun e => ft e, fun e => ft e, fun e => ft e, fun e => ft e, fun e => ft e, fun e => ft e, fun e => ft e, fun e => ft e⟩, ⟨HB1.out.drew, fun _ => HV.out.drew, fun e => ft e, fun e => ft e, fun _ => rfl, fun e => ft e, fun e => ft e, fun e => ft e⟩⟩
        · refine StepsI.cons rfl ?_ ?_
          · rintro L zA v9 ⟨zB, zS, rfl, rfl, hF, hW⟩ hL hm K hK
            have hb0 : zB 0 = false := by simpa using hL
            clear hL hm
            rw [hb0] at hW
            simp only [puts, Act.put, List.setIfInBounds_toArray, List.set_cons_zero, List.set_cons_succ]
            have h7 : zB 15 = false := by cases e : zB 15 with | false => rfl | true => exact ft (hW.2.2.1 e).1
            obtain ⟨k0, k1, k2, _, _, _⟩ := hW.2.1 h7
            have HWz := mkHid hW
            clear hW
            go_simp
            have hW := HWz.out
            clear HWz
            exact hK.out _ _ ⟨fun zj => if zj = 0 then true else zB zj, fun zd => if zd = 18 then .agg #[.int .i64 v.1, .int .i64 v.2.1, .bool v.2.2] else zS zd, rfl, by kernel_rfl, ⟨fun _ => rfl, hF.2.1, hF.2.2.1, hF.2.2.2.1, hF.2.2.2.2.1, hF.2.2.2.2.2.1, hF.2.2.2.2.2.2.1, hF.2.2.2.2.2.2.2.1, hF.2.2.2.2.2.2.2.2.1, hF.2.2.2.2.2.2.2.2.2.1, hF.2.2.2.2.2.2.2.2.2.2.1, hF.2.2.2.2.2.2.2.2.2.2.2.1, hF.2.2.2.2.2.2.2.2.2.2.2.2.1, hF.2.2.2.2.2.2.2.2.2.2.2.2.2.1, hF.2.2.2.2.2.2.2.2.2.2.2.2.2.2.1, hF.2.2.2.2.2.2.2.2.2.2.2.2.2.2.2⟩, ⟨hW.1, hW.2.1, fun e => ft (hW.2.2.1 e).1, fun _ => rfl, hW.2.2.2.2⟩⟩
          refine StepsI.cons rfl ?_ ?_
          · rintro L zA v9 ⟨zB, zS, rfl, rfl, hF, hW⟩ hL hm K hK
            have hb1 : zB 1 = false := by simpa using hL
            clear hL hm
            simp only [puts, Act.put, List.setIfInBounds_toArray, List.set_cons_zero, List.set_cons_succ]
            have HWz := mkHid hW
            clear hW
            go_simp
            have hW := HWz.out
            clear HWz
            exact hK.out _ _ ⟨fun zj => if zj = 1 then true else zB zj, fun zd => if zd = 19 then .pointer (some ⟨X, 1, none⟩) else zS zd, rfl, by kernel_rfl, ⟨hF.1, fun _ => rfl, hF.2.2.1, hF.2.2.2.1, hF.2.2.2.2.1, hF.2.2.2.2.2.1, hF.2.2.2.2.2.2.1, hF.2.2.2.2.2.2.2.1, hF.2.2.2.2.2.2.2.2.1, hF.2.2.2.2.2.2.2.2.2.1, hF.2.2.2.2.2.2.2.2.2.2.1, hF.2.2.2.2.2.2.2.2.2.2.2.1, hF.2.2.2.2.2.2.2.2.2.2.2.2.1, hF.2.2.2.2.2.2.2.2.2.2.2.2.2.1, hF.2.2.2.2.2.2.2.2.2.2.2.2.2.2.1, hF.2.2.2.2.2.2.2.2.2.2.2.2.2.2.2⟩, hW⟩
          refine StepsI.cons rfl ?_ ?_
          · rintro L zA v9 ⟨zB, zS, rfl, rfl, hF, hW⟩ hL hm K hK
            have hb2 : zB 2 = false := by simpa using hL
            have hb1 : zB 1 = true := by cases e : zB 1 with | false => (exfalso; revert hm; simp [metB, Region.binds, e]) | true => rfl
            have e1 : zS 19 = .pointer (some ⟨X, 1, none⟩) := hF.2.1 hb1
            clear hL hm
            simp only [puts, Act.put, List.setIfInBounds_toArray, List.set_cons_zero, List.set_cons_succ]
            simp only [e1]
            have k0 := (hX9 _ hW.1).c1
            rw [HAB.out] at k0
            have HWz := mkHid hW
            clear hW
            go_simp
            have hW := HWz.out
            clear HWz
            exact hK.out _ _ ⟨fun zj => if zj = 1 then true else if zj = 2 then true else zB zj, fun zd => if zd = 20 then .slice (some ⟨bb, off, none⟩) S.V.length A.c1 else if zd = 19 then .pointer (some ⟨X, 1, none⟩) else zS zd, by simp [hb1], by kernel_rfl, ⟨hF.1, fun _ => rfl, fun _ => rfl, hF.2.2.2.1, hF.2.2.2.2.1, hF.2.2.2.2.2.1, hF.2.2.2.2.2.2.1, hF.2.2.2.2.2.2.2.1, hF.2.2.2.2.2.2.2.2.1, hF.2.2.2.2.2.2.2.2.2.1, hF.2.2.2.2.2.2.2.2.2.2.1, hF.2.2.2.2.2.2.2.2.2.2.2.1, hF.2.2.2.2.2.2.2.2.2.2.2.2.1, hF.2.2.2.2.2.2.2.2.2.2.2.2.2.1, hF.2.2.2.2.2.2.2.2.2.2.2.2.2.2.1, hF.2.2.2.2.2.2.2.2.2.2.2.2.2.2.2⟩, hW⟩
          refine StepsI.cons rfl ?_ ?_
          · rintro L zA v9 ⟨zB, zS, rfl, rfl, hF, hW⟩ hL hm K hK
            have hb3 : zB 3 = false := by simpa using hL
            clear hL hm
            simp only [puts, Act.put, List.setIfInBounds_toArray, List.set_cons_zero, List.set_cons_succ]
            have HWz := mkHid hW
            clear hW
            go_simp
            have hW := HWz.out
            clear HWz
            exact hK.out _ _ ⟨fun zj => if zj = 3 then true else zB zj, fun zd => if zd = 21 then .int .i64 (q : Int) else zS zd, rfl, by kernel_rfl, ⟨hF.1, hF.2.1, hF.2.2.1, fun _ => rfl, hF.2.2.2.2.1, hF.2.2.2.2.2.1, hF.2.2.2.2.2.2.1, hF.2.2.2.2.2.2.2.1, hF.2.2.2.2.2.2.2.2.1, hF.2.2.2.2.2.2.2.2.2.1, hF.2.2.2.2.2.2.2.2.2.2.1, hF.2.2.2.2.2.2.2.2.2.2.2.1, hF.2.2.2.2.2.2.2.2.2.2.2.2.1, hF.2.2.2.2.2.2.2.2.2.2.2.2.2.1, hF.2.2.2.2.2.2.2.2.2.2.2.2.2.2.1, hF.2.2.2.2.2.2.2.2.2.2.2.2.2.2.2⟩, hW⟩
          refine StepsI.cons rfl ?_ ?_
          · rintro L zA v9 ⟨zB, zS, rfl, rfl, hF, hW⟩ hL hm K hK
            have hb4 : zB 4 = false := by simpa using hL
            have hb2 : zB 2 = true := by cases e : zB 2 with | false => (exfalso; revert hm; simp [metB, Region.binds, e]) | true => rfl
            have hb3 : zB 3 = true := by cases e : zB 3 with | false => (exfalso; revert hm; simp [metB, Region.binds, e]) | true => rfl
            have e2 : zS 20 = .slice (some ⟨bb, off, none⟩) S.V.length A.c1 := hF.2.2.1 hb2
            have e3 : zS 21 = .int .i64 (q : Int) := hF.2.2.2.1 hb3
            clear hL hm
            simp only [puts, Act.put, List.setIfInBounds_toArray, List.set_cons_zero, List.set_cons_succ]
            simp only [e2, e3]
            have HWz := mkHid hW
            clear hW
            go_simp
            have hW := HWz.out
            clear HWz
            exact hK.out _ _ ⟨fun zj => if zj = 3 then true else if zj = 2 then true else if zj = 4 then true else zB zj, fun zd => if zd = 22 then .pointer (some ⟨bb, off + q * 3, none⟩) else if zd = 21 then .int .i64 (q : Int) else if zd = 20 then .slice (some ⟨bb, off, none⟩) S.V.length A.c1 else zS zd, by simp [hb2, hb3], by kernel_rfl, ⟨hF.1, hF.2.1, fun _ => rfl, fun _ => rfl, fun _ => rfl, hF.2.2.2.2.2.1, hF.2.2.2.2.2.2.1, hF.2.2.2.2.2.2.2.1, hF.2.2.2.2.2.2.2.2.1, hF.2.2.2.2.2.2.2.2.2.1, hF.2.2.2.2.2.2.2.2.2.2.1, hF.2.2.2.2.2.2.2.2.2.2.2.1, hF.2.2.2.2.2.2.2.2.2.2.2.2.1, hF.2.2.2.2.2.2.2.2.2.2.2.2.2.1, hF.2.2.2.2.2.2.2.2.2.2.2.2.2.2.1, hF.2.2.2.2.2.2.2.2.2.2.2.2.2.2.2⟩, hW⟩
          refine StepsI.cons rfl ?_ ?_
          · rintro L zA v9 ⟨zB, zS, rfl, rfl, hF, hW⟩ hL hm K hK
            have hb5 : zB 5 = false := by simpa using hL
            have hb4 : zB 4 = true := by cases e : zB 4 with | false => (exfalso; revert hm; simp [metB, Region.binds, e]) | true => rfl
            have e4 : zS 22 = .pointer (some ⟨bb, off + q * 3, none⟩) := hF.2.2.2.2.1 hb4
            clear hL hm
            simp only [puts, Act.put, List.setIfInBounds_toArray, List.set_cons_zero, List.set_cons_succ]
            simp only [e4]
            obtain ⟨k0, k1, k2⟩ := he9 _ hW.1
            have HWz := mkHid hW
            clear hW
            go_simp
            have hW := HWz.out
            clear HWz
            exact hK.out _ _ ⟨fun zj => if zj = 4 then true else if zj = 5 then true else zB zj, fun zd => if zd = 23 then .agg #[.int .i64 x.1, .int .i64 x.2.1, .bool x.2.2] else if zd = 22 then .pointer (some ⟨bb, off + q * 3, none⟩) else zS zd, by simp [hb4], by kernel_rfl, ⟨hF.1, hF.2.1, hF.2.2.1, hF.2.2.2.1, fun _ => rfl, fun _ => rfl, hF.2.2.2.2.2.2.1, hF.2.2.2.2.2.2.2.1, hF.2.2.2.2.2.2.2.2.1, hF.2.2.2.2.2.2.2.2.2.1, hF.2.2.2.2.2.2.2.2.2.2.1, hF.2.2.2.2.2.2.2.2.2.2.2.1, hF.2.2.2.2.2.2.2.2.2.2.2.2.1, hF.2.2.2.2.2.2.2.2.2.2.2.2.2.1, hF.2.2.2.2.2.2.2.2.2.2.2.2.2.2.1, hF.2.2.2.2.2.2.2.2.2.2.2.2.2.2.2⟩, hW⟩
          refine StepsI.cons rfl ?_ ?_
          · rintro L zA v9 ⟨zB, zS, rfl, rfl, hF, hW⟩ hL hm K hK
            have hb6 : zB 6 = false := by simpa using hL
            have hb0 : zB 0 = true := by cases e : zB 0 with | false => (exfalso; revert hm; simp [metB, Region.binds, e]) | true => rfl
            have hb5 : zB 5 = true := by cases e : zB 5 with | false => (exfalso; revert hm; simp [metB, Region.binds, e]) | true => rfl
            have e0 : zS 18 = .agg #[.int .i64 v.1, .int .i64 v.2.1, .bool v.2.2] := hF.1 hb0
            have e5 : zS 23 = .agg #[.int .i64 x.1, .int .i64 x.2.1, .bool x.2.2] := hF.2.2.2.2.2.1 hb5
            clear hL hm
            rw [hb6] at hW
            rw [hb0] at hW
            simp only [puts, Act.put, List.setIfInBounds_toArray, List.set_cons_zero, List.set_cons_succ]
            simp only [e0, e5]
            have HWz := mkHid hW
            clear hW
            go_simp
            have hW := HWz.out
            clear HWz
            refine (iVjoin_any _ _ _ _ _ _ _).mono ?_
            rintro e v92 ⟨rfl, hb⟩
            have HWz := mkHid hW
            clear hW
            go_wp2_with fail
            have hW := HWz.out
            clear HWz
            exact hK.out _ _ ⟨fun zj => if zj = 5 then true else if zj = 0 then true else if zj = 6 then true else zB zj, fun zd => if zd = 24 then .agg #[.int .i64 (jv v x).1, .int .i64 (jv v x).2.1, .bool (jv v x).2.2] else if zd = 23 then .agg #[.int .i64 x.1, .int .i64 x.2.1, .bool x.2.2] else if zd = 18 then .agg #[.int .i64 v.1, .int .i64 v.2.1, .bool v.2.2] else zS zd, by simp [hb0, hb5], by kernel_rfl, ⟨fun _ => rfl, hF.2.1, hF.2.2.1, hF.2.2.2.1, hF.2.2.2.2.1, fun _ => rfl, fun _ => rfl, hF.2.2.2.2.2.2.2.1, hF.2.2.2.2.2.2.2.2.1, hF.2.2.2.2.2.2.2.2.2.1, hF.2.2.2.2.2.2.2.2.2.2.1, hF.2.2.2.2.2.2.2.2.2.2.2.1, hF.2.2.2.2.2.2.2.2.2.2.2.2.1, hF.2.2.2.2.2.2.2.2.2.2.2.2.2.1, hF.2.2.2.2.2.2.2.2.2.2.2.2.2.2.1, hF.2.2.2.2.2.2.2.2.2.2.2.2.2.2.2⟩, ⟨below_step hW.1 hb, fun q => (hW.2.1 q).below hb, fun q => ⟨rfl, (hW.2.2.1 q).2.below hb⟩, fun _ => rfl, hW.2.2.2.2⟩⟩
          refine StepsI.cons rfl ?_ ?_
          · rintro L zA v9 ⟨zB, zS, rfl, rfl, hF, hW⟩ hL hm K hK
            have hb7 : zB 7 = false := by simpa using hL
            clear hL hm
            rw [hb7] at hW
            simp only [puts, Act.put, List.setIfInBounds_toArray, List.set_cons_zero, List.set_cons_succ]
            have h16 : zB 16 = false := by cases e : zB 16 with | false => rfl | true => exact ft (hW.2.2.2.2.2.1 e)
            have e9 := mkHid (hW.2.2.2.2.1 h16)
            have HWz := mkHid hW
            clear hW
            go_simp
            have hW := HWz.out
            clear HWz
            exact hK.out _ _ ⟨fun zj => if zj = 7 then true else zB zj, fun zd => if zd = 25 then zS 9 else zS zd, rfl, by kernel_rfl, ⟨hF.1, hF.2.1, hF.2.2.1, hF.2.2.2.1, hF.2.2.2.2.1, hF.2.2.2.2.2.1, hF.2.2.2.2.2.2.1, fun _ => e9.out, hF.2.2.2.2.2.2.2.2.1, hF.2.2.2.2.2.2.2.2.2.1, hF.2.2.2.2.2.2.2.2.2.2.1, hF.2.2.2.2.2.2.2.2.2.2.2.1, hF.2.2.2.2.2.2.2.2.2.2.2.2.1, hF.2.2.2.2.2.2.2.2.2.2.2.2.2.1, hF.2.2.2.2.2.2.2.2.2.2.2.2.2.2.1, hF.2.2.2.2.2.2.2.2.2.2.2.2.2.2.2⟩, ⟨hW.1, hW.2.1, hW.2.2.1, hW.2.2.2.1, hW.2.2.2.2.1, fun _ => rfl, fun _ => rfl, fun _ => rfl⟩⟩
          refine StepsI.cons rfl ?_ ?_
          · rintro L zA v9 ⟨zB, zS, rfl, rfl, hF, hW⟩ hL hm K hK
            have hb8 : zB 8 = false := by simpa using hL
            have hb7 : zB 7 = true := by cases e : zB 7 with | false => (exfalso; revert hm; simp [metB, Region.binds, e]) | true => rfl
            have e7 : zS 25 = .bool true := hF.2.2.2.2.2.2.2.1 hb7
            clear hL hm
            rw [hb8] at hW
            rw [hb7] at hW
            simp only [puts, Act.put, List.setIfInBounds_toArray, List.set_cons_zero, List.set_cons_succ]
            simp only [e7]
            have HWz := mkHid hW
            clear hW
            go_simp
            have hW := HWz.out
            clear HWz
            exact hK.out _ _ ⟨fun zj => if zj = 7 then true else if zj = 8 then true else zB zj, fun zd => if zd = 26 then .bool true else if zd = 25 then .bool true else zS zd, by simp [hb7], by kernel_rfl, ⟨hF.1, hF.2.1, hF.2.2.1, hF.2.2.2.1, hF.2.2.2.2.1, hF.2.2.2.2.2.1, hF.2.2.2.2.2.2.1, fun _ => rfl, fun _ => rfl, hF.2.2.2.2.2.2.2.2.2.1, hF.2.2.2.2.2.2.2.2.2.2.1, hF.2.2.2.2.2.2.2.2.2.2.2.1, hF.2.2.2.2.2.2.2.2.2.2.2.2.1, hF.2.2.2.2.2.2.2.2.2.2.2.2.2.1, hF.2.2.2.2.2.2.2.2.2.2.2.2.2.2.1, hF.2.2.2.2.2.2.2.2.2.2.2.2.2.2.2⟩, ⟨hW.1, hW.2.1, hW.2.2.1, hW.2.2.2.1, hW.2.2.2.2.1, fun _ => rfl, fun _ => rfl, fun _ => rfl⟩⟩
          refine StepsI.cons rfl ?_ ?_
          · rintro L zA v9 ⟨zB, zS, rfl, rfl, hF, hW⟩ hL hm K hK
            have hb9 : zB 9 = false := by simpa using hL
            have hb8 : zB 8 = true := by cases e : zB 8 with | false => (exfalso; revert hm; simp [metB, Region.binds, e]) | true => rfl
            have e8 : zS 26 = .bool true := hF.2.2.2.2.2.2.2.2.1 hb8
            clear hL hm
            rw [hb8] at hW
            simp only [puts, Act.put, List.setIfInBounds_toArray, List.set_cons_zero, List.set_cons_succ]
            simp only [e8]
            have HWz := mkHid hW
            clear hW
            go_simp
            have hW := HWz.out
            clear HWz
            exact hK.out _ _ ⟨fun zj => if zj = 8 then true else if zj = 9 then true else zB zj, fun zd => if zd = 27 then .pointer (some ⟨X, 2, none⟩) else if zd = 26 then .bool true else zS zd, by simp [hb8], by kernel_rfl, ⟨hF.1, hF.2.1, hF.2.2.1, hF.2.2.2.1, hF.2.2.2.2.1, hF.2.2.2.2.2.1, hF.2.2.2.2.2.2.1, hF.2.2.2.2.2.2.2.1, fun _ => rfl, fun _ => rfl, hF.2.2.2.2.2.2.2.2.2.2.1, hF.2.2.2.2.2.2.2.2.2.2.2.1, hF.2.2.2.2.2.2.2.2.2.2.2.2.1, hF.2.2.2.2.2.2.2.2.2.2.2.2.2.1, hF.2.2.2.2.2.2.2.2.2.2.2.2.2.2.1, hF.2.2.2.2.2.2.2.2.2.2.2.2.2.2.2⟩, hW⟩
          refine StepsI.cons rfl ?_ ?_
          · rintro L zA v9 ⟨zB, zS, rfl, rfl, hF, hW⟩ hL hm K hK
            have hb10 : zB 10 = false := by simpa using hL
            have hb8 : zB 8 = true := by cases e : zB 8 with | false => (exfalso; revert hm; simp [metB, Region.binds, e]) | true => rfl
            have hb9 : zB 9 = true := by cases e : zB 9 with | false => (exfalso; revert hm; simp [metB, Region.binds, e]) | true => rfl
            have e8 : zS 26 = .bool true := hF.2.2.2.2.2.2.2.2.1 hb8
            have e9 : zS 27 = .pointer (some ⟨X, 2, none⟩) := hF.2.2.2.2.2.2.2.2.2.1 hb9
            clear hL hm
            rw [hb8] at hW
            simp only [puts, Act.put, List.setIfInBounds_toArray, List.set_cons_zero, List.set_cons_succ]
            simp only [e8, e9]
            have k0 := (hX9 _ hW.1).c2
            rw [HAM.out] at k0
            have HWz := mkHid hW
            clear hW
            go_simp
            have hW := HWz.out
            clear HWz
            exact hK.out _ _ ⟨fun zj => if zj = 9 then true else if zj = 8 then true else if zj = 10 then true else zB zj, fun zd => if zd = 28 then .slice (some ⟨bm, om, none⟩) S.M.length A.c2 else if zd = 27 then .pointer (some ⟨X, 2, none⟩) else if zd = 26 then .bool true else zS zd, by simp [hb8, hb9], by kernel_rfl, ⟨hF.1, hF.2.1, hF.2.2.1, hF.2.2.2.1, hF.2.2.2.2.1, hF.2.2.2.2.2.1, hF.2.2.2.2.2.2.1, hF.2.2.2.2.2.2.2.1, fun _ => rfl, fun _ => rfl, fun _ => rfl, hF.2.2.2.2.2.2.2.2.2.2.2.1, hF.2.2.2.2.2.2.2.2.2.2.2.2.1, hF.2.2.2.2.2.2.2.2.2.2.2.2.2.1, hF.2.2.2.2.2.2.2.2.2.2.2.2.2.2.1, hF.2.2.2.2.2.2.2.2.2.2.2.2.2.2.2⟩, hW⟩
          refine StepsI.cons rfl ?_ ?_
          · rintro L zA v9 ⟨zB, zS, rfl, rfl, hF, hW⟩ hL hm K hK
            have hb11 : zB 11 = false := by simpa using hL
            have hb8 : zB 8 = true := by cases e : zB 8 with | false => (exfalso; revert hm; simp [metB, Region.binds, e]) | true => rfl
            have e8 : zS 26 = .bool true := hF.2.2.2.2.2.2.2.2.1 hb8
            clear hL hm
            rw [hb8] at hW
            simp only [puts, Act.put, List.setIfInBounds_toArray, List.set_cons_zero, List.set_cons_succ]
            simp only [e8]
            have HWz := mkHid hW
            clear hW
            go_simp
            have hW := HWz.out
            clear HWz
            exact hK.out _ _ ⟨fun zj => if zj = 8 then true else if zj = 11 then true else zB zj, fun zd => if zd = 29 then .int .i64 (q : Int) else if zd = 26 then .bool true else zS zd, by simp [hb8], by kernel_rfl, ⟨hF.1, hF.2.1, hF.2.2.1, hF.2.2.2.1, hF.2.2.2.2.1, hF.2.2.2.2.2.1, hF.2.2.2.2.2.2.1, hF.2.2.2.2.2.2.2.1, fun _ => rfl, hF.2.2.2.2.2.2.2.2.2.1, hF.2.2.2.2.2.2.2.2.2.2.1, fun _ => rfl, hF.2.2.2.2.2.2.2.2.2.2.2.2.1, hF.2.2.2.2.2.2.2.2.2.2.2.2.2.1, hF.2.2.2.2.2.2.2.2.2.2.2.2.2.2.1, hF.2.2.2.2.2.2.2.2.2.2.2.2.2.2.2⟩, hW⟩
          refine StepsI.cons rfl ?_ ?_
          · rintro L zA v9 ⟨zB, zS, rfl, rfl, hF, hW⟩ hL hm K hK
            have hb12 : zB 12 = false := by simpa using hL
            have hb8 : zB 8 = true := by cases e : zB 8 with | false => (exfalso; revert hm; simp [metB, Region.binds, e]) | true => rfl
            have hb10 : zB 10 = true := by cases e : zB 10 with | false => (exfalso; revert hm; simp [metB, Region.binds, e]) | true => rfl
            have hb11 : zB 11 = true := by cases e : zB 11 with | false => (exfalso; revert hm; simp [metB, Region.binds, e]) | true => rfl
            have e8 : zS 26 = .bool true := hF.2.2.2.2.2.2.2.2.1 hb8
            have e10 : zS 28 = .slice (some ⟨bm, om, none⟩) S.M.length A.c2 := hF.2.2.2.2.2.2.2.2.2.2.1 hb10
            have e11 : zS 29 = .int .i64 (q : Int) := hF.2.2.2.2.2.2.2.2.2.2.2.1 hb11
            clear hL hm
            rw [hb8] at hW
            simp only [puts, Act.put, List.setIfInBounds_toArray, List.set_cons_zero, List.set_cons_succ]
            simp only [e8, e10, e11]
            have HWz := mkHid hW
            clear hW
            go_simp
            have hW := HWz.out
            clear HWz
            exact hK.out _ _ ⟨fun zj => if zj = 11 then true else if zj = 10 then true else if zj = 8 then true else if zj = 12 then true else zB zj, fun zd => if zd = 30 then .pointer (some ⟨bm, om + q, none⟩) else if zd = 29 then .int .i64 (q : Int) else if zd = 28 then .slice (some ⟨bm, om, none⟩) S.M.length A.c2 else if zd = 26 then .bool true else zS zd, by simp [hb8, hb10, hb11], by kernel_rfl, ⟨hF.1, hF.2.1, hF.2.2.1, hF.2.2.2.1, hF.2.2.2.2.1, hF.2.2.2.2.2.1, hF.2.2.2.2.2.2.1, hF.2.2.2.2.2.2.2.1, fun _ => rfl, hF.2.2.2.2.2.2.2.2.2.1, fun _ => rfl, fun _ => rfl, fun _ => rfl, hF.2.2.2.2.2.2.2.2.2.2.2.2.2.1, hF.2.2.2.2.2.2.2.2.2.2.2.2.2.2.1, hF.2.2.2.2.2.2.2.2.2.2.2.2.2.2.2⟩, hW⟩
          refine StepsI.cons rfl ?_ ?_
          · rintro L zA v9 ⟨zB, zS, rfl, rfl, hF, hW⟩ hL hm K hK
            have hb13 : zB 13 = false := by simpa using hL
            have hb8 : zB 8 = true := by cases e : zB 8 with | false => (exfalso; revert hm; simp [metB, Region.binds, e]) | true => rfl
            have hb12 : zB 12 = true := by cases e : zB 12 with | false => (exfalso; revert hm; simp [metB, Region.binds, e]) | true => rfl
            have e8 : zS 26 = .bool true := hF.2.2.2.2.2.2.2.2.1 hb8
            have e12 : zS 30 = .pointer (some ⟨bm, om + q, none⟩) := hF.2.2.2.2.2.2.2.2.2.2.2.2.1 hb12
            clear hL hm
            rw [hb8] at hW
            simp only [puts, Act.put, List.setIfInBounds_toArray, List.set_cons_zero, List.set_cons_succ]
            simp only [e8, e12]
            have k0 := hm9 _ hW.1
            have HWz := mkHid hW
            clear hW
            go_simp
            have hW := HWz.out
            clear HWz
            exact hK.out _ _ ⟨fun zj => if zj = 12 then true else if zj = 8 then true else if zj = 13 then true else zB zj, fun zd => if zd = 31 then .bool m else if zd = 30 then .pointer (some ⟨bm, om + q, none⟩) else if zd = 26 then .bool true else zS zd, by simp [hb8, hb12], by kernel_rfl, ⟨hF.1, hF.2.1, hF.2.2.1, hF.2.2.2.1, hF.2.2.2.2.1, hF.2.2.2.2.2.1, hF.2.2.2.2.2.2.1, hF.2.2.2.2.2.2.2.1, fun _ => rfl, hF.2.2.2.2.2.2.2.2.2.1, hF.2.2.2.2.2.2.2.2.2.2.1, hF.2.2.2.2.2.2.2.2.2.2.2.1, fun _ => rfl, fun _ => rfl, hF.2.2.2.2.2.2.2.2.2.2.2.2.2.2.1, hF.2.2.2.2.2.2.2.2.2.2.2.2.2.2.2⟩, hW⟩
          refine StepsI.cons rfl ?_ ?_
          · rintro L zA v9 ⟨zB, zS, rfl, rfl, hF, hW⟩ hL hm K hK
            have hb14 : zB 14 = false := by simpa using hL
            have hb8 : zB 8 = true := by cases e : zB 8 with | false => (exfalso; revert hm; simp [metB, Region.binds, e]) | true => rfl
            have hb13 : zB 13 = true := by cases e : zB 13 with | false => (exfalso; revert hm; simp [metB, Region.binds, e]) | true => rfl
            have e8 : zS 26 = .bool true := hF.2.2.2.2.2.2.2.2.1 hb8
            have e13 : zS 31 = .bool m := hF.2.2.2.2.2.2.2.2.2.2.2.2.2.1 hb13
            clear hL hm
            rw [hb14] at hW
            rw [hb8] at hW
            simp only [puts, Act.put, List.setIfInBounds_toArray, List.set_cons_zero, List.set_cons_succ]
            simp only [e8, e13]
            have HWz := mkHid hW
            clear hW
            go_simp
            have hW := HWz.out
            clear HWz
            exact hK.out _ _ ⟨fun zj => if zj = 13 then true else if zj = 8 then true else if zj = 14 then true else zB zj, fun zd => if zd = 32 then .bool m else if zd = 31 then .bool m else if zd = 26 then .bool true else zS zd, by simp [hb8, hb13], by kernel_rfl, ⟨hF.1, hF.2.1, hF.2.2.1, hF.2.2.2.1, hF.2.2.2.2.1, hF.2.2.2.2.2.1, hF.2.2.2.2.2.2.1, hF.2.2.2.2.2.2.2.1, fun _ => rfl, hF.2.2.2.2.2.2.2.2.2.1, hF.2.2.2.2.2.2.2.2.2.2.1, hF.2.2.2.2.2.2.2.2.2.2.2.1, hF.2.2.2.2.2.2.2.2.2.2.2.2.1, fun _ => rfl, fun _ => rfl, hF.2.2.2.2.2.2.2.2.2.2.2.2.2.2.2⟩, ⟨hW.1, hW.2.1, hW.2.2.1, hW.2.2.2.1, hW.2.2.2.2.1, hW.2.2.2.2.2.1, fun _ => hW.2.2.2.2.2.2.2 rfl, fun _ => hW.2.2.2.2.2.2.2 rfl⟩⟩
          refine StepsI.cons rfl ?_ ?_
          · rintro L zA v9 ⟨zB, zS, rfl, rfl, hF, hW⟩ hL hm K hK
            have hb15 : zB 15 = false := by simpa using hL
            have hb6 : zB 6 = true := by cases e : zB 6 with | false => (exfalso; revert hm; simp [metB, Region.binds, e]) | true => rfl
            have e6 : zS 24 = .agg #[.int .i64 (jv v x).1, .int .i64 (jv v x).2.1, .bool (jv v x).2.2] := hF.2.2.2.2.2.2.1 hb6
            clear hL hm
            rw [hb15] at hW
            rw [hb6] at hW
            simp only [puts, Act.put, List.setIfInBounds_toArray, List.set_cons_zero, List.set_cons_succ]
            simp only [e6]
            have hv3 := hW.2.1 rfl
            have hv4 := hv3
            obtain ⟨k0, k1, k2, k3, k4, k5⟩ := hv3
            have h0 := mkHid (hW.2.2.2.1 rfl)
            have HWz := mkHid hW
            clear hW
            go_simp
            have hW := HWz.out
            clear HWz
            exact hK.out _ _ ⟨fun zj => if zj = 6 then true else if zj = 15 then true else zB zj, fun zd => if zd = 24 then .agg #[.int .i64 (jv v x).1, .int .i64 (jv v x).2.1, .bool (jv v x).2.2] else zS zd, by simp [hb6], by kernel_rfl, ⟨hF.1, hF.2.1, hF.2.2.1, hF.2.2.2.1, hF.2.2.2.2.1, hF.2.2.2.2.2.1, fun _ => rfl, hF.2.2.2.2.2.2.2.1, hF.2.2.2.2.2.2.2.2.1, hF.2.2.2.2.2.2.2.2.2.1, hF.2.2.2.2.2.2.2.2.2.2.1, hF.2.2.2.2.2.2.2.2.2.2.2.1, hF.2.2.2.2.2.2.2.2.2.2.2.2.1, hF.2.2.2.2.2.2.2.2.2.2.2.2.2.1, hF.2.2.2.2.2.2.2.2.2.2.2.2.2.2.1, hF.2.2.2.2.2.2.2.2.2.2.2.2.2.2.2⟩, ⟨below_set3 hW.1 (Nat.le_of_eq HPW.out) _ _ _, fun e => tf e, fun _ => ⟨h0.out, hv4.set _ _ _⟩, fun _ => h0.out, hW.2.2.2.2⟩⟩
          refine StepsI.cons rfl ?_ ?_
          · rintro L zA v9 ⟨zB, zS, rfl, rfl, hF, hW⟩ hL hm K hK
            have hb16 : zB 16 = false := by simpa using hL
            have hb14 : zB 14 = true := by cases e : zB 14 with | false => (exfalso; revert hm; simp [metB, Region.binds, e]) | true => rfl
            have e14 : zS 32 = .bool m := hF.2.2.2.2.2.2.2.2.2.2.2.2.2.2.1 hb14
            clear hL hm
            rw [hb16] at hW
            rw [hb14] at hW
            simp only [puts, Act.put, List.setIfInBounds_toArray, List.set_cons_zero, List.set_cons_succ]
            simp only [e14]
            have HWz := mkHid hW
            clear hW
            go_simp
            have hW := HWz.out
            clear HWz
            exact hK.out _ _ ⟨fun zj => if zj = 14 then true else if zj = 16 then true else zB zj, fun zd => if zd = 9 then .bool m else if zd = 32 then .bool m else zS zd, by simp [hb14], by kernel_rfl, ⟨hF.1, hF.2.1, hF.2.2.1, hF.2.2.2.1, hF.2.2.2.2.1, hF.2.2.2.2.2.1, hF.2.2.2.2.2.2.1, hF.2.2.2.2.2.2.2.1, hF.2.2.2.2.2.2.2.2.1, hF.2.2.2.2.2.2.2.2.2.1, hF.2.2.2.2.2.2.2.2.2.2.1, hF.2.2.2.2.2.2.2.2.2.2.2.1, hF.2.2.2.2.2.2.2.2.2.2.2.2.1, hF.2.2.2.2.2.2.2.2.2.2.2.2.2.1, fun _ => rfl, fun _ => rfl⟩, ⟨hW.1, hW.2.1, hW.2.2.1, hW.2.2.2.1, fun e => tf e, fun _ => hW.2.2.2.2.2.2.1 rfl, fun _ => hW.2.2.2.2.2.2.1 rfl, hW.2.2.2.2.2.2.2⟩⟩
          exact StepsI.nil (by kernel_rfl)
        · rintro L zA v9 ⟨zB, zS, rfl, rfl, hF, hW⟩ hr
          have hu := all_up (by kernel_rfl) (N := 17) (by kernel_rfl) hr
          have hb0 : zB 0 = true := by simpa using hu 0 (by decide)
          have hb1 : zB 1 = true := by simpa using hu 1 (by decide)
          have hb2 : zB 2 = true := by simpa using hu 2 (by decide)
          have hb3 : zB 3 = true := by simpa using hu 3 (by decide)
          have hb4 : zB 4 = true := by simpa using hu 4 (by decide)
          have hb5 : zB 5 = true := by simpa using hu 5 (by decide)
          have hb6 : zB 6 = true := by simpa using hu 6 (by decide)
          have hb7 : zB 7 = true := by simpa using hu 7 (by decide)
          have hb8 : zB 8 = true := by simpa using hu 8 (by decide)
          have hb9 : zB 9 = true := by simpa using hu 9 (by decide)
          have hb10 : zB 10 = true := by simpa using hu 10 (by decide)
          have hb11 : zB 11 = true := by simpa using hu 11 (by decide)
          have hb12 : zB 12 = true := by simpa using hu 12 (by decide)
          have hb13 : zB 13 = true := by simpa using hu 13 (by decide)
          have hb14 : zB 14 = true := by simpa using hu 14 (by decide)
          have hb15 : zB 15 = true := by simpa using hu 15 (by decide)
          have hb16 : zB 16 = true := by simpa using hu 16 (by decide)
          have e0 : zS 18 = .agg #[.int .i64 v.1, .int .i64 v.2.1, .bool v.2.2] := hF.1 hb0
          have e1 : zS 19 = .pointer (some ⟨X, 1, none⟩) := hF.2.1 hb1
          have e2 : zS 20 = .slice (some ⟨bb, off, none⟩) S.V.length A.c1 := hF.2.2.1 hb2
          have e3 : zS 21 = .int .i64 (q : Int) := hF.2.2.2.1 hb3
          have e4 : zS 22 = .pointer (some ⟨bb, off + q * 3, none⟩) := hF.2.2.2.2.1 hb4
          have e5 : zS 23 = .agg #[.int .i64 x.1, .int .i64 x.2.1, .bool x.2.2] := hF.2.2.2.2.2.1 hb5
          have e6 : zS 24 = .agg #[.int .i64 (jv v x).1, .int .i64 (jv v x).2.1, .bool (jv v x).2.2] := hF.2.2.2.2.2.2.1 hb6
          have e7 : zS 25 = .bool true := hF.2.2.2.2.2.2.2.1 hb7
          have e8 : zS 26 = .bool true := hF.2.2.2.2.2.2.2.2.1 hb8
          have e9 : zS 27 = .pointer (some ⟨X, 2, none⟩) := hF.2.2.2.2.2.2.2.2.2.1 hb9
          have e10 : zS 28 = .slice (some ⟨bm, om, none⟩) S.M.length A.c2 := hF.2.2.2.2.2.2.2.2.2.2.1 hb10
          have e11 : zS 29 = .int .i64 (q : Int) := hF.2.2.2.2.2.2.2.2.2.2.2.1 hb11
          have e12 : zS 30 = .pointer (some ⟨bm, om + q, none⟩) := hF.2.2.2.2.2.2.2.2.2.2.2.2.1 hb12
          have e13 : zS 31 = .bool m := hF.2.2.2.2.2.2.2.2.2.2.2.2.2.1 hb13
          have e14 : zS 32 = .bool m := hF.2.2.2.2.2.2.2.2.2.2.2.2.2.2.1 hb14
          have e16 : zS 9 = .bool m := hF.2.2.2.2.2.2.2.2.2.2.2.2.2.2.2 hb16
          rw [hb0] at hW
          rw [hb6] at hW
          rw [hb7] at hW
          rw [hb8] at hW
          rw [hb14] at hW
          rw [hb15] at hW
          rw [hb16] at hW
          clear hu hr hF
          have hWx := And.intro hW.1 (And.intro hW.2.1 (And.intro hW.2.2.1 hW.2.2.2.1))
          clear hW
          have hW := hWx
          clear hWx
          simp only [puts, Act.put, List.setIfInBounds_toArray, List.set_cons_zero, List.set_cons_succ]
          simp only [e0, e1, e2, e3, e4, e5, e6, e7, e8, e9, e10, e11, e12, e13, e14, e16]
          clear e0 e1 e2 e3 e4 e5 e6 e7 e8 e9 e10 e11 e12 e13 e14 e16
          clear hb0 hb1 hb2 hb3 hb4 hb5 hb6 hb7 hb8 hb9 hb10 hb11 hb12 hb13 hb14 hb15 hb16
          clear zB zS
          have HV2 := mkHid (hW.2.2.1 (by first | rfl | trivial)).2
          have HB2 := mkHid hW.1
          clear hW hX9 he9 hm9
          go_wp2
          go_roundg (to' - fr - (k + 1))
          case measure => omega
          case rel => exact ⟨k + 1, _, by omega, rfl, (by rw [← HQQ.out]; go_num), by omega, by rw [HNX.out]; exact HV2.out, HB2.out⟩
    · have e : k = to' - fr := by omega
      subst e
      have i2 : ¬ (((fr + (to' - fr) : Nat) : Int) < (to' : Int)) := by omega
      obtain ⟨v, hv⟩ : ∃ v, amg S.V fr (to' - fr) = v := ⟨_, rfl⟩
      rw [hv] at HV
      have HVV := mkHid hv
      obtain ⟨q, hqq⟩ : ∃ q, fr + (to' - fr) = q := ⟨_, rfl⟩
      rw [hqq] at i2
      rw [hqq]
      obtain ⟨k0, k1, k2, k3, k4, k5⟩ := HV.out
      obtain ⟨z0, z1, z2, z3, z4, z5⟩ := Z1.out.belowAt HB1.out Z1.out.lt
      have HE := mkHid (fun a b c => below_set3 (below_step B1.out HB1.out) hXB.out a b c)
      clear hv hqq hlt
      go_wp2
      rw [HVV.out]
      exact bodyPost_ret (v := .tuple #[.agg #[.int .i64 v.1, .int .i64 v.2.1, .bool v.2.2], .bool mb]) (by simp [results, Tryz.results63, go_sem, *]) rfl ⟨⟨mb, rfl⟩, HE.out _ _ _⟩
end Go.Proofs.YtihpajiololfoaaGreat
