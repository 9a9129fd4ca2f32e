/-
  CONTRACTS of site.last, the two searches and site.span.
-/
import Derived.Test.YtihpajiololfoaaGreatCc34
import Derived.Test.YtihpajiololfoaaGreatCc32
import Derived.Test.YtihpajiololfoaaGreatCc01
namespace Go.Proofs.YtihpajiololfoaaGreat
open Go.RowKit

set_option maxRecDepth 100000 in
set_option maxHeartbeats 1600000 in
theorem last_any (z lv : Int) (A : SAd) (S : SG) (n : Int) (G : List Int) (hG : G.length = 169) (w : World) (hs : S.B.length ≤ 1048576) : Calls Tryz.prog 99 #[.agg (sA z lv A S n G)] w fun e w' => e = .returned (.int .i64 ((S.B.length : Int) - 1)) ∧ Below w.heap.size w w' := by
 have D0 := St.new w z lv A S n hG 82
 have c2 := D0.c2
 have B0 := mkHid (bl_alloc (Below.refl w.heap.size w) (.cells (sA z lv A S n G) 82))
 have hw : IntKind.i64.wrap ((S.B.length : Int) - 1) = (S.B.length : Int) - 1 := IntWalk.i64_in _ ⟨by omega, by omega⟩
 clear D0
 go_enter Tryz.func99, Tryz.ntmps99
 go_wp2
 go_ret
 exact ⟨rfl, B0.out⟩
theorem one_at (w : World) (a : Y) (T : TypeId) : At eY (w.alloc (.cells #[.int .i64 a.1, .int .i64 a.2] T)) (some ⟨w.heap.size, 0, none⟩) [a] := by
 refine .inr ⟨_, _, rfl, fun i x hi j v hv => ?_⟩
 cases i with
 | succ i => simp at hi
 | zero =>
  simp at hi
  subst hi
  match j, hv with
  | 0, hv => simp [eY] at hv; subst hv; simp [go_sem]
  | 1, hv => simp [eY] at hv; subst hv; simp [go_sem]
  | j + 2, hv => simp [eY] at hv
set_option maxRecDepth 100000 in
set_option maxHeartbeats 6400000 in
theorem down_any (z lv : Int) (A : SAd) (S : SG) (n : Nat) (f : Q.Tab) (h2 : n ≤ 13) (hbd : Q.Bd n f 10000000) (a : Y) (ha : Wd n a) (X R : Nat) (at0 m : Nat) (w : World) (hs : Small S) (hm : S.B.length = m + 1) (hat : at0 ≤ m) (hW : Wds n S.B) (hS : SegAt w A S) (hX : St w X z lv A S n (Q.grid n f)) (hR : Box w R a.1 a.2) :
  Calls Tryz.prog 135 #[.int .i64 at0, .pointer (some ⟨X, 0, none⟩), .pointer (some ⟨R, 0, none⟩)] w fun e w' => e = .returned (.int .i64 (dn (pF f S.B a) at0 : Nat)) ∧ Below w.heap.size w w' := by
 have hkm := hs.b
 obtain ⟨G, hG⟩ : ∃ G, Q.grid n f = G := ⟨_, rfl⟩
 have HAB : Hid (∀ (row : List Y) (ao : Option Addr) (cp q : Nat) (v : World), row.length ≤ 1048576 → (∀ x, x ∈ row → Wd n x) → At eY v ao row → At eY v (some ⟨q, 0, none⟩) [a] → Calls Tryz.prog 90 #[.agg (Q.dA n G), .slice ao row.length cp, .slice (some ⟨q, 0, none⟩) 1 1, .int .i64 0] v fun e w' => e = .returned (.bool (row.any fun x => bl f x a 0)) ∧ Below v.heap.size v w') := mkHid fun row ao cp q v q1 q2 q3 q4 => by
  have h9 := areBelow_any n f h2 hbd row [a] ao (some ⟨q, 0, none⟩) cp 1 0 ⟨by omega, by omega⟩ v (by unfold maxLen; omega) (by unfold maxLen; simp) q2 (fun x hx => by simp at hx; subst hx; exact ha) q3 q4
  rw [hG, anyB_one] at h9
  exact h9
 rw [hG] at hX
 have HS := mkHid hS
 have HX := mkHid hX
 have HR := mkHid hR
 have HSM := mkHid hs
 have HWB := mkHid hW
 have HM := mkHid hm
 have HGL : Hid (G.length = 169) := mkHid (by rw [← hG]; exact Q.grid_len n f)
 clear hS hX hR hs hW hG hbd ha hm
 go_enter Tryz.func135, Tryz.ntmps135
 go_wp2
 go_loopg [0] at0 (fun g s0 wr => ∃ (k : Nat), k ≤ at0 ∧ s0 = .int .i64 k ∧ k ≤ g ∧ dn (pF f S.B a) k = dn (pF f S.B a) at0 ∧ Below w.heap.size w wr)
 case atStart => exact ⟨at0, Nat.le_refl _, rfl, Nat.le_refl _, rfl, Below.refl _ _⟩
 case round =>
  obtain ⟨k, hk, rfl, hgk, heq, hbel⟩ := hrel
  have HEQ := mkHid heq
  have HB1 := mkHid hbel
  have hX9 : ∀ v', Below wr.heap.size wr v' → St v' X z lv A S n G := fun v' h => (HX.out.below hbel).below h
  have hR9 : ∀ v', Below wr.heap.size wr v' → Box v' R a.1 a.2 := fun v' h => (HR.out.below hbel).below h
  clear heq
  by_cases hlt : 0 < k
  ·obtain ⟨row, hrow⟩ : ∃ b, S.B[k]? = some b := ⟨_, List.getElem?_eq_getElem (by have := HM.out; omega)⟩
   obtain ⟨bb, off, hab, _, hq⟩ := (HS.out.b.below hbel).cons (by have := HM.out; omega)
   obtain ⟨ao, cp, k00, hat2⟩ := hq k row hrow
   have hk09 : ∀ v', Below wr.heap.size wr v' → v'.cell? ⟨bb, off + k, none⟩ = some (.slice ao row.length cp) := fun v' h => (h.cell (p := ⟨bb, off + k, none⟩) (World.block_lt_of_cell? wr _ k00)).trans k00
   have HAT := mkHid hat2
   have HLN := mkHid (HSM.out.row k row hrow)
   have HWR := mkHid (HWB.out row (List.mem_of_getElem? hrow))
   have HP : Hid (pF f S.B a k = row.any fun x => bl f x a 0) := mkHid (by unfold pF; rw [getD_some hrow])
   have i0 : (0 : Int) ≤ (k : Int) := by omega
   have i1 : (k : Int) < (S.B.length : Int) := by have := HM.out; omega
   clear hq hbel hrow hat2 k00
   have i2 : (0 : Int) < (k : Int) := by omega
   obtain ⟨bq, hbq⟩ : ∃ b, pF f S.B a k = b := ⟨_, rfl⟩
   have he9 : (row.any fun x => bl f x a 0) = bq := HP.out.symm.trans hbq
   have HBQ := mkHid hbq
   clear hbq
   go_wp2_with fail
   refine wp_region_inv2 (fun zA0 L zA v9 => ∃ (zB : Nat → Bool) (zS : Nat → Value) (q0 : Nat), L = #[zB 0, zB 1, zB 2, zB 3, zB 4, zB 5, zB 6, zB 7, zB 8, zB 9, zB 10, zB 11, zB 12, zB 13, zB 14, zB 15] ∧ zA = puts zA0 [(5, zS 5), (6, zS 6), (7, zS 7), (8, zS 8), (9, zS 9), (10, zS 10), (11, zS 11), (12, zS 12), (13, zS 13), (14, zS 14), (15, zS 15), (16, zS 16), (17, zS 17), (18, zS 18), (19, zS 19), (20, zS 20)] ∧ ((zB 0 = true → zS 5 = .int .i64 k) ∧ (zB 1 = true → zS 6 = .bool true) ∧ (zB 2 = true → zS 7 = .bool true) ∧ (zB 3 = true → zS 8 = .pointer (some ⟨X, 5, none⟩)) ∧ (zB 4 = true → zS 9 = .agg (Q.dA n G)) ∧ (zB 5 = true → zS 10 = .pointer (some ⟨X, 2, none⟩)) ∧ (zB 6 = true → zS 11 = .pointer (some ⟨X, 2, none⟩)) ∧ (zB 7 = true → zS 12 = .slice (some ⟨bb, off, none⟩) S.B.length A.c0) ∧ (zB 8 = true → zS 13 = .int .i64 k) ∧ (zB 9 = true → zS 14 = .pointer (some ⟨bb, off + k, none⟩)) ∧ (zB 10 = true → zS 15 = .slice ao row.length cp) ∧ (zB 11 = true → zS 16 = .agg #[.int .i64 a.1, .int .i64 a.2]) ∧ (zB 12 = true → zS 17 = .slice (some ⟨q0, 0, none⟩) 1 1) ∧ (zB 13 = true → zS 18 = .bool bq) ∧ (zB 14 = true → zS 19 = .bool (!bq)) ∧ (zB 15 = true → zS 20 = .bool (!bq))) ∧ Below wr.heap.size wr v9 ∧ ((zB 12) = true → At eY v9 (some ⟨q0, 0, none⟩) [a])) (by kernel_rfl) ?_ ?_ ?_
   ·exact ⟨fun _ => false, fun zd => if zd = 20 then u20 else if zd = 19 then u19 else if zd = 18 then u18 else if zd = 17 then u17 else if zd = 16 then u16 else if zd = 15 then u15 else if zd = 14 then u14 else if zd = 13 then u13 else if zd = 12 then u12 else if zd = 11 then u11 else if zd = 10 then u10 else if zd = 9 then u9 else if zd = 8 then u8 else if zd = 7 then u7 else if zd = 6 then u6 else if zd = 5 then u5 else undef, 0, rfl, by kernel_rfl, ⟨fun e => ft e, fun e => ft e, fun e => ft e, fun e => ft e, fun e => ft e, fun e => ft e, fun e => ft e, fun e => ft e, fun e => ft e, fun e => ft e, fun e => ft e, fun e => ft e, fun e => ft e, fun e => ft e, fun e => ft e, fun e => ft e⟩, ⟨(Below.refl _ _).drew, fun e => ft e⟩⟩
   ·refine StepsI.cons rfl ?_ ?_
    ·rintro L zA v9 ⟨zB, zS, q0, rfl, rfl, hF, hW⟩ hL hm K hK
     have hb0 : zB 0 = false := by simpa using hL
     clear hL hm
     simp only [pE]
     go_simp
     exact hK.out _ _ ⟨fun zj => if zj = 0 then true else zB zj, fun zd => if zd = 5 then .int .i64 k else zS zd, q0, rfl, by kernel_rfl, ⟨fun _ => rfl, hF.2.1, hF.2.2.1, hF.2.2.2.1, hF.2.2.2.2.1, hF.2.2.2.2.2.1, hF.2.2.2.2.2.2.1, hF.2.2.2.2.2.2.2.1, hF.2.2.2.2.2.2.2.2.1, hF.2.2.2.2.2.2.2.2.2.1, hF.2.2.2.2.2.2.2.2.2.2.1, hF.2.2.2.2.2.2.2.2.2.2.2.1, hF.2.2.2.2.2.2.2.2.2.2.2.2.1, hF.2.2.2.2.2.2.2.2.2.2.2.2.2.1, hF.2.2.2.2.2.2.2.2.2.2.2.2.2.2.1, hF.2.2.2.2.2.2.2.2.2.2.2.2.2.2.2⟩, hW⟩
    refine StepsI.cons rfl ?_ ?_
    ·rintro L zA v9 ⟨zB, zS, q0, rfl, rfl, hF, hW⟩ hL hm K hK
     have hb1 : zB 1 = false := by simpa using hL
     have hb0 : zB 0 = true := mt 0 hm (by kernel_rfl)
     have e0 : zS 5 = .int .i64 k := hF.1 hb0
     clear hL hm
     simp only [pE]
     simp only [e0]
     go_simp
     exact hK.out _ _ ⟨fun zj => if zj = 0 then true else if zj = 1 then true else zB zj, fun zd => if zd = 6 then .bool true else if zd = 5 then .int .i64 k else zS zd, q0, by simp [hb0], by kernel_rfl, ⟨fun _ => rfl, fun _ => rfl, hF.2.2.1, hF.2.2.2.1, hF.2.2.2.2.1, hF.2.2.2.2.2.1, hF.2.2.2.2.2.2.1, hF.2.2.2.2.2.2.2.1, hF.2.2.2.2.2.2.2.2.1, hF.2.2.2.2.2.2.2.2.2.1, hF.2.2.2.2.2.2.2.2.2.2.1, hF.2.2.2.2.2.2.2.2.2.2.2.1, hF.2.2.2.2.2.2.2.2.2.2.2.2.1, hF.2.2.2.2.2.2.2.2.2.2.2.2.2.1, hF.2.2.2.2.2.2.2.2.2.2.2.2.2.2.1, hF.2.2.2.2.2.2.2.2.2.2.2.2.2.2.2⟩, hW⟩
    refine StepsI.cons rfl ?_ ?_
    ·rintro L zA v9 ⟨zB, zS, q0, rfl, rfl, hF, hW⟩ hL hm K hK
     have hb2 : zB 2 = false := by simpa using hL
     have hb1 : zB 1 = true := mt 1 hm (by kernel_rfl)
     have e1 : zS 6 = .bool true := hF.2.1 hb1
     clear hL hm
     simp only [pE]
     simp only [e1]
     go_simp
     exact hK.out _ _ ⟨fun zj => if zj = 1 then true else if zj = 2 then true else zB zj, fun zd => if zd = 7 then .bool true else if zd = 6 then .bool true else zS zd, q0, by simp [hb1], by kernel_rfl, ⟨hF.1, fun _ => rfl, fun _ => rfl, hF.2.2.2.1, hF.2.2.2.2.1, hF.2.2.2.2.2.1, hF.2.2.2.2.2.2.1, hF.2.2.2.2.2.2.2.1, hF.2.2.2.2.2.2.2.2.1, hF.2.2.2.2.2.2.2.2.2.1, hF.2.2.2.2.2.2.2.2.2.2.1, hF.2.2.2.2.2.2.2.2.2.2.2.1, hF.2.2.2.2.2.2.2.2.2.2.2.2.1, hF.2.2.2.2.2.2.2.2.2.2.2.2.2.1, hF.2.2.2.2.2.2.2.2.2.2.2.2.2.2.1, hF.2.2.2.2.2.2.2.2.2.2.2.2.2.2.2⟩, hW⟩
    refine StepsI.cons rfl ?_ ?_
    ·rintro L zA v9 ⟨zB, zS, q0, rfl, rfl, hF, hW⟩ hL hm K hK
     have hb3 : zB 3 = false := by simpa using hL
     have hb2 : zB 2 = true := mt 2 hm (by kernel_rfl)
     have e2 : zS 7 = .bool true := hF.2.2.1 hb2
     clear hL hm
     simp only [pE]
     simp only [e2]
     go_simp
     exact hK.out _ _ ⟨fun zj => if zj = 2 then true else if zj = 3 then true else zB zj, fun zd => if zd = 8 then .pointer (some ⟨X, 5, none⟩) else if zd = 7 then .bool true else zS zd, q0, by simp [hb2], by kernel_rfl, ⟨hF.1, hF.2.1, fun _ => rfl, fun _ => rfl, hF.2.2.2.2.1, hF.2.2.2.2.2.1, hF.2.2.2.2.2.2.1, hF.2.2.2.2.2.2.2.1, hF.2.2.2.2.2.2.2.2.1, hF.2.2.2.2.2.2.2.2.2.1, hF.2.2.2.2.2.2.2.2.2.2.1, hF.2.2.2.2.2.2.2.2.2.2.2.1, hF.2.2.2.2.2.2.2.2.2.2.2.2.1, hF.2.2.2.2.2.2.2.2.2.2.2.2.2.1, hF.2.2.2.2.2.2.2.2.2.2.2.2.2.2.1, hF.2.2.2.2.2.2.2.2.2.2.2.2.2.2.2⟩, hW⟩
    refine StepsI.cons rfl ?_ ?_
    ·rintro L zA v9 ⟨zB, zS, q0, rfl, rfl, hF, hW⟩ hL hm K hK
     have hb4 : zB 4 = false := by simpa using hL
     have hb2 : zB 2 = true := mt 2 hm (by kernel_rfl)
     have hb3 : zB 3 = true := mt 3 hm (by kernel_rfl)
     have e2 : zS 7 = .bool true := hF.2.2.1 hb2
     have e3 : zS 8 = .pointer (some ⟨X, 5, none⟩) := hF.2.2.2.1 hb3
     clear hL hm
     simp only [pE]
     simp only [e2, e3]
     refine wpo_known (hX9 _ hW.1) rfl rfl ?_
     exact hK.out _ _ ⟨fun zj => if zj = 3 then true else if zj = 2 then true else if zj = 4 then true else zB zj, fun zd => if zd = 9 then .agg (Q.dA n G) else if zd = 8 then .pointer (some ⟨X, 5, none⟩) else if zd = 7 then .bool true else zS zd, q0, by simp [hb2, hb3], by kernel_rfl, ⟨hF.1, hF.2.1, fun _ => rfl, fun _ => rfl, fun _ => rfl, hF.2.2.2.2.2.1, hF.2.2.2.2.2.2.1, hF.2.2.2.2.2.2.2.1, hF.2.2.2.2.2.2.2.2.1, hF.2.2.2.2.2.2.2.2.2.1, hF.2.2.2.2.2.2.2.2.2.2.1, hF.2.2.2.2.2.2.2.2.2.2.2.1, hF.2.2.2.2.2.2.2.2.2.2.2.2.1, hF.2.2.2.2.2.2.2.2.2.2.2.2.2.1, hF.2.2.2.2.2.2.2.2.2.2.2.2.2.2.1, hF.2.2.2.2.2.2.2.2.2.2.2.2.2.2.2⟩, hW⟩
    refine StepsI.cons rfl ?_ ?_
    ·rintro L zA v9 ⟨zB, zS, q0, rfl, rfl, hF, hW⟩ hL hm K hK
     have hb5 : zB 5 = false := by simpa using hL
     have hb2 : zB 2 = true := mt 2 hm (by kernel_rfl)
     have e2 : zS 7 = .bool true := hF.2.2.1 hb2
     clear hL hm
     simp only [pE]
     simp only [e2]
     go_simp
     exact hK.out _ _ ⟨fun zj => if zj = 2 then true else if zj = 5 then true else zB zj, fun zd => if zd = 10 then .pointer (some ⟨X, 2, none⟩) else if zd = 7 then .bool true else zS zd, q0, by simp [hb2], by kernel_rfl, ⟨hF.1, hF.2.1, fun _ => rfl, hF.2.2.2.1, hF.2.2.2.2.1, fun _ => rfl, hF.2.2.2.2.2.2.1, hF.2.2.2.2.2.2.2.1, hF.2.2.2.2.2.2.2.2.1, hF.2.2.2.2.2.2.2.2.2.1, hF.2.2.2.2.2.2.2.2.2.2.1, hF.2.2.2.2.2.2.2.2.2.2.2.1, hF.2.2.2.2.2.2.2.2.2.2.2.2.1, hF.2.2.2.2.2.2.2.2.2.2.2.2.2.1, hF.2.2.2.2.2.2.2.2.2.2.2.2.2.2.1, hF.2.2.2.2.2.2.2.2.2.2.2.2.2.2.2⟩, hW⟩
    refine StepsI.cons rfl ?_ ?_
    ·rintro L zA v9 ⟨zB, zS, q0, rfl, rfl, hF, hW⟩ hL hm K hK
     have hb6 : zB 6 = false := by simpa using hL
     have hb2 : zB 2 = true := mt 2 hm (by kernel_rfl)
     have hb5 : zB 5 = true := mt 5 hm (by kernel_rfl)
     have e2 : zS 7 = .bool true := hF.2.2.1 hb2
     have e5 : zS 10 = .pointer (some ⟨X, 2, none⟩) := hF.2.2.2.2.2.1 hb5
     clear hL hm
     simp only [pE]
     simp only [e2, e5]
     go_simp
     exact hK.out _ _ ⟨fun zj => if zj = 5 then true else if zj = 2 then true else if zj = 6 then true else zB zj, fun zd => if zd = 11 then .pointer (some ⟨X, 2, none⟩) else if zd = 10 then .pointer (some ⟨X, 2, none⟩) else if zd = 7 then .bool true else zS zd, q0, by simp [hb2, hb5], by kernel_rfl, ⟨hF.1, hF.2.1, fun _ => rfl, hF.2.2.2.1, hF.2.2.2.2.1, fun _ => rfl, fun _ => rfl, hF.2.2.2.2.2.2.2.1, hF.2.2.2.2.2.2.2.2.1, hF.2.2.2.2.2.2.2.2.2.1, hF.2.2.2.2.2.2.2.2.2.2.1, hF.2.2.2.2.2.2.2.2.2.2.2.1, hF.2.2.2.2.2.2.2.2.2.2.2.2.1, hF.2.2.2.2.2.2.2.2.2.2.2.2.2.1, hF.2.2.2.2.2.2.2.2.2.2.2.2.2.2.1, hF.2.2.2.2.2.2.2.2.2.2.2.2.2.2.2⟩, hW⟩
    refine StepsI.cons rfl ?_ ?_
    ·rintro L zA v9 ⟨zB, zS, q0, rfl, rfl, hF, hW⟩ hL hm K hK
     have hb7 : zB 7 = false := by simpa using hL
     have hb2 : zB 2 = true := mt 2 hm (by kernel_rfl)
     have hb6 : zB 6 = true := mt 6 hm (by kernel_rfl)
     have e2 : zS 7 = .bool true := hF.2.2.1 hb2
     have e6 : zS 11 = .pointer (some ⟨X, 2, none⟩) := hF.2.2.2.2.2.2.1 hb6
     clear hL hm
     simp only [pE]
     simp only [e2, e6]
     have k0 := (hX9 _ hW.1).c2
     rw [hab] at k0
     go_simp
     exact hK.out _ _ ⟨fun zj => if zj = 6 then true else if zj = 2 then true else if zj = 7 then true else zB zj, fun zd => if zd = 12 then .slice (some ⟨bb, off, none⟩) S.B.length A.c0 else if zd = 11 then .pointer (some ⟨X, 2, none⟩) else if zd = 7 then .bool true else zS zd, q0, by simp [hb2, hb6], by kernel_rfl, ⟨hF.1, hF.2.1, fun _ => rfl, hF.2.2.2.1, hF.2.2.2.2.1, hF.2.2.2.2.2.1, fun _ => rfl, fun _ => rfl, hF.2.2.2.2.2.2.2.2.1, hF.2.2.2.2.2.2.2.2.2.1, hF.2.2.2.2.2.2.2.2.2.2.1, hF.2.2.2.2.2.2.2.2.2.2.2.1, hF.2.2.2.2.2.2.2.2.2.2.2.2.1, hF.2.2.2.2.2.2.2.2.2.2.2.2.2.1, hF.2.2.2.2.2.2.2.2.2.2.2.2.2.2.1, hF.2.2.2.2.2.2.2.2.2.2.2.2.2.2.2⟩, hW⟩
    refine StepsI.cons rfl ?_ ?_
    ·rintro L zA v9 ⟨zB, zS, q0, rfl, rfl, hF, hW⟩ hL hm K hK
     have hb8 : zB 8 = false := by simpa using hL
     have hb2 : zB 2 = true := mt 2 hm (by kernel_rfl)
     have e2 : zS 7 = .bool true := hF.2.2.1 hb2
     clear hL hm
     simp only [pE]
     simp only [e2]
     go_simp
     exact hK.out _ _ ⟨fun zj => if zj = 2 then true else if zj = 8 then true else zB zj, fun zd => if zd = 13 then .int .i64 k else if zd = 7 then .bool true else zS zd, q0, by simp [hb2], by kernel_rfl, ⟨hF.1, hF.2.1, fun _ => rfl, hF.2.2.2.1, hF.2.2.2.2.1, hF.2.2.2.2.2.1, hF.2.2.2.2.2.2.1, hF.2.2.2.2.2.2.2.1, fun _ => rfl, hF.2.2.2.2.2.2.2.2.2.1, hF.2.2.2.2.2.2.2.2.2.2.1, hF.2.2.2.2.2.2.2.2.2.2.2.1, hF.2.2.2.2.2.2.2.2.2.2.2.2.1, hF.2.2.2.2.2.2.2.2.2.2.2.2.2.1, hF.2.2.2.2.2.2.2.2.2.2.2.2.2.2.1, hF.2.2.2.2.2.2.2.2.2.2.2.2.2.2.2⟩, hW⟩
    refine StepsI.cons rfl ?_ ?_
    ·rintro L zA v9 ⟨zB, zS, q0, rfl, rfl, hF, hW⟩ hL hm K hK
     have hb9 : zB 9 = false := by simpa using hL
     have hb2 : zB 2 = true := mt 2 hm (by kernel_rfl)
     have hb7 : zB 7 = true := mt 7 hm (by kernel_rfl)
     have hb8 : zB 8 = true := mt 8 hm (by kernel_rfl)
     have e2 : zS 7 = .bool true := hF.2.2.1 hb2
     have e7 : zS 12 = .slice (some ⟨bb, off, none⟩) S.B.length A.c0 := hF.2.2.2.2.2.2.2.1 hb7
     have e8 : zS 13 = .int .i64 k := hF.2.2.2.2.2.2.2.2.1 hb8
     clear hL hm
     simp only [pE]
     simp only [e2, e7, e8]
     go_simp
     exact hK.out _ _ ⟨fun zj => if zj = 8 then true else if zj = 7 then true else if zj = 2 then true else if zj = 9 then true else zB zj, fun zd => if zd = 14 then .pointer (some ⟨bb, off + k, none⟩) else if zd = 13 then .int .i64 k else if zd = 12 then .slice (some ⟨bb, off, none⟩) S.B.length A.c0 else if zd = 7 then .bool true else zS zd, q0, by simp [hb2, hb7, hb8], by kernel_rfl, ⟨hF.1, hF.2.1, fun _ => rfl, hF.2.2.2.1, hF.2.2.2.2.1, hF.2.2.2.2.2.1, hF.2.2.2.2.2.2.1, fun _ => rfl, fun _ => rfl, fun _ => rfl, hF.2.2.2.2.2.2.2.2.2.2.1, hF.2.2.2.2.2.2.2.2.2.2.2.1, hF.2.2.2.2.2.2.2.2.2.2.2.2.1, hF.2.2.2.2.2.2.2.2.2.2.2.2.2.1, hF.2.2.2.2.2.2.2.2.2.2.2.2.2.2.1, hF.2.2.2.2.2.2.2.2.2.2.2.2.2.2.2⟩, hW⟩
    refine StepsI.cons rfl ?_ ?_
    ·rintro L zA v9 ⟨zB, zS, q0, rfl, rfl, hF, hW⟩ hL hm K hK
     have hb10 : zB 10 = false := by simpa using hL
     have hb2 : zB 2 = true := mt 2 hm (by kernel_rfl)
     have hb9 : zB 9 = true := mt 9 hm (by kernel_rfl)
     have e2 : zS 7 = .bool true := hF.2.2.1 hb2
     have e9 : zS 14 = .pointer (some ⟨bb, off + k, none⟩) := hF.2.2.2.2.2.2.2.2.2.1 hb9
     clear hL hm
     simp only [pE]
     simp only [e2, e9]
     have k0 := hk09 _ hW.1
     go_simp
     exact hK.out _ _ ⟨fun zj => if zj = 9 then true else if zj = 2 then true else if zj = 10 then true else zB zj, fun zd => if zd = 15 then .slice ao row.length cp else if zd = 14 then .pointer (some ⟨bb, off + k, none⟩) else if zd = 7 then .bool true else zS zd, q0, by simp [hb2, hb9], by kernel_rfl, ⟨hF.1, hF.2.1, fun _ => rfl, hF.2.2.2.1, hF.2.2.2.2.1, hF.2.2.2.2.2.1, hF.2.2.2.2.2.2.1, hF.2.2.2.2.2.2.2.1, hF.2.2.2.2.2.2.2.2.1, fun _ => rfl, fun _ => rfl, hF.2.2.2.2.2.2.2.2.2.2.2.1, hF.2.2.2.2.2.2.2.2.2.2.2.2.1, hF.2.2.2.2.2.2.2.2.2.2.2.2.2.1, hF.2.2.2.2.2.2.2.2.2.2.2.2.2.2.1, hF.2.2.2.2.2.2.2.2.2.2.2.2.2.2.2⟩, hW⟩
    refine StepsI.cons rfl ?_ ?_
    ·rintro L zA v9 ⟨zB, zS, q0, rfl, rfl, hF, hW⟩ hL hm K hK
     have hb11 : zB 11 = false := by simpa using hL
     have hb2 : zB 2 = true := mt 2 hm (by kernel_rfl)
     have e2 : zS 7 = .bool true := hF.2.2.1 hb2
     clear hL hm
     simp only [pE]
     simp only [e2]
     obtain ⟨k0, k1, _, _⟩ := hR9 _ hW.1
     go_simp
     exact hK.out _ _ ⟨fun zj => if zj = 2 then true else if zj = 11 then true else zB zj, fun zd => if zd = 16 then .agg #[.int .i64 a.1, .int .i64 a.2] else if zd = 7 then .bool true else zS zd, q0, by simp [hb2], by kernel_rfl, ⟨hF.1, hF.2.1, fun _ => rfl, hF.2.2.2.1, hF.2.2.2.2.1, hF.2.2.2.2.2.1, hF.2.2.2.2.2.2.1, hF.2.2.2.2.2.2.2.1, hF.2.2.2.2.2.2.2.2.1, hF.2.2.2.2.2.2.2.2.2.1, hF.2.2.2.2.2.2.2.2.2.2.1, fun _ => rfl, hF.2.2.2.2.2.2.2.2.2.2.2.2.1, hF.2.2.2.2.2.2.2.2.2.2.2.2.2.1, hF.2.2.2.2.2.2.2.2.2.2.2.2.2.2.1, hF.2.2.2.2.2.2.2.2.2.2.2.2.2.2.2⟩, hW⟩
    refine StepsI.cons rfl ?_ ?_
    ·rintro L zA v9 ⟨zB, zS, q0, rfl, rfl, hF, hW⟩ hL hm K hK
     have hb12 : zB 12 = false := by simpa using hL
     have hb2 : zB 2 = true := mt 2 hm (by kernel_rfl)
     have hb11 : zB 11 = true := mt 11 hm (by kernel_rfl)
     have e2 : zS 7 = .bool true := hF.2.2.1 hb2
     have e11 : zS 16 = .agg #[.int .i64 a.1, .int .i64 a.2] := hF.2.2.2.2.2.2.2.2.2.2.2.1 hb11
     clear hL hm
     rw [hb12] at hW
     simp only [pE]
     simp only [e2, e11]
     go_simp
     exact hK.out _ _ ⟨fun zj => if zj = 11 then true else if zj = 2 then true else if zj = 12 then true else zB zj, fun zd => if zd = 17 then .slice (some ⟨v9.heap.size, 0, none⟩) 1 1 else if zd = 16 then .agg #[.int .i64 a.1, .int .i64 a.2] else if zd = 7 then .bool true else zS zd, v9.heap.size, by simp [hb2, hb11], by kernel_rfl, ⟨hF.1, hF.2.1, fun _ => rfl, hF.2.2.2.1, hF.2.2.2.2.1, hF.2.2.2.2.2.1, hF.2.2.2.2.2.2.1, hF.2.2.2.2.2.2.2.1, hF.2.2.2.2.2.2.2.2.1, hF.2.2.2.2.2.2.2.2.2.1, hF.2.2.2.2.2.2.2.2.2.2.1, fun _ => rfl, fun _ => rfl, hF.2.2.2.2.2.2.2.2.2.2.2.2.2.1, hF.2.2.2.2.2.2.2.2.2.2.2.2.2.2.1, hF.2.2.2.2.2.2.2.2.2.2.2.2.2.2.2⟩, ⟨bl_alloc hW.1 _, fun _ => one_at _ _ _⟩⟩
    refine StepsI.cons rfl ?_ ?_
    ·rintro L zA v9 ⟨zB, zS, q0, rfl, rfl, hF, hW⟩ hL hm K hK
     have hb13 : zB 13 = false := by simpa using hL
     have hb2 : zB 2 = true := mt 2 hm (by kernel_rfl)
     have hb4 : zB 4 = true := mt 4 hm (by kernel_rfl)
     have hb10 : zB 10 = true := mt 10 hm (by kernel_rfl)
     have hb12 : zB 12 = true := mt 12 hm (by kernel_rfl)
     have e2 : zS 7 = .bool true := hF.2.2.1 hb2
     have e4 : zS 9 = .agg (Q.dA n G) := hF.2.2.2.2.1 hb4
     have e10 : zS 15 = .slice ao row.length cp := hF.2.2.2.2.2.2.2.2.2.2.1 hb10
     have e12 : zS 17 = .slice (some ⟨q0, 0, none⟩) 1 1 := hF.2.2.2.2.2.2.2.2.2.2.2.2.1 hb12
     clear hL hm
     rw [hb12] at hW
     simp only [pE]
     simp only [e2, e4, e10, e12]
     go_simp
     refine (HAB.out row ao cp q0 _ HLN.out HWR.out (HAT.out.below hW.1) (hW.2 (by first | rfl | trivial))).mono ?_
     rintro e v92 ⟨rfl, hb⟩
     rw [he9]
     go_wp2_with fail
     exact hK.out _ _ ⟨fun zj => if zj = 12 then true else if zj = 10 then true else if zj = 4 then true else if zj = 2 then true else if zj = 13 then true else zB zj, fun zd => if zd = 18 then .bool bq else if zd = 17 then .slice (some ⟨q0, 0, none⟩) 1 1 else if zd = 15 then .slice ao row.length cp else if zd = 9 then .agg (Q.dA n G) else if zd = 7 then .bool true else zS zd, q0, by simp [hb2, hb4, hb10, hb12], by kernel_rfl, ⟨hF.1, hF.2.1, fun _ => rfl, hF.2.2.2.1, fun _ => rfl, hF.2.2.2.2.2.1, hF.2.2.2.2.2.2.1, hF.2.2.2.2.2.2.2.1, hF.2.2.2.2.2.2.2.2.1, hF.2.2.2.2.2.2.2.2.2.1, fun _ => rfl, hF.2.2.2.2.2.2.2.2.2.2.2.1, fun _ => rfl, fun _ => rfl, hF.2.2.2.2.2.2.2.2.2.2.2.2.2.2.1, hF.2.2.2.2.2.2.2.2.2.2.2.2.2.2.2⟩, ⟨below_step hW.1 hb, fun _ => (hW.2 (by first | rfl | trivial)).below hb⟩⟩
    refine StepsI.cons rfl ?_ ?_
    ·rintro L zA v9 ⟨zB, zS, q0, rfl, rfl, hF, hW⟩ hL hm K hK
     have hb14 : zB 14 = false := by simpa using hL
     have hb2 : zB 2 = true := mt 2 hm (by kernel_rfl)
     have hb13 : zB 13 = true := mt 13 hm (by kernel_rfl)
     have e2 : zS 7 = .bool true := hF.2.2.1 hb2
     have e13 : zS 18 = .bool bq := hF.2.2.2.2.2.2.2.2.2.2.2.2.2.1 hb13
     clear hL hm
     simp only [pE]
     simp only [e2, e13]
     go_simp
     exact hK.out _ _ ⟨fun zj => if zj = 13 then true else if zj = 2 then true else if zj = 14 then true else zB zj, fun zd => if zd = 19 then .bool (!bq) else if zd = 18 then .bool bq else if zd = 7 then .bool true else zS zd, q0, by simp [hb2, hb13], by kernel_rfl, ⟨hF.1, hF.2.1, fun _ => rfl, hF.2.2.2.1, hF.2.2.2.2.1, hF.2.2.2.2.2.1, hF.2.2.2.2.2.2.1, hF.2.2.2.2.2.2.2.1, hF.2.2.2.2.2.2.2.2.1, hF.2.2.2.2.2.2.2.2.2.1, hF.2.2.2.2.2.2.2.2.2.2.1, hF.2.2.2.2.2.2.2.2.2.2.2.1, hF.2.2.2.2.2.2.2.2.2.2.2.2.1, fun _ => rfl, fun _ => rfl, hF.2.2.2.2.2.2.2.2.2.2.2.2.2.2.2⟩, hW⟩
    refine StepsI.cons rfl ?_ ?_
    ·rintro L zA v9 ⟨zB, zS, q0, rfl, rfl, hF, hW⟩ hL hm K hK
     have hb15 : zB 15 = false := by simpa using hL
     have hb2 : zB 2 = true := mt 2 hm (by kernel_rfl)
     have hb14 : zB 14 = true := mt 14 hm (by kernel_rfl)
     have e2 : zS 7 = .bool true := hF.2.2.1 hb2
     have e14 : zS 19 = .bool (!bq) := hF.2.2.2.2.2.2.2.2.2.2.2.2.2.2.1 hb14
     clear hL hm
     simp only [pE]
     simp only [e2, e14]
     go_simp
     exact hK.out _ _ ⟨fun zj => if zj = 14 then true else if zj = 2 then true else if zj = 15 then true else zB zj, fun zd => if zd = 20 then .bool (!bq) else if zd = 19 then .bool (!bq) else if zd = 7 then .bool true else zS zd, q0, by simp [hb2, hb14], by kernel_rfl, ⟨hF.1, hF.2.1, fun _ => rfl, hF.2.2.2.1, hF.2.2.2.2.1, hF.2.2.2.2.2.1, hF.2.2.2.2.2.2.1, hF.2.2.2.2.2.2.2.1, hF.2.2.2.2.2.2.2.2.1, hF.2.2.2.2.2.2.2.2.2.1, hF.2.2.2.2.2.2.2.2.2.2.1, hF.2.2.2.2.2.2.2.2.2.2.2.1, hF.2.2.2.2.2.2.2.2.2.2.2.2.1, hF.2.2.2.2.2.2.2.2.2.2.2.2.2.1, fun _ => rfl, fun _ => rfl⟩, hW⟩
    exact StepsI.nil (by kernel_rfl)
   ·rintro L zA v9 ⟨zB, zS, q0, rfl, rfl, hF, hW⟩ hr
    have hu := all_up (by kernel_rfl) (N := 16) (by kernel_rfl) hr
    have hb0 : zB 0 = true := by simpa using hu 0 (by decide)
    have hb1 : zB 1 = true := by simpa using hu 1 (by decide)
    have hb2 : zB 2 = true := by simpa using hu 2 (by decide)
    have hb3 : zB 3 = true := by simpa using hu 3 (by decide)
    have hb4 : zB 4 = true := by simpa using hu 4 (by decide)
    have hb5 : zB 5 = true := by simpa using hu 5 (by decide)
    have hb6 : zB 6 = true := by simpa using hu 6 (by decide)
    have hb7 : zB 7 = true := by simpa using hu 7 (by decide)
    have hb8 : zB 8 = true := by simpa using hu 8 (by decide)
    have hb9 : zB 9 = true := by simpa using hu 9 (by decide)
    have hb10 : zB 10 = true := by simpa using hu 10 (by decide)
    have hb11 : zB 11 = true := by simpa using hu 11 (by decide)
    have hb12 : zB 12 = true := by simpa using hu 12 (by decide)
    have hb13 : zB 13 = true := by simpa using hu 13 (by decide)
    have hb14 : zB 14 = true := by simpa using hu 14 (by decide)
    have hb15 : zB 15 = true := by simpa using hu 15 (by decide)
    have e0 : zS 5 = .int .i64 k := hF.1 hb0
    have e1 : zS 6 = .bool true := hF.2.1 hb1
    have e2 : zS 7 = .bool true := hF.2.2.1 hb2
    have e3 : zS 8 = .pointer (some ⟨X, 5, none⟩) := hF.2.2.2.1 hb3
    have e4 : zS 9 = .agg (Q.dA n G) := hF.2.2.2.2.1 hb4
    have e5 : zS 10 = .pointer (some ⟨X, 2, none⟩) := hF.2.2.2.2.2.1 hb5
    have e6 : zS 11 = .pointer (some ⟨X, 2, none⟩) := hF.2.2.2.2.2.2.1 hb6
    have e7 : zS 12 = .slice (some ⟨bb, off, none⟩) S.B.length A.c0 := hF.2.2.2.2.2.2.2.1 hb7
    have e8 : zS 13 = .int .i64 k := hF.2.2.2.2.2.2.2.2.1 hb8
    have e9 : zS 14 = .pointer (some ⟨bb, off + k, none⟩) := hF.2.2.2.2.2.2.2.2.2.1 hb9
    have e10 : zS 15 = .slice ao row.length cp := hF.2.2.2.2.2.2.2.2.2.2.1 hb10
    have e11 : zS 16 = .agg #[.int .i64 a.1, .int .i64 a.2] := hF.2.2.2.2.2.2.2.2.2.2.2.1 hb11
    have e12 : zS 17 = .slice (some ⟨q0, 0, none⟩) 1 1 := hF.2.2.2.2.2.2.2.2.2.2.2.2.1 hb12
    have e13 : zS 18 = .bool bq := hF.2.2.2.2.2.2.2.2.2.2.2.2.2.1 hb13
    have e14 : zS 19 = .bool (!bq) := hF.2.2.2.2.2.2.2.2.2.2.2.2.2.2.1 hb14
    have e15 : zS 20 = .bool (!bq) := hF.2.2.2.2.2.2.2.2.2.2.2.2.2.2.2 hb15
    rw [hb12] at hW
    clear hu hr hF
    simp only [pE]
    simp only [e0, e1, e2, e3, e4, e5, e6, e7, e8, e9, e10, e11, e12, e13, e14, e15]
    clear e0 e1 e2 e3 e4 e5 e6 e7 e8 e9 e10 e11 e12 e13 e14 e15
    clear hb0 hb1 hb2 hb3 hb4 hb5 hb6 hb7 hb8 hb9 hb10 hb11 hb12 hb13 hb14 hb15
    clear zB zS
    have HB2 := mkHid (below_step HB1.out hW.1)
    clear hW hX9 hR9
    clear hk09 he9
    cases bq
    ·have HE := HBQ
     go_wp2
     go_roundg (k - 1)
     case measure => omega
     case rel => exact ⟨k - 1, by omega, by rw [show ((k - 1 : Nat) : Int) = (k : Int) - 1 by omega], by omega, (by rw [← HEQ.out]; obtain ⟨k', rfl⟩ : ∃ q, k = q + 1 := ⟨k - 1, by omega⟩; show dn _ k' = if pF f S.B a (k' + 1) then k' + 1 else dn _ k'; rw [HE.out]; rfl), HB2.out⟩
    ·have HE := HBQ
     go_wp2
     go_ret
     refine ⟨?_, HB2.out⟩
     rw [← HEQ.out]
     obtain ⟨k', rfl⟩ : ∃ q, k = q + 1 := ⟨k - 1, by omega⟩
     unfold dn
     rw [HE.out]
     rfl
  ·have e : k = 0 := by omega
   subst e
   clear hbel hlt
   go_wp2_with fail
   refine wp_region_inv2 (fun zA0 L zA v9 => ∃ (zB : Nat → Bool) (zS : Nat → Value), L = #[zB 0, zB 1, zB 2, zB 3, zB 4, zB 5, zB 6, zB 7, zB 8, zB 9, zB 10, zB 11, zB 12, zB 13, zB 14, zB 15] ∧ zA = puts zA0 [(5, zS 5), (6, zS 6), (7, zS 7), (8, zS 8), (9, zS 9), (10, zS 10), (11, zS 11), (12, zS 12), (13, zS 13), (14, zS 14), (15, zS 15), (16, zS 16), (17, zS 17), (18, zS 18), (19, zS 19), (20, zS 20)] ∧ FF 5 [.int .i64 (0 : Nat), .bool false, .bool false, undef, undef, undef, undef, undef, undef, undef, undef, undef, undef, undef, undef, .bool false] zB zS ∧ Below wr.heap.size wr v9 ∧ True) (by kernel_rfl) ?_ ?_ ?_
   ·exact ⟨fun _ => false, fun zd => [u5, u6, u7, u8, u9, u10, u11, u12, u13, u14, u15, u16, u17, u18, u19, u20].getD (zd - 5) undef, rfl, by kernel_rfl, ff0, ⟨(Below.refl _ _).drew, trivial⟩⟩
   ·refine StepsI.cons rfl ?_ ?_
    ·rintro L zA v9 ⟨zB, zS, rfl, rfl, hF, hW⟩ hL hm K hK
     have hb0 : zB 0 = false := by simpa using hL
     clear hL hm
     simp only [pE]
     go_simp
     exact hK.out _ _ ⟨ups zB [0], upv _ _ zS [0], rfl, by kernel_rfl, rk hF rfl, hW⟩
    refine StepsI.cons rfl ?_ ?_
    ·rintro L zA v9 ⟨zB, zS, rfl, rfl, hF, hW⟩ hL hm K hK
     have hb1 : zB 1 = false := by simpa using hL
     have hb0 : zB 0 = true := mt 0 hm (by kernel_rfl)
     have e0 : zS 5 = .int .i64 (0 : Nat) := hF 0 _ rfl hb0
     clear hL hm
     simp only [pE]
     simp only [e0]
     go_simp
     exact hK.out _ _ ⟨ups zB [1], upv _ _ zS [1, 0], rfl, by kernel_rfl, rk hF rfl, hW⟩
    refine StepsI.cons rfl ?_ ?_
    ·rintro L zA v9 ⟨zB, zS, rfl, rfl, hF, hW⟩ hL hm K hK
     have hb2 : zB 2 = false := by simpa using hL
     have hb1 : zB 1 = true := mt 1 hm (by kernel_rfl)
     have e1 : zS 6 = .bool false := hF 1 _ rfl hb1
     clear hL hm
     simp only [pE]
     simp only [e1]
     go_simp
     exact hK.out _ _ ⟨ups zB [2], upv _ _ zS [2, 1], rfl, by kernel_rfl, rk hF rfl, hW⟩
    refine StepsI.cons rfl ?_ ?_
    ·rintro L zA v9 ⟨zB, zS, rfl, rfl, hF, hW⟩ hL hm K hK
     have hb3 : zB 3 = false := by simpa using hL
     have hb2 : zB 2 = true := mt 2 hm (by kernel_rfl)
     have e2 : zS 7 = .bool false := hF 2 _ rfl hb2
     clear hL hm
     simp only [pE]
     simp only [e2]
     rw [if_neg (by exact Bool.false_ne_true)]
     exact hK.out _ _ ⟨ups zB [3], upv _ _ zS [3, 2], rfl, by kernel_rfl, rk hF rfl, hW⟩
    refine StepsI.cons rfl ?_ ?_
    ·rintro L zA v9 ⟨zB, zS, rfl, rfl, hF, hW⟩ hL hm K hK
     have hb4 : zB 4 = false := by simpa using hL
     have hb2 : zB 2 = true := mt 2 hm (by kernel_rfl)
     have e2 : zS 7 = .bool false := hF 2 _ rfl hb2
     clear hL hm
     simp only [pE]
     simp only [e2]
     rw [if_neg (by exact Bool.false_ne_true)]
     exact hK.out _ _ ⟨ups zB [4], upv _ _ zS [4, 2], rfl, by kernel_rfl, rk hF rfl, hW⟩
    refine StepsI.cons rfl ?_ ?_
    ·rintro L zA v9 ⟨zB, zS, rfl, rfl, hF, hW⟩ hL hm K hK
     have hb5 : zB 5 = false := by simpa using hL
     have hb2 : zB 2 = true := mt 2 hm (by kernel_rfl)
     have e2 : zS 7 = .bool false := hF 2 _ rfl hb2
     clear hL hm
     simp only [pE]
     simp only [e2]
     rw [if_neg (by exact Bool.false_ne_true)]
     exact hK.out _ _ ⟨ups zB [5], upv _ _ zS [5, 2], rfl, by kernel_rfl, rk hF rfl, hW⟩
    refine StepsI.cons rfl ?_ ?_
    ·rintro L zA v9 ⟨zB, zS, rfl, rfl, hF, hW⟩ hL hm K hK
     have hb6 : zB 6 = false := by simpa using hL
     have hb2 : zB 2 = true := mt 2 hm (by kernel_rfl)
     have e2 : zS 7 = .bool false := hF 2 _ rfl hb2
     clear hL hm
     simp only [pE]
     simp only [e2]
     rw [if_neg (by exact Bool.false_ne_true)]
     exact hK.out _ _ ⟨ups zB [6], upv _ _ zS [6, 2], rfl, by kernel_rfl, rk hF rfl, hW⟩
    refine StepsI.cons rfl ?_ ?_
    ·rintro L zA v9 ⟨zB, zS, rfl, rfl, hF, hW⟩ hL hm K hK
     have hb7 : zB 7 = false := by simpa using hL
     have hb2 : zB 2 = true := mt 2 hm (by kernel_rfl)
     have e2 : zS 7 = .bool false := hF 2 _ rfl hb2
     clear hL hm
     simp only [pE]
     simp only [e2]
     rw [if_neg (by exact Bool.false_ne_true)]
     exact hK.out _ _ ⟨ups zB [7], upv _ _ zS [7, 2], rfl, by kernel_rfl, rk hF rfl, hW⟩
    refine StepsI.cons rfl ?_ ?_
    ·rintro L zA v9 ⟨zB, zS, rfl, rfl, hF, hW⟩ hL hm K hK
     have hb8 : zB 8 = false := by simpa using hL
     have hb2 : zB 2 = true := mt 2 hm (by kernel_rfl)
     have e2 : zS 7 = .bool false := hF 2 _ rfl hb2
     clear hL hm
     simp only [pE]
     simp only [e2]
     rw [if_neg (by exact Bool.false_ne_true)]
     exact hK.out _ _ ⟨ups zB [8], upv _ _ zS [8, 2], rfl, by kernel_rfl, rk hF rfl, hW⟩
    refine StepsI.cons rfl ?_ ?_
    ·rintro L zA v9 ⟨zB, zS, rfl, rfl, hF, hW⟩ hL hm K hK
     have hb9 : zB 9 = false := by simpa using hL
     have hb2 : zB 2 = true := mt 2 hm (by kernel_rfl)
     have e2 : zS 7 = .bool false := hF 2 _ rfl hb2
     clear hL hm
     simp only [pE]
     simp only [e2]
     rw [if_neg (by exact Bool.false_ne_true)]
     exact hK.out _ _ ⟨ups zB [9], upv _ _ zS [9, 2], rfl, by kernel_rfl, rk hF rfl, hW⟩
    refine StepsI.cons rfl ?_ ?_
    ·rintro L zA v9 ⟨zB, zS, rfl, rfl, hF, hW⟩ hL hm K hK
     have hb10 : zB 10 = false := by simpa using hL
     have hb2 : zB 2 = true := mt 2 hm (by kernel_rfl)
     have e2 : zS 7 = .bool false := hF 2 _ rfl hb2
     clear hL hm
     simp only [pE]
     simp only [e2]
     rw [if_neg (by exact Bool.false_ne_true)]
     exact hK.out _ _ ⟨ups zB [10], upv _ _ zS [10, 2], rfl, by kernel_rfl, rk hF rfl, hW⟩
    refine StepsI.cons rfl ?_ ?_
    ·rintro L zA v9 ⟨zB, zS, rfl, rfl, hF, hW⟩ hL hm K hK
     have hb11 : zB 11 = false := by simpa using hL
     have hb2 : zB 2 = true := mt 2 hm (by kernel_rfl)
     have e2 : zS 7 = .bool false := hF 2 _ rfl hb2
     clear hL hm
     simp only [pE]
     simp only [e2]
     rw [if_neg (by exact Bool.false_ne_true)]
     exact hK.out _ _ ⟨ups zB [11], upv _ _ zS [11, 2], rfl, by kernel_rfl, rk hF rfl, hW⟩
    refine StepsI.cons rfl ?_ ?_
    ·rintro L zA v9 ⟨zB, zS, rfl, rfl, hF, hW⟩ hL hm K hK
     have hb12 : zB 12 = false := by simpa using hL
     have hb2 : zB 2 = true := mt 2 hm (by kernel_rfl)
     have e2 : zS 7 = .bool false := hF 2 _ rfl hb2
     clear hL hm
     simp only [pE]
     simp only [e2]
     rw [if_neg (by exact Bool.false_ne_true)]
     exact hK.out _ _ ⟨ups zB [12], upv _ _ zS [12, 2], rfl, by kernel_rfl, rk hF rfl, hW⟩
    refine StepsI.cons rfl ?_ ?_
    ·rintro L zA v9 ⟨zB, zS, rfl, rfl, hF, hW⟩ hL hm K hK
     have hb13 : zB 13 = false := by simpa using hL
     have hb2 : zB 2 = true := mt 2 hm (by kernel_rfl)
     have e2 : zS 7 = .bool false := hF 2 _ rfl hb2
     clear hL hm
     simp only [pE]
     simp only [e2]
     rw [if_neg (by exact Bool.false_ne_true)]
     exact hK.out _ _ ⟨ups zB [13], upv _ _ zS [13, 2], rfl, by kernel_rfl, rk hF rfl, hW⟩
    refine StepsI.cons rfl ?_ ?_
    ·rintro L zA v9 ⟨zB, zS, rfl, rfl, hF, hW⟩ hL hm K hK
     have hb14 : zB 14 = false := by simpa using hL
     have hb2 : zB 2 = true := mt 2 hm (by kernel_rfl)
     have e2 : zS 7 = .bool false := hF 2 _ rfl hb2
     clear hL hm
     simp only [pE]
     simp only [e2]
     rw [if_neg (by exact Bool.false_ne_true)]
     exact hK.out _ _ ⟨ups zB [14], upv _ _ zS [14, 2], rfl, by kernel_rfl, rk hF rfl, hW⟩
    refine StepsI.cons rfl ?_ ?_
    ·rintro L zA v9 ⟨zB, zS, rfl, rfl, hF, hW⟩ hL hm K hK
     have hb15 : zB 15 = false := by simpa using hL
     have hb2 : zB 2 = true := mt 2 hm (by kernel_rfl)
     have hb14 : zB 14 = true := mt 14 hm (by kernel_rfl)
     have e2 : zS 7 = .bool false := hF 2 _ rfl hb2
     have e14 : zS 19 = undef := hF 14 _ rfl hb14
     clear hL hm
     simp only [pE]
     simp only [e2, e14]
     go_simp
     exact hK.out _ _ ⟨ups zB [15], upv _ _ zS [15, 14, 2], rfl, by kernel_rfl, rk hF rfl, hW⟩
    exact StepsI.nil (by kernel_rfl)
   ·rintro L zA v9 ⟨zB, zS, rfl, rfl, hF, hW⟩ hr
    have hu := all_up (by kernel_rfl) (N := 16) (by kernel_rfl) hr
    have hb0 : zB 0 = true := by simpa using hu 0 (by decide)
    have hb1 : zB 1 = true := by simpa using hu 1 (by decide)
    have hb2 : zB 2 = true := by simpa using hu 2 (by decide)
    have hb3 : zB 3 = true := by simpa using hu 3 (by decide)
    have hb4 : zB 4 = true := by simpa using hu 4 (by decide)
    have hb5 : zB 5 = true := by simpa using hu 5 (by decide)
    have hb6 : zB 6 = true := by simpa using hu 6 (by decide)
    have hb7 : zB 7 = true := by simpa using hu 7 (by decide)
    have hb8 : zB 8 = true := by simpa using hu 8 (by decide)
    have hb9 : zB 9 = true := by simpa using hu 9 (by decide)
    have hb10 : zB 10 = true := by simpa using hu 10 (by decide)
    have hb11 : zB 11 = true := by simpa using hu 11 (by decide)
    have hb12 : zB 12 = true := by simpa using hu 12 (by decide)
    have hb13 : zB 13 = true := by simpa using hu 13 (by decide)
    have hb14 : zB 14 = true := by simpa using hu 14 (by decide)
    have hb15 : zB 15 = true := by simpa using hu 15 (by decide)
    have e0 : zS 5 = .int .i64 (0 : Nat) := hF 0 _ rfl hb0
    have e1 : zS 6 = .bool false := hF 1 _ rfl hb1
    have e2 : zS 7 = .bool false := hF 2 _ rfl hb2
    have e3 : zS 8 = undef := hF 3 _ rfl hb3
    have e4 : zS 9 = undef := hF 4 _ rfl hb4
    have e5 : zS 10 = undef := hF 5 _ rfl hb5
    have e6 : zS 11 = undef := hF 6 _ rfl hb6
    have e7 : zS 12 = undef := hF 7 _ rfl hb7
    have e8 : zS 13 = undef := hF 8 _ rfl hb8
    have e9 : zS 14 = undef := hF 9 _ rfl hb9
    have e10 : zS 15 = undef := hF 10 _ rfl hb10
    have e11 : zS 16 = undef := hF 11 _ rfl hb11
    have e12 : zS 17 = undef := hF 12 _ rfl hb12
    have e13 : zS 18 = undef := hF 13 _ rfl hb13
    have e14 : zS 19 = undef := hF 14 _ rfl hb14
    have e15 : zS 20 = .bool false := hF 15 _ rfl hb15
    clear hu hr hF
    simp only [pE]
    simp only [e0, e1, e2, e3, e4, e5, e6, e7, e8, e9, e10, e11, e12, e13, e14, e15]
    clear e0 e1 e2 e3 e4 e5 e6 e7 e8 e9 e10 e11 e12 e13 e14 e15
    clear hb0 hb1 hb2 hb3 hb4 hb5 hb6 hb7 hb8 hb9 hb10 hb11 hb12 hb13 hb14 hb15
    clear zB zS
    have HB2 := mkHid (below_step HB1.out hW.1)
    clear hW hX9 hR9
    go_wp2
    go_ret
    exact ⟨by rw [← HEQ.out]; rfl, HB2.out⟩
set_option maxRecDepth 100000 in
set_option maxHeartbeats 6400000 in
theorem up_any (z lv : Int) (A : SAd) (S : SG) (n : Nat) (f : Q.Tab) (h2 : n ≤ 13) (hbd : Q.Bd n f 10000000) (a : Y) (ha : Wd n a) (X R : Nat) (at0 m : Nat) (w : World) (hs : Small S) (hm : S.B.length = m + 1) (hat : at0 ≤ m) (hW : Wds n S.B) (hS : SegAt w A S) (hX : St w X z lv A S n (Q.grid n f)) (hR : Box w R a.1 a.2) :
  Calls Tryz.prog 136 #[.int .i64 at0, .pointer (some ⟨X, 0, none⟩), .pointer (some ⟨R, 0, none⟩)] w fun e w' => e = .returned (.int .i64 (uq (pT f S.B a) m (m - at0) : Nat)) ∧ Below w.heap.size w w' := by
 have hkm := hs.b
 obtain ⟨G, hG⟩ : ∃ G, Q.grid n f = G := ⟨_, rfl⟩
 have HAB : Hid (∀ (row : List Y) (ao : Option Addr) (cp q : Nat) (v : World), row.length ≤ 1048576 → (∀ x, x ∈ row → Wd n x) → At eY v ao row → At eY v (some ⟨q, 0, none⟩) [a] → Calls Tryz.prog 90 #[.agg (Q.dA n G), .slice (some ⟨q, 0, none⟩) 1 1, .slice ao row.length cp, .int .i64 1] v fun e w' => e = .returned (.bool (row.any fun x => bl f a x 1)) ∧ Below v.heap.size v w') := mkHid fun row ao cp q v q1 q2 q3 q4 => by
  have h9 := areBelow_any n f h2 hbd [a] row (some ⟨q, 0, none⟩) ao 1 cp 1 ⟨by omega, by omega⟩ v (by unfold maxLen; simp) (by unfold maxLen; omega) (fun x hx => by simp at hx; subst hx; exact ha) q2 q4 q3
  rw [hG, anyB_one'] at h9
  exact h9
 rw [hG] at hX
 have HS := mkHid hS
 have HX := mkHid hX
 have HR := mkHid hR
 have HSM := mkHid hs
 have HWB := mkHid hW
 have HM := mkHid hm
 have HGL : Hid (G.length = 169) := mkHid (by rw [← hG]; exact Q.grid_len n f)
 clear hS hX hR hs hW hG hbd ha hm
 go_enter Tryz.func136, Tryz.ntmps136
 go_wp2
 go_loopg [0] m (fun g s0 wr => ∃ (k : Nat), k ≤ m ∧ s0 = .int .i64 k ∧ m - k ≤ g ∧ uq (pT f S.B a) m (m - k) = uq (pT f S.B a) m (m - at0) ∧ Below w.heap.size w wr)
 case atStart => exact ⟨at0, hat, rfl, by omega, rfl, Below.refl _ _⟩
 case round =>
  obtain ⟨k, hk, rfl, hgk, heq, hbel⟩ := hrel
  have HEQ := mkHid heq
  have HB1 := mkHid hbel
  have hX9 : ∀ v', Below wr.heap.size wr v' → St v' X z lv A S n G := fun v' h => (HX.out.below hbel).below h
  have hR9 : ∀ v', Below wr.heap.size wr v' → Box v' R a.1 a.2 := fun v' h => (HR.out.below hbel).below h
  clear heq
  have hl9 : (S.B.length : Int) - 1 = (m : Int) := by have := HM.out; omega
  by_cases hlt : k < m
  ·obtain ⟨row, hrow⟩ : ∃ b, S.B[k]? = some b := ⟨_, List.getElem?_eq_getElem (by have := HM.out; omega)⟩
   obtain ⟨bb, off, hab, _, hq⟩ := (HS.out.b.below hbel).cons (by have := HM.out; omega)
   obtain ⟨ao, cp, k00, hat2⟩ := hq k row hrow
   have hk09 : ∀ v', Below wr.heap.size wr v' → v'.cell? ⟨bb, off + k, none⟩ = some (.slice ao row.length cp) := fun v' h => (h.cell (p := ⟨bb, off + k, none⟩) (World.block_lt_of_cell? wr _ k00)).trans k00
   have HAT := mkHid hat2
   have HLN := mkHid (HSM.out.row k row hrow)
   have HWR := mkHid (HWB.out row (List.mem_of_getElem? hrow))
   have HP : Hid (pT f S.B a k = row.any fun x => bl f a x 1) := mkHid (by unfold pT; rw [getD_some hrow])
   have i0 : (0 : Int) ≤ (k : Int) := by omega
   have i1 : (k : Int) < (S.B.length : Int) := by have := HM.out; omega
   clear hq hbel hrow hat2 k00
   have i2 : (k : Int) < (m : Int) := by omega
   obtain ⟨bq, hbq⟩ : ∃ b, pT f S.B a k = b := ⟨_, rfl⟩
   have he9 : (row.any fun x => bl f a x 1) = bq := HP.out.symm.trans hbq
   have HBQ := mkHid hbq
   clear hbq
   go_wp2_with fail
   refine wp_region_inv2 (fun zA0 L zA v9 => ∃ (zB : Nat → Bool) (zS : Nat → Value) (q0 : Nat), L = #[zB 0, zB 1, zB 2, zB 3, zB 4, zB 5, zB 6, zB 7, zB 8, zB 9, zB 10, zB 11, zB 12, zB 13, zB 14, zB 15, zB 16, zB 17] ∧ zA = puts zA0 [(5, zS 5), (6, zS 6), (7, zS 7), (8, zS 8), (9, zS 9), (10, zS 10), (11, zS 11), (12, zS 12), (13, zS 13), (14, zS 14), (15, zS 15), (16, zS 16), (17, zS 17), (18, zS 18), (19, zS 19), (20, zS 20), (21, zS 21), (22, zS 22)] ∧ ((zB 0 = true → zS 5 = .int .i64 k) ∧ (zB 1 = true → zS 6 = .agg (sA z lv A S n G)) ∧ (zB 2 = true → zS 7 = .int .i64 (m : Int)) ∧ (zB 3 = true → zS 8 = .bool true) ∧ (zB 4 = true → zS 9 = .bool true) ∧ (zB 5 = true → zS 10 = .pointer (some ⟨X, 5, none⟩)) ∧ (zB 6 = true → zS 11 = .agg (Q.dA n G)) ∧ (zB 7 = true → zS 12 = .agg #[.int .i64 a.1, .int .i64 a.2]) ∧ (zB 8 = true → zS 13 = .slice (some ⟨q0, 0, none⟩) 1 1) ∧ (zB 9 = true → zS 14 = .pointer (some ⟨X, 2, none⟩)) ∧ (zB 10 = true → zS 15 = .pointer (some ⟨X, 2, none⟩)) ∧ (zB 11 = true → zS 16 = .slice (some ⟨bb, off, none⟩) S.B.length A.c0) ∧ (zB 12 = true → zS 17 = .int .i64 k) ∧ (zB 13 = true → zS 18 = .pointer (some ⟨bb, off + k, none⟩)) ∧ (zB 14 = true → zS 19 = .slice ao row.length cp) ∧ (zB 15 = true → zS 20 = .bool bq) ∧ (zB 16 = true → zS 21 = .bool (!bq)) ∧ (zB 17 = true → zS 22 = .bool (!bq))) ∧ Below wr.heap.size wr v9 ∧ ((zB 8) = true → At eY v9 (some ⟨q0, 0, none⟩) [a])) (by kernel_rfl) ?_ ?_ ?_
   ·exact ⟨fun _ => false, fun zd => if zd = 22 then u22 else if zd = 21 then u21 else if zd = 20 then u20 else if zd = 19 then u19 else if zd = 18 then u18 else if zd = 17 then u17 else if zd = 16 then u16 else if zd = 15 then u15 else if zd = 14 then u14 else if zd = 13 then u13 else if zd = 12 then u12 else if zd = 11 then u11 else if zd = 10 then u10 else if zd = 9 then u9 else if zd = 8 then u8 else if zd = 7 then u7 else if zd = 6 then u6 else if zd = 5 then u5 else undef, 0, rfl, by kernel_rfl, ⟨fun e => ft e, fun e => ft e, fun e => ft e, fun e => ft e, fun e => ft e, fun e => ft e, fun e => ft e, fun e => ft e, fun e => ft e, fun e => ft e, fun e => ft e, fun e => ft e, fun e => ft e, fun e => ft e, fun e => ft e, fun e => ft e, fun e => ft e, fun e => ft e⟩, ⟨(Below.refl _ _).drew, fun e => ft e⟩⟩
   ·refine StepsI.cons rfl ?_ ?_
    ·rintro L zA v9 ⟨zB, zS, q0, rfl, rfl, hF, hW⟩ hL hm K hK
     have hb0 : zB 0 = false := by simpa using hL
     clear hL hm
     simp only [pE]
     go_simp
     exact hK.out _ _ ⟨fun zj => if zj = 0 then true else zB zj, fun zd => if zd = 5 then .int .i64 k else zS zd, q0, rfl, by kernel_rfl, ⟨fun _ => rfl, hF.2.1, hF.2.2.1, hF.2.2.2.1, hF.2.2.2.2.1, hF.2.2.2.2.2.1, hF.2.2.2.2.2.2.1, hF.2.2.2.2.2.2.2.1, hF.2.2.2.2.2.2.2.2.1, hF.2.2.2.2.2.2.2.2.2.1, hF.2.2.2.2.2.2.2.2.2.2.1, hF.2.2.2.2.2.2.2.2.2.2.2.1, hF.2.2.2.2.2.2.2.2.2.2.2.2.1, hF.2.2.2.2.2.2.2.2.2.2.2.2.2.1, hF.2.2.2.2.2.2.2.2.2.2.2.2.2.2.1, hF.2.2.2.2.2.2.2.2.2.2.2.2.2.2.2.1, hF.2.2.2.2.2.2.2.2.2.2.2.2.2.2.2.2.1, hF.2.2.2.2.2.2.2.2.2.2.2.2.2.2.2.2.2⟩, hW⟩
    refine StepsI.cons rfl ?_ ?_
    ·rintro L zA v9 ⟨zB, zS, q0, rfl, rfl, hF, hW⟩ hL hm K hK
     have hb1 : zB 1 = false := by simpa using hL
     clear hL hm
     simp only [pE]
     refine wpo_load82 (hX9 _ hW.1) rfl rfl ?_
     exact hK.out _ _ ⟨fun zj => if zj = 1 then true else zB zj, fun zd => if zd = 6 then .agg (sA z lv A S n G) else zS zd, q0, rfl, by kernel_rfl, ⟨hF.1, fun _ => rfl, hF.2.2.1, hF.2.2.2.1, hF.2.2.2.2.1, hF.2.2.2.2.2.1, hF.2.2.2.2.2.2.1, hF.2.2.2.2.2.2.2.1, hF.2.2.2.2.2.2.2.2.1, hF.2.2.2.2.2.2.2.2.2.1, hF.2.2.2.2.2.2.2.2.2.2.1, hF.2.2.2.2.2.2.2.2.2.2.2.1, hF.2.2.2.2.2.2.2.2.2.2.2.2.1, hF.2.2.2.2.2.2.2.2.2.2.2.2.2.1, hF.2.2.2.2.2.2.2.2.2.2.2.2.2.2.1, hF.2.2.2.2.2.2.2.2.2.2.2.2.2.2.2.1, hF.2.2.2.2.2.2.2.2.2.2.2.2.2.2.2.2.1, hF.2.2.2.2.2.2.2.2.2.2.2.2.2.2.2.2.2⟩, hW⟩
    refine StepsI.cons rfl ?_ ?_
    ·rintro L zA v9 ⟨zB, zS, q0, rfl, rfl, hF, hW⟩ hL hm K hK
     have hb2 : zB 2 = false := by simpa using hL
     have hb1 : zB 1 = true := mt 1 hm (by kernel_rfl)
     have e1 : zS 6 = .agg (sA z lv A S n G) := hF.2.1 hb1
     clear hL hm
     simp only [pE]
     simp only [e1]
     go_simp
     refine (last_any z lv A S n G HGL.out _ hkm).mono ?_
     rintro e v92 ⟨rfl, hb⟩
     rw [hl9]
     go_wp2_with fail
     exact hK.out _ _ ⟨fun zj => if zj = 1 then true else if zj = 2 then true else zB zj, fun zd => if zd = 7 then .int .i64 (m : Int) else if zd = 6 then .agg (sA z lv A S n G) else zS zd, q0, by simp [hb1], by kernel_rfl, ⟨hF.1, fun _ => rfl, fun _ => rfl, hF.2.2.2.1, hF.2.2.2.2.1, hF.2.2.2.2.2.1, hF.2.2.2.2.2.2.1, hF.2.2.2.2.2.2.2.1, hF.2.2.2.2.2.2.2.2.1, hF.2.2.2.2.2.2.2.2.2.1, hF.2.2.2.2.2.2.2.2.2.2.1, hF.2.2.2.2.2.2.2.2.2.2.2.1, hF.2.2.2.2.2.2.2.2.2.2.2.2.1, hF.2.2.2.2.2.2.2.2.2.2.2.2.2.1, hF.2.2.2.2.2.2.2.2.2.2.2.2.2.2.1, hF.2.2.2.2.2.2.2.2.2.2.2.2.2.2.2.1, hF.2.2.2.2.2.2.2.2.2.2.2.2.2.2.2.2.1, hF.2.2.2.2.2.2.2.2.2.2.2.2.2.2.2.2.2⟩, ⟨below_step hW.1 hb, fun q => (hW.2 q).below hb⟩⟩
    refine StepsI.cons rfl ?_ ?_
    ·rintro L zA v9 ⟨zB, zS, q0, rfl, rfl, hF, hW⟩ hL hm K hK
     have hb3 : zB 3 = false := by simpa using hL
     have hb0 : zB 0 = true := mt 0 hm (by kernel_rfl)
     have hb2 : zB 2 = true := mt 2 hm (by kernel_rfl)
     have e0 : zS 5 = .int .i64 k := hF.1 hb0
     have e2 : zS 7 = .int .i64 (m : Int) := hF.2.2.1 hb2
     clear hL hm
     simp only [pE]
     simp only [e0, e2]
     go_simp
     exact hK.out _ _ ⟨fun zj => if zj = 2 then true else if zj = 0 then true else if zj = 3 then true else zB zj, fun zd => if zd = 8 then .bool true else if zd = 7 then .int .i64 (m : Int) else if zd = 5 then .int .i64 k else zS zd, q0, by simp [hb0, hb2], by kernel_rfl, ⟨fun _ => rfl, hF.2.1, fun _ => rfl, fun _ => rfl, hF.2.2.2.2.1, hF.2.2.2.2.2.1, hF.2.2.2.2.2.2.1, hF.2.2.2.2.2.2.2.1, hF.2.2.2.2.2.2.2.2.1, hF.2.2.2.2.2.2.2.2.2.1, hF.2.2.2.2.2.2.2.2.2.2.1, hF.2.2.2.2.2.2.2.2.2.2.2.1, hF.2.2.2.2.2.2.2.2.2.2.2.2.1, hF.2.2.2.2.2.2.2.2.2.2.2.2.2.1, hF.2.2.2.2.2.2.2.2.2.2.2.2.2.2.1, hF.2.2.2.2.2.2.2.2.2.2.2.2.2.2.2.1, hF.2.2.2.2.2.2.2.2.2.2.2.2.2.2.2.2.1, hF.2.2.2.2.2.2.2.2.2.2.2.2.2.2.2.2.2⟩, hW⟩
    refine StepsI.cons rfl ?_ ?_
    ·rintro L zA v9 ⟨zB, zS, q0, rfl, rfl, hF, hW⟩ hL hm K hK
     have hb4 : zB 4 = false := by simpa using hL
     have hb3 : zB 3 = true := mt 3 hm (by kernel_rfl)
     have e3 : zS 8 = .bool true := hF.2.2.2.1 hb3
     clear hL hm
     simp only [pE]
     simp only [e3]
     go_simp
     exact hK.out _ _ ⟨fun zj => if zj = 3 then true else if zj = 4 then true else zB zj, fun zd => if zd = 9 then .bool true else if zd = 8 then .bool true else zS zd, q0, by simp [hb3], by kernel_rfl, ⟨hF.1, hF.2.1, hF.2.2.1, fun _ => rfl, fun _ => rfl, hF.2.2.2.2.2.1, hF.2.2.2.2.2.2.1, hF.2.2.2.2.2.2.2.1, hF.2.2.2.2.2.2.2.2.1, hF.2.2.2.2.2.2.2.2.2.1, hF.2.2.2.2.2.2.2.2.2.2.1, hF.2.2.2.2.2.2.2.2.2.2.2.1, hF.2.2.2.2.2.2.2.2.2.2.2.2.1, hF.2.2.2.2.2.2.2.2.2.2.2.2.2.1, hF.2.2.2.2.2.2.2.2.2.2.2.2.2.2.1, hF.2.2.2.2.2.2.2.2.2.2.2.2.2.2.2.1, hF.2.2.2.2.2.2.2.2.2.2.2.2.2.2.2.2.1, hF.2.2.2.2.2.2.2.2.2.2.2.2.2.2.2.2.2⟩, hW⟩
    refine StepsI.cons rfl ?_ ?_
    ·rintro L zA v9 ⟨zB, zS, q0, rfl, rfl, hF, hW⟩ hL hm K hK
     have hb5 : zB 5 = false := by simpa using hL
     have hb4 : zB 4 = true := mt 4 hm (by kernel_rfl)
     have e4 : zS 9 = .bool true := hF.2.2.2.2.1 hb4
     clear hL hm
     simp only [pE]
     simp only [e4]
     go_simp
     exact hK.out _ _ ⟨fun zj => if zj = 4 then true else if zj = 5 then true else zB zj, fun zd => if zd = 10 then .pointer (some ⟨X, 5, none⟩) else if zd = 9 then .bool true else zS zd, q0, by simp [hb4], by kernel_rfl, ⟨hF.1, hF.2.1, hF.2.2.1, hF.2.2.2.1, fun _ => rfl, fun _ => rfl, hF.2.2.2.2.2.2.1, hF.2.2.2.2.2.2.2.1, hF.2.2.2.2.2.2.2.2.1, hF.2.2.2.2.2.2.2.2.2.1, hF.2.2.2.2.2.2.2.2.2.2.1, hF.2.2.2.2.2.2.2.2.2.2.2.1, hF.2.2.2.2.2.2.2.2.2.2.2.2.1, hF.2.2.2.2.2.2.2.2.2.2.2.2.2.1, hF.2.2.2.2.2.2.2.2.2.2.2.2.2.2.1, hF.2.2.2.2.2.2.2.2.2.2.2.2.2.2.2.1, hF.2.2.2.2.2.2.2.2.2.2.2.2.2.2.2.2.1, hF.2.2.2.2.2.2.2.2.2.2.2.2.2.2.2.2.2⟩, hW⟩
    refine StepsI.cons rfl ?_ ?_
    ·rintro L zA v9 ⟨zB, zS, q0, rfl, rfl, hF, hW⟩ hL hm K hK
     have hb6 : zB 6 = false := by simpa using hL
     have hb4 : zB 4 = true := mt 4 hm (by kernel_rfl)
     have hb5 : zB 5 = true := mt 5 hm (by kernel_rfl)
     have e4 : zS 9 = .bool true := hF.2.2.2.2.1 hb4
     have e5 : zS 10 = .pointer (some ⟨X, 5, none⟩) := hF.2.2.2.2.2.1 hb5
     clear hL hm
     simp only [pE]
     simp only [e4, e5]
     refine wpo_known (hX9 _ hW.1) rfl rfl ?_
     exact hK.out _ _ ⟨fun zj => if zj = 5 then true else if zj = 4 then true else if zj = 6 then true else zB zj, fun zd => if zd = 11 then .agg (Q.dA n G) else if zd = 10 then .pointer (some ⟨X, 5, none⟩) else if zd = 9 then .bool true else zS zd, q0, by simp [hb4, hb5], by kernel_rfl, ⟨hF.1, hF.2.1, hF.2.2.1, hF.2.2.2.1, fun _ => rfl, fun _ => rfl, fun _ => rfl, hF.2.2.2.2.2.2.2.1, hF.2.2.2.2.2.2.2.2.1, hF.2.2.2.2.2.2.2.2.2.1, hF.2.2.2.2.2.2.2.2.2.2.1, hF.2.2.2.2.2.2.2.2.2.2.2.1, hF.2.2.2.2.2.2.2.2.2.2.2.2.1, hF.2.2.2.2.2.2.2.2.2.2.2.2.2.1, hF.2.2.2.2.2.2.2.2.2.2.2.2.2.2.1, hF.2.2.2.2.2.2.2.2.2.2.2.2.2.2.2.1, hF.2.2.2.2.2.2.2.2.2.2.2.2.2.2.2.2.1, hF.2.2.2.2.2.2.2.2.2.2.2.2.2.2.2.2.2⟩, hW⟩
    refine StepsI.cons rfl ?_ ?_
    ·rintro L zA v9 ⟨zB, zS, q0, rfl, rfl, hF, hW⟩ hL hm K hK
     have hb7 : zB 7 = false := by simpa using hL
     have hb4 : zB 4 = true := mt 4 hm (by kernel_rfl)
     have e4 : zS 9 = .bool true := hF.2.2.2.2.1 hb4
     clear hL hm
     simp only [pE]
     simp only [e4]
     obtain ⟨k0, k1, _, _⟩ := hR9 _ hW.1
     go_simp
     exact hK.out _ _ ⟨fun zj => if zj = 4 then true else if zj = 7 then true else zB zj, fun zd => if zd = 12 then .agg #[.int .i64 a.1, .int .i64 a.2] else if zd = 9 then .bool true else zS zd, q0, by simp [hb4], by kernel_rfl, ⟨hF.1, hF.2.1, hF.2.2.1, hF.2.2.2.1, fun _ => rfl, hF.2.2.2.2.2.1, hF.2.2.2.2.2.2.1, fun _ => rfl, hF.2.2.2.2.2.2.2.2.1, hF.2.2.2.2.2.2.2.2.2.1, hF.2.2.2.2.2.2.2.2.2.2.1, hF.2.2.2.2.2.2.2.2.2.2.2.1, hF.2.2.2.2.2.2.2.2.2.2.2.2.1, hF.2.2.2.2.2.2.2.2.2.2.2.2.2.1, hF.2.2.2.2.2.2.2.2.2.2.2.2.2.2.1, hF.2.2.2.2.2.2.2.2.2.2.2.2.2.2.2.1, hF.2.2.2.2.2.2.2.2.2.2.2.2.2.2.2.2.1, hF.2.2.2.2.2.2.2.2.2.2.2.2.2.2.2.2.2⟩, hW⟩
    refine StepsI.cons rfl ?_ ?_
    ·rintro L zA v9 ⟨zB, zS, q0, rfl, rfl, hF, hW⟩ hL hm K hK
     have hb8 : zB 8 = false := by simpa using hL
     have hb4 : zB 4 = true := mt 4 hm (by kernel_rfl)
     have hb7 : zB 7 = true := mt 7 hm (by kernel_rfl)
     have e4 : zS 9 = .bool true := hF.2.2.2.2.1 hb4
     have e7 : zS 12 = .agg #[.int .i64 a.1, .int .i64 a.2] := hF.2.2.2.2.2.2.2.1 hb7
     clear hL hm
     rw [hb8] at hW
     simp only [pE]
     simp only [e4, e7]
     go_simp
     exact hK.out _ _ ⟨fun zj => if zj = 7 then true else if zj = 4 then true else if zj = 8 then true else zB zj, fun zd => if zd = 13 then .slice (some ⟨v9.heap.size, 0, none⟩) 1 1 else if zd = 12 then .agg #[.int .i64 a.1, .int .i64 a.2] else if zd = 9 then .bool true else zS zd, v9.heap.size, by simp [hb4, hb7], by kernel_rfl, ⟨hF.1, hF.2.1, hF.2.2.1, hF.2.2.2.1, fun _ => rfl, hF.2.2.2.2.2.1, hF.2.2.2.2.2.2.1, fun _ => rfl, fun _ => rfl, hF.2.2.2.2.2.2.2.2.2.1, hF.2.2.2.2.2.2.2.2.2.2.1, hF.2.2.2.2.2.2.2.2.2.2.2.1, hF.2.2.2.2.2.2.2.2.2.2.2.2.1, hF.2.2.2.2.2.2.2.2.2.2.2.2.2.1, hF.2.2.2.2.2.2.2.2.2.2.2.2.2.2.1, hF.2.2.2.2.2.2.2.2.2.2.2.2.2.2.2.1, hF.2.2.2.2.2.2.2.2.2.2.2.2.2.2.2.2.1, hF.2.2.2.2.2.2.2.2.2.2.2.2.2.2.2.2.2⟩, ⟨bl_alloc hW.1 _, fun _ => one_at _ _ _⟩⟩
    refine StepsI.cons rfl ?_ ?_
    ·rintro L zA v9 ⟨zB, zS, q0, rfl, rfl, hF, hW⟩ hL hm K hK
     have hb9 : zB 9 = false := by simpa using hL
     have hb4 : zB 4 = true := mt 4 hm (by kernel_rfl)
     have e4 : zS 9 = .bool true := hF.2.2.2.2.1 hb4
     clear hL hm
     simp only [pE]
     simp only [e4]
     go_simp
     exact hK.out _ _ ⟨fun zj => if zj = 4 then true else if zj = 9 then true else zB zj, fun zd => if zd = 14 then .pointer (some ⟨X, 2, none⟩) else if zd = 9 then .bool true else zS zd, q0, by simp [hb4], by kernel_rfl, ⟨hF.1, hF.2.1, hF.2.2.1, hF.2.2.2.1, fun _ => rfl, hF.2.2.2.2.2.1, hF.2.2.2.2.2.2.1, hF.2.2.2.2.2.2.2.1, hF.2.2.2.2.2.2.2.2.1, fun _ => rfl, hF.2.2.2.2.2.2.2.2.2.2.1, hF.2.2.2.2.2.2.2.2.2.2.2.1, hF.2.2.2.2.2.2.2.2.2.2.2.2.1, hF.2.2.2.2.2.2.2.2.2.2.2.2.2.1, hF.2.2.2.2.2.2.2.2.2.2.2.2.2.2.1, hF.2.2.2.2.2.2.2.2.2.2.2.2.2.2.2.1, hF.2.2.2.2.2.2.2.2.2.2.2.2.2.2.2.2.1, hF.2.2.2.2.2.2.2.2.2.2.2.2.2.2.2.2.2⟩, hW⟩
    refine StepsI.cons rfl ?_ ?_
    ·rintro L zA v9 ⟨zB, zS, q0, rfl, rfl, hF, hW⟩ hL hm K hK
     have hb10 : zB 10 = false := by simpa using hL
     have hb4 : zB 4 = true := mt 4 hm (by kernel_rfl)
     have hb9 : zB 9 = true := mt 9 hm (by kernel_rfl)
     have e4 : zS 9 = .bool true := hF.2.2.2.2.1 hb4
     have e9 : zS 14 = .pointer (some ⟨X, 2, none⟩) := hF.2.2.2.2.2.2.2.2.2.1 hb9
     clear hL hm
     simp only [pE]
     simp only [e4, e9]
     go_simp
     exact hK.out _ _ ⟨fun zj => if zj = 9 then true else if zj = 4 then true else if zj = 10 then true else zB zj, fun zd => if zd = 15 then .pointer (some ⟨X, 2, none⟩) else if zd = 14 then .pointer (some ⟨X, 2, none⟩) else if zd = 9 then .bool true else zS zd, q0, by simp [hb4, hb9], by kernel_rfl, ⟨hF.1, hF.2.1, hF.2.2.1, hF.2.2.2.1, fun _ => rfl, hF.2.2.2.2.2.1, hF.2.2.2.2.2.2.1, hF.2.2.2.2.2.2.2.1, hF.2.2.2.2.2.2.2.2.1, fun _ => rfl, fun _ => rfl, hF.2.2.2.2.2.2.2.2.2.2.2.1, hF.2.2.2.2.2.2.2.2.2.2.2.2.1, hF.2.2.2.2.2.2.2.2.2.2.2.2.2.1, hF.2.2.2.2.2.2.2.2.2.2.2.2.2.2.1, hF.2.2.2.2.2.2.2.2.2.2.2.2.2.2.2.1, hF.2.2.2.2.2.2.2.2.2.2.2.2.2.2.2.2.1, hF.2.2.2.2.2.2.2.2.2.2.2.2.2.2.2.2.2⟩, hW⟩
    refine StepsI.cons rfl ?_ ?_
    ·rintro L zA v9 ⟨zB, zS, q0, rfl, rfl, hF, hW⟩ hL hm K hK
     have hb11 : zB 11 = false := by simpa using hL
     have hb4 : zB 4 = true := mt 4 hm (by kernel_rfl)
     have hb10 : zB 10 = true := mt 10 hm (by kernel_rfl)
     have e4 : zS 9 = .bool true := hF.2.2.2.2.1 hb4
     have e10 : zS 15 = .pointer (some ⟨X, 2, none⟩) := hF.2.2.2.2.2.2.2.2.2.2.1 hb10
     clear hL hm
     simp only [pE]
     simp only [e4, e10]
     have k0 := (hX9 _ hW.1).c2
     rw [hab] at k0
     go_simp
     exact hK.out _ _ ⟨fun zj => if zj = 10 then true else if zj = 4 then true else if zj = 11 then true else zB zj, fun zd => if zd = 16 then .slice (some ⟨bb, off, none⟩) S.B.length A.c0 else if zd = 15 then .pointer (some ⟨X, 2, none⟩) else if zd = 9 then .bool true else zS zd, q0, by simp [hb4, hb10], by kernel_rfl, ⟨hF.1, hF.2.1, hF.2.2.1, hF.2.2.2.1, fun _ => rfl, hF.2.2.2.2.2.1, hF.2.2.2.2.2.2.1, hF.2.2.2.2.2.2.2.1, hF.2.2.2.2.2.2.2.2.1, hF.2.2.2.2.2.2.2.2.2.1, fun _ => rfl, fun _ => rfl, hF.2.2.2.2.2.2.2.2.2.2.2.2.1, hF.2.2.2.2.2.2.2.2.2.2.2.2.2.1, hF.2.2.2.2.2.2.2.2.2.2.2.2.2.2.1, hF.2.2.2.2.2.2.2.2.2.2.2.2.2.2.2.1, hF.2.2.2.2.2.2.2.2.2.2.2.2.2.2.2.2.1, hF.2.2.2.2.2.2.2.2.2.2.2.2.2.2.2.2.2⟩, hW⟩
    refine StepsI.cons rfl ?_ ?_
    ·rintro L zA v9 ⟨zB, zS, q0, rfl, rfl, hF, hW⟩ hL hm K hK
     have hb12 : zB 12 = false := by simpa using hL
     have hb4 : zB 4 = true := mt 4 hm (by kernel_rfl)
     have e4 : zS 9 = .bool true := hF.2.2.2.2.1 hb4
     clear hL hm
     simp only [pE]
     simp only [e4]
     go_simp
     exact hK.out _ _ ⟨fun zj => if zj = 4 then true else if zj = 12 then true else zB zj, fun zd => if zd = 17 then .int .i64 k else if zd = 9 then .bool true else zS zd, q0, by simp [hb4], by kernel_rfl, ⟨hF.1, hF.2.1, hF.2.2.1, hF.2.2.2.1, fun _ => rfl, hF.2.2.2.2.2.1, hF.2.2.2.2.2.2.1, hF.2.2.2.2.2.2.2.1, hF.2.2.2.2.2.2.2.2.1, hF.2.2.2.2.2.2.2.2.2.1, hF.2.2.2.2.2.2.2.2.2.2.1, hF.2.2.2.2.2.2.2.2.2.2.2.1, fun _ => rfl, hF.2.2.2.2.2.2.2.2.2.2.2.2.2.1, hF.2.2.2.2.2.2.2.2.2.2.2.2.2.2.1, hF.2.2.2.2.2.2.2.2.2.2.2.2.2.2.2.1, hF.2.2.2.2.2.2.2.2.2.2.2.2.2.2.2.2.1, hF.2.2.2.2.2.2.2.2.2.2.2.2.2.2.2.2.2⟩, hW⟩
    refine StepsI.cons rfl ?_ ?_
    ·rintro L zA v9 ⟨zB, zS, q0, rfl, rfl, hF, hW⟩ hL hm K hK
     have hb13 : zB 13 = false := by simpa using hL
     have hb4 : zB 4 = true := mt 4 hm (by kernel_rfl)
     have hb11 : zB 11 = true := mt 11 hm (by kernel_rfl)
     have hb12 : zB 12 = true := mt 12 hm (by kernel_rfl)
     have e4 : zS 9 = .bool true := hF.2.2.2.2.1 hb4
     have e11 : zS 16 = .slice (some ⟨bb, off, none⟩) S.B.length A.c0 := hF.2.2.2.2.2.2.2.2.2.2.2.1 hb11
     have e12 : zS 17 = .int .i64 k := hF.2.2.2.2.2.2.2.2.2.2.2.2.1 hb12
     clear hL hm
     simp only [pE]
     simp only [e4, e11, e12]
     go_simp
     exact hK.out _ _ ⟨fun zj => if zj = 12 then true else if zj = 11 then true else if zj = 4 then true else if zj = 13 then true else zB zj, fun zd => if zd = 18 then .pointer (some ⟨bb, off + k, none⟩) else if zd = 17 then .int .i64 k else if zd = 16 then .slice (some ⟨bb, off, none⟩) S.B.length A.c0 else if zd = 9 then .bool true else zS zd, q0, by simp [hb4, hb11, hb12], by kernel_rfl, ⟨hF.1, hF.2.1, hF.2.2.1, hF.2.2.2.1, fun _ => rfl, hF.2.2.2.2.2.1, hF.2.2.2.2.2.2.1, hF.2.2.2.2.2.2.2.1, hF.2.2.2.2.2.2.2.2.1, hF.2.2.2.2.2.2.2.2.2.1, hF.2.2.2.2.2.2.2.2.2.2.1, fun _ => rfl, fun _ => rfl, fun _ => rfl, hF.2.2.2.2.2.2.2.2.2.2.2.2.2.2.1, hF.2.2.2.2.2.2.2.2.2.2.2.2.2.2.2.1, hF.2.2.2.2.2.2.2.2.2.2.2.2.2.2.2.2.1, hF.2.2.2.2.2.2.2.2.2.2.2.2.2.2.2.2.2⟩, hW⟩
    refine StepsI.cons rfl ?_ ?_
    ·rintro L zA v9 ⟨zB, zS, q0, rfl, rfl, hF, hW⟩ hL hm K hK
     have hb14 : zB 14 = false := by simpa using hL
     have hb4 : zB 4 = true := mt 4 hm (by kernel_rfl)
     have hb13 : zB 13 = true := mt 13 hm (by kernel_rfl)
     have e4 : zS 9 = .bool true := hF.2.2.2.2.1 hb4
     have e13 : zS 18 = .pointer (some ⟨bb, off + k, none⟩) := hF.2.2.2.2.2.2.2.2.2.2.2.2.2.1 hb13
     clear hL hm
     simp only [pE]
     simp only [e4, e13]
     have k0 := hk09 _ hW.1
     go_simp
     exact hK.out _ _ ⟨fun zj => if zj = 13 then true else if zj = 4 then true else if zj = 14 then true else zB zj, fun zd => if zd = 19 then .slice ao row.length cp else if zd = 18 then .pointer (some ⟨bb, off + k, none⟩) else if zd = 9 then .bool true else zS zd, q0, by simp [hb4, hb13], by kernel_rfl, ⟨hF.1, hF.2.1, hF.2.2.1, hF.2.2.2.1, fun _ => rfl, hF.2.2.2.2.2.1, hF.2.2.2.2.2.2.1, hF.2.2.2.2.2.2.2.1, hF.2.2.2.2.2.2.2.2.1, hF.2.2.2.2.2.2.2.2.2.1, hF.2.2.2.2.2.2.2.2.2.2.1, hF.2.2.2.2.2.2.2.2.2.2.2.1, hF.2.2.2.2.2.2.2.2.2.2.2.2.1, fun _ => rfl, fun _ => rfl, hF.2.2.2.2.2.2.2.2.2.2.2.2.2.2.2.1, hF.2.2.2.2.2.2.2.2.2.2.2.2.2.2.2.2.1, hF.2.2.2.2.2.2.2.2.2.2.2.2.2.2.2.2.2⟩, hW⟩
    refine StepsI.cons rfl ?_ ?_
    ·rintro L zA v9 ⟨zB, zS, q0, rfl, rfl, hF, hW⟩ hL hm K hK
     have hb15 : zB 15 = false := by simpa using hL
     have hb4 : zB 4 = true := mt 4 hm (by kernel_rfl)
     have hb6 : zB 6 = true := mt 6 hm (by kernel_rfl)
     have hb8 : zB 8 = true := mt 8 hm (by kernel_rfl)
     have hb14 : zB 14 = true := mt 14 hm (by kernel_rfl)
     have e4 : zS 9 = .bool true := hF.2.2.2.2.1 hb4
     have e6 : zS 11 = .agg (Q.dA n G) := hF.2.2.2.2.2.2.1 hb6
     have e8 : zS 13 = .slice (some ⟨q0, 0, none⟩) 1 1 := hF.2.2.2.2.2.2.2.2.1 hb8
     have e14 : zS 19 = .slice ao row.length cp := hF.2.2.2.2.2.2.2.2.2.2.2.2.2.2.1 hb14
     clear hL hm
     rw [hb8] at hW
     simp only [pE]
     simp only [e4, e6, e8, e14]
     go_simp
     refine (HAB.out row ao cp q0 _ HLN.out HWR.out (HAT.out.below hW.1) (hW.2 (by first | rfl | trivial))).mono ?_
     rintro e v92 ⟨rfl, hb⟩
     rw [he9]
     go_wp2_with fail
     exact hK.out _ _ ⟨fun zj => if zj = 14 then true else if zj = 8 then true else if zj = 6 then true else if zj = 4 then true else if zj = 15 then true else zB zj, fun zd => if zd = 20 then .bool bq else if zd = 19 then .slice ao row.length cp else if zd = 13 then .slice (some ⟨q0, 0, none⟩) 1 1 else if zd = 11 then .agg (Q.dA n G) else if zd = 9 then .bool true else zS zd, q0, by simp [hb4, hb6, hb8, hb14], by kernel_rfl, ⟨hF.1, hF.2.1, hF.2.2.1, hF.2.2.2.1, fun _ => rfl, hF.2.2.2.2.2.1, fun _ => rfl, hF.2.2.2.2.2.2.2.1, fun _ => rfl, hF.2.2.2.2.2.2.2.2.2.1, hF.2.2.2.2.2.2.2.2.2.2.1, hF.2.2.2.2.2.2.2.2.2.2.2.1, hF.2.2.2.2.2.2.2.2.2.2.2.2.1, hF.2.2.2.2.2.2.2.2.2.2.2.2.2.1, fun _ => rfl, fun _ => rfl, hF.2.2.2.2.2.2.2.2.2.2.2.2.2.2.2.2.1, hF.2.2.2.2.2.2.2.2.2.2.2.2.2.2.2.2.2⟩, ⟨below_step hW.1 hb, fun _ => (hW.2 (by first | rfl | trivial)).below hb⟩⟩
    refine StepsI.cons rfl ?_ ?_
    ·rintro L zA v9 ⟨zB, zS, q0, rfl, rfl, hF, hW⟩ hL hm K hK
     have hb16 : zB 16 = false := by simpa using hL
     have hb4 : zB 4 = true := mt 4 hm (by kernel_rfl)
     have hb15 : zB 15 = true := mt 15 hm (by kernel_rfl)
     have e4 : zS 9 = .bool true := hF.2.2.2.2.1 hb4
     have e15 : zS 20 = .bool bq := hF.2.2.2.2.2.2.2.2.2.2.2.2.2.2.2.1 hb15
     clear hL hm
     simp only [pE]
     simp only [e4, e15]
     go_simp
     exact hK.out _ _ ⟨fun zj => if zj = 15 then true else if zj = 4 then true else if zj = 16 then true else zB zj, fun zd => if zd = 21 then .bool (!bq) else if zd = 20 then .bool bq else if zd = 9 then .bool true else zS zd, q0, by simp [hb4, hb15], by kernel_rfl, ⟨hF.1, hF.2.1, hF.2.2.1, hF.2.2.2.1, fun _ => rfl, hF.2.2.2.2.2.1, hF.2.2.2.2.2.2.1, hF.2.2.2.2.2.2.2.1, hF.2.2.2.2.2.2.2.2.1, hF.2.2.2.2.2.2.2.2.2.1, hF.2.2.2.2.2.2.2.2.2.2.1, hF.2.2.2.2.2.2.2.2.2.2.2.1, hF.2.2.2.2.2.2.2.2.2.2.2.2.1, hF.2.2.2.2.2.2.2.2.2.2.2.2.2.1, hF.2.2.2.2.2.2.2.2.2.2.2.2.2.2.1, fun _ => rfl, fun _ => rfl, hF.2.2.2.2.2.2.2.2.2.2.2.2.2.2.2.2.2⟩, hW⟩
    refine StepsI.cons rfl ?_ ?_
    ·rintro L zA v9 ⟨zB, zS, q0, rfl, rfl, hF, hW⟩ hL hm K hK
     have hb17 : zB 17 = false := by simpa using hL
     have hb4 : zB 4 = true := mt 4 hm (by kernel_rfl)
     have hb16 : zB 16 = true := mt 16 hm (by kernel_rfl)
     have e4 : zS 9 = .bool true := hF.2.2.2.2.1 hb4
     have e16 : zS 21 = .bool (!bq) := hF.2.2.2.2.2.2.2.2.2.2.2.2.2.2.2.2.1 hb16
     clear hL hm
     simp only [pE]
     simp only [e4, e16]
     go_simp
     exact hK.out _ _ ⟨fun zj => if zj = 16 then true else if zj = 4 then true else if zj = 17 then true else zB zj, fun zd => if zd = 22 then .bool (!bq) else if zd = 21 then .bool (!bq) else if zd = 9 then .bool true else zS zd, q0, by simp [hb4, hb16], by kernel_rfl, ⟨hF.1, hF.2.1, hF.2.2.1, hF.2.2.2.1, fun _ => rfl, hF.2.2.2.2.2.1, hF.2.2.2.2.2.2.1, hF.2.2.2.2.2.2.2.1, hF.2.2.2.2.2.2.2.2.1, hF.2.2.2.2.2.2.2.2.2.1, hF.2.2.2.2.2.2.2.2.2.2.1, hF.2.2.2.2.2.2.2.2.2.2.2.1, hF.2.2.2.2.2.2.2.2.2.2.2.2.1, hF.2.2.2.2.2.2.2.2.2.2.2.2.2.1, hF.2.2.2.2.2.2.2.2.2.2.2.2.2.2.1, hF.2.2.2.2.2.2.2.2.2.2.2.2.2.2.2.1, fun _ => rfl, fun _ => rfl⟩, hW⟩
    exact StepsI.nil (by kernel_rfl)
   ·rintro L zA v9 ⟨zB, zS, q0, rfl, rfl, hF, hW⟩ hr
    have hu := all_up (by kernel_rfl) (N := 18) (by kernel_rfl) hr
    have hb0 : zB 0 = true := by simpa using hu 0 (by decide)
    have hb1 : zB 1 = true := by simpa using hu 1 (by decide)
    have hb2 : zB 2 = true := by simpa using hu 2 (by decide)
    have hb3 : zB 3 = true := by simpa using hu 3 (by decide)
    have hb4 : zB 4 = true := by simpa using hu 4 (by decide)
    have hb5 : zB 5 = true := by simpa using hu 5 (by decide)
    have hb6 : zB 6 = true := by simpa using hu 6 (by decide)
    have hb7 : zB 7 = true := by simpa using hu 7 (by decide)
    have hb8 : zB 8 = true := by simpa using hu 8 (by decide)
    have hb9 : zB 9 = true := by simpa using hu 9 (by decide)
    have hb10 : zB 10 = true := by simpa using hu 10 (by decide)
    have hb11 : zB 11 = true := by simpa using hu 11 (by decide)
    have hb12 : zB 12 = true := by simpa using hu 12 (by decide)
    have hb13 : zB 13 = true := by simpa using hu 13 (by decide)
    have hb14 : zB 14 = true := by simpa using hu 14 (by decide)
    have hb15 : zB 15 = true := by simpa using hu 15 (by decide)
    have hb16 : zB 16 = true := by simpa using hu 16 (by decide)
    have hb17 : zB 17 = true := by simpa using hu 17 (by decide)
    have e0 : zS 5 = .int .i64 k := hF.1 hb0
    have e1 : zS 6 = .agg (sA z lv A S n G) := hF.2.1 hb1
    have e2 : zS 7 = .int .i64 (m : Int) := hF.2.2.1 hb2
    have e3 : zS 8 = .bool true := hF.2.2.2.1 hb3
    have e4 : zS 9 = .bool true := hF.2.2.2.2.1 hb4
    have e5 : zS 10 = .pointer (some ⟨X, 5, none⟩) := hF.2.2.2.2.2.1 hb5
    have e6 : zS 11 = .agg (Q.dA n G) := hF.2.2.2.2.2.2.1 hb6
    have e7 : zS 12 = .agg #[.int .i64 a.1, .int .i64 a.2] := hF.2.2.2.2.2.2.2.1 hb7
    have e8 : zS 13 = .slice (some ⟨q0, 0, none⟩) 1 1 := hF.2.2.2.2.2.2.2.2.1 hb8
    have e9 : zS 14 = .pointer (some ⟨X, 2, none⟩) := hF.2.2.2.2.2.2.2.2.2.1 hb9
    have e10 : zS 15 = .pointer (some ⟨X, 2, none⟩) := hF.2.2.2.2.2.2.2.2.2.2.1 hb10
    have e11 : zS 16 = .slice (some ⟨bb, off, none⟩) S.B.length A.c0 := hF.2.2.2.2.2.2.2.2.2.2.2.1 hb11
    have e12 : zS 17 = .int .i64 k := hF.2.2.2.2.2.2.2.2.2.2.2.2.1 hb12
    have e13 : zS 18 = .pointer (some ⟨bb, off + k, none⟩) := hF.2.2.2.2.2.2.2.2.2.2.2.2.2.1 hb13
    have e14 : zS 19 = .slice ao row.length cp := hF.2.2.2.2.2.2.2.2.2.2.2.2.2.2.1 hb14
    have e15 : zS 20 = .bool bq := hF.2.2.2.2.2.2.2.2.2.2.2.2.2.2.2.1 hb15
    have e16 : zS 21 = .bool (!bq) := hF.2.2.2.2.2.2.2.2.2.2.2.2.2.2.2.2.1 hb16
    have e17 : zS 22 = .bool (!bq) := hF.2.2.2.2.2.2.2.2.2.2.2.2.2.2.2.2.2 hb17
    rw [hb8] at hW
    clear hu hr hF
    simp only [pE]
    simp only [e0, e1, e2, e3, e4, e5, e6, e7, e8, e9, e10, e11, e12, e13, e14, e15, e16, e17]
    clear e0 e1 e2 e3 e4 e5 e6 e7 e8 e9 e10 e11 e12 e13 e14 e15 e16 e17
    clear hb0 hb1 hb2 hb3 hb4 hb5 hb6 hb7 hb8 hb9 hb10 hb11 hb12 hb13 hb14 hb15 hb16 hb17
    clear zB zS
    have HB2 := mkHid (below_step HB1.out hW.1)
    clear hW hX9 hR9
    clear hk09 he9
    cases bq
    ·have HE := HBQ
     go_wp2
     go_roundg (m - (k + 1))
     case measure => omega
     case rel => exact ⟨k + 1, by omega, by go_num, by omega, (by rw [← HEQ.out, uq_next (pT f S.B a) (last := m) (j := k) hk, HE.out]; rfl), HB2.out⟩
    ·have HE := HBQ
     go_wp2
     go_ret
     refine ⟨?_, HB2.out⟩
     rw [← HEQ.out, uq_next (pT f S.B a) (last := m) (j := k) hk, HE.out]
     rfl
  ·have e : k = m := by omega
   subst e
   clear hbel
   have i2 : ¬ ((k : Int) < (k : Int)) := by omega
   go_wp2_with fail
   refine wp_region_inv2 (fun zA0 L zA v9 => ∃ (zB : Nat → Bool) (zS : Nat → Value), L = #[zB 0, zB 1, zB 2, zB 3, zB 4, zB 5, zB 6, zB 7, zB 8, zB 9, zB 10, zB 11, zB 12, zB 13, zB 14, zB 15, zB 16, zB 17] ∧ zA = puts zA0 [(5, zS 5), (6, zS 6), (7, zS 7), (8, zS 8), (9, zS 9), (10, zS 10), (11, zS 11), (12, zS 12), (13, zS 13), (14, zS 14), (15, zS 15), (16, zS 16), (17, zS 17), (18, zS 18), (19, zS 19), (20, zS 20), (21, zS 21), (22, zS 22)] ∧ FF 5 [.int .i64 k, .agg (sA z lv A S n G), .int .i64 (k : Int), .bool false, .bool false, undef, undef, undef, undef, undef, undef, undef, undef, undef, undef, undef, undef, .bool false] zB zS ∧ Below wr.heap.size wr v9 ∧ True) (by kernel_rfl) ?_ ?_ ?_
   ·exact ⟨fun _ => false, fun zd => [u5, u6, u7, u8, u9, u10, u11, u12, u13, u14, u15, u16, u17, u18, u19, u20, u21, u22].getD (zd - 5) undef, rfl, by kernel_rfl, ff0, ⟨(Below.refl _ _).drew, trivial⟩⟩
   ·refine StepsI.cons rfl ?_ ?_
    ·rintro L zA v9 ⟨zB, zS, rfl, rfl, hF, hW⟩ hL hm K hK
     have hb0 : zB 0 = false := by simpa using hL
     clear hL hm
     simp only [pE]
     go_simp
     exact hK.out _ _ ⟨ups zB [0], upv _ _ zS [0], rfl, by kernel_rfl, rk hF rfl, hW⟩
    refine StepsI.cons rfl ?_ ?_
    ·rintro L zA v9 ⟨zB, zS, rfl, rfl, hF, hW⟩ hL hm K hK
     have hb1 : zB 1 = false := by simpa using hL
     clear hL hm
     simp only [pE]
     refine wpo_load82 (hX9 _ hW.1) rfl rfl ?_
     exact hK.out _ _ ⟨ups zB [1], upv _ _ zS [1], rfl, by kernel_rfl, rk hF rfl, hW⟩
    refine StepsI.cons rfl ?_ ?_
    ·rintro L zA v9 ⟨zB, zS, rfl, rfl, hF, hW⟩ hL hm K hK
     have hb2 : zB 2 = false := by simpa using hL
     have hb1 : zB 1 = true := mt 1 hm (by kernel_rfl)
     have e1 : zS 6 = .agg (sA z lv A S n G) := hF 1 _ rfl hb1
     clear hL hm
     simp only [pE]
     simp only [e1]
     go_simp
     refine (last_any z lv A S n G HGL.out _ hkm).mono ?_
     rintro e v92 ⟨rfl, hb⟩
     rw [hl9]
     go_wp2_with fail
     exact hK.out _ _ ⟨ups zB [2], upv _ _ zS [2, 1], rfl, by kernel_rfl, rk hF rfl, ⟨below_step hW.1 hb, trivial⟩⟩
    refine StepsI.cons rfl ?_ ?_
    ·rintro L zA v9 ⟨zB, zS, rfl, rfl, hF, hW⟩ hL hm K hK
     have hb3 : zB 3 = false := by simpa using hL
     have hb0 : zB 0 = true := mt 0 hm (by kernel_rfl)
     have hb2 : zB 2 = true := mt 2 hm (by kernel_rfl)
     have e0 : zS 5 = .int .i64 k := hF 0 _ rfl hb0
     have e2 : zS 7 = .int .i64 (k : Int) := hF 2 _ rfl hb2
     clear hL hm
     simp only [pE]
     simp only [e0, e2]
     go_simp
     exact hK.out _ _ ⟨ups zB [3], upv _ _ zS [3, 2, 0], rfl, by kernel_rfl, rk hF rfl, hW⟩
    refine StepsI.cons rfl ?_ ?_
    ·rintro L zA v9 ⟨zB, zS, rfl, rfl, hF, hW⟩ hL hm K hK
     have hb4 : zB 4 = false := by simpa using hL
     have hb3 : zB 3 = true := mt 3 hm (by kernel_rfl)
     have e3 : zS 8 = .bool false := hF 3 _ rfl hb3
     clear hL hm
     simp only [pE]
     simp only [e3]
     go_simp
     exact hK.out _ _ ⟨ups zB [4], upv _ _ zS [4, 3], rfl, by kernel_rfl, rk hF rfl, hW⟩
    refine StepsI.cons rfl ?_ ?_
    ·rintro L zA v9 ⟨zB, zS, rfl, rfl, hF, hW⟩ hL hm K hK
     have hb5 : zB 5 = false := by simpa using hL
     have hb4 : zB 4 = true := mt 4 hm (by kernel_rfl)
     have e4 : zS 9 = .bool false := hF 4 _ rfl hb4
     clear hL hm
     simp only [pE]
     simp only [e4]
     rw [if_neg (by exact Bool.false_ne_true)]
     exact hK.out _ _ ⟨ups zB [5], upv _ _ zS [5, 4], rfl, by kernel_rfl, rk hF rfl, hW⟩
    refine StepsI.cons rfl ?_ ?_
    ·rintro L zA v9 ⟨zB, zS, rfl, rfl, hF, hW⟩ hL hm K hK
     have hb6 : zB 6 = false := by simpa using hL
     have hb4 : zB 4 = true := mt 4 hm (by kernel_rfl)
     have e4 : zS 9 = .bool false := hF 4 _ rfl hb4
     clear hL hm
     simp only [pE]
     simp only [e4]
     rw [if_neg (by exact Bool.false_ne_true)]
     exact hK.out _ _ ⟨ups zB [6], upv _ _ zS [6, 4], rfl, by kernel_rfl, rk hF rfl, hW⟩
    refine StepsI.cons rfl ?_ ?_
    ·rintro L zA v9 ⟨zB, zS, rfl, rfl, hF, hW⟩ hL hm K hK
     have hb7 : zB 7 = false := by simpa using hL
     have hb4 : zB 4 = true := mt 4 hm (by kernel_rfl)
     have e4 : zS 9 = .bool false := hF 4 _ rfl hb4
     clear hL hm
     simp only [pE]
     simp only [e4]
     rw [if_neg (by exact Bool.false_ne_true)]
     exact hK.out _ _ ⟨ups zB [7], upv _ _ zS [7, 4], rfl, by kernel_rfl, rk hF rfl, hW⟩
    refine StepsI.cons rfl ?_ ?_
    ·rintro L zA v9 ⟨zB, zS, rfl, rfl, hF, hW⟩ hL hm K hK
     have hb8 : zB 8 = false := by simpa using hL
     have hb4 : zB 4 = true := mt 4 hm (by kernel_rfl)
     have e4 : zS 9 = .bool false := hF 4 _ rfl hb4
     clear hL hm
     simp only [pE]
     simp only [e4]
     rw [if_neg (by exact Bool.false_ne_true)]
     exact hK.out _ _ ⟨ups zB [8], upv _ _ zS [8, 4], rfl, by kernel_rfl, rk hF rfl, hW⟩
    refine StepsI.cons rfl ?_ ?_
    ·rintro L zA v9 ⟨zB, zS, rfl, rfl, hF, hW⟩ hL hm K hK
     have hb9 : zB 9 = false := by simpa using hL
     have hb4 : zB 4 = true := mt 4 hm (by kernel_rfl)
     have e4 : zS 9 = .bool false := hF 4 _ rfl hb4
     clear hL hm
     simp only [pE]
     simp only [e4]
     rw [if_neg (by exact Bool.false_ne_true)]
     exact hK.out _ _ ⟨ups zB [9], upv _ _ zS [9, 4], rfl, by kernel_rfl, rk hF rfl, hW⟩
    refine StepsI.cons rfl ?_ ?_
    ·rintro L zA v9 ⟨zB, zS, rfl, rfl, hF, hW⟩ hL hm K hK
     have hb10 : zB 10 = false := by simpa using hL
     have hb4 : zB 4 = true := mt 4 hm (by kernel_rfl)
     have e4 : zS 9 = .bool false := hF 4 _ rfl hb4
     clear hL hm
     simp only [pE]
     simp only [e4]
     rw [if_neg (by exact Bool.false_ne_true)]
     exact hK.out _ _ ⟨ups zB [10], upv _ _ zS [10, 4], rfl, by kernel_rfl, rk hF rfl, hW⟩
    refine StepsI.cons rfl ?_ ?_
    ·rintro L zA v9 ⟨zB, zS, rfl, rfl, hF, hW⟩ hL hm K hK
     have hb11 : zB 11 = false := by simpa using hL
     have hb4 : zB 4 = true := mt 4 hm (by kernel_rfl)
     have e4 : zS 9 = .bool false := hF 4 _ rfl hb4
     clear hL hm
     simp only [pE]
     simp only [e4]
     rw [if_neg (by exact Bool.false_ne_true)]
     exact hK.out _ _ ⟨ups zB [11], upv _ _ zS [11, 4], rfl, by kernel_rfl, rk hF rfl, hW⟩
    refine StepsI.cons rfl ?_ ?_
    ·rintro L zA v9 ⟨zB, zS, rfl, rfl, hF, hW⟩ hL hm K hK
     have hb12 : zB 12 = false := by simpa using hL
     have hb4 : zB 4 = true := mt 4 hm (by kernel_rfl)
     have e4 : zS 9 = .bool false := hF 4 _ rfl hb4
     clear hL hm
     simp only [pE]
     simp only [e4]
     rw [if_neg (by exact Bool.false_ne_true)]
     exact hK.out _ _ ⟨ups zB [12], upv _ _ zS [12, 4], rfl, by kernel_rfl, rk hF rfl, hW⟩
    refine StepsI.cons rfl ?_ ?_
    ·rintro L zA v9 ⟨zB, zS, rfl, rfl, hF, hW⟩ hL hm K hK
     have hb13 : zB 13 = false := by simpa using hL
     have hb4 : zB 4 = true := mt 4 hm (by kernel_rfl)
     have e4 : zS 9 = .bool false := hF 4 _ rfl hb4
     clear hL hm
     simp only [pE]
     simp only [e4]
     rw [if_neg (by exact Bool.false_ne_true)]
     exact hK.out _ _ ⟨ups zB [13], upv _ _ zS [13, 4], rfl, by kernel_rfl, rk hF rfl, hW⟩
    refine StepsI.cons rfl ?_ ?_
    ·rintro L zA v9 ⟨zB, zS, rfl, rfl, hF, hW⟩ hL hm K hK
     have hb14 : zB 14 = false := by simpa using hL
     have hb4 : zB 4 = true := mt 4 hm (by kernel_rfl)
     have e4 : zS 9 = .bool false := hF 4 _ rfl hb4
     clear hL hm
     simp only [pE]
     simp only [e4]
     rw [if_neg (by exact Bool.false_ne_true)]
     exact hK.out _ _ ⟨ups zB [14], upv _ _ zS [14, 4], rfl, by kernel_rfl, rk hF rfl, hW⟩
    refine StepsI.cons rfl ?_ ?_
    ·rintro L zA v9 ⟨zB, zS, rfl, rfl, hF, hW⟩ hL hm K hK
     have hb15 : zB 15 = false := by simpa using hL
     have hb4 : zB 4 = true := mt 4 hm (by kernel_rfl)
     have e4 : zS 9 = .bool false := hF 4 _ rfl hb4
     clear hL hm
     simp only [pE]
     simp only [e4]
     rw [if_neg (by exact Bool.false_ne_true)]
     exact hK.out _ _ ⟨ups zB [15], upv _ _ zS [15, 4], rfl, by kernel_rfl, rk hF rfl, hW⟩
    refine StepsI.cons rfl ?_ ?_
    ·rintro L zA v9 ⟨zB, zS, rfl, rfl, hF, hW⟩ hL hm K hK
     have hb16 : zB 16 = false := by simpa using hL
     have hb4 : zB 4 = true := mt 4 hm (by kernel_rfl)
     have e4 : zS 9 = .bool false := hF 4 _ rfl hb4
     clear hL hm
     simp only [pE]
     simp only [e4]
     rw [if_neg (by exact Bool.false_ne_true)]
     exact hK.out _ _ ⟨ups zB [16], upv _ _ zS [16, 4], rfl, by kernel_rfl, rk hF rfl, hW⟩
    refine StepsI.cons rfl ?_ ?_
    ·rintro L zA v9 ⟨zB, zS, rfl, rfl, hF, hW⟩ hL hm K hK
     have hb17 : zB 17 = false := by simpa using hL
     have hb4 : zB 4 = true := mt 4 hm (by kernel_rfl)
     have hb16 : zB 16 = true := mt 16 hm (by kernel_rfl)
     have e4 : zS 9 = .bool false := hF 4 _ rfl hb4
     have e16 : zS 21 = undef := hF 16 _ rfl hb16
     clear hL hm
     simp only [pE]
     simp only [e4, e16]
     go_simp
     exact hK.out _ _ ⟨ups zB [17], upv _ _ zS [17, 16, 4], rfl, by kernel_rfl, rk hF rfl, hW⟩
    exact StepsI.nil (by kernel_rfl)
   ·rintro L zA v9 ⟨zB, zS, rfl, rfl, hF, hW⟩ hr
    have hu := all_up (by kernel_rfl) (N := 18) (by kernel_rfl) hr
    have hb0 : zB 0 = true := by simpa using hu 0 (by decide)
    have hb1 : zB 1 = true := by simpa using hu 1 (by decide)
    have hb2 : zB 2 = true := by simpa using hu 2 (by decide)
    have hb3 : zB 3 = true := by simpa using hu 3 (by decide)
    have hb4 : zB 4 = true := by simpa using hu 4 (by decide)
    have hb5 : zB 5 = true := by simpa using hu 5 (by decide)
    have hb6 : zB 6 = true := by simpa using hu 6 (by decide)
    have hb7 : zB 7 = true := by simpa using hu 7 (by decide)
    have hb8 : zB 8 = true := by simpa using hu 8 (by decide)
    have hb9 : zB 9 = true := by simpa using hu 9 (by decide)
    have hb10 : zB 10 = true := by simpa using hu 10 (by decide)
    have hb11 : zB 11 = true := by simpa using hu 11 (by decide)
    have hb12 : zB 12 = true := by simpa using hu 12 (by decide)
    have hb13 : zB 13 = true := by simpa using hu 13 (by decide)
    have hb14 : zB 14 = true := by simpa using hu 14 (by decide)
    have hb15 : zB 15 = true := by simpa using hu 15 (by decide)
    have hb16 : zB 16 = true := by simpa using hu 16 (by decide)
    have hb17 : zB 17 = true := by simpa using hu 17 (by decide)
    have e0 : zS 5 = .int .i64 k := hF 0 _ rfl hb0
    have e1 : zS 6 = .agg (sA z lv A S n G) := hF 1 _ rfl hb1
    have e2 : zS 7 = .int .i64 (k : Int) := hF 2 _ rfl hb2
    have e3 : zS 8 = .bool false := hF 3 _ rfl hb3
    have e4 : zS 9 = .bool false := hF 4 _ rfl hb4
    have e5 : zS 10 = undef := hF 5 _ rfl hb5
    have e6 : zS 11 = undef := hF 6 _ rfl hb6
    have e7 : zS 12 = undef := hF 7 _ rfl hb7
    have e8 : zS 13 = undef := hF 8 _ rfl hb8
    have e9 : zS 14 = undef := hF 9 _ rfl hb9
    have e10 : zS 15 = undef := hF 10 _ rfl hb10
    have e11 : zS 16 = undef := hF 11 _ rfl hb11
    have e12 : zS 17 = undef := hF 12 _ rfl hb12
    have e13 : zS 18 = undef := hF 13 _ rfl hb13
    have e14 : zS 19 = undef := hF 14 _ rfl hb14
    have e15 : zS 20 = undef := hF 15 _ rfl hb15
    have e16 : zS 21 = undef := hF 16 _ rfl hb16
    have e17 : zS 22 = .bool false := hF 17 _ rfl hb17
    clear hu hr hF
    simp only [pE]
    simp only [e0, e1, e2, e3, e4, e5, e6, e7, e8, e9, e10, e11, e12, e13, e14, e15, e16, e17]
    clear e0 e1 e2 e3 e4 e5 e6 e7 e8 e9 e10 e11 e12 e13 e14 e15 e16 e17
    clear hb0 hb1 hb2 hb3 hb4 hb5 hb6 hb7 hb8 hb9 hb10 hb11 hb12 hb13 hb14 hb15 hb16 hb17
    clear zB zS
    have HB2 := mkHid (below_step HB1.out hW.1)
    clear hW hX9 hR9
    go_wp2
    go_ret
    exact ⟨by rw [← HEQ.out, Nat.sub_self]; rfl, HB2.out⟩
end Go.Proofs.YtihpajiololfoaaGreat
