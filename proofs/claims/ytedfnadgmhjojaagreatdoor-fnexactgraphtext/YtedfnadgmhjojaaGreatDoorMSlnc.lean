/-
  CONTRACTS of the specification's l02Lines: for and if.
  CONTRACTS of the specification's l02Lines: arrays, blocks, programs; all together.
-/
import Derived.Test.YtedfnadgmhjojaaGreatDoorMSln
namespace Go.Proofs.YtedfnadgmhjojaaGreatDoor
open Go.RowKit
open Pl

set_option maxRecDepth 100000 in
set_option maxHeartbeats 8000000 in
theorem sLn_for (s : ByteArray) (x : T) (y : T) (z : T) (Ix : SEx x) (Iy : SEx y) (Iz : SLn z) (hx : Good1 x) (hy : Good1 y) (hz : GoodB z) : SLn (.node 26 s 0 [x, y, z]) := by
 intro pad a c w hg hc hp hk
 have hs : s.size ≤ 8 := name_len8 hg
 have hcx : cnt x + cnt y + cnt z ≤ 499 := by simp only [cnt, cnts] at hc; omega
 have hdx : pad.size + 2 + 2 * dep x ≤ 1000 ∧ pad.size + 2 + 2 * dep y ≤ 1000 ∧ pad.size + 2 + 2 * dep z ≤ 1000 := by simp only [dep, deps] at hp; omega
 have hpd : pad.size ≤ 1000 := by omega
 rw [show lnS (.node 26 s 0 [x, y, z]) pad = pad ++ ⟨#[102, 111, 114, 32]⟩ ++ s ++ ⟨#[32, 102, 114, 111, 109, 32]⟩ ++ exS x ++ ⟨#[32, 116, 111, 32]⟩ ++ exS y ++ ⟨#[32, 123, 10]⟩ ++ lnS z (pad ++ ⟨#[32, 32]⟩) ++ pad ++ ⟨#[125, 10]⟩ from by rw [lnS_eq]; rw [exSs3, lnSs3]; rfl]
 rcases hk with h0 | ⟨b, o, rfl, _, hll⟩
 ·cases h0
 have hAx := exS_size _ hx.good
 have hAy := exS_size _ hy.good
 have hAz := ln_size z (.inr (.inl hz)) (pad ++ ⟨#[32, 32]⟩) (by rw [ByteArray.size_append]; show pad.size + 2 + _ ≤ 1000; omega)
 obtain ⟨xk, xs, xm, xkk⟩ := x
 obtain ⟨xa, xc, xc0, xc1, xc2, xc3, _, _, xkids⟩ := hll.at (i := 0) (show _ = some (T.node xk xs xm xkk) from rfl)
 simp only [Nat.zero_mul, Nat.add_zero] at xc0 xc1 xc2 xc3
 have Hx := mkHid (fun W (hW : Below w.heap.size w W) => Ix xa xc W hx.good (by omega) (xkids.below hW))
 have hAx' : (exS (.node xk xs xm xkk)).size ≤ 2000000000 := by omega
 generalize exS (.node xk xs xm xkk) = Ax at Hx hAx' ⊢
 obtain ⟨yk, ys, ym, ykk⟩ := y
 obtain ⟨ya, yc, yc0, yc1, yc2, yc3, _, _, ykids⟩ := hll.at (i := 1) (show _ = some (T.node yk ys ym ykk) from rfl)
 simp only [Nat.one_mul] at yc0 yc1 yc2 yc3
 have Hy := mkHid (fun W (hW : Below w.heap.size w W) => Iy ya yc W hy.good (by omega) (ykids.below hW))
 have hAy' : (exS (.node yk ys ym ykk)).size ≤ 2000000000 := by omega
 generalize exS (.node yk ys ym ykk) = Ay at Hy hAy' ⊢
 obtain ⟨zk, zs, zm, zkk⟩ := z
 obtain ⟨za, zc, zc0, zc1, zc2, zc3, _, _, zkids⟩ := hll.at (i := 2) (show _ = some (T.node zk zs zm zkk) from rfl)
 simp only [Nat.reduceMul] at zc0 zc1 zc2 zc3
 have Hz := mkHid (fun W (hW : Below w.heap.size w W) => Iz (pad ++ ⟨#[32, 32]⟩) za zc W (.inr (.inl hz)) (by omega) (by rw [ByteArray.size_append]; show pad.size + 2 + _ ≤ 1000; omega) (zkids.below hW))
 have hAz' : (lnS (.node zk zs zm zkk) (pad ++ ⟨#[32, 32]⟩)).size ≤ 2000000000 := by omega
 generalize lnS (.node zk zs zm zkk) (pad ++ ⟨#[32, 32]⟩) = Az at Hz hAz' ⊢
 clear hll xkids Ix ykids Iy zkids Iz
 clear hx hAx hy hAy hz hAz hcx hdx
 clear hg hc hp
 have kk0 : ¬ 9223372036854775807 < pad.size + 2 := by omega
 have z1 : (pad ++ (ByteArray.mk #[102, 111, 114, 32])).size = pad.size + 4 := by rw [ByteArray.size_append]; rfl
 have k1 : ¬ 9223372036854775807 < pad.size + 4 := by omega
 have z2 : (pad ++ (ByteArray.mk #[102, 111, 114, 32]) ++ s).size = pad.size + 4 + s.size := by rw [ByteArray.size_append, z1]
 have k2 : ¬ 9223372036854775807 < pad.size + 4 + s.size := by omega
 have z3 : (pad ++ (ByteArray.mk #[102, 111, 114, 32]) ++ s ++ (ByteArray.mk #[32, 102, 114, 111, 109, 32])).size = pad.size + 4 + s.size + 6 := by rw [ByteArray.size_append, z2]; rfl
 have k3 : ¬ 9223372036854775807 < pad.size + 4 + s.size + 6 := by omega
 have z4 : (pad ++ (ByteArray.mk #[102, 111, 114, 32]) ++ s ++ (ByteArray.mk #[32, 102, 114, 111, 109, 32]) ++ Ax).size = pad.size + 4 + s.size + 6 + Ax.size := by rw [ByteArray.size_append, z3]
 have k4 : ¬ 9223372036854775807 < pad.size + 4 + s.size + 6 + Ax.size := by omega
 have z5 : (pad ++ (ByteArray.mk #[102, 111, 114, 32]) ++ s ++ (ByteArray.mk #[32, 102, 114, 111, 109, 32]) ++ Ax ++ (ByteArray.mk #[32, 116, 111, 32])).size = pad.size + 4 + s.size + 6 + Ax.size + 4 := by rw [ByteArray.size_append, z4]; rfl
 have k5 : ¬ 9223372036854775807 < pad.size + 4 + s.size + 6 + Ax.size + 4 := by omega
 have z6 : (pad ++ (ByteArray.mk #[102, 111, 114, 32]) ++ s ++ (ByteArray.mk #[32, 102, 114, 111, 109, 32]) ++ Ax ++ (ByteArray.mk #[32, 116, 111, 32]) ++ Ay).size = pad.size + 4 + s.size + 6 + Ax.size + 4 + Ay.size := by rw [ByteArray.size_append, z5]
 have k6 : ¬ 9223372036854775807 < pad.size + 4 + s.size + 6 + Ax.size + 4 + Ay.size := by omega
 have z7 : (pad ++ (ByteArray.mk #[102, 111, 114, 32]) ++ s ++ (ByteArray.mk #[32, 102, 114, 111, 109, 32]) ++ Ax ++ (ByteArray.mk #[32, 116, 111, 32]) ++ Ay ++ (ByteArray.mk #[32, 123, 10])).size = pad.size + 4 + s.size + 6 + Ax.size + 4 + Ay.size + 3 := by rw [ByteArray.size_append, z6]; rfl
 have k7 : ¬ 9223372036854775807 < pad.size + 4 + s.size + 6 + Ax.size + 4 + Ay.size + 3 := by omega
 have z8 : (pad ++ (ByteArray.mk #[102, 111, 114, 32]) ++ s ++ (ByteArray.mk #[32, 102, 114, 111, 109, 32]) ++ Ax ++ (ByteArray.mk #[32, 116, 111, 32]) ++ Ay ++ (ByteArray.mk #[32, 123, 10]) ++ Az).size = pad.size + 4 + s.size + 6 + Ax.size + 4 + Ay.size + 3 + Az.size := by rw [ByteArray.size_append, z7]
 have k8 : ¬ 9223372036854775807 < pad.size + 4 + s.size + 6 + Ax.size + 4 + Ay.size + 3 + Az.size := by omega
 have z9 : (pad ++ (ByteArray.mk #[102, 111, 114, 32]) ++ s ++ (ByteArray.mk #[32, 102, 114, 111, 109, 32]) ++ Ax ++ (ByteArray.mk #[32, 116, 111, 32]) ++ Ay ++ (ByteArray.mk #[32, 123, 10]) ++ Az ++ pad).size = pad.size + 4 + s.size + 6 + Ax.size + 4 + Ay.size + 3 + Az.size + pad.size := by rw [ByteArray.size_append, z8]
 have k9 : ¬ 9223372036854775807 < pad.size + 4 + s.size + 6 + Ax.size + 4 + Ay.size + 3 + Az.size + pad.size := by omega
 have k10 : ¬ 9223372036854775807 < pad.size + 4 + s.size + 6 + Ax.size + 4 + Ay.size + 3 + Az.size + pad.size + 2 := by omega
 have B0 := mkHid ((Below.refl w.heap.size w).alloc (Nat.le_refl _) (.cells #[.int .i64 26, .string s, .int .i64 0, .slice (some ⟨b, o, none⟩) 3 c] 38))
 have F0 := mkHid (Four.new w 26 s 0 (some ⟨b, o, none⟩) 3 c 38)
 have hbw := World.block_lt_of_cell? w _ xc0
 have A0 := B0.out
 have nd : ∀ q, (w.alloc (.cells #[.int .i64 26, .string s, .int .i64 0, .slice (some ⟨b, o, none⟩) 3 c] 38)).cell? ⟨b, q, none⟩ = w.cell? ⟨b, q, none⟩ := fun q => A0.cell (p := ⟨b, q, none⟩) hbw
 obtain ⟨p0, p1, p2, p3⟩ := F0.out
 have xq0 := (nd _).trans xc0
 have xq1 := (nd _).trans xc1
 have xq2 := (nd _).trans xc2
 have xq3 := (nd _).trans xc3
 have yq0 := (nd _).trans yc0
 have yq1 := (nd _).trans yc1
 have yq2 := (nd _).trans yc2
 have yq3 := (nd _).trans yc3
 have zq0 := (nd _).trans zc0
 have zq1 := (nd _).trans zc1
 have zq2 := (nd _).trans zc2
 have zq3 := (nd _).trans zc3
 clear nd A0 hbw xc0 xc1 xc2 xc3 yc0 yc1 yc2 yc3 zc0 zc1 zc2 zc3
 show Calls Tryz.prog 30 #[.agg #[.int .i64 26, .string s, .int .i64 0, .slice (some ⟨b, o, none⟩) 3 c], .string pad] w _
 go_enter Tryz.func30, Tryz.ntmps30
 go_wp2_with fail
 generalize w.alloc (.cells #[.int .i64 26, .string s, .int .i64 0, .slice (some ⟨b, o, none⟩) 3 c] 38) = w1 at *
 have l1 : w.heap.size < w1.heap.size := World.block_lt_of_cell? w1 _ p0
 have l2 : b < w1.heap.size := World.block_lt_of_cell? w1 _ xq0
 go_region_held3 (fun w' => w'.cell? ⟨w.heap.size, 0, none⟩ = some (.int .i64 26) ∧ w'.cell? ⟨w.heap.size, 1, none⟩ = some (.string s) ∧ w'.cell? ⟨w.heap.size, 2, none⟩ = some (.int .i64 0) ∧ w'.cell? ⟨w.heap.size, 3, none⟩ = some (.slice (some ⟨b, o, none⟩) 3 c) ∧ w'.cell? ⟨b, o, none⟩ = some (.int .i64 xk) ∧ w'.cell? ⟨b, o + 1, none⟩ = some (.string xs) ∧ w'.cell? ⟨b, o + 2, none⟩ = some (.int .i64 xm) ∧ w'.cell? ⟨b, o + 3, none⟩ = some (.slice xa xkk.length xc) ∧ w'.cell? ⟨b, o + 4, none⟩ = some (.int .i64 yk) ∧ w'.cell? ⟨b, o + 4 + 1, none⟩ = some (.string ys) ∧ w'.cell? ⟨b, o + 4 + 2, none⟩ = some (.int .i64 ym) ∧ w'.cell? ⟨b, o + 4 + 3, none⟩ = some (.slice ya ykk.length yc) ∧ w'.cell? ⟨b, o + 8, none⟩ = some (.int .i64 zk) ∧ w'.cell? ⟨b, o + 8 + 1, none⟩ = some (.string zs) ∧ w'.cell? ⟨b, o + 8 + 2, none⟩ = some (.int .i64 zm) ∧ w'.cell? ⟨b, o + 8 + 3, none⟩ = some (.slice za zkk.length zc)) (first | exact ⟨p0, p1, p2, p3, xq0, xq1, xq2, xq3, yq0, yq1, yq2, yq3, zq0, zq1, zq2, zq3⟩ | exact ⟨(hc _ _ l1).trans p0, (hc _ _ l1).trans p1, (hc _ _ l1).trans p2, (hc _ _ l1).trans p3, (hc _ _ l2).trans xq0, (hc _ _ l2).trans xq1, (hc _ _ l2).trans xq2, (hc _ _ l2).trans xq3, (hc _ _ l2).trans yq0, (hc _ _ l2).trans yq1, (hc _ _ l2).trans yq2, (hc _ _ l2).trans yq3, (hc _ _ l2).trans zq0, (hc _ _ l2).trans zq1, (hc _ _ l2).trans zq2, (hc _ _ l2).trans zq3⟩) (first | (go_at_call_of 43 (Value.agg #[.int .i64 xk, .string xs, .int .i64 xm, .slice xa xkk.length xc]); refine (Hx.out _ (B0.out.drew)).mono ?_; rintro e w2 ⟨rfl, hb2⟩; obtain ⟨hc, hf⟩ := bcell hb2) | (go_at_call_of 43 (Value.agg #[.int .i64 yk, .string ys, .int .i64 ym, .slice ya ykk.length yc]); refine (Hy.out _ (below_step (B0.out.drew) hb2)).mono ?_; rintro e w3 ⟨rfl, hb3⟩; obtain ⟨hc', hf'⟩ := bcell hb3; have hc := fun (b o : Nat) (h : b < w1.drew.heap.size) => (hc' b o (Nat.lt_of_lt_of_le (h) hb2.size)).trans (hc b o h)) | (go_at_call 30; refine (Hz.out _ (below_step (below_step (B0.out.drew) hb2) hb3)).mono ?_; rintro e w4 ⟨rfl, hb4⟩; obtain ⟨hc'', hf''⟩ := bcell hb4; have hc := fun (b o : Nat) (h : b < w1.drew.heap.size) => (hc'' b o (Nat.lt_of_lt_of_le (Nat.lt_of_lt_of_le (h) hb2.size) hb3.size)).trans (hc b o h)))
 have B2 := mkHid (below_step (below_step (below_step (B0.out.drew) hb2) hb3) hb4)
 clear hb2 hb3 hb4 hc hf hc' hf' hc'' hf''
 go_wp2
 go_ret
 exact ⟨ret_str rfl, B2.out⟩
set_option maxRecDepth 100000 in
set_option maxHeartbeats 8000000 in
theorem sLn_if (s : ByteArray) (x : T) (y : T) (z : T) (Ix : SEx x) (Iy : SLn y) (Iz : SLn z) (hx : GoodC x) (hy : GoodB y) (hz' : GoodB z) (hz : kidsEmpty z = true) : SLn (.node 24 s 0 [x, y, z]) := by
 intro pad a c w hg hc hp hk
 have hs : s.size ≤ 8 := name_len8 hg
 have hcx : cnt x + cnt y + cnt z ≤ 499 := by simp only [cnt, cnts] at hc; omega
 have hdx : pad.size + 2 + 2 * dep x ≤ 1000 ∧ pad.size + 2 + 2 * dep y ≤ 1000 ∧ pad.size + 2 + 2 * dep z ≤ 1000 := by simp only [dep, deps] at hp; omega
 have hpd : pad.size ≤ 1000 := by omega
 rw [show lnS (.node 24 s 0 [x, y, z]) pad = pad ++ ⟨#[105, 102, 32]⟩ ++ exS x ++ ⟨#[32, 123, 10]⟩ ++ lnS y (pad ++ ⟨#[32, 32]⟩) ++ pad ++ ⟨#[125, 10]⟩ from by rw [lnS_eq]; rw [exSs3, lnSs3]; rw [show ((([x, y, z] : List T)[2]?).map kidsEmpty).getD true = true from hz]; rfl]
 rcases hk with h0 | ⟨b, o, rfl, _, hll⟩
 ·cases h0
 have hAx := exS_size _ hx.good
 have hAy := ln_size y (.inr (.inl hy)) (pad ++ ⟨#[32, 32]⟩) (by rw [ByteArray.size_append]; show pad.size + 2 + _ ≤ 1000; omega)
 have hAz := ln_size z (.inr (.inl hz')) (pad ++ ⟨#[32, 32]⟩) (by rw [ByteArray.size_append]; show pad.size + 2 + _ ≤ 1000; omega)
 obtain ⟨xk, xs, xm, xkk⟩ := x
 obtain ⟨xa, xc, xc0, xc1, xc2, xc3, _, _, xkids⟩ := hll.at (i := 0) (show _ = some (T.node xk xs xm xkk) from rfl)
 simp only [Nat.zero_mul, Nat.add_zero] at xc0 xc1 xc2 xc3
 have Hx := mkHid (fun W (hW : Below w.heap.size w W) => Ix xa xc W hx.good (by omega) (xkids.below hW))
 have hAx' : (exS (.node xk xs xm xkk)).size ≤ 2000000000 := by omega
 generalize exS (.node xk xs xm xkk) = Ax at Hx hAx' ⊢
 obtain ⟨yk, ys, ym, ykk⟩ := y
 obtain ⟨ya, yc, yc0, yc1, yc2, yc3, _, _, ykids⟩ := hll.at (i := 1) (show _ = some (T.node yk ys ym ykk) from rfl)
 simp only [Nat.one_mul] at yc0 yc1 yc2 yc3
 have Hy := mkHid (fun W (hW : Below w.heap.size w W) => Iy (pad ++ ⟨#[32, 32]⟩) ya yc W (.inr (.inl hy)) (by omega) (by rw [ByteArray.size_append]; show pad.size + 2 + _ ≤ 1000; omega) (ykids.below hW))
 have hAy' : (lnS (.node yk ys ym ykk) (pad ++ ⟨#[32, 32]⟩)).size ≤ 2000000000 := by omega
 generalize lnS (.node yk ys ym ykk) (pad ++ ⟨#[32, 32]⟩) = Ay at Hy hAy' ⊢
 obtain ⟨zk, zs, zm, zkk⟩ := z
 obtain ⟨za, zc, zc0, zc1, zc2, zc3, _, _, zkids⟩ := hll.at (i := 2) (show _ = some (T.node zk zs zm zkk) from rfl)
 simp only [Nat.reduceMul] at zc0 zc1 zc2 zc3
 have Hz := mkHid (fun W (hW : Below w.heap.size w W) => Iz (pad ++ ⟨#[32, 32]⟩) za zc W (.inr (.inl hz')) (by omega) (by rw [ByteArray.size_append]; show pad.size + 2 + _ ≤ 1000; omega) (zkids.below hW))
 have hAz' : (lnS (.node zk zs zm zkk) (pad ++ ⟨#[32, 32]⟩)).size ≤ 2000000000 := by omega
 generalize lnS (.node zk zs zm zkk) (pad ++ ⟨#[32, 32]⟩) = Az at Hz hAz' ⊢
 clear hll xkids Ix ykids Iy zkids Iz
 clear hx hAx hy hAy hz' hAz hcx hdx
 clear hg hc hp
 have kk0 : ¬ 9223372036854775807 < pad.size + 2 := by omega
 have z1 : (pad ++ (ByteArray.mk #[105, 102, 32])).size = pad.size + 3 := by rw [ByteArray.size_append]; rfl
 have k1 : ¬ 9223372036854775807 < pad.size + 3 := by omega
 have z2 : (pad ++ (ByteArray.mk #[105, 102, 32]) ++ Ax).size = pad.size + 3 + Ax.size := by rw [ByteArray.size_append, z1]
 have k2 : ¬ 9223372036854775807 < pad.size + 3 + Ax.size := by omega
 have z3 : (pad ++ (ByteArray.mk #[105, 102, 32]) ++ Ax ++ (ByteArray.mk #[32, 123, 10])).size = pad.size + 3 + Ax.size + 3 := by rw [ByteArray.size_append, z2]; rfl
 have k3 : ¬ 9223372036854775807 < pad.size + 3 + Ax.size + 3 := by omega
 have z4 : (pad ++ (ByteArray.mk #[105, 102, 32]) ++ Ax ++ (ByteArray.mk #[32, 123, 10]) ++ Ay).size = pad.size + 3 + Ax.size + 3 + Ay.size := by rw [ByteArray.size_append, z3]
 have k4 : ¬ 9223372036854775807 < pad.size + 3 + Ax.size + 3 + Ay.size := by omega
 have z5 : (pad ++ (ByteArray.mk #[105, 102, 32]) ++ Ax ++ (ByteArray.mk #[32, 123, 10]) ++ Ay ++ pad).size = pad.size + 3 + Ax.size + 3 + Ay.size + pad.size := by rw [ByteArray.size_append, z4]
 have k5 : ¬ 9223372036854775807 < pad.size + 3 + Ax.size + 3 + Ay.size + pad.size := by omega
 have k6 : ¬ 9223372036854775807 < pad.size + 3 + Ax.size + 3 + Ay.size + pad.size + 2 := by omega
 have B0 := mkHid ((Below.refl w.heap.size w).alloc (Nat.le_refl _) (.cells #[.int .i64 24, .string s, .int .i64 0, .slice (some ⟨b, o, none⟩) 3 c] 38))
 have F0 := mkHid (Four.new w 24 s 0 (some ⟨b, o, none⟩) 3 c 38)
 have hbw := World.block_lt_of_cell? w _ xc0
 have A0 := B0.out
 have nd : ∀ q, (w.alloc (.cells #[.int .i64 24, .string s, .int .i64 0, .slice (some ⟨b, o, none⟩) 3 c] 38)).cell? ⟨b, q, none⟩ = w.cell? ⟨b, q, none⟩ := fun q => A0.cell (p := ⟨b, q, none⟩) hbw
 obtain ⟨p0, p1, p2, p3⟩ := F0.out
 have xq0 := (nd _).trans xc0
 have xq1 := (nd _).trans xc1
 have xq2 := (nd _).trans xc2
 have xq3 := (nd _).trans xc3
 have yq0 := (nd _).trans yc0
 have yq1 := (nd _).trans yc1
 have yq2 := (nd _).trans yc2
 have yq3 := (nd _).trans yc3
 have zq0 := (nd _).trans zc0
 have zq1 := (nd _).trans zc1
 have zq2 := (nd _).trans zc2
 have zq3 := (nd _).trans zc3
 clear nd A0 hbw xc0 xc1 xc2 xc3 yc0 yc1 yc2 yc3 zc0 zc1 zc2 zc3
 show Calls Tryz.prog 30 #[.agg #[.int .i64 24, .string s, .int .i64 0, .slice (some ⟨b, o, none⟩) 3 c], .string pad] w _
 go_enter Tryz.func30, Tryz.ntmps30
 go_wp2_with fail
 generalize w.alloc (.cells #[.int .i64 24, .string s, .int .i64 0, .slice (some ⟨b, o, none⟩) 3 c] 38) = w1 at *
 have l1 : w.heap.size < w1.heap.size := World.block_lt_of_cell? w1 _ p0
 have l2 : b < w1.heap.size := World.block_lt_of_cell? w1 _ xq0
 go_region_held3 (fun w' => w'.cell? ⟨w.heap.size, 0, none⟩ = some (.int .i64 24) ∧ w'.cell? ⟨w.heap.size, 1, none⟩ = some (.string s) ∧ w'.cell? ⟨w.heap.size, 2, none⟩ = some (.int .i64 0) ∧ w'.cell? ⟨w.heap.size, 3, none⟩ = some (.slice (some ⟨b, o, none⟩) 3 c) ∧ w'.cell? ⟨b, o, none⟩ = some (.int .i64 xk) ∧ w'.cell? ⟨b, o + 1, none⟩ = some (.string xs) ∧ w'.cell? ⟨b, o + 2, none⟩ = some (.int .i64 xm) ∧ w'.cell? ⟨b, o + 3, none⟩ = some (.slice xa xkk.length xc) ∧ w'.cell? ⟨b, o + 4, none⟩ = some (.int .i64 yk) ∧ w'.cell? ⟨b, o + 4 + 1, none⟩ = some (.string ys) ∧ w'.cell? ⟨b, o + 4 + 2, none⟩ = some (.int .i64 ym) ∧ w'.cell? ⟨b, o + 4 + 3, none⟩ = some (.slice ya ykk.length yc) ∧ w'.cell? ⟨b, o + 8, none⟩ = some (.int .i64 zk) ∧ w'.cell? ⟨b, o + 8 + 1, none⟩ = some (.string zs) ∧ w'.cell? ⟨b, o + 8 + 2, none⟩ = some (.int .i64 zm) ∧ w'.cell? ⟨b, o + 8 + 3, none⟩ = some (.slice za zkk.length zc)) (first | exact ⟨p0, p1, p2, p3, xq0, xq1, xq2, xq3, yq0, yq1, yq2, yq3, zq0, zq1, zq2, zq3⟩ | exact ⟨(hc _ _ l1).trans p0, (hc _ _ l1).trans p1, (hc _ _ l1).trans p2, (hc _ _ l1).trans p3, (hc _ _ l2).trans xq0, (hc _ _ l2).trans xq1, (hc _ _ l2).trans xq2, (hc _ _ l2).trans xq3, (hc _ _ l2).trans yq0, (hc _ _ l2).trans yq1, (hc _ _ l2).trans yq2, (hc _ _ l2).trans yq3, (hc _ _ l2).trans zq0, (hc _ _ l2).trans zq1, (hc _ _ l2).trans zq2, (hc _ _ l2).trans zq3⟩) (first | (go_at_call 43; refine (Hx.out _ (B0.out.drew)).mono ?_; rintro e w2 ⟨rfl, hb2⟩; obtain ⟨hc, hf⟩ := bcell hb2) | (go_at_call 30; refine (Hy.out _ (below_step (B0.out.drew) hb2)).mono ?_; rintro e w3 ⟨rfl, hb3⟩; obtain ⟨hc', hf'⟩ := bcell hb3; have hc := fun (b o : Nat) (h : b < w1.drew.heap.size) => (hc' b o (Nat.lt_of_lt_of_le (h) hb2.size)).trans (hc b o h)))
 have B2 := mkHid (below_step (below_step (B0.out.drew) hb2) hb3)
 have c3 := (hc _ _ l1).trans p3
 have d0 := (hc _ _ l2).trans zq0
 have d1 := (hc _ _ l2).trans zq1
 have d2 := (hc _ _ l2).trans zq2
 have d3 := (hc _ _ l2).trans zq3
 clear hb2 hb3 hc hf hc' hf'
 have hz0 : zkk.length = 0 := by simpa [kidsEmpty, List.isEmpty_iff] using hz
 have hzz : ¬ 0 < zkk.length := by omega
 clear hz hz0
 go_wp2
 go_ret
 exact ⟨ret_str rfl, B2.out⟩
set_option maxRecDepth 100000 in
set_option maxHeartbeats 8000000 in
theorem sLn_ife (s : ByteArray) (x : T) (y : T) (z : T) (Ix : SEx x) (Iy : SLn y) (Iz : SLn z) (hx : GoodC x) (hy : GoodB y) (hz' : GoodB z) (hz : kidsEmpty z = false) : SLn (.node 24 s 0 [x, y, z]) := by
 intro pad a c w hg hc hp hk
 have hs : s.size ≤ 8 := name_len8 hg
 have hcx : cnt x + cnt y + cnt z ≤ 499 := by simp only [cnt, cnts] at hc; omega
 have hdx : pad.size + 2 + 2 * dep x ≤ 1000 ∧ pad.size + 2 + 2 * dep y ≤ 1000 ∧ pad.size + 2 + 2 * dep z ≤ 1000 := by simp only [dep, deps] at hp; omega
 have hpd : pad.size ≤ 1000 := by omega
 rw [show lnS (.node 24 s 0 [x, y, z]) pad = pad ++ ⟨#[105, 102, 32]⟩ ++ exS x ++ ⟨#[32, 123, 10]⟩ ++ lnS y (pad ++ ⟨#[32, 32]⟩) ++ pad ++ ⟨#[125, 32, 101, 108, 115, 101, 32, 123, 10]⟩ ++ lnS z (pad ++ ⟨#[32, 32]⟩) ++ pad ++ ⟨#[125, 10]⟩ from by rw [lnS_eq]; rw [exSs3, lnSs3]; rw [show ((([x, y, z] : List T)[2]?).map kidsEmpty).getD true = false from hz]; rfl]
 rcases hk with h0 | ⟨b, o, rfl, _, hll⟩
 ·cases h0
 have hAx := exS_size _ hx.good
 have hAy := ln_size y (.inr (.inl hy)) (pad ++ ⟨#[32, 32]⟩) (by rw [ByteArray.size_append]; show pad.size + 2 + _ ≤ 1000; omega)
 have hAz := ln_size z (.inr (.inl hz')) (pad ++ ⟨#[32, 32]⟩) (by rw [ByteArray.size_append]; show pad.size + 2 + _ ≤ 1000; omega)
 obtain ⟨xk, xs, xm, xkk⟩ := x
 obtain ⟨xa, xc, xc0, xc1, xc2, xc3, _, _, xkids⟩ := hll.at (i := 0) (show _ = some (T.node xk xs xm xkk) from rfl)
 simp only [Nat.zero_mul, Nat.add_zero] at xc0 xc1 xc2 xc3
 have Hx := mkHid (fun W (hW : Below w.heap.size w W) => Ix xa xc W hx.good (by omega) (xkids.below hW))
 have hAx' : (exS (.node xk xs xm xkk)).size ≤ 2000000000 := by omega
 generalize exS (.node xk xs xm xkk) = Ax at Hx hAx' ⊢
 obtain ⟨yk, ys, ym, ykk⟩ := y
 obtain ⟨ya, yc, yc0, yc1, yc2, yc3, _, _, ykids⟩ := hll.at (i := 1) (show _ = some (T.node yk ys ym ykk) from rfl)
 simp only [Nat.one_mul] at yc0 yc1 yc2 yc3
 have Hy := mkHid (fun W (hW : Below w.heap.size w W) => Iy (pad ++ ⟨#[32, 32]⟩) ya yc W (.inr (.inl hy)) (by omega) (by rw [ByteArray.size_append]; show pad.size + 2 + _ ≤ 1000; omega) (ykids.below hW))
 have hAy' : (lnS (.node yk ys ym ykk) (pad ++ ⟨#[32, 32]⟩)).size ≤ 2000000000 := by omega
 generalize lnS (.node yk ys ym ykk) (pad ++ ⟨#[32, 32]⟩) = Ay at Hy hAy' ⊢
 obtain ⟨zk, zs, zm, zkk⟩ := z
 obtain ⟨za, zc, zc0, zc1, zc2, zc3, _, _, zkids⟩ := hll.at (i := 2) (show _ = some (T.node zk zs zm zkk) from rfl)
 simp only [Nat.reduceMul] at zc0 zc1 zc2 zc3
 have Hz := mkHid (fun W (hW : Below w.heap.size w W) => Iz (pad ++ ⟨#[32, 32]⟩) za zc W (.inr (.inl hz')) (by omega) (by rw [ByteArray.size_append]; show pad.size + 2 + _ ≤ 1000; omega) (zkids.below hW))
 have hAz' : (lnS (.node zk zs zm zkk) (pad ++ ⟨#[32, 32]⟩)).size ≤ 2000000000 := by omega
 generalize lnS (.node zk zs zm zkk) (pad ++ ⟨#[32, 32]⟩) = Az at Hz hAz' ⊢
 clear hll xkids Ix ykids Iy zkids Iz
 clear hx hAx hy hAy hz' hAz hcx hdx
 clear hg hc hp
 have kk0 : ¬ 9223372036854775807 < pad.size + 2 := by omega
 have z1 : (pad ++ (ByteArray.mk #[105, 102, 32])).size = pad.size + 3 := by rw [ByteArray.size_append]; rfl
 have k1 : ¬ 9223372036854775807 < pad.size + 3 := by omega
 have z2 : (pad ++ (ByteArray.mk #[105, 102, 32]) ++ Ax).size = pad.size + 3 + Ax.size := by rw [ByteArray.size_append, z1]
 have k2 : ¬ 9223372036854775807 < pad.size + 3 + Ax.size := by omega
 have z3 : (pad ++ (ByteArray.mk #[105, 102, 32]) ++ Ax ++ (ByteArray.mk #[32, 123, 10])).size = pad.size + 3 + Ax.size + 3 := by rw [ByteArray.size_append, z2]; rfl
 have k3 : ¬ 9223372036854775807 < pad.size + 3 + Ax.size + 3 := by omega
 have z4 : (pad ++ (ByteArray.mk #[105, 102, 32]) ++ Ax ++ (ByteArray.mk #[32, 123, 10]) ++ Ay).size = pad.size + 3 + Ax.size + 3 + Ay.size := by rw [ByteArray.size_append, z3]
 have k4 : ¬ 9223372036854775807 < pad.size + 3 + Ax.size + 3 + Ay.size := by omega
 have z5 : (pad ++ (ByteArray.mk #[105, 102, 32]) ++ Ax ++ (ByteArray.mk #[32, 123, 10]) ++ Ay ++ pad).size = pad.size + 3 + Ax.size + 3 + Ay.size + pad.size := by rw [ByteArray.size_append, z4]
 have k5 : ¬ 9223372036854775807 < pad.size + 3 + Ax.size + 3 + Ay.size + pad.size := by omega
 have z6 : (pad ++ (ByteArray.mk #[105, 102, 32]) ++ Ax ++ (ByteArray.mk #[32, 123, 10]) ++ Ay ++ pad ++ (ByteArray.mk #[125, 32, 101, 108, 115, 101, 32, 123, 10])).size = pad.size + 3 + Ax.size + 3 + Ay.size + pad.size + 9 := by rw [ByteArray.size_append, z5]; rfl
 have k6 : ¬ 9223372036854775807 < pad.size + 3 + Ax.size + 3 + Ay.size + pad.size + 9 := by omega
 have z7 : (pad ++ (ByteArray.mk #[105, 102, 32]) ++ Ax ++ (ByteArray.mk #[32, 123, 10]) ++ Ay ++ pad ++ (ByteArray.mk #[125, 32, 101, 108, 115, 101, 32, 123, 10]) ++ Az).size = pad.size + 3 + Ax.size + 3 + Ay.size + pad.size + 9 + Az.size := by rw [ByteArray.size_append, z6]
 have k7 : ¬ 9223372036854775807 < pad.size + 3 + Ax.size + 3 + Ay.size + pad.size + 9 + Az.size := by omega
 have z8 : (pad ++ (ByteArray.mk #[105, 102, 32]) ++ Ax ++ (ByteArray.mk #[32, 123, 10]) ++ Ay ++ pad ++ (ByteArray.mk #[125, 32, 101, 108, 115, 101, 32, 123, 10]) ++ Az ++ pad).size = pad.size + 3 + Ax.size + 3 + Ay.size + pad.size + 9 + Az.size + pad.size := by rw [ByteArray.size_append, z7]
 have k8 : ¬ 9223372036854775807 < pad.size + 3 + Ax.size + 3 + Ay.size + pad.size + 9 + Az.size + pad.size := by omega
 have k9 : ¬ 9223372036854775807 < pad.size + 3 + Ax.size + 3 + Ay.size + pad.size + 9 + Az.size + pad.size + 2 := by omega
 have B0 := mkHid ((Below.refl w.heap.size w).alloc (Nat.le_refl _) (.cells #[.int .i64 24, .string s, .int .i64 0, .slice (some ⟨b, o, none⟩) 3 c] 38))
 have F0 := mkHid (Four.new w 24 s 0 (some ⟨b, o, none⟩) 3 c 38)
 have hbw := World.block_lt_of_cell? w _ xc0
 have A0 := B0.out
 have nd : ∀ q, (w.alloc (.cells #[.int .i64 24, .string s, .int .i64 0, .slice (some ⟨b, o, none⟩) 3 c] 38)).cell? ⟨b, q, none⟩ = w.cell? ⟨b, q, none⟩ := fun q => A0.cell (p := ⟨b, q, none⟩) hbw
 obtain ⟨p0, p1, p2, p3⟩ := F0.out
 have xq0 := (nd _).trans xc0
 have xq1 := (nd _).trans xc1
 have xq2 := (nd _).trans xc2
 have xq3 := (nd _).trans xc3
 have yq0 := (nd _).trans yc0
 have yq1 := (nd _).trans yc1
 have yq2 := (nd _).trans yc2
 have yq3 := (nd _).trans yc3
 have zq0 := (nd _).trans zc0
 have zq1 := (nd _).trans zc1
 have zq2 := (nd _).trans zc2
 have zq3 := (nd _).trans zc3
 clear nd A0 hbw xc0 xc1 xc2 xc3 yc0 yc1 yc2 yc3 zc0 zc1 zc2 zc3
 show Calls Tryz.prog 30 #[.agg #[.int .i64 24, .string s, .int .i64 0, .slice (some ⟨b, o, none⟩) 3 c], .string pad] w _
 go_enter Tryz.func30, Tryz.ntmps30
 go_wp2_with fail
 generalize w.alloc (.cells #[.int .i64 24, .string s, .int .i64 0, .slice (some ⟨b, o, none⟩) 3 c] 38) = w1 at *
 have l1 : w.heap.size < w1.heap.size := World.block_lt_of_cell? w1 _ p0
 have l2 : b < w1.heap.size := World.block_lt_of_cell? w1 _ xq0
 go_region_held3 (fun w' => w'.cell? ⟨w.heap.size, 0, none⟩ = some (.int .i64 24) ∧ w'.cell? ⟨w.heap.size, 1, none⟩ = some (.string s) ∧ w'.cell? ⟨w.heap.size, 2, none⟩ = some (.int .i64 0) ∧ w'.cell? ⟨w.heap.size, 3, none⟩ = some (.slice (some ⟨b, o, none⟩) 3 c) ∧ w'.cell? ⟨b, o, none⟩ = some (.int .i64 xk) ∧ w'.cell? ⟨b, o + 1, none⟩ = some (.string xs) ∧ w'.cell? ⟨b, o + 2, none⟩ = some (.int .i64 xm) ∧ w'.cell? ⟨b, o + 3, none⟩ = some (.slice xa xkk.length xc) ∧ w'.cell? ⟨b, o + 4, none⟩ = some (.int .i64 yk) ∧ w'.cell? ⟨b, o + 4 + 1, none⟩ = some (.string ys) ∧ w'.cell? ⟨b, o + 4 + 2, none⟩ = some (.int .i64 ym) ∧ w'.cell? ⟨b, o + 4 + 3, none⟩ = some (.slice ya ykk.length yc) ∧ w'.cell? ⟨b, o + 8, none⟩ = some (.int .i64 zk) ∧ w'.cell? ⟨b, o + 8 + 1, none⟩ = some (.string zs) ∧ w'.cell? ⟨b, o + 8 + 2, none⟩ = some (.int .i64 zm) ∧ w'.cell? ⟨b, o + 8 + 3, none⟩ = some (.slice za zkk.length zc)) (first | exact ⟨p0, p1, p2, p3, xq0, xq1, xq2, xq3, yq0, yq1, yq2, yq3, zq0, zq1, zq2, zq3⟩ | exact ⟨(hc _ _ l1).trans p0, (hc _ _ l1).trans p1, (hc _ _ l1).trans p2, (hc _ _ l1).trans p3, (hc _ _ l2).trans xq0, (hc _ _ l2).trans xq1, (hc _ _ l2).trans xq2, (hc _ _ l2).trans xq3, (hc _ _ l2).trans yq0, (hc _ _ l2).trans yq1, (hc _ _ l2).trans yq2, (hc _ _ l2).trans yq3, (hc _ _ l2).trans zq0, (hc _ _ l2).trans zq1, (hc _ _ l2).trans zq2, (hc _ _ l2).trans zq3⟩) (first | (go_at_call 43; refine (Hx.out _ (B0.out.drew)).mono ?_; rintro e w2 ⟨rfl, hb2⟩; obtain ⟨hc, hf⟩ := bcell hb2) | (go_at_call 30; refine (Hy.out _ (below_step (B0.out.drew) hb2)).mono ?_; rintro e w3 ⟨rfl, hb3⟩; obtain ⟨hc', hf'⟩ := bcell hb3; have hc := fun (b o : Nat) (h : b < w1.drew.heap.size) => (hc' b o (Nat.lt_of_lt_of_le (h) hb2.size)).trans (hc b o h)))
 have B2 := mkHid (below_step (below_step (B0.out.drew) hb2) hb3)
 have c3 := (hc _ _ l1).trans p3
 have d0 := (hc _ _ l2).trans zq0
 have d1 := (hc _ _ l2).trans zq1
 have d2 := (hc _ _ l2).trans zq2
 have d3 := (hc _ _ l2).trans zq3
 clear hb2 hb3 hc hf hc' hf'
 have hz0 : zkk.length ≠ 0 := by intro e; have : zkk = [] := List.length_eq_zero_iff.1 e; subst this; simp [kidsEmpty] at hz
 have hzz : 0 < zkk.length := by omega
 clear hz hz0
 go_wp2_with fail
 refine (Hz.out _ B2.out).mono ?_
 rintro e w9 ⟨rfl, hb9⟩
 have B9 := mkHid (below_step B2.out hb9)
 clear hb9
 go_wp2
 go_ret
 exact ⟨ret_str rfl, B9.out⟩
end Go.Proofs.YtedfnadgmhjojaaGreatDoor
namespace Go.Proofs.YtedfnadgmhjojaaGreatDoor
open Go.RowKit
open Pl

set_option maxRecDepth 100000 in
set_option maxHeartbeats 8000000 in
theorem sLn_arr (s : ByteArray) (m : Int) (h0 : -1 ≤ m) (h1 : m ≤ 1000000) : SLn (.node 32 s m []) := by
 intro pad a c w hg hc hp hk
 have hs : s.size ≤ 8 := name_len8 hg
 have hpd : pad.size ≤ 1000 := by omega
 rw [show lnS (.node 32 s m []) pad = pad ++ ⟨#[97, 114, 114, 97, 121, 32]⟩ ++ s ++ ⟨#[91]⟩ ++ numS m ++ ⟨#[93, 59, 10]⟩ from by rw [lnS_eq]; rfl]
 have hN := num_size h1
 have HNS := mkHid (show numS m = if 0 ≤ m then dec m.toNat else ⟨#[63]⟩ from rfl)
 generalize numS m = A at hN HNS ⊢
 clear hg hc hp hk
 have kk0 : ¬ 9223372036854775807 < pad.size + 2 := by omega
 have z1 : (pad ++ (ByteArray.mk #[97, 114, 114, 97, 121, 32])).size = pad.size + 6 := by rw [ByteArray.size_append]; rfl
 have k1 : ¬ 9223372036854775807 < pad.size + 6 := by omega
 have z2 : (pad ++ (ByteArray.mk #[97, 114, 114, 97, 121, 32]) ++ s).size = pad.size + 6 + s.size := by rw [ByteArray.size_append, z1]
 have k2 : ¬ 9223372036854775807 < pad.size + 6 + s.size := by omega
 have z3 : (pad ++ (ByteArray.mk #[97, 114, 114, 97, 121, 32]) ++ s ++ (ByteArray.mk #[91])).size = pad.size + 6 + s.size + 1 := by rw [ByteArray.size_append, z2]; rfl
 have k3 : ¬ 9223372036854775807 < pad.size + 6 + s.size + 1 := by omega
 have z4 : (pad ++ (ByteArray.mk #[97, 114, 114, 97, 121, 32]) ++ s ++ (ByteArray.mk #[91]) ++ A).size = pad.size + 6 + s.size + 1 + A.size := by rw [ByteArray.size_append, z3]
 have k4 : ¬ 9223372036854775807 < pad.size + 6 + s.size + 1 + A.size := by omega
 have k5 : ¬ 9223372036854775807 < pad.size + 6 + s.size + 1 + A.size + 3 := by omega
 have B0 := mkHid ((Below.refl w.heap.size w).alloc (Nat.le_refl _) (.cells #[.int .i64 32, .string s, .int .i64 m, .slice a 0 c] 38))
 have F0 := mkHid (Four.new w 32 s m a 0 c 38)
 show Calls Tryz.prog 30 #[.agg #[.int .i64 32, .string s, .int .i64 m, .slice a 0 c], .string pad] w _
 by_cases hm : 0 ≤ m
 ·obtain ⟨n, rfl⟩ : ∃ n : Nat, m = n := ⟨m.toNat, by omega⟩
  have HA := mkHid (show A = dec n by rw [HNS.out, if_pos hm]; rfl)
  have HD := mkHid (fun W => digits_any n W (by omega))
  rw [← HA.out] at HD
  clear HNS
  go_enter Tryz.func30, Tryz.ntmps30
  go_wp2_with fail
  refine (HD.out _).mono ?_
  rintro e w2 ⟨rfl, hb2⟩
  have B2 := mkHid (below_step B0.out hb2)
  obtain ⟨p0, p1, p2, p3⟩ := F0.out.below hb2
  clear hb2 HA HD
  go_wp2
  go_ret
  exact ⟨ret_str rfl, B2.out⟩
 ·have HA := mkHid (show A = ⟨#[63]⟩ by rw [HNS.out, if_neg hm])
  have hA := HA.out
  subst hA
  clear HNS
  go_enter Tryz.func30, Tryz.ntmps30
  go_wp2
  go_ret
  exact ⟨ret_str rfl, B0.out⟩
theorem lnSs_len (kk : List T) (p : ByteArray) : (lnSs kk p).length = kk.length := by
 induction kk with
 | nil => rfl
 | cons x r ih => simp only [lnSs, List.length_cons, ih]
theorem catS_app (p q : List ByteArray) : catS (p ++ q) = catS p ++ catS q := by
 induction p with
 | nil => simp only [List.nil_append, catS]; exact ByteArray.empty_append.symm
 | cons x r ih => simp only [List.cons_append, catS, ih, ByteArray.append_assoc]
theorem lnSs_get {kk : List T} {j : Nat} {t : T} (h : kk[j]? = some t) (p : ByteArray) : (lnSs kk p)[j]? = some (lnS t p) := by
 induction kk generalizing j with
 | nil => simp at h
 | cons x r ih =>
   cases j with
   | zero => simp at h; subst h; simp [lnSs]
   | succ j => simp at h; simp only [lnSs, List.getElem?_cons_succ]; exact ih h
theorem lnSs_take (kk : List T) (p : ByteArray) (j : Nat) : (lnSs kk p).take j = lnSs (kk.take j) p := by
 induction kk generalizing j with
 | nil => simp [lnSs]
 | cons x r ih => cases j <;> simp [lnSs, ih]
theorem cat_step {kk : List T} {j : Nat} {t : T} (h : kk[j]? = some t) (p : ByteArray) : catS ((lnSs kk p).take (j + 1)) = catS ((lnSs kk p).take j) ++ lnS t p := by
 rw [List.take_add_one, lnSs_get h, catS_app]
 simp only [Option.toList_some, catS]
 rw [show (⟨#[]⟩ : ByteArray) = ByteArray.empty from rfl, ByteArray.append_empty]
set_option maxRecDepth 100000 in
set_option maxHeartbeats 8000000 in
theorem sLn_list (k : Int) (hk0 : k = 30 ∨ k = 40) (s : ByteArray) (m : Int) (kk : List T) (IH : ∀ t ∈ kk, SLn t) (hgk : ∀ t ∈ kk, GoodL t) : SLn (.node k s m kk) := by
 intro pad a c w hg hc hp hk
 have hpd : pad.size ≤ 1000 := by omega
 have hcs : cnts kk ≤ 499 := by simp only [cnt] at hc; omega
 have hln : kk.length ≤ 500 := by
  have : ∀ l : List T, l.length ≤ cnts l := fun l => by
   induction l with
   | nil => exact Nat.zero_le _
   | cons x r ih => have : 1 ≤ cnt x := by cases x; simp only [cnt]; omega
                    simp only [List.length_cons, cnts]; omega
  have := this kk
  omega
 have hdp : ∀ x ∈ kk, pad.size + 2 * dep x ≤ 1000 := fun x hx => by have := dep_mem hx; simp only [dep] at hp; omega
 have HSZ := mkHid (fun (j : Nat) => show (catS ((lnSs kk pad).take j)).size ≤ 3000000 * 500 from by
  rw [lnSs_take]
  have := cat_size (kk.take j) (pad := pad) (fun t ht => ln_size t (hgk t (List.mem_of_mem_take ht)) pad (hdp t (List.mem_of_mem_take ht)))
  have := cnts_take_le kk j
  omega)
 have HLZ := mkHid (fun (x : T) (hx : x ∈ kk) => show (lnS x pad).size ≤ 3000000 * 500 from by
  have := ln_size x (hgk x hx) pad (hdp x hx)
  have := cnt_mem hx
  omega)
 have HG := mkHid (show lnS (.node k s m kk) pad = catS ((lnSs kk pad).take kk.length) from by
  rw [List.take_of_length_le (by rw [lnSs_len]; exact Nat.le_refl _), lnS_eq]
  rcases hk0 with rfl | rfl <;> rfl)
 generalize lnS (.node k s m kk) pad = R at HG ⊢
 have HI := mkHid (fun x (hx : x ∈ kk) => IH x hx)
 have HGK := mkHid hgk
 have HDP := mkHid hdp
 have HCM := mkHid (fun (x : T) (hx : x ∈ kk) => show cnt x ≤ 500 from by have := cnt_mem hx; omega)
 have HK := mkHid hk
 have A0 := mkHid ((Below.refl w.heap.size w).alloc (Nat.le_refl _) (.cells #[.int .i64 k, .string s, .int .i64 m, .slice a kk.length c] 38))
 have F0 := mkHid (Four.new w k s m a kk.length c 38)
 have kk0 : ¬ 9223372036854775807 < pad.size + 2 := by omega
 clear hg hc hp hk IH hgk hdp hcs
 rcases hk0 with rfl | rfl
 all_goals
  go_enter Tryz.func30, Tryz.ntmps30
  go_wp2
  go_loopw [8, 9] (fun l i w' => ∃ (j : Nat) (q : ByteArray), j ≤ kk.length ∧ i = .int .i64 j ∧ l = .string q ∧ Hid (q = catS ((lnSs kk pad).take j)) ∧ Below w.heap.size w w' ∧ w'.cell? ⟨w.heap.size, 3, none⟩ = some (.slice a kk.length c)) (fun _ i _ => kk.length - (intOf i).toNat)
  case atStart => exact ⟨0, ⟨#[]⟩, Nat.zero_le _, rfl, rfl, mkHid (by simp [catS]), A0.out, by simp [go_sem]⟩
  case round =>
   obtain ⟨j, q, hj, rfl, rfl, HQ, hbel, hcell⟩ := hrel
   have HB := mkHid hbel
   clear hbel A0 F0
   by_cases hlt : j < kk.length
   ·obtain ⟨x, hx⟩ : ∃ x, kk[j]? = some x := ⟨_, List.getElem?_eq_getElem hlt⟩
    have hxm := List.mem_of_getElem? hx
    have HST := mkHid (cat_step hx pad)
    have hqs : q.size ≤ 3000000 * 500 := by rw [HQ.out]; exact HSZ.out j
    have hls := HLZ.out x hxm
    rcases HK.out with h0 | ⟨b, o, rfl, _, hl⟩
    ·rw [h0] at hx; simp at hx
    have HXX := mkHid (And.intro (HI.out x hxm) (And.intro (HGK.out x hxm) (And.intro (HCM.out x hxm) (HDP.out x hxm))))
    obtain ⟨xk, xs, xm, xkk⟩ := x
    obtain ⟨xa, xc, hc0, hc1, hc2, hc3, hs, hkn, hkids⟩ := (hl.below (Nat.zero_le _) HB.out).at hx
    have HC := mkHid (fun W (hW : Below wr.heap.size wr W) => HXX.out.1 pad xa xc W HXX.out.2.1 HXX.out.2.2.1 HXX.out.2.2.2 (hkids.below hW))
    clear hx hs hkn hkids hl hxm HXX
    have hlb : b < wr.heap.size := World.block_lt_of_cell? wr _ hc0
    have hlw : w.heap.size < wr.heap.size := World.block_lt_of_cell? wr _ hcell
    have HM := mkHid (And.intro hlb hlw)
    clear hlb hlw
    generalize lnS (.node xk xs xm xkk) pad = L at HC HST hls
    have kq : ¬ 9223372036854775807 < q.size + L.size := by omega
    go_wp2_with fail
    refine (HC.out _ (Below.refl _ _)).mono ?_
    rintro e w1 ⟨rfl, hb1⟩
    have HB1 := mkHid (HB.out.trans (hb1.mono HB.out.size))
    have hcell1 := (hb1.cell (p := ⟨w.heap.size, 3, none⟩) HM.out.2).trans hcell
    clear hb1
    go_wp2
    go_roundw
    case rel => exact ⟨j + 1, q ++ L, by omega, by go_num, rfl, mkHid (by rw [HST.out, HQ.out]), HB1.out, hcell1⟩
    case measure => simp [intOf]; omega
   ·have e : j = kk.length := by omega
    subst e
    have HR := mkHid (show R = q by rw [HG.out, HQ.out])
    go_wp2
    go_ret
    exact ⟨ret_str HR.out.symm, HB.out⟩
theorem sLn_all (t : T) : GoodL t → (∀ e, Good e → SEx e) → SLn t := by
 refine T.induct (P := fun t => GoodL t → (∀ e, Good e → SEx e) → SLn t) ?_ t
 intro k s m kk ih hg hE
 rcases hg with hg | hg | hg | hg
 ·cases stmt_shape hg with
  | set h x hk hx hn hm => subst h hk hm; exact sLn_set s x (hE x hx.good) hx
  | put h x y hk hx hy hn hm => subst h hk hm; exact sLn_put s x y (hE x hx.good) (hE y hy.good) hx hy
  | read h hk hn hm => subst h hk hm; exact sLn_read s
  | chec h c hk hc hs hm => subst h hk hm; exact sLn_chec s c (hE c hc.good) hc
  | skip h hk hs hm => subst h hk hm; exact sLn_skip s
  | stop h hk hs hm => subst h hk hm; exact sLn_stop s
  | whil h c b hk hc hb hs hm => subst h hk hm; exact sLn_while s c b (hE c hc.good) (ih b (by simp) (.inr (.inl hb)) hE) hc hb
  | fors h x y b hk hx hy hb hn hm => subst h hk hm; exact sLn_for s x y b (hE x hx.good) (hE y hy.good) (ih b (by simp) (.inr (.inl hb)) hE) hx hy hb
  | ifs h c b d hk hc hb hd hs hm =>
    subst h hk hm
    cases hz : kidsEmpty d with
    | true => exact sLn_if s c b d (hE c hc.good) (ih b (by simp) (.inr (.inl hb)) hE) (ih d (by simp) (.inr (.inl hd)) hE) hc hb hd hz
    | false => exact sLn_ife s c b d (hE c hc.good) (ih b (by simp) (.inr (.inl hb)) hE) (ih d (by simp) (.inr (.inl hd)) hE) hc hb hd hz
 ·obtain ⟨h1, h2⟩ := hg
  have h2' : k = 30 := h2
  subst h2'
  obtain ⟨_, _, r3⟩ := block_shape h1
  exact sLn_list 30 (.inl rfl) s m kk (fun t ht => ih t ht (.inl (r3 t ht)) hE) (fun t ht => .inl (r3 t ht))
 ·cases decl_shape hg with
  | var h hk hn hm => subst h hk hm; exact sLn_var s
  | arr h hk hn h0 h1 => subst h hk; exact sLn_arr s m h0 h1
 ·obtain ⟨h1, h2⟩ := hg
  have h2' : k = 40 := h2
  subst h2'
  obtain ⟨_, _, ds, ss, r3, g1, g2⟩ := prog_shape h1
  have hgk : ∀ t ∈ kk, GoodL t := fun t ht => by
   rw [r3] at ht
   rcases List.mem_append.1 ht with q | q
   ·exact .inr (.inr (.inl (g1 t q)))
   ·rw [List.mem_singleton] at q
    subst q
    obtain ⟨_, a2⟩ := kid_of h1 (j := ds.length) (t := .node 30 nil_ 0 ss) (by rw [r3]; simp)
    exact .inr (.inl ⟨a2, rfl⟩)
  exact sLn_list 40 (.inr rfl) s m kk (fun t ht => ih t ht (hgk t ht) hE) hgk
end Go.Proofs.YtedfnadgmhjojaaGreatDoor
