/-
  CONTRACT of DrawRangeJoin: it answers two ranges.
-/
import Derived.Test.YtgkmpadeleebdaaDoorQDrz
namespace Go.Proofs.YtgkmpadeleebdaaDoor.Q
open Go.RowKit
attribute [local go_sem] nlt2 nlt3 nlt4 nle2 nle3 nle4 drew_size drew_cell drew_frozen

set_option maxRecDepth 100000 in
set_option maxHeartbeats 3200000 in
theorem drawJoin_any (n cap : Nat) (a : Option Addr) (w : World) (hn : n ≤ 1048576) (hb0 : Bytes w w.heap.size a n) :
    Calls Tryd.prog 5 #[.slice a n cap] w fun e w' => ∃ (x1 y1 x2 y2 : Int), e = .returned (.tuple #[.agg #[.int .i64 x1, .int .i64 y1], .agg #[.int .i64 x2, .int .i64 y2]]) ∧ Below w.heap.size w w' := by
  have BA := mkHid (bl_alloc (bl_alloc (Below.refl w.heap.size w) (.cells #[.int .i64 0, .int .i64 0] 25)) (.cells #[.int .i64 0, .int .i64 0] 25))
  have HY := mkHid (hb0.up (by simp; omega : w.heap.size ≤ ((w.alloc (.cells #[.int .i64 0, .int .i64 0] 25)).alloc (.cells #[.int .i64 0, .int .i64 0] 25)).heap.size) BA.out)
  have X0 := mkHid (show Box ((w.alloc (.cells #[.int .i64 0, .int .i64 0] 25)).alloc (.cells #[.int .i64 0, .int .i64 0] 25)) w.heap.size 0 0 by refine ⟨?_, ?_, ?_, ?_⟩ <;> simp [go_sem])
  have X1 := mkHid (show Box ((w.alloc (.cells #[.int .i64 0, .int .i64 0] 25)).alloc (.cells #[.int .i64 0, .int .i64 0] 25)) (w.heap.size + 1) 0 0 by refine ⟨?_, ?_, ?_, ?_⟩ <;> simp [go_sem])
  clear hb0
  go_enter Tryd.func5, Tryd.ntmps5
  go_wp2_with fail
  refine (openC_any n cap a _ hn HY.out).mono ?_
  rintro e w1 ⟨cb, rfl, hcb, hC, hb⟩
  have hcb2 : w.heap.size + 2 ≤ cb := by simp at hcb; omega
  have X0 := mkHid (X0.out.below hb)
  have X1 := mkHid (X1.out.below hb)
  have BA := mkHid (below_step BA.out hb)
  have HC := mkHid hC
  clear hb hcb hC HY
  go_wp2_with fail
  refine (drawRange_any cb n cap 400060 a _ (HC.out.less (by omega))).mono ?_
  rintro e w2 ⟨x1, y1, rfl, hC, hg⟩
  have X0 := mkHid (X0.out.grown hg (by omega))
  have X1 := mkHid (X1.out.grown hg (by omega))
  have BA := mkHid (below_of_grown BA.out hg (by omega))
  have HC := mkHid hC
  clear hC hg
  have hal := below_alloc w2 (.cells #[.int .i64 x1, .int .i64 y1] 25)
  have X0 := mkHid (X0.out.below hal)
  have X1 := mkHid (X1.out.below hal)
  have X2 := mkHid (show Box (w2.alloc (.cells #[.int .i64 x1, .int .i64 y1] 25)) w2.heap.size x1 y1 by refine ⟨?_, ?_, ?_, ?_⟩ <;> simp [go_sem])
  have BA := mkHid (below_step BA.out hal)
  have hlt := HC.out.lt
  have HC := mkHid (HC.out.below hal)
  clear hal
  obtain ⟨P, hP⟩ : ∃ P, P = w2.heap.size := ⟨_, rfl⟩
  have hPc : P ≠ cb := by omega
  have hPw : w.heap.size + 1 < P := by omega
  have hP0 : ¬ P = w.heap.size := by omega
  have hP1 : ¬ P = w.heap.size + 1 := by omega
  have hP2 : ¬ w.heap.size = P := by omega
  have hP3 : ¬ w.heap.size + 1 = P := by omega
  obtain ⟨v2, hv2⟩ : ∃ v, v = w2.alloc (.cells #[.int .i64 x1, .int .i64 y1] 25) := ⟨_, rfl⟩
  go_wp2_with fail
  rw [← hv2, ← hP]
  rw [← hv2] at HC X0 X1 X2 BA
  rw [← hP] at X2
  clear hv2 hP hlt
  obtain ⟨p0, p1, p2, p3⟩ := X0.out
  obtain ⟨p4, p5, p6, p7⟩ := X1.out
  obtain ⟨p8, p9, p10, p11⟩ := X2.out
  go_region_held3 (fun v => v.cell? ⟨P, 0, none⟩ = some (.int .i64 x1) ∧ v.cell? ⟨P, 1, none⟩ = some (.int .i64 y1)) (first | (simp (maxDischargeDepth := 12) [*, go_sem]; done) | assumption) (first | (go_at_call 20; refine (drawRange_any cb n cap 400000 a _ ((HC.out.below ((Below.refl _ _).drew)).less (by omega))).mono ?_; rintro e w9 ⟨x2, y2, rfl, hC9, hg9⟩; have hgg := grown_trans (grown_of_below ((Below.refl _ v2).drew) (some cb)) hg9; have Z0 := X0.out.grown hgg (by omega); have Z1 := X1.out.grown hgg (by omega); have Z2 := X2.out.grown hgg hPc; have hB := below_of_grown BA.out hgg (by omega); obtain ⟨p0, p1, p2, p3⟩ := Z0; obtain ⟨p4, p5, p6, p7⟩ := Z1; obtain ⟨p8, p9, p10, p11⟩ := Z2))
  all_goals
    go_wp2
    exact bodyPost_ret (v := .tuple #[.agg #[.int .i64 x1, .int .i64 y1], .agg #[.int .i64 x2, .int .i64 y2]]) (by simp [results, Tryd.results5, go_sem, *]) rfl ⟨x1, y1, x2, y2, rfl, (by repeat (first | with_reducible exact Below.refl _ _ | (with_reducible refine bl_set2 ?_ ?_ _; (first | (simp; done) | (simp [*]; done) | (simp [*] <;> omega))) | with_reducible refine bl_drew ?_ | with_reducible refine bl_alloc ?_ _ | with_reducible refine below_step ?_ (by assumption) | with_reducible assumption))⟩
end Go.Proofs.YtgkmpadeleebdaaDoor.Q
