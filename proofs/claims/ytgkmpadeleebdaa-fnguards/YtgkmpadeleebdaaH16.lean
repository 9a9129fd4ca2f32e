/-
  CONTRACT of the program's RangeGuard, kind 16.
-/
import Derived.Test.YtgkmpadeleebdaaGd
import Derived.Deep.Cut
namespace Go.Proofs.Ytgkmpadeleebdaa
open Go.RowKit
attribute [local go_sem] nlt2 nlt3 nlt4 nle2 nle3 nle4 drew_size drew_cell drew_frozen

/-- What is known of a world inside the call: the two boxes, the two results. -/
def At16 (w v : World) (a b c d x1 x2 y1 y2 : Int) : Prop := Box v w.heap.size a b ∧ Box v (w.heap.size + 1) c d ∧ Box v (w.heap.size + 2) x1 x2 ∧ Box v (w.heap.size + 3) y1 y2 ∧ Below w.heap.size w v
theorem At16.below {w v v' : World} {a b c d x1 x2 y1 y2 : Int} (h : At16 w v a b c d x1 x2 y1 y2) (hb : Below v.heap.size v v') : At16 w v' a b c d x1 x2 y1 y2 :=
  ⟨h.1.below hb, h.2.1.below hb, h.2.2.1.below hb, h.2.2.2.1.below hb, below_step h.2.2.2.2 hb⟩
theorem At16.start (w : World) (a b c d : Int) : At16 w ((((w.alloc (.cells #[.int .i64 a, .int .i64 b] 25)).alloc (.cells #[.int .i64 c, .int .i64 d] 25)).alloc (.cells #[.int .i64 0, .int .i64 0] 25)).alloc (.cells #[.int .i64 0, .int .i64 0] 25)) a b c d 0 0 0 0 := by
  refine ⟨?_, ?_, ?_, ?_, (by repeat (first | (with_reducible refine bl_set2 ?_ ?_ _; (first | (simp; done) | (simp [*]; done) | (simp [*] <;> omega))) | with_reducible refine bl_drew ?_ | with_reducible refine bl_alloc ?_ _ | with_reducible refine below_step ?_ (by assumption) | with_reducible assumption | with_reducible exact Below.refl _ _))⟩
  all_goals (refine ⟨?_, ?_, ?_, ?_⟩ <;> simp [go_sem])
set_option maxHeartbeats 40000000 in
theorem iGuard_16 (a b c d : Int) (w : World) (h1 : someB a b = true) (h2 : someB c d = true) : Calls Try.prog 20 #[.int .i64 16, .agg #[.int .i64 a, .int .i64 b], .agg #[.int .i64 c, .int .i64 d]] w fun e w' => e = .returned (.tuple #[.agg #[.int .i64 (((withM a b c d), (withM c d a b))).1.1, .int .i64 (((withM a b c d), (withM c d a b))).1.2], .agg #[.int .i64 (((withM a b c d), (withM c d a b))).2.1, .int .i64 (((withM a b c d), (withM c d a b))).2.2]]) ∧ Below w.heap.size w w' := by
  obtain ⟨q1, q2, q3⟩ := some_iff.1 h1
  obtain ⟨q4, q5, q6⟩ := some_iff.1 h2
  have K := mkHid (At16.start w a b c d)
  have hEq := eql_rng
  have hMx := @run_max_M Try.prog
  have hMn := @run_min_M Try.prog
  go_enter Try.func20, Try.ntmps20
  go_wp2_with fail
  refine (isSome_any _ _ _).mono ?_
  rintro e w1 ⟨rfl, hb⟩
  have K := mkHid (K.out.below hb)
  clear hb
  obtain ⟨⟨p0, p1, p2, p3⟩, ⟨p4, p5, p6, p7⟩, ⟨p8, p9, p10, p11⟩, ⟨p12, p13, p14, p15⟩, hB⟩ := K.out
  go_wp2_with fail
  refine (isSome_any _ _ _).mono ?_
  rintro e w2 ⟨rfl, hb⟩
  have K := mkHid (K.out.below hb)
  clear hb p0 p1 p2 p3 p4 p5 p6 p7 p8 p9 p10 p11 p12 p13 p14 p15 hB
  obtain ⟨⟨p0, p1, p2, p3⟩, ⟨p4, p5, p6, p7⟩, ⟨p8, p9, p10, p11⟩, ⟨p12, p13, p14, p15⟩, hB⟩ := K.out
  go_wp2_with fail
  go_region_with (first | (go_at_call 43; refine (iWo_any _ _ _ _ _ (by omega) (by omega) (by omega)).mono ?_; rintro e w' ⟨rfl, hb⟩; (try rw [below_drew] at hb); have K := mkHid (K.out.below hb); clear hb; obtain ⟨⟨p0, p1, p2, p3⟩, ⟨p4, p5, p6, p7⟩, ⟨p8, p9, p10, p11⟩, ⟨p12, p13, p14, p15⟩, hB⟩ := K.out))
  all_goals
    clear K
    go_wp2_with fail
    go_region_held3 (fun v => v.cell? ⟨w.heap.size, 0, none⟩ = some (.int .i64 (withM a b c d).1) ∧ v.cell? ⟨w.heap.size, 1, none⟩ = some (.int .i64 (withM a b c d).2) ∧ v.cell? ⟨w.heap.size + 1, 0, none⟩ = some (.int .i64 (withM c d a b).1) ∧ v.cell? ⟨w.heap.size + 1, 1, none⟩ = some (.int .i64 (withM c d a b).2)) (first | (simp (maxDischargeDepth := 12) [*, go_sem]; done) | assumption) (fail)
    all_goals
      go_wp2
      exact bodyPost_ret (v := .tuple #[.agg #[.int .i64 (withM a b c d).1, .int .i64 (withM a b c d).2], .agg #[.int .i64 (withM c d a b).1, .int .i64 (withM c d a b).2]]) (by simp [results, Try.results20, go_sem, *]) rfl ⟨rfl, (by repeat (first | (with_reducible refine bl_set2 ?_ ?_ _; (first | (simp; done) | (simp [*]; done) | (simp [*] <;> omega))) | with_reducible refine bl_drew ?_ | with_reducible refine bl_alloc ?_ _ | with_reducible refine below_step ?_ (by assumption) | with_reducible assumption | with_reducible exact Below.refl _ _))⟩
end Go.Proofs.Ytgkmpadeleebdaa
