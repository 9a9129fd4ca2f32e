/-
  CONTRACT of the law's eqConf.
-/
import Derived.Test.YtaekcmbjcfpigaaCg
namespace Go.Proofs.Ytaekcmbjcfpigaa
open Go.RowKit

set_option maxRecDepth 100000 in
set_option maxHeartbeats 3200000 in
theorem eqConf_same (p u s t e x : Int) (l : List Int) (a a' : Option Addr) (c c' : Nat) (ls : List (List CC)) (b b' : Option Addr) (d d' : Nat) (w : World) (hn : l.length ≤ 1048576) (hm : ls.length ≤ 1048576) (hr : ∀ (i : Nat) (l : List CC), ls[i]? = some l → l.length ≤ maxLen) (hi : At eI w a l) (hl : RowsC w b ls) (hi' : At eI w a' l) (hl' : RowsC w b' ls) :
    Calls Try.prog 11 #[.agg #[.int .i64 p, .slice a l.length c, .slice b ls.length d, .int .i64 u, .int .i64 s, .int .i64 t, .int .i64 e, .int .i64 x], .agg #[.int .i64 p, .slice a' l.length c', .slice b' ls.length d', .int .i64 u, .int .i64 s, .int .i64 t, .int .i64 e, .int .i64 x]] w fun f w' => f = .returned (.bool true) ∧ Below w.heap.size w w' := by
  obtain ⟨w0, hw0⟩ : ∃ z : World, (w.alloc (.cells #[.int .i64 p, .slice a l.length c, .slice b ls.length d, .int .i64 u, .int .i64 s, .int .i64 t, .int .i64 e, .int .i64 x] 34)).alloc (.cells #[.int .i64 p, .slice a' l.length c', .slice b' ls.length d', .int .i64 u, .int .i64 s, .int .i64 t, .int .i64 e, .int .i64 x] 34) = z := ⟨_, rfl⟩
  obtain ⟨X, hX⟩ : ∃ z, w.heap.size = z := ⟨_, rfl⟩
  have HX := mkHid hX
  have HBe : Hid (Below X w w0) := mkHid (by rw [← hw0, ← hX]; exact bl_alloc (bl_alloc (Below.refl _ _) _) _)
  have P0 : Hid (B8 w0 X (.int .i64 p) (.slice a l.length c) (.slice b ls.length d) (.int .i64 u) (.int .i64 s) (.int .i64 t) (.int .i64 e) (.int .i64 x)) := mkHid (by rw [← hw0, ← hX]; constructor <;> simp [go_sem])
  have P1 : Hid (B8 w0 (X + 1) (.int .i64 p) (.slice a' l.length c') (.slice b' ls.length d') (.int .i64 u) (.int .i64 s) (.int .i64 t) (.int .i64 e) (.int .i64 x)) := mkHid (by rw [← hw0, ← hX]; constructor <;> simp [go_sem])
  have HI := mkHid (hi.below (w' := w0) (by rw [hX]; exact HBe.out))
  have HI' := mkHid (hi'.below (w' := w0) (by rw [hX]; exact HBe.out))
  have HL := mkHid (hl.below (w' := w0) (by rw [hX]; exact HBe.out))
  have HL' := mkHid (hl'.below (w' := w0) (by rw [hX]; exact HBe.out))
  have HN : Hid (l.length ≤ maxLen) := mkHid (by unfold maxLen; omega)
  have HM : Hid (ls.length ≤ maxLen) := mkHid (by unfold maxLen; omega)
  have HR := mkHid hr
  clear hi hi' hl hl' hn hm hr
  obtain ⟨q0, q1, q2, q3, q4, q5, q6, q7, _, _, _, _, _, _, _, _⟩ := P0.out
  obtain ⟨p0, p1, p2, p3, p4, p5, p6, p7, _, _, _, _, _, _, _, _⟩ := P1.out
  have n1 : (p != p) = false := by simp
  have n2 : (u != u) = false := by simp
  have n3 : (s != s) = false := by simp
  have n4 : (t != t) = false := by simp
  have n5 : (e != e) = false := by simp
  have n6 : (x != x) = false := by simp
  go_enter Try.func11, Try.ntmps11
  go_wp2_with fail
  try rw [hw0]
  clear hw0 hX
  refine (eqIntS_same l _ _ _ _ _ HN.out HI.out HI'.out).mono ?_
  rintro f w1 ⟨rfl, hb⟩
  have R0 := mkHid (P0.out.below hb)
  have R1 := mkHid (P1.out.below hb)
  have LA := mkHid (HL.out.below hb)
  have LA' := mkHid (HL'.out.below hb)
  have HB1 : Hid (Below X w w1) := mkHid (HBe.out.trans (hb.mono (by have h := HBe.out.size; have := HX.out; omega)))
  clear q0 q1 q2 q3 q4 q5 q6 q7 p0 p1 p2 p3 p4 p5 p6 p7 hb P0 P1 HBe HI HI' HL HL'
  obtain ⟨q0, q1, q2, q3, q4, q5, q6, q7, _, _, _, _, _, _, _, _⟩ := R0.out
  obtain ⟨p0, p1, p2, p3, p4, p5, p6, p7, _, _, _, _, _, _, _, _⟩ := R1.out
  go_wp2_with fail
  refine (eqCellSS_ok ls _ _ _ _ _ HM.out HR.out LA.out LA'.out).mono ?_
  rintro f w2 ⟨rfl, hb⟩
  have S0 := mkHid (R0.out.below hb)
  have S1 := mkHid (R1.out.below hb)
  have HB2 : Hid (Below X w w2) := mkHid (HB1.out.trans (hb.mono (by have h := HB1.out.size; have := HX.out; omega)))
  clear q0 q1 q2 q3 q4 q5 q6 q7 p0 p1 p2 p3 p4 p5 p6 p7 hb R0 R1 HB1 LA LA'
  obtain ⟨q0, q1, q2, q3, q4, q5, q6, q7, _, _, _, _, _, _, _, _⟩ := S0.out
  obtain ⟨p0, p1, p2, p3, p4, p5, p6, p7, _, _, _, _, _, _, _, _⟩ := S1.out
  go_wp2
  go_ret
  exact ⟨rfl, by rw [HX.out]; exact HB2.out⟩
end Go.Proofs.Ytaekcmbjcfpigaa
