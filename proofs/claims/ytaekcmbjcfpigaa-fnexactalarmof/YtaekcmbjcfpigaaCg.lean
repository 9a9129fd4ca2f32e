/-
  CONTRACTS of the law's toConf, eqConf.
-/
import Derived.Test.YtaekcmbjcfpigaaCf
import Derived.Test.YtaekcmbjcfpigaaTi
namespace Go.Proofs.Ytaekcmbjcfpigaa
open Go.RowKit

theorem B8.far {w : World} {X : Nat} {v0 v1 v2 v3 v4 v5 v6 v7 : Value} (h : B8 w X v0 v1 v2 v3 v4 v5 v6 v7) {k : Nat} (hk : X ≠ k) (o : Nat) (u : Value) : B8 (w.setCell ⟨k, o, none⟩ u) X v0 v1 v2 v3 v4 v5 v6 v7 := by
  obtain ⟨c0, c1, c2, c3, c4, c5, c6, c7, f0, f1, f2, f3, f4, f5, f6, f7⟩ := h
  have hk' : k ≠ X := fun e => hk e.symm
  constructor <;> simp [go_sem, *]
theorem B8.set1 {w : World} {X : Nat} {v0 v1 v2 v3 v4 v5 v6 v7 : Value} (h : B8 w X v0 v1 v2 v3 v4 v5 v6 v7) (u : Value) : B8 (w.setCell ⟨X, 1, none⟩ u) X v0 u v2 v3 v4 v5 v6 v7 := by
  obtain ⟨c0, c1, c2, c3, c4, c5, c6, c7, f0, f1, f2, f3, f4, f5, f6, f7⟩ := h
  constructor <;> simp [go_sem, *]
set_option maxRecDepth 100000 in
set_option maxHeartbeats 3200000 in
theorem toConf_any (p u s t e x : Int) (l : List Int) (a : Option Addr) (c : Nat) (ls : List (List CC)) (b : Option Addr) (d : Nat) (w : World) (hn : l.length ≤ 1048576) (hm : ls.length ≤ 1048576) (ht : tot ls ≤ 1048576) (hi : At eI w a l) (hl : RowsC w b ls) :
    Calls Try.prog 8 #[.agg #[.int .i64 p, .slice a l.length c, .slice b ls.length d, .int .i64 u, .int .i64 s, .int .i64 t, .int .i64 e, .int .i64 x]] w fun f w' => ∃ g h, f = .returned (.agg #[.int .i64 p, .slice (some ⟨g, 0, none⟩) l.length l.length, .slice (some ⟨h, 0, none⟩) ls.length ls.length, .int .i64 u, .int .i64 s, .int .i64 t, .int .i64 e, .int .i64 x]) ∧ At eI w' (some ⟨g, 0, none⟩) l ∧ RowsC w' (some ⟨h, 0, none⟩) ls ∧ Below w.heap.size w w' := by
  obtain ⟨w0, hw0⟩ : ∃ z : World, ((w.alloc (.cells #[.int .i64 p, .slice a l.length c, .slice b ls.length d, .int .i64 u, .int .i64 s, .int .i64 t, .int .i64 e, .int .i64 x] 26)).alloc (.cells #[.int .i64 0, .slice none 0 0, .slice none 0 0, .int .i64 0, .int .i64 0, .int .i64 0, .int .i64 0, .int .i64 0] 34)).alloc (.cells #[.int .i64 p, .slice none 0 0, .slice none 0 0, .int .i64 0, .int .i64 0, .int .i64 0, .int .i64 0, .int .i64 0] 34) = z := ⟨_, rfl⟩
  obtain ⟨X, hX⟩ : ∃ z, w.heap.size = z := ⟨_, rfl⟩
  have HX := mkHid hX
  have HBe : Hid (Below X w w0) := mkHid (by rw [← hw0, ← hX]; exact bl_alloc (bl_alloc (bl_alloc (Below.refl _ _) _) _) _)
  have P0 : Hid (B8 w0 X (.int .i64 p) (.slice a l.length c) (.slice b ls.length d) (.int .i64 u) (.int .i64 s) (.int .i64 t) (.int .i64 e) (.int .i64 x)) := mkHid (by rw [← hw0, ← hX]; constructor <;> simp [go_sem])
  have P1 : Hid (B8 w0 (X + 1) (.int .i64 0) (.slice none 0 0) (.slice none 0 0) (.int .i64 0) (.int .i64 0) (.int .i64 0) (.int .i64 0) (.int .i64 0)) := mkHid (by rw [← hw0, ← hX]; constructor <;> simp [go_sem])
  have P2 : Hid (B8 w0 (X + 1 + 1) (.int .i64 p) (.slice none 0 0) (.slice none 0 0) (.int .i64 0) (.int .i64 0) (.int .i64 0) (.int .i64 0) (.int .i64 0)) := mkHid (by rw [← hw0, ← hX]; constructor <;> simp [go_sem])
  have HS : Hid (w0.heap.size = X + 1 + 1 + 1) := mkHid (by rw [← hw0, ← hX]; simp)
  have HI0 : Hid (At eI w0 a l) := mkHid (hi.below (by rw [hX]; exact HBe.out))
  have HL0 : Hid (RowsC w0 b ls) := mkHid (hl.below (by rw [hX]; exact HBe.out))
  have HL := mkHid hl
  have HN := mkHid hn
  have HM := mkHid hm
  have HT := mkHid ht
  clear hi hl hn hm ht
  obtain ⟨q0, q1, q2, q3, q4, q5, q6, q7, _, _, _, _, _, _, _, _⟩ := P0.out
  have hww : Hid (w0 = w0) := mkHid rfl
  go_enter Try.func8, Try.ntmps8
  go_wp2_with fail
  try rw [hw0]
  clear hw0 hX
  refine (toIntS_any l a c _ HN.out HI0.out).mono ?_
  rintro f w1 ⟨g, rfl, ho0, hb0⟩
  have HO0 := mkHid (ho0.mono (Nat.le_of_eq HS.out.symm))
  have R0 := mkHid (P0.out.below hb0)
  have R1 := mkHid (P1.out.below hb0)
  have R2 := mkHid (P2.out.below hb0)
  have HB1 : Hid (Below X w w1) := mkHid (HBe.out.trans (hb0.mono (by have := HS.out; omega)))
  have S1 : Hid (X + 1 + 1 + 1 ≤ w1.heap.size) := mkHid (by have := HS.out; have := hb0.size; omega)
  clear q0 q1 q2 q3 q4 q5 q6 q7 ho0 hb0 P0 P1 P2 HI0 HL0 HBe
  obtain ⟨wa, hwa⟩ : ∃ z : World, w1.setCell ⟨X + 1 + 1, 1, none⟩ (.slice (some ⟨g, 0, none⟩) l.length l.length) = z := ⟨_, rfl⟩
  have OA := mkHid (HO0.out.set (k := X + 1 + 1) (by omega) 1 (.slice (some ⟨g, 0, none⟩) l.length l.length))
  rw [hwa] at OA
  have BA : Hid (Below X w wa) := mkHid (by rw [← hwa]; exact HB1.out.setCell (p := ⟨X + 1 + 1, 1, none⟩) (by show X ≤ X + 1 + 1; omega) _)
  have SA : Hid (X + 1 + 1 + 1 ≤ wa.heap.size) := mkHid (by rw [← hwa]; simpa using S1.out)
  have T0 : Hid (B8 wa X (.int .i64 p) (.slice a l.length c) (.slice b ls.length d) (.int .i64 u) (.int .i64 s) (.int .i64 t) (.int .i64 e) (.int .i64 x)) := mkHid (by rw [← hwa]; exact R0.out.far (by omega) _ _)
  have T1 : Hid (B8 wa (X + 1) (.int .i64 0) (.slice none 0 0) (.slice none 0 0) (.int .i64 0) (.int .i64 0) (.int .i64 0) (.int .i64 0) (.int .i64 0)) := mkHid (by rw [← hwa]; exact R1.out.far (by omega) _ _)
  have T2 : Hid (B8 wa (X + 1 + 1) (.int .i64 p) (.slice (some ⟨g, 0, none⟩) l.length l.length) (.slice none 0 0) (.int .i64 0) (.int .i64 0) (.int .i64 0) (.int .i64 0) (.int .i64 0)) := mkHid (by rw [← hwa]; exact R2.out.set1 _)
  have LA : Hid (RowsC wa b ls) := mkHid (HL.out.below (by rw [HX.out]; exact BA.out))
  obtain ⟨_, p1, _, _, _, _, _, _, _, f1, _, _, _, _, _, _⟩ := R2.out
  obtain ⟨q0, q1, q2, q3, q4, q5, q6, q7, _, _, _, _, _, _, _, _⟩ := T0.out
  clear R0 R1 R2 HO0 HB1
  go_wp2_with fail
  clear hwa q0 q1 q2 q3 q4 q5 q6 q7 p1 f1
  refine (toCellSS_any ls b d _ HM.out HT.out LA.out).mono ?_
  rintro f w2 ⟨h, rfl, ho1, hb1⟩
  have HO := mkHid (ho1.mono SA.out)
  have OB := mkHid (OA.out.below hb1)
  have R0 := mkHid (T0.out.below hb1)
  have R1 := mkHid (T1.out.below hb1)
  have R2 := mkHid (T2.out.below hb1)
  have HB2 : Hid (Below X w w2) := mkHid (BA.out.trans (hb1.mono (by have := SA.out; omega)))
  clear ho1 hb1 OA T0 T1 T2 LA BA SA S1
  obtain ⟨q0, q1, q2, q3, q4, q5, q6, q7, _, _, _, _, _, _, _, _⟩ := R0.out
  obtain ⟨p0, p1, p2, p3, p4, p5, p6, p7, f0, f1, f2, f3, f4, f5, f6, f7⟩ := R2.out
  obtain ⟨o0, o1, o2, o3, o4, o5, o6, o7, e0, e1, e2, e3, e4, e5, e6, e7⟩ := R1.out
  clear R0 R1 R2
  have OE := mkHid (((((((((((((((OB.out).set (k := X + 1 + 1) (by omega) 2 (.slice (some ⟨h, 0, none⟩) ls.length ls.length)).set (k := X + 1 + 1) (by omega) 3 (.int .i64 u)).set (k := X + 1 + 1) (by omega) 4 (.int .i64 s)).set (k := X + 1 + 1) (by omega) 5 (.int .i64 t)).set (k := X + 1 + 1) (by omega) 6 (.int .i64 e)).set (k := X + 1 + 1) (by omega) 7 (.int .i64 x)).set (k := X + 1) (by omega) 0 (.int .i64 p)).set (k := X + 1) (by omega) 1 (.slice (some ⟨g, 0, none⟩) l.length l.length)).set (k := X + 1) (by omega) 2 (.slice (some ⟨h, 0, none⟩) ls.length ls.length)).set (k := X + 1) (by omega) 3 (.int .i64 u)).set (k := X + 1) (by omega) 4 (.int .i64 s)).set (k := X + 1) (by omega) 5 (.int .i64 t)).set (k := X + 1) (by omega) 6 (.int .i64 e)).set (k := X + 1) (by omega) 7 (.int .i64 x))
  have OF := mkHid (((((((((((((((HO.out).set (k := X + 1 + 1) (by omega) 2 (.slice (some ⟨h, 0, none⟩) ls.length ls.length)).set (k := X + 1 + 1) (by omega) 3 (.int .i64 u)).set (k := X + 1 + 1) (by omega) 4 (.int .i64 s)).set (k := X + 1 + 1) (by omega) 5 (.int .i64 t)).set (k := X + 1 + 1) (by omega) 6 (.int .i64 e)).set (k := X + 1 + 1) (by omega) 7 (.int .i64 x)).set (k := X + 1) (by omega) 0 (.int .i64 p)).set (k := X + 1) (by omega) 1 (.slice (some ⟨g, 0, none⟩) l.length l.length)).set (k := X + 1) (by omega) 2 (.slice (some ⟨h, 0, none⟩) ls.length ls.length)).set (k := X + 1) (by omega) 3 (.int .i64 u)).set (k := X + 1) (by omega) 4 (.int .i64 s)).set (k := X + 1) (by omega) 5 (.int .i64 t)).set (k := X + 1) (by omega) 6 (.int .i64 e)).set (k := X + 1) (by omega) 7 (.int .i64 x))
  have BE := mkHid (((((((((((((((HB2.out).setCell (p := ⟨X + 1 + 1, 2, none⟩) (by show X ≤ X + 1 + 1; omega) (.slice (some ⟨h, 0, none⟩) ls.length ls.length)).setCell (p := ⟨X + 1 + 1, 3, none⟩) (by show X ≤ X + 1 + 1; omega) (.int .i64 u)).setCell (p := ⟨X + 1 + 1, 4, none⟩) (by show X ≤ X + 1 + 1; omega) (.int .i64 s)).setCell (p := ⟨X + 1 + 1, 5, none⟩) (by show X ≤ X + 1 + 1; omega) (.int .i64 t)).setCell (p := ⟨X + 1 + 1, 6, none⟩) (by show X ≤ X + 1 + 1; omega) (.int .i64 e)).setCell (p := ⟨X + 1 + 1, 7, none⟩) (by show X ≤ X + 1 + 1; omega) (.int .i64 x)).setCell (p := ⟨X + 1, 0, none⟩) (by show X ≤ X + 1; omega) (.int .i64 p)).setCell (p := ⟨X + 1, 1, none⟩) (by show X ≤ X + 1; omega) (.slice (some ⟨g, 0, none⟩) l.length l.length)).setCell (p := ⟨X + 1, 2, none⟩) (by show X ≤ X + 1; omega) (.slice (some ⟨h, 0, none⟩) ls.length ls.length)).setCell (p := ⟨X + 1, 3, none⟩) (by show X ≤ X + 1; omega) (.int .i64 u)).setCell (p := ⟨X + 1, 4, none⟩) (by show X ≤ X + 1; omega) (.int .i64 s)).setCell (p := ⟨X + 1, 5, none⟩) (by show X ≤ X + 1; omega) (.int .i64 t)).setCell (p := ⟨X + 1, 6, none⟩) (by show X ≤ X + 1; omega) (.int .i64 e)).setCell (p := ⟨X + 1, 7, none⟩) (by show X ≤ X + 1; omega) (.int .i64 x))
  go_wp2
  refine bodyPost_ret (v := .agg #[.int .i64 p, .slice (some ⟨g, 0, none⟩) l.length l.length, .slice (some ⟨h, 0, none⟩) ls.length ls.length, .int .i64 u, .int .i64 s, .int .i64 t, .int .i64 e, .int .i64 x]) (by simp [results, Try.results8, go_sem, *]) rfl ⟨g, h, rfl, ?_, ?_, ?_⟩
  · exact OE.out.at
  · exact OF.out.at
  · rw [HX.out]; exact BE.out
end Go.Proofs.Ytaekcmbjcfpigaa
