/-
  CONTRACTS of the drawing of Vals and Cells: whatever is drawn.
-/
import Derived.Test.YtiihjoliodemmaaDoorQDrz
import Derived.Test.YtiihjoliodemmaaDoorQVl
import Derived.Test.YtiihjoliodemmaaDoorQIv
namespace Go.Proofs.YtiihjoliodemmaaDoor.Q
open Go.RowKit
attribute [local go_sem] nlt2 nlt3 nlt4 nle2 nle3 nle4 drew_size drew_cell drew_frozen

theorem V3.grown {v v' : World} {cb X : Nat} {x y : Int} {s : Bool} (h : V3 v X x y s) (hg : v.grownBy v' (some cb)) (hne : X ≠ cb) : V3 v' X x y s := by
  have hlt := h.lt
  exact ⟨(grown_cell hg hlt hne).trans h.c0, (grown_cell hg hlt hne).trans h.c1, (grown_cell hg hlt hne).trans h.c2, (grown_frozen hg hlt hne).trans h.f0, (grown_frozen hg hlt hne).trans h.f1, (grown_frozen hg hlt hne).trans h.f2⟩
/-- A Cell in a block that may be written. -/
structure C2 (v : World) (X : Nat) (s : Bool) (n : Int) : Prop where
  c0 : v.cell? ⟨X, 0, none⟩ = some (.bool s)
  c1 : v.cell? ⟨X, 1, none⟩ = some (.int .i64 n)
  f0 : v.frozen? ⟨X, 0, none⟩ = false
  f1 : v.frozen? ⟨X, 1, none⟩ = false
theorem C2.lt {v : World} {X : Nat} {n : Int} {s : Bool} (h : C2 v X s n) : X < v.heap.size := World.block_lt_of_cell? v _ h.c0
theorem C2.below {v v' : World} {X : Nat} {n : Int} {s : Bool} (h : C2 v X s n) (hb : Below v.heap.size v v') : C2 v' X s n := by
  obtain ⟨hc, hf⟩ := bcell hb
  have hl := h.lt
  exact ⟨(hc _ _ hl).trans h.c0, (hc _ _ hl).trans h.c1, (hf _ _ hl).trans h.f0, (hf _ _ hl).trans h.f1⟩
theorem C2.grown {v v' : World} {cb X : Nat} {n : Int} {s : Bool} (h : C2 v X s n) (hg : v.grownBy v' (some cb)) (hne : X ≠ cb) : C2 v' X s n := by
  have hlt := h.lt
  exact ⟨(grown_cell hg hlt hne).trans h.c0, (grown_cell hg hlt hne).trans h.c1, (grown_frozen hg hlt hne).trans h.f0, (grown_frozen hg hlt hne).trans h.f1⟩
theorem below_three (B X : Nat) (hX : B ≤ X) (v : World) (x y z : Value) : Below B v (((v.setCell ⟨X, 0, none⟩ x).setCell ⟨X, 1, none⟩ y).setCell ⟨X, 2, none⟩ z) := (((Below.refl B v).setCell (p := ⟨X, 0, none⟩) hX x).setCell (p := ⟨X, 1, none⟩) hX y).setCell (p := ⟨X, 2, none⟩) hX z
theorem below_twoX (B X : Nat) (hX : B ≤ X) (v : World) (x y : Value) : Below B v ((v.setCell ⟨X, 0, none⟩ x).setCell ⟨X, 1, none⟩ y) := ((Below.refl B v).setCell (p := ⟨X, 0, none⟩) hX x).setCell (p := ⟨X, 1, none⟩) hX y
set_option maxRecDepth 100000 in
set_option maxHeartbeats 400000 in
theorem once_any (m : Int) (cb n cap bud : Nat) (a : Option Addr) (w : World) (hm0 : 2 ≤ m) (hm : m ≤ 1000000) (hC : Cur w cb a n cap (bud + 1)) :
    Calls Tryd.prog 80 #[.pointer (some ⟨cb, 0, none⟩), .int .i64 m] w fun e w' => ∃ r : Bool, e = .returned (.bool r) ∧ Cur w' cb a n cap bud ∧ w.grownBy w' (some cb) := by
  have HC := mkHid hC
  have hw : IntKind.i64.wrap (m - 1) = m - 1 := IntWalk.i64_in _ (by omega)
  have HM := mkHid hm
  clear hC hm hm0
  go_enter Tryd.func80, Tryd.ntmps80
  go_wp2_with fail
  refine (pick_any m cb n cap bud a _ HM.out HC.out).mono ?_
  rintro e w' ⟨r, rfl, r0, r1, hC', hG'⟩
  have H1 := mkHid hC'
  have H2 := mkHid hG'
  clear hC' hG'
  go_wp2
  go_ret
  exact ⟨_, rfl, H1.out, H2.out⟩
set_option maxRecDepth 100000 in
set_option maxHeartbeats 3200000 in
theorem drawVal_any (cb n cap bud : Nat) (a : Option Addr) (w : World) (hC : Cur w cb a n cap (bud + 10)) :
    Calls Tryd.prog 76 #[.pointer (some ⟨cb, 0, none⟩)] w fun e w' => ∃ (x y : Int) (s : Bool), e = .returned (.agg #[.int .i64 x, .int .i64 y, .bool s]) ∧ Cur w' cb a n cap bud ∧ w.grownBy w' (some cb) := by
  have hlt := hC.lt
  have hne : w.heap.size ≠ cb := by omega
  have HR := mkHid (V3.new w 0 0 false 33)
  have HC := mkHid (hC.alloc (.cells #[.int .i64 0, .int .i64 0, .bool false] 33))
  have HG := mkHid (grown_of_below (below_alloc w (.cells #[.int .i64 0, .int .i64 0, .bool false] 33)) (some cb))
  clear hC
  go_enter Tryd.func76, Tryd.ntmps76
  go_wp2_with fail
  refine (drawRange_any cb n cap (bud + 5) a _ HC.out).mono ?_
  rintro e w1 ⟨x, y, rfl, hC2, hG2⟩
  have HC := mkHid hC2
  have HG := mkHid (grown_trans HG.out hG2)
  have HR := mkHid (HR.out.grown hG2 hne)
  clear hC2 hG2
  go_wp2_with fail
  refine (once_any 2 cb n cap (bud + 4) a _ (by omega) (by omega) HC.out).mono ?_
  rintro e w2 ⟨s, rfl, hC2, hG2⟩
  have HC := mkHid hC2
  have HG := mkHid (grown_trans HG.out hG2)
  have HR := mkHid (HR.out.grown hG2 hne)
  clear hC2 hG2
  have hb := below_alloc w2 (.cells #[.int .i64 x, .int .i64 y, .bool s] 33)
  have HP := mkHid (V3.new w2 x y s 33)
  have hlt2 := HC.out.lt
  have hltR := HR.out.lt
  obtain ⟨v2, hv2⟩ : ∃ v, v = w2.alloc (.cells #[.int .i64 x, .int .i64 y, .bool s] 33) := ⟨_, rfl⟩
  rw [← hv2] at hb HP
  have HC := mkHid (HC.out.below hb)
  have HG := mkHid (grown_trans HG.out (grown_of_below hb (some cb)))
  have HR := mkHid (HR.out.below hb)
  clear hb
  obtain ⟨P, hP⟩ : ∃ P, P = w2.heap.size := ⟨_, rfl⟩
  have hPc : P ≠ cb := by omega
  have hPR : w.heap.size < P := by omega
  go_wp2_with fail
  rw [← hv2, ← hP]
  rw [← hP] at HP
  clear hv2 hP hlt2 hltR
  refine (sOk_any x y _).mono ?_
  rintro e w3 ⟨rfl, hb⟩
  have HC := mkHid (HC.out.below hb)
  have HG := mkHid (grown_trans HG.out (grown_of_below hb (some cb)))
  have HR := mkHid (HR.out.below hb)
  have HP := mkHid (HP.out.below hb)
  clear hb
  cases hk : okB x y
  · go_wp2_with fail
    refine (pick_any 4 cb n cap (bud + 3) a _ (by omega) HC.out).mono ?_
    rintro e w4 ⟨r, rfl, hr0, hr1, hC2, hG2⟩
    have HC := mkHid hC2
    have HG := mkHid (grown_trans HG.out hG2)
    have HR := mkHid (HR.out.grown hG2 hne)
    have HP := mkHid (HP.out.grown hG2 hPc)
    clear hC2 hG2
    by_cases hr : 0 < r
    · go_wp2_with fail
      refine (pick_any 9 cb n cap (bud + 2) a _ (by omega) HC.out).mono ?_
      rintro e w5 ⟨q, rfl, hq0, hq1, hC2, hG2⟩
      have HC := mkHid hC2
      have HG := mkHid (grown_trans HG.out hG2)
      have HR := mkHid (HR.out.grown hG2 hne)
      have HP := mkHid (HP.out.grown hG2 hPc)
      clear hC2 hG2
      go_wp2_with fail
      refine (sMake_any 0 q _).mono ?_
      rintro e w6 ⟨rfl, hb⟩
      have HC := mkHid (HC.out.below hb)
      have HG := mkHid (grown_trans HG.out (grown_of_below hb (some cb)))
      have HR := mkHid (HR.out.below hb)
      have HP := mkHid (HP.out.below hb)
      clear hb
      obtain ⟨m1, hm1⟩ : ∃ t, (mkM 0 q).1 = t := ⟨_, rfl⟩
      obtain ⟨m2, hm2⟩ : ∃ t, (mkM 0 q).2 = t := ⟨_, rfl⟩
      rw [hm1, hm2]
      clear hm1 hm2
      obtain ⟨r0, r1, r2, r3, r4, r5⟩ := HR.out
      obtain ⟨p0, p1, p2, p3, p4, p5⟩ := HP.out
      have hRP : w.heap.size ≠ P := by omega
      have hPR2 : P ≠ w.heap.size := by omega
      go_wp2
      have hb8 : Below w.heap.size w6 ((w6.setCell ⟨P, 0, none⟩ (.int .i64 m1)).setCell ⟨P, 1, none⟩ (.int .i64 m2)) := below_twoX _ _ (Nat.le_of_lt hPR) _ _ _
      have hb9 := hb8.trans (below_three w.heap.size w.heap.size (Nat.le_refl _) ((w6.setCell ⟨P, 0, none⟩ (.int .i64 m1)).setCell ⟨P, 1, none⟩ (.int .i64 m2)) (.int .i64 m1) (.int .i64 m2) (.bool s))
      exact bodyPost_ret (v := .agg #[.int .i64 m1, .int .i64 m2, .bool s]) (by simp [results, Tryd.results76, go_sem, *]) rfl ⟨_, _, _, rfl, (HC.out.belowB hlt hb9).less (by omega), grown_belowB HG.out hb9⟩
    · obtain ⟨r0, r1, r2, r3, r4, r5⟩ := HR.out
      obtain ⟨p0, p1, p2, p3, p4, p5⟩ := HP.out
      go_wp2
      have hb9 : Below w.heap.size w4 (((w4.setCell ⟨w.heap.size, 0, none⟩ (.int .i64 x)).setCell ⟨w.heap.size, 1, none⟩ (.int .i64 y)).setCell ⟨w.heap.size, 2, none⟩ (.bool s)) := below_three _ _ (Nat.le_refl _) _ _ _ _
      exact bodyPost_ret (v := .agg #[.int .i64 x, .int .i64 y, .bool s]) (by simp [results, Tryd.results76, go_sem, *]) rfl ⟨_, _, _, rfl, (HC.out.belowB hlt hb9).less (by omega), grown_belowB HG.out hb9⟩
  · obtain ⟨r0, r1, r2, r3, r4, r5⟩ := HR.out
    obtain ⟨p0, p1, p2, p3, p4, p5⟩ := HP.out
    go_wp2
    have hb9 : Below w.heap.size w3 (((w3.setCell ⟨w.heap.size, 0, none⟩ (.int .i64 x)).setCell ⟨w.heap.size, 1, none⟩ (.int .i64 y)).setCell ⟨w.heap.size, 2, none⟩ (.bool s)) := below_three _ _ (Nat.le_refl _) _ _ _ _
    exact bodyPost_ret (v := .agg #[.int .i64 x, .int .i64 y, .bool s]) (by simp [results, Tryd.results76, go_sem, *]) rfl ⟨_, _, _, rfl, (HC.out.belowB hlt hb9).less (by omega), grown_belowB HG.out hb9⟩
set_option maxRecDepth 100000 in
set_option maxHeartbeats 3200000 in
theorem drawCell_any (cb n cap bud : Nat) (a : Option Addr) (w : World) (hC : Cur w cb a n cap (bud + 5)) :
    Calls Tryd.prog 79 #[.pointer (some ⟨cb, 0, none⟩)] w fun e w' => ∃ (s : Bool) (x : Int), e = .returned (.agg #[.bool s, .int .i64 x]) ∧ Cur w' cb a n cap bud ∧ w.grownBy w' (some cb) := by
  have hlt := hC.lt
  have hne : w.heap.size ≠ cb := by omega
  have HR := mkHid (show C2 (w.alloc (.cells #[.bool false, .int .i64 0] 69)) w.heap.size false 0 from by constructor <;> simp [go_sem])
  have HC := mkHid (hC.alloc (.cells #[.bool false, .int .i64 0] 69))
  have HG := mkHid (grown_of_below (below_alloc w (.cells #[.bool false, .int .i64 0] 69)) (some cb))
  clear hC
  go_enter Tryd.func79, Tryd.ntmps79
  go_wp2_with fail
  refine (pick_any 4 cb n cap (bud + 4) a _ (by omega) HC.out).mono ?_
  rintro e w1 ⟨r, rfl, hr0, hr1, hC2, hG2⟩
  have HC := mkHid hC2
  have HG := mkHid (grown_trans HG.out hG2)
  have HR := mkHid (HR.out.grown hG2 hne)
  clear hC2 hG2
  by_cases hr : 0 < r
  · have hb := below_alloc w1 (.cells #[.bool true, .int .i64 0] 69)
    have HP := mkHid (show C2 (w1.alloc (.cells #[.bool true, .int .i64 0] 69)) w1.heap.size true 0 from by constructor <;> simp [go_sem])
    have hlt2 := HC.out.lt
    have hltR := HR.out.lt
    obtain ⟨v2, hv2⟩ : ∃ v, v = w1.alloc (.cells #[.bool true, .int .i64 0] 69) := ⟨_, rfl⟩
    rw [← hv2] at hb HP
    have HC := mkHid (HC.out.below hb)
    have HG := mkHid (grown_trans HG.out (grown_of_below hb (some cb)))
    have HR := mkHid (HR.out.below hb)
    clear hb
    obtain ⟨P, hP⟩ : ∃ P, P = w1.heap.size := ⟨_, rfl⟩
    have hPc : P ≠ cb := by omega
    have hPR : w.heap.size < P := by omega
    have hPR2 : P ≠ w.heap.size := by omega
    have hRP : w.heap.size ≠ P := by omega
    go_wp2_with fail
    rw [← hv2, ← hP]
    rw [← hP] at HP
    clear hv2 hP hlt2 hltR
    refine (pick_any 9 cb n cap (bud + 3) a _ (by omega) HC.out).mono ?_
    rintro e w5 ⟨q, rfl, hq0, hq1, hC2, hG2⟩
    have HC := mkHid hC2
    have HG := mkHid (grown_trans HG.out hG2)
    have HR := mkHid (HR.out.grown hG2 hne)
    have HP := mkHid (HP.out.grown hG2 hPc)
    clear hC2 hG2
    have hw : IntKind.i64.wrap (q - 3) = q - 3 := IntWalk.i64_in _ ⟨by omega, by omega⟩
    obtain ⟨r0, r1, r2, r3⟩ := HR.out
    obtain ⟨p0, p1, p2, p3⟩ := HP.out
    go_wp2
    have hb8 : Below w.heap.size w5 (w5.setCell ⟨P, 1, none⟩ (.int .i64 (q - 3))) := (Below.refl _ _).setCell (p := ⟨P, 1, none⟩) (Nat.le_of_lt hPR) _
    have hb9 := hb8.trans (below_twoX w.heap.size w.heap.size (Nat.le_refl _) (w5.setCell ⟨P, 1, none⟩ (.int .i64 (q - 3))) (.bool true) (.int .i64 (q - 3)))
    exact bodyPost_ret (v := .agg #[.bool true, .int .i64 (q - 3)]) (by simp [results, Tryd.results79, go_sem, *]) rfl ⟨_, _, rfl, (HC.out.belowB hlt hb9).less (by omega), grown_belowB HG.out hb9⟩
  · have hd : decide (0 < r) = false := decide_eq_false hr
    have hb := below_alloc w1 (.cells #[.bool false, .int .i64 0] 69)
    have HP := mkHid (show C2 (w1.alloc (.cells #[.bool false, .int .i64 0] 69)) w1.heap.size false 0 from by constructor <;> simp [go_sem])
    have hlt2 := HC.out.lt
    have hltR := HR.out.lt
    obtain ⟨v2, hv2⟩ : ∃ v, v = w1.alloc (.cells #[.bool false, .int .i64 0] 69) := ⟨_, rfl⟩
    rw [← hv2] at hb HP
    have HC := mkHid (HC.out.below hb)
    have HG := mkHid (grown_trans HG.out (grown_of_below hb (some cb)))
    have HR := mkHid (HR.out.below hb)
    clear hb
    obtain ⟨P, hP⟩ : ∃ P, P = w1.heap.size := ⟨_, rfl⟩
    have hPc : P ≠ cb := by omega
    have hPR : w.heap.size < P := by omega
    have hPR2 : P ≠ w.heap.size := by omega
    have hRP : w.heap.size ≠ P := by omega
    go_wp2_with fail
    rw [← hv2, ← hP]
    rw [← hP] at HP
    clear hv2 hP hlt2 hltR
    refine (once_any 20 cb n cap (bud + 3) a _ (by omega) (by omega) HC.out).mono ?_
    rintro e w4 ⟨s, rfl, hC2, hG2⟩
    have HC := mkHid hC2
    have HG := mkHid (grown_trans HG.out hG2)
    have HR := mkHid (HR.out.grown hG2 hne)
    have HP := mkHid (HP.out.grown hG2 hPc)
    clear hC2 hG2
    cases s
    · obtain ⟨r0, r1, r2, r3⟩ := HR.out
      obtain ⟨p0, p1, p2, p3⟩ := HP.out
      go_wp2
      have hb9 : Below w.heap.size w4 ((w4.setCell ⟨w.heap.size, 0, none⟩ (.bool false)).setCell ⟨w.heap.size, 1, none⟩ (.int .i64 0)) := below_twoX _ _ (Nat.le_refl _) _ _ _
      exact bodyPost_ret (v := .agg #[.bool false, .int .i64 0]) (by simp [results, Tryd.results79, go_sem, *]) rfl ⟨_, _, rfl, (HC.out.belowB hlt hb9).less (by omega), grown_belowB HG.out hb9⟩
    · go_wp2_with fail
      refine (pick_any 9 cb n cap (bud + 2) a _ (by omega) HC.out).mono ?_
      rintro e w5 ⟨q, rfl, hq0, hq1, hC2, hG2⟩
      have HC := mkHid hC2
      have HG := mkHid (grown_trans HG.out hG2)
      have HR := mkHid (HR.out.grown hG2 hne)
      have HP := mkHid (HP.out.grown hG2 hPc)
      clear hC2 hG2
      have hw : IntKind.i64.wrap (q - 3) = q - 3 := IntWalk.i64_in _ ⟨by omega, by omega⟩
      obtain ⟨r0, r1, r2, r3⟩ := HR.out
      obtain ⟨p0, p1, p2, p3⟩ := HP.out
      go_wp2
      have hb8 : Below w.heap.size w5 (w5.setCell ⟨P, 1, none⟩ (.int .i64 (q - 3))) := (Below.refl _ _).setCell (p := ⟨P, 1, none⟩) (Nat.le_of_lt hPR) _
      have hb9 := hb8.trans (below_twoX w.heap.size w.heap.size (Nat.le_refl _) (w5.setCell ⟨P, 1, none⟩ (.int .i64 (q - 3))) (.bool false) (.int .i64 (q - 3)))
      exact bodyPost_ret (v := .agg #[.bool false, .int .i64 (q - 3)]) (by simp [results, Tryd.results79, go_sem, *]) rfl ⟨_, _, rfl, (HC.out.belowB hlt hb9).less (by omega), grown_belowB HG.out hb9⟩
end Go.Proofs.YtiihjoliodemmaaDoor.Q
