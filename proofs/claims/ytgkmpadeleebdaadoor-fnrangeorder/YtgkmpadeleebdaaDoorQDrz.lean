/-
  CONTRACTS of DrawRangeWiden, and of the law's own pick and big.
-/
import Derived.Test.YtgkmpadeleebdaaDoorQDrs
namespace Go.Proofs.YtgkmpadeleebdaaDoor.Q
open Go.RowKit
attribute [local go_sem] nlt2 nlt3 nlt4 nle2 nle3 nle4 drew_size drew_cell drew_frozen

theorem Bytes.up {w w' : World} {B B' n : Nat} {a : Option Addr} (h : Bytes w B a n) (hB : B ≤ B') (hb : Below B w w') : Bytes w' B' a n := by
  rcases h with h | ⟨b, off, e, hbl, hc⟩
  · exact .inl h
  · refine .inr ⟨b, off, e, by omega, fun i hi => ?_⟩
    obtain ⟨z, z0, z1, hz⟩ := hc i hi
    exact ⟨z, z0, z1, (hb.cell (p := ⟨b, off + i, none⟩) hbl).trans hz⟩
theorem openC_any (n cap : Nat) (a : Option Addr) (w : World) (hn : n ≤ 1048576) (hb : Bytes w w.heap.size a n) :
    Calls Tryd.prog 19 #[.slice a n cap] w fun e w' => ∃ cb, e = .returned (.pointer (some ⟨cb, 0, none⟩)) ∧ w.heap.size ≤ cb ∧ Cur w' cb a n cap 499999 ∧ Below w.heap.size w w' :=
  (open_any n cap a w hn hb).mono fun _ _ h => ⟨_, h.1, Nat.le_refl _, h.2.1, h.2.2⟩
theorem IntsIn.set {v : World} {l : List Int} {g p i : Nat} {u : Value} (h : IntsIn v l g 0) (hne : g ≠ p) : IntsIn (v.setCell ⟨p, i, none⟩ u) l g 0 := fun j x hx =>
  (World.cell?_of_block (w := v) (Below.heap_setCell v ⟨p, i, none⟩ u g hne)).trans (h j x hx)
/-- Boxes, the cursor, and that nothing old has turned. -/
def Dz (w v : World) (P Q : Nat) (x1 y1 x2 y2 : Int) (cb n cap bud : Nat) (a : Option Addr) : Prop :=
  Box v w.heap.size 0 0 ∧ Box v (w.heap.size + 1) 0 0 ∧ Box v P x1 y1 ∧ Box v Q x2 y2 ∧ Cur v cb a n cap bud ∧ w.heap.size + 2 ≤ cb ∧ P ≠ cb ∧ Q ≠ cb ∧ w.heap.size + 1 < P ∧ w.heap.size + 1 < Q ∧ Below w.heap.size w v
theorem below_of_grown {w v v' : World} {cb : Nat} (h : Below w.heap.size w v) (hg : v.grownBy v' (some cb)) (hcb : w.heap.size ≤ cb) : Below w.heap.size w v' :=
  Below.grown h hg h.size (fun k hk => by cases hk; exact hcb)
theorem Dz.grown {w v v' : World} {P Q : Nat} {x1 y1 x2 y2 : Int} {cb n cap bud bud' : Nat} {a : Option Addr} (h : Dz w v P Q x1 y1 x2 y2 cb n cap bud a) (hC : Cur v' cb a n cap bud') (hg : v.grownBy v' (some cb)) : Dz w v' P Q x1 y1 x2 y2 cb n cap bud' a := by
  obtain ⟨h1, h2, h3, h4, _, h6, h7, h8, h9, h10, h11⟩ := h
  exact ⟨h1.grown hg (by omega), h2.grown hg (by omega), h3.grown hg h7, h4.grown hg h8, hC, h6, h7, h8, h9, h10, below_of_grown h11 hg (by omega)⟩

set_option maxHeartbeats 3200000 in
theorem drawWiden_any (n cap : Nat) (a : Option Addr) (w : World) (hn : n ≤ 1048576) (hb0 : Bytes w w.heap.size a n) :
    Calls Tryd.prog 6 #[.slice a n cap] w fun e w' => ∃ (x1 y1 x2 y2 : Int) (l : List Int) (g cp : Nat), e = .returned (.tuple #[.agg #[.int .i64 x1, .int .i64 y1], .agg #[.int .i64 x2, .int .i64 y2], .slice (some ⟨g, 0, none⟩) l.length cp]) ∧ l.length ≤ 30 ∧ IntsIn w' l g 0 ∧ g < w'.heap.size ∧ Below w.heap.size w w' := by
  have BA := mkHid (bl_alloc (bl_alloc (Below.refl w.heap.size w) (.cells #[.int .i64 0, .int .i64 0] 25)) (.cells #[.int .i64 0, .int .i64 0] 25))
  have HY := mkHid (hb0.up (by simp; omega : w.heap.size ≤ ((w.alloc (.cells #[.int .i64 0, .int .i64 0] 25)).alloc (.cells #[.int .i64 0, .int .i64 0] 25)).heap.size) BA.out)
  have X0 := mkHid (show Box ((w.alloc (.cells #[.int .i64 0, .int .i64 0] 25)).alloc (.cells #[.int .i64 0, .int .i64 0] 25)) w.heap.size 0 0 by refine ⟨?_, ?_, ?_, ?_⟩ <;> simp [go_sem])
  have X1 := mkHid (show Box ((w.alloc (.cells #[.int .i64 0, .int .i64 0] 25)).alloc (.cells #[.int .i64 0, .int .i64 0] 25)) (w.heap.size + 1) 0 0 by refine ⟨?_, ?_, ?_, ?_⟩ <;> simp [go_sem])
  clear hb0
  go_enter Tryd.func6, Tryd.ntmps6
  go_wp2_with fail
  refine (openC_any n cap a _ hn HY.out).mono ?_
  rintro e w1 ⟨cb, rfl, hcb, hC, hb⟩
  have hcb2 : w.heap.size + 2 ≤ cb := by simp at hcb; omega
  have X0 := mkHid (X0.out.below hb)
  have X1 := mkHid (X1.out.below hb)
  have BA := mkHid (below_step BA.out hb)
  have HC := mkHid hC
  clear hb hcb hC HY
  go_wp2_with fail
  refine (drawRange_any cb n cap 400060 a _ (HC.out.less (by omega))).mono ?_
  rintro e w2 ⟨x1, y1, rfl, hC, hg⟩
  have X0 := mkHid (X0.out.grown hg (by omega))
  have X1 := mkHid (X1.out.grown hg (by omega))
  have BA := mkHid (below_of_grown BA.out hg (by omega))
  have HC := mkHid hC
  clear hC hg
  have hal := below_alloc w2 (.cells #[.int .i64 x1, .int .i64 y1] 25)
  have X0 := mkHid (X0.out.below hal)
  have X1 := mkHid (X1.out.below hal)
  have X2 := mkHid (show Box (w2.alloc (.cells #[.int .i64 x1, .int .i64 y1] 25)) w2.heap.size x1 y1 by refine ⟨?_, ?_, ?_, ?_⟩ <;> simp [go_sem])
  have BA := mkHid (below_step BA.out hal)
  have hlt := HC.out.lt
  have HC := mkHid (HC.out.below hal)
  clear hal
  obtain ⟨P, hP⟩ : ∃ P, P = w2.heap.size := ⟨_, rfl⟩
  have hPc : P ≠ cb := by omega
  have hPw : w.heap.size + 1 < P := by omega
  obtain ⟨v2, hv2⟩ : ∃ v, v = w2.alloc (.cells #[.int .i64 x1, .int .i64 y1] 25) := ⟨_, rfl⟩
  go_wp2_with fail
  rw [← hv2, ← hP]
  rw [← hv2] at HC X0 X1 X2 BA
  rw [← hP] at X2
  clear hv2 hP hlt
  refine (drawRange_any cb n cap 400050 a _ (HC.out.less (by omega))).mono ?_
  rintro e w3 ⟨x2, y2, rfl, hC, hg⟩
  have X0 := mkHid (X0.out.grown hg (by omega))
  have X1 := mkHid (X1.out.grown hg (by omega))
  have X2 := mkHid (X2.out.grown hg hPc)
  have BA := mkHid (below_of_grown BA.out hg (by omega))
  have hlt := hC.lt
  have hal := below_alloc w3 (.cells #[.int .i64 x2, .int .i64 y2] 25)
  have K : Hid (Dz w (w3.alloc (.cells #[.int .i64 x2, .int .i64 y2] 25)) P w3.heap.size x1 y1 x2 y2 cb n cap 400050 a) := mkHid ⟨X0.out.below hal, X1.out.below hal, X2.out.below hal, (by refine ⟨?_, ?_, ?_, ?_⟩ <;> simp [go_sem]), hC.below hal, hcb2, hPc, by omega, hPw, by omega, below_step BA.out hal⟩
  clear hC hg X0 X1 X2 BA hal HC
  obtain ⟨Q, hQ⟩ : ∃ Q, Q = w3.heap.size := ⟨_, rfl⟩
  obtain ⟨v3, hv3⟩ : ∃ v, v = w3.alloc (.cells #[.int .i64 x2, .int .i64 y2] 25) := ⟨_, rfl⟩
  go_wp2_with fail
  rw [← hv3, ← hQ]
  rw [← hv3, ← hQ] at K
  clear hv3 hQ hlt hPc hPw hcb2
  obtain ⟨⟨p0, p1, p2, p3⟩, ⟨p4, p5, p6, p7⟩, ⟨p8, p9, p10, p11⟩, ⟨p12, p13, p14, p15⟩, _, d1, d2, d3, d4, d5, hB⟩ := K.out
  go_region_held3 (fun v => v.cell? ⟨P, 0, none⟩ = some (.int .i64 x1) ∧ v.cell? ⟨P, 1, none⟩ = some (.int .i64 y1) ∧ v.cell? ⟨Q, 0, none⟩ = some (.int .i64 x2) ∧ v.cell? ⟨Q, 1, none⟩ = some (.int .i64 y2)) (first | (simp (maxDischargeDepth := 12) [*, go_sem]; done) | assumption) (first | (go_at_call 21; refine (drawSteps_any cb n cap 400000 a _ ((K.out.2.2.2.2.1.below ((Below.refl _ _).drew)).less (by omega))).mono ?_; rintro e w9 ⟨l, g, cp, rfl, hl, hR⟩; have K := mkHid (K.out.grown hR.2.1 (grown_trans (grown_of_below ((Below.refl _ _).drew) (some cb)) hR.2.2.2)); have HI := mkHid hR.ints; have hgb := (World.ownsRow.lt hR.1 g rfl).1; have hgs := (World.ownsRow.lt hR.1 g rfl).2; have hgw : w.heap.size + 1 < g := (by have hq9 : Q < v3.heap.size := World.block_lt_of_cell? v3 _ p12; have : v3.heap.size ≤ g := hgb; omega); clear hR hgb; obtain ⟨⟨p0, p1, p2, p3⟩, ⟨p4, p5, p6, p7⟩, ⟨p8, p9, p10, p11⟩, ⟨p12, p13, p14, p15⟩, _, d1, d2, d3, d4, d5, hB⟩ := K.out))
  all_goals
    go_wp2
    have hbx : Below w.heap.size w ((((w9.setCell ⟨w.heap.size, 0, none⟩ (.int .i64 x1)).setCell ⟨w.heap.size, 1, none⟩ (.int .i64 y1)).setCell ⟨w.heap.size + 1, 0, none⟩ (.int .i64 x2)).setCell ⟨w.heap.size + 1, 1, none⟩ (.int .i64 y2)) := (by repeat (first | with_reducible exact Below.refl _ _ | (with_reducible refine bl_set2 ?_ ?_ _; (first | (simp; done) | (simp [*]; done) | (simp [*] <;> omega))) | with_reducible refine bl_drew ?_ | with_reducible refine bl_alloc ?_ _ | with_reducible refine below_step ?_ (by assumption) | with_reducible assumption))
    have hii : IntsIn ((((w9.setCell ⟨w.heap.size, 0, none⟩ (.int .i64 x1)).setCell ⟨w.heap.size, 1, none⟩ (.int .i64 y1)).setCell ⟨w.heap.size + 1, 0, none⟩ (.int .i64 x2)).setCell ⟨w.heap.size + 1, 1, none⟩ (.int .i64 y2)) l g 0 := (((HI.out.set (by omega)).set (by omega)).set (by omega)).set (by omega)
    exact bodyPost_ret (v := .tuple #[.agg #[.int .i64 x1, .int .i64 y1], .agg #[.int .i64 x2, .int .i64 y2], .slice (some ⟨g, 0, none⟩) l.length cp]) (by simp [results, Tryd.results6, go_sem, *]) rfl ⟨x1, y1, x2, y2, l, g, cp, rfl, hl, hii, by simpa using hgs, hbx⟩

set_option maxRecDepth 100000 in
theorem big_any (n cap : Nat) (a : Option Addr) (w : World) (hn : n ≤ maxLen) : Calls Tryd.prog 4 #[.slice a n cap] w fun e w' => e = .returned (.bool (decide (1048576 < n))) ∧ w = w' := by
  unfold maxLen at hn
  by_cases h : 1048576 < n
  · have h' : (1048576 : Int) < (n : Int) := by omega
    go_enter Tryd.func4, Tryd.ntmps4
    go_wp2
    go_ret
    exact ⟨ret_bool (by first | rfl | simp [h]), rfl⟩
  · have h' : ¬ (1048576 : Int) < (n : Int) := by omega
    go_enter Tryd.func4, Tryd.ntmps4
    go_wp2
    go_ret
    exact ⟨ret_bool (by first | rfl | simp [h]), rfl⟩
end Go.Proofs.YtgkmpadeleebdaaDoor.Q
