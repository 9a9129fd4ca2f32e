/-
  FnRangeSums holds at every row of bytes: no conditions.
-/
import Derived.Test.YtgkmpadeleebdaaPs
import Derived.Test.YtgkmpadeleebdaaDmu
import Derived.Test.YtgkmpadeleebdaaInv
import Derived.Test.YtgkmpadeleebdaaImu
import Derived.Test.YtgkmpadeleebdaaIp
import Derived.Test.YtgkmpadeleebdaaSpb
import Derived.ProofKit
import Derived.OpenShut
import Derived.ChangeOld
import Derived.ChangeSlices
import Derived.Deep.LoopGhost
namespace Go.Proofs.Ytgkmpadeleebdaa
open Go.ChangeShapes Go.WideShapes Go.ChangeAt Go.RowKit Go.Joins
attribute [local go_sem] nlt2 nlt3 nlt4 nle2 nle3 nle4 drew_size drew_cell drew_frozen

theorem neq_rng (w : World) (a b c d : Int) : (Go.binOp .neq 25 (.agg #[.int .i64 a, .int .i64 b]) (.agg #[.int .i64 c, .int .i64 d])).run Try.prog w = .ok (.bool (!eqB a b c d)) w := by
  have u3 := Try.underlying3
  have a3 := Try.isAgg3
  have z3 := Try.sizeOf3
  have hS : Try.prog.underlying 25 = some (.struct (Try.prog.fieldsOf 25)) := by kernel_rfl
  have hp : Try.prog.stoodInHeld 25 = false := by kernel_rfl
  rw [run_neq_struct, show (10000 : Nat) = 9999 + 1 from rfl, run_equalIn_agg w 9999 25 _ _ hS hp]
  simp only [Program.fieldsOf, Try.underlying25]
  go_simp
  unfold eqB
  by_cases h1 : a = c <;> by_cases h2 : b = d <;> simp [h1, h2]
attribute [local go_sem] nlt2 nlt3 nlt4 nle2 nle3 nle4 drew_size drew_cell drew_frozen
theorem grown_setCell (w : World) (p : Addr) (v : Value) : w.grownBy (w.setCell p v) (some p.block) :=
  ⟨rfl, rfl, rfl, by simp [World.setCell], fun k _ hne => Below.heap_setCell _ _ _ _ (fun e => hne (by rw [e]))⟩
theorem some_ne {a b : Nat} (h : a ≠ b) : some a ≠ some b := fun e => h (Option.some.inj e)
def sel (b : Bool) (x : Int) : Int := if b then x else 0
theorem put2 (v : World) (X : Nat) (p q : Int) : v.grownBy ((v.setCell ⟨X, 0, none⟩ (.int .i64 p)).setCell ⟨X, 1, none⟩ (.int .i64 q)) (some X) := grown_trans (grown_setCell v ⟨X, 0, none⟩ _) (grown_setCell _ ⟨X, 1, none⟩ _)
theorem box_new (v : World) {p q : Int} : Box (v.alloc (.cells #[.int .i64 0, .int .i64 0] 25)) v.heap.size (sel false p) (sel false q) := by
  refine ⟨?_, ?_, ?_, ?_⟩ <;> simp [go_sem, sel]
theorem box_put {v : World} {X : Nat} {x y : Int} (h : Box v X x y) (p q : Int) : Box ((v.setCell ⟨X, 0, none⟩ (.int .i64 p)).setCell ⟨X, 1, none⟩ (.int .i64 q)) X (sel true p) (sel true q) := by
  obtain ⟨h0, h1, h2, h3⟩ := h
  refine ⟨?_, ?_, ?_, ?_⟩ <;> simp [go_sem, sel, h0, h1, h2, h3]
theorem Box_new9 (w : World) (x y : Int) (T : TypeId) : Box (w.alloc (.cells #[.int .i64 x, .int .i64 y] T)) w.heap.size x y := by refine ⟨?_, ?_, ?_, ?_⟩ <;> simp [go_sem]
/-- Three ranges made and stored in whatever order. -/
structure Bx3 (w0 v : World) (a1 a2 a3 s1 s2 s3 : Bool) (X1 X2 X3 : Nat) (p1 q1 p2 q2 p3 q3 : Int) : Prop where
  bel : Below w0.heap.size w0 v
  x1 : a1 = true → w0.heap.size ≤ X1 ∧ Box v X1 (sel s1 p1) (sel s1 q1)
  x2 : a2 = true → w0.heap.size ≤ X2 ∧ Box v X2 (sel s2 p2) (sel s2 q2)
  x3 : a3 = true → w0.heap.size ≤ X3 ∧ Box v X3 (sel s3 p3) (sel s3 q3)
  n12 : a1 = true → a2 = true → X1 ≠ X2
  n13 : a1 = true → a3 = true → X1 ≠ X3
  n23 : a2 = true → a3 = true → X2 ≠ X3
  o1 : s1 = true → a1 = true
  o2 : s2 = true → a2 = true
  o3 : s3 = true → a3 = true
theorem Bx3.start (w0 : World) (p1 q1 p2 q2 p3 q3 : Int) : Bx3 w0 w0.drew false false false false false false 0 0 0 p1 q1 p2 q2 p3 q3 :=
  { bel := (Below.refl _ _).drew, x1 := fun e => ft e, x2 := fun e => ft e, x3 := fun e => ft e, n12 := fun e => ft e, n13 := fun e => ft e, n23 := fun e => ft e, o1 := fun e => ft e, o2 := fun e => ft e, o3 := fun e => ft e }
theorem Bx3.call {w0 v v' : World} {a1 a2 a3 s1 s2 s3 : Bool} {X1 X2 X3 : Nat} {p1 q1 p2 q2 p3 q3 : Int} (h : Bx3 w0 v a1 a2 a3 s1 s2 s3 X1 X2 X3 p1 q1 p2 q2 p3 q3) (hb : Below v.heap.size v v') : Bx3 w0 v' a1 a2 a3 s1 s2 s3 X1 X2 X3 p1 q1 p2 q2 p3 q3 :=
  { bel := below_step h.bel hb, x1 := fun e => ⟨(h.x1 e).1, (h.x1 e).2.below hb⟩, x2 := fun e => ⟨(h.x2 e).1, (h.x2 e).2.below hb⟩, x3 := fun e => ⟨(h.x3 e).1, (h.x3 e).2.below hb⟩, n12 := h.n12, n13 := h.n13, n23 := h.n23, o1 := h.o1, o2 := h.o2, o3 := h.o3 }
theorem Bx3.al1 {w0 v : World} {a2 a3 s1 s2 s3 : Bool} {X1 X2 X3 : Nat} {p1 q1 p2 q2 p3 q3 : Int} (h : Bx3 w0 v false a2 a3 s1 s2 s3 X1 X2 X3 p1 q1 p2 q2 p3 q3) : Bx3 w0 (v.alloc (.cells #[.int .i64 0, .int .i64 0] 25)) true a2 a3 s1 s2 s3 v.heap.size X2 X3 p1 q1 p2 q2 p3 q3 := by
  have hs : s1 = false := by
    cases e : s1 with
    | false => rfl
    | true => exact absurd (h.o1 e) Bool.false_ne_true
  have hb := bl_alloc (Below.refl v.heap.size v) (.cells #[.int .i64 0, .int .i64 0] 25)
  exact { bel := below_step h.bel hb, x1 := fun _ => ⟨h.bel.size, by rw [hs]; exact box_new v⟩, x2 := fun e => ⟨(h.x2 e).1, (h.x2 e).2.below hb⟩, x3 := fun e => ⟨(h.x3 e).1, (h.x3 e).2.below hb⟩, n12 := fun _ e => Nat.ne_of_gt (h.x2 e).2.lt, n13 := fun _ e => Nat.ne_of_gt (h.x3 e).2.lt, n23 := h.n23, o1 := fun _ => rfl, o2 := h.o2, o3 := h.o3 }
theorem Bx3.st1 {w0 v : World} {a2 a3 s2 s3 : Bool} {X1 X2 X3 : Nat} {p1 q1 p2 q2 p3 q3 : Int} (h : Bx3 w0 v true a2 a3 false s2 s3 X1 X2 X3 p1 q1 p2 q2 p3 q3) : Bx3 w0 ((v.setCell ⟨X1, 0, none⟩ (.int .i64 p1)).setCell ⟨X1, 1, none⟩ (.int .i64 q1)) true a2 a3 true s2 s3 X1 X2 X3 p1 q1 p2 q2 p3 q3 := by
  have hg := put2 v X1 p1 q1
  have hx := h.x1 rfl
  exact { bel := h.bel.grown hg h.bel.size (fun k hk => by cases hk; exact hx.1), x1 := fun _ => ⟨hx.1, box_put hx.2 _ _⟩, x2 := fun e => ⟨(h.x2 e).1, (h.x2 e).2.grown hg (fun q => h.n12 rfl e q.symm)⟩, x3 := fun e => ⟨(h.x3 e).1, (h.x3 e).2.grown hg (fun q => h.n13 rfl e q.symm)⟩, n12 := h.n12, n13 := h.n13, n23 := h.n23, o1 := fun _ => rfl, o2 := h.o2, o3 := h.o3 }
theorem Bx3.al2 {w0 v : World} {a1 a3 s1 s2 s3 : Bool} {X1 X2 X3 : Nat} {p1 q1 p2 q2 p3 q3 : Int} (h : Bx3 w0 v a1 false a3 s1 s2 s3 X1 X2 X3 p1 q1 p2 q2 p3 q3) : Bx3 w0 (v.alloc (.cells #[.int .i64 0, .int .i64 0] 25)) a1 true a3 s1 s2 s3 X1 v.heap.size X3 p1 q1 p2 q2 p3 q3 := by
  have hs : s2 = false := by
    cases e : s2 with
    | false => rfl
    | true => exact absurd (h.o2 e) Bool.false_ne_true
  have hb := bl_alloc (Below.refl v.heap.size v) (.cells #[.int .i64 0, .int .i64 0] 25)
  exact { bel := below_step h.bel hb, x1 := fun e => ⟨(h.x1 e).1, (h.x1 e).2.below hb⟩, x2 := fun _ => ⟨h.bel.size, by rw [hs]; exact box_new v⟩, x3 := fun e => ⟨(h.x3 e).1, (h.x3 e).2.below hb⟩, n12 := fun e _ => Nat.ne_of_lt (h.x1 e).2.lt, n13 := h.n13, n23 := fun _ e => Nat.ne_of_gt (h.x3 e).2.lt, o1 := h.o1, o2 := fun _ => rfl, o3 := h.o3 }
theorem Bx3.st2 {w0 v : World} {a1 a3 s1 s3 : Bool} {X1 X2 X3 : Nat} {p1 q1 p2 q2 p3 q3 : Int} (h : Bx3 w0 v a1 true a3 s1 false s3 X1 X2 X3 p1 q1 p2 q2 p3 q3) : Bx3 w0 ((v.setCell ⟨X2, 0, none⟩ (.int .i64 p2)).setCell ⟨X2, 1, none⟩ (.int .i64 q2)) a1 true a3 s1 true s3 X1 X2 X3 p1 q1 p2 q2 p3 q3 := by
  have hg := put2 v X2 p2 q2
  have hx := h.x2 rfl
  exact { bel := h.bel.grown hg h.bel.size (fun k hk => by cases hk; exact hx.1), x1 := fun e => ⟨(h.x1 e).1, (h.x1 e).2.grown hg (h.n12 e rfl)⟩, x2 := fun _ => ⟨hx.1, box_put hx.2 _ _⟩, x3 := fun e => ⟨(h.x3 e).1, (h.x3 e).2.grown hg (fun q => h.n23 rfl e q.symm)⟩, n12 := h.n12, n13 := h.n13, n23 := h.n23, o1 := h.o1, o2 := fun _ => rfl, o3 := h.o3 }
theorem Bx3.al3 {w0 v : World} {a1 a2 s1 s2 s3 : Bool} {X1 X2 X3 : Nat} {p1 q1 p2 q2 p3 q3 : Int} (h : Bx3 w0 v a1 a2 false s1 s2 s3 X1 X2 X3 p1 q1 p2 q2 p3 q3) : Bx3 w0 (v.alloc (.cells #[.int .i64 0, .int .i64 0] 25)) a1 a2 true s1 s2 s3 X1 X2 v.heap.size p1 q1 p2 q2 p3 q3 := by
  have hs : s3 = false := by
    cases e : s3 with
    | false => rfl
    | true => exact absurd (h.o3 e) Bool.false_ne_true
  have hb := bl_alloc (Below.refl v.heap.size v) (.cells #[.int .i64 0, .int .i64 0] 25)
  exact { bel := below_step h.bel hb, x1 := fun e => ⟨(h.x1 e).1, (h.x1 e).2.below hb⟩, x2 := fun e => ⟨(h.x2 e).1, (h.x2 e).2.below hb⟩, x3 := fun _ => ⟨h.bel.size, by rw [hs]; exact box_new v⟩, n12 := h.n12, n13 := fun e _ => Nat.ne_of_lt (h.x1 e).2.lt, n23 := fun e _ => Nat.ne_of_lt (h.x2 e).2.lt, o1 := h.o1, o2 := h.o2, o3 := fun _ => rfl }
theorem Bx3.st3 {w0 v : World} {a1 a2 s1 s2 : Bool} {X1 X2 X3 : Nat} {p1 q1 p2 q2 p3 q3 : Int} (h : Bx3 w0 v a1 a2 true s1 s2 false X1 X2 X3 p1 q1 p2 q2 p3 q3) : Bx3 w0 ((v.setCell ⟨X3, 0, none⟩ (.int .i64 p3)).setCell ⟨X3, 1, none⟩ (.int .i64 q3)) a1 a2 true s1 s2 true X1 X2 X3 p1 q1 p2 q2 p3 q3 := by
  have hg := put2 v X3 p3 q3
  have hx := h.x3 rfl
  exact { bel := h.bel.grown hg h.bel.size (fun k hk => by cases hk; exact hx.1), x1 := fun e => ⟨(h.x1 e).1, (h.x1 e).2.grown hg (h.n13 e rfl)⟩, x2 := fun e => ⟨(h.x2 e).1, (h.x2 e).2.grown hg (h.n23 e rfl)⟩, x3 := fun _ => ⟨hx.1, box_put hx.2 _ _⟩, n12 := h.n12, n13 := h.n13, n23 := h.n23, o1 := h.o1, o2 := h.o2, o3 := fun _ => rfl }

set_option maxRecDepth 100000 in
set_option maxHeartbeats 12800000 in
theorem law_walk (a0 : Option Addr) (n0 c0 : Nat) (w : World) (hn0 : n0 ≤ maxLen) (hb0 : Bytes w w.heap.size a0 n0) : Calls Try.prog 3 #[.slice a0 n0 c0] w fun e w' => e = .returned (.bool true) ∧ Below w.heap.size w w' := by
  have HBY := mkHid hb0
  have HN0 := mkHid hn0
  clear hb0 hn0
  have hEq := eql_rng
  have hNq := neq_rng
  by_cases g1 : 1048576 < n0
  · have e1 : decide (1048576 < n0) = true := decide_eq_true g1
    go_enter Try.func3, Try.ntmps3
    go_wp2_with fail
    refine (big_any n0 _ _ _ HN0.out).mono ?_
    rintro e w' ⟨rfl, rfl⟩
    go_wp2
    go_ret
    exact ⟨rfl, Below.refl _ _⟩
  have e1 : decide (1048576 < n0) = false := decide_eq_false g1
  have HM0 := mkHid (show n0 ≤ 1048576 by omega)
  clear g1
  go_enter Try.func3, Try.ntmps3
  go_wp2_with fail
  refine (big_any n0 _ _ _ HN0.out).mono ?_
  rintro e w' ⟨rfl, rfl⟩
  go_wp2_with fail
  refine (drawMul_any n0 c0 a0 w HM0.out HBY.out).mono ?_
  rintro e w1 ⟨a, b, c, d, rfl, hb⟩
  obtain ⟨A3, hA3⟩ : ∃ x, w1.heap.size = x := ⟨_, rfl⟩
  obtain ⟨wz, hwz⟩ : ∃ x, (w1.alloc (.cells #[.int .i64 a, .int .i64 b] 25)).alloc (.cells #[.int .i64 c, .int .i64 d] 25) = x := ⟨_, rfl⟩
  have BZ : Hid (Below w.heap.size w wz) := mkHid (by rw [← hwz]; exact bl_alloc (bl_alloc hb _) _)
  have K3 : Hid (∀ va, Below wz.heap.size wz va → Box va A3 a b) := mkHid fun va h => Box.below (by rw [← hwz, ← hA3]; have := (Box_new9 w1 a b 25).below (bl_alloc (Below.refl _ _) (.cells #[.int .i64 c, .int .i64 d] 25)); exact this) h
  have K4 : Hid (∀ va, Below wz.heap.size wz va → Box va (A3 + 1) c d) := mkHid fun va h => Box.below (by rw [← hwz, ← hA3]; have := Box_new9 (w1.alloc (.cells #[.int .i64 a, .int .i64 b] 25)) c d 25; simpa using this) h
  obtain ⟨p1, hp1⟩ : ∃ x, (addM a b c d).1 = x := ⟨_, rfl⟩
  obtain ⟨q1, hq1⟩ : ∃ x, (addM a b c d).2 = x := ⟨_, rfl⟩
  obtain ⟨p2, hp2⟩ : ∃ x, (subM a b c d).1 = x := ⟨_, rfl⟩
  obtain ⟨q2, hq2⟩ : ∃ x, (subM a b c d).2 = x := ⟨_, rfl⟩
  obtain ⟨p3, hp3⟩ : ∃ x, (mulM a b c d).1 = x := ⟨_, rfl⟩
  obtain ⟨q3, hq3⟩ : ∃ x, (mulM a b c d).2 = x := ⟨_, rfl⟩
  obtain ⟨p4, hp4⟩ : ∃ x, (negM a b).1 = x := ⟨_, rfl⟩
  obtain ⟨q4, hq4⟩ : ∃ x, (negM a b).2 = x := ⟨_, rfl⟩
  have H1 := mkHid (fun v => iAdd_any a b c d v)
  have H2 := mkHid (fun v => iSub_any a b c d v)
  have H3 := mkHid (fun v => iMul_any a b c d v)
  have H4 := mkHid (fun v => iNeg_any a b v)
  have G1 := mkHid (fun v => sAdd_any a b c d v)
  have G2 := mkHid (fun v => sSub_any a b c d v)
  have G3 := mkHid (fun v => sMul_any a b c d v)
  have G4 := mkHid (fun v => sNeg_any a b v)
  rw [hp1, hq1] at H1 G1
  rw [hp2, hq2] at H2 G2
  rw [hp3, hq3] at H3 G3
  rw [hp4, hq4] at H4 G4
  have HA := mkHid (fun x y (h : bothB a b c d = true) x1 x2 y1 y2 h3 h4 => add_has (a := a) (b := b) (c := c) (d := d) (x := x) (y := y) h x1 x2 y1 y2 h3 h4)
  have HS := mkHid (fun x y (h : bothB a b c d = true) x1 x2 y1 y2 h3 h4 => sub_has (a := a) (b := b) (c := c) (d := d) (x := x) (y := y) h x1 x2 y1 y2 h3 h4)
  have HM := mkHid (fun x y (h : bothB a b c d = true) x1 x2 y1 y2 h3 h4 => mul_has (a := a) (b := b) (c := c) (d := d) (x := x) (y := y) h x1 x2 y1 y2 h3 h4)
  have HNG := mkHid (fun x (h : someB a b = true) x1 x2 => neg_has (a := a) (b := b) (x := x) h x1 x2)
  rw [hp1, hq1] at HA
  rw [hp2, hq2] at HS
  rw [hp3, hq3] at HM
  rw [hp4, hq4] at HNG
  clear hb hp1 hq1 hp2 hq2 hp3 hq3 hp4 hq4
  go_wp2_with fail
  clear hwz hA3
  refine wp_region_inv2 (fun zA0 L zA va => ∃ (zB : Nat → Bool) (zS : Nat → Value) (X1 : Nat) (X2 : Nat) (X3 : Nat), L = #[zB 0, zB 1, zB 2, zB 3, zB 4, zB 5, zB 6, zB 7, zB 8, zB 9, zB 10, zB 11, zB 12, zB 13, zB 14] ∧ zA = puts zA0 [(18, zS 18), (19, zS 19), (20, zS 20), (21, zS 21), (22, zS 22), (23, zS 23), (24, zS 24), (25, zS 25), (26, zS 26), (5, zS 5), (6, zS 6), (7, zS 7)] ∧ ((zB 0 = true → zS 18 = .agg #[.int .i64 a, .int .i64 b]) ∧ (zB 1 = true → zS 19 = .agg #[.int .i64 c, .int .i64 d]) ∧ (zB 2 = true → zS 20 = .agg #[.int .i64 p1, .int .i64 q1]) ∧ (zB 3 = true → zS 21 = .agg #[.int .i64 a, .int .i64 b]) ∧ (zB 4 = true → zS 22 = .agg #[.int .i64 c, .int .i64 d]) ∧ (zB 5 = true → zS 23 = .agg #[.int .i64 p2, .int .i64 q2]) ∧ (zB 6 = true → zS 24 = .agg #[.int .i64 a, .int .i64 b]) ∧ (zB 7 = true → zS 25 = .agg #[.int .i64 c, .int .i64 d]) ∧ (zB 8 = true → zS 26 = .agg #[.int .i64 p3, .int .i64 q3]) ∧ (zB 9 = true → zS 5 = .pointer (some ⟨X1, 0, none⟩)) ∧ (zB 10 = true → zS 6 = .pointer (some ⟨X2, 0, none⟩)) ∧ (zB 11 = true → zS 7 = .pointer (some ⟨X3, 0, none⟩))) ∧ Bx3 wz va (zB 9) (zB 10) (zB 11) (zB 12) (zB 13) (zB 14) X1 X2 X3 p1 q1 p2 q2 p3 q3) (by kernel_rfl) ?_ ?_ ?_
  · exact ⟨fun _ => false, fun _ => undef, 0, 0, 0, rfl, by kernel_rfl, ⟨fun e => ft e, fun e => ft e, fun e => ft e, fun e => ft e, fun e => ft e, fun e => ft e, fun e => ft e, fun e => ft e, fun e => ft e, fun e => ft e, fun e => ft e, fun e => ft e⟩, Bx3.start _ _ _ _ _ _ _⟩
  · refine StepsI.cons rfl ?_ ?_
    · rintro L zA va ⟨zB, zS, X1, X2, X3, rfl, rfl, hF, hW⟩ hL hm K hK
      have hb0 : zB 0 = false := by simpa using hL
      clear hL hm
      simp only [puts, Act.put, List.setIfInBounds_toArray, List.set_cons_zero, List.set_cons_succ]
      obtain ⟨y0, y1, y2, y3⟩ := K3.out va hW.bel
      have HWz := mkHid hW
      clear hW
      go_simp
      have hW := HWz.out
      clear HWz
      exact hK.out _ _ ⟨fun zj => if zj = 0 then true else zB zj, fun zd => if zd = 18 then .agg #[.int .i64 a, .int .i64 b] else zS zd, X1, X2, X3, rfl, by kernel_rfl, ⟨fun _ => rfl, hF.2.1, hF.2.2.1, hF.2.2.2.1, hF.2.2.2.2.1, hF.2.2.2.2.2.1, hF.2.2.2.2.2.2.1, hF.2.2.2.2.2.2.2.1, hF.2.2.2.2.2.2.2.2.1, hF.2.2.2.2.2.2.2.2.2.1, hF.2.2.2.2.2.2.2.2.2.2.1, hF.2.2.2.2.2.2.2.2.2.2.2⟩, hW⟩
    refine StepsI.cons rfl ?_ ?_
    · rintro L zA va ⟨zB, zS, X1, X2, X3, rfl, rfl, hF, hW⟩ hL hm K hK
      have hb1 : zB 1 = false := by simpa using hL
      clear hL hm
      simp only [puts, Act.put, List.setIfInBounds_toArray, List.set_cons_zero, List.set_cons_succ]
      obtain ⟨y0, y1, y2, y3⟩ := K4.out va hW.bel
      have HWz := mkHid hW
      clear hW
      go_simp
      have hW := HWz.out
      clear HWz
      exact hK.out _ _ ⟨fun zj => if zj = 1 then true else zB zj, fun zd => if zd = 19 then .agg #[.int .i64 c, .int .i64 d] else zS zd, X1, X2, X3, rfl, by kernel_rfl, ⟨hF.1, fun _ => rfl, hF.2.2.1, hF.2.2.2.1, hF.2.2.2.2.1, hF.2.2.2.2.2.1, hF.2.2.2.2.2.2.1, hF.2.2.2.2.2.2.2.1, hF.2.2.2.2.2.2.2.2.1, hF.2.2.2.2.2.2.2.2.2.1, hF.2.2.2.2.2.2.2.2.2.2.1, hF.2.2.2.2.2.2.2.2.2.2.2⟩, hW⟩
    refine StepsI.cons rfl ?_ ?_
    · rintro L zA va ⟨zB, zS, X1, X2, X3, rfl, rfl, hF, hW⟩ hL hm K hK
      have hb2 : zB 2 = false := by simpa using hL
      have hb0 : zB 0 = true := by cases e : zB 0 with | false => (exfalso; revert hm; simp [metB, Region.binds, e]) | true => rfl
      have hb1 : zB 1 = true := by cases e : zB 1 with | false => (exfalso; revert hm; simp [metB, Region.binds, e]) | true => rfl
      have e0 : zS 18 = .agg #[.int .i64 a, .int .i64 b] := hF.1 hb0
      have e1 : zS 19 = .agg #[.int .i64 c, .int .i64 d] := hF.2.1 hb1
      clear hL hm
      simp only [puts, Act.put, List.setIfInBounds_toArray, List.set_cons_zero, List.set_cons_succ]
      simp only [e0, e1]
      have HWz := mkHid hW
      clear hW
      go_simp
      have hW := HWz.out
      clear HWz
      refine (H1.out _).mono ?_
      rintro e va2 ⟨rfl, hb⟩
      have HWz := mkHid hW
      clear hW
      go_wp2_with fail
      have hW := HWz.out
      clear HWz
      exact hK.out _ _ ⟨fun zj => if zj = 1 then true else if zj = 0 then true else if zj = 2 then true else zB zj, fun zd => if zd = 20 then .agg #[.int .i64 p1, .int .i64 q1] else if zd = 19 then .agg #[.int .i64 c, .int .i64 d] else if zd = 18 then .agg #[.int .i64 a, .int .i64 b] else zS zd, X1, X2, X3, by simp [hb0, hb1], by kernel_rfl, ⟨fun _ => rfl, fun _ => rfl, fun _ => rfl, hF.2.2.2.1, hF.2.2.2.2.1, hF.2.2.2.2.2.1, hF.2.2.2.2.2.2.1, hF.2.2.2.2.2.2.2.1, hF.2.2.2.2.2.2.2.2.1, hF.2.2.2.2.2.2.2.2.2.1, hF.2.2.2.2.2.2.2.2.2.2.1, hF.2.2.2.2.2.2.2.2.2.2.2⟩, hW.call hb⟩
    refine StepsI.cons rfl ?_ ?_
    · rintro L zA va ⟨zB, zS, X1, X2, X3, rfl, rfl, hF, hW⟩ hL hm K hK
      have hb3 : zB 3 = false := by simpa using hL
      clear hL hm
      simp only [puts, Act.put, List.setIfInBounds_toArray, List.set_cons_zero, List.set_cons_succ]
      obtain ⟨y0, y1, y2, y3⟩ := K3.out va hW.bel
      have HWz := mkHid hW
      clear hW
      go_simp
      have hW := HWz.out
      clear HWz
      exact hK.out _ _ ⟨fun zj => if zj = 3 then true else zB zj, fun zd => if zd = 21 then .agg #[.int .i64 a, .int .i64 b] else zS zd, X1, X2, X3, rfl, by kernel_rfl, ⟨hF.1, hF.2.1, hF.2.2.1, fun _ => rfl, hF.2.2.2.2.1, hF.2.2.2.2.2.1, hF.2.2.2.2.2.2.1, hF.2.2.2.2.2.2.2.1, hF.2.2.2.2.2.2.2.2.1, hF.2.2.2.2.2.2.2.2.2.1, hF.2.2.2.2.2.2.2.2.2.2.1, hF.2.2.2.2.2.2.2.2.2.2.2⟩, hW⟩
    refine StepsI.cons rfl ?_ ?_
    · rintro L zA va ⟨zB, zS, X1, X2, X3, rfl, rfl, hF, hW⟩ hL hm K hK
      have hb4 : zB 4 = false := by simpa using hL
      clear hL hm
      simp only [puts, Act.put, List.setIfInBounds_toArray, List.set_cons_zero, List.set_cons_succ]
      obtain ⟨y0, y1, y2, y3⟩ := K4.out va hW.bel
      have HWz := mkHid hW
      clear hW
      go_simp
      have hW := HWz.out
      clear HWz
      exact hK.out _ _ ⟨fun zj => if zj = 4 then true else zB zj, fun zd => if zd = 22 then .agg #[.int .i64 c, .int .i64 d] else zS zd, X1, X2, X3, rfl, by kernel_rfl, ⟨hF.1, hF.2.1, hF.2.2.1, hF.2.2.2.1, fun _ => rfl, hF.2.2.2.2.2.1, hF.2.2.2.2.2.2.1, hF.2.2.2.2.2.2.2.1, hF.2.2.2.2.2.2.2.2.1, hF.2.2.2.2.2.2.2.2.2.1, hF.2.2.2.2.2.2.2.2.2.2.1, hF.2.2.2.2.2.2.2.2.2.2.2⟩, hW⟩
    refine StepsI.cons rfl ?_ ?_
    · rintro L zA va ⟨zB, zS, X1, X2, X3, rfl, rfl, hF, hW⟩ hL hm K hK
      have hb5 : zB 5 = false := by simpa using hL
      have hb3 : zB 3 = true := by cases e : zB 3 with | false => (exfalso; revert hm; simp [metB, Region.binds, e]) | true => rfl
      have hb4 : zB 4 = true := by cases e : zB 4 with | false => (exfalso; revert hm; simp [metB, Region.binds, e]) | true => rfl
      have e3 : zS 21 = .agg #[.int .i64 a, .int .i64 b] := hF.2.2.2.1 hb3
      have e4 : zS 22 = .agg #[.int .i64 c, .int .i64 d] := hF.2.2.2.2.1 hb4
      clear hL hm
      simp only [puts, Act.put, List.setIfInBounds_toArray, List.set_cons_zero, List.set_cons_succ]
      simp only [e3, e4]
      have HWz := mkHid hW
      clear hW
      go_simp
      have hW := HWz.out
      clear HWz
      refine (H2.out _).mono ?_
      rintro e va2 ⟨rfl, hb⟩
      have HWz := mkHid hW
      clear hW
      go_wp2_with fail
      have hW := HWz.out
      clear HWz
      exact hK.out _ _ ⟨fun zj => if zj = 4 then true else if zj = 3 then true else if zj = 5 then true else zB zj, fun zd => if zd = 23 then .agg #[.int .i64 p2, .int .i64 q2] else if zd = 22 then .agg #[.int .i64 c, .int .i64 d] else if zd = 21 then .agg #[.int .i64 a, .int .i64 b] else zS zd, X1, X2, X3, by simp [hb3, hb4], by kernel_rfl, ⟨hF.1, hF.2.1, hF.2.2.1, fun _ => rfl, fun _ => rfl, fun _ => rfl, hF.2.2.2.2.2.2.1, hF.2.2.2.2.2.2.2.1, hF.2.2.2.2.2.2.2.2.1, hF.2.2.2.2.2.2.2.2.2.1, hF.2.2.2.2.2.2.2.2.2.2.1, hF.2.2.2.2.2.2.2.2.2.2.2⟩, hW.call hb⟩
    refine StepsI.cons rfl ?_ ?_
    · rintro L zA va ⟨zB, zS, X1, X2, X3, rfl, rfl, hF, hW⟩ hL hm K hK
      have hb6 : zB 6 = false := by simpa using hL
      clear hL hm
      simp only [puts, Act.put, List.setIfInBounds_toArray, List.set_cons_zero, List.set_cons_succ]
      obtain ⟨y0, y1, y2, y3⟩ := K3.out va hW.bel
      have HWz := mkHid hW
      clear hW
      go_simp
      have hW := HWz.out
      clear HWz
      exact hK.out _ _ ⟨fun zj => if zj = 6 then true else zB zj, fun zd => if zd = 24 then .agg #[.int .i64 a, .int .i64 b] else zS zd, X1, X2, X3, rfl, by kernel_rfl, ⟨hF.1, hF.2.1, hF.2.2.1, hF.2.2.2.1, hF.2.2.2.2.1, hF.2.2.2.2.2.1, fun _ => rfl, hF.2.2.2.2.2.2.2.1, hF.2.2.2.2.2.2.2.2.1, hF.2.2.2.2.2.2.2.2.2.1, hF.2.2.2.2.2.2.2.2.2.2.1, hF.2.2.2.2.2.2.2.2.2.2.2⟩, hW⟩
    refine StepsI.cons rfl ?_ ?_
    · rintro L zA va ⟨zB, zS, X1, X2, X3, rfl, rfl, hF, hW⟩ hL hm K hK
      have hb7 : zB 7 = false := by simpa using hL
      clear hL hm
      simp only [puts, Act.put, List.setIfInBounds_toArray, List.set_cons_zero, List.set_cons_succ]
      obtain ⟨y0, y1, y2, y3⟩ := K4.out va hW.bel
      have HWz := mkHid hW
      clear hW
      go_simp
      have hW := HWz.out
      clear HWz
      exact hK.out _ _ ⟨fun zj => if zj = 7 then true else zB zj, fun zd => if zd = 25 then .agg #[.int .i64 c, .int .i64 d] else zS zd, X1, X2, X3, rfl, by kernel_rfl, ⟨hF.1, hF.2.1, hF.2.2.1, hF.2.2.2.1, hF.2.2.2.2.1, hF.2.2.2.2.2.1, hF.2.2.2.2.2.2.1, fun _ => rfl, hF.2.2.2.2.2.2.2.2.1, hF.2.2.2.2.2.2.2.2.2.1, hF.2.2.2.2.2.2.2.2.2.2.1, hF.2.2.2.2.2.2.2.2.2.2.2⟩, hW⟩
    refine StepsI.cons rfl ?_ ?_
    · rintro L zA va ⟨zB, zS, X1, X2, X3, rfl, rfl, hF, hW⟩ hL hm K hK
      have hb8 : zB 8 = false := by simpa using hL
      have hb6 : zB 6 = true := by cases e : zB 6 with | false => (exfalso; revert hm; simp [metB, Region.binds, e]) | true => rfl
      have hb7 : zB 7 = true := by cases e : zB 7 with | false => (exfalso; revert hm; simp [metB, Region.binds, e]) | true => rfl
      have e6 : zS 24 = .agg #[.int .i64 a, .int .i64 b] := hF.2.2.2.2.2.2.1 hb6
      have e7 : zS 25 = .agg #[.int .i64 c, .int .i64 d] := hF.2.2.2.2.2.2.2.1 hb7
      clear hL hm
      simp only [puts, Act.put, List.setIfInBounds_toArray, List.set_cons_zero, List.set_cons_succ]
      simp only [e6, e7]
      have HWz := mkHid hW
      clear hW
      go_simp
      have hW := HWz.out
      clear HWz
      refine (H3.out _).mono ?_
      rintro e va2 ⟨rfl, hb⟩
      have HWz := mkHid hW
      clear hW
      go_wp2_with fail
      have hW := HWz.out
      clear HWz
      exact hK.out _ _ ⟨fun zj => if zj = 7 then true else if zj = 6 then true else if zj = 8 then true else zB zj, fun zd => if zd = 26 then .agg #[.int .i64 p3, .int .i64 q3] else if zd = 25 then .agg #[.int .i64 c, .int .i64 d] else if zd = 24 then .agg #[.int .i64 a, .int .i64 b] else zS zd, X1, X2, X3, by simp [hb6, hb7], by kernel_rfl, ⟨hF.1, hF.2.1, hF.2.2.1, hF.2.2.2.1, hF.2.2.2.2.1, hF.2.2.2.2.2.1, fun _ => rfl, fun _ => rfl, fun _ => rfl, hF.2.2.2.2.2.2.2.2.2.1, hF.2.2.2.2.2.2.2.2.2.2.1, hF.2.2.2.2.2.2.2.2.2.2.2⟩, hW.call hb⟩
    refine StepsI.cons rfl ?_ ?_
    · rintro L zA va ⟨zB, zS, X1, X2, X3, rfl, rfl, hF, hW⟩ hL hm K hK
      have hb9 : zB 9 = false := by simpa using hL
      clear hL hm
      rw [hb9] at hW
      simp only [puts, Act.put, List.setIfInBounds_toArray, List.set_cons_zero, List.set_cons_succ]
      have HWz := mkHid hW
      clear hW
      go_simp
      have hW := HWz.out
      clear HWz
      exact hK.out _ _ ⟨fun zj => if zj = 9 then true else zB zj, fun zd => if zd = 5 then .pointer (some ⟨va.heap.size, 0, none⟩) else zS zd, va.heap.size, X2, X3, rfl, by kernel_rfl, ⟨hF.1, hF.2.1, hF.2.2.1, hF.2.2.2.1, hF.2.2.2.2.1, hF.2.2.2.2.2.1, hF.2.2.2.2.2.2.1, hF.2.2.2.2.2.2.2.1, hF.2.2.2.2.2.2.2.2.1, fun _ => rfl, hF.2.2.2.2.2.2.2.2.2.2.1, hF.2.2.2.2.2.2.2.2.2.2.2⟩, hW.al1⟩
    refine StepsI.cons rfl ?_ ?_
    · rintro L zA va ⟨zB, zS, X1, X2, X3, rfl, rfl, hF, hW⟩ hL hm K hK
      have hb10 : zB 10 = false := by simpa using hL
      clear hL hm
      rw [hb10] at hW
      simp only [puts, Act.put, List.setIfInBounds_toArray, List.set_cons_zero, List.set_cons_succ]
      have HWz := mkHid hW
      clear hW
      go_simp
      have hW := HWz.out
      clear HWz
      exact hK.out _ _ ⟨fun zj => if zj = 10 then true else zB zj, fun zd => if zd = 6 then .pointer (some ⟨va.heap.size, 0, none⟩) else zS zd, X1, va.heap.size, X3, rfl, by kernel_rfl, ⟨hF.1, hF.2.1, hF.2.2.1, hF.2.2.2.1, hF.2.2.2.2.1, hF.2.2.2.2.2.1, hF.2.2.2.2.2.2.1, hF.2.2.2.2.2.2.2.1, hF.2.2.2.2.2.2.2.2.1, hF.2.2.2.2.2.2.2.2.2.1, fun _ => rfl, hF.2.2.2.2.2.2.2.2.2.2.2⟩, hW.al2⟩
    refine StepsI.cons rfl ?_ ?_
    · rintro L zA va ⟨zB, zS, X1, X2, X3, rfl, rfl, hF, hW⟩ hL hm K hK
      have hb11 : zB 11 = false := by simpa using hL
      clear hL hm
      rw [hb11] at hW
      simp only [puts, Act.put, List.setIfInBounds_toArray, List.set_cons_zero, List.set_cons_succ]
      have HWz := mkHid hW
      clear hW
      go_simp
      have hW := HWz.out
      clear HWz
      exact hK.out _ _ ⟨fun zj => if zj = 11 then true else zB zj, fun zd => if zd = 7 then .pointer (some ⟨va.heap.size, 0, none⟩) else zS zd, X1, X2, va.heap.size, rfl, by kernel_rfl, ⟨hF.1, hF.2.1, hF.2.2.1, hF.2.2.2.1, hF.2.2.2.2.1, hF.2.2.2.2.2.1, hF.2.2.2.2.2.2.1, hF.2.2.2.2.2.2.2.1, hF.2.2.2.2.2.2.2.2.1, hF.2.2.2.2.2.2.2.2.2.1, hF.2.2.2.2.2.2.2.2.2.2.1, fun _ => rfl⟩, hW.al3⟩
    refine StepsI.cons rfl ?_ ?_
    · rintro L zA va ⟨zB, zS, X1, X2, X3, rfl, rfl, hF, hW⟩ hL hm K hK
      have hb12 : zB 12 = false := by simpa using hL
      have hb2 : zB 2 = true := by cases e : zB 2 with | false => (exfalso; revert hm; simp [metB, Region.binds, e]) | true => rfl
      have hb9 : zB 9 = true := by cases e : zB 9 with | false => (exfalso; revert hm; simp [metB, Region.binds, e]) | true => rfl
      have e2 : zS 20 = .agg #[.int .i64 p1, .int .i64 q1] := hF.2.2.1 hb2
      have e9 : zS 5 = .pointer (some ⟨X1, 0, none⟩) := hF.2.2.2.2.2.2.2.2.2.1 hb9
      clear hL hm
      rw [hb12] at hW
      rw [hb9] at hW
      simp only [puts, Act.put, List.setIfInBounds_toArray, List.set_cons_zero, List.set_cons_succ]
      simp only [e2, e9]
      obtain ⟨y0, y1, y2, y3⟩ := (hW.x1 rfl).2
      have HWz := mkHid hW
      clear hW
      go_simp
      have hW := HWz.out
      clear HWz
      exact hK.out _ _ ⟨fun zj => if zj = 9 then true else if zj = 2 then true else if zj = 12 then true else zB zj, fun zd => if zd = 5 then .pointer (some ⟨X1, 0, none⟩) else if zd = 20 then .agg #[.int .i64 p1, .int .i64 q1] else zS zd, X1, X2, X3, by simp [hb2, hb9], by kernel_rfl, ⟨hF.1, hF.2.1, fun _ => rfl, hF.2.2.2.1, hF.2.2.2.2.1, hF.2.2.2.2.2.1, hF.2.2.2.2.2.2.1, hF.2.2.2.2.2.2.2.1, hF.2.2.2.2.2.2.2.2.1, fun _ => rfl, hF.2.2.2.2.2.2.2.2.2.2.1, hF.2.2.2.2.2.2.2.2.2.2.2⟩, hW.st1⟩
    refine StepsI.cons rfl ?_ ?_
    · rintro L zA va ⟨zB, zS, X1, X2, X3, rfl, rfl, hF, hW⟩ hL hm K hK
      have hb13 : zB 13 = false := by simpa using hL
      have hb5 : zB 5 = true := by cases e : zB 5 with | false => (exfalso; revert hm; simp [metB, Region.binds, e]) | true => rfl
      have hb10 : zB 10 = true := by cases e : zB 10 with | false => (exfalso; revert hm; simp [metB, Region.binds, e]) | true => rfl
      have e5 : zS 23 = .agg #[.int .i64 p2, .int .i64 q2] := hF.2.2.2.2.2.1 hb5
      have e10 : zS 6 = .pointer (some ⟨X2, 0, none⟩) := hF.2.2.2.2.2.2.2.2.2.2.1 hb10
      clear hL hm
      rw [hb13] at hW
      rw [hb10] at hW
      simp only [puts, Act.put, List.setIfInBounds_toArray, List.set_cons_zero, List.set_cons_succ]
      simp only [e5, e10]
      obtain ⟨y0, y1, y2, y3⟩ := (hW.x2 rfl).2
      have HWz := mkHid hW
      clear hW
      go_simp
      have hW := HWz.out
      clear HWz
      exact hK.out _ _ ⟨fun zj => if zj = 10 then true else if zj = 5 then true else if zj = 13 then true else zB zj, fun zd => if zd = 6 then .pointer (some ⟨X2, 0, none⟩) else if zd = 23 then .agg #[.int .i64 p2, .int .i64 q2] else zS zd, X1, X2, X3, by simp [hb5, hb10], by kernel_rfl, ⟨hF.1, hF.2.1, hF.2.2.1, hF.2.2.2.1, hF.2.2.2.2.1, fun _ => rfl, hF.2.2.2.2.2.2.1, hF.2.2.2.2.2.2.2.1, hF.2.2.2.2.2.2.2.2.1, hF.2.2.2.2.2.2.2.2.2.1, fun _ => rfl, hF.2.2.2.2.2.2.2.2.2.2.2⟩, hW.st2⟩
    refine StepsI.cons rfl ?_ ?_
    · rintro L zA va ⟨zB, zS, X1, X2, X3, rfl, rfl, hF, hW⟩ hL hm K hK
      have hb14 : zB 14 = false := by simpa using hL
      have hb8 : zB 8 = true := by cases e : zB 8 with | false => (exfalso; revert hm; simp [metB, Region.binds, e]) | true => rfl
      have hb11 : zB 11 = true := by cases e : zB 11 with | false => (exfalso; revert hm; simp [metB, Region.binds, e]) | true => rfl
      have e8 : zS 26 = .agg #[.int .i64 p3, .int .i64 q3] := hF.2.2.2.2.2.2.2.2.1 hb8
      have e11 : zS 7 = .pointer (some ⟨X3, 0, none⟩) := hF.2.2.2.2.2.2.2.2.2.2.2 hb11
      clear hL hm
      rw [hb14] at hW
      rw [hb11] at hW
      simp only [puts, Act.put, List.setIfInBounds_toArray, List.set_cons_zero, List.set_cons_succ]
      simp only [e8, e11]
      obtain ⟨y0, y1, y2, y3⟩ := (hW.x3 rfl).2
      have HWz := mkHid hW
      clear hW
      go_simp
      have hW := HWz.out
      clear HWz
      exact hK.out _ _ ⟨fun zj => if zj = 11 then true else if zj = 8 then true else if zj = 14 then true else zB zj, fun zd => if zd = 7 then .pointer (some ⟨X3, 0, none⟩) else if zd = 26 then .agg #[.int .i64 p3, .int .i64 q3] else zS zd, X1, X2, X3, by simp [hb8, hb11], by kernel_rfl, ⟨hF.1, hF.2.1, hF.2.2.1, hF.2.2.2.1, hF.2.2.2.2.1, hF.2.2.2.2.2.1, hF.2.2.2.2.2.2.1, hF.2.2.2.2.2.2.2.1, fun _ => rfl, hF.2.2.2.2.2.2.2.2.2.1, hF.2.2.2.2.2.2.2.2.2.2.1, fun _ => rfl⟩, hW.st3⟩
    exact StepsI.nil (by kernel_rfl)
  · rintro L zA va ⟨zB, zS, X1, X2, X3, rfl, rfl, hF, hW⟩ hr
    have hu := all_up (by kernel_rfl) (N := 15) (by kernel_rfl) hr
    have hb0 : zB 0 = true := by simpa using hu 0 (by decide)
    have hb1 : zB 1 = true := by simpa using hu 1 (by decide)
    have hb2 : zB 2 = true := by simpa using hu 2 (by decide)
    have hb3 : zB 3 = true := by simpa using hu 3 (by decide)
    have hb4 : zB 4 = true := by simpa using hu 4 (by decide)
    have hb5 : zB 5 = true := by simpa using hu 5 (by decide)
    have hb6 : zB 6 = true := by simpa using hu 6 (by decide)
    have hb7 : zB 7 = true := by simpa using hu 7 (by decide)
    have hb8 : zB 8 = true := by simpa using hu 8 (by decide)
    have hb9 : zB 9 = true := by simpa using hu 9 (by decide)
    have hb10 : zB 10 = true := by simpa using hu 10 (by decide)
    have hb11 : zB 11 = true := by simpa using hu 11 (by decide)
    have hb12 : zB 12 = true := by simpa using hu 12 (by decide)
    have hb13 : zB 13 = true := by simpa using hu 13 (by decide)
    have hb14 : zB 14 = true := by simpa using hu 14 (by decide)
    have e0 : zS 18 = .agg #[.int .i64 a, .int .i64 b] := hF.1 hb0
    have e1 : zS 19 = .agg #[.int .i64 c, .int .i64 d] := hF.2.1 hb1
    have e2 : zS 20 = .agg #[.int .i64 p1, .int .i64 q1] := hF.2.2.1 hb2
    have e3 : zS 21 = .agg #[.int .i64 a, .int .i64 b] := hF.2.2.2.1 hb3
    have e4 : zS 22 = .agg #[.int .i64 c, .int .i64 d] := hF.2.2.2.2.1 hb4
    have e5 : zS 23 = .agg #[.int .i64 p2, .int .i64 q2] := hF.2.2.2.2.2.1 hb5
    have e6 : zS 24 = .agg #[.int .i64 a, .int .i64 b] := hF.2.2.2.2.2.2.1 hb6
    have e7 : zS 25 = .agg #[.int .i64 c, .int .i64 d] := hF.2.2.2.2.2.2.2.1 hb7
    have e8 : zS 26 = .agg #[.int .i64 p3, .int .i64 q3] := hF.2.2.2.2.2.2.2.2.1 hb8
    have e9 : zS 5 = .pointer (some ⟨X1, 0, none⟩) := hF.2.2.2.2.2.2.2.2.2.1 hb9
    have e10 : zS 6 = .pointer (some ⟨X2, 0, none⟩) := hF.2.2.2.2.2.2.2.2.2.2.1 hb10
    have e11 : zS 7 = .pointer (some ⟨X3, 0, none⟩) := hF.2.2.2.2.2.2.2.2.2.2.2 hb11
    rw [hb9] at hW
    rw [hb10] at hW
    rw [hb11] at hW
    rw [hb12] at hW
    rw [hb13] at hW
    rw [hb14] at hW
    clear hu hr hF
    simp only [puts, Act.put, List.setIfInBounds_toArray, List.set_cons_zero, List.set_cons_succ]
    simp only [e0, e1, e2, e3, e4, e5, e6, e7, e8, e9, e10, e11]
    clear e0 e1 e2 e3 e4 e5 e6 e7 e8 e9 e10 e11
    clear hb0 hb1 hb2 hb3 hb4 hb5 hb6 hb7 hb8 hb9 hb10 hb11 hb12 hb13 hb14
    clear zB zS
    have B4 := mkHid (below_step BZ.out hW.bel)
    have LB := mkHid hW.bel
    have D1 := mkHid (show Box va X1 p1 q1 from (hW.x1 rfl).2)
    have D2 := mkHid (show Box va X2 p2 q2 from (hW.x2 rfl).2)
    have D3 := mkHid (show Box va X3 p3 q3 from (hW.x3 rfl).2)
    have D4 := mkHid (K3.out va hW.bel)
    have D5 := mkHid (K4.out va hW.bel)
    clear hW K3 K4 BZ LB
    have eq1 : eqB p1 q1 p1 q1 = true := by unfold eqB; simp
    have eq2 : eqB p2 q2 p2 q2 = true := by unfold eqB; simp
    have eq3 : eqB p3 q3 p3 q3 = true := by unfold eqB; simp
    have eq4 : eqB p4 q4 p4 q4 = true := by unfold eqB; simp
    go_wp2_with fail
    refine wp_region_inv2 (fun zA0 L zA vb => ∃ (zB : Nat → Bool) (zS : Nat → Value), L = #[zB 0, zB 1, zB 2, zB 3, zB 4, zB 5, zB 6, zB 7, zB 8, zB 9, zB 10, zB 11, zB 12, zB 13, zB 14, zB 15, zB 16, zB 17, zB 18, zB 19, zB 20, zB 21, zB 22, zB 23, zB 24, zB 25] ∧ zA = puts zA0 [(27, zS 27), (28, zS 28), (29, zS 29), (30, zS 30), (31, zS 31), (32, zS 32), (33, zS 33), (34, zS 34), (35, zS 35), (36, zS 36), (37, zS 37), (38, zS 38), (39, zS 39), (40, zS 40), (41, zS 41), (42, zS 42), (43, zS 43), (44, zS 44), (45, zS 45), (46, zS 46), (47, zS 47), (48, zS 48), (49, zS 49), (50, zS 50), (51, zS 51), (52, zS 52)] ∧ ((zB 0 = true → zS 27 = .agg #[.int .i64 p1, .int .i64 q1]) ∧ (zB 1 = true → zS 28 = .agg #[.int .i64 a, .int .i64 b]) ∧ (zB 2 = true → zS 29 = .agg #[.int .i64 c, .int .i64 d]) ∧ (zB 3 = true → zS 30 = .agg #[.int .i64 p1, .int .i64 q1]) ∧ (zB 4 = true → zS 31 = .bool false) ∧ (zB 5 = true → zS 32 = .bool false) ∧ (zB 6 = true → zS 33 = .agg #[.int .i64 p2, .int .i64 q2]) ∧ (zB 7 = true → zS 34 = .agg #[.int .i64 a, .int .i64 b]) ∧ (zB 8 = true → zS 35 = .agg #[.int .i64 c, .int .i64 d]) ∧ (zB 9 = true → zS 36 = .agg #[.int .i64 p2, .int .i64 q2]) ∧ (zB 10 = true → zS 37 = .bool false) ∧ (zB 11 = true → zS 38 = .bool false) ∧ (zB 12 = true → zS 39 = .bool false) ∧ (zB 13 = true → zS 40 = .agg #[.int .i64 p3, .int .i64 q3]) ∧ (zB 14 = true → zS 41 = .agg #[.int .i64 a, .int .i64 b]) ∧ (zB 15 = true → zS 42 = .agg #[.int .i64 c, .int .i64 d]) ∧ (zB 16 = true → zS 43 = .agg #[.int .i64 p3, .int .i64 q3]) ∧ (zB 17 = true → zS 44 = .bool false) ∧ (zB 18 = true → zS 45 = .bool false) ∧ (zB 19 = true → zS 46 = .bool false) ∧ (zB 20 = true → zS 47 = .agg #[.int .i64 a, .int .i64 b]) ∧ (zB 21 = true → zS 48 = .agg #[.int .i64 p4, .int .i64 q4]) ∧ (zB 22 = true → zS 49 = .agg #[.int .i64 a, .int .i64 b]) ∧ (zB 23 = true → zS 50 = .agg #[.int .i64 p4, .int .i64 q4]) ∧ (zB 24 = true → zS 51 = .bool false) ∧ (zB 25 = true → zS 52 = .bool false)) ∧ Below va.heap.size va vb) (by kernel_rfl) ?_ ?_ ?_
    · exact ⟨fun _ => false, fun _ => undef, rfl, by kernel_rfl, ⟨fun e => ft e, fun e => ft e, fun e => ft e, fun e => ft e, fun e => ft e, fun e => ft e, fun e => ft e, fun e => ft e, fun e => ft e, fun e => ft e, fun e => ft e, fun e => ft e, fun e => ft e, fun e => ft e, fun e => ft e, fun e => ft e, fun e => ft e, fun e => ft e, fun e => ft e, fun e => ft e, fun e => ft e, fun e => ft e, fun e => ft e, fun e => ft e, fun e => ft e, fun e => ft e⟩, (Below.refl _ _).drew⟩
    · refine StepsI.cons rfl ?_ ?_
      · rintro L zA vb ⟨zB, zS, rfl, rfl, hF, hW⟩ hL hm K hK
        have hb0 : zB 0 = false := by simpa using hL
        clear hL hm
        simp only [puts, Act.put, List.setIfInBounds_toArray, List.set_cons_zero, List.set_cons_succ]
        obtain ⟨y0, y1, y2, y3⟩ := D1.out.below hW
        have HWz := mkHid hW
        clear hW
        go_simp
        have hW := HWz.out
        clear HWz
        exact hK.out _ _ ⟨fun zj => if zj = 0 then true else zB zj, fun zd => if zd = 27 then .agg #[.int .i64 p1, .int .i64 q1] else zS zd, rfl, by kernel_rfl, ⟨fun _ => rfl, hF.2.1, hF.2.2.1, hF.2.2.2.1, hF.2.2.2.2.1, hF.2.2.2.2.2.1, hF.2.2.2.2.2.2.1, hF.2.2.2.2.2.2.2.1, hF.2.2.2.2.2.2.2.2.1, hF.2.2.2.2.2.2.2.2.2.1, hF.2.2.2.2.2.2.2.2.2.2.1, hF.2.2.2.2.2.2.2.2.2.2.2.1, hF.2.2.2.2.2.2.2.2.2.2.2.2.1, hF.2.2.2.2.2.2.2.2.2.2.2.2.2.1, hF.2.2.2.2.2.2.2.2.2.2.2.2.2.2.1, hF.2.2.2.2.2.2.2.2.2.2.2.2.2.2.2.1, hF.2.2.2.2.2.2.2.2.2.2.2.2.2.2.2.2.1, hF.2.2.2.2.2.2.2.2.2.2.2.2.2.2.2.2.2.1, hF.2.2.2.2.2.2.2.2.2.2.2.2.2.2.2.2.2.2.1, hF.2.2.2.2.2.2.2.2.2.2.2.2.2.2.2.2.2.2.2.1, hF.2.2.2.2.2.2.2.2.2.2.2.2.2.2.2.2.2.2.2.2.1, hF.2.2.2.2.2.2.2.2.2.2.2.2.2.2.2.2.2.2.2.2.2.1, hF.2.2.2.2.2.2.2.2.2.2.2.2.2.2.2.2.2.2.2.2.2.2.1, hF.2.2.2.2.2.2.2.2.2.2.2.2.2.2.2.2.2.2.2.2.2.2.2.1, hF.2.2.2.2.2.2.2.2.2.2.2.2.2.2.2.2.2.2.2.2.2.2.2.2.1, hF.2.2.2.2.2.2.2.2.2.2.2.2.2.2.2.2.2.2.2.2.2.2.2.2.2⟩, hW⟩
      refine StepsI.cons rfl ?_ ?_
      · rintro L zA vb ⟨zB, zS, rfl, rfl, hF, hW⟩ hL hm K hK
        have hb1 : zB 1 = false := by simpa using hL
        clear hL hm
        simp only [puts, Act.put, List.setIfInBounds_toArray, List.set_cons_zero, List.set_cons_succ]
        obtain ⟨y0, y1, y2, y3⟩ := D4.out.below hW
        have HWz := mkHid hW
        clear hW
        go_simp
        have hW := HWz.out
        clear HWz
        exact hK.out _ _ ⟨fun zj => if zj = 1 then true else zB zj, fun zd => if zd = 28 then .agg #[.int .i64 a, .int .i64 b] else zS zd, rfl, by kernel_rfl, ⟨hF.1, fun _ => rfl, hF.2.2.1, hF.2.2.2.1, hF.2.2.2.2.1, hF.2.2.2.2.2.1, hF.2.2.2.2.2.2.1, hF.2.2.2.2.2.2.2.1, hF.2.2.2.2.2.2.2.2.1, hF.2.2.2.2.2.2.2.2.2.1, hF.2.2.2.2.2.2.2.2.2.2.1, hF.2.2.2.2.2.2.2.2.2.2.2.1, hF.2.2.2.2.2.2.2.2.2.2.2.2.1, hF.2.2.2.2.2.2.2.2.2.2.2.2.2.1, hF.2.2.2.2.2.2.2.2.2.2.2.2.2.2.1, hF.2.2.2.2.2.2.2.2.2.2.2.2.2.2.2.1, hF.2.2.2.2.2.2.2.2.2.2.2.2.2.2.2.2.1, hF.2.2.2.2.2.2.2.2.2.2.2.2.2.2.2.2.2.1, hF.2.2.2.2.2.2.2.2.2.2.2.2.2.2.2.2.2.2.1, hF.2.2.2.2.2.2.2.2.2.2.2.2.2.2.2.2.2.2.2.1, hF.2.2.2.2.2.2.2.2.2.2.2.2.2.2.2.2.2.2.2.2.1, hF.2.2.2.2.2.2.2.2.2.2.2.2.2.2.2.2.2.2.2.2.2.1, hF.2.2.2.2.2.2.2.2.2.2.2.2.2.2.2.2.2.2.2.2.2.2.1, hF.2.2.2.2.2.2.2.2.2.2.2.2.2.2.2.2.2.2.2.2.2.2.2.1, hF.2.2.2.2.2.2.2.2.2.2.2.2.2.2.2.2.2.2.2.2.2.2.2.2.1, hF.2.2.2.2.2.2.2.2.2.2.2.2.2.2.2.2.2.2.2.2.2.2.2.2.2⟩, hW⟩
      refine StepsI.cons rfl ?_ ?_
      · rintro L zA vb ⟨zB, zS, rfl, rfl, hF, hW⟩ hL hm K hK
        have hb2 : zB 2 = false := by simpa using hL
        clear hL hm
        simp only [puts, Act.put, List.setIfInBounds_toArray, List.set_cons_zero, List.set_cons_succ]
        obtain ⟨y0, y1, y2, y3⟩ := D5.out.below hW
        have HWz := mkHid hW
        clear hW
        go_simp
        have hW := HWz.out
        clear HWz
        exact hK.out _ _ ⟨fun zj => if zj = 2 then true else zB zj, fun zd => if zd = 29 then .agg #[.int .i64 c, .int .i64 d] else zS zd, rfl, by kernel_rfl, ⟨hF.1, hF.2.1, fun _ => rfl, hF.2.2.2.1, hF.2.2.2.2.1, hF.2.2.2.2.2.1, hF.2.2.2.2.2.2.1, hF.2.2.2.2.2.2.2.1, hF.2.2.2.2.2.2.2.2.1, hF.2.2.2.2.2.2.2.2.2.1, hF.2.2.2.2.2.2.2.2.2.2.1, hF.2.2.2.2.2.2.2.2.2.2.2.1, hF.2.2.2.2.2.2.2.2.2.2.2.2.1, hF.2.2.2.2.2.2.2.2.2.2.2.2.2.1, hF.2.2.2.2.2.2.2.2.2.2.2.2.2.2.1, hF.2.2.2.2.2.2.2.2.2.2.2.2.2.2.2.1, hF.2.2.2.2.2.2.2.2.2.2.2.2.2.2.2.2.1, hF.2.2.2.2.2.2.2.2.2.2.2.2.2.2.2.2.2.1, hF.2.2.2.2.2.2.2.2.2.2.2.2.2.2.2.2.2.2.1, hF.2.2.2.2.2.2.2.2.2.2.2.2.2.2.2.2.2.2.2.1, hF.2.2.2.2.2.2.2.2.2.2.2.2.2.2.2.2.2.2.2.2.1, hF.2.2.2.2.2.2.2.2.2.2.2.2.2.2.2.2.2.2.2.2.2.1, hF.2.2.2.2.2.2.2.2.2.2.2.2.2.2.2.2.2.2.2.2.2.2.1, hF.2.2.2.2.2.2.2.2.2.2.2.2.2.2.2.2.2.2.2.2.2.2.2.1, hF.2.2.2.2.2.2.2.2.2.2.2.2.2.2.2.2.2.2.2.2.2.2.2.2.1, hF.2.2.2.2.2.2.2.2.2.2.2.2.2.2.2.2.2.2.2.2.2.2.2.2.2⟩, hW⟩
      refine StepsI.cons rfl ?_ ?_
      · rintro L zA vb ⟨zB, zS, rfl, rfl, hF, hW⟩ hL hm K hK
        have hb3 : zB 3 = false := by simpa using hL
        have hb1 : zB 1 = true := by cases e : zB 1 with | false => (exfalso; revert hm; simp [metB, Region.binds, e]) | true => rfl
        have hb2 : zB 2 = true := by cases e : zB 2 with | false => (exfalso; revert hm; simp [metB, Region.binds, e]) | true => rfl
        have e1 : zS 28 = .agg #[.int .i64 a, .int .i64 b] := hF.2.1 hb1
        have e2 : zS 29 = .agg #[.int .i64 c, .int .i64 d] := hF.2.2.1 hb2
        clear hL hm
        simp only [puts, Act.put, List.setIfInBounds_toArray, List.set_cons_zero, List.set_cons_succ]
        simp only [e1, e2]
        have HWz := mkHid hW
        clear hW
        go_simp
        have hW := HWz.out
        clear HWz
        refine (G1.out _).mono ?_
        rintro e vb2 ⟨rfl, hb⟩
        have HWz := mkHid hW
        clear hW
        go_wp2_with fail
        have hW := HWz.out
        clear HWz
        exact hK.out _ _ ⟨fun zj => if zj = 2 then true else if zj = 1 then true else if zj = 3 then true else zB zj, fun zd => if zd = 30 then .agg #[.int .i64 p1, .int .i64 q1] else if zd = 29 then .agg #[.int .i64 c, .int .i64 d] else if zd = 28 then .agg #[.int .i64 a, .int .i64 b] else zS zd, by simp [hb1, hb2], by kernel_rfl, ⟨hF.1, fun _ => rfl, fun _ => rfl, fun _ => rfl, hF.2.2.2.2.1, hF.2.2.2.2.2.1, hF.2.2.2.2.2.2.1, hF.2.2.2.2.2.2.2.1, hF.2.2.2.2.2.2.2.2.1, hF.2.2.2.2.2.2.2.2.2.1, hF.2.2.2.2.2.2.2.2.2.2.1, hF.2.2.2.2.2.2.2.2.2.2.2.1, hF.2.2.2.2.2.2.2.2.2.2.2.2.1, hF.2.2.2.2.2.2.2.2.2.2.2.2.2.1, hF.2.2.2.2.2.2.2.2.2.2.2.2.2.2.1, hF.2.2.2.2.2.2.2.2.2.2.2.2.2.2.2.1, hF.2.2.2.2.2.2.2.2.2.2.2.2.2.2.2.2.1, hF.2.2.2.2.2.2.2.2.2.2.2.2.2.2.2.2.2.1, hF.2.2.2.2.2.2.2.2.2.2.2.2.2.2.2.2.2.2.1, hF.2.2.2.2.2.2.2.2.2.2.2.2.2.2.2.2.2.2.2.1, hF.2.2.2.2.2.2.2.2.2.2.2.2.2.2.2.2.2.2.2.2.1, hF.2.2.2.2.2.2.2.2.2.2.2.2.2.2.2.2.2.2.2.2.2.1, hF.2.2.2.2.2.2.2.2.2.2.2.2.2.2.2.2.2.2.2.2.2.2.1, hF.2.2.2.2.2.2.2.2.2.2.2.2.2.2.2.2.2.2.2.2.2.2.2.1, hF.2.2.2.2.2.2.2.2.2.2.2.2.2.2.2.2.2.2.2.2.2.2.2.2.1, hF.2.2.2.2.2.2.2.2.2.2.2.2.2.2.2.2.2.2.2.2.2.2.2.2.2⟩, below_step hW hb⟩
      refine StepsI.cons rfl ?_ ?_
      · rintro L zA vb ⟨zB, zS, rfl, rfl, hF, hW⟩ hL hm K hK
        have hb4 : zB 4 = false := by simpa using hL
        have hb0 : zB 0 = true := by cases e : zB 0 with | false => (exfalso; revert hm; simp [metB, Region.binds, e]) | true => rfl
        have hb3 : zB 3 = true := by cases e : zB 3 with | false => (exfalso; revert hm; simp [metB, Region.binds, e]) | true => rfl
        have e0 : zS 27 = .agg #[.int .i64 p1, .int .i64 q1] := hF.1 hb0
        have e3 : zS 30 = .agg #[.int .i64 p1, .int .i64 q1] := hF.2.2.2.1 hb3
        clear hL hm
        simp only [puts, Act.put, List.setIfInBounds_toArray, List.set_cons_zero, List.set_cons_succ]
        simp only [e0, e3]
        have HWz := mkHid hW
        clear hW
        go_simp
        have hW := HWz.out
        clear HWz
        exact hK.out _ _ ⟨fun zj => if zj = 3 then true else if zj = 0 then true else if zj = 4 then true else zB zj, fun zd => if zd = 31 then .bool false else if zd = 30 then .agg #[.int .i64 p1, .int .i64 q1] else if zd = 27 then .agg #[.int .i64 p1, .int .i64 q1] else zS zd, by simp [hb0, hb3], by kernel_rfl, ⟨fun _ => rfl, hF.2.1, hF.2.2.1, fun _ => rfl, fun _ => rfl, hF.2.2.2.2.2.1, hF.2.2.2.2.2.2.1, hF.2.2.2.2.2.2.2.1, hF.2.2.2.2.2.2.2.2.1, hF.2.2.2.2.2.2.2.2.2.1, hF.2.2.2.2.2.2.2.2.2.2.1, hF.2.2.2.2.2.2.2.2.2.2.2.1, hF.2.2.2.2.2.2.2.2.2.2.2.2.1, hF.2.2.2.2.2.2.2.2.2.2.2.2.2.1, hF.2.2.2.2.2.2.2.2.2.2.2.2.2.2.1, hF.2.2.2.2.2.2.2.2.2.2.2.2.2.2.2.1, hF.2.2.2.2.2.2.2.2.2.2.2.2.2.2.2.2.1, hF.2.2.2.2.2.2.2.2.2.2.2.2.2.2.2.2.2.1, hF.2.2.2.2.2.2.2.2.2.2.2.2.2.2.2.2.2.2.1, hF.2.2.2.2.2.2.2.2.2.2.2.2.2.2.2.2.2.2.2.1, hF.2.2.2.2.2.2.2.2.2.2.2.2.2.2.2.2.2.2.2.2.1, hF.2.2.2.2.2.2.2.2.2.2.2.2.2.2.2.2.2.2.2.2.2.1, hF.2.2.2.2.2.2.2.2.2.2.2.2.2.2.2.2.2.2.2.2.2.2.1, hF.2.2.2.2.2.2.2.2.2.2.2.2.2.2.2.2.2.2.2.2.2.2.2.1, hF.2.2.2.2.2.2.2.2.2.2.2.2.2.2.2.2.2.2.2.2.2.2.2.2.1, hF.2.2.2.2.2.2.2.2.2.2.2.2.2.2.2.2.2.2.2.2.2.2.2.2.2⟩, hW⟩
      refine StepsI.cons rfl ?_ ?_
      · rintro L zA vb ⟨zB, zS, rfl, rfl, hF, hW⟩ hL hm K hK
        have hb5 : zB 5 = false := by simpa using hL
        have hb4 : zB 4 = true := by cases e : zB 4 with | false => (exfalso; revert hm; simp [metB, Region.binds, e]) | true => rfl
        have e4 : zS 31 = .bool false := hF.2.2.2.2.1 hb4
        clear hL hm
        simp only [puts, Act.put, List.setIfInBounds_toArray, List.set_cons_zero, List.set_cons_succ]
        simp only [e4]
        have HWz := mkHid hW
        clear hW
        go_simp
        have hW := HWz.out
        clear HWz
        exact hK.out _ _ ⟨fun zj => if zj = 4 then true else if zj = 5 then true else zB zj, fun zd => if zd = 32 then .bool false else if zd = 31 then .bool false else zS zd, by simp [hb4], by kernel_rfl, ⟨hF.1, hF.2.1, hF.2.2.1, hF.2.2.2.1, fun _ => rfl, fun _ => rfl, hF.2.2.2.2.2.2.1, hF.2.2.2.2.2.2.2.1, hF.2.2.2.2.2.2.2.2.1, hF.2.2.2.2.2.2.2.2.2.1, hF.2.2.2.2.2.2.2.2.2.2.1, hF.2.2.2.2.2.2.2.2.2.2.2.1, hF.2.2.2.2.2.2.2.2.2.2.2.2.1, hF.2.2.2.2.2.2.2.2.2.2.2.2.2.1, hF.2.2.2.2.2.2.2.2.2.2.2.2.2.2.1, hF.2.2.2.2.2.2.2.2.2.2.2.2.2.2.2.1, hF.2.2.2.2.2.2.2.2.2.2.2.2.2.2.2.2.1, hF.2.2.2.2.2.2.2.2.2.2.2.2.2.2.2.2.2.1, hF.2.2.2.2.2.2.2.2.2.2.2.2.2.2.2.2.2.2.1, hF.2.2.2.2.2.2.2.2.2.2.2.2.2.2.2.2.2.2.2.1, hF.2.2.2.2.2.2.2.2.2.2.2.2.2.2.2.2.2.2.2.2.1, hF.2.2.2.2.2.2.2.2.2.2.2.2.2.2.2.2.2.2.2.2.2.1, hF.2.2.2.2.2.2.2.2.2.2.2.2.2.2.2.2.2.2.2.2.2.2.1, hF.2.2.2.2.2.2.2.2.2.2.2.2.2.2.2.2.2.2.2.2.2.2.2.1, hF.2.2.2.2.2.2.2.2.2.2.2.2.2.2.2.2.2.2.2.2.2.2.2.2.1, hF.2.2.2.2.2.2.2.2.2.2.2.2.2.2.2.2.2.2.2.2.2.2.2.2.2⟩, hW⟩
      refine StepsI.cons rfl ?_ ?_
      · rintro L zA vb ⟨zB, zS, rfl, rfl, hF, hW⟩ hL hm K hK
        have hb6 : zB 6 = false := by simpa using hL
        have hb5 : zB 5 = true := by cases e : zB 5 with | false => (exfalso; revert hm; simp [metB, Region.binds, e]) | true => rfl
        have e5 : zS 32 = .bool false := hF.2.2.2.2.2.1 hb5
        clear hL hm
        simp only [puts, Act.put, List.setIfInBounds_toArray, List.set_cons_zero, List.set_cons_succ]
        simp only [e5]
        obtain ⟨y0, y1, y2, y3⟩ := D2.out.below hW
        have HWz := mkHid hW
        clear hW
        go_simp
        have hW := HWz.out
        clear HWz
        exact hK.out _ _ ⟨fun zj => if zj = 5 then true else if zj = 6 then true else zB zj, fun zd => if zd = 33 then .agg #[.int .i64 p2, .int .i64 q2] else if zd = 32 then .bool false else zS zd, by simp [hb5], by kernel_rfl, ⟨hF.1, hF.2.1, hF.2.2.1, hF.2.2.2.1, hF.2.2.2.2.1, fun _ => rfl, fun _ => rfl, hF.2.2.2.2.2.2.2.1, hF.2.2.2.2.2.2.2.2.1, hF.2.2.2.2.2.2.2.2.2.1, hF.2.2.2.2.2.2.2.2.2.2.1, hF.2.2.2.2.2.2.2.2.2.2.2.1, hF.2.2.2.2.2.2.2.2.2.2.2.2.1, hF.2.2.2.2.2.2.2.2.2.2.2.2.2.1, hF.2.2.2.2.2.2.2.2.2.2.2.2.2.2.1, hF.2.2.2.2.2.2.2.2.2.2.2.2.2.2.2.1, hF.2.2.2.2.2.2.2.2.2.2.2.2.2.2.2.2.1, hF.2.2.2.2.2.2.2.2.2.2.2.2.2.2.2.2.2.1, hF.2.2.2.2.2.2.2.2.2.2.2.2.2.2.2.2.2.2.1, hF.2.2.2.2.2.2.2.2.2.2.2.2.2.2.2.2.2.2.2.1, hF.2.2.2.2.2.2.2.2.2.2.2.2.2.2.2.2.2.2.2.2.1, hF.2.2.2.2.2.2.2.2.2.2.2.2.2.2.2.2.2.2.2.2.2.1, hF.2.2.2.2.2.2.2.2.2.2.2.2.2.2.2.2.2.2.2.2.2.2.1, hF.2.2.2.2.2.2.2.2.2.2.2.2.2.2.2.2.2.2.2.2.2.2.2.1, hF.2.2.2.2.2.2.2.2.2.2.2.2.2.2.2.2.2.2.2.2.2.2.2.2.1, hF.2.2.2.2.2.2.2.2.2.2.2.2.2.2.2.2.2.2.2.2.2.2.2.2.2⟩, hW⟩
      refine StepsI.cons rfl ?_ ?_
      · rintro L zA vb ⟨zB, zS, rfl, rfl, hF, hW⟩ hL hm K hK
        have hb7 : zB 7 = false := by simpa using hL
        have hb5 : zB 5 = true := by cases e : zB 5 with | false => (exfalso; revert hm; simp [metB, Region.binds, e]) | true => rfl
        have e5 : zS 32 = .bool false := hF.2.2.2.2.2.1 hb5
        clear hL hm
        simp only [puts, Act.put, List.setIfInBounds_toArray, List.set_cons_zero, List.set_cons_succ]
        simp only [e5]
        obtain ⟨y0, y1, y2, y3⟩ := D4.out.below hW
        have HWz := mkHid hW
        clear hW
        go_simp
        have hW := HWz.out
        clear HWz
        exact hK.out _ _ ⟨fun zj => if zj = 5 then true else if zj = 7 then true else zB zj, fun zd => if zd = 34 then .agg #[.int .i64 a, .int .i64 b] else if zd = 32 then .bool false else zS zd, by simp [hb5], by kernel_rfl, ⟨hF.1, hF.2.1, hF.2.2.1, hF.2.2.2.1, hF.2.2.2.2.1, fun _ => rfl, hF.2.2.2.2.2.2.1, fun _ => rfl, hF.2.2.2.2.2.2.2.2.1, hF.2.2.2.2.2.2.2.2.2.1, hF.2.2.2.2.2.2.2.2.2.2.1, hF.2.2.2.2.2.2.2.2.2.2.2.1, hF.2.2.2.2.2.2.2.2.2.2.2.2.1, hF.2.2.2.2.2.2.2.2.2.2.2.2.2.1, hF.2.2.2.2.2.2.2.2.2.2.2.2.2.2.1, hF.2.2.2.2.2.2.2.2.2.2.2.2.2.2.2.1, hF.2.2.2.2.2.2.2.2.2.2.2.2.2.2.2.2.1, hF.2.2.2.2.2.2.2.2.2.2.2.2.2.2.2.2.2.1, hF.2.2.2.2.2.2.2.2.2.2.2.2.2.2.2.2.2.2.1, hF.2.2.2.2.2.2.2.2.2.2.2.2.2.2.2.2.2.2.2.1, hF.2.2.2.2.2.2.2.2.2.2.2.2.2.2.2.2.2.2.2.2.1, hF.2.2.2.2.2.2.2.2.2.2.2.2.2.2.2.2.2.2.2.2.2.1, hF.2.2.2.2.2.2.2.2.2.2.2.2.2.2.2.2.2.2.2.2.2.2.1, hF.2.2.2.2.2.2.2.2.2.2.2.2.2.2.2.2.2.2.2.2.2.2.2.1, hF.2.2.2.2.2.2.2.2.2.2.2.2.2.2.2.2.2.2.2.2.2.2.2.2.1, hF.2.2.2.2.2.2.2.2.2.2.2.2.2.2.2.2.2.2.2.2.2.2.2.2.2⟩, hW⟩
      refine StepsI.cons rfl ?_ ?_
      · rintro L zA vb ⟨zB, zS, rfl, rfl, hF, hW⟩ hL hm K hK
        have hb8 : zB 8 = false := by simpa using hL
        have hb5 : zB 5 = true := by cases e : zB 5 with | false => (exfalso; revert hm; simp [metB, Region.binds, e]) | true => rfl
        have e5 : zS 32 = .bool false := hF.2.2.2.2.2.1 hb5
        clear hL hm
        simp only [puts, Act.put, List.setIfInBounds_toArray, List.set_cons_zero, List.set_cons_succ]
        simp only [e5]
        obtain ⟨y0, y1, y2, y3⟩ := D5.out.below hW
        have HWz := mkHid hW
        clear hW
        go_simp
        have hW := HWz.out
        clear HWz
        exact hK.out _ _ ⟨fun zj => if zj = 5 then true else if zj = 8 then true else zB zj, fun zd => if zd = 35 then .agg #[.int .i64 c, .int .i64 d] else if zd = 32 then .bool false else zS zd, by simp [hb5], by kernel_rfl, ⟨hF.1, hF.2.1, hF.2.2.1, hF.2.2.2.1, hF.2.2.2.2.1, fun _ => rfl, hF.2.2.2.2.2.2.1, hF.2.2.2.2.2.2.2.1, fun _ => rfl, hF.2.2.2.2.2.2.2.2.2.1, hF.2.2.2.2.2.2.2.2.2.2.1, hF.2.2.2.2.2.2.2.2.2.2.2.1, hF.2.2.2.2.2.2.2.2.2.2.2.2.1, hF.2.2.2.2.2.2.2.2.2.2.2.2.2.1, hF.2.2.2.2.2.2.2.2.2.2.2.2.2.2.1, hF.2.2.2.2.2.2.2.2.2.2.2.2.2.2.2.1, hF.2.2.2.2.2.2.2.2.2.2.2.2.2.2.2.2.1, hF.2.2.2.2.2.2.2.2.2.2.2.2.2.2.2.2.2.1, hF.2.2.2.2.2.2.2.2.2.2.2.2.2.2.2.2.2.2.1, hF.2.2.2.2.2.2.2.2.2.2.2.2.2.2.2.2.2.2.2.1, hF.2.2.2.2.2.2.2.2.2.2.2.2.2.2.2.2.2.2.2.2.1, hF.2.2.2.2.2.2.2.2.2.2.2.2.2.2.2.2.2.2.2.2.2.1, hF.2.2.2.2.2.2.2.2.2.2.2.2.2.2.2.2.2.2.2.2.2.2.1, hF.2.2.2.2.2.2.2.2.2.2.2.2.2.2.2.2.2.2.2.2.2.2.2.1, hF.2.2.2.2.2.2.2.2.2.2.2.2.2.2.2.2.2.2.2.2.2.2.2.2.1, hF.2.2.2.2.2.2.2.2.2.2.2.2.2.2.2.2.2.2.2.2.2.2.2.2.2⟩, hW⟩
      refine StepsI.cons rfl ?_ ?_
      · rintro L zA vb ⟨zB, zS, rfl, rfl, hF, hW⟩ hL hm K hK
        have hb9 : zB 9 = false := by simpa using hL
        have hb5 : zB 5 = true := by cases e : zB 5 with | false => (exfalso; revert hm; simp [metB, Region.binds, e]) | true => rfl
        have hb7 : zB 7 = true := by cases e : zB 7 with | false => (exfalso; revert hm; simp [metB, Region.binds, e]) | true => rfl
        have hb8 : zB 8 = true := by cases e : zB 8 with | false => (exfalso; revert hm; simp [metB, Region.binds, e]) | true => rfl
        have e5 : zS 32 = .bool false := hF.2.2.2.2.2.1 hb5
        have e7 : zS 34 = .agg #[.int .i64 a, .int .i64 b] := hF.2.2.2.2.2.2.2.1 hb7
        have e8 : zS 35 = .agg #[.int .i64 c, .int .i64 d] := hF.2.2.2.2.2.2.2.2.1 hb8
        clear hL hm
        simp only [puts, Act.put, List.setIfInBounds_toArray, List.set_cons_zero, List.set_cons_succ]
        simp only [e5, e7, e8]
        have HWz := mkHid hW
        clear hW
        go_simp
        have hW := HWz.out
        clear HWz
        refine (G2.out _).mono ?_
        rintro e vb2 ⟨rfl, hb⟩
        have HWz := mkHid hW
        clear hW
        go_wp2_with fail
        have hW := HWz.out
        clear HWz
        exact hK.out _ _ ⟨fun zj => if zj = 8 then true else if zj = 7 then true else if zj = 5 then true else if zj = 9 then true else zB zj, fun zd => if zd = 36 then .agg #[.int .i64 p2, .int .i64 q2] else if zd = 35 then .agg #[.int .i64 c, .int .i64 d] else if zd = 34 then .agg #[.int .i64 a, .int .i64 b] else if zd = 32 then .bool false else zS zd, by simp [hb5, hb7, hb8], by kernel_rfl, ⟨hF.1, hF.2.1, hF.2.2.1, hF.2.2.2.1, hF.2.2.2.2.1, fun _ => rfl, hF.2.2.2.2.2.2.1, fun _ => rfl, fun _ => rfl, fun _ => rfl, hF.2.2.2.2.2.2.2.2.2.2.1, hF.2.2.2.2.2.2.2.2.2.2.2.1, hF.2.2.2.2.2.2.2.2.2.2.2.2.1, hF.2.2.2.2.2.2.2.2.2.2.2.2.2.1, hF.2.2.2.2.2.2.2.2.2.2.2.2.2.2.1, hF.2.2.2.2.2.2.2.2.2.2.2.2.2.2.2.1, hF.2.2.2.2.2.2.2.2.2.2.2.2.2.2.2.2.1, hF.2.2.2.2.2.2.2.2.2.2.2.2.2.2.2.2.2.1, hF.2.2.2.2.2.2.2.2.2.2.2.2.2.2.2.2.2.2.1, hF.2.2.2.2.2.2.2.2.2.2.2.2.2.2.2.2.2.2.2.1, hF.2.2.2.2.2.2.2.2.2.2.2.2.2.2.2.2.2.2.2.2.1, hF.2.2.2.2.2.2.2.2.2.2.2.2.2.2.2.2.2.2.2.2.2.1, hF.2.2.2.2.2.2.2.2.2.2.2.2.2.2.2.2.2.2.2.2.2.2.1, hF.2.2.2.2.2.2.2.2.2.2.2.2.2.2.2.2.2.2.2.2.2.2.2.1, hF.2.2.2.2.2.2.2.2.2.2.2.2.2.2.2.2.2.2.2.2.2.2.2.2.1, hF.2.2.2.2.2.2.2.2.2.2.2.2.2.2.2.2.2.2.2.2.2.2.2.2.2⟩, below_step hW hb⟩
      refine StepsI.cons rfl ?_ ?_
      · rintro L zA vb ⟨zB, zS, rfl, rfl, hF, hW⟩ hL hm K hK
        have hb10 : zB 10 = false := by simpa using hL
        have hb5 : zB 5 = true := by cases e : zB 5 with | false => (exfalso; revert hm; simp [metB, Region.binds, e]) | true => rfl
        have hb6 : zB 6 = true := by cases e : zB 6 with | false => (exfalso; revert hm; simp [metB, Region.binds, e]) | true => rfl
        have hb9 : zB 9 = true := by cases e : zB 9 with | false => (exfalso; revert hm; simp [metB, Region.binds, e]) | true => rfl
        have e5 : zS 32 = .bool false := hF.2.2.2.2.2.1 hb5
        have e6 : zS 33 = .agg #[.int .i64 p2, .int .i64 q2] := hF.2.2.2.2.2.2.1 hb6
        have e9 : zS 36 = .agg #[.int .i64 p2, .int .i64 q2] := hF.2.2.2.2.2.2.2.2.2.1 hb9
        clear hL hm
        simp only [puts, Act.put, List.setIfInBounds_toArray, List.set_cons_zero, List.set_cons_succ]
        simp only [e5, e6, e9]
        have HWz := mkHid hW
        clear hW
        go_simp
        have hW := HWz.out
        clear HWz
        exact hK.out _ _ ⟨fun zj => if zj = 9 then true else if zj = 6 then true else if zj = 5 then true else if zj = 10 then true else zB zj, fun zd => if zd = 37 then .bool false else if zd = 36 then .agg #[.int .i64 p2, .int .i64 q2] else if zd = 33 then .agg #[.int .i64 p2, .int .i64 q2] else if zd = 32 then .bool false else zS zd, by simp [hb5, hb6, hb9], by kernel_rfl, ⟨hF.1, hF.2.1, hF.2.2.1, hF.2.2.2.1, hF.2.2.2.2.1, fun _ => rfl, fun _ => rfl, hF.2.2.2.2.2.2.2.1, hF.2.2.2.2.2.2.2.2.1, fun _ => rfl, fun _ => rfl, hF.2.2.2.2.2.2.2.2.2.2.2.1, hF.2.2.2.2.2.2.2.2.2.2.2.2.1, hF.2.2.2.2.2.2.2.2.2.2.2.2.2.1, hF.2.2.2.2.2.2.2.2.2.2.2.2.2.2.1, hF.2.2.2.2.2.2.2.2.2.2.2.2.2.2.2.1, hF.2.2.2.2.2.2.2.2.2.2.2.2.2.2.2.2.1, hF.2.2.2.2.2.2.2.2.2.2.2.2.2.2.2.2.2.1, hF.2.2.2.2.2.2.2.2.2.2.2.2.2.2.2.2.2.2.1, hF.2.2.2.2.2.2.2.2.2.2.2.2.2.2.2.2.2.2.2.1, hF.2.2.2.2.2.2.2.2.2.2.2.2.2.2.2.2.2.2.2.2.1, hF.2.2.2.2.2.2.2.2.2.2.2.2.2.2.2.2.2.2.2.2.2.1, hF.2.2.2.2.2.2.2.2.2.2.2.2.2.2.2.2.2.2.2.2.2.2.1, hF.2.2.2.2.2.2.2.2.2.2.2.2.2.2.2.2.2.2.2.2.2.2.2.1, hF.2.2.2.2.2.2.2.2.2.2.2.2.2.2.2.2.2.2.2.2.2.2.2.2.1, hF.2.2.2.2.2.2.2.2.2.2.2.2.2.2.2.2.2.2.2.2.2.2.2.2.2⟩, hW⟩
      refine StepsI.cons rfl ?_ ?_
      · rintro L zA vb ⟨zB, zS, rfl, rfl, hF, hW⟩ hL hm K hK
        have hb11 : zB 11 = false := by simpa using hL
        have hb5 : zB 5 = true := by cases e : zB 5 with | false => (exfalso; revert hm; simp [metB, Region.binds, e]) | true => rfl
        have hb10 : zB 10 = true := by cases e : zB 10 with | false => (exfalso; revert hm; simp [metB, Region.binds, e]) | true => rfl
        have e5 : zS 32 = .bool false := hF.2.2.2.2.2.1 hb5
        have e10 : zS 37 = .bool false := hF.2.2.2.2.2.2.2.2.2.2.1 hb10
        clear hL hm
        simp only [puts, Act.put, List.setIfInBounds_toArray, List.set_cons_zero, List.set_cons_succ]
        simp only [e5, e10]
        have HWz := mkHid hW
        clear hW
        go_simp
        have hW := HWz.out
        clear HWz
        exact hK.out _ _ ⟨fun zj => if zj = 10 then true else if zj = 5 then true else if zj = 11 then true else zB zj, fun zd => if zd = 38 then .bool false else if zd = 37 then .bool false else if zd = 32 then .bool false else zS zd, by simp [hb5, hb10], by kernel_rfl, ⟨hF.1, hF.2.1, hF.2.2.1, hF.2.2.2.1, hF.2.2.2.2.1, fun _ => rfl, hF.2.2.2.2.2.2.1, hF.2.2.2.2.2.2.2.1, hF.2.2.2.2.2.2.2.2.1, hF.2.2.2.2.2.2.2.2.2.1, fun _ => rfl, fun _ => rfl, hF.2.2.2.2.2.2.2.2.2.2.2.2.1, hF.2.2.2.2.2.2.2.2.2.2.2.2.2.1, hF.2.2.2.2.2.2.2.2.2.2.2.2.2.2.1, hF.2.2.2.2.2.2.2.2.2.2.2.2.2.2.2.1, hF.2.2.2.2.2.2.2.2.2.2.2.2.2.2.2.2.1, hF.2.2.2.2.2.2.2.2.2.2.2.2.2.2.2.2.2.1, hF.2.2.2.2.2.2.2.2.2.2.2.2.2.2.2.2.2.2.1, hF.2.2.2.2.2.2.2.2.2.2.2.2.2.2.2.2.2.2.2.1, hF.2.2.2.2.2.2.2.2.2.2.2.2.2.2.2.2.2.2.2.2.1, hF.2.2.2.2.2.2.2.2.2.2.2.2.2.2.2.2.2.2.2.2.2.1, hF.2.2.2.2.2.2.2.2.2.2.2.2.2.2.2.2.2.2.2.2.2.2.1, hF.2.2.2.2.2.2.2.2.2.2.2.2.2.2.2.2.2.2.2.2.2.2.2.1, hF.2.2.2.2.2.2.2.2.2.2.2.2.2.2.2.2.2.2.2.2.2.2.2.2.1, hF.2.2.2.2.2.2.2.2.2.2.2.2.2.2.2.2.2.2.2.2.2.2.2.2.2⟩, hW⟩
      refine StepsI.cons rfl ?_ ?_
      · rintro L zA vb ⟨zB, zS, rfl, rfl, hF, hW⟩ hL hm K hK
        have hb12 : zB 12 = false := by simpa using hL
        have hb11 : zB 11 = true := by cases e : zB 11 with | false => (exfalso; revert hm; simp [metB, Region.binds, e]) | true => rfl
        have e11 : zS 38 = .bool false := hF.2.2.2.2.2.2.2.2.2.2.2.1 hb11
        clear hL hm
        simp only [puts, Act.put, List.setIfInBounds_toArray, List.set_cons_zero, List.set_cons_succ]
        simp only [e11]
        have HWz := mkHid hW
        clear hW
        go_simp
        have hW := HWz.out
        clear HWz
        exact hK.out _ _ ⟨fun zj => if zj = 11 then true else if zj = 12 then true else zB zj, fun zd => if zd = 39 then .bool false else if zd = 38 then .bool false else zS zd, by simp [hb11], by kernel_rfl, ⟨hF.1, hF.2.1, hF.2.2.1, hF.2.2.2.1, hF.2.2.2.2.1, hF.2.2.2.2.2.1, hF.2.2.2.2.2.2.1, hF.2.2.2.2.2.2.2.1, hF.2.2.2.2.2.2.2.2.1, hF.2.2.2.2.2.2.2.2.2.1, hF.2.2.2.2.2.2.2.2.2.2.1, fun _ => rfl, fun _ => rfl, hF.2.2.2.2.2.2.2.2.2.2.2.2.2.1, hF.2.2.2.2.2.2.2.2.2.2.2.2.2.2.1, hF.2.2.2.2.2.2.2.2.2.2.2.2.2.2.2.1, hF.2.2.2.2.2.2.2.2.2.2.2.2.2.2.2.2.1, hF.2.2.2.2.2.2.2.2.2.2.2.2.2.2.2.2.2.1, hF.2.2.2.2.2.2.2.2.2.2.2.2.2.2.2.2.2.2.1, hF.2.2.2.2.2.2.2.2.2.2.2.2.2.2.2.2.2.2.2.1, hF.2.2.2.2.2.2.2.2.2.2.2.2.2.2.2.2.2.2.2.2.1, hF.2.2.2.2.2.2.2.2.2.2.2.2.2.2.2.2.2.2.2.2.2.1, hF.2.2.2.2.2.2.2.2.2.2.2.2.2.2.2.2.2.2.2.2.2.2.1, hF.2.2.2.2.2.2.2.2.2.2.2.2.2.2.2.2.2.2.2.2.2.2.2.1, hF.2.2.2.2.2.2.2.2.2.2.2.2.2.2.2.2.2.2.2.2.2.2.2.2.1, hF.2.2.2.2.2.2.2.2.2.2.2.2.2.2.2.2.2.2.2.2.2.2.2.2.2⟩, hW⟩
      refine StepsI.cons rfl ?_ ?_
      · rintro L zA vb ⟨zB, zS, rfl, rfl, hF, hW⟩ hL hm K hK
        have hb13 : zB 13 = false := by simpa using hL
        have hb12 : zB 12 = true := by cases e : zB 12 with | false => (exfalso; revert hm; simp [metB, Region.binds, e]) | true => rfl
        have e12 : zS 39 = .bool false := hF.2.2.2.2.2.2.2.2.2.2.2.2.1 hb12
        clear hL hm
        simp only [puts, Act.put, List.setIfInBounds_toArray, List.set_cons_zero, List.set_cons_succ]
        simp only [e12]
        obtain ⟨y0, y1, y2, y3⟩ := D3.out.below hW
        have HWz := mkHid hW
        clear hW
        go_simp
        have hW := HWz.out
        clear HWz
        exact hK.out _ _ ⟨fun zj => if zj = 12 then true else if zj = 13 then true else zB zj, fun zd => if zd = 40 then .agg #[.int .i64 p3, .int .i64 q3] else if zd = 39 then .bool false else zS zd, by simp [hb12], by kernel_rfl, ⟨hF.1, hF.2.1, hF.2.2.1, hF.2.2.2.1, hF.2.2.2.2.1, hF.2.2.2.2.2.1, hF.2.2.2.2.2.2.1, hF.2.2.2.2.2.2.2.1, hF.2.2.2.2.2.2.2.2.1, hF.2.2.2.2.2.2.2.2.2.1, hF.2.2.2.2.2.2.2.2.2.2.1, hF.2.2.2.2.2.2.2.2.2.2.2.1, fun _ => rfl, fun _ => rfl, hF.2.2.2.2.2.2.2.2.2.2.2.2.2.2.1, hF.2.2.2.2.2.2.2.2.2.2.2.2.2.2.2.1, hF.2.2.2.2.2.2.2.2.2.2.2.2.2.2.2.2.1, hF.2.2.2.2.2.2.2.2.2.2.2.2.2.2.2.2.2.1, hF.2.2.2.2.2.2.2.2.2.2.2.2.2.2.2.2.2.2.1, hF.2.2.2.2.2.2.2.2.2.2.2.2.2.2.2.2.2.2.2.1, hF.2.2.2.2.2.2.2.2.2.2.2.2.2.2.2.2.2.2.2.2.1, hF.2.2.2.2.2.2.2.2.2.2.2.2.2.2.2.2.2.2.2.2.2.1, hF.2.2.2.2.2.2.2.2.2.2.2.2.2.2.2.2.2.2.2.2.2.2.1, hF.2.2.2.2.2.2.2.2.2.2.2.2.2.2.2.2.2.2.2.2.2.2.2.1, hF.2.2.2.2.2.2.2.2.2.2.2.2.2.2.2.2.2.2.2.2.2.2.2.2.1, hF.2.2.2.2.2.2.2.2.2.2.2.2.2.2.2.2.2.2.2.2.2.2.2.2.2⟩, hW⟩
      refine StepsI.cons rfl ?_ ?_
      · rintro L zA vb ⟨zB, zS, rfl, rfl, hF, hW⟩ hL hm K hK
        have hb14 : zB 14 = false := by simpa using hL
        have hb12 : zB 12 = true := by cases e : zB 12 with | false => (exfalso; revert hm; simp [metB, Region.binds, e]) | true => rfl
        have e12 : zS 39 = .bool false := hF.2.2.2.2.2.2.2.2.2.2.2.2.1 hb12
        clear hL hm
        simp only [puts, Act.put, List.setIfInBounds_toArray, List.set_cons_zero, List.set_cons_succ]
        simp only [e12]
        obtain ⟨y0, y1, y2, y3⟩ := D4.out.below hW
        have HWz := mkHid hW
        clear hW
        go_simp
        have hW := HWz.out
        clear HWz
        exact hK.out _ _ ⟨fun zj => if zj = 12 then true else if zj = 14 then true else zB zj, fun zd => if zd = 41 then .agg #[.int .i64 a, .int .i64 b] else if zd = 39 then .bool false else zS zd, by simp [hb12], by kernel_rfl, ⟨hF.1, hF.2.1, hF.2.2.1, hF.2.2.2.1, hF.2.2.2.2.1, hF.2.2.2.2.2.1, hF.2.2.2.2.2.2.1, hF.2.2.2.2.2.2.2.1, hF.2.2.2.2.2.2.2.2.1, hF.2.2.2.2.2.2.2.2.2.1, hF.2.2.2.2.2.2.2.2.2.2.1, hF.2.2.2.2.2.2.2.2.2.2.2.1, fun _ => rfl, hF.2.2.2.2.2.2.2.2.2.2.2.2.2.1, fun _ => rfl, hF.2.2.2.2.2.2.2.2.2.2.2.2.2.2.2.1, hF.2.2.2.2.2.2.2.2.2.2.2.2.2.2.2.2.1, hF.2.2.2.2.2.2.2.2.2.2.2.2.2.2.2.2.2.1, hF.2.2.2.2.2.2.2.2.2.2.2.2.2.2.2.2.2.2.1, hF.2.2.2.2.2.2.2.2.2.2.2.2.2.2.2.2.2.2.2.1, hF.2.2.2.2.2.2.2.2.2.2.2.2.2.2.2.2.2.2.2.2.1, hF.2.2.2.2.2.2.2.2.2.2.2.2.2.2.2.2.2.2.2.2.2.1, hF.2.2.2.2.2.2.2.2.2.2.2.2.2.2.2.2.2.2.2.2.2.2.1, hF.2.2.2.2.2.2.2.2.2.2.2.2.2.2.2.2.2.2.2.2.2.2.2.1, hF.2.2.2.2.2.2.2.2.2.2.2.2.2.2.2.2.2.2.2.2.2.2.2.2.1, hF.2.2.2.2.2.2.2.2.2.2.2.2.2.2.2.2.2.2.2.2.2.2.2.2.2⟩, hW⟩
      refine StepsI.cons rfl ?_ ?_
      · rintro L zA vb ⟨zB, zS, rfl, rfl, hF, hW⟩ hL hm K hK
        have hb15 : zB 15 = false := by simpa using hL
        have hb12 : zB 12 = true := by cases e : zB 12 with | false => (exfalso; revert hm; simp [metB, Region.binds, e]) | true => rfl
        have e12 : zS 39 = .bool false := hF.2.2.2.2.2.2.2.2.2.2.2.2.1 hb12
        clear hL hm
        simp only [puts, Act.put, List.setIfInBounds_toArray, List.set_cons_zero, List.set_cons_succ]
        simp only [e12]
        obtain ⟨y0, y1, y2, y3⟩ := D5.out.below hW
        have HWz := mkHid hW
        clear hW
        go_simp
        have hW := HWz.out
        clear HWz
        exact hK.out _ _ ⟨fun zj => if zj = 12 then true else if zj = 15 then true else zB zj, fun zd => if zd = 42 then .agg #[.int .i64 c, .int .i64 d] else if zd = 39 then .bool false else zS zd, by simp [hb12], by kernel_rfl, ⟨hF.1, hF.2.1, hF.2.2.1, hF.2.2.2.1, hF.2.2.2.2.1, hF.2.2.2.2.2.1, hF.2.2.2.2.2.2.1, hF.2.2.2.2.2.2.2.1, hF.2.2.2.2.2.2.2.2.1, hF.2.2.2.2.2.2.2.2.2.1, hF.2.2.2.2.2.2.2.2.2.2.1, hF.2.2.2.2.2.2.2.2.2.2.2.1, fun _ => rfl, hF.2.2.2.2.2.2.2.2.2.2.2.2.2.1, hF.2.2.2.2.2.2.2.2.2.2.2.2.2.2.1, fun _ => rfl, hF.2.2.2.2.2.2.2.2.2.2.2.2.2.2.2.2.1, hF.2.2.2.2.2.2.2.2.2.2.2.2.2.2.2.2.2.1, hF.2.2.2.2.2.2.2.2.2.2.2.2.2.2.2.2.2.2.1, hF.2.2.2.2.2.2.2.2.2.2.2.2.2.2.2.2.2.2.2.1, hF.2.2.2.2.2.2.2.2.2.2.2.2.2.2.2.2.2.2.2.2.1, hF.2.2.2.2.2.2.2.2.2.2.2.2.2.2.2.2.2.2.2.2.2.1, hF.2.2.2.2.2.2.2.2.2.2.2.2.2.2.2.2.2.2.2.2.2.2.1, hF.2.2.2.2.2.2.2.2.2.2.2.2.2.2.2.2.2.2.2.2.2.2.2.1, hF.2.2.2.2.2.2.2.2.2.2.2.2.2.2.2.2.2.2.2.2.2.2.2.2.1, hF.2.2.2.2.2.2.2.2.2.2.2.2.2.2.2.2.2.2.2.2.2.2.2.2.2⟩, hW⟩
      refine StepsI.cons rfl ?_ ?_
      · rintro L zA vb ⟨zB, zS, rfl, rfl, hF, hW⟩ hL hm K hK
        have hb16 : zB 16 = false := by simpa using hL
        have hb12 : zB 12 = true := by cases e : zB 12 with | false => (exfalso; revert hm; simp [metB, Region.binds, e]) | true => rfl
        have hb14 : zB 14 = true := by cases e : zB 14 with | false => (exfalso; revert hm; simp [metB, Region.binds, e]) | true => rfl
        have hb15 : zB 15 = true := by cases e : zB 15 with | false => (exfalso; revert hm; simp [metB, Region.binds, e]) | true => rfl
        have e12 : zS 39 = .bool false := hF.2.2.2.2.2.2.2.2.2.2.2.2.1 hb12
        have e14 : zS 41 = .agg #[.int .i64 a, .int .i64 b] := hF.2.2.2.2.2.2.2.2.2.2.2.2.2.2.1 hb14
        have e15 : zS 42 = .agg #[.int .i64 c, .int .i64 d] := hF.2.2.2.2.2.2.2.2.2.2.2.2.2.2.2.1 hb15
        clear hL hm
        simp only [puts, Act.put, List.setIfInBounds_toArray, List.set_cons_zero, List.set_cons_succ]
        simp only [e12, e14, e15]
        have HWz := mkHid hW
        clear hW
        go_simp
        have hW := HWz.out
        clear HWz
        refine (G3.out _).mono ?_
        rintro e vb2 ⟨rfl, hb⟩
        have HWz := mkHid hW
        clear hW
        go_wp2_with fail
        have hW := HWz.out
        clear HWz
        exact hK.out _ _ ⟨fun zj => if zj = 15 then true else if zj = 14 then true else if zj = 12 then true else if zj = 16 then true else zB zj, fun zd => if zd = 43 then .agg #[.int .i64 p3, .int .i64 q3] else if zd = 42 then .agg #[.int .i64 c, .int .i64 d] else if zd = 41 then .agg #[.int .i64 a, .int .i64 b] else if zd = 39 then .bool false else zS zd, by simp [hb12, hb14, hb15], by kernel_rfl, ⟨hF.1, hF.2.1, hF.2.2.1, hF.2.2.2.1, hF.2.2.2.2.1, hF.2.2.2.2.2.1, hF.2.2.2.2.2.2.1, hF.2.2.2.2.2.2.2.1, hF.2.2.2.2.2.2.2.2.1, hF.2.2.2.2.2.2.2.2.2.1, hF.2.2.2.2.2.2.2.2.2.2.1, hF.2.2.2.2.2.2.2.2.2.2.2.1, fun _ => rfl, hF.2.2.2.2.2.2.2.2.2.2.2.2.2.1, fun _ => rfl, fun _ => rfl, fun _ => rfl, hF.2.2.2.2.2.2.2.2.2.2.2.2.2.2.2.2.2.1, hF.2.2.2.2.2.2.2.2.2.2.2.2.2.2.2.2.2.2.1, hF.2.2.2.2.2.2.2.2.2.2.2.2.2.2.2.2.2.2.2.1, hF.2.2.2.2.2.2.2.2.2.2.2.2.2.2.2.2.2.2.2.2.1, hF.2.2.2.2.2.2.2.2.2.2.2.2.2.2.2.2.2.2.2.2.2.1, hF.2.2.2.2.2.2.2.2.2.2.2.2.2.2.2.2.2.2.2.2.2.2.1, hF.2.2.2.2.2.2.2.2.2.2.2.2.2.2.2.2.2.2.2.2.2.2.2.1, hF.2.2.2.2.2.2.2.2.2.2.2.2.2.2.2.2.2.2.2.2.2.2.2.2.1, hF.2.2.2.2.2.2.2.2.2.2.2.2.2.2.2.2.2.2.2.2.2.2.2.2.2⟩, below_step hW hb⟩
      refine StepsI.cons rfl ?_ ?_
      · rintro L zA vb ⟨zB, zS, rfl, rfl, hF, hW⟩ hL hm K hK
        have hb17 : zB 17 = false := by simpa using hL
        have hb12 : zB 12 = true := by cases e : zB 12 with | false => (exfalso; revert hm; simp [metB, Region.binds, e]) | true => rfl
        have hb13 : zB 13 = true := by cases e : zB 13 with | false => (exfalso; revert hm; simp [metB, Region.binds, e]) | true => rfl
        have hb16 : zB 16 = true := by cases e : zB 16 with | false => (exfalso; revert hm; simp [metB, Region.binds, e]) | true => rfl
        have e12 : zS 39 = .bool false := hF.2.2.2.2.2.2.2.2.2.2.2.2.1 hb12
        have e13 : zS 40 = .agg #[.int .i64 p3, .int .i64 q3] := hF.2.2.2.2.2.2.2.2.2.2.2.2.2.1 hb13
        have e16 : zS 43 = .agg #[.int .i64 p3, .int .i64 q3] := hF.2.2.2.2.2.2.2.2.2.2.2.2.2.2.2.2.1 hb16
        clear hL hm
        simp only [puts, Act.put, List.setIfInBounds_toArray, List.set_cons_zero, List.set_cons_succ]
        simp only [e12, e13, e16]
        have HWz := mkHid hW
        clear hW
        go_simp
        have hW := HWz.out
        clear HWz
        exact hK.out _ _ ⟨fun zj => if zj = 16 then true else if zj = 13 then true else if zj = 12 then true else if zj = 17 then true else zB zj, fun zd => if zd = 44 then .bool false else if zd = 43 then .agg #[.int .i64 p3, .int .i64 q3] else if zd = 40 then .agg #[.int .i64 p3, .int .i64 q3] else if zd = 39 then .bool false else zS zd, by simp [hb12, hb13, hb16], by kernel_rfl, ⟨hF.1, hF.2.1, hF.2.2.1, hF.2.2.2.1, hF.2.2.2.2.1, hF.2.2.2.2.2.1, hF.2.2.2.2.2.2.1, hF.2.2.2.2.2.2.2.1, hF.2.2.2.2.2.2.2.2.1, hF.2.2.2.2.2.2.2.2.2.1, hF.2.2.2.2.2.2.2.2.2.2.1, hF.2.2.2.2.2.2.2.2.2.2.2.1, fun _ => rfl, fun _ => rfl, hF.2.2.2.2.2.2.2.2.2.2.2.2.2.2.1, hF.2.2.2.2.2.2.2.2.2.2.2.2.2.2.2.1, fun _ => rfl, fun _ => rfl, hF.2.2.2.2.2.2.2.2.2.2.2.2.2.2.2.2.2.2.1, hF.2.2.2.2.2.2.2.2.2.2.2.2.2.2.2.2.2.2.2.1, hF.2.2.2.2.2.2.2.2.2.2.2.2.2.2.2.2.2.2.2.2.1, hF.2.2.2.2.2.2.2.2.2.2.2.2.2.2.2.2.2.2.2.2.2.1, hF.2.2.2.2.2.2.2.2.2.2.2.2.2.2.2.2.2.2.2.2.2.2.1, hF.2.2.2.2.2.2.2.2.2.2.2.2.2.2.2.2.2.2.2.2.2.2.2.1, hF.2.2.2.2.2.2.2.2.2.2.2.2.2.2.2.2.2.2.2.2.2.2.2.2.1, hF.2.2.2.2.2.2.2.2.2.2.2.2.2.2.2.2.2.2.2.2.2.2.2.2.2⟩, hW⟩
      refine StepsI.cons rfl ?_ ?_
      · rintro L zA vb ⟨zB, zS, rfl, rfl, hF, hW⟩ hL hm K hK
        have hb18 : zB 18 = false := by simpa using hL
        have hb12 : zB 12 = true := by cases e : zB 12 with | false => (exfalso; revert hm; simp [metB, Region.binds, e]) | true => rfl
        have hb17 : zB 17 = true := by cases e : zB 17 with | false => (exfalso; revert hm; simp [metB, Region.binds, e]) | true => rfl
        have e12 : zS 39 = .bool false := hF.2.2.2.2.2.2.2.2.2.2.2.2.1 hb12
        have e17 : zS 44 = .bool false := hF.2.2.2.2.2.2.2.2.2.2.2.2.2.2.2.2.2.1 hb17
        clear hL hm
        simp only [puts, Act.put, List.setIfInBounds_toArray, List.set_cons_zero, List.set_cons_succ]
        simp only [e12, e17]
        have HWz := mkHid hW
        clear hW
        go_simp
        have hW := HWz.out
        clear HWz
        exact hK.out _ _ ⟨fun zj => if zj = 17 then true else if zj = 12 then true else if zj = 18 then true else zB zj, fun zd => if zd = 45 then .bool false else if zd = 44 then .bool false else if zd = 39 then .bool false else zS zd, by simp [hb12, hb17], by kernel_rfl, ⟨hF.1, hF.2.1, hF.2.2.1, hF.2.2.2.1, hF.2.2.2.2.1, hF.2.2.2.2.2.1, hF.2.2.2.2.2.2.1, hF.2.2.2.2.2.2.2.1, hF.2.2.2.2.2.2.2.2.1, hF.2.2.2.2.2.2.2.2.2.1, hF.2.2.2.2.2.2.2.2.2.2.1, hF.2.2.2.2.2.2.2.2.2.2.2.1, fun _ => rfl, hF.2.2.2.2.2.2.2.2.2.2.2.2.2.1, hF.2.2.2.2.2.2.2.2.2.2.2.2.2.2.1, hF.2.2.2.2.2.2.2.2.2.2.2.2.2.2.2.1, hF.2.2.2.2.2.2.2.2.2.2.2.2.2.2.2.2.1, fun _ => rfl, fun _ => rfl, hF.2.2.2.2.2.2.2.2.2.2.2.2.2.2.2.2.2.2.2.1, hF.2.2.2.2.2.2.2.2.2.2.2.2.2.2.2.2.2.2.2.2.1, hF.2.2.2.2.2.2.2.2.2.2.2.2.2.2.2.2.2.2.2.2.2.1, hF.2.2.2.2.2.2.2.2.2.2.2.2.2.2.2.2.2.2.2.2.2.2.1, hF.2.2.2.2.2.2.2.2.2.2.2.2.2.2.2.2.2.2.2.2.2.2.2.1, hF.2.2.2.2.2.2.2.2.2.2.2.2.2.2.2.2.2.2.2.2.2.2.2.2.1, hF.2.2.2.2.2.2.2.2.2.2.2.2.2.2.2.2.2.2.2.2.2.2.2.2.2⟩, hW⟩
      refine StepsI.cons rfl ?_ ?_
      · rintro L zA vb ⟨zB, zS, rfl, rfl, hF, hW⟩ hL hm K hK
        have hb19 : zB 19 = false := by simpa using hL
        have hb18 : zB 18 = true := by cases e : zB 18 with | false => (exfalso; revert hm; simp [metB, Region.binds, e]) | true => rfl
        have e18 : zS 45 = .bool false := hF.2.2.2.2.2.2.2.2.2.2.2.2.2.2.2.2.2.2.1 hb18
        clear hL hm
        simp only [puts, Act.put, List.setIfInBounds_toArray, List.set_cons_zero, List.set_cons_succ]
        simp only [e18]
        have HWz := mkHid hW
        clear hW
        go_simp
        have hW := HWz.out
        clear HWz
        exact hK.out _ _ ⟨fun zj => if zj = 18 then true else if zj = 19 then true else zB zj, fun zd => if zd = 46 then .bool false else if zd = 45 then .bool false else zS zd, by simp [hb18], by kernel_rfl, ⟨hF.1, hF.2.1, hF.2.2.1, hF.2.2.2.1, hF.2.2.2.2.1, hF.2.2.2.2.2.1, hF.2.2.2.2.2.2.1, hF.2.2.2.2.2.2.2.1, hF.2.2.2.2.2.2.2.2.1, hF.2.2.2.2.2.2.2.2.2.1, hF.2.2.2.2.2.2.2.2.2.2.1, hF.2.2.2.2.2.2.2.2.2.2.2.1, hF.2.2.2.2.2.2.2.2.2.2.2.2.1, hF.2.2.2.2.2.2.2.2.2.2.2.2.2.1, hF.2.2.2.2.2.2.2.2.2.2.2.2.2.2.1, hF.2.2.2.2.2.2.2.2.2.2.2.2.2.2.2.1, hF.2.2.2.2.2.2.2.2.2.2.2.2.2.2.2.2.1, hF.2.2.2.2.2.2.2.2.2.2.2.2.2.2.2.2.2.1, fun _ => rfl, fun _ => rfl, hF.2.2.2.2.2.2.2.2.2.2.2.2.2.2.2.2.2.2.2.2.1, hF.2.2.2.2.2.2.2.2.2.2.2.2.2.2.2.2.2.2.2.2.2.1, hF.2.2.2.2.2.2.2.2.2.2.2.2.2.2.2.2.2.2.2.2.2.2.1, hF.2.2.2.2.2.2.2.2.2.2.2.2.2.2.2.2.2.2.2.2.2.2.2.1, hF.2.2.2.2.2.2.2.2.2.2.2.2.2.2.2.2.2.2.2.2.2.2.2.2.1, hF.2.2.2.2.2.2.2.2.2.2.2.2.2.2.2.2.2.2.2.2.2.2.2.2.2⟩, hW⟩
      refine StepsI.cons rfl ?_ ?_
      · rintro L zA vb ⟨zB, zS, rfl, rfl, hF, hW⟩ hL hm K hK
        have hb20 : zB 20 = false := by simpa using hL
        have hb19 : zB 19 = true := by cases e : zB 19 with | false => (exfalso; revert hm; simp [metB, Region.binds, e]) | true => rfl
        have e19 : zS 46 = .bool false := hF.2.2.2.2.2.2.2.2.2.2.2.2.2.2.2.2.2.2.2.1 hb19
        clear hL hm
        simp only [puts, Act.put, List.setIfInBounds_toArray, List.set_cons_zero, List.set_cons_succ]
        simp only [e19]
        obtain ⟨y0, y1, y2, y3⟩ := D4.out.below hW
        have HWz := mkHid hW
        clear hW
        go_simp
        have hW := HWz.out
        clear HWz
        exact hK.out _ _ ⟨fun zj => if zj = 19 then true else if zj = 20 then true else zB zj, fun zd => if zd = 47 then .agg #[.int .i64 a, .int .i64 b] else if zd = 46 then .bool false else zS zd, by simp [hb19], by kernel_rfl, ⟨hF.1, hF.2.1, hF.2.2.1, hF.2.2.2.1, hF.2.2.2.2.1, hF.2.2.2.2.2.1, hF.2.2.2.2.2.2.1, hF.2.2.2.2.2.2.2.1, hF.2.2.2.2.2.2.2.2.1, hF.2.2.2.2.2.2.2.2.2.1, hF.2.2.2.2.2.2.2.2.2.2.1, hF.2.2.2.2.2.2.2.2.2.2.2.1, hF.2.2.2.2.2.2.2.2.2.2.2.2.1, hF.2.2.2.2.2.2.2.2.2.2.2.2.2.1, hF.2.2.2.2.2.2.2.2.2.2.2.2.2.2.1, hF.2.2.2.2.2.2.2.2.2.2.2.2.2.2.2.1, hF.2.2.2.2.2.2.2.2.2.2.2.2.2.2.2.2.1, hF.2.2.2.2.2.2.2.2.2.2.2.2.2.2.2.2.2.1, hF.2.2.2.2.2.2.2.2.2.2.2.2.2.2.2.2.2.2.1, fun _ => rfl, fun _ => rfl, hF.2.2.2.2.2.2.2.2.2.2.2.2.2.2.2.2.2.2.2.2.2.1, hF.2.2.2.2.2.2.2.2.2.2.2.2.2.2.2.2.2.2.2.2.2.2.1, hF.2.2.2.2.2.2.2.2.2.2.2.2.2.2.2.2.2.2.2.2.2.2.2.1, hF.2.2.2.2.2.2.2.2.2.2.2.2.2.2.2.2.2.2.2.2.2.2.2.2.1, hF.2.2.2.2.2.2.2.2.2.2.2.2.2.2.2.2.2.2.2.2.2.2.2.2.2⟩, hW⟩
      refine StepsI.cons rfl ?_ ?_
      · rintro L zA vb ⟨zB, zS, rfl, rfl, hF, hW⟩ hL hm K hK
        have hb21 : zB 21 = false := by simpa using hL
        have hb19 : zB 19 = true := by cases e : zB 19 with | false => (exfalso; revert hm; simp [metB, Region.binds, e]) | true => rfl
        have hb20 : zB 20 = true := by cases e : zB 20 with | false => (exfalso; revert hm; simp [metB, Region.binds, e]) | true => rfl
        have e19 : zS 46 = .bool false := hF.2.2.2.2.2.2.2.2.2.2.2.2.2.2.2.2.2.2.2.1 hb19
        have e20 : zS 47 = .agg #[.int .i64 a, .int .i64 b] := hF.2.2.2.2.2.2.2.2.2.2.2.2.2.2.2.2.2.2.2.2.1 hb20
        clear hL hm
        simp only [puts, Act.put, List.setIfInBounds_toArray, List.set_cons_zero, List.set_cons_succ]
        simp only [e19, e20]
        have HWz := mkHid hW
        clear hW
        go_simp
        have hW := HWz.out
        clear HWz
        refine (H4.out _).mono ?_
        rintro e vb2 ⟨rfl, hb⟩
        have HWz := mkHid hW
        clear hW
        go_wp2_with fail
        have hW := HWz.out
        clear HWz
        exact hK.out _ _ ⟨fun zj => if zj = 20 then true else if zj = 19 then true else if zj = 21 then true else zB zj, fun zd => if zd = 48 then .agg #[.int .i64 p4, .int .i64 q4] else if zd = 47 then .agg #[.int .i64 a, .int .i64 b] else if zd = 46 then .bool false else zS zd, by simp [hb19, hb20], by kernel_rfl, ⟨hF.1, hF.2.1, hF.2.2.1, hF.2.2.2.1, hF.2.2.2.2.1, hF.2.2.2.2.2.1, hF.2.2.2.2.2.2.1, hF.2.2.2.2.2.2.2.1, hF.2.2.2.2.2.2.2.2.1, hF.2.2.2.2.2.2.2.2.2.1, hF.2.2.2.2.2.2.2.2.2.2.1, hF.2.2.2.2.2.2.2.2.2.2.2.1, hF.2.2.2.2.2.2.2.2.2.2.2.2.1, hF.2.2.2.2.2.2.2.2.2.2.2.2.2.1, hF.2.2.2.2.2.2.2.2.2.2.2.2.2.2.1, hF.2.2.2.2.2.2.2.2.2.2.2.2.2.2.2.1, hF.2.2.2.2.2.2.2.2.2.2.2.2.2.2.2.2.1, hF.2.2.2.2.2.2.2.2.2.2.2.2.2.2.2.2.2.1, hF.2.2.2.2.2.2.2.2.2.2.2.2.2.2.2.2.2.2.1, fun _ => rfl, fun _ => rfl, fun _ => rfl, hF.2.2.2.2.2.2.2.2.2.2.2.2.2.2.2.2.2.2.2.2.2.2.1, hF.2.2.2.2.2.2.2.2.2.2.2.2.2.2.2.2.2.2.2.2.2.2.2.1, hF.2.2.2.2.2.2.2.2.2.2.2.2.2.2.2.2.2.2.2.2.2.2.2.2.1, hF.2.2.2.2.2.2.2.2.2.2.2.2.2.2.2.2.2.2.2.2.2.2.2.2.2⟩, below_step hW hb⟩
      refine StepsI.cons rfl ?_ ?_
      · rintro L zA vb ⟨zB, zS, rfl, rfl, hF, hW⟩ hL hm K hK
        have hb22 : zB 22 = false := by simpa using hL
        have hb19 : zB 19 = true := by cases e : zB 19 with | false => (exfalso; revert hm; simp [metB, Region.binds, e]) | true => rfl
        have e19 : zS 46 = .bool false := hF.2.2.2.2.2.2.2.2.2.2.2.2.2.2.2.2.2.2.2.1 hb19
        clear hL hm
        simp only [puts, Act.put, List.setIfInBounds_toArray, List.set_cons_zero, List.set_cons_succ]
        simp only [e19]
        obtain ⟨y0, y1, y2, y3⟩ := D4.out.below hW
        have HWz := mkHid hW
        clear hW
        go_simp
        have hW := HWz.out
        clear HWz
        exact hK.out _ _ ⟨fun zj => if zj = 19 then true else if zj = 22 then true else zB zj, fun zd => if zd = 49 then .agg #[.int .i64 a, .int .i64 b] else if zd = 46 then .bool false else zS zd, by simp [hb19], by kernel_rfl, ⟨hF.1, hF.2.1, hF.2.2.1, hF.2.2.2.1, hF.2.2.2.2.1, hF.2.2.2.2.2.1, hF.2.2.2.2.2.2.1, hF.2.2.2.2.2.2.2.1, hF.2.2.2.2.2.2.2.2.1, hF.2.2.2.2.2.2.2.2.2.1, hF.2.2.2.2.2.2.2.2.2.2.1, hF.2.2.2.2.2.2.2.2.2.2.2.1, hF.2.2.2.2.2.2.2.2.2.2.2.2.1, hF.2.2.2.2.2.2.2.2.2.2.2.2.2.1, hF.2.2.2.2.2.2.2.2.2.2.2.2.2.2.1, hF.2.2.2.2.2.2.2.2.2.2.2.2.2.2.2.1, hF.2.2.2.2.2.2.2.2.2.2.2.2.2.2.2.2.1, hF.2.2.2.2.2.2.2.2.2.2.2.2.2.2.2.2.2.1, hF.2.2.2.2.2.2.2.2.2.2.2.2.2.2.2.2.2.2.1, fun _ => rfl, hF.2.2.2.2.2.2.2.2.2.2.2.2.2.2.2.2.2.2.2.2.1, hF.2.2.2.2.2.2.2.2.2.2.2.2.2.2.2.2.2.2.2.2.2.1, fun _ => rfl, hF.2.2.2.2.2.2.2.2.2.2.2.2.2.2.2.2.2.2.2.2.2.2.2.1, hF.2.2.2.2.2.2.2.2.2.2.2.2.2.2.2.2.2.2.2.2.2.2.2.2.1, hF.2.2.2.2.2.2.2.2.2.2.2.2.2.2.2.2.2.2.2.2.2.2.2.2.2⟩, hW⟩
      refine StepsI.cons rfl ?_ ?_
      · rintro L zA vb ⟨zB, zS, rfl, rfl, hF, hW⟩ hL hm K hK
        have hb23 : zB 23 = false := by simpa using hL
        have hb19 : zB 19 = true := by cases e : zB 19 with | false => (exfalso; revert hm; simp [metB, Region.binds, e]) | true => rfl
        have hb22 : zB 22 = true := by cases e : zB 22 with | false => (exfalso; revert hm; simp [metB, Region.binds, e]) | true => rfl
        have e19 : zS 46 = .bool false := hF.2.2.2.2.2.2.2.2.2.2.2.2.2.2.2.2.2.2.2.1 hb19
        have e22 : zS 49 = .agg #[.int .i64 a, .int .i64 b] := hF.2.2.2.2.2.2.2.2.2.2.2.2.2.2.2.2.2.2.2.2.2.2.1 hb22
        clear hL hm
        simp only [puts, Act.put, List.setIfInBounds_toArray, List.set_cons_zero, List.set_cons_succ]
        simp only [e19, e22]
        have HWz := mkHid hW
        clear hW
        go_simp
        have hW := HWz.out
        clear HWz
        refine (G4.out _).mono ?_
        rintro e vb2 ⟨rfl, hb⟩
        have HWz := mkHid hW
        clear hW
        go_wp2_with fail
        have hW := HWz.out
        clear HWz
        exact hK.out _ _ ⟨fun zj => if zj = 22 then true else if zj = 19 then true else if zj = 23 then true else zB zj, fun zd => if zd = 50 then .agg #[.int .i64 p4, .int .i64 q4] else if zd = 49 then .agg #[.int .i64 a, .int .i64 b] else if zd = 46 then .bool false else zS zd, by simp [hb19, hb22], by kernel_rfl, ⟨hF.1, hF.2.1, hF.2.2.1, hF.2.2.2.1, hF.2.2.2.2.1, hF.2.2.2.2.2.1, hF.2.2.2.2.2.2.1, hF.2.2.2.2.2.2.2.1, hF.2.2.2.2.2.2.2.2.1, hF.2.2.2.2.2.2.2.2.2.1, hF.2.2.2.2.2.2.2.2.2.2.1, hF.2.2.2.2.2.2.2.2.2.2.2.1, hF.2.2.2.2.2.2.2.2.2.2.2.2.1, hF.2.2.2.2.2.2.2.2.2.2.2.2.2.1, hF.2.2.2.2.2.2.2.2.2.2.2.2.2.2.1, hF.2.2.2.2.2.2.2.2.2.2.2.2.2.2.2.1, hF.2.2.2.2.2.2.2.2.2.2.2.2.2.2.2.2.1, hF.2.2.2.2.2.2.2.2.2.2.2.2.2.2.2.2.2.1, hF.2.2.2.2.2.2.2.2.2.2.2.2.2.2.2.2.2.2.1, fun _ => rfl, hF.2.2.2.2.2.2.2.2.2.2.2.2.2.2.2.2.2.2.2.2.1, hF.2.2.2.2.2.2.2.2.2.2.2.2.2.2.2.2.2.2.2.2.2.1, fun _ => rfl, fun _ => rfl, hF.2.2.2.2.2.2.2.2.2.2.2.2.2.2.2.2.2.2.2.2.2.2.2.2.1, hF.2.2.2.2.2.2.2.2.2.2.2.2.2.2.2.2.2.2.2.2.2.2.2.2.2⟩, below_step hW hb⟩
      refine StepsI.cons rfl ?_ ?_
      · rintro L zA vb ⟨zB, zS, rfl, rfl, hF, hW⟩ hL hm K hK
        have hb24 : zB 24 = false := by simpa using hL
        have hb19 : zB 19 = true := by cases e : zB 19 with | false => (exfalso; revert hm; simp [metB, Region.binds, e]) | true => rfl
        have hb21 : zB 21 = true := by cases e : zB 21 with | false => (exfalso; revert hm; simp [metB, Region.binds, e]) | true => rfl
        have hb23 : zB 23 = true := by cases e : zB 23 with | false => (exfalso; revert hm; simp [metB, Region.binds, e]) | true => rfl
        have e19 : zS 46 = .bool false := hF.2.2.2.2.2.2.2.2.2.2.2.2.2.2.2.2.2.2.2.1 hb19
        have e21 : zS 48 = .agg #[.int .i64 p4, .int .i64 q4] := hF.2.2.2.2.2.2.2.2.2.2.2.2.2.2.2.2.2.2.2.2.2.1 hb21
        have e23 : zS 50 = .agg #[.int .i64 p4, .int .i64 q4] := hF.2.2.2.2.2.2.2.2.2.2.2.2.2.2.2.2.2.2.2.2.2.2.2.1 hb23
        clear hL hm
        simp only [puts, Act.put, List.setIfInBounds_toArray, List.set_cons_zero, List.set_cons_succ]
        simp only [e19, e21, e23]
        have HWz := mkHid hW
        clear hW
        go_simp
        have hW := HWz.out
        clear HWz
        exact hK.out _ _ ⟨fun zj => if zj = 23 then true else if zj = 21 then true else if zj = 19 then true else if zj = 24 then true else zB zj, fun zd => if zd = 51 then .bool false else if zd = 50 then .agg #[.int .i64 p4, .int .i64 q4] else if zd = 48 then .agg #[.int .i64 p4, .int .i64 q4] else if zd = 46 then .bool false else zS zd, by simp [hb19, hb21, hb23], by kernel_rfl, ⟨hF.1, hF.2.1, hF.2.2.1, hF.2.2.2.1, hF.2.2.2.2.1, hF.2.2.2.2.2.1, hF.2.2.2.2.2.2.1, hF.2.2.2.2.2.2.2.1, hF.2.2.2.2.2.2.2.2.1, hF.2.2.2.2.2.2.2.2.2.1, hF.2.2.2.2.2.2.2.2.2.2.1, hF.2.2.2.2.2.2.2.2.2.2.2.1, hF.2.2.2.2.2.2.2.2.2.2.2.2.1, hF.2.2.2.2.2.2.2.2.2.2.2.2.2.1, hF.2.2.2.2.2.2.2.2.2.2.2.2.2.2.1, hF.2.2.2.2.2.2.2.2.2.2.2.2.2.2.2.1, hF.2.2.2.2.2.2.2.2.2.2.2.2.2.2.2.2.1, hF.2.2.2.2.2.2.2.2.2.2.2.2.2.2.2.2.2.1, hF.2.2.2.2.2.2.2.2.2.2.2.2.2.2.2.2.2.2.1, fun _ => rfl, hF.2.2.2.2.2.2.2.2.2.2.2.2.2.2.2.2.2.2.2.2.1, fun _ => rfl, hF.2.2.2.2.2.2.2.2.2.2.2.2.2.2.2.2.2.2.2.2.2.2.1, fun _ => rfl, fun _ => rfl, hF.2.2.2.2.2.2.2.2.2.2.2.2.2.2.2.2.2.2.2.2.2.2.2.2.2⟩, hW⟩
      refine StepsI.cons rfl ?_ ?_
      · rintro L zA vb ⟨zB, zS, rfl, rfl, hF, hW⟩ hL hm K hK
        have hb25 : zB 25 = false := by simpa using hL
        have hb19 : zB 19 = true := by cases e : zB 19 with | false => (exfalso; revert hm; simp [metB, Region.binds, e]) | true => rfl
        have hb24 : zB 24 = true := by cases e : zB 24 with | false => (exfalso; revert hm; simp [metB, Region.binds, e]) | true => rfl
        have e19 : zS 46 = .bool false := hF.2.2.2.2.2.2.2.2.2.2.2.2.2.2.2.2.2.2.2.1 hb19
        have e24 : zS 51 = .bool false := hF.2.2.2.2.2.2.2.2.2.2.2.2.2.2.2.2.2.2.2.2.2.2.2.2.1 hb24
        clear hL hm
        simp only [puts, Act.put, List.setIfInBounds_toArray, List.set_cons_zero, List.set_cons_succ]
        simp only [e19, e24]
        have HWz := mkHid hW
        clear hW
        go_simp
        have hW := HWz.out
        clear HWz
        exact hK.out _ _ ⟨fun zj => if zj = 24 then true else if zj = 19 then true else if zj = 25 then true else zB zj, fun zd => if zd = 52 then .bool false else if zd = 51 then .bool false else if zd = 46 then .bool false else zS zd, by simp [hb19, hb24], by kernel_rfl, ⟨hF.1, hF.2.1, hF.2.2.1, hF.2.2.2.1, hF.2.2.2.2.1, hF.2.2.2.2.2.1, hF.2.2.2.2.2.2.1, hF.2.2.2.2.2.2.2.1, hF.2.2.2.2.2.2.2.2.1, hF.2.2.2.2.2.2.2.2.2.1, hF.2.2.2.2.2.2.2.2.2.2.1, hF.2.2.2.2.2.2.2.2.2.2.2.1, hF.2.2.2.2.2.2.2.2.2.2.2.2.1, hF.2.2.2.2.2.2.2.2.2.2.2.2.2.1, hF.2.2.2.2.2.2.2.2.2.2.2.2.2.2.1, hF.2.2.2.2.2.2.2.2.2.2.2.2.2.2.2.1, hF.2.2.2.2.2.2.2.2.2.2.2.2.2.2.2.2.1, hF.2.2.2.2.2.2.2.2.2.2.2.2.2.2.2.2.2.1, hF.2.2.2.2.2.2.2.2.2.2.2.2.2.2.2.2.2.2.1, fun _ => rfl, hF.2.2.2.2.2.2.2.2.2.2.2.2.2.2.2.2.2.2.2.2.1, hF.2.2.2.2.2.2.2.2.2.2.2.2.2.2.2.2.2.2.2.2.2.1, hF.2.2.2.2.2.2.2.2.2.2.2.2.2.2.2.2.2.2.2.2.2.2.1, hF.2.2.2.2.2.2.2.2.2.2.2.2.2.2.2.2.2.2.2.2.2.2.2.1, fun _ => rfl, fun _ => rfl⟩, hW⟩
      exact StepsI.nil (by kernel_rfl)
    · rintro L zA vb ⟨zB, zS, rfl, rfl, hF, hW⟩ hr
      have hu := all_up (by kernel_rfl) (N := 26) (by kernel_rfl) hr
      have hb0 : zB 0 = true := by simpa using hu 0 (by decide)
      have hb1 : zB 1 = true := by simpa using hu 1 (by decide)
      have hb2 : zB 2 = true := by simpa using hu 2 (by decide)
      have hb3 : zB 3 = true := by simpa using hu 3 (by decide)
      have hb4 : zB 4 = true := by simpa using hu 4 (by decide)
      have hb5 : zB 5 = true := by simpa using hu 5 (by decide)
      have hb6 : zB 6 = true := by simpa using hu 6 (by decide)
      have hb7 : zB 7 = true := by simpa using hu 7 (by decide)
      have hb8 : zB 8 = true := by simpa using hu 8 (by decide)
      have hb9 : zB 9 = true := by simpa using hu 9 (by decide)
      have hb10 : zB 10 = true := by simpa using hu 10 (by decide)
      have hb11 : zB 11 = true := by simpa using hu 11 (by decide)
      have hb12 : zB 12 = true := by simpa using hu 12 (by decide)
      have hb13 : zB 13 = true := by simpa using hu 13 (by decide)
      have hb14 : zB 14 = true := by simpa using hu 14 (by decide)
      have hb15 : zB 15 = true := by simpa using hu 15 (by decide)
      have hb16 : zB 16 = true := by simpa using hu 16 (by decide)
      have hb17 : zB 17 = true := by simpa using hu 17 (by decide)
      have hb18 : zB 18 = true := by simpa using hu 18 (by decide)
      have hb19 : zB 19 = true := by simpa using hu 19 (by decide)
      have hb20 : zB 20 = true := by simpa using hu 20 (by decide)
      have hb21 : zB 21 = true := by simpa using hu 21 (by decide)
      have hb22 : zB 22 = true := by simpa using hu 22 (by decide)
      have hb23 : zB 23 = true := by simpa using hu 23 (by decide)
      have hb24 : zB 24 = true := by simpa using hu 24 (by decide)
      have hb25 : zB 25 = true := by simpa using hu 25 (by decide)
      have e0 : zS 27 = .agg #[.int .i64 p1, .int .i64 q1] := hF.1 hb0
      have e1 : zS 28 = .agg #[.int .i64 a, .int .i64 b] := hF.2.1 hb1
      have e2 : zS 29 = .agg #[.int .i64 c, .int .i64 d] := hF.2.2.1 hb2
      have e3 : zS 30 = .agg #[.int .i64 p1, .int .i64 q1] := hF.2.2.2.1 hb3
      have e4 : zS 31 = .bool false := hF.2.2.2.2.1 hb4
      have e5 : zS 32 = .bool false := hF.2.2.2.2.2.1 hb5
      have e6 : zS 33 = .agg #[.int .i64 p2, .int .i64 q2] := hF.2.2.2.2.2.2.1 hb6
      have e7 : zS 34 = .agg #[.int .i64 a, .int .i64 b] := hF.2.2.2.2.2.2.2.1 hb7
      have e8 : zS 35 = .agg #[.int .i64 c, .int .i64 d] := hF.2.2.2.2.2.2.2.2.1 hb8
      have e9 : zS 36 = .agg #[.int .i64 p2, .int .i64 q2] := hF.2.2.2.2.2.2.2.2.2.1 hb9
      have e10 : zS 37 = .bool false := hF.2.2.2.2.2.2.2.2.2.2.1 hb10
      have e11 : zS 38 = .bool false := hF.2.2.2.2.2.2.2.2.2.2.2.1 hb11
      have e12 : zS 39 = .bool false := hF.2.2.2.2.2.2.2.2.2.2.2.2.1 hb12
      have e13 : zS 40 = .agg #[.int .i64 p3, .int .i64 q3] := hF.2.2.2.2.2.2.2.2.2.2.2.2.2.1 hb13
      have e14 : zS 41 = .agg #[.int .i64 a, .int .i64 b] := hF.2.2.2.2.2.2.2.2.2.2.2.2.2.2.1 hb14
      have e15 : zS 42 = .agg #[.int .i64 c, .int .i64 d] := hF.2.2.2.2.2.2.2.2.2.2.2.2.2.2.2.1 hb15
      have e16 : zS 43 = .agg #[.int .i64 p3, .int .i64 q3] := hF.2.2.2.2.2.2.2.2.2.2.2.2.2.2.2.2.1 hb16
      have e17 : zS 44 = .bool false := hF.2.2.2.2.2.2.2.2.2.2.2.2.2.2.2.2.2.1 hb17
      have e18 : zS 45 = .bool false := hF.2.2.2.2.2.2.2.2.2.2.2.2.2.2.2.2.2.2.1 hb18
      have e19 : zS 46 = .bool false := hF.2.2.2.2.2.2.2.2.2.2.2.2.2.2.2.2.2.2.2.1 hb19
      have e20 : zS 47 = .agg #[.int .i64 a, .int .i64 b] := hF.2.2.2.2.2.2.2.2.2.2.2.2.2.2.2.2.2.2.2.2.1 hb20
      have e21 : zS 48 = .agg #[.int .i64 p4, .int .i64 q4] := hF.2.2.2.2.2.2.2.2.2.2.2.2.2.2.2.2.2.2.2.2.2.1 hb21
      have e22 : zS 49 = .agg #[.int .i64 a, .int .i64 b] := hF.2.2.2.2.2.2.2.2.2.2.2.2.2.2.2.2.2.2.2.2.2.2.1 hb22
      have e23 : zS 50 = .agg #[.int .i64 p4, .int .i64 q4] := hF.2.2.2.2.2.2.2.2.2.2.2.2.2.2.2.2.2.2.2.2.2.2.2.1 hb23
      have e24 : zS 51 = .bool false := hF.2.2.2.2.2.2.2.2.2.2.2.2.2.2.2.2.2.2.2.2.2.2.2.2.1 hb24
      have e25 : zS 52 = .bool false := hF.2.2.2.2.2.2.2.2.2.2.2.2.2.2.2.2.2.2.2.2.2.2.2.2.2 hb25
      clear hu hr hF
      simp only [puts, Act.put, List.setIfInBounds_toArray, List.set_cons_zero, List.set_cons_succ]
      simp only [e0, e1, e2, e3, e4, e5, e6, e7, e8, e9, e10, e11, e12, e13, e14, e15, e16, e17, e18, e19, e20, e21, e22, e23, e24, e25]
      clear e0 e1 e2 e3 e4 e5 e6 e7 e8 e9 e10 e11 e12 e13 e14 e15 e16 e17 e18 e19 e20 e21 e22 e23 e24 e25
      clear hb0 hb1 hb2 hb3 hb4 hb5 hb6 hb7 hb8 hb9 hb10 hb11 hb12 hb13 hb14 hb15 hb16 hb17 hb18 hb19 hb20 hb21 hb22 hb23 hb24 hb25
      clear zB zS
      have B5 := mkHid (below_step B4.out hW)
      have E1 := mkHid (D1.out.below hW)
      have E2 := mkHid (D2.out.below hW)
      have E3 := mkHid (D3.out.below hW)
      have E4 := mkHid (D4.out.below hW)
      have E5 := mkHid (D5.out.below hW)
      clear hW D1 D2 D3 D4 D5 B4 eq1 eq2 eq3 eq4 H1 H2 H3 G1 G2 G3 G4
      obtain ⟨d5, d6, -, -⟩ := E4.out
      obtain ⟨f5, f6, -, -⟩ := E5.out
      go_wp2_with fail
      refine (sOk_any a b _).mono ?_
      rintro e w5 ⟨rfl, hb⟩
      have B6 := mkHid (below_step B5.out hb)
      have F1 := mkHid (E1.out.below hb)
      have F2 := mkHid (E2.out.below hb)
      have F3 := mkHid (E3.out.below hb)
      have F4 := mkHid (E4.out.below hb)
      have F5 := mkHid (E5.out.below hb)
      clear hb E1 E2 E3 E4 E5 B5 d5 d6 f5 f6
      cases ho1 : okB a b
      · go_wp2
        go_ret
        exact ⟨rfl, B6.out⟩
      obtain ⟨d5, d6, -, -⟩ := F4.out
      obtain ⟨f5, f6, -, -⟩ := F5.out
      go_wp2_with fail
      refine (sOk_any c d _).mono ?_
      rintro e w6 ⟨rfl, hb⟩
      have B7 := mkHid (below_step B6.out hb)
      have G1 := mkHid (F1.out.below hb)
      have G2 := mkHid (F2.out.below hb)
      have G3 := mkHid (F3.out.below hb)
      have G4 := mkHid (F4.out.below hb)
      have G5 := mkHid (F5.out.below hb)
      clear hb F1 F2 F3 F4 F5 B6 d5 d6 f5 f6
      cases ho2 : okB c d
      · go_wp2
        go_ret
        exact ⟨rfl, B7.out⟩
      obtain ⟨d5, d6, -, -⟩ := G4.out
      obtain ⟨f5, f6, -, -⟩ := G5.out
      by_cases hab : b < a
      · go_wp2
        go_ret
        exact ⟨rfl, B7.out⟩
      by_cases hcd : d < c
      · go_wp2
        go_ret
        exact ⟨rfl, B7.out⟩
      have ka := ok_iff.1 ho1
      have kc := ok_iff.1 ho2
      have HSO := mkHid (show someB a b = true from some_iff.2 (by omega))
      have HBO := mkHid (show bothB a b c d = true by unfold bothB; rw [HSO.out, some_iff.2 (show -1000000 ≤ c ∧ c ≤ d ∧ d ≤ 1000000 by omega)]; rfl)
      have ha1 : -1000000 ≤ a := by omega
      have hb1 : b ≤ 1000000 := by omega
      have hc1 : -1000000 ≤ c := by omega
      have hd1 : d ≤ 1000000 := by omega
      have hw1 : IntKind.i64.wrap (b - a) = b - a := IntWalk.i64_in _ ⟨by omega, by omega⟩
      have hw2 : IntKind.i64.wrap (b - a + 1) = b - a + 1 := IntWalk.i64_in _ ⟨by omega, by omega⟩
      have hw3 : IntKind.i64.wrap (d - c) = d - c := IntWalk.i64_in _ ⟨by omega, by omega⟩
      have hw4 : IntKind.i64.wrap (d - c + 1) = d - c + 1 := IntWalk.i64_in _ ⟨by omega, by omega⟩
      have HY7 := mkHid (HBY.out.up B7.out.size B7.out)
      clear ka kc ho1 ho2
      go_wp2_with fail
      clear hab hcd
      go_loopg [8] 6 (fun g s8 wr => ∃ u : Nat, u + g = 6 ∧ s8 = .int .i64 u ∧ Below w6.heap.size w6 wr)
      case atStart => exact ⟨0, by omega, rfl, Below.refl _ _⟩
      case round =>
        clear d5 d6 f5 f6
        obtain ⟨u, hug, rfl, hB⟩ := hrel
        have HB := mkHid hB
        obtain ⟨a5, a6, -, -⟩ := G1.out.below hB
        obtain ⟨b5, b6, -, -⟩ := G2.out.below hB
        obtain ⟨c5, c6, -, -⟩ := G3.out.below hB
        obtain ⟨d5, d6, -, -⟩ := G4.out.below hB
        obtain ⟨f5, f6, -, -⟩ := G5.out.below hB
        have HYr := mkHid (HY7.out.up hB.size hB)
        clear hB
        cases gk with
        | zero =>
          have hlt : ¬ ((u : Int) < 6) := by omega
          go_wp2
          go_ret
          exact ⟨rfl, below_step B7.out HB.out⟩
        | succ g =>
          have hlt : (u : Int) < 6 := by omega
          have hu9 : IntKind.i64.wrap ((u : Int) + 9) = ((u + 9 : Nat) : Int) := by rw [IntWalk.i64_in _ ⟨by omega, by omega⟩]; omega
          obtain ⟨u9, hu9e⟩ : ∃ k, u + 9 = k := ⟨_, rfl⟩
          rw [hu9e] at hu9
          have hu9b : u9 ≤ 100 := by omega
          clear hu9e
          go_wp2_with fail
          go_region_held3 (fun v => v.cell? ⟨A3, 0, none⟩ = some (.int .i64 a) ∧ v.cell? ⟨A3, 1, none⟩ = some (.int .i64 b))
            (first | exact ⟨d5, d6⟩ | assumption)
            (first | (go_at_call 16; refine (lpick_any n0 c0 _ u (b - a + 1) a0 _ HM0.out (HYr.out.up (Nat.le_refl _) (Below.refl _ _).drew) (by omega) (by omega) (by omega)).mono ?_; rintro e w9 ⟨r, rfl, r0, r1, rfl⟩; have hwr : IntKind.i64.wrap (a + r) = a + r := IntWalk.i64_in _ ⟨by omega, by omega⟩))
          obtain ⟨x, hx⟩ : ∃ x, a + r = x := ⟨_, rfl⟩
          rw [hx]
          have hx1 : a ≤ x := by omega
          have hx2 : x ≤ b := by omega
          clear hx hwr r0 r1
          go_wp2_with fail
          go_region_held3 (fun v => v.cell? ⟨A3 + 1, 0, none⟩ = some (.int .i64 c) ∧ v.cell? ⟨A3 + 1, 1, none⟩ = some (.int .i64 d))
            (first | exact ⟨f5, f6⟩ | assumption)
            (first | (go_at_call 16; refine (lpick_any n0 c0 _ u9 (d - c + 1) a0 _ HM0.out (HYr.out.up (Nat.le_refl _) ((Below.refl _ _).drew).drew) (by omega) (by omega) (by omega)).mono ?_; rintro e w9 ⟨r, rfl, r0, r1, rfl⟩; have hwr : IntKind.i64.wrap (c + r) = c + r := IntWalk.i64_in _ ⟨by omega, by omega⟩))
          obtain ⟨y, hy⟩ : ∃ y, c + r = y := ⟨_, rfl⟩
          rw [hy]
          have hy1 : c ≤ y := by omega
          have hy2 : y ≤ d := by omega
          clear hy hwr r0 r1
          obtain ⟨wv, hwv⟩ : ∃ v, wr.drew.drew = v := ⟨_, rfl⟩
          have HV : Hid (Below w6.heap.size w6 wv) := mkHid (by rw [← hwv]; exact HB.out.drew.drew)
          rw [hwv]
          have k1 := mul_btw (a := -1000000) (b := 1000000) (x := x) (y := y) (by omega) (by omega)
          have hwA : IntKind.i64.wrap (x + y) = x + y := IntWalk.i64_in _ ⟨by omega, by omega⟩
          have hwS : IntKind.i64.wrap (x - y) = x - y := IntWalk.i64_in _ ⟨by omega, by omega⟩
          have hwM : IntKind.i64.wrap (x * y) = x * y := IntWalk.i64_in _ ⟨by omega, by omega⟩
          have hwN : IntKind.i64.wrap (-x) = -x := IntWalk.i64_in _ ⟨by omega, by omega⟩
          have T1 : Hid (valB (x + y) = true → hasB p1 q1 (x + y) = true) := mkHid fun h => HA.out x y HBO.out hx1 hx2 hy1 hy2 (of_decide_eq_true h).1 (of_decide_eq_true h).2
          have T2 : Hid (valB (x - y) = true → hasB p2 q2 (x - y) = true) := mkHid fun h => HS.out x y HBO.out hx1 hx2 hy1 hy2 (of_decide_eq_true h).1 (of_decide_eq_true h).2
          have T3 : Hid (valB (x * y) = true → hasB p3 q3 (x * y) = true) := mkHid fun h => HM.out x y HBO.out hx1 hx2 hy1 hy2 (of_decide_eq_true h).1 (of_decide_eq_true h).2
          have T4 : Hid (hasB p4 q4 (-x) = true) := mkHid (HNG.out x HSO.out hx1 hx2)
          obtain ⟨z1, hz1⟩ : ∃ z, x + y = z := ⟨_, rfl⟩
          obtain ⟨z2, hz2⟩ : ∃ z, x - y = z := ⟨_, rfl⟩
          obtain ⟨z3, hz3⟩ : ∃ z, x * y = z := ⟨_, rfl⟩
          obtain ⟨z4, hz4⟩ : ∃ z, -x = z := ⟨_, rfl⟩
          rw [hz1] at hwA T1
          rw [hz2] at hwS T2
          rw [hz3] at hwM T3
          rw [hz4] at hwN T4
          have hwA' : IntKind.i64.wrap (x + y) = z1 := by rw [hz1]; exact hwA
          have hwS' : IntKind.i64.wrap (x - y) = z2 := by rw [hz2]; exact hwS
          have hwM' : IntKind.i64.wrap (x * y) = z3 := by rw [hz3]; exact hwM
          have hwN' : IntKind.i64.wrap (-x) = z4 := by rw [hz4]; exact hwN
          clear k1 hwA hwS hwM hwN hz1 hz2 hz3 hz4 hwv HB a5 a6 b5 b6 c5 c6 d5 d6 f5 f6
          obtain ⟨a5, a6, -, -⟩ := G1.out.below HV.out
          obtain ⟨b5, b6, -, -⟩ := G2.out.below HV.out
          obtain ⟨c5, c6, -, -⟩ := G3.out.below HV.out
          obtain ⟨d5, d6, -, -⟩ := G4.out.below HV.out
          go_wp2_with fail
          refine (within_any z1 _).mono ?_
          rintro e w9 ⟨rfl, rfl⟩
          cases e6 : valB z1 with
          | false =>
            go_wp2_with fail
            refine (within_any z2 _).mono ?_
            rintro e w9 ⟨rfl, rfl⟩
            cases e7 : valB z2 with
            | false =>
              go_wp2_with fail
              refine (within_any z3 _).mono ?_
              rintro e w9 ⟨rfl, rfl⟩
              cases e8 : valB z3 with
              | false =>
                go_wp2_with fail
                refine (H4.out _).mono ?_
                rintro e wn ⟨rfl, hb⟩
                have HVn := mkHid (below_step HV.out hb)
                clear hb
                go_wp2_with fail
                refine (iHas_any p4 q4 z4 _).mono ?_
                rintro e wm ⟨rfl, hb⟩
                rw [T4.out]
                have HVm := mkHid (below_step HVn.out hb)
                clear hb
                go_wp2
                go_roundg g
                case measure => omega
                case rel => exact ⟨u + 1, by omega, by go_num, HVm.out⟩
              | true =>
                have t3 := T3.out e8
                go_wp2_with fail
                refine (iHas_any p3 q3 z3 _).mono ?_
                rintro e wh3 ⟨rfl, hb⟩
                rw [t3]
                have HV3 := mkHid (below_step HV.out hb)
                clear hb t3
                clear a5 a6 b5 b6 c5 c6 d5 d6
                obtain ⟨a5, a6, -, -⟩ := G1.out.below HV3.out
                obtain ⟨b5, b6, -, -⟩ := G2.out.below HV3.out
                obtain ⟨c5, c6, -, -⟩ := G3.out.below HV3.out
                obtain ⟨d5, d6, -, -⟩ := G4.out.below HV3.out
                go_wp2_with fail
                refine (H4.out _).mono ?_
                rintro e wn ⟨rfl, hb⟩
                have HVn := mkHid (below_step HV3.out hb)
                clear hb
                go_wp2_with fail
                refine (iHas_any p4 q4 z4 _).mono ?_
                rintro e wm ⟨rfl, hb⟩
                rw [T4.out]
                have HVm := mkHid (below_step HVn.out hb)
                clear hb
                go_wp2
                go_roundg g
                case measure => omega
                case rel => exact ⟨u + 1, by omega, by go_num, HVm.out⟩
            | true =>
              have t2 := T2.out e7
              go_wp2_with fail
              refine (iHas_any p2 q2 z2 _).mono ?_
              rintro e wh2 ⟨rfl, hb⟩
              rw [t2]
              have HV2 := mkHid (below_step HV.out hb)
              clear hb t2
              clear a5 a6 b5 b6 c5 c6 d5 d6
              obtain ⟨a5, a6, -, -⟩ := G1.out.below HV2.out
              obtain ⟨b5, b6, -, -⟩ := G2.out.below HV2.out
              obtain ⟨c5, c6, -, -⟩ := G3.out.below HV2.out
              obtain ⟨d5, d6, -, -⟩ := G4.out.below HV2.out
              go_wp2_with fail
              refine (within_any z3 _).mono ?_
              rintro e w9 ⟨rfl, rfl⟩
              cases e8 : valB z3 with
              | false =>
                go_wp2_with fail
                refine (H4.out _).mono ?_
                rintro e wn ⟨rfl, hb⟩
                have HVn := mkHid (below_step HV2.out hb)
                clear hb
                go_wp2_with fail
                refine (iHas_any p4 q4 z4 _).mono ?_
                rintro e wm ⟨rfl, hb⟩
                rw [T4.out]
                have HVm := mkHid (below_step HVn.out hb)
                clear hb
                go_wp2
                go_roundg g
                case measure => omega
                case rel => exact ⟨u + 1, by omega, by go_num, HVm.out⟩
              | true =>
                have t3 := T3.out e8
                go_wp2_with fail
                refine (iHas_any p3 q3 z3 _).mono ?_
                rintro e wh3 ⟨rfl, hb⟩
                rw [t3]
                have HV3 := mkHid (below_step HV2.out hb)
                clear hb t3
                clear a5 a6 b5 b6 c5 c6 d5 d6
                obtain ⟨a5, a6, -, -⟩ := G1.out.below HV3.out
                obtain ⟨b5, b6, -, -⟩ := G2.out.below HV3.out
                obtain ⟨c5, c6, -, -⟩ := G3.out.below HV3.out
                obtain ⟨d5, d6, -, -⟩ := G4.out.below HV3.out
                go_wp2_with fail
                refine (H4.out _).mono ?_
                rintro e wn ⟨rfl, hb⟩
                have HVn := mkHid (below_step HV3.out hb)
                clear hb
                go_wp2_with fail
                refine (iHas_any p4 q4 z4 _).mono ?_
                rintro e wm ⟨rfl, hb⟩
                rw [T4.out]
                have HVm := mkHid (below_step HVn.out hb)
                clear hb
                go_wp2
                go_roundg g
                case measure => omega
                case rel => exact ⟨u + 1, by omega, by go_num, HVm.out⟩
          | true =>
            have t1 := T1.out e6
            go_wp2_with fail
            refine (iHas_any p1 q1 z1 _).mono ?_
            rintro e wh1 ⟨rfl, hb⟩
            rw [t1]
            have HV1 := mkHid (below_step HV.out hb)
            clear hb t1
            clear a5 a6 b5 b6 c5 c6 d5 d6
            obtain ⟨a5, a6, -, -⟩ := G1.out.below HV1.out
            obtain ⟨b5, b6, -, -⟩ := G2.out.below HV1.out
            obtain ⟨c5, c6, -, -⟩ := G3.out.below HV1.out
            obtain ⟨d5, d6, -, -⟩ := G4.out.below HV1.out
            go_wp2_with fail
            refine (within_any z2 _).mono ?_
            rintro e w9 ⟨rfl, rfl⟩
            cases e7 : valB z2 with
            | false =>
              go_wp2_with fail
              refine (within_any z3 _).mono ?_
              rintro e w9 ⟨rfl, rfl⟩
              cases e8 : valB z3 with
              | false =>
                go_wp2_with fail
                refine (H4.out _).mono ?_
                rintro e wn ⟨rfl, hb⟩
                have HVn := mkHid (below_step HV1.out hb)
                clear hb
                go_wp2_with fail
                refine (iHas_any p4 q4 z4 _).mono ?_
                rintro e wm ⟨rfl, hb⟩
                rw [T4.out]
                have HVm := mkHid (below_step HVn.out hb)
                clear hb
                go_wp2
                go_roundg g
                case measure => omega
                case rel => exact ⟨u + 1, by omega, by go_num, HVm.out⟩
              | true =>
                have t3 := T3.out e8
                go_wp2_with fail
                refine (iHas_any p3 q3 z3 _).mono ?_
                rintro e wh3 ⟨rfl, hb⟩
                rw [t3]
                have HV3 := mkHid (below_step HV1.out hb)
                clear hb t3
                clear a5 a6 b5 b6 c5 c6 d5 d6
                obtain ⟨a5, a6, -, -⟩ := G1.out.below HV3.out
                obtain ⟨b5, b6, -, -⟩ := G2.out.below HV3.out
                obtain ⟨c5, c6, -, -⟩ := G3.out.below HV3.out
                obtain ⟨d5, d6, -, -⟩ := G4.out.below HV3.out
                go_wp2_with fail
                refine (H4.out _).mono ?_
                rintro e wn ⟨rfl, hb⟩
                have HVn := mkHid (below_step HV3.out hb)
                clear hb
                go_wp2_with fail
                refine (iHas_any p4 q4 z4 _).mono ?_
                rintro e wm ⟨rfl, hb⟩
                rw [T4.out]
                have HVm := mkHid (below_step HVn.out hb)
                clear hb
                go_wp2
                go_roundg g
                case measure => omega
                case rel => exact ⟨u + 1, by omega, by go_num, HVm.out⟩
            | true =>
              have t2 := T2.out e7
              go_wp2_with fail
              refine (iHas_any p2 q2 z2 _).mono ?_
              rintro e wh2 ⟨rfl, hb⟩
              rw [t2]
              have HV2 := mkHid (below_step HV1.out hb)
              clear hb t2
              clear a5 a6 b5 b6 c5 c6 d5 d6
              obtain ⟨a5, a6, -, -⟩ := G1.out.below HV2.out
              obtain ⟨b5, b6, -, -⟩ := G2.out.below HV2.out
              obtain ⟨c5, c6, -, -⟩ := G3.out.below HV2.out
              obtain ⟨d5, d6, -, -⟩ := G4.out.below HV2.out
              go_wp2_with fail
              refine (within_any z3 _).mono ?_
              rintro e w9 ⟨rfl, rfl⟩
              cases e8 : valB z3 with
              | false =>
                go_wp2_with fail
                refine (H4.out _).mono ?_
                rintro e wn ⟨rfl, hb⟩
                have HVn := mkHid (below_step HV2.out hb)
                clear hb
                go_wp2_with fail
                refine (iHas_any p4 q4 z4 _).mono ?_
                rintro e wm ⟨rfl, hb⟩
                rw [T4.out]
                have HVm := mkHid (below_step HVn.out hb)
                clear hb
                go_wp2
                go_roundg g
                case measure => omega
                case rel => exact ⟨u + 1, by omega, by go_num, HVm.out⟩
              | true =>
                have t3 := T3.out e8
                go_wp2_with fail
                refine (iHas_any p3 q3 z3 _).mono ?_
                rintro e wh3 ⟨rfl, hb⟩
                rw [t3]
                have HV3 := mkHid (below_step HV2.out hb)
                clear hb t3
                clear a5 a6 b5 b6 c5 c6 d5 d6
                obtain ⟨a5, a6, -, -⟩ := G1.out.below HV3.out
                obtain ⟨b5, b6, -, -⟩ := G2.out.below HV3.out
                obtain ⟨c5, c6, -, -⟩ := G3.out.below HV3.out
                obtain ⟨d5, d6, -, -⟩ := G4.out.below HV3.out
                go_wp2_with fail
                refine (H4.out _).mono ?_
                rintro e wn ⟨rfl, hb⟩
                have HVn := mkHid (below_step HV3.out hb)
                clear hb
                go_wp2_with fail
                refine (iHas_any p4 q4 z4 _).mono ?_
                rintro e wm ⟨rfl, hb⟩
                rw [T4.out]
                have HVm := mkHid (below_step HVn.out hb)
                clear hb
                go_wp2
                go_roundg g
                case measure => omega
                case rel => exact ⟨u + 1, by omega, by go_num, HVm.out⟩
theorem Try.own : ownKnob Try.prog.godebug = none := by kernel_rfl
theorem Try.laidOut : laidOutB Try.prog = true := by kernel_rfl
theorem open_bytes {H : Type} {enc : TypeId × Value → H} {W : World} {a : Option Addr} {len cap : Nat} {x : DataW H} {p : List MemPlace} (h : DataW.Trod enc Try.prog W 0 (fun _ => true) true 22 (.slice a len cap) x p) : Bytes W W.heap.size a len ∧ len ≤ maxLen := by
  obtain ⟨fuel, hf⟩ := h
  rcases open_ints Try.underlying22 Try.underlying5 (by kernel_rfl) hf with ⟨hcs, _⟩ | ⟨ad, l, c, zs, hcs, _, hl, hm, hz, _, hcell, hwz⟩
  · simp [Value.cells] at hcs
    exact ⟨.inl hcs.2.1, by rw [hcs.2.1]; exact Nat.zero_le _⟩
  · simp [Value.cells] at hcs
    obtain ⟨rfl, rfl, rfl⟩ := hcs
    refine ⟨?_, by omega⟩
    by_cases h0 : len = 0
    · exact .inl h0
    · have hzl : zs.length = cap := by simpa using hz
      obtain ⟨b, off, rfl, hc⟩ := ints_at hcell (by omega)
      refine .inr ⟨b, off, rfl, World.block_lt_of_cell? W _ (hc 0 (by omega)), fun i hi => ?_⟩
      have hmem : zs.getD i 0 ∈ zs := by
        rw [List.getD_eq_getElem?_getD, List.getElem?_eq_getElem (by omega)]
        exact List.getElem_mem _
      have hw := bounds_u8 (hwz _ hmem)
      exact ⟨_, hw.1, hw.2, hc i (by omega)⟩

set_option maxRecDepth 100000 in
theorem law_lifted (os : Os) (started : os.Started) (H : Type) (enc : TypeId × Value → H) :
    ReturnsInHanded {} Try.checked os 3 .any (Rows.fnRangeSumsSpec.pre6 enc Try.prog Try.f3 Rows.fnRangeSumsRow.domain false) (Rows.fnRangeSumsSpec.post enc Try.prog Try.f3 false true false false) := by
  refine returnsInHanded_of_change (C := Try.checked) Try.own started (by kernel_rfl) Try.func3
    (ChangeSpec.witness6 (enc := enc) (C := Try.checked) false ⟨#[], #[.slice none 0 0], []⟩ 8 (by kernel_rfl) (by kernel_rfl) (by kernel_rfl) (by kernel_rfl)) ?_
  intro W base args ds gs before hval0 hW hcnd _
  have hval : ∀ (j : Nat) t v, Try.f3.params[j]? = some t → args[j]? = some v → Value.okWide Try.prog W .any base t v := hval0
  have hW' := hW
  obtain ⟨p, q, hA0, hV, rfl, hfz, hnd⟩ := hW
  have hA : DataW.TrodAll enc Try.prog W 0 (fun _ => true) true Try.f3.params.toList args.toList ds p := hA0
  rw [Try.params3] at hA hval
  obtain ⟨v0, vs0, d0, ds0, p0, q0, hargs, rfl, rfl, h0, r0⟩ := trodAll_cons hA
  obtain ⟨rfl, rfl, rfl⟩ := trodAll_nil r0
  obtain rfl : args = #[v0] := by cases args; simp_all
  obtain ⟨rfl, rfl⟩ := trodVars_none hV
  obtain ⟨a0, len0, cap0, rfl⟩ := okWide_slice Try.underlying22 (hval 0 22 v0 rfl rfl)
  have lt0 : ∀ x ∈ p0, x.block < W.heap.size := by obtain ⟨m, hm⟩ := h0; exact DataW.trod_lt m _ _ _ hm
  clear hA0 hval0
  refine (law_walk a0 len0 cap0 W (open_bytes h0).2 (open_bytes h0).1).mono fun e W' ⟨he, bel⟩ => ?_
  subst he
  exact ⟨_, rfl, _, _, _, [], _, [], hW', trodAll_mk1 (shut_bool Try.underlying4 _), (trodAll_cons_mk (Below.trod Try.laidOut (by kernel_rfl) (of_decide_eq_true (by kernel_rfl)) h0 bel lt0) trodAll_mk0), rfl, bel.frame _, fun h => by cases h⟩

theorem law_holds : Rows.FnRangeSumsSaid :=
  OpenClaim.holds_of_wide 3 Try.f3 rfl rfl rfl rfl rfl rfl rfl ⟨rfl, rfl, rfl, rfl, rfl⟩ rfl rfl rfl rfl rfl (by kernel_rfl) Try.func3 (by kernel_rfl)
    (of_decide_eq_true (by kernel_rfl)) (by unfold Func.isWrapper; first | (rw [if_pos (by decide +kernel)]; kernel_rfl) | (rw [if_neg (by decide +kernel)]; exact ⟨rfl, rfl⟩))
    (fun os started H enc _ => law_lifted os started H enc)

#print axioms law_holds
end Go.Proofs.Ytgkmpadeleebdaa
