/-
  SEGMENTS IN MEMORY: three rows; to be read (SegAt), of one's own (OwnS); a box of three slices (G3).
  CONTRACTS of finding a term: l10Find, l10In, slices.Index, Contains, Equal.
  CONTRACTS of slices.Equal at terms and of l10In.
  CONTRACTS of isLength, l10Size and of both SegTops.
  CONTRACTS of the law's eqValS.
  CONTRACTS of the law's eqBoolS.
-/
import Derived.Test.YtihpajiololfoaaGreatSh02
namespace Go.Proofs.YtihpajiololfoaaGreat
open Go.RowKit

structure SG where
 B : List (List Y)
 V : List VV
 M : List Bool
structure SAd where
 a0 : Option Addr
 c0 : Nat
 a1 : Option Addr
 c1 : Nat
 a2 : Option Addr
 c2 : Nat
structure SegAt (w : World) (A : SAd) (S : SG) : Prop where
 b : BndsAt w A.a0 S.B
 v : At eV w A.a1 S.V
 m : At eB w A.a2 S.M
theorem SegAt.below {w w' : World} {A : SAd} {S : SG} (h : SegAt w A S) (hb : Below w.heap.size w w') : SegAt w' A S := ⟨h.b.below hb, h.v.below hb, h.m.below hb⟩
/-- A Seg of our own: all its blocks lie from lo on and below hi. -/
structure OwnS (w : World) (lo hi : Nat) (A : SAd) (S : SG) : Prop where
 b : OwnT w lo hi (.slice A.a0 S.B.length A.c0) S.B
 v : Own eV 55 w lo (.slice A.a1 S.V.length A.c1) S.V
 vt : ∀ q, Value.ownBlock (.slice A.a1 S.V.length A.c1) = some q → q < hi
 m : Own eB 4 w lo (.slice A.a2 S.M.length A.c2) S.M
 mt : ∀ q, Value.ownBlock (.slice A.a2 S.M.length A.c2) = some q → q < hi
theorem OwnS.at {w : World} {lo hi : Nat} {A : SAd} {S : SG} (h : OwnS w lo hi A S) : SegAt w A S := ⟨h.b.at, h.v.at, h.m.at⟩
theorem OwnS.below {w w' : World} {lo hi : Nat} {A : SAd} {S : SG} (h : OwnS w lo hi A S) (hb : Below w.heap.size w w') : OwnS w' lo hi A S := ⟨h.b.below hb, h.v.below hb, h.vt, h.m.below hb, h.mt⟩
theorem Own.outs {α : Type} {E : El α} {T : TypeId} {w w' : World} {a b : Nat} {v : Value} {l : List α} (h : Own E T w a v l) (ht : ∀ q, v.ownBlock = some q → q < b) {lo hi : Nat} (ho : Outs lo hi w w') (hd : b ≤ lo ∨ hi ≤ a) : Own E T w' a v l :=
 owns_outs h ho fun q hq => by have := (h.lt hq).1; have := ht q hq; omega
theorem OwnS.outs {w w' : World} {a b : Nat} {A : SAd} {S : SG} (h : OwnS w a b A S) {lo hi : Nat} (ho : Outs lo hi w w') (hd : b ≤ lo ∨ hi ≤ a) : OwnS w' a b A S :=
 ⟨h.b.outs ho hd, h.v.outs h.vt ho hd, h.vt, h.m.outs h.mt ho hd, h.mt⟩
/-- Three values in a block that may be written. -/
structure G3 (v : World) (X : Nat) (p q r : Value) : Prop where
 c0 : v.cell? ⟨X, 0, none⟩ = some p
 c1 : v.cell? ⟨X, 1, none⟩ = some q
 c2 : v.cell? ⟨X, 2, none⟩ = some r
 f0 : v.frozen? ⟨X, 0, none⟩ = false
 f1 : v.frozen? ⟨X, 1, none⟩ = false
 f2 : v.frozen? ⟨X, 2, none⟩ = false
section
variable {v v' : World} {X : Nat} {p q r : Value}
theorem G3.lt (h : G3 v X p q r) : X < v.heap.size := World.block_lt_of_cell? v _ h.c0
theorem G3.below (h : G3 v X p q r) (hb : Below v.heap.size v v') : G3 v' X p q r := by
 obtain ⟨hc, hf⟩ := bcell hb
 have hl := h.lt
 exact ⟨(hc _ _ hl).trans h.c0, (hc _ _ hl).trans h.c1, (hc _ _ hl).trans h.c2, (hf _ _ hl).trans h.f0, (hf _ _ hl).trans h.f1, (hf _ _ hl).trans h.f2⟩
theorem G3.drew (h : G3 v X p q r) : G3 v.drew X p q r := ⟨h.c0, h.c1, h.c2, h.f0, h.f1, h.f2⟩
theorem G3.new (w : World) (p q r : Value) (T : TypeId) : G3 (w.alloc (.cells #[p, q, r] T)) w.heap.size p q r := by
 constructor <;> simp [go_sem]
theorem G3.outs (h : G3 v X p q r) {lo hi : Nat} (ho : Outs lo hi v v') (hd : X < lo ∨ hi ≤ X) : G3 v' X p q r := by
 have hb := ho.block X h.lt hd
 have hc : ∀ o, v'.cell? ⟨X, o, none⟩ = v.cell? ⟨X, o, none⟩ := fun o => by simp only [World.cell?, hb]
 have hf : ∀ o, v'.frozen? ⟨X, o, none⟩ = v.frozen? ⟨X, o, none⟩ := fun o => by simp only [World.frozen?, hb]
 exact ⟨(hc _).trans h.c0, (hc _).trans h.c1, (hc _).trans h.c2, (hf _).trans h.f0, (hf _).trans h.f1, (hf _).trans h.f2⟩
theorem G3.set0 (h : G3 v X p q r) (u : Value) : G3 (v.setCell ⟨X, 0, none⟩ u) X u q r := by
 obtain ⟨c0, c1, c2, f0, f1, f2⟩ := h
 constructor <;> simp [go_sem, *]
theorem G3.set1 (h : G3 v X p q r) (u : Value) : G3 (v.setCell ⟨X, 1, none⟩ u) X p u r := by
 obtain ⟨c0, c1, c2, f0, f1, f2⟩ := h
 constructor <;> simp [go_sem, *]
theorem G3.set2 (h : G3 v X p q r) (u : Value) : G3 (v.setCell ⟨X, 2, none⟩ u) X p q u := by
 obtain ⟨c0, c1, c2, f0, f1, f2⟩ := h
 constructor <;> simp [go_sem, *]
theorem G3.far (h : G3 v X p q r) {Z : Nat} (hn : X ≠ Z) (i : Nat) (u : Value) : G3 (v.setCell ⟨Z, i, none⟩ u) X p q r := by
 obtain ⟨c0, c1, c2, f0, f1, f2⟩ := h
 constructor <;> simp [go_sem, *]
end
theorem outs_set (w : World) (Z i : Nat) (u : Value) : Outs Z (Z + 1) w (w.setCell ⟨Z, i, none⟩ u) := by
 have g : Below Z w (w.setCell ⟨Z, i, none⟩ u) := (Below.refl Z w).setCell (p := ⟨Z, i, none⟩) (Nat.le_refl _) _
 refine ⟨g.os, g.tape, g.output, g.size, fun k hk hd => ?_⟩
 exact Below.heap_setCell w ⟨Z, i, none⟩ u k (by show k ≠ Z; omega)
theorem OwnT.mono {w : World} {lo hi lo' hi' : Nat} {v : Value} {ls : List (List Y)} (h : OwnT w lo hi v ls) (h1 : lo' ≤ lo) (h2 : hi ≤ hi') : OwnT w lo' hi' v ls := by
 obtain ⟨vs, a, b, c, d⟩ := h
 exact ⟨vs, World.ownsRow.mono a h1, b.mono h1, fun q hq => Nat.lt_of_lt_of_le (c q hq) h2, fun i u q hu hq => Nat.lt_of_lt_of_le (d i u q hu hq) h2⟩
theorem OwnS.mono {w : World} {lo hi lo' hi' : Nat} {A : SAd} {S : SG} (h : OwnS w lo hi A S) (h1 : lo' ≤ lo) (h2 : hi ≤ hi') : OwnS w lo' hi' A S :=
 ⟨h.b.mono h1 h2, h.v.mono h1, fun q hq => Nat.lt_of_lt_of_le (h.vt q hq) h2, h.m.mono h1, fun q hq => Nat.lt_of_lt_of_le (h.mt q hq) h2⟩
end Go.Proofs.YtihpajiololfoaaGreat
namespace Go.Proofs.YtihpajiololfoaaGreat
open Go.RowKit

theorem eql_sym (w : World) (a b c d : Int) : (Go.binOp .eql 49 (.agg #[.int .i64 a, .int .i64 b]) (.agg #[.int .i64 c, .int .i64 d])).run Tryz.prog w = .ok (.bool (eqB a b c d)) w := by
 have u3 := Tryz.underlying3
 have a3 := Tryz.isAgg3
 have z3 := Tryz.sizeOf3
 have hS : Tryz.prog.underlying 49 = some (.struct (Tryz.prog.fieldsOf 49)) := by kernel_rfl
 have hp : Tryz.prog.stoodInHeld 49 = false := by kernel_rfl
 rw [run_eql_struct, show (10000 : Nat) = 9999 + 1 from rfl, run_equalIn_agg w 9999 49 _ _ hS hp]
 simp only [Program.fieldsOf, Tryz.underlying49]
 go_simp
 unfold eqB
 by_cases h1 : a = c <;> by_cases h2 : b = d <;> simp [h1, h2]
theorem eqB_y (x y : Y) : eqB x.1 x.2 y.1 y.2 = decide (x = y) := by
 unfold eqB
 obtain ⟨a, b⟩ := x
 obtain ⟨c, d⟩ := y
 rw [decide_eq_decide]
 simp
theorem mem_take_succ {l : List Y} {k : Nat} {x t : Y} (hx : l[k]? = some x) (h : t ∉ l.take k) (hn : x ≠ t) : t ∉ l.take (k + 1) := by
 rw [List.take_add_one, hx]
 simp [h]
 exact fun e => hn e.symm
set_option maxRecDepth 100000 in
set_option maxHeartbeats 1600000 in
theorem l10Find_any (l : List Y) (a : Option Addr) (c : Nat) (t : Y) (w : World) (hn : l.length ≤ maxLen) (hl : At eY w a l) :
  Calls Tryz.prog 127 #[.slice a l.length c, .agg #[.int .i64 t.1, .int .i64 t.2]] w fun e w' => Below w.heap.size w w' ∧ ∃ r : Int, e = .returned (.int .i64 r) ∧ (0 ≤ r ↔ t ∈ l) := by
 unfold maxLen at hn
 have hEq := eql_sym
 obtain ⟨w0, hw0⟩ : ∃ x : World, w.alloc (.cells #[.int .i64 t.1, .int .i64 t.2] 49) = x := ⟨_, rfl⟩
 obtain ⟨X, hX⟩ : ∃ x, w.heap.size = x := ⟨_, rfl⟩
 have HX := mkHid hX
 have HB : Hid (Below w.heap.size w w0) := mkHid (by rw [← hw0]; exact bl_alloc (Below.refl _ _) _)
 have P0 : Hid (Box w0 X t.1 t.2) := mkHid (by rw [← hw0, ← hX]; exact Box.new' _ _ _ _)
 have HL := mkHid (hl.below HB.out)
 clear hl
 go_enter Tryz.func127, Tryz.ntmps127
 go_wp2
 clear hw0 hX
 go_loopg [5] l.length (fun g s5 wr => ∃ (k : Nat), k ≤ l.length ∧ s5 = .int .i64 k ∧ l.length - k ≤ g ∧ t ∉ l.take k ∧ Below w0.heap.size w0 wr)
 case atStart => exact ⟨0, Nat.zero_le _, rfl, by omega, by simp, Below.refl _ _⟩
 case round =>
  obtain ⟨k, hk, rfl, hgk, hnot, hbel⟩ := hrel
  have HN := mkHid hnot
  have HB1 := mkHid hbel
  clear hnot
  by_cases hlt : k < l.length
  ·obtain ⟨x, hx⟩ : ∃ x, l[k]? = some x := ⟨_, List.getElem?_eq_getElem hlt⟩
   obtain ⟨b, off, rfl, _, hq⟩ := (HL.out.below hbel).cons (by omega)
   obtain ⟨c0, c1⟩ := get_y hq hx
   obtain ⟨q0, q1, _, _⟩ := P0.out.below hbel
   have HX := mkHid hx
   clear hq hbel hx
   have i0 : (0 : Int) ≤ (k : Int) := by omega
   have i1 : (k : Int) < (l.length : Int) := by omega
   by_cases he : x = t
   ·have he2 : eqB x.1 x.2 t.1 t.2 = true := by rw [eqB_y]; exact decide_eq_true he
    have HE := mkHid he
    clear he
    go_wp2
    go_quiet (fail)
    go_wp2
    go_ret
    refine ⟨below_step HB.out ⟨HB1.out.os, HB1.out.tape, HB1.out.output, HB1.out.size, HB1.out.block⟩, k, rfl, ⟨fun _ => ?_, fun _ => by omega⟩⟩
    rw [← HE.out]
    exact List.mem_of_getElem? HX.out
   ·have he2 : eqB x.1 x.2 t.1 t.2 = false := by rw [eqB_y]; exact decide_eq_false he
    have HE := mkHid (mem_take_succ HX.out HN.out he)
    clear he
    go_wp2
    go_quiet (fail)
    go_wp2
    go_roundg (l.length - (k + 1))
    case measure => omega
    case rel => exact ⟨k + 1, by omega, by go_num, Nat.le_refl _, HE.out, ⟨HB1.out.os, HB1.out.tape, HB1.out.output, HB1.out.size, HB1.out.block⟩⟩
  ·have e : k = l.length := by omega
   subst e
   have hnot := HN.out
   rw [List.take_length] at hnot
   have HN := mkHid hnot
   clear hnot hbel
   go_wp2
   go_ret
   exact ⟨below_step HB.out HB1.out, -1, rfl, ⟨fun h => absurd h (by omega), fun h => absurd h HN.out⟩⟩
set_option maxRecDepth 100000 in
set_option maxHeartbeats 1600000 in
theorem index_any (l : List Y) (a : Option Addr) (c : Nat) (t : Y) (w : World) (hn : l.length ≤ maxLen) (hl : At eY w a l) :
  Calls Tryz.prog 145 #[.slice a l.length c, .agg #[.int .i64 t.1, .int .i64 t.2]] w fun e w' => Below w.heap.size w w' ∧ ∃ r : Int, e = .returned (.int .i64 r) ∧ (0 ≤ r ↔ t ∈ l) := by
 unfold maxLen at hn
 have hEq := eql_sym
 obtain ⟨w0, hw0⟩ : ∃ x : World, w.alloc (.cells #[.int .i64 t.1, .int .i64 t.2] 49) = x := ⟨_, rfl⟩
 obtain ⟨X, hX⟩ : ∃ x, w.heap.size = x := ⟨_, rfl⟩
 have HX := mkHid hX
 have HB : Hid (Below w.heap.size w w0) := mkHid (by rw [← hw0]; exact bl_alloc (Below.refl _ _) _)
 have P0 : Hid (Box w0 X t.1 t.2) := mkHid (by rw [← hw0, ← hX]; exact Box.new' _ _ _ _)
 have HL := mkHid (hl.below HB.out)
 clear hl
 go_enter Tryz.func145, Tryz.ntmps145
 go_wp2
 clear hw0 hX
 go_loopg [8, 5] l.length (fun g s8 s5 wr => ∃ (k : Nat), k ≤ l.length ∧ s8 = .int .i64 k ∧ l.length - k ≤ g ∧ t ∉ l.take k ∧ Below w0.heap.size w0 wr)
 case atStart => exact ⟨0, Nat.zero_le _, rfl, by omega, by simp, Below.refl _ _⟩
 case round =>
  obtain ⟨k, hk, rfl, hgk, hnot, hbel⟩ := hrel
  have HN := mkHid hnot
  have HB1 := mkHid hbel
  clear hnot
  by_cases hlt : k < l.length
  ·obtain ⟨x, hx⟩ : ∃ x, l[k]? = some x := ⟨_, List.getElem?_eq_getElem hlt⟩
   obtain ⟨b, off, rfl, _, hq⟩ := (HL.out.below hbel).cons (by omega)
   obtain ⟨c0, c1⟩ := get_y hq hx
   obtain ⟨q0, q1, _, _⟩ := P0.out.below hbel
   have HX := mkHid hx
   clear hq hbel hx
   have i0 : (0 : Int) ≤ (k : Int) := by omega
   have i1 : (k : Int) < (l.length : Int) := by omega
   by_cases he : x = t
   ·have he2 : eqB t.1 t.2 x.1 x.2 = true := by rw [eqB_y]; exact decide_eq_true he.symm
    have HE := mkHid he
    clear he
    go_wp2
    go_quiet (fail)
    go_wp2
    go_ret
    refine ⟨below_step HB.out ⟨HB1.out.os, HB1.out.tape, HB1.out.output, HB1.out.size, HB1.out.block⟩, k, rfl, ⟨fun _ => ?_, fun _ => by omega⟩⟩
    rw [← HE.out]
    exact List.mem_of_getElem? HX.out
   ·have he2 : eqB t.1 t.2 x.1 x.2 = false := by rw [eqB_y]; exact decide_eq_false (fun e => he e.symm)
    have HE := mkHid (mem_take_succ HX.out HN.out he)
    clear he
    go_wp2
    go_quiet (fail)
    go_wp2
    go_roundg (l.length - (k + 1))
    case measure => omega
    case rel => exact ⟨k + 1, by omega, by go_num, Nat.le_refl _, HE.out, ⟨HB1.out.os, HB1.out.tape, HB1.out.output, HB1.out.size, HB1.out.block⟩⟩
  ·have e : k = l.length := by omega
   subst e
   have hnot := HN.out
   rw [List.take_length] at hnot
   have HN := mkHid hnot
   clear hnot hbel
   go_wp2
   go_ret
   exact ⟨below_step HB.out HB1.out, -1, rfl, ⟨fun h => absurd h (by omega), fun h => absurd h HN.out⟩⟩
set_option maxRecDepth 100000 in
set_option maxHeartbeats 1600000 in
theorem contains_any (l : List Y) (a : Option Addr) (c : Nat) (t : Y) (w : World) (hn : l.length ≤ maxLen) (hl : At eY w a l) :
  Calls Tryz.prog 120 #[.slice a l.length c, .agg #[.int .i64 t.1, .int .i64 t.2]] w fun e w' => e = .returned (.bool (decide (t ∈ l))) ∧ Below w.heap.size w w' := by
 obtain ⟨d, hd⟩ : ∃ d, decide (t ∈ l) = d := ⟨_, rfl⟩
 have HD := mkHid hd
 rw [hd]
 clear hd
 obtain ⟨w0, hw0⟩ : ∃ x : World, w.alloc (.cells #[.int .i64 t.1, .int .i64 t.2] 49) = x := ⟨_, rfl⟩
 obtain ⟨X, hX⟩ : ∃ x, w.heap.size = x := ⟨_, rfl⟩
 have HB : Hid (Below w.heap.size w w0) := mkHid (by rw [← hw0]; exact bl_alloc (Below.refl _ _) _)
 have P0 : Hid (Box w0 X t.1 t.2) := mkHid (by rw [← hw0, ← hX]; exact Box.new' _ _ _ _)
 obtain ⟨q0, q1, _, _⟩ := P0.out
 go_enter Tryz.func120, Tryz.ntmps120
 go_wp2_with fail
 clear hw0 hX q0 q1
 refine (index_any l a c t _ hn (hl.below HB.out)).mono ?_
 rintro e w1 ⟨hb, r, rfl, hr⟩
 have HB1 := mkHid (below_step HB.out hb)
 have HR : Hid (decide (0 ≤ r) = d) := mkHid (by rw [← HD.out]; exact decide_eq_decide.2 hr)
 clear hb hr
 go_wp2
 go_ret
 exact ⟨ret_bool HR.out, HB1.out⟩
theorem neq_sym (w : World) (a b c d : Int) : (Go.binOp .neq 49 (.agg #[.int .i64 a, .int .i64 b]) (.agg #[.int .i64 c, .int .i64 d])).run Tryz.prog w = .ok (.bool (!eqB a b c d)) w := by
 have u3 := Tryz.underlying3
 have a3 := Tryz.isAgg3
 have z3 := Tryz.sizeOf3
 have hS : Tryz.prog.underlying 49 = some (.struct (Tryz.prog.fieldsOf 49)) := by kernel_rfl
 have hp : Tryz.prog.stoodInHeld 49 = false := by kernel_rfl
 rw [run_neq_struct, show (10000 : Nat) = 9999 + 1 from rfl, run_equalIn_agg w 9999 49 _ _ hS hp]
 simp only [Program.fieldsOf, Tryz.underlying49]
 go_simp
 unfold eqB
 by_cases h1 : a = c <;> by_cases h2 : b = d <;> simp [h1, h2]
end Go.Proofs.YtihpajiololfoaaGreat
namespace Go.Proofs.YtihpajiololfoaaGreat
open Go.RowKit

theorem take_eq_succ {l m : List Y} {k : Nat} {x y : Y} (hx : l[k]? = some x) (hy : m[k]? = some y) (h : l.take k = m.take k) (e : x = y) : l.take (k + 1) = m.take (k + 1) := by
 rw [List.take_add_one, List.take_add_one, hx, hy, h, e]
set_option maxRecDepth 100000 in
set_option maxHeartbeats 1600000 in
theorem equal_same (l m : List Y) (a a' : Option Addr) (c c' : Nat) (w : World) (hlen : l.length = m.length) (hn : l.length ≤ maxLen) (hl : At eY w a l) (hm : At eY w a' m) :
  Calls Tryz.prog 160 #[.slice a l.length c, .slice a' m.length c'] w fun e w' => Below w.heap.size w w' ∧ ∃ r : Bool, e = .returned (.bool r) ∧ (r = true ↔ l = m) := by
 unfold maxLen at hn
 have hNe := neq_sym
 have HL := mkHid hl
 have HM := mkHid hm
 have HE := mkHid hlen
 rw [← hlen]
 clear hl hm hlen
 go_enter Tryz.func160, Tryz.ntmps160
 go_wp2
 go_loopg [13, 5] l.length (fun g s13 s5 wr => ∃ (k : Nat), k ≤ l.length ∧ s13 = .int .i64 k ∧ l.length - k ≤ g ∧ l.take k = m.take k ∧ Below w.heap.size w wr)
 case atStart => exact ⟨0, Nat.zero_le _, rfl, by omega, by simp, Below.refl _ _⟩
 case round =>
  obtain ⟨k, hk, rfl, hgk, htk, hbel⟩ := hrel
  have HT := mkHid htk
  have HB1 := mkHid hbel
  clear htk
  by_cases hlt : k < l.length
  ·obtain ⟨x, hx⟩ : ∃ x, l[k]? = some x := ⟨_, List.getElem?_eq_getElem hlt⟩
   obtain ⟨y, hy⟩ : ∃ x, m[k]? = some x := ⟨_, List.getElem?_eq_getElem (by have := HE.out; omega)⟩
   obtain ⟨b, off, rfl, _, hq⟩ := (HL.out.below hbel).cons (by omega)
   obtain ⟨b', off', rfl, _, hq'⟩ := (HM.out.below hbel).cons (by have := HE.out; omega)
   obtain ⟨c0, c1⟩ := get_y hq hx
   obtain ⟨d0, d1⟩ := get_y hq' hy
   have HX := mkHid hx
   have HY := mkHid hy
   clear hq hq' hbel hx hy
   have i0 : (0 : Int) ≤ (k : Int) := by omega
   have i1 : (k : Int) < (l.length : Int) := by omega
   by_cases he : x = y
   ·have he2 : eqB x.1 x.2 y.1 y.2 = true := by rw [eqB_y]; exact decide_eq_true he
    have HK := mkHid (take_eq_succ HX.out HY.out HT.out he)
    clear he
    go_wp2
    go_quiet (fail)
    go_wp2
    go_roundg (l.length - (k + 1))
    case measure => omega
    case rel => exact ⟨k + 1, by omega, by go_num, Nat.le_refl _, HK.out, ⟨HB1.out.os, HB1.out.tape, HB1.out.output, HB1.out.size, HB1.out.block⟩⟩
   ·have he2 : eqB x.1 x.2 y.1 y.2 = false := by rw [eqB_y]; exact decide_eq_false he
    have HK := mkHid he
    clear he
    go_wp2
    go_quiet (fail)
    go_wp2
    go_ret
    refine ⟨⟨HB1.out.os, HB1.out.tape, HB1.out.output, HB1.out.size, HB1.out.block⟩, false, rfl, ⟨fun h => (by cases h), fun h => ?_⟩⟩
    exact absurd (by have h1 := HX.out; rw [h, HY.out] at h1; exact (Option.some.inj h1).symm) HK.out
  ·have e : k = l.length := by omega
   subst e
   have HT2 : Hid (l = m) := mkHid (by have h := HT.out; rw [List.take_length, List.take_of_length_le (by have := HE.out; omega)] at h; exact h)
   clear hbel
   go_wp2
   go_ret
   exact ⟨HB1.out, true, rfl, ⟨fun _ => HT2.out, fun _ => by trivial⟩⟩
set_option maxRecDepth 100000 in
theorem equal_any (l m : List Y) (a a' : Option Addr) (c c' : Nat) (w : World) (hn : l.length ≤ maxLen) (hl : At eY w a l) (hm : At eY w a' m) :
  Calls Tryz.prog 160 #[.slice a l.length c, .slice a' m.length c'] w fun e w' => Below w.heap.size w w' ∧ ∃ r : Bool, e = .returned (.bool r) ∧ (r = true ↔ l = m) := by
 by_cases hlen : l.length = m.length
 ·exact equal_same l m a a' c c' w hlen hn hl hm
 ·have h1 : ((l.length : Int) != (m.length : Int)) = true := by simp; omega
  have HE := mkHid hlen
  clear hlen hl hm hn
  go_enter Tryz.func160, Tryz.ntmps160
  go_wp2
  go_ret
  exact ⟨Below.refl _ _, false, rfl, ⟨fun h => (by cases h), fun h => absurd (congrArg List.length h) HE.out⟩⟩
theorem inY_at {B : List (List Y)} {t : Y} {k : Nat} {l : List Y} (h : ∀ j b, j < k → B[j]? = some b → t ∉ b) (hl : B[k]? = some l) (ht : t ∈ l) : toI (inY B t) = (k : Int) := by
 obtain ⟨hk, rfl⟩ := List.getElem?_eq_some_iff.1 hl
 exact toI_eq.2 (inY_some.2 ⟨hk, ht, fun j hj => h j _ hj (List.getElem?_eq_getElem (by omega))⟩)
theorem inY_no {B : List (List Y)} {t : Y} (h : ∀ j b, j < B.length → B[j]? = some b → t ∉ b) : toI (inY B t) = -1 := by
 rw [inY_none.2 fun b hb => ?_]
 ·rfl
 ·obtain ⟨i, hi, rfl⟩ := List.getElem_of_mem hb
  exact h i _ hi (List.getElem?_eq_getElem hi)
set_option maxRecDepth 100000 in
set_option maxHeartbeats 3200000 in
theorem l10In_any (S : SG) (A : SAd) (t : Y) (w : World) (hn : S.B.length ≤ maxLen) (hr : ∀ (i : Nat) (l : List Y), S.B[i]? = some l → l.length ≤ maxLen) (hl : BndsAt w A.a0 S.B) :
  Calls Tryz.prog 79 #[.agg #[.slice A.a0 S.B.length A.c0, .slice A.a1 S.V.length A.c1, .slice A.a2 S.M.length A.c2], .agg #[.int .i64 t.1, .int .i64 t.2]] w fun e w' => Below w.heap.size w w' ∧ e = .returned (.int .i64 (toI (inY S.B t))) := by
 obtain ⟨z, hz⟩ : ∃ z, toI (inY S.B t) = z := ⟨_, rfl⟩
 have HZ := mkHid hz
 rw [hz]
 clear hz
 unfold maxLen at hn
 have HR := mkHid hr
 obtain ⟨w0, hw0⟩ : ∃ x : World, (w.alloc (.cells #[.slice A.a0 S.B.length A.c0, .slice A.a1 S.V.length A.c1, .slice A.a2 S.M.length A.c2] 35)).alloc (.cells #[.int .i64 t.1, .int .i64 t.2] 49) = x := ⟨_, rfl⟩
 obtain ⟨X, hX⟩ : ∃ x, w.heap.size = x := ⟨_, rfl⟩
 have HB : Hid (Below w.heap.size w w0) := mkHid (by rw [← hw0]; exact bl_alloc (bl_alloc (Below.refl _ _) _) _)
 have P0 : Hid (G3 w0 X (.slice A.a0 S.B.length A.c0) (.slice A.a1 S.V.length A.c1) (.slice A.a2 S.M.length A.c2)) := mkHid (by rw [← hw0, ← hX]; constructor <;> simp [go_sem])
 have P1 : Hid (Box w0 (X + 1) t.1 t.2) := mkHid (by rw [← hw0, ← hX]; exact ⟨by simp [go_sem], by simp [go_sem], by simp [go_sem], by simp [go_sem]⟩)
 have HL := mkHid (hl.below HB.out)
 clear hl hr
 go_enter Tryz.func79, Tryz.ntmps79
 go_wp2
 clear hw0 hX
 go_loopw [5] (fun i w' => ∃ (k : Nat), k ≤ S.B.length ∧ i = .int .i64 k ∧ (∀ j b, j < k → S.B[j]? = some b → t ∉ b) ∧ Below w0.heap.size w0 w') (fun i _ => S.B.length - (intOf i).toNat)
 case atStart => exact ⟨0, Nat.zero_le _, rfl, fun j b h => by omega, Below.refl _ _⟩
 case round =>
  obtain ⟨k, hk, rfl, hnot, hbel⟩ := hrel
  have HN := mkHid hnot
  have HB1 := mkHid hbel
  have R0 := P0.out.below hbel
  have R1 := P1.out.below hbel
  clear hnot
  obtain ⟨q0, q1, q2, _, _, _⟩ := R0
  obtain ⟨p0, p1, _, _⟩ := R1
  by_cases hlt : k < S.B.length
  ·obtain ⟨l, hx⟩ : ∃ x, S.B[k]? = some x := ⟨_, List.getElem?_eq_getElem hlt⟩
   obtain ⟨b, off, hab, hlb, hq⟩ := (HL.out.below hbel).cons (by omega)
   obtain ⟨ao, cp, c0, hat⟩ := hq k l hx
   rw [hab] at q0
   have HAT := mkHid hat
   have HX := mkHid hx
   have HM := mkHid (HR.out k l hx)
   have hlx : X < wr.heap.size := World.block_lt_of_cell? wr _ q0
   have hly : X + 1 < wr.heap.size := World.block_lt_of_cell? wr _ p0
   clear hq hbel hx hat hab
   have i0 : (0 : Int) ≤ (k : Int) := by omega
   have i1 : (k : Int) < (S.B.length : Int) := by omega
   go_wp2
   go_region_held3 (fun w' => w'.cell? ⟨X, 0, none⟩ = some (.slice (some ⟨b, off, none⟩) S.B.length A.c0) ∧ w'.cell? ⟨b, off + k, none⟩ = some (.slice ao l.length cp) ∧ w'.cell? ⟨X + 1, 0, none⟩ = some (.int .i64 t.1) ∧ w'.cell? ⟨X + 1, 1, none⟩ = some (.int .i64 t.2)) (first | exact ⟨q0, c0, p0, p1⟩ | exact ⟨(hc _ _ hlx).trans q0, (hc _ _ hlb).trans c0, (hc _ _ hly).trans p0, (hc _ _ hly).trans p1⟩)
    (first | (go_at_call 127; refine (l10Find_any l ao cp t _ HM.out (HAT.out.below (Below.refl _ _).drew)).mono ?_; rintro e w1 ⟨hb1, r, rfl, hr⟩; have HRR := mkHid hr; clear hr; obtain ⟨hc, hf⟩ := bcell hb1))
   have HB2 : Hid (Below w0.heap.size w0 w1) := HB1.out.drew.trans (hb1.mono HB1.out.drew.size)
   clear hb1 hc hf
   by_cases hr0 : 0 ≤ r
   ·have HE : Hid ((k : Int) = z) := mkHid (by rw [← HZ.out]; exact (inY_at HN.out HX.out (HRR.out.1 hr0)).symm)
    go_wp2
    go_ret
    exact ⟨below_step HB.out HB2.out, ret_int HE.out⟩
   ·have HE : Hid (∀ j b, j < k + 1 → S.B[j]? = some b → t ∉ b) := mkHid fun j b hj hb => by
     rcases (by omega : j < k ∨ j = k) with h | rfl
     ·exact HN.out j b h hb
     ·rw [HX.out] at hb
      exact fun h => hr0 (HRR.out.2 (by rw [Option.some.inj hb]; exact h))
    go_wp2
    go_roundw
    case rel => exact ⟨k + 1, by omega, by go_num, HE.out, HB2.out⟩
    case measure => simp [intOf]; omega
  ·have e : k = S.B.length := by omega
   have HE : Hid (-1 = z) := mkHid (by rw [← HZ.out]; exact (inY_no fun j b hj hb => HN.out j b (by omega) hb).symm)
   subst e
   clear hbel
   go_wp2
   go_ret
   exact ⟨below_step HB.out HB1.out, ret_int HE.out⟩
end Go.Proofs.YtihpajiololfoaaGreat
namespace Go.Proofs.YtihpajiololfoaaGreat
open Go.RowKit

def lenB (n l : Int) : Bool := btw n 2 13 && btw l 1 (n - 1)
theorem lenB_iff {n l : Int} : lenB n l = true ↔ lenP n l := by unfold lenB btw lenP; simp
set_option maxHeartbeats 800000 in
theorem sLen_any (n l : Int) (w : World) : Calls Tryz.prog 76 #[.int .i64 n, .int .i64 l] w fun e w' => e = .returned (.bool (lenB n l)) ∧ w = w' := by
 unfold lenB
 cases h1 : btw n 2 13
 ·go_enter Tryz.func76, Tryz.ntmps76
  go_wp2_with (first | (go_at_call 95; refine (between_any _ _ _ _).mono ?_; rintro e w' ⟨rfl, rfl⟩))
  go_ret
  exact ⟨rfl, rfl⟩
 ·have hn : 2 ≤ n ∧ n ≤ 13 := of_decide_eq_true h1
  obtain ⟨k, hk⟩ : ∃ k, n - 1 = k := ⟨_, rfl⟩
  have hw : IntKind.i64.wrap (n - 1) = k := by rw [← hk]; exact IntWalk.i64_in _ (by omega)
  rw [hk]
  clear hk hn
  cases h2 : btw l 1 k
  ·go_enter Tryz.func76, Tryz.ntmps76
   go_wp2_with (first | (go_at_call 95; refine (between_any _ _ _ _).mono ?_; rintro e w' ⟨rfl, rfl⟩))
   go_ret
   exact ⟨rfl, rfl⟩
  ·go_enter Tryz.func76, Tryz.ntmps76
   go_wp2_with (first | (go_at_call 95; refine (between_any _ _ _ _).mono ?_; rintro e w' ⟨rfl, rfl⟩))
   go_ret
   exact ⟨rfl, rfl⟩
set_option maxHeartbeats 800000 in
theorem iLen_any (n l : Int) (w : World) : Calls Tryz.prog 117 #[.int .i64 n, .int .i64 l] w fun e w' => e = .returned (.bool (lenB n l)) ∧ w = w' := by
 unfold lenB
 cases h1 : btw n 2 13
 ·go_enter Tryz.func117, Tryz.ntmps117
  go_wp2_with (first | (go_at_call 129; refine (isBetween_any _ _ _ _).mono ?_; rintro e w' ⟨rfl, rfl⟩))
  go_ret
  exact ⟨rfl, rfl⟩
 ·have hn : 2 ≤ n ∧ n ≤ 13 := of_decide_eq_true h1
  obtain ⟨k, hk⟩ : ∃ k, n - 1 = k := ⟨_, rfl⟩
  have hw : IntKind.i64.wrap (n - 1) = k := by rw [← hk]; exact IntWalk.i64_in _ (by omega)
  rw [hk]
  clear hk hn
  cases h2 : btw l 1 k
  ·go_enter Tryz.func117, Tryz.ntmps117
   go_wp2_with (first | (go_at_call 129; refine (isBetween_any _ _ _ _).mono ?_; rintro e w' ⟨rfl, rfl⟩))
   go_ret
   exact ⟨rfl, rfl⟩
  ·go_enter Tryz.func117, Tryz.ntmps117
   go_wp2_with (first | (go_at_call 129; refine (isBetween_any _ _ _ _).mono ?_; rintro e w' ⟨rfl, rfl⟩))
   go_ret
   exact ⟨rfl, rfl⟩

def noS : SG := ⟨[], [], []⟩
def noA : SAd := ⟨none, 0, none, 0, none, 0⟩
theorem OwnS.none (w : World) (lo hi : Nat) : OwnS w lo hi noA noS :=
 ⟨⟨[], ⟨rfl, .inl ⟨rfl, rfl⟩⟩, Inn.nil _ _, fun q h => by simp [noA, Value.ownBlock] at h, fun i u q h => by simp at h⟩, Own.nil _ _ _ _, fun q h => by simp [noA, Value.ownBlock] at h, Own.nil _ _ _ _, fun q h => by simp [noA, Value.ownBlock] at h⟩
/-- A call gives a Seg of its own. -/
def GivesS (w w' : World) (e : Ending) (S : SG) : Prop := ∃ A' : SAd, e = .returned (.agg #[.slice A'.a0 S.B.length A'.c0, .slice A'.a1 S.V.length A'.c1, .slice A'.a2 S.M.length A'.c2]) ∧ OwnS w' w.heap.size w'.heap.size A' S ∧ Below w.heap.size w w'
/-- A row just made. -/
theorem Own.made {α : Type} {E : El α} {T : TypeId} {w : World} {g base : Nat} {cs : List Value} {l : List α} (hb : base ≤ g) (hg : w.heap[g]? = some (.cells cs.toArray T (0, 0))) (hc : cs = E.flat l) (hl : l.length ≤ maxLen) : Own E T w base (.slice (some ⟨g, 0, none⟩) l.length l.length) l := by
 subst hc
 refine ⟨E.flat_len l, .inr ⟨g, l.length, _, rfl, hb, hg, Nat.le_refl _, hl, by simpa using E.flat_len l, ?_⟩⟩
 rw [List.take_of_length_le]
 simpa using Nat.le_of_eq (E.flat_len l)
theorem heap_new (w : World) (o : Obj) {k : Nat} (h : k = w.heap.size) : (w.alloc o).heap[k]? = some o := by subst h; show (w.heap.push o)[w.heap.size]? = _; simp
theorem heap_old (w : World) (o : Obj) {k : Nat} (h : k < w.heap.size) : (w.alloc o).heap[k]? = w.heap[k]? := by show (w.heap.push o)[k]? = _; rw [Array.getElem?_push, if_neg (by omega)]
end Go.Proofs.YtihpajiololfoaaGreat
namespace Go.Proofs.YtihpajiololfoaaGreat
open Go.RowKit

set_option maxRecDepth 100000 in
set_option maxHeartbeats 400000 in
theorem eqValS_nil (a a' : Option Addr) (c c' : Nat) (w : World) : Calls Tryz.prog 47 #[.slice a 0 c, .slice a' 0 c'] w fun e w' => e = .returned (.bool true) ∧ Below w.heap.size w w' := by
 go_enter Tryz.func47, Tryz.ntmps47
 go_wp2
 go_loopw [5] (fun i w' => i = .int .i64 0 ∧ w' = w) (fun i _ => 0)
 case atStart => exact ⟨rfl, rfl⟩
 case round =>
  obtain ⟨rfl, rfl⟩ := hrel
  go_wp2
  go_ret
  exact ⟨rfl, Below.refl _ _⟩
set_option maxRecDepth 100000 in
set_option maxHeartbeats 800000 in
theorem eqValS_of (l : List VV) (a a' : Option Addr) (c c' : Nat) (w : World) (h0 : 0 < l.length) (hn : l.length ≤ maxLen) (hl : At eV w a l) (hl' : At eV w a' l) :
  Calls Tryz.prog 47 #[.slice a l.length c, .slice a' l.length c'] w fun e w' => e = .returned (.bool true) ∧ Below w.heap.size w w' := by
 unfold maxLen at hn
 obtain ⟨b, off, rfl, hlb, _⟩ := hl.cons h0
 obtain ⟨b', off', rfl, hlb', _⟩ := hl'.cons h0
 have HL := mkHid hl
 have HL' := mkHid hl'
 clear hl hl'
 go_enter Tryz.func47, Tryz.ntmps47
 go_wp2
 go_loopw [5] (fun i w' => ∃ (k : Nat), k ≤ l.length ∧ i = .int .i64 k ∧ Below w.heap.size w w') (fun i _ => l.length - (intOf i).toNat)
 case atStart => exact ⟨0, Nat.zero_le _, rfl, Below.refl _ _⟩
 case round =>
  obtain ⟨k, hk, rfl, hbel⟩ := hrel
  have HB := mkHid hbel
  by_cases hlt : k < l.length
  ·obtain ⟨x, hx⟩ : ∃ x, l[k]? = some x := ⟨_, List.getElem?_eq_getElem hlt⟩
   obtain ⟨_, _, e, hlc, hq⟩ := (HL.out.below hbel).cons h0
   cases e
   obtain ⟨_, _, e, hlc', hq'⟩ := (HL'.out.below hbel).cons h0
   cases e
   obtain ⟨hc0, hc1, hc2⟩ := get_v hq hx
   obtain ⟨hd0, hd1, hd2⟩ := get_v hq' hx
   clear hx hbel hq hq'
   have i0 : (0 : Int) ≤ (k : Int) := by omega
   have i1 : (k : Int) < (l.length : Int) := by omega
   go_wp2
   go_region_held3 (fun w' => w'.cell? ⟨b, off + k * 3, none⟩ = some (.int .i64 x.1) ∧ w'.cell? ⟨b, off + k * 3 + 1, none⟩ = some (.int .i64 x.2.1) ∧ w'.cell? ⟨b, off + k * 3 + 2, none⟩ = some (.bool x.2.2) ∧ w'.cell? ⟨b', off' + k * 3, none⟩ = some (.int .i64 x.1) ∧ w'.cell? ⟨b', off' + k * 3 + 1, none⟩ = some (.int .i64 x.2.1) ∧ w'.cell? ⟨b', off' + k * 3 + 2, none⟩ = some (.bool x.2.2)) (first | exact ⟨hc0, hc1, hc2, hd0, hd1, hd2⟩ | exact ⟨(hc _ _ hlc).trans hc0, (hc _ _ hlc).trans hc1, (hc _ _ hlc).trans hc2, (hc _ _ hlc').trans hd0, (hc _ _ hlc').trans hd1, (hc _ _ hlc').trans hd2⟩)
    (first | (go_at_call 24; refine (eqVal_same x.1 x.2.1 x.2.2 _).mono ?_; rintro e w1 ⟨rfl, hb1⟩; obtain ⟨hc, hf⟩ := bcell hb1))
   have HB1 : Hid (Below w.heap.size w w1) := HB.out.drew.trans (hb1.mono HB.out.drew.size)
   clear hb1 hc hf
   go_wp2
   go_roundw
   case rel => exact ⟨k + 1, by omega, by go_num, HB1.out⟩
   case measure => simp [intOf]; omega
  ·go_wp2
   go_ret
   exact ⟨rfl, HB.out⟩
theorem eqValS_same (l : List VV) (a a' : Option Addr) (c c' : Nat) (w : World) (hn : l.length ≤ maxLen) (hl : At eV w a l) (hl' : At eV w a' l) :
  Calls Tryz.prog 47 #[.slice a l.length c, .slice a' l.length c'] w fun e w' => e = .returned (.bool true) ∧ Below w.heap.size w w' := by
 rcases Nat.eq_zero_or_pos l.length with h | h
 ·rw [h]; exact eqValS_nil a a' c c' w
 ·exact eqValS_of l a a' c c' w h hn hl hl'
end Go.Proofs.YtihpajiololfoaaGreat
namespace Go.Proofs.YtihpajiololfoaaGreat
open Go.RowKit

set_option maxRecDepth 100000 in
set_option maxHeartbeats 400000 in
theorem eqBoolS_nil (a a' : Option Addr) (c c' : Nat) (w : World) : Calls Tryz.prog 48 #[.slice a 0 c, .slice a' 0 c'] w fun e w' => e = .returned (.bool true) ∧ Below w.heap.size w w' := by
 go_enter Tryz.func48, Tryz.ntmps48
 go_wp2
 go_loopw [5] (fun i w' => i = .int .i64 0 ∧ w' = w) (fun i _ => 0)
 case atStart => exact ⟨rfl, rfl⟩
 case round =>
  obtain ⟨rfl, rfl⟩ := hrel
  go_wp2
  go_ret
  exact ⟨rfl, Below.refl _ _⟩
set_option maxRecDepth 100000 in
set_option maxHeartbeats 800000 in
theorem eqBoolS_of (l : List Bool) (a a' : Option Addr) (c c' : Nat) (w : World) (h0 : 0 < l.length) (hn : l.length ≤ maxLen) (hl : At eB w a l) (hl' : At eB w a' l) :
  Calls Tryz.prog 48 #[.slice a l.length c, .slice a' l.length c'] w fun e w' => e = .returned (.bool true) ∧ Below w.heap.size w w' := by
 unfold maxLen at hn
 obtain ⟨b, off, rfl, hlb, _⟩ := hl.cons h0
 obtain ⟨b', off', rfl, hlb', _⟩ := hl'.cons h0
 have HL := mkHid hl
 have HL' := mkHid hl'
 clear hl hl'
 go_enter Tryz.func48, Tryz.ntmps48
 go_wp2
 go_loopw [5] (fun i w' => ∃ (k : Nat), k ≤ l.length ∧ i = .int .i64 k ∧ Below w.heap.size w w') (fun i _ => l.length - (intOf i).toNat)
 case atStart => exact ⟨0, Nat.zero_le _, rfl, Below.refl _ _⟩
 case round =>
  obtain ⟨k, hk, rfl, hbel⟩ := hrel
  have HB := mkHid hbel
  by_cases hlt : k < l.length
  ·obtain ⟨x, hx⟩ : ∃ x, l[k]? = some x := ⟨_, List.getElem?_eq_getElem hlt⟩
   obtain ⟨_, _, e, hlc, hq⟩ := (HL.out.below hbel).cons h0
   cases e
   obtain ⟨_, _, e, hlc', hq'⟩ := (HL'.out.below hbel).cons h0
   cases e
   have hc0 := get_b hq hx
   have hd0 := get_b hq' hx
   clear hx hbel hq hq'
   have i0 : (0 : Int) ≤ (k : Int) := by omega
   have i1 : (k : Int) < (l.length : Int) := by omega
   have hne : (x != x) = false := by simp
   have HB1 : Hid (Below w.heap.size w wr.drew) := mkHid HB.out.drew
   go_wp2
   go_quiet (fail)
   go_wp2
   go_roundw
   case rel => exact ⟨k + 1, by omega, by go_num, Below.trans HB.out ⟨rfl, rfl, rfl, Nat.le_refl _, fun _ _ => rfl⟩⟩
   case measure => simp [intOf]; omega
  ·go_wp2
   go_ret
   exact ⟨rfl, HB.out⟩
theorem eqBoolS_same (l : List Bool) (a a' : Option Addr) (c c' : Nat) (w : World) (hn : l.length ≤ maxLen) (hl : At eB w a l) (hl' : At eB w a' l) :
  Calls Tryz.prog 48 #[.slice a l.length c, .slice a' l.length c'] w fun e w' => e = .returned (.bool true) ∧ Below w.heap.size w w' := by
 rcases Nat.eq_zero_or_pos l.length with h | h
 ·rw [h]; exact eqBoolS_nil a a' c c' w
 ·exact eqBoolS_of l a a' c c' w h hn hl hl'
end Go.Proofs.YtihpajiololfoaaGreat
