/-
  SEGMENTS IN MEMORY: three rows; to be read (SegAt), of one's own (OwnS); a box of three slices (G3).
-/
import Derived.Test.YtbfmljogfljhdaaGreatRr
namespace Go.Proofs.YtbfmljogfljhdaaGreat
open Go.RowKit

structure SG where
  B : List (List Y)
  V : List VV
  M : List Bool
structure SAd where
  a0 : Option Addr
  c0 : Nat
  a1 : Option Addr
  c1 : Nat
  a2 : Option Addr
  c2 : Nat
structure SegAt (w : World) (A : SAd) (S : SG) : Prop where
  b : BndsAt w A.a0 S.B
  v : At eV w A.a1 S.V
  m : At eB w A.a2 S.M
theorem SegAt.below {w w' : World} {A : SAd} {S : SG} (h : SegAt w A S) (hb : Below w.heap.size w w') : SegAt w' A S := ⟨h.b.below hb, h.v.below hb, h.m.below hb⟩
/-- A Seg of our own: all its blocks lie from lo on and below hi. -/
structure OwnS (w : World) (lo hi : Nat) (A : SAd) (S : SG) : Prop where
  b : OwnT w lo hi (.slice A.a0 S.B.length A.c0) S.B
  v : Own eV 82 w lo (.slice A.a1 S.V.length A.c1) S.V
  vt : ∀ q, Value.ownBlock (.slice A.a1 S.V.length A.c1) = some q → q < hi
  m : Own eB 4 w lo (.slice A.a2 S.M.length A.c2) S.M
  mt : ∀ q, Value.ownBlock (.slice A.a2 S.M.length A.c2) = some q → q < hi
theorem OwnS.at {w : World} {lo hi : Nat} {A : SAd} {S : SG} (h : OwnS w lo hi A S) : SegAt w A S := ⟨h.b.at, h.v.at, h.m.at⟩
theorem OwnS.below {w w' : World} {lo hi : Nat} {A : SAd} {S : SG} (h : OwnS w lo hi A S) (hb : Below w.heap.size w w') : OwnS w' lo hi A S := ⟨h.b.below hb, h.v.below hb, h.vt, h.m.below hb, h.mt⟩
theorem Own.outs {α : Type} {E : El α} {T : TypeId} {w w' : World} {a b : Nat} {v : Value} {l : List α} (h : Own E T w a v l) (ht : ∀ q, v.ownBlock = some q → q < b) {lo hi : Nat} (ho : Outs lo hi w w') (hd : b ≤ lo ∨ hi ≤ a) : Own E T w' a v l :=
  owns_outs h ho fun q hq => by have := (h.lt hq).1; have := ht q hq; omega
theorem OwnS.outs {w w' : World} {a b : Nat} {A : SAd} {S : SG} (h : OwnS w a b A S) {lo hi : Nat} (ho : Outs lo hi w w') (hd : b ≤ lo ∨ hi ≤ a) : OwnS w' a b A S :=
  ⟨h.b.outs ho hd, h.v.outs h.vt ho hd, h.vt, h.m.outs h.mt ho hd, h.mt⟩
/-- Three values in a block that may be written. -/
structure G3 (v : World) (X : Nat) (p q r : Value) : Prop where
  c0 : v.cell? ⟨X, 0, none⟩ = some p
  c1 : v.cell? ⟨X, 1, none⟩ = some q
  c2 : v.cell? ⟨X, 2, none⟩ = some r
  f0 : v.frozen? ⟨X, 0, none⟩ = false
  f1 : v.frozen? ⟨X, 1, none⟩ = false
  f2 : v.frozen? ⟨X, 2, none⟩ = false
section
variable {v v' : World} {X : Nat} {p q r : Value}
theorem G3.lt (h : G3 v X p q r) : X < v.heap.size := World.block_lt_of_cell? v _ h.c0
theorem G3.below (h : G3 v X p q r) (hb : Below v.heap.size v v') : G3 v' X p q r := by
  obtain ⟨hc, hf⟩ := bcell hb
  have hl := h.lt
  exact ⟨(hc _ _ hl).trans h.c0, (hc _ _ hl).trans h.c1, (hc _ _ hl).trans h.c2, (hf _ _ hl).trans h.f0, (hf _ _ hl).trans h.f1, (hf _ _ hl).trans h.f2⟩
theorem G3.drew (h : G3 v X p q r) : G3 v.drew X p q r := ⟨h.c0, h.c1, h.c2, h.f0, h.f1, h.f2⟩
theorem G3.new (w : World) (p q r : Value) (T : TypeId) : G3 (w.alloc (.cells #[p, q, r] T)) w.heap.size p q r := by
  constructor <;> simp [go_sem]
theorem G3.outs (h : G3 v X p q r) {lo hi : Nat} (ho : Outs lo hi v v') (hd : X < lo ∨ hi ≤ X) : G3 v' X p q r := by
  have hb := ho.block X h.lt hd
  have hc : ∀ o, v'.cell? ⟨X, o, none⟩ = v.cell? ⟨X, o, none⟩ := fun o => by simp only [World.cell?, hb]
  have hf : ∀ o, v'.frozen? ⟨X, o, none⟩ = v.frozen? ⟨X, o, none⟩ := fun o => by simp only [World.frozen?, hb]
  exact ⟨(hc _).trans h.c0, (hc _).trans h.c1, (hc _).trans h.c2, (hf _).trans h.f0, (hf _).trans h.f1, (hf _).trans h.f2⟩
theorem G3.set0 (h : G3 v X p q r) (u : Value) : G3 (v.setCell ⟨X, 0, none⟩ u) X u q r := by
  obtain ⟨c0, c1, c2, f0, f1, f2⟩ := h
  constructor <;> simp [go_sem, *]
theorem G3.set1 (h : G3 v X p q r) (u : Value) : G3 (v.setCell ⟨X, 1, none⟩ u) X p u r := by
  obtain ⟨c0, c1, c2, f0, f1, f2⟩ := h
  constructor <;> simp [go_sem, *]
theorem G3.set2 (h : G3 v X p q r) (u : Value) : G3 (v.setCell ⟨X, 2, none⟩ u) X p q u := by
  obtain ⟨c0, c1, c2, f0, f1, f2⟩ := h
  constructor <;> simp [go_sem, *]
theorem G3.far (h : G3 v X p q r) {Z : Nat} (hn : X ≠ Z) (i : Nat) (u : Value) : G3 (v.setCell ⟨Z, i, none⟩ u) X p q r := by
  obtain ⟨c0, c1, c2, f0, f1, f2⟩ := h
  constructor <;> simp [go_sem, *]
end
theorem outs_set (w : World) (Z i : Nat) (u : Value) : Outs Z (Z + 1) w (w.setCell ⟨Z, i, none⟩ u) := by
  have g : Below Z w (w.setCell ⟨Z, i, none⟩ u) := (Below.refl Z w).setCell (p := ⟨Z, i, none⟩) (Nat.le_refl _) _
  refine ⟨g.os, g.tape, g.output, g.size, fun k hk hd => ?_⟩
  exact Below.heap_setCell w ⟨Z, i, none⟩ u k (by show k ≠ Z; omega)
theorem OwnT.mono {w : World} {lo hi lo' hi' : Nat} {v : Value} {ls : List (List Y)} (h : OwnT w lo hi v ls) (h1 : lo' ≤ lo) (h2 : hi ≤ hi') : OwnT w lo' hi' v ls := by
  obtain ⟨vs, a, b, c, d⟩ := h
  exact ⟨vs, World.ownsRow.mono a h1, b.mono h1, fun q hq => Nat.lt_of_lt_of_le (c q hq) h2, fun i u q hu hq => Nat.lt_of_lt_of_le (d i u q hu hq) h2⟩
theorem OwnS.mono {w : World} {lo hi lo' hi' : Nat} {A : SAd} {S : SG} (h : OwnS w lo hi A S) (h1 : lo' ≤ lo) (h2 : hi ≤ hi') : OwnS w lo' hi' A S :=
  ⟨h.b.mono h1 h2, h.v.mono h1, fun q hq => Nat.lt_of_lt_of_le (h.vt q hq) h2, h.m.mono h1, fun q hq => Nat.lt_of_lt_of_le (h.mt q hq) h2⟩
end Go.Proofs.YtbfmljogfljhdaaGreat
