/-
  CONTRACTS of the program's areVals, areSymVals, isWideSym, SymVal at numbers that are as they should be.
  CONTRACT of the program's joinOf, at every list of ranges.
  CONTRACTS of the program's RangeJoin, RangeLeq, RangeSub, RangeMul.
  VALS: what they have, their order, on both sides.
  A ROW AS A LIST OF LINKS IN MEMORY; CONTRACTS of the program's number, isOneNumber.
  A ROW OF LINKS OF ONE'S OWN: link behind link, each in a block of its own that may be written.
  A SEG OF ONE'S OWN IN A BOX, THAT GROWS: three rows of one's own; what an append to one of them leaves.
  AN APPEND TO A ROW IN A BOX, in a region that draws its order: what holds of the world, by what has come up.
  CONTRACT of the program's (*link).has.
-/
import Derived.Test.YtihpajiololfoaaGreatSh05
import Derived.Test.YtihpajiololfoaaGreatSh00
import Derived.Laws.EntriesVeiled
namespace Go.Proofs.YtihpajiololfoaaGreat
open Go.RowKit

structure VP (l : List Int) : Prop where
 n1 : 1 ≤ l.length
 n2 : l.length ≤ 13
 zero : l[0]? = some 0
 each : ∀ x, x ∈ l → valB x = true
/-- A term of so many symbols. -/
structure InS (n : Nat) (p : Y) : Prop where
 lo : 0 ≤ p.1
 hi : p.1 < n
 c1 : -1000 ≤ p.2
 c2 : p.2 ≤ 1000
def valY (l : List Int) (p : Y) : Int := l.getD p.1.toNat 0 + p.2
theorem VP.bound {l : List Int} (h : VP l) {p : Y} (hp : InS l.length p) : ∃ x, l[p.1.toNat]? = some x ∧ valY l p = x + p.2 ∧ -1000000 ≤ x ∧ x ≤ 1000000 := by
 obtain ⟨k, hk⟩ : ∃ k : Nat, p.1.toNat = k := ⟨_, rfl⟩
 have h1 := hp.lo
 have h2 := hp.hi
 have hlt : k < l.length := by omega
 have hx : l[k]? = some l[k] := List.getElem?_eq_getElem hlt
 have hv := of_decide_eq_true (h.each _ (List.mem_of_getElem? hx))
 rw [hk]
 refine ⟨l[k], hx, ?_, hv.1, hv.2⟩
 unfold valY
 rw [hk, List.getD_eq_getElem?_getD, hx]
 rfl
theorem isGap_any (c : Int) (w : World) : Calls Tryz.prog 130 #[.int .i64 c] w fun e w' => e = .returned (.bool (btw c (-2000000) 2000000)) ∧ w = w' := by
 go_enter Tryz.func130, Tryz.ntmps130
 go_wp2_with (go_at_call 129; refine (isBetween_any _ _ _ _).mono ?_; rintro e w' ⟨rfl, rfl⟩)
 go_ret
 exact ⟨rfl, rfl⟩
end Go.Proofs.YtihpajiololfoaaGreat
namespace Go.Proofs.YtihpajiololfoaaGreat
open Go.RowKit
attribute [local go_sem] nlt2 nlt3 nlt4 nle2 nle3 nle4 drew_size drew_cell drew_frozen

/-- Ranges that lie in a row. -/
def RngsAt (w : World) (l : List (Int × Int)) (b off : Nat) : Prop := ∀ (i : Nat) (r : Int × Int), l[i]? = some r → w.cell? ⟨b, off + i * 2, none⟩ = some (.int .i64 r.1) ∧ w.cell? ⟨b, off + i * 2 + 1, none⟩ = some (.int .i64 r.2)
theorem RngsAt.below {w w' : World} {l : List (Int × Int)} {b off : Nat} (h : RngsAt w l b off) (hb : Below w.heap.size w w') : RngsAt w' l b off := fun i r hi => by
 obtain ⟨h0, h1⟩ := h i r hi
 exact ⟨(hb.cell (p := ⟨b, off + i * 2, none⟩) (World.block_lt_of_cell? w _ h0)).trans h0, (hb.cell (p := ⟨b, off + i * 2 + 1, none⟩) (World.block_lt_of_cell? w _ h1)).trans h1⟩

end Go.Proofs.YtihpajiololfoaaGreat
namespace Go.Proofs.YtihpajiololfoaaGreat
open Go.RowKit
attribute [local go_sem] nlt2 nlt3 nlt4 nle2 nle3 nle4 drew_size drew_cell drew_frozen

end Go.Proofs.YtihpajiololfoaaGreat
namespace Go.Proofs.YtihpajiololfoaaGreat
open Go.RowKit

end Go.Proofs.YtihpajiololfoaaGreat
namespace Go.Proofs.YtihpajiololfoaaGreat
open Go.RowKit

structure Lk where
 b : List Y
 v : VV
 m : Bool
/-- A link lies in a block of its own; the next one is p. -/
structure LinkAt (w : World) (X : Nat) (k : Lk) (p : Option Addr) : Prop where
 mem : ∃ ao cap, w.cell? ⟨X, 0, none⟩ = some (.slice ao k.b.length cap) ∧ At eY w ao k.b
 f : w.cell? ⟨X, 1, none⟩ = some (.func (.func 132) #[] #[])
 v0 : w.cell? ⟨X, 2, none⟩ = some (.int .i64 k.v.1)
 v1 : w.cell? ⟨X, 3, none⟩ = some (.int .i64 k.v.2.1)
 v2 : w.cell? ⟨X, 4, none⟩ = some (.bool k.v.2.2)
 m : w.cell? ⟨X, 5, none⟩ = some (.bool k.m)
 nx : w.cell? ⟨X, 6, none⟩ = some (.pointer p)
theorem LinkAt.lt {w : World} {X : Nat} {k : Lk} {p : Option Addr} (h : LinkAt w X k p) : X < w.heap.size := World.block_lt_of_cell? w _ h.f
theorem LinkAt.below {w w' : World} {X : Nat} {k : Lk} {p : Option Addr} (h : LinkAt w X k p) (hb : Below w.heap.size w w') : LinkAt w' X k p := by
 obtain ⟨hc, _⟩ := bcell hb
 have hl := h.lt
 obtain ⟨ao, cap, h1, h2⟩ := h.mem
 exact ⟨⟨ao, cap, (hc _ _ hl).trans h1, h2.below hb⟩, (hc _ _ hl).trans h.f, (hc _ _ hl).trans h.v0, (hc _ _ hl).trans h.v1, (hc _ _ hl).trans h.v2, (hc _ _ hl).trans h.m, (hc _ _ hl).trans h.nx⟩
/-- A row: link behind link. -/
def Chain (w : World) : Nat → List Lk → Prop
 | _, [] => False
 | X, [k] => LinkAt w X k none
 | X, k :: k' :: r => ∃ X', LinkAt w X k (some ⟨X', 0, none⟩) ∧ Chain w X' (k' :: r)
theorem Chain.below {w w' : World} (hb : Below w.heap.size w w') : ∀ {ks : List Lk} {X : Nat}, Chain w X ks → Chain w' X ks
 | [], _, h => h
 | [_], _, h => LinkAt.below h hb
 | _ :: _ :: _, _, ⟨X', h1, h2⟩ => ⟨X', h1.below hb, Chain.below hb h2⟩
theorem Chain.head {w : World} {k : Lk} {r : List Lk} {X : Nat} (h : Chain w X (k :: r)) : ∃ p, LinkAt w X k p := by
 cases r with
 | nil => exact ⟨none, h⟩
 | cons k' r => obtain ⟨X', h1, _⟩ := h; exact ⟨_, h1⟩
end Go.Proofs.YtihpajiololfoaaGreat
namespace Go.Proofs.YtihpajiololfoaaGreat
open Go.RowKit

def lkC (v0 : Value) (v : VV) (m : Bool) (p : Option Addr) : Array Value := #[v0, .func (.func 132) #[] #[], .int .i64 v.1, .int .i64 v.2.1, .bool v.2.2, .bool m, .pointer p]
/-- A link of one's own, in block X; the next one is p. -/
structure LinkO (w : World) (base X : Nat) (k : Lk) (p : Option Addr) : Prop where
 mem : ∃ ao cap, w.heap[X]? = some (.cells (lkC (.slice ao k.b.length cap) k.v k.m p) 130 (0, 0)) ∧ Own eY 49 w base (.slice ao k.b.length cap) k.b
 lo : base ≤ X
/-- Nothing has turned but block Z, and what is new. -/
def Only (Z : Nat) (w w' : World) : Prop := w.grownBy w' (some Z)
theorem Only.trans {Z : Nat} {a b c : World} (h : Only Z a b) (k : Only Z b c) : Only Z a c := grown_trans h k
theorem Only.of {Z : Nat} {a b : World} (h : Below a.heap.size a b) : Only Z a b := grown_below h
theorem Only.set (w : World) (Z i : Nat) (u : Value) : Only Z w (w.setCell ⟨Z, i, none⟩ u) := by
 have g : Below Z w (w.setCell ⟨Z, i, none⟩ u) := (Below.refl Z w).setCell (p := ⟨Z, i, none⟩) (Nat.le_refl _) _
 exact ⟨g.os, g.tape, g.output, g.size, fun k _ hk => Below.heap_setCell w ⟨Z, i, none⟩ u k (fun e => hk (by rw [e]))⟩
theorem Only.below {Z B : Nat} {a w w' : World} (h : Below B a w) (g : Only Z w w') (hB : B ≤ w.heap.size) (hZ : B ≤ Z) : Below B a w' := h.grown g hB (fun k e => by cases e; exact hZ)
theorem heap_set_self {w : World} {X : Nat} {c : Array Value} {T : TypeId} {fz : Nat × Nat} (h : w.heap[X]? = some (.cells c T fz)) (i : Nat) (u : Value) : (w.setCell ⟨X, i, none⟩ u).heap[X]? = some (.cells (c.setIfInBounds i u) T fz) := by
 obtain ⟨hlt, hk⟩ := Array.getElem?_eq_some_iff.1 h
 show (w.heap.modify X _)[X]? = _
 rw [Array.getElem?_eq_getElem (by rw [Array.size_modify]; exact hlt), Array.getElem_modify_self, hk]
 rfl
theorem heap_cell {w : World} {X : Nat} {c : Array Value} {T : TypeId} {fz : Nat × Nat} (h : w.heap[X]? = some (.cells c T fz)) (i : Nat) : w.cell? ⟨X, i, none⟩ = c[i]? := by simp [World.cell?, h]
theorem heap_free {w : World} {X : Nat} {c : Array Value} {T : TypeId} (h : w.heap[X]? = some (.cells c T (0, 0))) (i : Nat) : w.frozen? ⟨X, i, none⟩ = false := by simp [World.frozen?, h]
theorem heap_lt {w : World} {X : Nat} {o : Obj} (h : w.heap[X]? = some o) : X < w.heap.size := (Array.getElem?_eq_some_iff.1 h).1
section
variable {w w' : World} {base X Z : Nat} {k : Lk} {p : Option Addr}
theorem LinkO.lt (h : LinkO w base X k p) : X < w.heap.size := by obtain ⟨_, _, h1, _⟩ := h.mem; exact heap_lt h1
theorem own_apart {l : List Y} {v : Value} (ho : Own eY 49 w base v l) (hZ : ∃ cur, w.heap[Z]? = some (.cells cur 130 (0, 0))) : ∀ q, v.ownBlock = some q → (some Z : Option Nat) ≠ some q := by
 intro q hq e
 cases e
 obtain ⟨c1, h1⟩ := ho.block hq
 obtain ⟨c2, h2⟩ := hZ
 rw [h1] at h2
 simp at h2
theorem own_only {l : List Y} {v : Value} (ho : Own eY 49 w base v l) (hZ : ∃ cur, w.heap[Z]? = some (.cells cur 130 (0, 0))) (hg : Only Z w w') : Own eY 49 w' base v l := ho.keptBy hg (own_apart ho hZ)
theorem LinkO.kept (h : LinkO w base X k p) (hg : Only Z w w') (hne : X ≠ Z) (hZ : ∃ cur, w.heap[Z]? = some (.cells cur 130 (0, 0))) : LinkO w' base X k p := by
 obtain ⟨ao, cap, h1, h2⟩ := h.mem
 exact ⟨⟨ao, cap, (hg.block X h.lt (fun e => hne (Option.some.inj e))).trans h1, own_only h2 hZ hg⟩, h.lo⟩
theorem LinkO.below (h : LinkO w base X k p) (hb : Below w.heap.size w w') : LinkO w' base X k p := by
 obtain ⟨ao, cap, h1, h2⟩ := h.mem
 exact ⟨⟨ao, cap, (hb.block X h.lt).trans h1, h2.below hb⟩, h.lo⟩
theorem LinkO.mono {base' : Nat} (h : LinkO w base X k p) (hb : base' ≤ base) : LinkO w base' X k p := by
 obtain ⟨ao, cap, h1, h2⟩ := h.mem
 exact ⟨⟨ao, cap, h1, h2.mono hb⟩, Nat.le_trans hb h.lo⟩
/-- The cells of a link, to be read and written. -/
structure Cel (w : World) (X : Nat) (v0 : Value) (v : VV) (m : Bool) (p : Option Addr) : Prop where
 c0 : w.cell? ⟨X, 0, none⟩ = some v0
 c1 : w.cell? ⟨X, 1, none⟩ = some (.func (.func 132) #[] #[])
 c2 : w.cell? ⟨X, 2, none⟩ = some (.int .i64 v.1)
 c3 : w.cell? ⟨X, 3, none⟩ = some (.int .i64 v.2.1)
 c4 : w.cell? ⟨X, 4, none⟩ = some (.bool v.2.2)
 c5 : w.cell? ⟨X, 5, none⟩ = some (.bool m)
 c6 : w.cell? ⟨X, 6, none⟩ = some (.pointer p)
 f0 : w.frozen? ⟨X, 0, none⟩ = false
 f1 : w.frozen? ⟨X, 1, none⟩ = false
 f2 : w.frozen? ⟨X, 2, none⟩ = false
 f3 : w.frozen? ⟨X, 3, none⟩ = false
 f4 : w.frozen? ⟨X, 4, none⟩ = false
 f5 : w.frozen? ⟨X, 5, none⟩ = false
 f6 : w.frozen? ⟨X, 6, none⟩ = false
theorem cel_of {v0 : Value} {v : VV} {m : Bool} (h : w.heap[X]? = some (.cells (lkC v0 v m p) 130 (0, 0))) : Cel w X v0 v m p :=
 ⟨heap_cell h 0, heap_cell h 1, heap_cell h 2, heap_cell h 3, heap_cell h 4, heap_cell h 5, heap_cell h 6, heap_free h 0, heap_free h 1, heap_free h 2, heap_free h 3, heap_free h 4, heap_free h 5, heap_free h 6⟩
theorem LinkO.at (h : LinkO w base X k p) : LinkAt w X k p := by
 obtain ⟨ao, cap, h1, h2⟩ := h.mem
 have c := cel_of h1
 exact ⟨⟨ao, cap, c.c0, h2.at⟩, c.c1, c.c2, c.c3, c.c4, c.c5, c.c6⟩
end
/-- A part of a row of links, from p to q. -/
def Ch (w : World) (base : Nat) : List (Nat × Lk) → Option Addr → Option Addr → Prop
 | [], p, q => p = q
 | x :: L, p, q => p = some ⟨x.1, 0, none⟩ ∧ ∃ p', LinkO w base x.1 x.2 p' ∧ Ch w base L p' q
theorem Ch.below {w w' : World} {base : Nat} (hb : Below w.heap.size w w') : ∀ {L : List (Nat × Lk)} {p q : Option Addr}, Ch w base L p q → Ch w' base L p q
 | [], _, _, h => h
 | _ :: _, _, _, ⟨e, p', h1, h2⟩ => ⟨e, p', h1.below hb, Ch.below hb h2⟩
theorem Ch.mono {w : World} {base base' : Nat} (hb : base' ≤ base) : ∀ {L : List (Nat × Lk)} {p q : Option Addr}, Ch w base L p q → Ch w base' L p q
 | [], _, _, h => h
 | _ :: _, _, _, ⟨e, p', h1, h2⟩ => ⟨e, p', h1.mono hb, Ch.mono hb h2⟩
theorem Ch.kept {w w' : World} {base Z : Nat} (hg : Only Z w w') (hZ : ∃ cur, w.heap[Z]? = some (.cells cur 130 (0, 0))) : ∀ {L : List (Nat × Lk)} {p q : Option Addr}, (∀ x, x ∈ L → x.1 ≠ Z) → Ch w base L p q → Ch w' base L p q
 | [], _, _, _, h => h
 | x :: _, _, _, hn, ⟨e, p', h1, h2⟩ => ⟨e, p', h1.kept hg (hn x List.mem_cons_self) hZ, Ch.kept hg hZ (fun y hy => hn y (List.mem_cons_of_mem _ hy)) h2⟩
theorem Ch.app {w : World} {base : Nat} : ∀ {L M : List (Nat × Lk)} {p q r : Option Addr}, Ch w base L p q → Ch w base M q r → Ch w base (L ++ M) p r
 | [], _, _, _, _, h, k => by cases h; exact k
 | _ :: _, _, _, _, _, ⟨e, p', h1, h2⟩, k => ⟨e, p', h1, Ch.app h2 k⟩
theorem Ch.lt {w : World} {base : Nat} : ∀ {L : List (Nat × Lk)} {p q : Option Addr}, Ch w base L p q → ∀ x, x ∈ L → x.1 < w.heap.size
 | [], _, _, _, x, hx => by simp at hx
 | y :: _, _, _, ⟨e, p', h1, h2⟩, x, hx => by
  rcases List.mem_cons.1 hx with rfl | hx
  ·exact h1.lt
  ·exact Ch.lt h2 x hx
/-- The links of a row that is to be read. -/
theorem Ch.chain {w : World} {base : Nat} : ∀ {L : List (Nat × Lk)} {X : Nat}, L ≠ [] → Ch w base L (some ⟨X, 0, none⟩) none → Chain w X (L.map Prod.snd)
 | [], _, h, _ => absurd rfl h
 | [x], X, _, ⟨e, p', h1, h2⟩ => by
  cases h2
  cases e
  exact h1.at
 | x :: y :: L, X, _, ⟨e, p', h1, h2⟩ => by
  cases e
  obtain ⟨e2, _⟩ := id h2
  subst e2
  exact ⟨y.1, h1.at, Ch.chain (by simp) h2⟩
end Go.Proofs.YtihpajiololfoaaGreat
namespace Go.Proofs.YtihpajiololfoaaGreat
open Go.RowKit

theorem Own.keptT {α : Type} {E : El α} {T : TypeId} {w w' : World} {base : Nat} {v : Value} {l : List α} (h : Own E T w base v l) {row : Option Nat} (hg : w.grownBy w' row) (hr : ∀ q cur, row = some q → w.heap[q]? ≠ some (.cells cur T (0, 0))) : Own E T w' base v l :=
 h.keptBy hg fun q hq e => by obtain ⟨cur, hc⟩ := h.block hq; exact hr q cur e hc
theorem owns_keptT {w w' : World} {base e size n : Nat} {v : Value} {xs : List Value} (h : w.ownsRow base e size v n xs) {row : Option Nat} (hg : w.grownBy w' row) (hr : ∀ q cur, row = some q → w.heap[q]? ≠ some (.cells cur e (0, 0))) : w'.ownsRow base e size v n xs := by
 refine World.ownsRow.kept h hg ?_
 rcases h.2 with ⟨rfl, _⟩ | ⟨g, cap, cur, rfl, _, hc, _⟩
 ·exact .inl rfl
 ·exact .inr fun e => hr g cur (by rw [← e]; rfl) hc
theorem owns_block {w : World} {base e size n : Nat} {v : Value} {xs : List Value} (h : w.ownsRow base e size v n xs) {q : Nat} (hq : v.ownBlock = some q) : ∃ cur, w.heap[q]? = some (.cells cur e (0, 0)) := by
 rcases h.2 with ⟨rfl, _⟩ | ⟨g, cap, cur, rfl, _, hg, _⟩
 ·simp [Value.ownBlock] at hq
 ·simp [Value.ownBlock] at hq
  subst hq
  exact ⟨cur, hg⟩
theorem not_typ {w : World} {q : Nat} {T T' : TypeId} (h : ∃ cur, w.heap[q]? = some (.cells cur T (0, 0))) (hT : T ≠ T') (cur : Array Value) : w.heap[q]? ≠ some (.cells cur T' (0, 0)) := by
 obtain ⟨c, h⟩ := h
 intro e
 rw [h] at e
 simp at e
 exact hT e.2
def sgC (A : SAd) (S : SG) : Array Value := #[.slice A.a0 S.B.length A.c0, .slice A.a1 S.V.length A.c1, .slice A.a2 S.M.length A.c2]
structure GrowS (w : World) (base X : Nat) (A : SAd) (S : SG) : Prop where
 box : w.heap[X]? = some (.cells (sgC A S) 35 (0, 0))
 b : OwnYY w base (.slice A.a0 S.B.length A.c0) S.B
 v : Own eV 55 w base (.slice A.a1 S.V.length A.c1) S.V
 m : Own eB 4 w base (.slice A.a2 S.M.length A.c2) S.M
section
variable {w w' : World} {base X : Nat} {A : SAd} {S : SG}
theorem GrowS.lt (h : GrowS w base X A S) : X < w.heap.size := heap_lt h.box
theorem GrowS.below (h : GrowS w base X A S) (hb : Below w.heap.size w w') : GrowS w' base X A S := ⟨(hb.block X h.lt).trans h.box, h.b.below hb, h.v.below hb, h.m.below hb⟩
theorem GrowS.g3 (h : GrowS w base X A S) : G3 w X (.slice A.a0 S.B.length A.c0) (.slice A.a1 S.V.length A.c1) (.slice A.a2 S.M.length A.c2) :=
 ⟨heap_cell h.box 0, heap_cell h.box 1, heap_cell h.box 2, heap_free h.box 0, heap_free h.box 1, heap_free h.box 2⟩
theorem OwnYY.keptT {v : Value} {ls : List (List Y)} (h : OwnYY w base v ls) {row : Option Nat} (hg : w.grownBy w' row) (h1 : ∀ q cur, row = some q → w.heap[q]? ≠ some (.cells cur 49 (0, 0))) (h2 : ∀ q cur, row = some q → w.heap[q]? ≠ some (.cells cur 113 (0, 0))) : OwnYY w' base v ls := by
 obtain ⟨vs, a, b⟩ := h
 exact ⟨vs, owns_keptT a hg h2, b.keptBy hg h1⟩
/-- The three rows bear a write into the box. -/
theorem growS_put (hX : ∃ cur, w'.heap[X]? = some (.cells cur 35 (0, 0))) {B : List (List Y)} {V : List VV} {M : List Bool} {A' : SAd} (hb : OwnYY w' base (.slice A'.a0 B.length A'.c0) B) (hv : Own eV 55 w' base (.slice A'.a1 V.length A'.c1) V) (hm : Own eB 4 w' base (.slice A'.a2 M.length A'.c2) M) (i : Nat) (u : Value)
  (he : (w'.setCell ⟨X, i, none⟩ u).heap[X]? = some (.cells (sgC A' ⟨B, V, M⟩) 35 (0, 0))) : GrowS (w'.setCell ⟨X, i, none⟩ u) base X A' ⟨B, V, M⟩ := by
 have hg : w'.grownBy (w'.setCell ⟨X, i, none⟩ u) (some X) := Only.set w' X i u
 refine ⟨he, hb.keptT hg ?_ ?_, hv.keptT hg ?_, hm.keptT hg ?_⟩ <;> (intro q cur e; cases e; exact not_typ hX (by decide) cur)
theorem GrowS.pushV (h : GrowS w base X A S) (hg : w.grownBy w' (Value.ownBlock (.slice A.a1 S.V.length A.c1))) {a : Option Addr} {c : Nat} {x : VV} (ho : Own eV 55 w' base (.slice a (S.V ++ [x]).length c) (S.V ++ [x])) :
  GrowS (w'.setCell ⟨X, 1, none⟩ (.slice a (S.V ++ [x]).length c)) base X ⟨A.a0, A.c0, a, c, A.a2, A.c2⟩ ⟨S.B, S.V ++ [x], S.M⟩ := by
 have ht : ∀ q, Value.ownBlock (.slice A.a1 S.V.length A.c1) = some q → ∃ cur, w.heap[q]? = some (.cells cur 55 (0, 0)) := fun q hq => h.v.block hq
 have hX : w'.heap[X]? = some (.cells (sgC A S) 35 (0, 0)) := (hg.block X h.lt (fun e => not_typ (ht X e.symm) (by decide) _ h.box)).trans h.box
 refine growS_put ⟨_, hX⟩ (A' := ⟨A.a0, A.c0, a, c, A.a2, A.c2⟩) (h.b.keptT hg ?_ ?_) ho (h.m.keptT hg ?_) 1 _ ?_
 ·intro q cur e; exact not_typ (ht q e) (by decide) cur
 ·intro q cur e; exact not_typ (ht q e) (by decide) cur
 ·intro q cur e; exact not_typ (ht q e) (by decide) cur
 ·rw [heap_set_self hX]; rfl
theorem GrowS.pushM (h : GrowS w base X A S) (hg : w.grownBy w' (Value.ownBlock (.slice A.a2 S.M.length A.c2))) {a : Option Addr} {c : Nat} {x : Bool} (ho : Own eB 4 w' base (.slice a (S.M ++ [x]).length c) (S.M ++ [x])) :
  GrowS (w'.setCell ⟨X, 2, none⟩ (.slice a (S.M ++ [x]).length c)) base X ⟨A.a0, A.c0, A.a1, A.c1, a, c⟩ ⟨S.B, S.V, S.M ++ [x]⟩ := by
 have ht : ∀ q, Value.ownBlock (.slice A.a2 S.M.length A.c2) = some q → ∃ cur, w.heap[q]? = some (.cells cur 4 (0, 0)) := fun q hq => h.m.block hq
 have hX : w'.heap[X]? = some (.cells (sgC A S) 35 (0, 0)) := (hg.block X h.lt (fun e => not_typ (ht X e.symm) (by decide) _ h.box)).trans h.box
 refine growS_put ⟨_, hX⟩ (A' := ⟨A.a0, A.c0, A.a1, A.c1, a, c⟩) (h.b.keptT hg ?_ ?_) (h.v.keptT hg ?_) ho 2 _ ?_
 ·intro q cur e; exact not_typ (ht q e) (by decide) cur
 ·intro q cur e; exact not_typ (ht q e) (by decide) cur
 ·intro q cur e; exact not_typ (ht q e) (by decide) cur
 ·rw [heap_set_self hX]; rfl
theorem GrowS.pushB (h : GrowS w base X A S) (hg : w.grownBy w' (Value.ownBlock (.slice A.a0 S.B.length A.c0))) {a : Option Addr} {c : Nat} {x : List Y} (ho : OwnYY w' base (.slice a (S.B ++ [x]).length c) (S.B ++ [x])) :
  GrowS (w'.setCell ⟨X, 0, none⟩ (.slice a (S.B ++ [x]).length c)) base X ⟨a, c, A.a1, A.c1, A.a2, A.c2⟩ ⟨S.B ++ [x], S.V, S.M⟩ := by
 have ht : ∀ q, Value.ownBlock (.slice A.a0 S.B.length A.c0) = some q → ∃ cur, w.heap[q]? = some (.cells cur 113 (0, 0)) := fun q hq => by obtain ⟨vs, h1, _⟩ := h.b; exact owns_block h1 hq
 have hX : w'.heap[X]? = some (.cells (sgC A S) 35 (0, 0)) := (hg.block X h.lt (fun e => not_typ (ht X e.symm) (by decide) _ h.box)).trans h.box
 refine growS_put ⟨_, hX⟩ (A' := ⟨a, c, A.a1, A.c1, A.a2, A.c2⟩) ho (h.v.keptT hg ?_) (h.m.keptT hg ?_) 0 _ ?_
 ·intro q cur e; exact not_typ (ht q e) (by decide) cur
 ·intro q cur e; exact not_typ (ht q e) (by decide) cur
 ·rw [heap_set_self hX]; rfl
/-- One row more in a row of rows: the inner rows ahead of it were there in an elder world. -/
theorem OwnYY.more {w0 w1 w2 : World} {vs : List Value} {ls : List (List Y)} {s u : Value} {l : List Y} {a : Option Addr} {c : Nat} (hin : Inn w0 base vs ls) (hB : base ≤ w0.heap.size) (hb : Below w0.heap.size w0 w1) (hrow : Own eY 49 w1 w0.heap.size u l) (hs : w0.ownsRow base 113 1 s ls.length vs) (hg : w1.grownBy w2 s.ownBlock)
  (ho : w2.ownsRow base 113 1 (.slice a (ls ++ [l]).length c) (ls ++ [l]).length (vs ++ [u])) : OwnYY w2 base (.slice a (ls ++ [l]).length c) (ls ++ [l]) := by
 have ht : ∀ q, s.ownBlock = some q → ∃ cur, w1.heap[q]? = some (.cells cur 113 (0, 0)) := fun q hq => by
  obtain ⟨cur, hc⟩ := owns_block hs hq
  exact ⟨cur, (hb.block q (heap_lt hc)).trans hc⟩
 refine ⟨vs ++ [u], ho, ?_⟩
 refine Inn.snoc (n0 := w0.heap.size) ((hin.below hb).keptBy hg (fun q cur e => not_typ (ht q e) (by decide) cur)) (fun i v q hv hq => (hin.lt hv hq).2) hB (hrow.keptT hg (fun q cur e => not_typ (ht q e) (by decide) cur))
end
end Go.Proofs.YtihpajiololfoaaGreat
namespace Go.Proofs.YtihpajiololfoaaGreat
open Go.RowKit

/-- Behind the append. -/
def Aft (wr : World) (X : World → Prop) (row : Option Nat) (own : World → Prop) (va : World) : Prop := ∃ vb, Below wr.heap.size wr vb ∧ X vb ∧ vb.grownBy va row ∧ own va
/-- bC: the element is there (X); bB: it lies in block R, as the cells cs; bA: it is appended; bS: the new slice u is stored in cell i of block Bx. -/
structure Ap (wr va : World) (bC bB bA bS : Bool) (X : World → Prop) (R : Nat) (cs : List Value) (row : Option Nat) (own : World → Prop) (Bx i : Nat) (u : Value) : Prop where
 pre : bA = false → Below wr.heap.size wr va
 ext : bC = true → bA = false → X va
 tmp : bB = true → bA = false → ∀ (j : Nat) (u : Value), cs[j]? = some u → va.cell? ((⟨R, 0, none⟩ : Addr).add j) = some u
 aft : bA = true → bS = false → Aft wr X row own va
 fin : bS = true → ∃ vc, Aft wr X row own vc ∧ va = vc.setCell ⟨Bx, i, none⟩ u
section
variable {wr va : World} {bC bB bA bS : Bool} {X : World → Prop} {R : Nat} {cs : List Value} {row : Option Nat} {own : World → Prop} {Bx i : Nat} {u : Value}
theorem Ap.start (wr : World) (X : World → Prop) (R : Nat) (cs : List Value) (row : Option Nat) (own : World → Prop) (Bx i : Nat) (u : Value) : Ap wr wr.drew false false false false X R cs row own Bx i u :=
 ⟨fun _ => (Below.refl _ _).drew, fun e => ft e, fun e => ft e, fun e => ft e, fun e => ft e⟩
theorem Ap.start1 (wr : World) (R : Nat) (cs : List Value) (row : Option Nat) (own : World → Prop) (Bx i : Nat) (u : Value) : Ap wr wr.drew true false false false (fun _ => True) R cs row own Bx i u :=
 ⟨fun _ => (Below.refl _ _).drew, fun _ _ => True.intro, fun e => ft e, fun e => ft e, fun e => ft e⟩
/-- A step that makes the element. -/
theorem Ap.elem {va' : World} {R' : Nat} {cs' : List Value} {X' : World → Prop} {own' : World → Prop} {u' : Value} (h : Ap wr va bC bB bA bS X R cs row own Bx i u) (h1 : bB = false) (h2 : bA = false) (h3 : bS = false) (hb : Below va.heap.size va va') (hx : X' va') : Ap wr va' true bB bA bS X' R' cs' row own' Bx i u' :=
 ⟨fun _ => below_step (h.pre h2) hb, fun _ _ => hx, fun e => ft (h1.symm.trans e), fun e => ft (h2.symm.trans e), fun e => ft (h3.symm.trans e)⟩
theorem Ap.elemr {va' : World} {R' : Nat} {cs' : List Value} {X' : World → Prop} {own' : World → Prop} {u' : Value} (_ : Ap wr va bC bB bA bS X R cs row own Bx i u) (h1 : bB = false) (h2 : bA = false) (h3 : bS = false) (hb : Below wr.heap.size wr va') (hx : X' va') : Ap wr va' true bB bA bS X' R' cs' row own' Bx i u' :=
 ⟨fun _ => hb, fun _ _ => hx, fun e => ft (h1.symm.trans e), fun e => ft (h2.symm.trans e), fun e => ft (h3.symm.trans e)⟩
/-- Something else is made. -/
theorem Ap.more {va' : World} (h : Ap wr va bC bB bA bS X R cs row own Bx i u) (h0 : bC = false) (h1 : bB = false) (h2 : bA = false) (h3 : bS = false) (hb : Below va.heap.size va va') : Ap wr va' bC bB bA bS X R cs row own Bx i u :=
 ⟨fun _ => below_step (h.pre h2) hb, fun e => ft (h0.symm.trans e), fun e => ft (h1.symm.trans e), fun e => ft (h2.symm.trans e), fun e => ft (h3.symm.trans e)⟩
theorem news_one (w : World) (cs : List Value) (T : TypeId) (j : Nat) (u : Value) (h : cs[j]? = some u) : (w.alloc (.cells cs.toArray T)).cell? ((⟨w.heap.size, 0, none⟩ : Addr).add j) = some u := by
 rw [WideShapes.add_plain, Nat.zero_add, World.cell?_alloc_new]
 simpa using h
/-- The element is laid into a block. -/
theorem Ap.lay (h : Ap wr va bC bB bA bS X R cs row own Bx i u) (h2 : bA = false) (h3 : bS = false) (hm : ∀ v v', X v → Below v.heap.size v v' → X v') {T : TypeId} {c : Array Value} (he : c = cs.toArray) : Ap wr (va.alloc (.cells c T)) bC true bA bS X va.heap.size cs row own Bx i u := by
 subst he
 exact ⟨fun e => bl_alloc (h.pre e) _, fun e1 e2 => hm _ _ (h.ext e1 e2) (bl_alloc (Below.refl _ _) _), fun _ _ => news_one va cs T, fun e => ft (h2.symm.trans e), fun e => ft (h3.symm.trans e)⟩
theorem Ap.app {va' : World} {own' : World → Prop} {u' : Value} (h : Ap wr va bC bB false bS X R cs row own Bx i u) (hc : bC = true) (h3 : bS = false) (hg : va.grownBy va' row) (ho : own' va') : Ap wr va' bC bB true bS X R cs row own' Bx i u' :=
 ⟨fun e => tf e, fun _ e => tf e, fun _ e => tf e, fun _ _ => ⟨va, h.pre rfl, h.ext hc rfl, hg, ho⟩, fun e => ft (h3.symm.trans e)⟩
theorem Ap.store (h : Ap wr va bC bB true false X R cs row own Bx i u) : Ap wr (va.setCell ⟨Bx, i, none⟩ u) bC bB true true X R cs row own Bx i u :=
 ⟨fun e => tf e, fun _ e => tf e, fun _ e => tf e, fun _ e => tf e, fun _ => ⟨va, h.aft rfl rfl, rfl⟩⟩
theorem Aft.box {va : World} {c : Array Value} {T : TypeId} (h : Aft wr X row own va) (hX : wr.heap[Bx]? = some (.cells c T (0, 0))) (hr : ∀ v, Below wr.heap.size wr v → ∀ q, row = some q → q ≠ Bx) : va.heap[Bx]? = some (.cells c T (0, 0)) := by
 obtain ⟨vb, h1, _, h3, _⟩ := h
 have e1 := (h1.block Bx (heap_lt hX)).trans hX
 exact (h3.block Bx (heap_lt e1) (fun e => hr vb h1 Bx e.symm rfl)).trans e1
end
/-- Nothing below base has turned but block Bx. -/
structure Kp (base Bx : Nat) (w w' : World) : Prop where
 os : w'.os = w.os
 tape : w'.tape = w.tape
 output : w'.output = w.output
 size : w.heap.size ≤ w'.heap.size
 block : ∀ k, k < base → k ≠ Bx → w'.heap[k]? = w.heap[k]?
theorem Kp.refl (base Bx : Nat) (w : World) : Kp base Bx w w := ⟨rfl, rfl, rfl, Nat.le_refl _, fun _ _ _ => rfl⟩
theorem Kp.trans {base Bx : Nat} {a b c : World} (h : Kp base Bx a b) (k : Kp base Bx b c) : Kp base Bx a c :=
 ⟨k.os.trans h.os, k.tape.trans h.tape, k.output.trans h.output, Nat.le_trans h.size k.size, fun i h1 h2 => (k.block i h1 h2).trans (h.block i h1 h2)⟩
theorem Kp.step {base Bx : Nat} {a b c : World} (h : Kp base Bx a b) (g : Below b.heap.size b c) (hb : base ≤ b.heap.size) : Kp base Bx a c :=
 h.trans ⟨g.os, g.tape, g.output, g.size, fun i h1 _ => g.block i (by omega)⟩
theorem Kp.set {base Bx : Nat} {a b : World} (h : Kp base Bx a b) (i : Nat) (u : Value) : Kp base Bx a (b.setCell ⟨Bx, i, none⟩ u) := by
 have g : Below Bx b (b.setCell ⟨Bx, i, none⟩ u) := (Below.refl Bx b).setCell (p := ⟨Bx, i, none⟩) (Nat.le_refl _) _
 exact h.trans ⟨g.os, g.tape, g.output, g.size, fun k _ hk => Below.heap_setCell b ⟨Bx, i, none⟩ u k hk⟩
theorem Kp.below {base Bx B : Nat} {w a b : World} (hw : Below B w a) (h : Kp base Bx a b) (h1 : B ≤ base) (h2 : B ≤ Bx) : Below B w b :=
 ⟨h.os.trans hw.os, h.tape.trans hw.tape, h.output.trans hw.output, Nat.le_trans hw.size h.size, fun i hi => (h.block i (by omega) (by omega)).trans (hw.block i hi)⟩
theorem Aft.kp {wr vc : World} {X : World → Prop} {row : Option Nat} {own : World → Prop} {base : Nat} (h : Aft wr X row own vc) (hbs : base ≤ wr.heap.size) (hr : ∀ q, row = some q → base ≤ q) (Bx i : Nat) (u : Value) : Kp base Bx wr (vc.setCell ⟨Bx, i, none⟩ u) := by
 obtain ⟨vb, h1, _, h3, _⟩ := h
 refine Kp.set (Kp.trans (Kp.step (Kp.refl _ _ _) h1 hbs) ⟨h3.os, h3.tape, h3.output, h3.size, fun k hk _ => h3.block k (Nat.lt_of_lt_of_le hk (Nat.le_trans hbs h1.size)) (fun e => by have := hr k e.symm; omega)⟩) i u
/-- A Seg that grows: one step of each kind. -/
theorem GrowS.stepV {wr va : World} {base Bx : Nat} {A : SAd} {S : SG} {X : World → Prop} {g c : Nat} {x : VV} (h : GrowS wr base Bx A S) (hbs : base ≤ wr.heap.size)
  (hf : ∃ vc, Aft wr X (Value.ownBlock (.slice A.a1 S.V.length A.c1)) (fun v => v.ownsRow base 55 3 (.slice (some ⟨g, 0, none⟩) (S.V.length + 1) c) (S.V.length + 1) (eV.flat S.V ++ eV.enc x)) vc ∧ va = vc.setCell ⟨Bx, 1, none⟩ (.slice (some ⟨g, 0, none⟩) (S.V.length + 1) c)) :
  GrowS va base Bx ⟨A.a0, A.c0, some ⟨g, 0, none⟩, c, A.a2, A.c2⟩ ⟨S.B, S.V ++ [x], S.M⟩ ∧ Kp base Bx wr va := by
 obtain ⟨vc, ha, rfl⟩ := hf
 refine ⟨?_, ha.kp hbs (fun q hq => (h.v.lt hq).1) _ _ _⟩
 obtain ⟨vb, h1, _, h3, h4⟩ := ha
 have e : (S.V ++ [x]).length = S.V.length + 1 := by simp
 have hn := (h.below h1).pushV (a := some ⟨g, 0, none⟩) (c := c) (x := x) h3 (by unfold Own; rw [e, El.flat_app, show eV.flat [x] = eV.enc x by simp [El.flat]]; exact h4)
 rw [e] at hn
 exact hn
theorem GrowS.stepM {wr va : World} {base Bx : Nat} {A : SAd} {S : SG} {X : World → Prop} {g c : Nat} {x : Bool} (h : GrowS wr base Bx A S) (hbs : base ≤ wr.heap.size)
  (hf : ∃ vc, Aft wr X (Value.ownBlock (.slice A.a2 S.M.length A.c2)) (fun v => v.ownsRow base 4 1 (.slice (some ⟨g, 0, none⟩) (S.M.length + 1) c) (S.M.length + 1) (eB.flat S.M ++ eB.enc x)) vc ∧ va = vc.setCell ⟨Bx, 2, none⟩ (.slice (some ⟨g, 0, none⟩) (S.M.length + 1) c)) :
  GrowS va base Bx ⟨A.a0, A.c0, A.a1, A.c1, some ⟨g, 0, none⟩, c⟩ ⟨S.B, S.V, S.M ++ [x]⟩ ∧ Kp base Bx wr va := by
 obtain ⟨vc, ha, rfl⟩ := hf
 refine ⟨?_, ha.kp hbs (fun q hq => (h.m.lt hq).1) _ _ _⟩
 obtain ⟨vb, h1, _, h3, h4⟩ := ha
 have e : (S.M ++ [x]).length = S.M.length + 1 := by simp
 have hn := (h.below h1).pushM (a := some ⟨g, 0, none⟩) (c := c) (x := x) h3 (by unfold Own; rw [e, El.flat_app, show eB.flat [x] = eB.enc x by simp [El.flat]]; exact h4)
 rw [e] at hn
 exact hn
theorem GrowS.stepB {wr va : World} {base Bx : Nat} {A : SAd} {S : SG} {g c : Nat} {gr : Option Addr} {cr : Nat} {x : List Y} {vs : List Value} (h : GrowS wr base Bx A S) (hbs : base ≤ wr.heap.size) (hvs : wr.ownsRow base 113 1 (.slice A.a0 S.B.length A.c0) S.B.length vs) (hin : Inn wr base vs S.B)
  (hf : ∃ vc, Aft wr (fun v => Own eY 49 v wr.heap.size (.slice gr x.length cr) x) (Value.ownBlock (.slice A.a0 S.B.length A.c0)) (fun v => v.ownsRow base 113 1 (.slice (some ⟨g, 0, none⟩) (S.B.length + 1) c) (S.B.length + 1) (vs ++ [.slice gr x.length cr])) vc ∧ va = vc.setCell ⟨Bx, 0, none⟩ (.slice (some ⟨g, 0, none⟩) (S.B.length + 1) c)) :
  GrowS va base Bx ⟨some ⟨g, 0, none⟩, c, A.a1, A.c1, A.a2, A.c2⟩ ⟨S.B ++ [x], S.V, S.M⟩ ∧ Kp base Bx wr va := by
 obtain ⟨vc, ha, rfl⟩ := hf
 refine ⟨?_, ha.kp hbs (fun q hq => (World.ownsRow.lt hvs q hq).1) _ _ _⟩
 obtain ⟨vb, h1, h2, h3, h4⟩ := ha
 have e : (S.B ++ [x]).length = S.B.length + 1 := by simp
 have hn := (h.below h1).pushB (a := some ⟨g, 0, none⟩) (c := c) (x := x) h3 (OwnYY.more hin hbs h1 h2 hvs h3 (by rw [e]; exact h4))
 rw [e] at hn
 exact hn
theorem GrowS.owns {w : World} {base X : Nat} {A : SAd} {S : SG} (h : GrowS w base X A S) : OwnS w base w.heap.size A S :=
 ⟨h.b.top, h.v, fun _ hq => (h.v.lt hq).2, h.m, fun _ hq => (h.m.lt hq).2⟩
end Go.Proofs.YtihpajiololfoaaGreat
namespace Go.Proofs.YtihpajiololfoaaGreat
open Go.RowKit

theorem At.drop {α : Type} {E : El α} {w : World} {b o d : Nat} {cs : List α} (h : At E w (some ⟨b, o, none⟩) cs) : At E w (some ⟨b, o + d * E.k, none⟩) (cs.drop d) := by
 rcases h with rfl | ⟨b', o', e, h⟩
 ·exact .inl (by simp)
 ·cases e
  refine .inr ⟨b, o + d * E.k, rfl, fun i x hx j v hv => ?_⟩
  rw [List.getElem?_drop] at hx
  have := h (d + i) x hx j v hv
  rw [Nat.add_mul, ← Nat.add_assoc] at this
  exact this
end Go.Proofs.YtihpajiololfoaaGreat
