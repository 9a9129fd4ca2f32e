/-
  A ROW AS A LIST OF LINKS IN MEMORY; CONTRACTS of the program's number, isOneNumber.
  CONTRACT of the program's (*link).has.
-/
import Derived.Test.YthfiblldccnjcaaGreatDoorVh
import Derived.Laws.EntriesVeiled
namespace Go.Proofs.YthfiblldccnjcaaGreatDoor
open Go.RowKit

structure Lk where
  b : List Y
  v : VV
  m : Bool
/-- A link lies in a block of its own; the next one is p. -/
structure LinkAt (w : World) (X : Nat) (k : Lk) (p : Option Addr) : Prop where
  mem : ∃ ao cap, w.cell? ⟨X, 0, none⟩ = some (.slice ao k.b.length cap) ∧ At eY w ao k.b
  f : w.cell? ⟨X, 1, none⟩ = some (.func (.func 72) #[] #[])
  v0 : w.cell? ⟨X, 2, none⟩ = some (.int .i64 k.v.1)
  v1 : w.cell? ⟨X, 3, none⟩ = some (.int .i64 k.v.2.1)
  v2 : w.cell? ⟨X, 4, none⟩ = some (.bool k.v.2.2)
  m : w.cell? ⟨X, 5, none⟩ = some (.bool k.m)
  nx : w.cell? ⟨X, 6, none⟩ = some (.pointer p)
theorem LinkAt.lt {w : World} {X : Nat} {k : Lk} {p : Option Addr} (h : LinkAt w X k p) : X < w.heap.size := World.block_lt_of_cell? w _ h.f
theorem LinkAt.below {w w' : World} {X : Nat} {k : Lk} {p : Option Addr} (h : LinkAt w X k p) (hb : Below w.heap.size w w') : LinkAt w' X k p := by
  obtain ⟨hc, _⟩ := bcell hb
  have hl := h.lt
  obtain ⟨ao, cap, h1, h2⟩ := h.mem
  exact ⟨⟨ao, cap, (hc _ _ hl).trans h1, h2.below hb⟩, (hc _ _ hl).trans h.f, (hc _ _ hl).trans h.v0, (hc _ _ hl).trans h.v1, (hc _ _ hl).trans h.v2, (hc _ _ hl).trans h.m, (hc _ _ hl).trans h.nx⟩
/-- A row: link behind link. -/
def Chain (w : World) : Nat → List Lk → Prop
  | _, [] => False
  | X, [k] => LinkAt w X k none
  | X, k :: k' :: r => ∃ X', LinkAt w X k (some ⟨X', 0, none⟩) ∧ Chain w X' (k' :: r)
theorem Chain.below {w w' : World} (hb : Below w.heap.size w w') : ∀ {ks : List Lk} {X : Nat}, Chain w X ks → Chain w' X ks
  | [], _, h => h
  | [_], _, h => LinkAt.below h hb
  | _ :: _ :: _, _, ⟨X', h1, h2⟩ => ⟨X', h1.below hb, Chain.below hb h2⟩
theorem Chain.head {w : World} {k : Lk} {r : List Lk} {X : Nat} (h : Chain w X (k :: r)) : ∃ p, LinkAt w X k p := by
  cases r with
  | nil => exact ⟨none, h⟩
  | cons k' r => obtain ⟨X', h1, _⟩ := h; exact ⟨_, h1⟩
/-- The number of a bound. -/
def numB (l : List Int) (b : List Y) : Int := valY l (b.headD (0, 0))
structure OneP (l : List Int) (b : List Y) : Prop where
  each : ∀ p, p ∈ b → valY l p = numB l b
theorem numB_bound {l : List Int} {b : List Y} (hv : VP l) (hb : ∀ p, p ∈ b → InS l.length p) (hne : b ≠ []) : -1001000 ≤ numB l b ∧ numB l b ≤ 1001000 := by
  cases b with
  | nil => exact absurd rfl hne
  | cons p b =>
    obtain ⟨x, _, h2, h3, h4⟩ := hv.bound (hb p (by simp))
    have h5 := (hb p (by simp)).c1
    have h6 := (hb p (by simp)).c2
    show -1001000 ≤ valY l p ∧ valY l p ≤ 1001000
    omega
end Go.Proofs.YthfiblldccnjcaaGreatDoor
namespace Go.Proofs.YthfiblldccnjcaaGreatDoor
open Go.RowKit

abbrev CC := Bool × Int
def eC : El CC := ⟨fun p => [.bool p.1, .int .i64 p.2], 2, by omega, fun _ => rfl⟩
theorem get_c {w : World} {b o : Nat} {l : List CC} (h : ∀ (i : Nat) (x : CC), l[i]? = some x → ∀ (j : Nat) (v : Value), (eC.enc x)[j]? = some v → w.cell? ⟨b, o + i * eC.k + j, none⟩ = some v) {i : Nat} {x : CC} (hx : l[i]? = some x) :
    w.cell? ⟨b, o + i * 2, none⟩ = some (.bool x.1) ∧ w.cell? ⟨b, o + i * 2 + 1, none⟩ = some (.int .i64 x.2) := ⟨h i x hx 0 _ rfl, h i x hx 1 _ rfl⟩
def hasC (v : VV) (c : CC) : Bool := hasV v.1 v.2.1 v.2.2 c.1 c.2
structure SegP (l : List Int) (k k' : Lk) (cs : List CC) (d : Nat) : Prop where
  num : numB l k'.b - numB l k.b = d
  le : d ≤ cs.length
  may : d = 0 → k.m = true
  each : ∀ c, c ∈ cs.take d → hasC k.v c = true
def HasL (l : List Int) : List Lk → List CC → Prop
  | [], _ => False
  | [k], _ => OneP l k.b
  | k :: k' :: r, cs => OneP l k.b ∧ ∃ d, SegP l k k' cs d ∧ HasL l (k' :: r) (cs.drop d)
structure GoodL (l : List Int) (k : Lk) : Prop where
  ne : k.b ≠ []
  len : k.b.length ≤ 1048576
  ins : ∀ q, q ∈ k.b → InS l.length q
theorem At.drop {α : Type} {E : El α} {w : World} {b o d : Nat} {cs : List α} (h : At E w (some ⟨b, o, none⟩) cs) : At E w (some ⟨b, o + d * E.k, none⟩) (cs.drop d) := by
  rcases h with rfl | ⟨b', o', e, h⟩
  · exact .inl (by simp)
  · cases e
    refine .inr ⟨b, o + d * E.k, rfl, fun i x hx j v hv => ?_⟩
    rw [List.getElem?_drop] at hx
    have := h (d + i) x hx j v hv
    rw [Nat.add_mul, ← Nat.add_assoc] at this
    exact this
end Go.Proofs.YthfiblldccnjcaaGreatDoor
