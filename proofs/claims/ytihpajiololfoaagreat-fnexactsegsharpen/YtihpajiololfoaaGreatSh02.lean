/-
  ROWS IN MEMORY of elements of some cells each: to be read (At), of one's own (Own).
  CONTRACTS of the law's marks: what is written.
  ROWS OF ROWS OF TERMS, of one's own and to be read.
-/
import Derived.Test.YtihpajiololfoaaGreatSh01
import Derived.Deep.AppendLies
import Derived.Deep.Onto
import Derived.Deep.QuietTactic
import Derived.BigQuiet
namespace Go.Proofs.YtihpajiololfoaaGreat
open Go.RowKit

/-- A kind of element: its cells. -/
structure El (α : Type) where
 enc : α → List Value
 k : Nat
 pos : 0 < k
 len : ∀ x, (enc x).length = k
variable {α : Type}
def El.flat (E : El α) (l : List α) : List Value := l.flatMap E.enc
theorem El.flat_app (E : El α) (a b : List α) : E.flat (a ++ b) = E.flat a ++ E.flat b := by simp [El.flat]
theorem El.flat_cons (E : El α) (x : α) (l : List α) : E.flat (x :: l) = E.enc x ++ E.flat l := by simp [El.flat]
theorem El.flat_len (E : El α) (l : List α) : (E.flat l).length = l.length * E.k := by
 induction l with
 | nil => simp [El.flat]
 | cons x l ih => rw [El.flat_cons, List.length_append, E.len, ih, List.length_cons, Nat.add_mul]; omega
theorem split_at {l : List α} {i : Nat} {x : α} (h : l[i]? = some x) : l = l.take i ++ x :: l.drop (i + 1) ∧ (l.take i).length = i := by
 obtain ⟨hi, rfl⟩ := List.getElem?_eq_some_iff.1 h
 exact ⟨by rw [← List.drop_eq_getElem_cons hi, List.take_append_drop], by simp; omega⟩
theorem El.flat_get (E : El α) {l : List α} {i : Nat} {x : α} (h : l[i]? = some x) {j : Nat} (hj : j < E.k) : (E.flat l)[i * E.k + j]? = (E.enc x)[j]? := by
 obtain ⟨e, hl⟩ := split_at h
 have e2 : E.flat l = E.flat (l.take i) ++ (E.enc x ++ E.flat (l.drop (i + 1))) := by
  conv => lhs; rw [e]
  rw [El.flat_app, El.flat_cons]
 have e3 : (E.flat (l.take i)).length = i * E.k := by rw [El.flat_len, hl]
 rw [e2, List.getElem?_append_right (by omega), e3, show i * E.k + j - i * E.k = j by omega, List.getElem?_append_left (by rw [E.len]; exact hj)]
theorem El.flat_take (E : El α) (l : List α) (i : Nat) : (E.flat l).take (i * E.k) = E.flat (l.take i) := by
 by_cases h : i ≤ l.length
 ·have e : E.flat l = E.flat (l.take i) ++ E.flat (l.drop i) := by rw [← El.flat_app, List.take_append_drop]
  rw [e, List.take_left']
  rw [El.flat_len, List.length_take, Nat.min_eq_left h]
 ·rw [List.take_of_length_le (l := l) (by omega), List.take_of_length_le]
  rw [El.flat_len]
  exact Nat.mul_le_mul_right _ (by omega)
/-- The elements lie from an address on, to be read. -/
def At (E : El α) (w : World) (a : Option Addr) (l : List α) : Prop := l = [] ∨ ∃ b o, a = some ⟨b, o, none⟩ ∧ ∀ (i : Nat) (x : α), l[i]? = some x → ∀ (j : Nat) (v : Value), (E.enc x)[j]? = some v → w.cell? ⟨b, o + i * E.k + j, none⟩ = some v
theorem At.below {E : El α} {w w' : World} {a : Option Addr} {l : List α} (h : At E w a l) (hb : Below w.heap.size w w') : At E w' a l := by
 rcases h with h | ⟨b, o, e, h⟩
 ·exact .inl h
 ·refine .inr ⟨b, o, e, fun i x hx j v hv => ?_⟩
  have h1 := h i x hx j v hv
  exact (hb.cell (p := ⟨b, o + i * E.k + j, none⟩) (World.block_lt_of_cell? w _ h1)).trans h1
theorem At.nil (E : El α) (w : World) (a : Option Addr) : At E w a [] := .inl rfl
theorem At.cons {E : El α} {w : World} {a : Option Addr} {l : List α} (h : At E w a l) (hn : 0 < l.length) : ∃ b o, a = some ⟨b, o, none⟩ ∧ b < w.heap.size ∧ ∀ (i : Nat) (x : α), l[i]? = some x → ∀ (j : Nat) (v : Value), (E.enc x)[j]? = some v → w.cell? ⟨b, o + i * E.k + j, none⟩ = some v := by
 rcases h with rfl | ⟨b, o, e, h⟩
 ·simp at hn
 ·refine ⟨b, o, e, ?_, h⟩
  obtain ⟨x0, hx⟩ : ∃ x, l[0]? = some x := ⟨_, List.getElem?_eq_getElem hn⟩
  have hp := E.pos
  have hq := E.len x0
  obtain ⟨v0, hj⟩ : ∃ v, (E.enc x0)[0]? = some v := ⟨_, List.getElem?_eq_getElem (by omega)⟩
  exact World.block_lt_of_cell? w _ (h 0 _ hx 0 _ hj)
/-- A slice of our own that holds these elements. -/
def Own (E : El α) (T : TypeId) (w : World) (base : Nat) (v : Value) (l : List α) : Prop := w.ownsRow base T E.k v l.length (E.flat l)
section
variable {E : El α} {T : TypeId} {w w' : World} {base base' : Nat} {v : Value} {l : List α}
theorem owns_below {w w' : World} {base e size n : Nat} {v : Value} {xs : List Value} (h : w.ownsRow base e size v n xs) (hb : Below w.heap.size w w') : w'.ownsRow base e size v n xs :=
 h.kept (row := none) ⟨hb.os, hb.tape, hb.output, hb.size, fun k hk _ => hb.block k hk⟩ (by cases v.ownBlock <;> simp)
theorem Own.below (h : Own E T w base v l) (hb : Below w.heap.size w w') : Own E T w' base v l := owns_below h hb
theorem Own.mono (h : Own E T w base v l) (hb : base' ≤ base) : Own E T w base' v l := World.ownsRow.mono h hb
theorem Own.form (h : Own E T w base v l) : ∃ ao cap, v = .slice ao l.length cap := by
 rcases h.2 with ⟨rfl, h0⟩ | ⟨g, cap, cur, rfl, _⟩
 ·exact ⟨none, 0, by rw [h0]⟩
 ·exact ⟨_, _, rfl⟩
theorem Own.form2 (h : Own E T w base v l) : ∃ ao cap, v = .slice ao l.length cap ∧ l.length ≤ cap ∧ cap ≤ maxLen := by
 rcases h.2 with ⟨rfl, h0⟩ | ⟨g, cap, cur, rfl, _, _, h1, h2, _⟩
 ·exact ⟨none, 0, by rw [h0], by omega, by unfold maxLen; omega⟩
 ·exact ⟨_, _, rfl, h1, h2⟩
theorem Own.nil (E : El α) (T : TypeId) (w : World) (base : Nat) : Own E T w base (.slice none 0 0) [] := ⟨by simp [El.flat], .inl ⟨rfl, rfl⟩⟩
theorem Own.lt (h : Own E T w base v l) {q : Nat} (hq : v.ownBlock = some q) : base ≤ q ∧ q < w.heap.size := World.ownsRow.lt h q hq
theorem Own.block (h : Own E T w base v l) {q : Nat} (hq : v.ownBlock = some q) : ∃ cur, w.heap[q]? = some (.cells cur T (0, 0)) := by
 rcases h.2 with ⟨rfl, _⟩ | ⟨g, cap, cur, rfl, _, hg, _⟩
 ·simp [Value.ownBlock] at hq
 ·simp [Value.ownBlock] at hq
  subst hq
  exact ⟨cur, hg⟩
theorem Own.keptBy (h : Own E T w base v l) {row : Option Nat} (hg : w.grownBy w' row) (hr : ∀ q, v.ownBlock = some q → row ≠ some q) : Own E T w' base v l := by
 refine World.ownsRow.kept h hg ?_
 rcases h.2 with ⟨rfl, _⟩ | ⟨g, cap, cur, rfl, _, _, _⟩
 ·exact .inl rfl
 ·exact .inr fun e => hr g rfl (by rw [← e]; rfl)
theorem Own.at {ao : Option Addr} {n cap : Nat} (h : Own E T w base (.slice ao n cap) l) : At E w ao l := by
 rcases h.2 with ⟨e, h0⟩ | ⟨g, cap', cur, e, _⟩
 ·exact .inl (List.length_eq_zero_iff.1 h0)
 ·simp at e
  obtain ⟨rfl, rfl, rfl⟩ := e
  refine .inr ⟨g, 0, rfl, fun i x hx j v hv => ?_⟩
  have hi := (List.getElem?_eq_some_iff.1 hx).1
  have hj : j < E.k := by have := (List.getElem?_eq_some_iff.1 hv).1; rwa [E.len] at this
  have hlt : i * E.k + j < l.length * E.k := by
   have : (i + 1) * E.k ≤ l.length * E.k := Nat.mul_le_mul_right _ hi
   rw [Nat.add_mul] at this; omega
  rw [Nat.zero_add, World.ownsRow.cellAt h _ hlt, E.flat_get hx hj, hv]
end
theorem grown_trans {a b c : World} {r : Option Nat} (h : a.grownBy b r) (k : b.grownBy c r) : a.grownBy c r :=
 ⟨k.os.trans h.os, k.tape.trans h.tape, k.output.trans h.output, Nat.le_trans h.size k.size, fun i hi hne => (k.block i (Nat.lt_of_lt_of_le hi h.size) hne).trans (h.block i hi hne)⟩
theorem grown_below {a b : World} {r : Option Nat} (h : Below a.heap.size a b) : a.grownBy b r := ⟨h.os, h.tape, h.output, h.size, fun i hi _ => h.block i hi⟩

def eY : El Y := ⟨fun p => [.int .i64 p.1, .int .i64 p.2], 2, by omega, fun _ => rfl⟩
def eV : El VV := ⟨fun p => [.int .i64 p.1, .int .i64 p.2.1, .bool p.2.2], 3, by omega, fun _ => rfl⟩
def eB : El Bool := ⟨fun p => [.bool p], 1, by omega, fun _ => rfl⟩
/-- What a read of an element wants. -/
theorem get_y {w : World} {b o : Nat} {l : List Y} (h : ∀ (i : Nat) (x : Y), l[i]? = some x → ∀ (j : Nat) (v : Value), (eY.enc x)[j]? = some v → w.cell? ⟨b, o + i * eY.k + j, none⟩ = some v) {i : Nat} {x : Y} (hx : l[i]? = some x) :
  w.cell? ⟨b, o + i * 2, none⟩ = some (.int .i64 x.1) ∧ w.cell? ⟨b, o + i * 2 + 1, none⟩ = some (.int .i64 x.2) := ⟨h i x hx 0 _ rfl, h i x hx 1 _ rfl⟩
theorem get_v {w : World} {b o : Nat} {l : List VV} (h : ∀ (i : Nat) (x : VV), l[i]? = some x → ∀ (j : Nat) (v : Value), (eV.enc x)[j]? = some v → w.cell? ⟨b, o + i * eV.k + j, none⟩ = some v) {i : Nat} {x : VV} (hx : l[i]? = some x) :
  w.cell? ⟨b, o + i * 3, none⟩ = some (.int .i64 x.1) ∧ w.cell? ⟨b, o + i * 3 + 1, none⟩ = some (.int .i64 x.2.1) ∧ w.cell? ⟨b, o + i * 3 + 2, none⟩ = some (.bool x.2.2) := ⟨h i x hx 0 _ rfl, h i x hx 1 _ rfl, h i x hx 2 _ rfl⟩
theorem get_b {w : World} {b o : Nat} {l : List Bool} (h : ∀ (i : Nat) (x : Bool), l[i]? = some x → ∀ (j : Nat) (v : Value), (eB.enc x)[j]? = some v → w.cell? ⟨b, o + i * eB.k + j, none⟩ = some v) {i : Nat} {x : Bool} (hx : l[i]? = some x) :
  w.cell? ⟨b, o + i, none⟩ = some (.bool x) := by have := h i x hx 0 _ rfl; simpa [eB] using this
/-- A step of filling a row. -/
theorem flat_upto {E : El α} {l : List α} {xs : List Value} (hl : xs.length = l.length * E.k) (h : xs.take (l.length * E.k) = E.flat (l.take l.length)) : xs = E.flat l := by
 rw [List.take_of_length_le (by omega)] at h
 rw [h, List.take_length]
theorem two_parts {l : List Value} {n m : Nat} (h : l.length = m) (hn : n + 2 ≤ m) : ∃ p a b r, l = p ++ a :: b :: r ∧ p.length = n := by
 have h1 : n < l.length := by omega
 have h2 : n + 1 < l.length := by omega
 refine ⟨l.take n, l[n], l[n + 1], l.drop (n + 1 + 1), ?_, by simp; omega⟩
 rw [← List.drop_eq_getElem_cons h2, ← List.drop_eq_getElem_cons h1, List.take_append_drop]
theorem three_parts {l : List Value} {n m : Nat} (h : l.length = m) (hn : n + 3 ≤ m) : ∃ p a b c r, l = p ++ a :: b :: c :: r ∧ p.length = n := by
 have h1 : n < l.length := by omega
 have h2 : n + 1 < l.length := by omega
 have h3 : n + 1 + 1 < l.length := by omega
 refine ⟨l.take n, l[n], l[n + 1], l[n + 1 + 1], l.drop (n + 1 + 1 + 1), ?_, by simp; omega⟩
 rw [← List.drop_eq_getElem_cons h3, ← List.drop_eq_getElem_cons h2, ← List.drop_eq_getElem_cons h1, List.take_append_drop]
theorem step_y {l : List Y} {k : Nat} {x : Y} (hx : l[k]? = some x) {xs : List Value} (hlen : xs.length = l.length * 2) (h : xs.take (k * 2) = eY.flat (l.take k)) :
  ((xs.set (k * 2) (.int .i64 x.1)).set (k * 2 + 1) (.int .i64 x.2)).take ((k + 1) * 2) = eY.flat (l.take (k + 1)) := by
 obtain ⟨hk, hx'⟩ := List.getElem?_eq_some_iff.1 hx
 obtain ⟨p, a, b, r, rfl, hp⟩ := two_parts (n := k * 2) hlen (by omega)
 rw [List.take_left' hp] at h
 rw [List.take_succ_eq_append_getElem hk, El.flat_app, ← h, hx', show (k + 1) * 2 = p.length + 2 by omega]
 have s1 : (p ++ a :: b :: r).set (k * 2) (.int .i64 x.1) = p ++ .int .i64 x.1 :: b :: r := by rw [← hp]; simp
 have s2 : (p ++ .int .i64 x.1 :: b :: r).set (k * 2 + 1) (.int .i64 x.2) = p ++ .int .i64 x.1 :: .int .i64 x.2 :: r := by rw [← hp]; simp
 rw [s1, s2, List.take_length_add_append]
 simp [El.flat, eY]
theorem step_v {l : List VV} {k : Nat} {x : VV} (hx : l[k]? = some x) {xs : List Value} (hlen : xs.length = l.length * 3) (h : xs.take (k * 3) = eV.flat (l.take k)) :
  (((xs.set (k * 3) (.int .i64 x.1)).set (k * 3 + 1) (.int .i64 x.2.1)).set (k * 3 + 1 + 1) (.bool x.2.2)).take ((k + 1) * 3) = eV.flat (l.take (k + 1)) := by
 obtain ⟨hk, hx'⟩ := List.getElem?_eq_some_iff.1 hx
 obtain ⟨p, a, b, c, r, rfl, hp⟩ := three_parts (n := k * 3) hlen (by omega)
 rw [List.take_left' hp] at h
 rw [List.take_succ_eq_append_getElem hk, El.flat_app, ← h, hx', show (k + 1) * 3 = p.length + 3 by omega]
 have s1 : (p ++ a :: b :: c :: r).set (k * 3) (.int .i64 x.1) = p ++ .int .i64 x.1 :: b :: c :: r := by rw [← hp]; simp
 have s2 : (p ++ .int .i64 x.1 :: b :: c :: r).set (k * 3 + 1) (.int .i64 x.2.1) = p ++ .int .i64 x.1 :: .int .i64 x.2.1 :: c :: r := by rw [← hp]; simp
 have s3 : (p ++ .int .i64 x.1 :: .int .i64 x.2.1 :: c :: r).set (k * 3 + 1 + 1) (.bool x.2.2) = p ++ .int .i64 x.1 :: .int .i64 x.2.1 :: .bool x.2.2 :: r := by
  rw [← hp, List.set_append_right _ _ (by omega), show p.length + 1 + 1 - p.length = 2 by omega]; rfl
 rw [s1, s2, s3, List.take_length_add_append]
 simp [El.flat, eV]
theorem step_b {l : List Bool} {k : Nat} {x : Bool} (hx : l[k]? = some x) {xs : List Value} (hlen : xs.length = l.length * 1) (h : xs.take (k * 1) = eB.flat (l.take k)) :
  (xs.set k (.bool x)).take ((k + 1) * 1) = eB.flat (l.take (k + 1)) := by
 obtain ⟨hk, hx'⟩ := List.getElem?_eq_some_iff.1 hx
 rw [Nat.mul_one] at *
 rw [List.take_succ_eq_append_getElem hk, El.flat_app, ← h, hx', List.take_succ_eq_append_getElem (by simp; omega)]
 simp [El.flat, eB, List.take_set_of_le]
end Go.Proofs.YtihpajiololfoaaGreat
namespace Go.Proofs.YtihpajiololfoaaGreat
open Go.RowKit

/-- The flags that the law writes. -/
def m3 (k : Int) : Bool := decide (k % 3 = 0)
theorem ret_int' {k : IntKind} {a b : Int} (h : a = b) : Ending.returned (.int k a) = .returned (.int k b) := by rw [h]
theorem tmod3 {k : Int} (h : 0 ≤ k) : (k.tmod 3 == 0) = m3 k := by unfold m3; rw [Int.tmod_eq_emod_of_nonneg h]; rfl
def marksY (k0 : Int) (n : Nat) : List Y := (List.range n).map fun (k : Nat) => (k0 + (k : Int) * 2, k0 + (k : Int) * 2 + 1)
theorem marksY_len (k0 : Int) (n : Nat) : (marksY k0 n).length = n := by simp [marksY]
theorem marksY_get {k0 : Int} {n k : Nat} (h : k < n) : (marksY k0 n)[k]? = some (k0 + (k : Int) * 2, k0 + (k : Int) * 2 + 1) := by simp [marksY, h]
def marksV (k0 : Int) (n : Nat) : List VV := (List.range n).map fun (k : Nat) => (k0 + (k : Int) * 3, k0 + (k : Int) * 3 + 1, m3 (k0 + (k : Int) * 3 + 1 + 1))
theorem marksV_len (k0 : Int) (n : Nat) : (marksV k0 n).length = n := by simp [marksV]
theorem marksV_get {k0 : Int} {n k : Nat} (h : k < n) : (marksV k0 n)[k]? = some (k0 + (k : Int) * 3, k0 + (k : Int) * 3 + 1, m3 (k0 + (k : Int) * 3 + 1 + 1)) := by simp [marksV, h]
def marksB (k0 : Int) (n : Nat) : List Bool := (List.range n).map fun (k : Nat) => (m3 (k0 + (k : Int)))
theorem marksB_len (k0 : Int) (n : Nat) : (marksB k0 n).length = n := by simp [marksB]
theorem marksB_get {k0 : Int} {n k : Nat} (h : k < n) : (marksB k0 n)[k]? = some (m3 (k0 + (k : Int))) := by simp [marksB, h]
end Go.Proofs.YtihpajiololfoaaGreat
namespace Go.Proofs.YtihpajiololfoaaGreat
open Go.RowKit

/-- The inner rows of a row of rows: each is of our own, no two share a block. -/
def Inn (w : World) (base : Nat) (vs : List Value) (ls : List (List Y)) : Prop :=
 vs.length = ls.length ∧ (∀ (i : Nat) (v : Value) (l : List Y), vs[i]? = some v → ls[i]? = some l → Own eY 49 w base v l) ∧
 (∀ (i j : Nat) (v u : Value) (q : Nat), vs[i]? = some v → vs[j]? = some u → v.ownBlock = some q → u.ownBlock = some q → i = j)
theorem Inn.nil (w : World) (base : Nat) : Inn w base [] [] := ⟨rfl, fun i v l h => by simp at h, fun i j v u q h => by simp at h⟩
theorem Inn.mono {w : World} {base base' : Nat} {vs : List Value} {ls : List (List Y)} (h : Inn w base vs ls) (hb : base' ≤ base) : Inn w base' vs ls :=
 ⟨h.1, fun i v l h1 h2 => (h.2.1 i v l h1 h2).mono hb, h.2.2⟩
theorem Inn.keptBy {w w' : World} {base : Nat} {vs : List Value} {ls : List (List Y)} (h : Inn w base vs ls) {row : Option Nat} (hg : w.grownBy w' row) (hr : ∀ q cur, row = some q → w.heap[q]? ≠ some (.cells cur 49 (0, 0))) : Inn w' base vs ls :=
 ⟨h.1, fun i v l h1 h2 => (h.2.1 i v l h1 h2).keptBy hg fun q hq e => by
  obtain ⟨cur, hc⟩ := (h.2.1 i v l h1 h2).block hq
  exact hr q cur e hc, h.2.2⟩
theorem Inn.below {w w' : World} {base : Nat} {vs : List Value} {ls : List (List Y)} (h : Inn w base vs ls) (hb : Below w.heap.size w w') : Inn w' base vs ls :=
 ⟨h.1, fun i v l h1 h2 => (h.2.1 i v l h1 h2).below hb, h.2.2⟩
theorem Inn.lt {w : World} {base : Nat} {vs : List Value} {ls : List (List Y)} (h : Inn w base vs ls) {i : Nat} {v : Value} (hv : vs[i]? = some v) {q : Nat} (hq : v.ownBlock = some q) : base ≤ q ∧ q < w.heap.size := by
 obtain ⟨l, hl⟩ : ∃ l, ls[i]? = some l := ⟨_, List.getElem?_eq_getElem (by rw [← h.1]; exact (List.getElem?_eq_some_iff.1 hv).1)⟩
 exact (h.2.1 i v l hv hl).lt hq
/-- One row more, whose block lies beyond all of the others. -/
theorem Inn.snoc {w : World} {base n0 : Nat} {vs : List Value} {ls : List (List Y)} (h : Inn w base vs ls) (hlt : ∀ (i : Nat) (v : Value) (q : Nat), vs[i]? = some v → v.ownBlock = some q → q < n0) (hb : base ≤ n0) {v : Value} {l : List Y} (ho : Own eY 49 w n0 v l) : Inn w base (vs ++ [v]) (ls ++ [l]) := by
 refine ⟨by simp [h.1], fun i u m h1 h2 => ?_, fun i j u x q h1 h2 h3 h4 => ?_⟩
 ·rw [List.getElem?_append] at h1 h2
  rw [h.1] at h1
  split at h1
  ·rename_i hlt'
   rw [if_pos hlt'] at h2
   exact h.2.1 i u m h1 h2
  ·rename_i hlt'
   rw [if_neg hlt'] at h2
   obtain ⟨e, e2⟩ := List.getElem?_eq_some_iff.1 h1
   obtain ⟨e', e2'⟩ := List.getElem?_eq_some_iff.1 h2
   simp at e2 e2'
   subst e2 e2'
   exact ho.mono hb
 ·rw [List.getElem?_append] at h1 h2
  split at h1 <;> split at h2
  ·exact h.2.2 i j u x q h1 h2 h3 h4
  ·obtain ⟨e, e2⟩ := List.getElem?_eq_some_iff.1 h2
   simp at e2
   subst e2
   have := hlt i u q h1 h3
   have := (ho.lt h4).1
   omega
  ·obtain ⟨e, e2⟩ := List.getElem?_eq_some_iff.1 h1
   simp at e2
   subst e2
   have := hlt j x q h2 h4
   have := (ho.lt h3).1
   omega
  ·obtain ⟨e, _⟩ := List.getElem?_eq_some_iff.1 h1
   obtain ⟨e', _⟩ := List.getElem?_eq_some_iff.1 h2
   simp at e e'
   omega
/-- One of the rows is written. -/
theorem Inn.wrote {w w' : World} {base : Nat} {vs : List Value} {ls : List (List Y)} (h : Inn w base vs ls) {j : Nat} {v : Value} (hv : vs[j]? = some v) {l : List Y} (ho : Own eY 49 w' base v l) (hg : w.grownBy w' v.ownBlock) : Inn w' base vs (ls.set j l) := by
 refine ⟨by simp [h.1], fun i u m h1 h2 => ?_, h.2.2⟩
 rw [List.getElem?_set] at h2
 split at h2
 ·rename_i e
  subst e
  split at h2
  ·simp at h2
   subst h2
   rw [hv] at h1
   simp at h1
   subst h1
   exact ho
  ·simp at h2
 ·rename_i e
  refine (h.2.1 i u m h1 h2).keptBy hg fun q hq hr => e ?_
  exact h.2.2 j i v u q hv h1 hr hq
/-- A slice of slices of our own. -/
def OwnYY (w : World) (base : Nat) (v : Value) (ls : List (List Y)) : Prop := ∃ vs, w.ownsRow base 113 1 v ls.length vs ∧ Inn w base vs ls
theorem OwnYY.below {w w' : World} {base : Nat} {v : Value} {ls : List (List Y)} (h : OwnYY w base v ls) (hb : Below w.heap.size w w') : OwnYY w' base v ls := by
 obtain ⟨vs, h1, h2⟩ := h
 exact ⟨vs, owns_below h1 hb, h2.below hb⟩
theorem OwnYY.mono {w : World} {base base' : Nat} {v : Value} {ls : List (List Y)} (h : OwnYY w base v ls) (hb : base' ≤ base) : OwnYY w base' v ls := by
 obtain ⟨vs, h1, h2⟩ := h
 exact ⟨vs, World.ownsRow.mono h1 hb, h2.mono hb⟩
theorem OwnYY.nil (w : World) (base : Nat) : OwnYY w base (.slice none 0 0) [] := ⟨[], ⟨rfl, .inl ⟨rfl, rfl⟩⟩, Inn.nil _ _⟩
theorem OwnYY.fresh {w' : World} {g base : Nat} (hb : base ≤ g) (hg : w'.heap[g]? = some (.cells #[] 113 (0, 0))) : OwnYY w' base (.slice (some ⟨g, 0, none⟩) 0 0) [] :=
 ⟨[], ⟨rfl, .inr ⟨g, 0, #[], rfl, hb, hg, Nat.le_refl _, by unfold maxLen; omega, rfl, rfl⟩⟩, Inn.nil _ _⟩
/-- Rows that lie somewhere, to be read. -/
def BndsAt (w : World) (a : Option Addr) (ls : List (List Y)) : Prop := ls = [] ∨ ∃ b o, a = some ⟨b, o, none⟩ ∧ ∀ (i : Nat) (l : List Y), ls[i]? = some l → ∃ ao cap, w.cell? ⟨b, o + i, none⟩ = some (.slice ao l.length cap) ∧ At eY w ao l
theorem OwnYY.at {w : World} {base : Nat} {ao : Option Addr} {n cap : Nat} {ls : List (List Y)} (h : OwnYY w base (.slice ao n cap) ls) : BndsAt w ao ls := by
 obtain ⟨vs, h1, h2⟩ := h
 rcases h1.2 with ⟨e, h0⟩ | ⟨g, cap', cur, e, _⟩
 ·exact .inl (List.length_eq_zero_iff.1 h0)
 ·simp at e
  obtain ⟨rfl, rfl, rfl⟩ := e
  refine .inr ⟨g, 0, rfl, fun i l hl => ?_⟩
  have hi := (List.getElem?_eq_some_iff.1 hl).1
  obtain ⟨v, hv⟩ : ∃ v, vs[i]? = some v := ⟨_, List.getElem?_eq_getElem (by rw [h2.1]; exact hi)⟩
  have ho := h2.2.1 i v l hv hl
  obtain ⟨ao, cp, rfl⟩ := ho.form
  refine ⟨ao, cp, ?_, ho.at⟩
  rw [Nat.zero_add, World.ownsRow.cellAt h1 i (by omega), hv]
/-- Nothing has turned but blocks from lo on and below hi. -/
structure Outs (lo hi : Nat) (w w' : World) : Prop where
 os : w'.os = w.os
 tape : w'.tape = w.tape
 output : w'.output = w.output
 size : w.heap.size ≤ w'.heap.size
 block : ∀ k, k < w.heap.size → (k < lo ∨ hi ≤ k) → w'.heap[k]? = w.heap[k]?
theorem Outs.refl (lo hi : Nat) (w : World) : Outs lo hi w w := ⟨rfl, rfl, rfl, Nat.le_refl _, fun _ _ _ => rfl⟩
theorem Outs.trans {lo hi : Nat} {a b c : World} (h : Outs lo hi a b) (k : Outs lo hi b c) : Outs lo hi a c :=
 ⟨k.os.trans h.os, k.tape.trans h.tape, k.output.trans h.output, Nat.le_trans h.size k.size, fun i h1 h2 => (k.block i (Nat.lt_of_lt_of_le h1 h.size) h2).trans (h.block i h1 h2)⟩
theorem Outs.grown {lo hi : Nat} {a b c : World} (h : Outs lo hi a b) {row : Option Nat} (g : b.grownBy c row) (hr : ∀ q, row = some q → lo ≤ q ∧ q < hi) : Outs lo hi a c :=
 h.trans ⟨g.os, g.tape, g.output, g.size, fun i h1 h2 => g.block i h1 fun e => by have := hr i e.symm; omega⟩
theorem Outs.step {lo hi : Nat} {a b c : World} (h : Outs lo hi a b) (g : Below b.heap.size b c) : Outs lo hi a c :=
 h.trans ⟨g.os, g.tape, g.output, g.size, fun i h1 _ => g.block i h1⟩
theorem Outs.below {lo hi B : Nat} {a b c : World} (h : Below B a b) (g : Outs lo hi b c) (hB : B ≤ lo) (hs : B ≤ a.heap.size) : Below B a c :=
 ⟨g.os.trans h.os, g.tape.trans h.tape, g.output.trans h.output, Nat.le_trans h.size g.size, fun i hi => (g.block i (Nat.lt_of_lt_of_le (Nat.lt_of_lt_of_le hi hs) h.size) (.inl (by omega))).trans (h.block i hi)⟩
/-- Nothing has turned but rows of elements of type T. -/
def Keeps (T : TypeId) (w w' : World) : Prop := ∀ (q : Nat) (o : Obj), w.heap[q]? = some o → (∀ cur fz, o ≠ .cells cur T fz) → w'.heap[q]? = some o
theorem Keeps.refl (T : TypeId) (w : World) : Keeps T w w := fun _ _ h _ => h
theorem Keeps.trans {T : TypeId} {a b c : World} (h : Keeps T a b) (k : Keeps T b c) : Keeps T a c := fun q o h1 h2 => k q o (h q o h1 h2) h2
theorem Keeps.grown {T : TypeId} {a b : World} {row : Option Nat} (g : a.grownBy b row) (hr : ∀ q, row = some q → ∃ cur fz, a.heap[q]? = some (.cells cur T fz)) : Keeps T a b := fun q o h1 h2 => by
 have hlt : q < a.heap.size := by
  rcases Nat.lt_or_ge q a.heap.size with h | h
  ·exact h
  ·rw [Array.getElem?_eq_none h] at h1; cases h1
 rw [g.block q hlt ?_, h1]
 intro e
 obtain ⟨cur, fz, h3⟩ := hr q e.symm
 rw [h3] at h1
 exact h2 cur fz (Option.some.inj h1).symm
theorem Keeps.below {T : TypeId} {a b : World} (g : Below a.heap.size a b) : Keeps T a b := fun q o h1 _ => by
 have hlt : q < a.heap.size := by
  rcases Nat.lt_or_ge q a.heap.size with h | h
  ·exact h
  ·rw [Array.getElem?_eq_none h] at h1; cases h1
 rw [g.block q hlt, h1]
theorem owns_keeps {w w' : World} {base e size n : Nat} {v : Value} {xs : List Value} (h : w.ownsRow base e size v n xs) {T : TypeId} (hk : Keeps T w w') (hT : e ≠ T) : w'.ownsRow base e size v n xs := by
 refine ⟨h.1, ?_⟩
 rcases h.2 with ⟨e, h0⟩ | ⟨g, cap, cur, e, h1, h2, h3⟩
 ·exact .inl ⟨e, h0⟩
 ·exact .inr ⟨g, cap, cur, e, h1, hk g _ h2 (fun cur fz e2 => by cases e2; exact hT rfl), h3⟩
/-- Rows of terms of our own, all of whose blocks lie below hi. -/
def OwnT (w : World) (lo hi : Nat) (v : Value) (ls : List (List Y)) : Prop :=
 ∃ vs, w.ownsRow lo 113 1 v ls.length vs ∧ Inn w lo vs ls ∧ (∀ q, v.ownBlock = some q → q < hi) ∧ ∀ (i : Nat) (u : Value) (q : Nat), vs[i]? = some u → u.ownBlock = some q → q < hi
theorem OwnYY.top {w : World} {lo : Nat} {v : Value} {ls : List (List Y)} (h : OwnYY w lo v ls) : OwnT w lo w.heap.size v ls := by
 obtain ⟨vs, h1, h2⟩ := h
 exact ⟨vs, h1, h2, fun q hq => (World.ownsRow.lt h1 q hq).2, fun i u q hu hq => (h2.lt hu hq).2⟩
theorem OwnT.own {w : World} {lo hi : Nat} {v : Value} {ls : List (List Y)} (h : OwnT w lo hi v ls) : OwnYY w lo v ls := by
 obtain ⟨vs, h1, h2, _⟩ := h
 exact ⟨vs, h1, h2⟩
theorem OwnT.below {w w' : World} {lo hi : Nat} {v : Value} {ls : List (List Y)} (h : OwnT w lo hi v ls) (hb : Below w.heap.size w w') : OwnT w' lo hi v ls := by
 obtain ⟨vs, h1, h2, h3⟩ := h
 exact ⟨vs, owns_below h1 hb, h2.below hb, h3⟩
/-- What turns lies elsewhere. -/
theorem owns_outs {w w' : World} {base e size n : Nat} {v : Value} {xs : List Value} (h : w.ownsRow base e size v n xs) {lo hi : Nat} (ho : Outs lo hi w w') (hv : ∀ q, v.ownBlock = some q → q < lo ∨ hi ≤ q) : w'.ownsRow base e size v n xs := by
 refine ⟨h.1, ?_⟩
 rcases h.2 with ⟨e, h0⟩ | ⟨g, cap, cur, e, h1, h2, h3⟩
 ·exact .inl ⟨e, h0⟩
 ·refine .inr ⟨g, cap, cur, e, h1, ?_, h3⟩
  have hlt : g < w.heap.size := by
   rcases Nat.lt_or_ge g w.heap.size with h | h
   ·exact h
   ·rw [Array.getElem?_eq_none h] at h2; cases h2
  rw [ho.block g hlt (hv g (by rw [e]; rfl)), h2]
theorem OwnT.outs {w w' : World} {a b : Nat} {v : Value} {ls : List (List Y)} (h : OwnT w a b v ls) {lo hi : Nat} (ho : Outs lo hi w w') (hd : b ≤ lo ∨ hi ≤ a) : OwnT w' a b v ls := by
 obtain ⟨vs, h1, h2, h3, h4⟩ := h
 refine ⟨vs, owns_outs h1 ho fun q hq => ?_, ⟨h2.1, fun i u l hu hl => owns_outs (h2.2.1 i u l hu hl) ho fun q hq => ?_, h2.2.2⟩, h3, h4⟩
 ·have := (World.ownsRow.lt h1 q hq).1
  have := h3 q hq
  omega
 ·have := (h2.lt hu hq).1
  have := h4 i u q hu hq
  omega
theorem OwnT.keeps {w w' : World} {lo hi : Nat} {v : Value} {ls : List (List Y)} (h : OwnT w lo hi v ls) {T : TypeId} (hk : Keeps T w w') (h1 : T ≠ 113) (h2 : T ≠ 49) : OwnT w' lo hi v ls := by
 obtain ⟨vs, a, b, c⟩ := h
 exact ⟨vs, owns_keeps a hk h1.symm, ⟨b.1, fun i u l hu hl => owns_keeps (b.2.1 i u l hu hl) hk h2.symm, b.2.2⟩, c⟩
theorem OwnT.at {w : World} {lo hi : Nat} {ao : Option Addr} {n cap : Nat} {ls : List (List Y)} (h : OwnT w lo hi (.slice ao n cap) ls) : BndsAt w ao ls := h.own.at
/-- What is counted up by the marks. -/
def tot : List (List Y) → Nat
 | [] => 0
 | l :: ls => l.length + tot ls
def marksYY : Int → List (List Y) → List (List Y)
 | _, [] => []
 | k, l :: ls => marksY k l.length :: marksYY (k + (l.length : Int) * 2) ls
theorem marksYY_len : ∀ (k : Int) (ls : List (List Y)), (marksYY k ls).length = ls.length
 | _, [] => rfl
 | k, l :: ls => by simp [marksYY, marksYY_len]
theorem tot_append : ∀ (a b : List (List Y)), tot (a ++ b) = tot a + tot b
 | [], b => by simp [tot]
 | l :: a, b => by simp only [List.cons_append, tot, tot_append a b]; omega
theorem marksYY_append : ∀ (k : Int) (a b : List (List Y)), marksYY k (a ++ b) = marksYY k a ++ marksYY (k + (tot a : Int) * 2) b
 | k, [], b => by simp [marksYY, tot]
 | k, l :: a, b => by
  simp only [List.cons_append, marksYY, marksYY_append (k + (l.length : Int) * 2) a b, tot]
  rw [show k + (l.length : Int) * 2 + (tot a : Int) * 2 = k + ((l.length + tot a : Nat) : Int) * 2 by omega]
theorem take_snoc {α : Type} {ls : List α} {j : Nat} {l : α} (h : ls[j]? = some l) : ls.take (j + 1) = ls.take j ++ [l] := by
 rw [List.take_add_one, h]; rfl
theorem tot_take_succ {ls : List (List Y)} {j : Nat} {l : List Y} (h : ls[j]? = some l) : tot (ls.take (j + 1)) = tot (ls.take j) + l.length := by
 rw [take_snoc h, tot_append]
 simp [tot]
theorem tot_take_le (ls : List (List Y)) (j : Nat) : tot (ls.take j) ≤ tot ls := by
 have := tot_append (ls.take j) (ls.drop j)
 rw [List.take_append_drop] at this
 omega
/-- The rows, the first j of which are marked. -/
def partYY (k : Int) (ls : List (List Y)) (j : Nat) : List (List Y) := marksYY k (ls.take j) ++ ls.drop j
theorem partYY_zero (k : Int) (ls : List (List Y)) : partYY k ls 0 = ls := by simp [partYY, marksYY]
theorem partYY_all (k : Int) (ls : List (List Y)) : partYY k ls ls.length = marksYY k ls := by simp [partYY]
theorem partYY_get {k : Int} {ls : List (List Y)} {j : Nat} {l : List Y} (h : ls[j]? = some l) : (partYY k ls j)[j]? = some l := by
 have hj := (List.getElem?_eq_some_iff.1 h).1
 unfold partYY
 rw [List.getElem?_append_right (by rw [marksYY_len]; simp; omega), marksYY_len]
 simp only [List.length_take, List.getElem?_drop]
 rw [show j + (j - min j ls.length) = j by omega, h]
theorem partYY_set {k : Int} {ls : List (List Y)} {j : Nat} {l : List Y} (h : ls[j]? = some l) : (partYY k ls j).set j (marksY (k + (tot (ls.take j) : Int) * 2) l.length) = partYY k ls (j + 1) := by
 have hj := (List.getElem?_eq_some_iff.1 h).1
 have hd : ls.drop j = l :: ls.drop (j + 1) := by
  rw [List.drop_eq_getElem_cons hj, (List.getElem?_eq_some_iff.1 h).2]
 unfold partYY
 rw [take_snoc h, marksYY_append, List.set_append_right _ _ (by rw [marksYY_len]; simp; omega), marksYY_len, hd]
 simp only [List.length_take, marksYY, List.append_assoc]
 rw [show j - min j ls.length = 0 by omega]
 rfl
theorem marksYY_get {k : Int} {ls : List (List Y)} {j : Nat} {l : List Y} (h : ls[j]? = some l) : (marksYY k ls)[j]? = some (marksY (k + (tot (ls.take j) : Int) * 2) l.length) := by
 have hj := (List.getElem?_eq_some_iff.1 h).1
 have e : ls = ls.take j ++ (l :: ls.drop (j + 1)) := by
  have hd : ls.drop j = l :: ls.drop (j + 1) := by
   rw [List.drop_eq_getElem_cons hj, (List.getElem?_eq_some_iff.1 h).2]
  rw [← hd, List.take_append_drop]
 have e2 : marksYY k ls = marksYY k (ls.take j) ++ marksYY (k + (tot (ls.take j) : Int) * 2) (l :: ls.drop (j + 1)) := by
  rw [← marksYY_append, ← e]
 rw [e2, List.getElem?_append_right (by rw [marksYY_len]; simp; omega), marksYY_len]
 simp only [List.length_take, marksYY]
 rw [show j - min j ls.length = 0 by omega]
 rfl
theorem tot_flatten (ls : List (List Y)) : tot ls = ls.flatten.length := by
 induction ls with
 | nil => rfl
 | cons l ls ih => simp only [tot, ih, List.flatten_cons, List.length_append]
theorem tot_get {ls : List (List Y)} {j : Nat} {l : List Y} (h : ls[j]? = some l) : l.length ≤ tot ls := by
 have h1 := tot_take_succ h
 have h2 := tot_take_le ls (j + 1)
 omega
theorem BndsAt.below {w w' : World} {a : Option Addr} {ls : List (List Y)} (h : BndsAt w a ls) (hb : Below w.heap.size w w') : BndsAt w' a ls := by
 rcases h with h | ⟨b, o, e, h⟩
 ·exact .inl h
 ·refine .inr ⟨b, o, e, fun i l hl => ?_⟩
  obtain ⟨ao, cap, h1, h2⟩ := h i l hl
  exact ⟨ao, cap, (hb.cell (p := ⟨b, o + i, none⟩) (World.block_lt_of_cell? w _ h1)).trans h1, h2.below hb⟩
theorem BndsAt.cons {w : World} {a : Option Addr} {ls : List (List Y)} (h : BndsAt w a ls) (hn : 0 < ls.length) : ∃ b o, a = some ⟨b, o, none⟩ ∧ b < w.heap.size ∧ ∀ (i : Nat) (l : List Y), ls[i]? = some l → ∃ ao cap, w.cell? ⟨b, o + i, none⟩ = some (.slice ao l.length cap) ∧ At eY w ao l := by
 rcases h with rfl | ⟨b, o, e, h⟩
 ·simp at hn
 ·refine ⟨b, o, e, ?_, h⟩
  obtain ⟨x, hx⟩ : ∃ x, ls[0]? = some x := ⟨_, List.getElem?_eq_getElem hn⟩
  obtain ⟨_, _, h1, _⟩ := h 0 x hx
  exact World.block_lt_of_cell? w _ h1
end Go.Proofs.YtihpajiololfoaaGreat
