/-
  ROWS IN MEMORY of elements of some cells each: to be read (At), of one's own (Own); CONTRACTS of between.
-/
import Derived.Test.YtaekcmbjcfpigaaRows
import Derived.WalkKit
import Derived.WalkSpells
import Derived.WalkLawsBesides
import Derived.Deep.RegionHeld3
import Derived.Deep.RegionWith
import Derived.Below
import Derived.ChangeOld
import Derived.Deep.AppendLies
import Derived.Deep.Onto
import Derived.Deep.QuietTactic
import Derived.BigQuiet
import Derived.Deep.LoopGhost
namespace Go.Proofs.Ytaekcmbjcfpigaa
open Go.RowKit

theorem mkHid {p : Prop} (h : p) : Hid p := h
def btw (a lo hi : Int) : Bool := decide (lo ≤ a ∧ a ≤ hi)
theorem ret_bool {a b : Bool} (h : a = b) : Ending.returned (.bool a) = .returned (.bool b) := by rw [h]
theorem ret_int {k : IntKind} {a b : Int} (h : a = b) : Ending.returned (.int k a) = .returned (.int k b) := by rw [h]
theorem bcell {W w1 : World} (hb : Below W.heap.size W w1) : (∀ b o, b < W.heap.size → w1.cell? ⟨b, o, none⟩ = W.cell? ⟨b, o, none⟩) ∧ (∀ b o, b < W.heap.size → w1.frozen? ⟨b, o, none⟩ = W.frozen? ⟨b, o, none⟩) :=
  ⟨fun b o h => hb.cell (p := ⟨b, o, none⟩) h, fun b o h => hb.frozen (p := ⟨b, o, none⟩) h⟩

theorem between_any (a lo hi : Int) (w : World) : Calls Try.prog 14 #[.int .i64 a, .int .i64 lo, .int .i64 hi] w fun e w' => e = .returned (.bool (btw a lo hi)) ∧ w = w' := by
  unfold btw
  go_enter Try.func14, Try.ntmps14
  go_wp2
  all_goals (go_ret; exact ⟨ret_bool (by simp_all <;> omega), rfl⟩)
theorem isBetween_any (a lo hi : Int) (w : World) : Calls Try.prog 25 #[.int .i64 a, .int .i64 lo, .int .i64 hi] w fun e w' => e = .returned (.bool (btw a lo hi)) ∧ w = w' := by
  unfold btw
  go_enter Try.func25, Try.ntmps25
  go_wp2
  all_goals (go_ret; exact ⟨ret_bool (by simp_all <;> omega), rfl⟩)
theorem below_step {w a b : World} (h : Below w.heap.size w a) (hb : Below a.heap.size a b) : Below w.heap.size w b := h.trans (hb.mono h.size)
theorem bl_alloc {w a : World} (h : Below w.heap.size w a) (o : Obj) : Below w.heap.size w (a.alloc o) := h.alloc h.size o
theorem bl_set {w a : World} {p : Addr} (h : Below w.heap.size w a) (hp : w.heap.size ≤ p.block) (u : Value) : Below w.heap.size w (a.setCell p u) := h.setCell hp u
theorem bl_drew {w a : World} (h : Below w.heap.size w a) : Below w.heap.size w a.drew := h.drew

theorem bcell4 {W w1 : World} (hb : Below W.heap.size W w1) : (∀ b o, b < W.heap.size → w1.cell? ⟨b, o, none⟩ = W.cell? ⟨b, o, none⟩) ∧ (∀ b o, b < W.heap.size → w1.frozen? ⟨b, o, none⟩ = W.frozen? ⟨b, o, none⟩) ∧ (∀ b, b < W.heap.size → b < w1.heap.size) ∧ (∀ b, b ≤ W.heap.size → b ≤ w1.heap.size) :=
  ⟨fun b o h => hb.cell (p := ⟨b, o, none⟩) h, fun b o h => hb.frozen (p := ⟨b, o, none⟩) h, fun _ h => Nat.lt_of_lt_of_le h hb.size, fun _ h => Nat.le_trans h hb.size⟩
theorem nlt2 (n : Nat) : n < n + 1 + 1 := by omega
theorem nlt3 (n : Nat) : n < n + 1 + 1 + 1 := by omega
theorem nlt4 (n : Nat) : n < n + 1 + 1 + 1 + 1 := by omega
theorem nle2 (n : Nat) : n ≤ n + 1 + 1 := by omega
theorem nle3 (n : Nat) : n ≤ n + 1 + 1 + 1 := by omega
theorem nle4 (n : Nat) : n ≤ n + 1 + 1 + 1 + 1 := by omega
theorem drew_size (w : World) : w.drew.heap.size = w.heap.size := rfl
theorem bdrew {W w1 : World} (h : Below W.drew.heap.size W.drew w1) : Below W.heap.size W w1 := ⟨h.os, h.tape, h.output, h.size, h.block⟩
theorem below_drew (W w1 : World) : Below W.drew.heap.size W.drew w1 = Below W.heap.size W w1 := propext ⟨bdrew, fun h => ⟨h.os, h.tape, h.output, h.size, h.block⟩⟩
theorem drew_cell (w : World) (a : Addr) : w.drew.cell? a = w.cell? a := rfl
theorem drew_frozen (w : World) (a : Addr) : w.drew.frozen? a = w.frozen? a := rfl

/-- A kind of element: its cells. -/
structure El (α : Type) where
  enc : α → List Value
  k : Nat
  pos : 0 < k
  len : ∀ x, (enc x).length = k
variable {α : Type}
def El.flat (E : El α) (l : List α) : List Value := l.flatMap E.enc
theorem El.flat_nil (E : El α) : E.flat [] = [] := rfl
theorem El.flat_app (E : El α) (a b : List α) : E.flat (a ++ b) = E.flat a ++ E.flat b := by simp [El.flat]
theorem El.flat_cons (E : El α) (x : α) (l : List α) : E.flat (x :: l) = E.enc x ++ E.flat l := by simp [El.flat]
theorem El.flat_len (E : El α) (l : List α) : (E.flat l).length = l.length * E.k := by
  induction l with
  | nil => simp [El.flat]
  | cons x l ih => rw [El.flat_cons, List.length_append, E.len, ih, List.length_cons, Nat.add_mul]; omega
theorem split_at {l : List α} {i : Nat} {x : α} (h : l[i]? = some x) : l = l.take i ++ x :: l.drop (i + 1) ∧ (l.take i).length = i := by
  obtain ⟨hi, rfl⟩ := List.getElem?_eq_some_iff.1 h
  exact ⟨by rw [← List.drop_eq_getElem_cons hi, List.take_append_drop], by simp; omega⟩
theorem El.flat_get (E : El α) {l : List α} {i : Nat} {x : α} (h : l[i]? = some x) {j : Nat} (hj : j < E.k) : (E.flat l)[i * E.k + j]? = (E.enc x)[j]? := by
  obtain ⟨e, hl⟩ := split_at h
  have e2 : E.flat l = E.flat (l.take i) ++ (E.enc x ++ E.flat (l.drop (i + 1))) := by
    conv => lhs; rw [e]
    rw [El.flat_app, El.flat_cons]
  have e3 : (E.flat (l.take i)).length = i * E.k := by rw [El.flat_len, hl]
  rw [e2, List.getElem?_append_right (by omega), e3, show i * E.k + j - i * E.k = j by omega, List.getElem?_append_left (by rw [E.len]; exact hj)]
theorem El.flat_take (E : El α) (l : List α) (i : Nat) : (E.flat l).take (i * E.k) = E.flat (l.take i) := by
  by_cases h : i ≤ l.length
  · have e : E.flat l = E.flat (l.take i) ++ E.flat (l.drop i) := by rw [← El.flat_app, List.take_append_drop]
    rw [e, List.take_left']
    rw [El.flat_len, List.length_take, Nat.min_eq_left h]
  · rw [List.take_of_length_le (l := l) (by omega), List.take_of_length_le]
    rw [El.flat_len]
    exact Nat.mul_le_mul_right _ (by omega)
/-- The elements lie from an address on, to be read. -/
def At (E : El α) (w : World) (a : Option Addr) (l : List α) : Prop := l = [] ∨ ∃ b o, a = some ⟨b, o, none⟩ ∧ ∀ (i : Nat) (x : α), l[i]? = some x → ∀ (j : Nat) (v : Value), (E.enc x)[j]? = some v → w.cell? ⟨b, o + i * E.k + j, none⟩ = some v
theorem At.below {E : El α} {w w' : World} {a : Option Addr} {l : List α} (h : At E w a l) (hb : Below w.heap.size w w') : At E w' a l := by
  rcases h with h | ⟨b, o, e, h⟩
  · exact .inl h
  · refine .inr ⟨b, o, e, fun i x hx j v hv => ?_⟩
    have h1 := h i x hx j v hv
    exact (hb.cell (p := ⟨b, o + i * E.k + j, none⟩) (World.block_lt_of_cell? w _ h1)).trans h1
theorem At.nil (E : El α) (w : World) (a : Option Addr) : At E w a [] := .inl rfl
theorem At.cons {E : El α} {w : World} {a : Option Addr} {l : List α} (h : At E w a l) (hn : 0 < l.length) : ∃ b o, a = some ⟨b, o, none⟩ ∧ b < w.heap.size ∧ ∀ (i : Nat) (x : α), l[i]? = some x → ∀ (j : Nat) (v : Value), (E.enc x)[j]? = some v → w.cell? ⟨b, o + i * E.k + j, none⟩ = some v := by
  rcases h with rfl | ⟨b, o, e, h⟩
  · simp at hn
  · refine ⟨b, o, e, ?_, h⟩
    obtain ⟨x0, hx⟩ : ∃ x, l[0]? = some x := ⟨_, List.getElem?_eq_getElem hn⟩
    have hp := E.pos
    have hq := E.len x0
    obtain ⟨v0, hj⟩ : ∃ v, (E.enc x0)[0]? = some v := ⟨_, List.getElem?_eq_getElem (by omega)⟩
    exact World.block_lt_of_cell? w _ (h 0 _ hx 0 _ hj)
/-- A slice of our own that holds these elements. -/
def Own (E : El α) (T : TypeId) (w : World) (base : Nat) (v : Value) (l : List α) : Prop := w.ownsRow base T E.k v l.length (E.flat l)
section
variable {E : El α} {T : TypeId} {w w' : World} {base base' : Nat} {v : Value} {l : List α}
theorem owns_below {w w' : World} {base e size n : Nat} {v : Value} {xs : List Value} (h : w.ownsRow base e size v n xs) (hb : Below w.heap.size w w') : w'.ownsRow base e size v n xs :=
  h.kept (row := none) ⟨hb.os, hb.tape, hb.output, hb.size, fun k hk _ => hb.block k hk⟩ (by cases v.ownBlock <;> simp)
theorem Own.below (h : Own E T w base v l) (hb : Below w.heap.size w w') : Own E T w' base v l := owns_below h hb
theorem Own.mono (h : Own E T w base v l) (hb : base' ≤ base) : Own E T w base' v l := World.ownsRow.mono h hb
theorem Own.form (h : Own E T w base v l) : ∃ ao cap, v = .slice ao l.length cap := by
  rcases h.2 with ⟨rfl, h0⟩ | ⟨g, cap, cur, rfl, _⟩
  · exact ⟨none, 0, by rw [h0]⟩
  · exact ⟨_, _, rfl⟩
theorem Own.form2 (h : Own E T w base v l) : ∃ ao cap, v = .slice ao l.length cap ∧ l.length ≤ cap ∧ cap ≤ maxLen := by
  rcases h.2 with ⟨rfl, h0⟩ | ⟨g, cap, cur, rfl, _, _, h1, h2, _⟩
  · exact ⟨none, 0, by rw [h0], by omega, by unfold maxLen; omega⟩
  · exact ⟨_, _, rfl, h1, h2⟩
theorem Own.nil (E : El α) (T : TypeId) (w : World) (base : Nat) : Own E T w base (.slice none 0 0) [] := ⟨by simp [El.flat], .inl ⟨rfl, rfl⟩⟩
theorem Own.lt (h : Own E T w base v l) {q : Nat} (hq : v.ownBlock = some q) : base ≤ q ∧ q < w.heap.size := World.ownsRow.lt h q hq
theorem Own.block (h : Own E T w base v l) {q : Nat} (hq : v.ownBlock = some q) : ∃ cur, w.heap[q]? = some (.cells cur T (0, 0)) := by
  rcases h.2 with ⟨rfl, _⟩ | ⟨g, cap, cur, rfl, _, hg, _⟩
  · simp [Value.ownBlock] at hq
  · simp [Value.ownBlock] at hq
    subst hq
    exact ⟨cur, hg⟩
theorem Own.keptBy (h : Own E T w base v l) {row : Option Nat} (hg : w.grownBy w' row) (hr : ∀ q, v.ownBlock = some q → row ≠ some q) : Own E T w' base v l := by
  refine World.ownsRow.kept h hg ?_
  rcases h.2 with ⟨rfl, _⟩ | ⟨g, cap, cur, rfl, _, _, _⟩
  · exact .inl rfl
  · exact .inr fun e => hr g rfl (by rw [← e]; rfl)
theorem Own.at {ao : Option Addr} {n cap : Nat} (h : Own E T w base (.slice ao n cap) l) : At E w ao l := by
  rcases h.2 with ⟨e, h0⟩ | ⟨g, cap', cur, e, _⟩
  · exact .inl (List.length_eq_zero_iff.1 h0)
  · simp at e
    obtain ⟨rfl, rfl, rfl⟩ := e
    refine .inr ⟨g, 0, rfl, fun i x hx j v hv => ?_⟩
    have hi := (List.getElem?_eq_some_iff.1 hx).1
    have hj : j < E.k := by have := (List.getElem?_eq_some_iff.1 hv).1; rwa [E.len] at this
    have hlt : i * E.k + j < l.length * E.k := by
      have : (i + 1) * E.k ≤ l.length * E.k := Nat.mul_le_mul_right _ hi
      rw [Nat.add_mul] at this; omega
    rw [Nat.zero_add, World.ownsRow.cellAt h _ hlt, E.flat_get hx hj, hv]
end
theorem grown_trans {a b c : World} {r : Option Nat} (h : a.grownBy b r) (k : b.grownBy c r) : a.grownBy c r :=
  ⟨k.os.trans h.os, k.tape.trans h.tape, k.output.trans h.output, Nat.le_trans h.size k.size, fun i hi hne => (k.block i (Nat.lt_of_lt_of_le hi h.size) hne).trans (h.block i hi hne)⟩
theorem grown_below {a b : World} {r : Option Nat} (h : Below a.heap.size a b) : a.grownBy b r := ⟨h.os, h.tape, h.output, h.size, fun i hi _ => h.block i hi⟩

/-- A step of filling a row. -/
theorem flat_upto {E : El α} {l : List α} {xs : List Value} (hl : xs.length = l.length * E.k) (h : xs.take (l.length * E.k) = E.flat (l.take l.length)) : xs = E.flat l := by
  rw [List.take_of_length_le (by omega)] at h
  rw [h, List.take_length]
theorem two_parts {l : List Value} {n m : Nat} (h : l.length = m) (hn : n + 2 ≤ m) : ∃ p a b r, l = p ++ a :: b :: r ∧ p.length = n := by
  have h1 : n < l.length := by omega
  have h2 : n + 1 < l.length := by omega
  refine ⟨l.take n, l[n], l[n + 1], l.drop (n + 1 + 1), ?_, by simp; omega⟩
  rw [← List.drop_eq_getElem_cons h2, ← List.drop_eq_getElem_cons h1, List.take_append_drop]
theorem three_parts {l : List Value} {n m : Nat} (h : l.length = m) (hn : n + 3 ≤ m) : ∃ p a b c r, l = p ++ a :: b :: c :: r ∧ p.length = n := by
  have h1 : n < l.length := by omega
  have h2 : n + 1 < l.length := by omega
  have h3 : n + 1 + 1 < l.length := by omega
  refine ⟨l.take n, l[n], l[n + 1], l[n + 1 + 1], l.drop (n + 1 + 1 + 1), ?_, by simp; omega⟩
  rw [← List.drop_eq_getElem_cons h3, ← List.drop_eq_getElem_cons h2, ← List.drop_eq_getElem_cons h1, List.take_append_drop]
def eI : El Int := ⟨fun x => [.int .i64 x], 1, by omega, fun _ => rfl⟩
theorem get_i {w : World} {b o : Nat} {l : List Int} (h : ∀ (i : Nat) (x : Int), l[i]? = some x → ∀ (j : Nat) (v : Value), (eI.enc x)[j]? = some v → w.cell? ⟨b, o + i * eI.k + j, none⟩ = some v) {i : Nat} {x : Int} (hx : l[i]? = some x) :
    w.cell? ⟨b, o + i, none⟩ = some (.int .i64 x) := by have := h i x hx 0 _ rfl; simpa [eI] using this
abbrev CC := Bool × Int
def eC : El CC := ⟨fun p => [.bool p.1, .int .i64 p.2], 2, by omega, fun _ => rfl⟩
theorem get_c {w : World} {b o : Nat} {l : List CC} (h : ∀ (i : Nat) (x : CC), l[i]? = some x → ∀ (j : Nat) (v : Value), (eC.enc x)[j]? = some v → w.cell? ⟨b, o + i * eC.k + j, none⟩ = some v) {i : Nat} {x : CC} (hx : l[i]? = some x) :
    w.cell? ⟨b, o + i * 2, none⟩ = some (.bool x.1) ∧ w.cell? ⟨b, o + i * 2 + 1, none⟩ = some (.int .i64 x.2) := ⟨h i x hx 0 _ rfl, h i x hx 1 _ rfl⟩
/-- An alarm: three numbers. -/
abbrev AA := Int × Int × Int
def eA : El AA := ⟨fun p => [.int .i64 p.1, .int .i64 p.2.1, .int .i64 p.2.2], 3, by omega, fun _ => rfl⟩
theorem get_a {w : World} {b o : Nat} {l : List AA} (h : ∀ (i : Nat) (x : AA), l[i]? = some x → ∀ (j : Nat) (v : Value), (eA.enc x)[j]? = some v → w.cell? ⟨b, o + i * eA.k + j, none⟩ = some v) {i : Nat} {x : AA} (hx : l[i]? = some x) :
    w.cell? ⟨b, o + i * 3, none⟩ = some (.int .i64 x.1) ∧ w.cell? ⟨b, o + i * 3 + 1, none⟩ = some (.int .i64 x.2.1) ∧ w.cell? ⟨b, o + i * 3 + 2, none⟩ = some (.int .i64 x.2.2) := ⟨h i x hx 0 _ rfl, h i x hx 1 _ rfl, h i x hx 2 _ rfl⟩
theorem step_a {l : List AA} {k : Nat} {x : AA} (hx : l[k]? = some x) {xs : List Value} (hlen : xs.length = l.length * 3) (h : xs.take (k * 3) = eA.flat (l.take k)) :
    (((xs.set (k * 3) (.int .i64 x.1)).set (k * 3 + 1) (.int .i64 x.2.1)).set (k * 3 + 1 + 1) (.int .i64 x.2.2)).take ((k + 1) * 3) = eA.flat (l.take (k + 1)) := by
  obtain ⟨hk, hx'⟩ := List.getElem?_eq_some_iff.1 hx
  obtain ⟨p, a, b, c, r, rfl, hp⟩ := three_parts (n := k * 3) hlen (by omega)
  rw [List.take_left' hp] at h
  rw [List.take_succ_eq_append_getElem hk, El.flat_app, ← h, hx', show (k + 1) * 3 = p.length + 3 by omega]
  have s1 : (p ++ a :: b :: c :: r).set (k * 3) (.int .i64 x.1) = p ++ .int .i64 x.1 :: b :: c :: r := by rw [← hp]; simp
  have s2 : (p ++ .int .i64 x.1 :: b :: c :: r).set (k * 3 + 1) (.int .i64 x.2.1) = p ++ .int .i64 x.1 :: .int .i64 x.2.1 :: c :: r := by rw [← hp]; simp
  have s3 : (p ++ .int .i64 x.1 :: .int .i64 x.2.1 :: c :: r).set (k * 3 + 1 + 1) (.int .i64 x.2.2) = p ++ .int .i64 x.1 :: .int .i64 x.2.1 :: .int .i64 x.2.2 :: r := by
    rw [← hp, List.set_append_right _ _ (by omega), show p.length + 1 + 1 - p.length = 2 by omega]; rfl
  rw [s1, s2, s3, List.take_length_add_append]
  simp [El.flat, eA]
end Go.Proofs.Ytaekcmbjcfpigaa
