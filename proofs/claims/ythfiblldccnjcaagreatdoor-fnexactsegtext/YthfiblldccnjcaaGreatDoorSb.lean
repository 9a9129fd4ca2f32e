/-
  ROWS OF ROWS OF TERMS, of one's own and to be read.
  SEGMENTS IN MEMORY: three rows; to be read (SegAt), of one's own (OwnS); a box of three slices (G3).
-/
import Derived.Test.YthfiblldccnjcaaGreatDoorMm
namespace Go.Proofs.YthfiblldccnjcaaGreatDoor
open Go.RowKit

/-- The inner rows of a row of rows: each is of our own, no two share a block. -/
def Inn (w : World) (base : Nat) (vs : List Value) (ls : List (List Y)) : Prop :=
  vs.length = ls.length ∧ (∀ (i : Nat) (v : Value) (l : List Y), vs[i]? = some v → ls[i]? = some l → Own eY 61 w base v l) ∧
  (∀ (i j : Nat) (v u : Value) (q : Nat), vs[i]? = some v → vs[j]? = some u → v.ownBlock = some q → u.ownBlock = some q → i = j)
theorem Inn.nil (w : World) (base : Nat) : Inn w base [] [] := ⟨rfl, fun i v l h => by simp at h, fun i j v u q h => by simp at h⟩
theorem Inn.mono {w : World} {base base' : Nat} {vs : List Value} {ls : List (List Y)} (h : Inn w base vs ls) (hb : base' ≤ base) : Inn w base' vs ls :=
  ⟨h.1, fun i v l h1 h2 => (h.2.1 i v l h1 h2).mono hb, h.2.2⟩
theorem Inn.keptBy {w w' : World} {base : Nat} {vs : List Value} {ls : List (List Y)} (h : Inn w base vs ls) {row : Option Nat} (hg : w.grownBy w' row) (hr : ∀ q cur, row = some q → w.heap[q]? ≠ some (.cells cur 61 (0, 0))) : Inn w' base vs ls :=
  ⟨h.1, fun i v l h1 h2 => (h.2.1 i v l h1 h2).keptBy hg fun q hq e => by
    obtain ⟨cur, hc⟩ := (h.2.1 i v l h1 h2).block hq
    exact hr q cur e hc, h.2.2⟩
theorem Inn.below {w w' : World} {base : Nat} {vs : List Value} {ls : List (List Y)} (h : Inn w base vs ls) (hb : Below w.heap.size w w') : Inn w' base vs ls :=
  ⟨h.1, fun i v l h1 h2 => (h.2.1 i v l h1 h2).below hb, h.2.2⟩
theorem Inn.lt {w : World} {base : Nat} {vs : List Value} {ls : List (List Y)} (h : Inn w base vs ls) {i : Nat} {v : Value} (hv : vs[i]? = some v) {q : Nat} (hq : v.ownBlock = some q) : base ≤ q ∧ q < w.heap.size := by
  obtain ⟨l, hl⟩ : ∃ l, ls[i]? = some l := ⟨_, List.getElem?_eq_getElem (by rw [← h.1]; exact (List.getElem?_eq_some_iff.1 hv).1)⟩
  exact (h.2.1 i v l hv hl).lt hq
/-- One row more, whose block lies beyond all of the others. -/
theorem Inn.snoc {w : World} {base n0 : Nat} {vs : List Value} {ls : List (List Y)} (h : Inn w base vs ls) (hlt : ∀ (i : Nat) (v : Value) (q : Nat), vs[i]? = some v → v.ownBlock = some q → q < n0) (hb : base ≤ n0) {v : Value} {l : List Y} (ho : Own eY 61 w n0 v l) : Inn w base (vs ++ [v]) (ls ++ [l]) := by
  refine ⟨by simp [h.1], fun i u m h1 h2 => ?_, fun i j u x q h1 h2 h3 h4 => ?_⟩
  · rw [List.getElem?_append] at h1 h2
    rw [h.1] at h1
    split at h1
    · rename_i hlt'
      rw [if_pos hlt'] at h2
      exact h.2.1 i u m h1 h2
    · rename_i hlt'
      rw [if_neg hlt'] at h2
      obtain ⟨e, e2⟩ := List.getElem?_eq_some_iff.1 h1
      obtain ⟨e', e2'⟩ := List.getElem?_eq_some_iff.1 h2
      simp at e2 e2'
      subst e2 e2'
      exact ho.mono hb
  · rw [List.getElem?_append] at h1 h2
    split at h1 <;> split at h2
    · exact h.2.2 i j u x q h1 h2 h3 h4
    · obtain ⟨e, e2⟩ := List.getElem?_eq_some_iff.1 h2
      simp at e2
      subst e2
      have := hlt i u q h1 h3
      have := (ho.lt h4).1
      omega
    · obtain ⟨e, e2⟩ := List.getElem?_eq_some_iff.1 h1
      simp at e2
      subst e2
      have := hlt j x q h2 h4
      have := (ho.lt h3).1
      omega
    · obtain ⟨e, _⟩ := List.getElem?_eq_some_iff.1 h1
      obtain ⟨e', _⟩ := List.getElem?_eq_some_iff.1 h2
      simp at e e'
      omega
/-- One of the rows is written. -/
theorem Inn.wrote {w w' : World} {base : Nat} {vs : List Value} {ls : List (List Y)} (h : Inn w base vs ls) {j : Nat} {v : Value} (hv : vs[j]? = some v) {l : List Y} (ho : Own eY 61 w' base v l) (hg : w.grownBy w' v.ownBlock) : Inn w' base vs (ls.set j l) := by
  refine ⟨by simp [h.1], fun i u m h1 h2 => ?_, h.2.2⟩
  rw [List.getElem?_set] at h2
  split at h2
  · rename_i e
    subst e
    split at h2
    · simp at h2
      subst h2
      rw [hv] at h1
      simp at h1
      subst h1
      exact ho
    · simp at h2
  · rename_i e
    refine (h.2.1 i u m h1 h2).keptBy hg fun q hq hr => e ?_
    exact h.2.2 j i v u q hv h1 hr hq
/-- A slice of slices of our own. -/
def OwnYY (w : World) (base : Nat) (v : Value) (ls : List (List Y)) : Prop := ∃ vs, w.ownsRow base 58 1 v ls.length vs ∧ Inn w base vs ls
theorem OwnYY.below {w w' : World} {base : Nat} {v : Value} {ls : List (List Y)} (h : OwnYY w base v ls) (hb : Below w.heap.size w w') : OwnYY w' base v ls := by
  obtain ⟨vs, h1, h2⟩ := h
  exact ⟨vs, owns_below h1 hb, h2.below hb⟩
theorem OwnYY.mono {w : World} {base base' : Nat} {v : Value} {ls : List (List Y)} (h : OwnYY w base v ls) (hb : base' ≤ base) : OwnYY w base' v ls := by
  obtain ⟨vs, h1, h2⟩ := h
  exact ⟨vs, World.ownsRow.mono h1 hb, h2.mono hb⟩
theorem OwnYY.nil (w : World) (base : Nat) : OwnYY w base (.slice none 0 0) [] := ⟨[], ⟨rfl, .inl ⟨rfl, rfl⟩⟩, Inn.nil _ _⟩
theorem OwnYY.fresh {w' : World} {g base : Nat} (hb : base ≤ g) (hg : w'.heap[g]? = some (.cells #[] 58 (0, 0))) : OwnYY w' base (.slice (some ⟨g, 0, none⟩) 0 0) [] :=
  ⟨[], ⟨rfl, .inr ⟨g, 0, #[], rfl, hb, hg, Nat.le_refl _, by unfold maxLen; omega, rfl, rfl⟩⟩, Inn.nil _ _⟩
/-- Rows that lie somewhere, to be read. -/
def BndsAt (w : World) (a : Option Addr) (ls : List (List Y)) : Prop := ls = [] ∨ ∃ b o, a = some ⟨b, o, none⟩ ∧ ∀ (i : Nat) (l : List Y), ls[i]? = some l → ∃ ao cap, w.cell? ⟨b, o + i, none⟩ = some (.slice ao l.length cap) ∧ At eY w ao l
theorem OwnYY.at {w : World} {base : Nat} {ao : Option Addr} {n cap : Nat} {ls : List (List Y)} (h : OwnYY w base (.slice ao n cap) ls) : BndsAt w ao ls := by
  obtain ⟨vs, h1, h2⟩ := h
  rcases h1.2 with ⟨e, h0⟩ | ⟨g, cap', cur, e, _⟩
  · exact .inl (List.length_eq_zero_iff.1 h0)
  · simp at e
    obtain ⟨rfl, rfl, rfl⟩ := e
    refine .inr ⟨g, 0, rfl, fun i l hl => ?_⟩
    have hi := (List.getElem?_eq_some_iff.1 hl).1
    obtain ⟨v, hv⟩ : ∃ v, vs[i]? = some v := ⟨_, List.getElem?_eq_getElem (by rw [h2.1]; exact hi)⟩
    have ho := h2.2.1 i v l hv hl
    obtain ⟨ao, cp, rfl⟩ := ho.form
    refine ⟨ao, cp, ?_, ho.at⟩
    rw [Nat.zero_add, World.ownsRow.cellAt h1 i (by omega), hv]
/-- Nothing has turned but blocks from lo on and below hi. -/
structure Outs (lo hi : Nat) (w w' : World) : Prop where
  os : w'.os = w.os
  tape : w'.tape = w.tape
  output : w'.output = w.output
  size : w.heap.size ≤ w'.heap.size
  block : ∀ k, k < w.heap.size → (k < lo ∨ hi ≤ k) → w'.heap[k]? = w.heap[k]?
theorem Outs.refl (lo hi : Nat) (w : World) : Outs lo hi w w := ⟨rfl, rfl, rfl, Nat.le_refl _, fun _ _ _ => rfl⟩
theorem Outs.trans {lo hi : Nat} {a b c : World} (h : Outs lo hi a b) (k : Outs lo hi b c) : Outs lo hi a c :=
  ⟨k.os.trans h.os, k.tape.trans h.tape, k.output.trans h.output, Nat.le_trans h.size k.size, fun i h1 h2 => (k.block i (Nat.lt_of_lt_of_le h1 h.size) h2).trans (h.block i h1 h2)⟩
theorem Outs.grown {lo hi : Nat} {a b c : World} (h : Outs lo hi a b) {row : Option Nat} (g : b.grownBy c row) (hr : ∀ q, row = some q → lo ≤ q ∧ q < hi) : Outs lo hi a c :=
  h.trans ⟨g.os, g.tape, g.output, g.size, fun i h1 h2 => g.block i h1 fun e => by have := hr i e.symm; omega⟩
theorem Outs.step {lo hi : Nat} {a b c : World} (h : Outs lo hi a b) (g : Below b.heap.size b c) : Outs lo hi a c :=
  h.trans ⟨g.os, g.tape, g.output, g.size, fun i h1 _ => g.block i h1⟩
theorem Outs.below {lo hi B : Nat} {a b c : World} (h : Below B a b) (g : Outs lo hi b c) (hB : B ≤ lo) (hs : B ≤ a.heap.size) : Below B a c :=
  ⟨g.os.trans h.os, g.tape.trans h.tape, g.output.trans h.output, Nat.le_trans h.size g.size, fun i hi => (g.block i (Nat.lt_of_lt_of_le (Nat.lt_of_lt_of_le hi hs) h.size) (.inl (by omega))).trans (h.block i hi)⟩
/-- Nothing has turned but rows of elements of type T. -/
def Keeps (T : TypeId) (w w' : World) : Prop := ∀ (q : Nat) (o : Obj), w.heap[q]? = some o → (∀ cur fz, o ≠ .cells cur T fz) → w'.heap[q]? = some o
theorem Keeps.refl (T : TypeId) (w : World) : Keeps T w w := fun _ _ h _ => h
theorem Keeps.trans {T : TypeId} {a b c : World} (h : Keeps T a b) (k : Keeps T b c) : Keeps T a c := fun q o h1 h2 => k q o (h q o h1 h2) h2
theorem Keeps.grown {T : TypeId} {a b : World} {row : Option Nat} (g : a.grownBy b row) (hr : ∀ q, row = some q → ∃ cur fz, a.heap[q]? = some (.cells cur T fz)) : Keeps T a b := fun q o h1 h2 => by
  have hlt : q < a.heap.size := by
    rcases Nat.lt_or_ge q a.heap.size with h | h
    · exact h
    · rw [Array.getElem?_eq_none h] at h1; cases h1
  rw [g.block q hlt ?_, h1]
  intro e
  obtain ⟨cur, fz, h3⟩ := hr q e.symm
  rw [h3] at h1
  exact h2 cur fz (Option.some.inj h1).symm
theorem Keeps.below {T : TypeId} {a b : World} (g : Below a.heap.size a b) : Keeps T a b := fun q o h1 _ => by
  have hlt : q < a.heap.size := by
    rcases Nat.lt_or_ge q a.heap.size with h | h
    · exact h
    · rw [Array.getElem?_eq_none h] at h1; cases h1
  rw [g.block q hlt, h1]
theorem owns_keeps {w w' : World} {base e size n : Nat} {v : Value} {xs : List Value} (h : w.ownsRow base e size v n xs) {T : TypeId} (hk : Keeps T w w') (hT : e ≠ T) : w'.ownsRow base e size v n xs := by
  refine ⟨h.1, ?_⟩
  rcases h.2 with ⟨e, h0⟩ | ⟨g, cap, cur, e, h1, h2, h3⟩
  · exact .inl ⟨e, h0⟩
  · exact .inr ⟨g, cap, cur, e, h1, hk g _ h2 (fun cur fz e2 => by cases e2; exact hT rfl), h3⟩
/-- Rows of terms of our own, all of whose blocks lie below hi. -/
def OwnT (w : World) (lo hi : Nat) (v : Value) (ls : List (List Y)) : Prop :=
  ∃ vs, w.ownsRow lo 58 1 v ls.length vs ∧ Inn w lo vs ls ∧ (∀ q, v.ownBlock = some q → q < hi) ∧ ∀ (i : Nat) (u : Value) (q : Nat), vs[i]? = some u → u.ownBlock = some q → q < hi
theorem OwnYY.top {w : World} {lo : Nat} {v : Value} {ls : List (List Y)} (h : OwnYY w lo v ls) : OwnT w lo w.heap.size v ls := by
  obtain ⟨vs, h1, h2⟩ := h
  exact ⟨vs, h1, h2, fun q hq => (World.ownsRow.lt h1 q hq).2, fun i u q hu hq => (h2.lt hu hq).2⟩
theorem OwnT.own {w : World} {lo hi : Nat} {v : Value} {ls : List (List Y)} (h : OwnT w lo hi v ls) : OwnYY w lo v ls := by
  obtain ⟨vs, h1, h2, _⟩ := h
  exact ⟨vs, h1, h2⟩
theorem OwnT.below {w w' : World} {lo hi : Nat} {v : Value} {ls : List (List Y)} (h : OwnT w lo hi v ls) (hb : Below w.heap.size w w') : OwnT w' lo hi v ls := by
  obtain ⟨vs, h1, h2, h3⟩ := h
  exact ⟨vs, owns_below h1 hb, h2.below hb, h3⟩
/-- What turns lies elsewhere. -/
theorem owns_outs {w w' : World} {base e size n : Nat} {v : Value} {xs : List Value} (h : w.ownsRow base e size v n xs) {lo hi : Nat} (ho : Outs lo hi w w') (hv : ∀ q, v.ownBlock = some q → q < lo ∨ hi ≤ q) : w'.ownsRow base e size v n xs := by
  refine ⟨h.1, ?_⟩
  rcases h.2 with ⟨e, h0⟩ | ⟨g, cap, cur, e, h1, h2, h3⟩
  · exact .inl ⟨e, h0⟩
  · refine .inr ⟨g, cap, cur, e, h1, ?_, h3⟩
    have hlt : g < w.heap.size := by
      rcases Nat.lt_or_ge g w.heap.size with h | h
      · exact h
      · rw [Array.getElem?_eq_none h] at h2; cases h2
    rw [ho.block g hlt (hv g (by rw [e]; rfl)), h2]
theorem OwnT.outs {w w' : World} {a b : Nat} {v : Value} {ls : List (List Y)} (h : OwnT w a b v ls) {lo hi : Nat} (ho : Outs lo hi w w') (hd : b ≤ lo ∨ hi ≤ a) : OwnT w' a b v ls := by
  obtain ⟨vs, h1, h2, h3, h4⟩ := h
  refine ⟨vs, owns_outs h1 ho fun q hq => ?_, ⟨h2.1, fun i u l hu hl => owns_outs (h2.2.1 i u l hu hl) ho fun q hq => ?_, h2.2.2⟩, h3, h4⟩
  · have := (World.ownsRow.lt h1 q hq).1
    have := h3 q hq
    omega
  · have := (h2.lt hu hq).1
    have := h4 i u q hu hq
    omega
theorem OwnT.keeps {w w' : World} {lo hi : Nat} {v : Value} {ls : List (List Y)} (h : OwnT w lo hi v ls) {T : TypeId} (hk : Keeps T w w') (h1 : T ≠ 58) (h2 : T ≠ 61) : OwnT w' lo hi v ls := by
  obtain ⟨vs, a, b, c⟩ := h
  exact ⟨vs, owns_keeps a hk h1.symm, ⟨b.1, fun i u l hu hl => owns_keeps (b.2.1 i u l hu hl) hk h2.symm, b.2.2⟩, c⟩
theorem OwnT.at {w : World} {lo hi : Nat} {ao : Option Addr} {n cap : Nat} {ls : List (List Y)} (h : OwnT w lo hi (.slice ao n cap) ls) : BndsAt w ao ls := h.own.at
/-- What is counted up by the marks. -/
def tot : List (List Y) → Nat
  | [] => 0
  | l :: ls => l.length + tot ls
def marksYY : Int → List (List Y) → List (List Y)
  | _, [] => []
  | k, l :: ls => marksY k l.length :: marksYY (k + (l.length : Int) * 2) ls
theorem marksYY_len : ∀ (k : Int) (ls : List (List Y)), (marksYY k ls).length = ls.length
  | _, [] => rfl
  | k, l :: ls => by simp [marksYY, marksYY_len]
theorem tot_append : ∀ (a b : List (List Y)), tot (a ++ b) = tot a + tot b
  | [], b => by simp [tot]
  | l :: a, b => by simp only [List.cons_append, tot, tot_append a b]; omega
theorem marksYY_append : ∀ (k : Int) (a b : List (List Y)), marksYY k (a ++ b) = marksYY k a ++ marksYY (k + (tot a : Int) * 2) b
  | k, [], b => by simp [marksYY, tot]
  | k, l :: a, b => by
    simp only [List.cons_append, marksYY, marksYY_append (k + (l.length : Int) * 2) a b, tot]
    rw [show k + (l.length : Int) * 2 + (tot a : Int) * 2 = k + ((l.length + tot a : Nat) : Int) * 2 by omega]
theorem take_snoc {α : Type} {ls : List α} {j : Nat} {l : α} (h : ls[j]? = some l) : ls.take (j + 1) = ls.take j ++ [l] := by
  rw [List.take_add_one, h]; rfl
theorem tot_take_succ {ls : List (List Y)} {j : Nat} {l : List Y} (h : ls[j]? = some l) : tot (ls.take (j + 1)) = tot (ls.take j) + l.length := by
  rw [take_snoc h, tot_append]
  simp [tot]
theorem tot_take_le (ls : List (List Y)) (j : Nat) : tot (ls.take j) ≤ tot ls := by
  have := tot_append (ls.take j) (ls.drop j)
  rw [List.take_append_drop] at this
  omega
/-- The rows, the first j of which are marked. -/
def partYY (k : Int) (ls : List (List Y)) (j : Nat) : List (List Y) := marksYY k (ls.take j) ++ ls.drop j
theorem partYY_zero (k : Int) (ls : List (List Y)) : partYY k ls 0 = ls := by simp [partYY, marksYY]
theorem partYY_all (k : Int) (ls : List (List Y)) : partYY k ls ls.length = marksYY k ls := by simp [partYY]
theorem partYY_len (k : Int) (ls : List (List Y)) (j : Nat) : (partYY k ls j).length = ls.length := by
  simp [partYY, marksYY_len]; omega
theorem partYY_get {k : Int} {ls : List (List Y)} {j : Nat} {l : List Y} (h : ls[j]? = some l) : (partYY k ls j)[j]? = some l := by
  have hj := (List.getElem?_eq_some_iff.1 h).1
  unfold partYY
  rw [List.getElem?_append_right (by rw [marksYY_len]; simp; omega), marksYY_len]
  simp only [List.length_take, List.getElem?_drop]
  rw [show j + (j - min j ls.length) = j by omega, h]
theorem partYY_set {k : Int} {ls : List (List Y)} {j : Nat} {l : List Y} (h : ls[j]? = some l) : (partYY k ls j).set j (marksY (k + (tot (ls.take j) : Int) * 2) l.length) = partYY k ls (j + 1) := by
  have hj := (List.getElem?_eq_some_iff.1 h).1
  have hd : ls.drop j = l :: ls.drop (j + 1) := by
    rw [List.drop_eq_getElem_cons hj, (List.getElem?_eq_some_iff.1 h).2]
  unfold partYY
  rw [take_snoc h, marksYY_append, List.set_append_right _ _ (by rw [marksYY_len]; simp; omega), marksYY_len, hd]
  simp only [List.length_take, marksYY, List.append_assoc]
  rw [show j - min j ls.length = 0 by omega]
  rfl
theorem marksYY_get {k : Int} {ls : List (List Y)} {j : Nat} {l : List Y} (h : ls[j]? = some l) : (marksYY k ls)[j]? = some (marksY (k + (tot (ls.take j) : Int) * 2) l.length) := by
  have hj := (List.getElem?_eq_some_iff.1 h).1
  have e : ls = ls.take j ++ (l :: ls.drop (j + 1)) := by
    have hd : ls.drop j = l :: ls.drop (j + 1) := by
      rw [List.drop_eq_getElem_cons hj, (List.getElem?_eq_some_iff.1 h).2]
    rw [← hd, List.take_append_drop]
  have e2 : marksYY k ls = marksYY k (ls.take j) ++ marksYY (k + (tot (ls.take j) : Int) * 2) (l :: ls.drop (j + 1)) := by
    rw [← marksYY_append, ← e]
  rw [e2, List.getElem?_append_right (by rw [marksYY_len]; simp; omega), marksYY_len]
  simp only [List.length_take, marksYY]
  rw [show j - min j ls.length = 0 by omega]
  rfl
theorem tot_flatten (ls : List (List Y)) : tot ls = ls.flatten.length := by
  induction ls with
  | nil => rfl
  | cons l ls ih => simp only [tot, ih, List.flatten_cons, List.length_append]
theorem tot_get {ls : List (List Y)} {j : Nat} {l : List Y} (h : ls[j]? = some l) : l.length ≤ tot ls := by
  have h1 := tot_take_succ h
  have h2 := tot_take_le ls (j + 1)
  omega
theorem BndsAt.below {w w' : World} {a : Option Addr} {ls : List (List Y)} (h : BndsAt w a ls) (hb : Below w.heap.size w w') : BndsAt w' a ls := by
  rcases h with h | ⟨b, o, e, h⟩
  · exact .inl h
  · refine .inr ⟨b, o, e, fun i l hl => ?_⟩
    obtain ⟨ao, cap, h1, h2⟩ := h i l hl
    exact ⟨ao, cap, (hb.cell (p := ⟨b, o + i, none⟩) (World.block_lt_of_cell? w _ h1)).trans h1, h2.below hb⟩
theorem BndsAt.cons {w : World} {a : Option Addr} {ls : List (List Y)} (h : BndsAt w a ls) (hn : 0 < ls.length) : ∃ b o, a = some ⟨b, o, none⟩ ∧ b < w.heap.size ∧ ∀ (i : Nat) (l : List Y), ls[i]? = some l → ∃ ao cap, w.cell? ⟨b, o + i, none⟩ = some (.slice ao l.length cap) ∧ At eY w ao l := by
  rcases h with rfl | ⟨b, o, e, h⟩
  · simp at hn
  · refine ⟨b, o, e, ?_, h⟩
    obtain ⟨x, hx⟩ : ∃ x, ls[0]? = some x := ⟨_, List.getElem?_eq_getElem hn⟩
    obtain ⟨_, _, h1, _⟩ := h 0 x hx
    exact World.block_lt_of_cell? w _ h1
end Go.Proofs.YthfiblldccnjcaaGreatDoor
namespace Go.Proofs.YthfiblldccnjcaaGreatDoor
open Go.RowKit

structure SG where
  B : List (List Y)
  V : List VV
  M : List Bool
structure SAd where
  a0 : Option Addr
  c0 : Nat
  a1 : Option Addr
  c1 : Nat
  a2 : Option Addr
  c2 : Nat
structure SegAt (w : World) (A : SAd) (S : SG) : Prop where
  b : BndsAt w A.a0 S.B
  v : At eV w A.a1 S.V
  m : At eB w A.a2 S.M
theorem SegAt.below {w w' : World} {A : SAd} {S : SG} (h : SegAt w A S) (hb : Below w.heap.size w w') : SegAt w' A S := ⟨h.b.below hb, h.v.below hb, h.m.below hb⟩
/-- A Seg of our own: all its blocks lie from lo on and below hi. -/
structure OwnS (w : World) (lo hi : Nat) (A : SAd) (S : SG) : Prop where
  b : OwnT w lo hi (.slice A.a0 S.B.length A.c0) S.B
  v : Own eV 68 w lo (.slice A.a1 S.V.length A.c1) S.V
  vt : ∀ q, Value.ownBlock (.slice A.a1 S.V.length A.c1) = some q → q < hi
  m : Own eB 4 w lo (.slice A.a2 S.M.length A.c2) S.M
  mt : ∀ q, Value.ownBlock (.slice A.a2 S.M.length A.c2) = some q → q < hi
theorem OwnS.at {w : World} {lo hi : Nat} {A : SAd} {S : SG} (h : OwnS w lo hi A S) : SegAt w A S := ⟨h.b.at, h.v.at, h.m.at⟩
theorem OwnS.below {w w' : World} {lo hi : Nat} {A : SAd} {S : SG} (h : OwnS w lo hi A S) (hb : Below w.heap.size w w') : OwnS w' lo hi A S := ⟨h.b.below hb, h.v.below hb, h.vt, h.m.below hb, h.mt⟩
theorem Own.outs {α : Type} {E : El α} {T : TypeId} {w w' : World} {a b : Nat} {v : Value} {l : List α} (h : Own E T w a v l) (ht : ∀ q, v.ownBlock = some q → q < b) {lo hi : Nat} (ho : Outs lo hi w w') (hd : b ≤ lo ∨ hi ≤ a) : Own E T w' a v l :=
  owns_outs h ho fun q hq => by have := (h.lt hq).1; have := ht q hq; omega
theorem OwnS.outs {w w' : World} {a b : Nat} {A : SAd} {S : SG} (h : OwnS w a b A S) {lo hi : Nat} (ho : Outs lo hi w w') (hd : b ≤ lo ∨ hi ≤ a) : OwnS w' a b A S :=
  ⟨h.b.outs ho hd, h.v.outs h.vt ho hd, h.vt, h.m.outs h.mt ho hd, h.mt⟩
/-- Three values in a block that may be written. -/
structure G3 (v : World) (X : Nat) (p q r : Value) : Prop where
  c0 : v.cell? ⟨X, 0, none⟩ = some p
  c1 : v.cell? ⟨X, 1, none⟩ = some q
  c2 : v.cell? ⟨X, 2, none⟩ = some r
  f0 : v.frozen? ⟨X, 0, none⟩ = false
  f1 : v.frozen? ⟨X, 1, none⟩ = false
  f2 : v.frozen? ⟨X, 2, none⟩ = false
section
variable {v v' : World} {X : Nat} {p q r : Value}
theorem G3.lt (h : G3 v X p q r) : X < v.heap.size := World.block_lt_of_cell? v _ h.c0
theorem G3.below (h : G3 v X p q r) (hb : Below v.heap.size v v') : G3 v' X p q r := by
  obtain ⟨hc, hf⟩ := bcell hb
  have hl := h.lt
  exact ⟨(hc _ _ hl).trans h.c0, (hc _ _ hl).trans h.c1, (hc _ _ hl).trans h.c2, (hf _ _ hl).trans h.f0, (hf _ _ hl).trans h.f1, (hf _ _ hl).trans h.f2⟩
theorem G3.drew (h : G3 v X p q r) : G3 v.drew X p q r := ⟨h.c0, h.c1, h.c2, h.f0, h.f1, h.f2⟩
theorem G3.new (w : World) (p q r : Value) (T : TypeId) : G3 (w.alloc (.cells #[p, q, r] T)) w.heap.size p q r := by
  constructor <;> simp [go_sem]
theorem G3.outs (h : G3 v X p q r) {lo hi : Nat} (ho : Outs lo hi v v') (hd : X < lo ∨ hi ≤ X) : G3 v' X p q r := by
  have hb := ho.block X h.lt hd
  have hc : ∀ o, v'.cell? ⟨X, o, none⟩ = v.cell? ⟨X, o, none⟩ := fun o => by simp only [World.cell?, hb]
  have hf : ∀ o, v'.frozen? ⟨X, o, none⟩ = v.frozen? ⟨X, o, none⟩ := fun o => by simp only [World.frozen?, hb]
  exact ⟨(hc _).trans h.c0, (hc _).trans h.c1, (hc _).trans h.c2, (hf _).trans h.f0, (hf _).trans h.f1, (hf _).trans h.f2⟩
theorem G3.set0 (h : G3 v X p q r) (u : Value) : G3 (v.setCell ⟨X, 0, none⟩ u) X u q r := by
  obtain ⟨c0, c1, c2, f0, f1, f2⟩ := h
  constructor <;> simp [go_sem, *]
theorem G3.set1 (h : G3 v X p q r) (u : Value) : G3 (v.setCell ⟨X, 1, none⟩ u) X p u r := by
  obtain ⟨c0, c1, c2, f0, f1, f2⟩ := h
  constructor <;> simp [go_sem, *]
theorem G3.set2 (h : G3 v X p q r) (u : Value) : G3 (v.setCell ⟨X, 2, none⟩ u) X p q u := by
  obtain ⟨c0, c1, c2, f0, f1, f2⟩ := h
  constructor <;> simp [go_sem, *]
theorem G3.far (h : G3 v X p q r) {Z : Nat} (hn : X ≠ Z) (i : Nat) (u : Value) : G3 (v.setCell ⟨Z, i, none⟩ u) X p q r := by
  obtain ⟨c0, c1, c2, f0, f1, f2⟩ := h
  constructor <;> simp [go_sem, *]
end
theorem outs_set (w : World) (Z i : Nat) (u : Value) : Outs Z (Z + 1) w (w.setCell ⟨Z, i, none⟩ u) := by
  have g : Below Z w (w.setCell ⟨Z, i, none⟩ u) := (Below.refl Z w).setCell (p := ⟨Z, i, none⟩) (Nat.le_refl _) _
  refine ⟨g.os, g.tape, g.output, g.size, fun k hk hd => ?_⟩
  exact Below.heap_setCell w ⟨Z, i, none⟩ u k (by show k ≠ Z; omega)
theorem OwnT.mono {w : World} {lo hi lo' hi' : Nat} {v : Value} {ls : List (List Y)} (h : OwnT w lo hi v ls) (h1 : lo' ≤ lo) (h2 : hi ≤ hi') : OwnT w lo' hi' v ls := by
  obtain ⟨vs, a, b, c, d⟩ := h
  exact ⟨vs, World.ownsRow.mono a h1, b.mono h1, fun q hq => Nat.lt_of_lt_of_le (c q hq) h2, fun i u q hu hq => Nat.lt_of_lt_of_le (d i u q hu hq) h2⟩
theorem OwnS.mono {w : World} {lo hi lo' hi' : Nat} {A : SAd} {S : SG} (h : OwnS w lo hi A S) (h1 : lo' ≤ lo) (h2 : hi ≤ hi') : OwnS w lo' hi' A S :=
  ⟨h.b.mono h1 h2, h.v.mono h1, fun q hq => Nat.lt_of_lt_of_le (h.vt q hq) h2, h.m.mono h1, fun q hq => Nat.lt_of_lt_of_le (h.mt q hq) h2⟩
end Go.Proofs.YthfiblldccnjcaaGreatDoor
