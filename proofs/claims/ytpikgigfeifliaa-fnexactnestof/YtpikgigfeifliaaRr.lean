/-
  ROWS OF ROWS OF INTS, of one's own and to be read.
-/
import Derived.Test.YtpikgigfeifliaaIntm
namespace Go.Proofs.Ytpikgigfeifliaa
open Go.RowKit

/-- The inner rows of a row of rows: each is of our own, no two share a block. -/
def Inn (w : World) (base : Nat) (vs : List Value) (ls : List (List Int)) : Prop :=
  vs.length = ls.length ∧ (∀ (i : Nat) (v : Value) (l : List Int), vs[i]? = some v → ls[i]? = some l → OwnI w base v l) ∧
  (∀ (i j : Nat) (v u : Value) (q : Nat), vs[i]? = some v → vs[j]? = some u → v.ownBlock = some q → u.ownBlock = some q → i = j)
theorem Inn.nil (w : World) (base : Nat) : Inn w base [] [] := ⟨rfl, fun i v l h => by simp at h, fun i j v u q h => by simp at h⟩
theorem Inn.mono {w : World} {base base' : Nat} {vs : List Value} {ls : List (List Int)} (h : Inn w base vs ls) (hb : base' ≤ base) : Inn w base' vs ls :=
  ⟨h.1, fun i v l h1 h2 => (h.2.1 i v l h1 h2).mono hb, h.2.2⟩
theorem OwnI.block {w : World} {base : Nat} {v : Value} {l : List Int} (h : OwnI w base v l) {q : Nat} (hq : v.ownBlock = some q) : ∃ cur, w.heap[q]? = some (.cells cur 3 (0, 0)) := by
  rcases h.2 with ⟨rfl, _⟩ | ⟨g, cap, cur, rfl, _, hg, _⟩
  · simp [Value.ownBlock] at hq
  · simp [Value.ownBlock] at hq
    subst hq
    exact ⟨cur, hg⟩
theorem OwnI.keptBy {w w' : World} {base : Nat} {v : Value} {l : List Int} (h : OwnI w base v l) {row : Option Nat} (hg : w.grownBy w' row) (hr : ∀ q, v.ownBlock = some q → row ≠ some q) : OwnI w' base v l := by
  refine World.ownsRow.kept h hg ?_
  rcases h.2 with ⟨rfl, _⟩ | ⟨g, cap, cur, rfl, _, _, _⟩
  · exact .inl rfl
  · exact .inr fun e => hr g rfl (by rw [← e]; rfl)
theorem Inn.keptBy {w w' : World} {base : Nat} {vs : List Value} {ls : List (List Int)} (h : Inn w base vs ls) {row : Option Nat} (hg : w.grownBy w' row) (hr : ∀ q cur, row = some q → w.heap[q]? ≠ some (.cells cur 3 (0, 0))) : Inn w' base vs ls :=
  ⟨h.1, fun i v l h1 h2 => (h.2.1 i v l h1 h2).keptBy hg fun q hq e => by
    obtain ⟨cur, hc⟩ := (h.2.1 i v l h1 h2).block hq
    exact hr q cur e hc, h.2.2⟩
theorem Inn.below {w w' : World} {base : Nat} {vs : List Value} {ls : List (List Int)} (h : Inn w base vs ls) (hb : Below w.heap.size w w') : Inn w' base vs ls :=
  ⟨h.1, fun i v l h1 h2 => (h.2.1 i v l h1 h2).below hb, h.2.2⟩
theorem OwnI.lt {w : World} {base : Nat} {v : Value} {l : List Int} (h : OwnI w base v l) {q : Nat} (hq : v.ownBlock = some q) : base ≤ q ∧ q < w.heap.size := World.ownsRow.lt h q hq
theorem Inn.lt {w : World} {base : Nat} {vs : List Value} {ls : List (List Int)} (h : Inn w base vs ls) {i : Nat} {v : Value} (hv : vs[i]? = some v) {q : Nat} (hq : v.ownBlock = some q) : base ≤ q ∧ q < w.heap.size := by
  obtain ⟨l, hl⟩ : ∃ l, ls[i]? = some l := ⟨_, List.getElem?_eq_getElem (by rw [← h.1]; exact (List.getElem?_eq_some_iff.1 hv).1)⟩
  exact (h.2.1 i v l hv hl).lt hq
/-- One row more, whose block lies beyond all of the others. -/
theorem Inn.snoc {w : World} {base n0 : Nat} {vs : List Value} {ls : List (List Int)} (h : Inn w base vs ls) (hlt : ∀ (i : Nat) (v : Value) (q : Nat), vs[i]? = some v → v.ownBlock = some q → q < n0) (hb : base ≤ n0) {v : Value} {l : List Int} (ho : OwnI w n0 v l) : Inn w base (vs ++ [v]) (ls ++ [l]) := by
  refine ⟨by simp [h.1], fun i u m h1 h2 => ?_, fun i j u x q h1 h2 h3 h4 => ?_⟩
  · rw [List.getElem?_append] at h1 h2
    rw [h.1] at h1
    split at h1
    · rename_i hlt'
      rw [if_pos hlt'] at h2
      exact h.2.1 i u m h1 h2
    · rename_i hlt'
      rw [if_neg hlt'] at h2
      obtain ⟨e, e2⟩ := List.getElem?_eq_some_iff.1 h1
      obtain ⟨e', e2'⟩ := List.getElem?_eq_some_iff.1 h2
      simp at e2 e2'
      subst e2 e2'
      exact ho.mono hb
  · rw [List.getElem?_append] at h1 h2
    split at h1 <;> split at h2
    · exact h.2.2 i j u x q h1 h2 h3 h4
    · obtain ⟨e, e2⟩ := List.getElem?_eq_some_iff.1 h2
      simp at e2
      subst e2
      have := hlt i u q h1 h3
      have := (ho.lt h4).1
      omega
    · obtain ⟨e, e2⟩ := List.getElem?_eq_some_iff.1 h1
      simp at e2
      subst e2
      have := hlt j x q h2 h4
      have := (ho.lt h3).1
      omega
    · obtain ⟨e, _⟩ := List.getElem?_eq_some_iff.1 h1
      obtain ⟨e', _⟩ := List.getElem?_eq_some_iff.1 h2
      simp at e e'
      omega
/-- One of the rows is written. -/
theorem Inn.wrote {w w' : World} {base : Nat} {vs : List Value} {ls : List (List Int)} (h : Inn w base vs ls) {j : Nat} {v : Value} (hv : vs[j]? = some v) {l : List Int} (ho : OwnI w' base v l) (hg : w.grownBy w' v.ownBlock) : Inn w' base vs (ls.set j l) := by
  refine ⟨by simp [h.1], fun i u m h1 h2 => ?_, h.2.2⟩
  rw [List.getElem?_set] at h2
  split at h2
  · rename_i e
    subst e
    split at h2
    · simp at h2
      subst h2
      rw [hv] at h1
      simp at h1
      subst h1
      exact ho
    · simp at h2
  · rename_i e
    refine (h.2.1 i u m h1 h2).keptBy hg fun q hq hr => e ?_
    exact h.2.2 j i v u q hv h1 hr hq
/-- A slice of slices of our own. -/
def OwnII (w : World) (base : Nat) (v : Value) (ls : List (List Int)) : Prop := ∃ vs, w.ownsRow base 33 1 v ls.length vs ∧ Inn w base vs ls
theorem OwnII.below {w w' : World} {base : Nat} {v : Value} {ls : List (List Int)} (h : OwnII w base v ls) (hb : Below w.heap.size w w') : OwnII w' base v ls := by
  obtain ⟨vs, h1, h2⟩ := h
  exact ⟨vs, owns_below h1 hb, h2.below hb⟩
theorem OwnII.mono {w : World} {base base' : Nat} {v : Value} {ls : List (List Int)} (h : OwnII w base v ls) (hb : base' ≤ base) : OwnII w base' v ls := by
  obtain ⟨vs, h1, h2⟩ := h
  exact ⟨vs, World.ownsRow.mono h1 hb, h2.mono hb⟩
theorem OwnII.nil (w : World) (base : Nat) : OwnII w base (.slice none 0 0) [] := ⟨[], ⟨rfl, .inl ⟨rfl, rfl⟩⟩, Inn.nil _ _⟩
theorem OwnII.fresh {w' : World} {g base : Nat} (hb : base ≤ g) (hg : w'.heap[g]? = some (.cells #[] 33 (0, 0))) : OwnII w' base (.slice (some ⟨g, 0, none⟩) 0 0) [] :=
  ⟨[], ⟨rfl, .inr ⟨g, 0, #[], rfl, hb, hg, Nat.le_refl _, by unfold maxLen; omega, rfl, rfl⟩⟩, Inn.nil _ _⟩
/-- Rows that lie somewhere, to be read. -/
def RowsAt (w : World) (a : Option Addr) (ls : List (List Int)) : Prop := ls = [] ∨ ∃ b o, a = some ⟨b, o, none⟩ ∧ ∀ (i : Nat) (l : List Int), ls[i]? = some l → ∃ ao cap, w.cell? ⟨b, o + i, none⟩ = some (.slice ao l.length cap) ∧ IntsAt w ao l
theorem OwnII.at {w : World} {base : Nat} {ao : Option Addr} {n cap : Nat} {ls : List (List Int)} (h : OwnII w base (.slice ao n cap) ls) : RowsAt w ao ls := by
  obtain ⟨vs, h1, h2⟩ := h
  rcases h1.2 with ⟨e, h0⟩ | ⟨g, cap', cur, e, _⟩
  · exact .inl (List.length_eq_zero_iff.1 h0)
  · simp at e
    obtain ⟨rfl, rfl, rfl⟩ := e
    refine .inr ⟨g, 0, rfl, fun i l hl => ?_⟩
    have hi := (List.getElem?_eq_some_iff.1 hl).1
    obtain ⟨v, hv⟩ : ∃ v, vs[i]? = some v := ⟨_, List.getElem?_eq_getElem (by rw [h2.1]; exact hi)⟩
    have ho := h2.2.1 i v l hv hl
    obtain ⟨ao, cp, rfl⟩ := ho.form
    refine ⟨ao, cp, ?_, ho.at⟩
    rw [Nat.zero_add, World.ownsRow.cellAt h1 i (by omega), hv]
/-- What is counted up by the marks. -/
def tot : List (List Int) → Nat
  | [] => 0
  | l :: ls => l.length + tot ls
def marksII : Int → List (List Int) → List (List Int)
  | _, [] => []
  | k, l :: ls => marksI k l.length :: marksII (k + l.length) ls
theorem marksII_len : ∀ (k : Int) (ls : List (List Int)), (marksII k ls).length = ls.length
  | _, [] => rfl
  | k, l :: ls => by simp [marksII, marksII_len]
theorem tot_append : ∀ (a b : List (List Int)), tot (a ++ b) = tot a + tot b
  | [], b => by simp [tot]
  | l :: a, b => by simp only [List.cons_append, tot, tot_append a b]; omega
theorem marksII_append : ∀ (k : Int) (a b : List (List Int)), marksII k (a ++ b) = marksII k a ++ marksII (k + tot a) b
  | k, [], b => by simp [marksII, tot]
  | k, l :: a, b => by
    simp only [List.cons_append, marksII, marksII_append (k + l.length) a b, tot, Int.natCast_add, Int.add_assoc]
theorem take_snoc {α : Type} {ls : List α} {j : Nat} {l : α} (h : ls[j]? = some l) : ls.take (j + 1) = ls.take j ++ [l] := by
  rw [List.take_add_one, h]; rfl
theorem tot_take_succ {ls : List (List Int)} {j : Nat} {l : List Int} (h : ls[j]? = some l) : tot (ls.take (j + 1)) = tot (ls.take j) + l.length := by
  rw [take_snoc h, tot_append]
  simp [tot]
theorem tot_take_le (ls : List (List Int)) (j : Nat) : tot (ls.take j) ≤ tot ls := by
  have := tot_append (ls.take j) (ls.drop j)
  rw [List.take_append_drop] at this
  omega
/-- The rows, the first j of which are marked. -/
def partII (k : Int) (ls : List (List Int)) (j : Nat) : List (List Int) := marksII k (ls.take j) ++ ls.drop j
theorem partII_zero (k : Int) (ls : List (List Int)) : partII k ls 0 = ls := by simp [partII, marksII]
theorem partII_all (k : Int) (ls : List (List Int)) : partII k ls ls.length = marksII k ls := by simp [partII]
theorem partII_len (k : Int) (ls : List (List Int)) (j : Nat) : (partII k ls j).length = ls.length := by
  simp [partII, marksII_len]; omega
theorem partII_get {k : Int} {ls : List (List Int)} {j : Nat} {l : List Int} (h : ls[j]? = some l) : (partII k ls j)[j]? = some l := by
  have hj := (List.getElem?_eq_some_iff.1 h).1
  unfold partII
  rw [List.getElem?_append_right (by rw [marksII_len]; simp; omega), marksII_len]
  simp only [List.length_take, List.getElem?_drop]
  rw [show j + (j - min j ls.length) = j by omega, h]
theorem partII_set {k : Int} {ls : List (List Int)} {j : Nat} {l : List Int} (h : ls[j]? = some l) : (partII k ls j).set j (marksI (k + tot (ls.take j)) l.length) = partII k ls (j + 1) := by
  have hj := (List.getElem?_eq_some_iff.1 h).1
  have hd : ls.drop j = l :: ls.drop (j + 1) := by
    rw [List.drop_eq_getElem_cons hj, (List.getElem?_eq_some_iff.1 h).2]
  unfold partII
  rw [take_snoc h, marksII_append, List.set_append_right _ _ (by rw [marksII_len]; simp; omega), marksII_len, hd]
  simp only [List.length_take, marksII, List.append_assoc]
  rw [show j - min j ls.length = 0 by omega]
  rfl
theorem marksII_get {k : Int} {ls : List (List Int)} {j : Nat} {l : List Int} (h : ls[j]? = some l) : (marksII k ls)[j]? = some (marksI (k + tot (ls.take j)) l.length) := by
  have hj := (List.getElem?_eq_some_iff.1 h).1
  have e : ls = ls.take j ++ (l :: ls.drop (j + 1)) := by
    have hd : ls.drop j = l :: ls.drop (j + 1) := by
      rw [List.drop_eq_getElem_cons hj, (List.getElem?_eq_some_iff.1 h).2]
    rw [← hd, List.take_append_drop]
  have e2 : marksII k ls = marksII k (ls.take j) ++ marksII (k + tot (ls.take j)) (l :: ls.drop (j + 1)) := by
    rw [← marksII_append, ← e]
  rw [e2, List.getElem?_append_right (by rw [marksII_len]; simp; omega), marksII_len]
  simp only [List.length_take, marksII]
  rw [show j - min j ls.length = 0 by omega]
  rfl
end Go.Proofs.Ytpikgigfeifliaa
