/-
  PURE: terms in order, sets of terms, segments as data.
-/
import Derived.Test.YtbfmljogfljhdaaLeaf
namespace Go.Proofs.Ytbfmljogfljhdaa

abbrev Y := Int × Int
def LtY (a b : Y) : Prop := a.1 < b.1 ∨ (a.1 = b.1 ∧ a.2 < b.2)
instance (a b : Y) : Decidable (LtY a b) := by unfold LtY; infer_instance
theorem LtY.irrefl (a : Y) : ¬ LtY a a := by unfold LtY; omega
theorem LtY.trans {a b c : Y} (h : LtY a b) (g : LtY b c) : LtY a c := by unfold LtY at *; omega
theorem LtY.asymm {a b : Y} (h : LtY a b) : ¬ LtY b a := fun g => LtY.irrefl a (h.trans g)
theorem LtY.ne {a b : Y} (h : LtY a b) : a ≠ b := fun e => LtY.irrefl a (by rw [← e] at h; exact h)
theorem LtY.tri (a b : Y) : a = b ∨ LtY a b ∨ LtY b a := by
  unfold LtY
  obtain ⟨a1, a2⟩ := a
  obtain ⟨b1, b2⟩ := b
  simp only [Prod.mk.injEq]
  omega
def cmpI (a b : Int) : Int := if a < b then -1 else if b < a then 1 else 0
def cmpY (a b : Y) : Int := if cmpI a.1 b.1 ≠ 0 then cmpI a.1 b.1 else cmpI a.2 b.2
theorem cmpY_lt (a b : Y) : cmpY a b < 0 ↔ LtY a b := by
  unfold cmpY cmpI LtY
  repeat' split
  all_goals omega
theorem cmpY_zero (a b : Y) : cmpY a b = 0 ↔ a = b := by
  obtain ⟨a1, a2⟩ := a
  obtain ⟨b1, b2⟩ := b
  unfold cmpY cmpI
  simp only [Prod.mk.injEq]
  repeat' split
  all_goals omega
/-- A list of terms, ascending, with just these members. -/
structure IsSet (m L : List Y) : Prop where
  asc : m.Pairwise LtY
  mem : ∀ p, p ∈ m ↔ p ∈ L
theorem asc_nodup {m : List Y} (h : m.Pairwise LtY) : m.Nodup := h.imp fun h => h.ne
theorem asc_unique : ∀ {m m' : List Y}, m.Pairwise LtY → m'.Pairwise LtY → (∀ p, p ∈ m ↔ p ∈ m') → m = m'
  | [], [], _, _, _ => rfl
  | [], b :: l', _, _, h => absurd ((h b).2 (by simp)) (by simp)
  | a :: l, [], _, _, h => absurd ((h a).1 (by simp)) (by simp)
  | a :: l, b :: l', ha, hb, h => by
    rw [List.pairwise_cons] at ha hb
    have e : a = b := by
      rcases LtY.tri a b with e | e | e
      · exact e
      · rcases List.mem_cons.1 ((h a).1 (by simp)) with e2 | e2
        · exact e2
        · exact absurd (e.trans (hb.1 a e2)) (LtY.irrefl a)
      · rcases List.mem_cons.1 ((h b).2 (by simp)) with e2 | e2
        · exact e2.symm
        · exact absurd (e.trans (ha.1 b e2)) (LtY.irrefl b)
    subst e
    congr 1
    refine asc_unique ha.2 hb.2 fun p => ⟨fun hp => ?_, fun hp => ?_⟩
    · rcases List.mem_cons.1 ((h p).1 (by simp [hp])) with e2 | e2
      · subst e2
        exact absurd (ha.1 _ hp) (LtY.irrefl _)
      · exact e2
    · rcases List.mem_cons.1 ((h p).2 (by simp [hp])) with e2 | e2
      · subst e2
        exact absurd (hb.1 _ hp) (LtY.irrefl _)
      · exact e2
theorem IsSet.unique {m m' L : List Y} (h : IsSet m L) (h' : IsSet m' L) : m = m' := asc_unique h.asc h'.asc fun p => (h.mem p).trans (h'.mem p).symm
theorem IsSet.self {L : List Y} (h : L.Pairwise LtY) : IsSet L L := ⟨h, fun _ => Iff.rfl⟩
theorem IsSet.same {m L : List Y} (h : IsSet m L) : L = m ↔ L.Pairwise LtY :=
  ⟨fun e => by rw [e]; exact h.asc, fun a => (h.unique (IsSet.self a)).symm⟩
theorem IsSet.le {m L : List Y} (h : IsSet m L) : m.length ≤ L.length := (asc_nodup h.asc).length_le_of_subset fun p hp => (h.mem p).1 hp
theorem IsSet.full {m L : List Y} (h : IsSet m L) : m.length = L.length ↔ L.Nodup := by
  refine ⟨fun e => ?_, fun nd => ?_⟩
  · -- the set is as long as the list: nothing stands twice
    refine Classical.byContradiction fun hn => ?_
    have key : ∀ {l : List Y}, ¬ l.Nodup → ∃ l' : List Y, l'.length < l.length ∧ ∀ p, p ∈ l ↔ p ∈ l' := by
      intro l
      induction l with
      | nil => intro h; exact absurd List.nodup_nil h
      | cons a l ih =>
        intro h
        by_cases ha : a ∈ l
        · exact ⟨l, by simp, fun p => by simp; intro e; subst e; exact ha⟩
        · have : ¬ l.Nodup := fun g => h (List.nodup_cons.2 ⟨ha, g⟩)
          obtain ⟨l', h1, h2⟩ := ih this
          exact ⟨a :: l', by simp; omega, fun p => by simp [h2 p]⟩
    obtain ⟨l', h1, h2⟩ := key hn
    have h3 := (IsSet.mk h.asc fun p => (h.mem p).trans (h2 p)).le
    omega
  · exact ((List.perm_ext_iff_of_nodup (asc_nodup h.asc) nd).2 h.mem).length_eq
theorem IsSet.nil : IsSet [] [] := ⟨List.Pairwise.nil, fun _ => Iff.rfl⟩
/-- One more, which the last one is. -/
theorem IsSet.again {m L : List Y} {a : Y} (h : IsSet m L) (hl : a ∈ L) : IsSet m (L ++ [a]) :=
  ⟨h.asc, fun p => by rw [h.mem p]; simp; intro e; subst e; exact hl⟩
/-- One more, beyond all. -/
theorem IsSet.more {m L : List Y} {a : Y} (h : IsSet m L) (hl : ∀ p, p ∈ L → LtY p a) : IsSet (m ++ [a]) (L ++ [a]) :=
  ⟨List.pairwise_append.2 ⟨h.asc, by simp, fun p hp q hq => by simp at hq; subst hq; exact hl p ((h.mem p).1 hp)⟩, fun p => by simp [h.mem p]⟩
theorem asc_filter {m : List Y} (h : m.Pairwise LtY) (f : Y → Bool) : (m.filter f).Pairwise LtY := List.Pairwise.filter f h

/-! Segments as data -/
abbrev VV := Int × Int × Bool
def lenP (size l : Int) : Prop := (2 ≤ size ∧ size ≤ 13) ∧ (1 ≤ l ∧ l ≤ size - 1)
instance (size l : Int) : Decidable (lenP size l) := by unfold lenP; infer_instance
def symP (size : Int) (p : Y) : Prop := (1 ≤ size ∧ size ≤ 13) ∧ (0 ≤ p.1 ∧ p.1 ≤ size - 1) ∧ (-1000 ≤ p.2 ∧ p.2 ≤ 1000)
instance (size : Int) (p : Y) : Decidable (symP size p) := by unfold symP; infer_instance
structure RowP (size : Int) (b : List Y) : Prop where
  ne : b ≠ []
  sym : ∀ p, p ∈ b → symP size p
  asc : b.Pairwise LtY
structure OkS (size l : Int) (B : List (List Y)) (V : List VV) (M : List Bool) : Prop where
  len : lenP size l
  k1 : 1 ≤ B.length
  k2 : B.length ≤ 16
  v : V.length + 1 = B.length
  m : M.length + 1 = B.length
  tot : B.flatten.length ≤ 40
  rows : ∀ b, b ∈ B → RowP size b
  nodup : B.flatten.Nodup
  vals : ∀ v, v ∈ V → okB v.1 v.2.1 = true
  first : ((0, 0) : Y) ∈ B.headD []
  last : ((l, 0) : Y) ∈ B.getLastD []
/-- The first row in which a term stands. -/
def inY (B : List (List Y)) (t : Y) : Option Nat := B.findIdx? fun b => decide (t ∈ b)
def toI : Option Nat → Int
  | some n => n
  | none => -1
theorem inY_some {B : List (List Y)} {t : Y} {i : Nat} : inY B t = some i ↔ ∃ h : i < B.length, t ∈ B[i] ∧ ∀ j (hj : j < i), t ∉ B[j] := by
  unfold inY
  rw [List.findIdx?_eq_some_iff_getElem]
  simp
theorem inY_none {B : List (List Y)} {t : Y} : inY B t = none ↔ ∀ b, b ∈ B → t ∉ b := by
  unfold inY
  rw [List.findIdx?_eq_none_iff]
  simp
theorem toI_eq {o : Option Nat} {i : Nat} : toI o = (i : Int) ↔ o = some i := by
  cases o with
  | none => simp [toI]
  | some n => simp [toI]; omega
/-- All terms stand first where they stand: no two rows have one in common. -/
theorem nodup_of_in {B : List (List Y)} (ha : ∀ b, b ∈ B → b.Pairwise LtY) (h : ∀ (i : Nat) (b : List Y), B[i]? = some b → ∀ p, p ∈ b → inY B p = some i) : B.flatten.Nodup := by
  refine List.pairwise_flatten.2 ⟨fun b hb => asc_nodup (ha b hb), ?_⟩
  rw [List.pairwise_iff_getElem]
  intro i j hi hj hij p hp q hq e
  subst e
  have h1 := h i B[i] (List.getElem?_eq_getElem hi) p hp
  have h2 := h j B[j] (List.getElem?_eq_getElem hj) p hq
  rw [h1] at h2
  simp at h2
  omega
theorem in_of_nodup {B : List (List Y)} (h : B.flatten.Nodup) {i : Nat} {b : List Y} (hb : B[i]? = some b) {p : Y} (hp : p ∈ b) : inY B p = some i := by
  obtain ⟨hi, rfl⟩ := List.getElem?_eq_some_iff.1 hb
  refine inY_some.2 ⟨hi, hp, fun j hj hq => ?_⟩
  have := (List.pairwise_flatten.1 h).2
  rw [List.pairwise_iff_getElem] at this
  exact this j i (by omega) hi hj p hq p hp rfl
theorem tot_take (B : List (List Y)) (i : Nat) : (B.take i).flatten.length ≤ B.flatten.length := by
  have : B.flatten = (B.take i).flatten ++ (B.drop i).flatten := by rw [← List.flatten_append, List.take_append_drop]
  rw [this]; simp
theorem tot_succ {B : List (List Y)} {i : Nat} {b : List Y} (h : B[i]? = some b) : (B.take (i + 1)).flatten.length = (B.take i).flatten.length + b.length := by
  rw [List.take_add_one, h]; simp
end Go.Proofs.Ytbfmljogfljhdaa
