/-
  PURE: the terms of one symbol, bound by bound; what is left without them.
  PURE: terms put in order, each once; which terms are added when a symbol is copied.
  PURE: rows that are sharpened: over links (the program's way) and over the three lists (the specification's).
-/
import Derived.Test.YtihpajiololfoaaGreatSh06
import Derived.Test.YtihpajiololfoaaGreatSh28
namespace Go.Proofs.YtihpajiololfoaaGreat
open Go.RowKit

def wv (v : Int) (l : List Y) : List Y := l.filter fun p => decide (p.1 = v)
def tv (v : Int) : List (List Y) → List Y
  | [] => []
  | b :: B => wv v b ++ tv v B
/-- What is left of a row of links. -/
def Rest (w : World) (p : Option Addr) : List Lk → Prop
  | [] => p = none
  | k :: r => ∃ X, p = some ⟨X, 0, none⟩ ∧ Chain w X (k :: r)
theorem Rest.next {w : World} {p : Option Addr} {k : Lk} {r : List Lk} (h : Rest w p (k :: r)) : ∃ X q, p = some ⟨X, 0, none⟩ ∧ LinkAt w X k q ∧ Rest w q r := by
  obtain ⟨X, h1, h2⟩ := h
  cases r with
  | nil => exact ⟨X, none, h1, h2, rfl⟩
  | cons k' r => obtain ⟨X', h3, h4⟩ := h2; exact ⟨X, _, h1, h3, X', rfl, h4⟩
theorem Rest.start {w : World} {X : Nat} {ks : List Lk} (h : Chain w X ks) : Rest w (some ⟨X, 0, none⟩) ks := by
  cases ks with
  | nil => exact h.elim
  | cons k r => exact ⟨X, rfl, h⟩
end Go.Proofs.YtihpajiololfoaaGreat
namespace Go.Proofs.YtihpajiololfoaaGreat
open Go.RowKit

instance (a b : Y) : Decidable (LtY a b) := by unfold LtY; infer_instance
def insY (p : Y) : List Y → List Y
  | [] => [p]
  | q :: r => if p = q then q :: r else if LtY p q then p :: q :: r else q :: insY p r
theorem ins_mem (p x : Y) : ∀ l : List Y, x ∈ insY p l ↔ x = p ∨ x ∈ l
  | [] => by simp [insY]
  | q :: r => by
    unfold insY
    split
    · rename_i e; subst e; simp
    · split
      · simp
      · simp only [List.mem_cons, ins_mem p x r]
        constructor
        · rintro (h | h | h) <;> simp [h]
        · rintro (h | h | h) <;> simp [h]
theorem ins_asc (p : Y) : ∀ {l : List Y}, l.Pairwise LtY → (insY p l).Pairwise LtY
  | [], _ => by simp [insY]
  | q :: r, h => by
    rw [List.pairwise_cons] at h
    unfold insY
    split
    · exact List.pairwise_cons.2 h
    · split
      · rename_i h1
        exact List.pairwise_cons.2 ⟨fun x hx => by rcases List.mem_cons.1 hx with e | e; (rw [e]; exact h1); exact h1.trans (h.1 x e), List.pairwise_cons.2 h⟩
      · rename_i h0 h1
        refine List.pairwise_cons.2 ⟨fun x hx => ?_, ins_asc p h.2⟩
        rcases (ins_mem p x r).1 hx with e | e
        · rw [e]; rcases LtY.tri p q with e2 | e2 | e2
          · exact absurd e2 h0
          · exact absurd e2 h1
          · exact e2
        · exact h.1 x e
theorem ins_old {p : Y} : ∀ {l : List Y}, l.Pairwise LtY → p ∈ l → insY p l = l
  | [], _, h => by simp at h
  | q :: r, h, hm => by
    rw [List.pairwise_cons] at h
    unfold insY
    split
    · rfl
    · rename_i h0
      have hr : p ∈ r := by rcases List.mem_cons.1 hm with e | e; exact absurd e h0; exact e
      have : ¬ LtY p q := (h.1 p hr).asymm
      rw [if_neg this, ins_old h.2 hr]
/-- Where a new one goes. -/
theorem ins_at {p : Y} : ∀ {l : List Y} (k : Nat), k ≤ l.length → (∀ i x, i < k → l[i]? = some x → LtY x p) → (∀ x, l[k]? = some x → ¬ LtY x p) → p ∉ l → insY p l = l.take k ++ p :: l.drop k
  | [], k, hk, _, _, _ => by
    obtain rfl : k = 0 := by simpa using hk
    simp [insY]
  | q :: r, 0, _, _, h2, hn => by
    have h0 : p ≠ q := fun e => hn (by simp [e])
    have h1 : LtY p q := by
      rcases LtY.tri p q with e | e | e
      · exact absurd e h0
      · exact e
      · exact absurd e (h2 q rfl)
    simp [insY, h0, h1]
  | q :: r, k + 1, hk, h1, h2, hn => by
    have hq : LtY q p := h1 0 q (by omega) rfl
    have h0 : p ≠ q := fun e => hn (by simp [e])
    have hl : ¬ LtY p q := hq.asymm
    have IH := ins_at (p := p) (l := r) k (by simpa using hk) (fun i x hi hx => h1 (i + 1) x (by omega) (by simpa using hx)) (fun x hx => h2 x (by simpa using hx)) (fun h => hn (List.mem_cons_of_mem _ h))
    unfold insY
    rw [if_neg h0, if_neg hl, IH]
    simp
def setL (acc : List Y) : List Y → List Y
  | [] => acc
  | p :: l => setL (insY p acc) l
def setY (l : List Y) : List Y := setL [] l
theorem setL_snoc (p : Y) : ∀ (acc l : List Y), setL acc (l ++ [p]) = insY p (setL acc l)
  | _, [] => rfl
  | acc, q :: l => setL_snoc p (insY q acc) l
theorem setY_next {l : List Y} {i : Nat} {x : Y} (hx : l[i]? = some x) : setY (l.take (i + 1)) = insY x (setY (l.take i)) := by
  obtain ⟨hi, rfl⟩ := List.getElem?_eq_some_iff.1 hx
  unfold setY
  rw [List.take_succ_eq_append_getElem hi, setL_snoc]
theorem setL_set : ∀ (acc l : List Y), acc.Pairwise LtY → (setL acc l).Pairwise LtY ∧ ∀ p, p ∈ setL acc l ↔ p ∈ acc ∨ p ∈ l
  | acc, [], h => ⟨h, fun p => by simp [setL]⟩
  | acc, q :: l, h => by
    have IH := setL_set (insY q acc) l (ins_asc q h)
    refine ⟨IH.1, fun p => ?_⟩
    show p ∈ setL (insY q acc) l ↔ _
    rw [IH.2 p, ins_mem]
    simp only [List.mem_cons]
    constructor
    · rintro ((h | h) | h) <;> simp [h]
    · rintro (h | h | h) <;> simp [h]
theorem setY_set (l : List Y) : IsSet (setY l) l := ⟨(setL_set [] l List.Pairwise.nil).1, fun p => by rw [show p ∈ setY l ↔ _ from (setL_set [] l List.Pairwise.nil).2 p]; simp⟩
theorem setY_len (l : List Y) : (setY l).length ≤ l.length := (setY_set l).le
end Go.Proofs.YtihpajiololfoaaGreat
namespace Go.Proofs.YtihpajiololfoaaGreat
open Go.RowKit

/-- No cell, as the specification asks it. -/
def noVB (v : VV) : Bool := v.2.2 && !isB v.1 v.2.1
theorem noVB_iff {v : VV} (h : okB v.1 v.2.1 = true) : noVB v = decide (v = noneV) := by
  obtain ⟨a, b, s⟩ := v
  unfold noVB isB noneV
  unfold okB at h
  have h := of_decide_eq_true h
  simp only at h ⊢
  rw [Bool.eq_iff_iff]
  simp only [Bool.and_eq_true, Bool.not_eq_true', decide_eq_false_iff_not, decide_eq_true_eq, Prod.mk.injEq]
  constructor
  · rintro ⟨h1, h2⟩; exact ⟨by omega, by omega, h1⟩
  · rintro ⟨h1, h2, h3⟩; exact ⟨h3, by omega⟩
def fil (f : Q.Tab) : List Lk → List Lk
  | k :: k' :: r => ⟨k.b, k.v, k.m && !anyB f k.b k'.b 1⟩ :: fil f (k' :: r)
  | l => l
def fol (f : Q.Tab) : Lk → List Lk → List Lk
  | cur, [] => [cur]
  | cur, n :: r => if (cur.m && (decide (cur.v = noneV) || anyB f n.b cur.b 0)) = true then fol f ⟨setY (cur.b ++ n.b), n.v, n.m⟩ r else cur :: fol f n r
def folS (f : Q.Tab) : List Lk → List Lk
  | [] => []
  | k :: r => fol f k r
def fmB (f : Q.Tab) : List (List Y) → List Bool → List Bool
  | b :: b' :: B, m :: M => (m && !anyB f b b' 1) :: fmB f (b' :: B) M
  | _, M => M
def shR (f : Q.Tab) (cur : List Y) : List (List Y) → List VV → List Bool → List (List Y) × List VV × List Bool
  | b :: B, v :: V, m :: M => if (m && (noVB v || anyB f b cur 0)) = true then shR f (setY (cur ++ b)) B V M else (cur :: (shR f b B V M).1, v :: (shR f b B V M).2.1, m :: (shR f b B V M).2.2)
  | _, _, _ => ([cur], [], [])
/-- What SegSharpen answers of a row that is ok. -/
def shSG (f : Q.Tab) (S : SG) : SG := ⟨(shR f (S.B.headD []) S.B.tail S.V (fmB f S.B S.M)).1, (shR f (S.B.headD []) S.B.tail S.V (fmB f S.B S.M)).2.1, (shR f (S.B.headD []) S.B.tail S.V (fmB f S.B S.M)).2.2⟩
theorem fmB_len (f : Q.Tab) : ∀ (B : List (List Y)) (M : List Bool), (fmB f B M).length = M.length
  | [], M => by unfold fmB; cases M <;> rfl
  | [b], M => by unfold fmB; cases M <;> rfl
  | b :: b' :: B, [] => rfl
  | b :: b' :: B, m :: M => by show (_ :: fmB f (b' :: B) M).length = _; rw [List.length_cons, fmB_len f (b' :: B) M]; rfl
theorem links_two (b b' : List Y) (B : List (List Y)) (v : VV) (V : List VV) (m : Bool) (M : List Bool) : linksOf (b :: b' :: B) (v :: V) (m :: M) = ⟨b, v, m⟩ :: linksOf (b' :: B) V M := rfl
theorem links_head (B : List (List Y)) (V : List VV) (M : List Bool) : ∃ v m r, ∀ c, linksOf (c :: B) V M = ⟨c, v, m⟩ :: r := by
  cases B with
  | nil => exact ⟨(0, 0, false), false, [], fun c => rfl⟩
  | cons b' B => exact ⟨_, _, _, fun c => rfl⟩
theorem fil_links (f : Q.Tab) : ∀ (B : List (List Y)) (V : List VV) (M : List Bool), V.length + 1 = B.length → M.length + 1 = B.length → fil f (linksOf B V M) = linksOf B V (fmB f B M)
  | [], _, _, h, _ => by simp at h
  | [b], V, M, _, hm => by
    have e2 : M = [] := List.eq_nil_of_length_eq_zero (by simpa using hm)
    subst e2
    rfl
  | b :: b' :: B, V, M, hv, hm => by
    obtain ⟨v, V, rfl⟩ : ∃ v V', V = v :: V' := by cases V with | nil => simp at hv | cons v V => exact ⟨v, V, rfl⟩
    obtain ⟨m, M, rfl⟩ : ∃ v V', M = v :: V' := by cases M with | nil => simp at hm | cons v V => exact ⟨v, V, rfl⟩
    have ih := fil_links f (b' :: B) V M (by simpa using hv) (by simpa using hm)
    rw [links_two]
    show _ = linksOf (b :: b' :: B) (v :: V) ((m && !anyB f b b' 1) :: fmB f (b' :: B) M)
    rw [links_two, ← ih]
    obtain ⟨v', m', r, hr⟩ := links_head B V M
    rw [hr b']
    rfl
theorem segL_cons (k : Lk) {l : List Lk} (h : l ≠ []) : segL (k :: l) = ⟨k.b :: (segL l).B, k.v :: (segL l).V, k.m :: (segL l).M⟩ := by
  unfold segL
  rw [List.dropLast_cons_of_ne_nil h]
  rfl
theorem fol_ne (f : Q.Tab) : ∀ (r : List Lk) (k : Lk), fol f k r ≠ []
  | [], k => by unfold fol; simp
  | n :: r, k => by
    unfold fol
    split
    · exact fol_ne f r _
    · simp
theorem fol_links (f : Q.Tab) : ∀ (B : List (List Y)) (V : List VV) (M : List Bool) (cur : List Y), V.length = B.length → M.length = B.length → (∀ x, x ∈ V → okB x.1 x.2.1 = true) → segL (folS f (linksOf (cur :: B) V M)) = ⟨(shR f cur B V M).1, (shR f cur B V M).2.1, (shR f cur B V M).2.2⟩
  | [], V, M, cur, hv, hm, _ => by
    have e1 : V = [] := List.eq_nil_of_length_eq_zero (by simpa using hv)
    have e2 : M = [] := List.eq_nil_of_length_eq_zero (by simpa using hm)
    subst e1 e2
    rfl
  | b :: B, V, M, cur, hv, hm, ho => by
    obtain ⟨v, V, rfl⟩ : ∃ v V', V = v :: V' := by cases V with | nil => simp at hv | cons v V => exact ⟨v, V, rfl⟩
    obtain ⟨m, M, rfl⟩ : ∃ v V', M = v :: V' := by cases M with | nil => simp at hm | cons v V => exact ⟨v, V, rfl⟩
    have ho' : ∀ x, x ∈ V → okB x.1 x.2.1 = true := fun x hx => ho x (List.mem_cons_of_mem _ hx)
    have hv' : V.length = B.length := by simpa using hv
    have hm' : M.length = B.length := by simpa using hm
    have hn := noVB_iff (ho v (List.mem_cons_self ..))
    obtain ⟨v', m', r, hr⟩ := links_head B V M
    rw [links_two, hr b]
    show segL (fol f ⟨cur, v, m⟩ (⟨b, v', m'⟩ :: r)) = _
    unfold fol shR
    simp only
    rw [hn]
    by_cases hc : (m && (decide (v = noneV) || anyB f b cur 0)) = true
    · rw [if_pos hc, if_pos hc]
      have ih := fol_links f B V M (setY (cur ++ b)) hv' hm' ho'
      rw [hr (setY (cur ++ b))] at ih
      exact ih
    · rw [if_neg hc, if_neg hc]
      have ih := fol_links f B V M b hv' hm' ho'
      rw [hr b] at ih
      have ih : segL (fol f ⟨b, v', m'⟩ r) = _ := ih
      rw [segL_cons _ (fol_ne f r _), ih]
/-- Both ways of sharpening come to the same lists. -/
theorem sharp_same {size lv : Int} {S : SG} (f : Q.Tab) (h : OkS size lv S.B S.V S.M) : segL (folS f (fil f (linksOf S.B S.V S.M))) = shSG f S := by
  rw [fil_links f S.B S.V S.M h.v h.m]
  have hk := h.k1
  have hv := h.v
  have hm := fmB_len f S.B S.M
  have hmm := h.m
  unfold shSG
  obtain ⟨b, B, hB⟩ : ∃ b B, S.B = b :: B := by cases hB : S.B with | nil => rw [hB] at hk; simp at hk | cons b B => exact ⟨b, B, rfl⟩
  rw [hB] at hv hm hmm ⊢
  exact fol_links f B S.V (fmB f (b :: B) S.M) b (by simpa using hv) (by rw [hm]; simpa using hmm) h.vals
end Go.Proofs.YtihpajiololfoaaGreat
