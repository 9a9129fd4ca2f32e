/-
  PURE: the text of facts.
-/
import Derived.Test.YthfiblldccnjcaaDoorStz
import Derived.Test.YthfiblldccnjcaaDoorFos
import Derived.Lib.Join
namespace Go.Proofs.YthfiblldccnjcaaDoor
open Go.RowKit

def nmAt (l : List ByteArray) (v : Nat) : ByteArray := l.getD (v - 1) ⟨#[]⟩
theorem nmAt_get {l : List ByteArray} {v : Nat} (h1 : 1 ≤ v) (h2 : v ≤ l.length) : l[v - 1]? = some (nmAt l v) := by
  unfold nmAt
  rw [List.getD_eq_getElem?_getD, List.getElem?_eq_getElem (by omega)]
  rfl
def pieceT (nm : List ByteArray) (i j : Nat) (x : Int) : ByteArray :=
  if j = 0 then (nmAt nm i ++ ⟨#[32, 60, 61, 32]⟩) ++ dI x else if i = 0 then (nmAt nm j ++ ⟨#[32, 62, 61, 32]⟩) ++ dI (-x) else (((nmAt nm i ++ ⟨#[32, 45, 32]⟩) ++ nmAt nm j) ++ ⟨#[32, 60, 61, 32]⟩) ++ dI x
theorem nm_size {nm : List ByteArray} (h : Fit nm 1048576) (i : Nat) : (nmAt nm i).size ≤ 1048576 := by
  unfold nmAt
  rw [List.getD_eq_getElem?_getD]
  cases e : nm[i - 1]? with
  | none => exact Nat.zero_le _
  | some x => exact h.2 _ x e
theorem piece_size {nm : List ByteArray} {i j : Nat} {x : Int} (h : Fit nm 1048576) (h0 : -2000000 ≤ x) (h1 : x ≤ 2000000) : 0 < (pieceT nm i j x).size ∧ (pieceT nm i j x).size ≤ 7000000 := by
  have a := nm_size h i
  have b := nm_size h j
  have c := dI_size x (by omega) (by omega)
  have d := dI_size (-x) (by omega) (by omega)
  have e1 : (ByteArray.mk #[32, 60, 61, 32]).size = 4 := rfl
  have e2 : (ByteArray.mk #[32, 62, 61, 32]).size = 4 := rfl
  have e3 : (ByteArray.mk #[32, 45, 32]).size = 3 := rfl
  unfold pieceT
  split
  · simp only [ByteArray.size_append]; omega
  · split <;> (simp only [ByteArray.size_append]; omega)
/-- What is said by the first k numbers. -/
def saidL (n : Nat) (l : List Int) (nm : List ByteArray) : Nat → List ByteArray
  | 0 => []
  | k + 1 => saidL n l nm k ++ (if l.getD k 0 = capT (k / n) (k % n) then [] else [pieceT nm (k / n) (k % n) (l.getD k 0)])
theorem said_len (n : Nat) (l : List Int) (nm : List ByteArray) : ∀ k, (saidL n l nm k).length ≤ k
  | 0 => Nat.le_refl _
  | k + 1 => by
    have := said_len n l nm k
    unfold saidL
    rw [List.length_append]
    split <;> simp <;> omega
theorem said_size {n : Nat} {l : List Int} {nm : List ByteArray} (h : Fit nm 1048576) (hx : ∀ k, -2000000 ≤ l.getD k 0 ∧ l.getD k 0 ≤ 2000000) : ∀ k s, s ∈ saidL n l nm k → 0 < s.size ∧ s.size ≤ 7000000
  | 0, s, hs => by simp [saidL] at hs
  | k + 1, s, hs => by
    unfold saidL at hs
    rcases List.mem_append.1 hs with e | e
    · exact said_size h hx k s e
    · split at e
      · simp at e
      · simp at e; rw [e]; exact piece_size h (hx k).1 (hx k).2
def joinB (L : List ByteArray) : ByteArray := ⟨(Lib.join (L.map (·.data.toList)) [44, 32]).toArray⟩
theorem joinB_nil : joinB [] = ⟨#[]⟩ := rfl
theorem joinB_one (s : ByteArray) : joinB [s] = s := by
  unfold joinB
  rw [List.map_cons, List.map_nil, Lib.join_one]
theorem joinTail_snoc (sep : List UInt8) (r : List (List UInt8)) (y : List UInt8) : Lib.joinTail sep (r ++ [y]) = Lib.joinTail sep r ++ (sep ++ y) := by simp [Lib.joinTail]
theorem ba_app (a b : ByteArray) : (a ++ b).data.toList = a.data.toList ++ b.data.toList := by simp
theorem joinB_snoc {L : List ByteArray} (s : ByteArray) (h : L ≠ []) : joinB (L ++ [s]) = (joinB L ++ ⟨#[44, 32]⟩) ++ s := by
  cases L with
  | nil => exact absurd rfl h
  | cons x L =>
    apply list_inj
    rw [ba_app, ba_app]
    unfold joinB
    simp only [List.cons_append, List.map_cons, List.map_append, List.map_nil, Lib.join_cons, joinTail_snoc]
    simp
theorem joinB_size : ∀ (L : List ByteArray) (M : Nat), (∀ s, s ∈ L → s.size ≤ M) → (joinB L).size ≤ L.length * (M + 2) := by
  intro L M h
  have key : ∀ (r : List ByteArray), (∀ s, s ∈ r → s.size ≤ M) → (Lib.joinTail [44, 32] (r.map (·.data.toList))).length ≤ r.length * (M + 2) := by
    intro r
    induction r with
    | nil => intro _; simp [Lib.joinTail]
    | cons y r ih =>
      intro hr
      have h1 := ih (fun s hs => hr s (List.mem_cons_of_mem _ hs))
      have h2 := hr y List.mem_cons_self
      have h3 : y.data.toList.length = y.size := ba_len y
      simp only [Lib.joinTail, List.map_cons, List.flatten_cons, List.length_append, List.length_cons, List.length_nil] at h1 ⊢
      rw [Nat.add_mul]
      omega
  cases L with
  | nil => exact Nat.zero_le _
  | cons x L =>
    have h1 := key L (fun s hs => h s (List.mem_cons_of_mem _ hs))
    have h2 := h x List.mem_cons_self
    have h3 : x.data.toList.length = x.size := ba_len x
    have e : (joinB (x :: L)).size = (Lib.join ((x :: L).map (·.data.toList)) [44, 32]).length := by unfold joinB; exact List.size_toArray
    rw [e, List.map_cons, Lib.join_cons, List.length_append, List.length_cons, Nat.add_mul]
    omega
theorem joinB_pos {L : List ByteArray} (h : L ≠ []) (hp : ∀ s, s ∈ L → 0 < s.size) : 0 < (joinB L).size := by
  cases L with
  | nil => exact absurd rfl h
  | cons x L =>
    have h2 := hp x List.mem_cons_self
    have h3 : x.data.toList.length = x.size := ba_len x
    have e : (joinB (x :: L)).size = (Lib.join ((x :: L).map (·.data.toList)) [44, 32]).length := by unfold joinB; exact List.size_toArray
    rw [e, List.map_cons, Lib.join_cons, List.length_append]
    omega
def anyT (L : List ByteArray) : ByteArray := if L = [] then ⟨#[97, 110, 121]⟩ else joinB L
def fitB (z : Int) (l : List Int) (nm : List ByteArray) : Bool := okF z l && (decide ((nm.length : Int) = z - 1) && labsB nm)
def factsT (z : Int) (l : List Int) (nm : List ByteArray) : ByteArray :=
  if noF z l then ⟨#[110, 111, 110, 101]⟩ else if fitB z l nm then anyT (saidL z.toNat l nm l.length) else ⟨#[]⟩
theorem ok_each {n : Nat} {l : List Int} (h : okF n l = true) : ∀ p, p < n * n → entB (p / n) (p % n) (l.getD p 0) = true := by
  unfold okF at h
  simp only [Bool.and_eq_true, decide_eq_true_eq, List.all_eq_true, List.mem_range, Int.toNat_natCast] at h
  obtain ⟨⟨_, _, h3⟩, h4⟩ := h
  intro p hp
  exact h4 p (by omega)
theorem okF_size {n : Nat} {l : List Int} (h : okF n l = true) : l.length = n * n := by
  unfold okF at h
  simp only [Bool.and_eq_true, decide_eq_true_eq, List.all_eq_true, List.mem_range, Int.toNat_natCast] at h
  exact h.1.2.2
theorem ent_all {i j : Nat} {x : Int} (h : entB i j x = true) : -2000000 ≤ x ∧ x ≤ capT i j ∧ (i = j → x = 0) ∧ x ≤ 2000000 := by
  have h := of_decide_eq_true h
  have := cap_le i j
  exact ⟨h.1, h.2.1, fun e => h.2.2.elim (fun h2 => absurd e h2) id, by omega⟩
theorem ok_num {n : Nat} {l : List Int} (h : okF n l = true) (k : Nat) : -2000000 ≤ l.getD k 0 ∧ l.getD k 0 ≤ 2000000 := by
  by_cases hk : k < n * n
  · have := ent_all (ok_each h k hk); omega
  · have := okF_size h
    rw [List.getD_eq_getElem?_getD, List.getElem?_eq_none (by omega)]
    simp
end Go.Proofs.YthfiblldccnjcaaDoor
