/-
  PURE: texts that are joined; the text of a row of segments.
-/
import Derived.Test.YthfiblldccnjcaaGreatDoorVt
import Derived.Test.YthfiblldccnjcaaGreatDoorRo
import Derived.Lib.Join
namespace Go.Proofs.YthfiblldccnjcaaGreatDoor
open Go.RowKit

theorem ba_app (a b : ByteArray) : (a ++ b).data.toList = a.data.toList ++ b.data.toList := by simp
def joinS (sep : List UInt8) (L : List ByteArray) : ByteArray := ⟨(Lib.join (L.map (·.data.toList)) sep).toArray⟩
theorem joinS_one (sep : List UInt8) (s : ByteArray) : joinS sep [s] = s := by
  unfold joinS
  rw [List.map_cons, List.map_nil, Lib.join_one]
theorem joinTail_snoc (sep : List UInt8) (r : List (List UInt8)) (y : List UInt8) : Lib.joinTail sep (r ++ [y]) = Lib.joinTail sep r ++ (sep ++ y) := by simp [Lib.joinTail]
theorem joinS_snoc {sep : List UInt8} {L : List ByteArray} (s : ByteArray) (h : L ≠ []) : joinS sep (L ++ [s]) = (joinS sep L ++ ⟨sep.toArray⟩) ++ s := by
  cases L with
  | nil => exact absurd rfl h
  | cons x L =>
    apply list_inj
    rw [ba_app, ba_app]
    unfold joinS
    simp only [List.cons_append, List.map_cons, List.map_append, List.map_nil, Lib.join_cons, joinTail_snoc]
    simp
theorem joinS_len (sep : List UInt8) (L : List ByteArray) : (joinS sep L).size = (Lib.join (L.map (·.data.toList)) sep).length := by unfold joinS; exact List.size_toArray
theorem joinS_size (sep : List UInt8) (L : List ByteArray) (M : Nat) (h : ∀ s, s ∈ L → s.size ≤ M) : (joinS sep L).size ≤ L.length * (M + sep.length) := by
  have key : ∀ (r : List ByteArray), (∀ s, s ∈ r → s.size ≤ M) → (Lib.joinTail sep (r.map (·.data.toList))).length ≤ r.length * (M + sep.length) := by
    intro r
    induction r with
    | nil => intro _; simp [Lib.joinTail]
    | cons y r ih =>
      intro hr
      have h1 := ih (fun s hs => hr s (List.mem_cons_of_mem _ hs))
      have h2 := hr y List.mem_cons_self
      have h3 : y.data.toList.length = y.size := ba_len y
      simp only [Lib.joinTail, List.map_cons, List.flatten_cons, List.length_append, List.length_cons] at h1 ⊢
      rw [Nat.add_mul]
      omega
  rw [joinS_len]
  cases L with
  | nil => exact Nat.zero_le _
  | cons x L =>
    have h1 := key L (fun s hs => h s (List.mem_cons_of_mem _ hs))
    have h2 := h x List.mem_cons_self
    have h3 : x.data.toList.length = x.size := ba_len x
    rw [List.map_cons, Lib.join_cons, List.length_append, List.length_cons, Nat.add_mul]
    omega
/-- The texts of terms. -/
def tT (nm : List ByteArray) (b : List Y) : List ByteArray := b.map fun p => textS nm p.1 p.2
theorem tT_snoc {nm : List ByteArray} {b : List Y} {k : Nat} {p : Y} (h : b[k]? = some p) : tT nm (b.take (k + 1)) = tT nm (b.take k) ++ [textS nm p.1 p.2] := by
  unfold tT
  rw [List.take_add_one, h]
  simp
theorem tT_len (nm : List ByteArray) (b : List Y) : (tT nm b).length = b.length := by simp [tT]
def bT (nm : List ByteArray) (b : List Y) : ByteArray := (⟨#[123]⟩ ++ joinS [44, 32] (tT nm b)) ++ ⟨#[125]⟩
def vT (v : VV) : ByteArray := textV v.1 v.2.1 v.2.2
def qB : ByteArray := ⟨#[63]⟩
/-- The pieces up to bound k. -/
def pcs (nm : List ByteArray) (S : SG) : Nat → List ByteArray
  | 0 => [bT nm (S.B.getD 0 [])]
  | k + 1 => (pcs nm S k ++ [vT (S.V.getD k (0, 0, false))]) ++ ((if S.M.getD k false then [qB] else []) ++ [bT nm (S.B.getD (k + 1) [])])
def segT (nm : List ByteArray) (S : SG) : ByteArray := joinS [32] (pcs nm S (S.B.length - 1))
theorem pcs_ne (nm : List ByteArray) (S : SG) : ∀ k, pcs nm S k ≠ []
  | 0 => by simp [pcs]
  | k + 1 => by simp [pcs]
theorem pcs_len (nm : List ByteArray) (S : SG) : ∀ k, (pcs nm S k).length ≤ 3 * k + 1
  | 0 => by simp [pcs]
  | k + 1 => by
    have := pcs_len nm S k
    unfold pcs
    split <;> simp <;> omega
theorem textS_size {nm : List ByteArray} (hF : Fit nm 1048576) (v c : Int) : (textS nm v c).size ≤ 6000000 := by
  unfold textS
  split
  · rename_i h
    have hc : -1000 ≤ c ∧ c ≤ 1000 := by
      unfold symOk2 symOkB btw at h
      simp only [Bool.and_eq_true, decide_eq_true_eq] at h
      exact h.2.2.2
    have hn : (nmAt nm v).size ≤ 1048576 := by
      unfold nmAt
      rw [List.getD_eq_getElem?_getD]
      cases e : nm[(v - 1).toNat]? with
      | none => exact Nat.zero_le _
      | some x => exact hF.2 _ x e
    have h1 := dI_size c (by omega) (by omega)
    have h2 := dI_size (-c) (by omega) (by omega)
    have e1 : (ByteArray.mk #[32, 45, 32]).size = 3 := rfl
    have e2 : (ByteArray.mk #[32, 43, 32]).size = 3 := rfl
    unfold symT
    split
    · omega
    · split
      · omega
      · split <;> (simp only [ByteArray.size_append]; omega)
  · exact Nat.zero_le _
theorem vT_size (v : VV) : (vT v).size ≤ 9000013 := by
  unfold vT textV
  have := textM_size v.1 v.2.1
  have e : orB.size = 13 := rfl
  split
  · split
    · omega
    · simp only [ByteArray.size_append]; omega
  · exact Nat.zero_le _
theorem tT_size {nm : List ByteArray} (hF : Fit nm 1048576) (b : List Y) : ∀ s, s ∈ tT nm b → s.size ≤ 6000000 := by
  intro s hs
  obtain ⟨p, _, e⟩ := List.mem_map.1 hs
  rw [← e]
  exact textS_size hF p.1 p.2
theorem bT_size {nm : List ByteArray} (hF : Fit nm 1048576) {b : List Y} (hb : b.length ≤ 40) : (bT nm b).size ≤ 300000000 := by
  have h := joinS_size [44, 32] (tT nm b) 6000000 (tT_size hF b)
  rw [tT_len] at h
  have h2 : b.length * (6000000 + [44, 32].length (α := UInt8)) ≤ 40 * (6000000 + 2) := Nat.mul_le_mul_right _ hb
  have e1 : (ByteArray.mk #[123]).size = 1 := rfl
  have e2 : (ByteArray.mk #[125]).size = 1 := rfl
  unfold bT
  simp only [ByteArray.size_append]
  omega
theorem pcs_size {nm : List ByteArray} (hF : Fit nm 1048576) {S : SG} (hS : ∀ k, (S.B.getD k []).length ≤ 40) : ∀ k s, s ∈ pcs nm S k → s.size ≤ 300000000
  | 0, s, hs => by
    simp [pcs] at hs
    rw [hs]; exact bT_size hF (by have := hS 0; rwa [List.getD_eq_getElem?_getD] at this)
  | k + 1, s, hs => by
    unfold pcs at hs
    rcases List.mem_append.1 hs with h | h
    · rcases List.mem_append.1 h with h | h
      · exact pcs_size hF hS k s h
      · rw [List.mem_singleton.1 h]
        have := vT_size (S.V.getD k (0, 0, false))
        omega
    · rcases List.mem_append.1 h with h | h
      · split at h
        · rw [List.mem_singleton.1 h]; exact (by decide : qB.size ≤ 300000000)
        · cases h
      · rw [List.mem_singleton.1 h]; exact bT_size hF (hS (k + 1))
/-- One bound more, as the specification writes it. -/
theorem segT_step (nm : List ByteArray) (S : SG) (k : Nat) : joinS [32] (pcs nm S (k + 1)) = ((((joinS [32] (pcs nm S k) ++ ⟨#[32]⟩) ++ vT (S.V.getD k (0, 0, false))) ++ ⟨#[32]⟩) ++ (if S.M.getD k false then ⟨#[63, 32]⟩ else ⟨#[]⟩)) ++ bT nm (S.B.getD (k + 1) []) := by
  have h0 := pcs_ne nm S k
  rw [show pcs nm S (k + 1) = (pcs nm S k ++ [vT (S.V.getD k (0, 0, false))]) ++ ((if S.M.getD k false then [qB] else []) ++ [bT nm (S.B.getD (k + 1) [])]) from rfl]
  generalize pcs nm S k = P at h0
  cases S.M.getD k false
  · simp only [Bool.false_eq_true, if_false, List.nil_append]
    rw [joinS_snoc _ (by simp), joinS_snoc _ h0]
    apply list_inj
    simp only [ba_app]
    simp
  · simp only [if_true]
    rw [← List.append_assoc, joinS_snoc _ (by simp), joinS_snoc _ (by simp), joinS_snoc _ h0]
    apply list_inj
    simp only [ba_app]
    simp [qB]
end Go.Proofs.YthfiblldccnjcaaGreatDoor
