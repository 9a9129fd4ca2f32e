/-
  PURE: the specification's way of reading a term.
-/
import Derived.Test.YtiihjoliodemmaaDoorPzz
import Derived.Test.YtiihjoliodemmaaDoorRi
namespace Go.Proofs.YtiihjoliodemmaaDoor
open Go.Lib

/-- No term with a symbol below u + 1 has this text. -/
def From (l : List ByteArray) (t : List UInt8) (u : Nat) : Prop := ∀ v c, symOk2 l v c = true → t = (symT l v c).data.toList → (u : Int) + 1 ≤ v
theorem readS_labs {l : List ByteArray} {t : List UInt8} (h : (decide (l.length < 13) && labsB l) = false) : ReadsS l t none := fun v c hok _ => by
  obtain ⟨h1, _, _, h4, _⟩ := ok_parts hok
  rw [h1, decide_eq_true (by omega)] at h
  cases h
theorem readS_num {l : List ByteArray} {t : List UInt8} {n : Int} (hl : (decide (l.length < 13) && labsB l) = true) (h : IntR t 1000 (some n)) : ReadsS l t (some (0, n)) := by
  rw [Bool.and_eq_true, decide_eq_true_eq] at hl
  have hok : symOk2 l 0 n = true := ok_mk hl.2 (Int.le_refl _) (by omega) (by omega) h.2.1 h.2.2
  exact ⟨hok, by rw [symT_zero]; exact h.1, fun v c hv _ => (ok_parts hv).2.1⟩
theorem from_zero {l : List ByteArray} {t : List UInt8} (h : IntR t 1000 none) : From l t 0 := fun v c hok e => by
  obtain ⟨_, h0, _, _, c0, c1⟩ := ok_parts hok
  by_cases hv : v = 0
  · subst hv; rw [symT_zero] at e; exact absurd e (h c c0 c1)
  · omega
theorem from_next {l : List ByteArray} {t : List UInt8} {u : Nat} (h : From l t u) (hn : ∀ c, -1000 ≤ c → c ≤ 1000 → t ≠ (nmAt l ((u : Int) + 1)).data.toList ++ tailL c) : From l t (u + 1) := fun v c hok e => by
  have h1 := h v c hok e
  obtain ⟨_, _, _, _, c0, c1⟩ := ok_parts hok
  by_cases hv : v = (u : Int) + 1
  · subst hv
    rw [symT_more c (by omega)] at e
    exact absurd e (hn c c0 c1)
  · omega
theorem from_end {l : List ByteArray} {t : List UInt8} (h : From l t l.length) : ReadsS l t none := fun v c hok e => by
  have := h v c hok e
  have := (ok_parts hok).2.2.1
  omega
theorem from_hit {l : List ByteArray} {t : List UInt8} {u : Nat} {c : Int} (hl : (decide (l.length < 13) && labsB l) = true) (h : From l t u) (hu : u < l.length) (c0 : -1000 ≤ c) (c1 : c ≤ 1000) (e : t = (nmAt l ((u : Int) + 1)).data.toList ++ tailL c) : ReadsS l t (some ((u : Int) + 1, c)) := by
  rw [Bool.and_eq_true, decide_eq_true_eq] at hl
  have hok : symOk2 l ((u : Int) + 1) c = true := ok_mk hl.2 (by omega) (by omega) (by omega) c0 c1
  exact ⟨hok, by rw [symT_more c (by omega)]; exact e, h⟩
theorem no_pre {x t : List UInt8} (h : t.length < x.length ∨ t.take x.length ≠ x) (c : Int) : t ≠ x ++ tailL c := by
  intro e
  rcases h with h | h
  · rw [e, List.length_append] at h; omega
  · rw [e, List.take_left] at h; exact h rfl
theorem pre_split {x t : List UInt8} (h : t.take x.length = x) : t = x ++ t.drop x.length := by
  conv => lhs; rw [← List.take_append_drop x.length t, h]
theorem itoa_pos_head {k : Int} (h : 1 ≤ k) : ∃ b r, itoa k = b :: r ∧ 48 ≤ b.toNat ∧ b.toNat ≤ 57 := by
  have e : itoa k = decDigits k.toNat := by unfold itoa; rw [if_neg (by omega)]
  rw [e]
  cases hd : decDigits k.toNat with
  | nil => exact absurd hd (dec_ne _)
  | cons b r => exact ⟨b, r, rfl, dec_all _ b (by rw [hd]; simp)⟩
/-- What a rest that is a number behind a sign looks like. -/
theorem tail_form {c : Int} (hc : c ≠ 0) : ∃ (sg b : UInt8) (r : List UInt8) (k : Int), tailL c = 32 :: sg :: 32 :: b :: r ∧ (sg = 43 ∨ sg = 45) ∧ 48 ≤ b.toNat ∧ b.toNat ≤ 57 ∧ 1 ≤ k ∧ b :: r = itoa k ∧ (sg = 45 → k = -c) ∧ (sg = 43 → k = c) := by
  unfold tailL
  rw [if_neg hc]
  split
  · rename_i h
    obtain ⟨b, r, e, h1, h2⟩ := itoa_pos_head (k := -c) (by omega)
    exact ⟨45, b, r, -c, by rw [e], .inr rfl, h1, h2, by omega, e.symm, fun _ => rfl, fun q => absurd q (by decide)⟩
  · obtain ⟨b, r, e, h1, h2⟩ := itoa_pos_head (k := c) (by omega)
    exact ⟨43, b, r, c, by rw [e], .inl rfl, h1, h2, by omega, e.symm, fun q => absurd q (by decide), fun _ => rfl⟩
theorem tail_mk {sg : UInt8} {q : List UInt8} {k : Int} (h1 : 1 ≤ k) (e : q = itoa k) (hs : sg = 43 ∨ sg = 45) : 32 :: sg :: 32 :: q = tailL (if sg = 45 then -k else k) := by
  rcases hs with rfl | rfl
  · rw [if_neg (by decide), e]; unfold tailL; rw [if_neg (by omega), if_neg (by omega)]
  · rw [if_pos rfl, e]; unfold tailL; rw [if_neg (by omega), if_pos (by omega), Int.neg_neg]
end Go.Proofs.YtiihjoliodemmaaDoor
