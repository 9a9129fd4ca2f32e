/-
  PURE: labels and terms as texts.
-/
import Derived.Test.YtiihjoliodemmaaDoorSyt
import Derived.Test.YtiihjoliodemmaaDoorPr
import Derived.Lib.Replace
namespace Go.Proofs.YtiihjoliodemmaaDoor
open Go.Lib
open Wd.Pl (nameB byt)

/-- What may stand in a label, and what it begins with. -/
def Lab (l : List UInt8) : Prop := (∃ b r, l = b :: r ∧ 97 ≤ b.toNat ∧ b.toNat ≤ 122) ∧ ∀ b ∈ l, b ≠ 32
theorem name_lab {s : ByteArray} (h : nameB s = true) : Lab s.data.toList := by
  have hp : Wd.Pl.nameP s := by unfold nameB at h; exact @of_decide_eq_true _ (Wd.Pl.namePD s) h
  obtain ⟨h1, _, _, hall⟩ := hp
  have hb : ∀ k c, s.data.toList[k]? = some c → (97 ≤ c.toNat ∧ c.toNat ≤ 122) ∨ (k ≠ 0 ∧ 48 ≤ c.toNat ∧ c.toNat ≤ 57) := by
    intro k c hc
    obtain ⟨hk, hv⟩ := byt_list hc
    rcases hall k hk with q | ⟨q0, q⟩
    · have := (Wd.Pl.low_iff _).1 q; rw [hv] at this; exact .inl ⟨by omega, by omega⟩
    · have := (Wd.Pl.dig_iff _).1 q; rw [hv] at this; exact .inr ⟨q0, by omega, by omega⟩
  constructor
  · cases hl : s.data.toList with
    | nil => have := ba_len s; rw [hl] at this; simp at this; omega
    | cons b r =>
      rcases hb 0 b (by rw [hl]; rfl) with q | q
      · exact ⟨b, r, rfl, q.1, q.2⟩
      · exact absurd rfl q.1
  · intro b hbm e
    subst e
    obtain ⟨k, hk⟩ := List.getElem?_of_mem hbm
    rcases hb k 32 hk with q | q
    · revert q; decide
    · revert q; simp
theorem lab_lab {s : ByteArray} (h : labB s = true) : Lab s.data.toList := by
  unfold labB at h
  split at h
  · rename_i hc
    simp only [Bool.and_eq_true, decide_eq_true_eq] at hc
    obtain ⟨q, hq⟩ := List.isPrefixOf_iff_prefix.1 hc.1
    obtain ⟨z, hz⟩ := List.isSuffixOf_iff_suffix.1 hc.2.1
    have hn := name_lab h
    have l1 : s.size = 4 + q.length := by rw [← ba_len, ← hq, List.length_append]; rfl
    have e : (s.extract 4 (s.size - 1)).data.toList = q.take (q.length - 1) := by
      rw [extract_data, ← hq, show s.size - 1 - 4 = q.length - 1 by omega]
      show (List.drop lenL.length (lenL ++ q)).take _ = _
      rw [List.drop_left]
    rw [e] at hn
    have hqne : q ≠ [] := fun e0 => by rw [e0] at l1; simp at l1; omega
    have hlast : q.getLast hqne = 41 := by
      have e1 : s.data.toList.getLast? = some 41 := by rw [← hz, List.getLast?_append]; rfl
      rw [← hq, List.getLast?_append, List.getLast?_eq_some_getLast hqne] at e1
      simpa using e1
    have hqd : q = q.take (q.length - 1) ++ [41] := by
      rw [← List.dropLast_eq_take, ← hlast]; exact (List.dropLast_concat_getLast hqne).symm
    constructor
    · refine ⟨108, [101, 110, 40] ++ q, by rw [← hq]; rfl, by decide, by decide⟩
    · intro b hb
      rw [← hq] at hb
      rcases List.mem_append.1 hb with h1 | h1
      · intro e0; subst e0; revert h1; decide
      · rw [hqd] at h1
        rcases List.mem_append.1 h1 with h2 | h2
        · exact hn.2 b h2
        · rw [List.mem_singleton.1 h2]; decide
  · exact name_lab h
theorem itoa_no32 (n : Int) : ∀ b ∈ itoa n, b ≠ 32 := by
  intro b hb e
  subst e
  have := itoa_all n 32 hb
  revert this; decide
theorem lab_itoa {l : List UInt8} (h : Lab l) (n : Int) : l ≠ itoa n := by
  intro e
  obtain ⟨b, r, e1, h1, h2⟩ := h.1
  have := itoa_all n b (by rw [← e, e1]; simp)
  omega
def tailL (c : Int) : List UInt8 := if c = 0 then [] else if c < 0 then 32 :: 45 :: 32 :: itoa (-c) else 32 :: 43 :: 32 :: itoa c
theorem symT_zero (l : List ByteArray) (c : Int) : (symT l 0 c).data.toList = itoa c := by unfold symT dI; simp
theorem symT_more {l : List ByteArray} {v : Int} (c : Int) (h : v ≠ 0) : (symT l v c).data.toList = (nmAt l v).data.toList ++ tailL c := by
  unfold symT tailL dI
  rw [if_neg h]
  split
  · simp
  · split <;> simp
theorem cut32 {x r : List UInt8} (hx : ∀ b ∈ x, b ≠ 32) : cut (x ++ 32 :: r) [32] = (x, r, true) := by
  have e : index (x ++ 32 :: r) [32] = x.length := by
    refine index_first (by simp) (by unfold occAt; rw [List.drop_left]; simp) (fun j hj => ?_)
    unfold occAt
    rw [List.drop_append_of_le_length (by omega)]
    cases h : x.drop j with
    | nil => have := List.length_drop (i := j) (l := x); rw [h] at this; simp at this; omega
    | cons c q =>
      have hc := hx c (List.mem_of_mem_drop (by rw [h]; simp))
      have : (32 == c) = false := by
        cases e : (32 == c)
        · rfl
        · exact absurd (beq_iff_eq.1 e).symm hc
      simp [List.isPrefixOf, this]
  unfold cut
  rw [e, if_pos (by omega)]
  have e1 : ((x.length : Int)).toNat = x.length := by omega
  rw [e1]
  refine Prod.ext List.take_left (Prod.ext ?_ rfl)
  show (x ++ 32 :: r).drop (x.length + 1) = r
  rw [List.drop_append]
  simp
theorem index32_none {x : List UInt8} (hx : ∀ b ∈ x, b ≠ 32) : index x [32] = -1 := by
  refine index_none (fun j hj => ?_)
  unfold occAt
  cases h : x.drop j with
  | nil => rfl
  | cons c q =>
    have hc := hx c (List.mem_of_mem_drop (by rw [h]; simp))
    have : (32 == c) = false := by
      cases e : (32 == c)
      · rfl
      · exact absurd (beq_iff_eq.1 e).symm hc
    simp [List.isPrefixOf, this]
theorem cut32_none {x : List UInt8} (hx : ∀ b ∈ x, b ≠ 32) : cut x [32] = (x, [], false) := by
  unfold cut
  rw [index32_none hx, if_neg (by omega)]
theorem repl_none {x : List UInt8} (hx : ∀ b ∈ x, b ≠ 32) : replace x [32] [] 1 = x := by
  have hc : count x [32] = 0 := by unfold count countFrom; rw [index32_none hx]; rfl
  unfold replace
  rw [if_neg (by decide)]
  unfold replaceNum
  rw [hc, if_pos (.inr (by decide))]
  rfl
theorem repl_one {s : UInt8} {r : List UInt8} (hs : s ≠ 32) : replace (s :: 32 :: r) [32] [] 1 = s :: r := by
  have hi : index (s :: 32 :: r) [32] = 1 := by
    have := index_first (s := s :: 32 :: r) (sub := [32]) (i := 1) (by simp) (by unfold occAt; simp) (fun j hj => by
      obtain rfl : j = 0 := by omega
      have : (32 == s) = false := by
        cases e : (32 == s)
        · rfl
        · exact absurd (beq_iff_eq.1 e).symm hs
      simp [occAt, List.isPrefixOf, this])
    exact this
  have hc : 1 ≤ count (s :: 32 :: r) [32] := by unfold count countFrom; rw [hi]; simp
  unfold replace
  rw [if_neg (by decide)]
  have hn : replaceNum (s :: 32 :: r) [32] 1 = 1 := by unfold replaceNum; rw [if_neg (by omega)]; rfl
  rw [hn, replaceK_hit [32] [] 0 (s :: 32 :: r) 1 hi]
  rfl
theorem atoi_plus {k : Int} (h0 : 1 ≤ k) (h1 : k ≤ 1000) : atoiAll (43 :: itoa k) = .ok k := by
  have hl := itoa_len (n := k) (by omega) (by omega)
  rw [atoiAll_short _ (by simp; omega)]
  have e : itoa k = decDigits k.toNat := by unfold itoa; rw [if_neg (by omega)]
  rw [e]
  simp only [atoi]
  rw [if_neg (by decide), if_pos (by decide), decNat_dec]
  simp [NumEnd.ofOption]
  omega
theorem atoi_minus {k : Int} (h0 : 1 ≤ k) (h1 : k ≤ 1000) : atoiAll (45 :: itoa k) = .ok (-k) := by
  have e : (45 :: itoa k) = itoa (-k) := by
    unfold itoa
    rw [if_neg (by omega), if_pos (by omega)]
    congr 2
    omega
  rw [e]
  exact atoiAll_itoa (by omega) (by omega)
theorem tail_inj {c d : Int} (h : tailL c = tailL d) : c = d := by
  unfold tailL at h
  by_cases c0 : c = 0 <;> by_cases d0 : d = 0 <;> by_cases cn : c < 0 <;> by_cases dn : d < 0 <;> simp only [c0, d0, cn, dn, if_true, if_false] at h <;> first | omega | (simp at h; done) | skip
  · simp at h; have := itoa_inj h; omega
  · simp at h; exact itoa_inj h
end Go.Proofs.YtiihjoliodemmaaDoor
