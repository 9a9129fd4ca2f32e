/-
  PURE: what a term's text is read as.
-/
import Derived.Test.YtiihjoliodemmaaDoorPz
import Derived.Test.YtiihjoliodemmaaDoorRp
import Derived.Lib.SlicesS
namespace Go.Proofs.YtiihjoliodemmaaDoor
open Go.Lib

/-- What the text is read as: the term of which it is the text, of several the one with the least symbol. -/
def ReadsS (l : List ByteArray) (t : List UInt8) : Option (Int × Int) → Prop
  | some p => symOk2 l p.1 p.2 = true ∧ t = (symT l p.1 p.2).data.toList ∧ ∀ v c, symOk2 l v c = true → t = (symT l v c).data.toList → p.1 ≤ v
  | none => ∀ v c, symOk2 l v c = true → t ≠ (symT l v c).data.toList
theorem ok_parts {l : List ByteArray} {v c : Int} (h : symOk2 l v c = true) : labsB l = true ∧ 0 ≤ v ∧ v ≤ l.length ∧ l.length ≤ 12 ∧ -1000 ≤ c ∧ c ≤ 1000 := by
  unfold symOk2 at h
  rw [Bool.and_eq_true] at h
  obtain ⟨⟨q1, q2⟩, ⟨q3, q4⟩, q5, q6⟩ := symOk_iff.1 h.2
  exact ⟨h.1, q3, by omega, by omega, q5, q6⟩
theorem ok_mk {l : List ByteArray} {v c : Int} (h1 : labsB l = true) (h2 : 0 ≤ v) (h3 : v ≤ l.length) (h4 : l.length ≤ 12) (h5 : -1000 ≤ c) (h6 : c ≤ 1000) : symOk2 l v c = true := by
  unfold symOk2
  rw [h1, Bool.true_and]
  exact symOk_iff.2 ⟨⟨by omega, by omega⟩, ⟨h2, by omega⟩, h5, h6⟩
theorem nm_lab {l : List ByteArray} (h : labsB l = true) {v : Int} (h1 : 1 ≤ v) (h2 : v ≤ l.length) : Lab (nmAt l v).data.toList := by
  obtain ⟨k, _, _, hg⟩ := nmAt_get h1 h2
  exact lab_lab (List.all_eq_true.1 h _ (List.mem_of_getElem? hg))
theorem textS_ok {l : List ByteArray} {v c : Int} (h : symOk2 l v c = true) : textS l v c = symT l v c := by unfold textS; rw [h]; rfl
theorem readS_same {l : List ByteArray} {t : List UInt8} {r1 r2 : Option (Int × Int)} (h1 : ReadsS l t r1) (h2 : ReadsS l t r2) : r1 = r2 := by
  cases r1 with
  | none => cases r2 with
    | none => rfl
    | some q => exact absurd h2.2.1 (h1 _ _ h2.1)
  | some p => cases r2 with
    | none => exact absurd h1.2.1 (h2 _ _ h1.1)
    | some q =>
      obtain ⟨v, c⟩ := p
      obtain ⟨v', c'⟩ := q
      obtain ⟨k1, e1, m1⟩ := h1
      obtain ⟨k2, e2, m2⟩ := h2
      simp only at k1 e1 m1 k2 e2 m2
      have a1 := m1 v' c' k2 e2
      have a2 := m2 v c k1 e1
      obtain rfl : v = v' := by omega
      have e := e1.symm.trans e2
      by_cases hv : v = 0
      · subst hv
        rw [symT_zero, symT_zero] at e
        rw [itoa_inj e]
      · rw [symT_more c hv, symT_more c' hv] at e
        rw [tail_inj (List.append_cancel_left e)]
theorem least {p : Nat → Prop} : ∀ n, p n → ∃ k, p k ∧ ∀ j, j < k → ¬ p j := by
  intro n
  induction n using Nat.strongRecOn with
  | ind n ih =>
    intro hn
    by_cases h : ∃ j, j < n ∧ p j
    · obtain ⟨j, hj, hp⟩ := h; exact ih j hj hp
    · exact ⟨n, hn, fun j hj hp => h ⟨j, hj, hp⟩⟩
/-- Where the first such name stands. -/
theorem idx_cases (l : List ByteArray) (x : ByteArray) : (idxOfS l x = -1 ∧ ∀ j, j < l.length → l.getD j ByteArray.empty ≠ x) ∨ ∃ k : Nat, k < l.length ∧ idxOfS l x = k ∧ l.getD k ByteArray.empty = x ∧ ∀ j, j < k → l.getD j ByteArray.empty ≠ x := by
  by_cases h : ∃ k, k < l.length ∧ l.getD k ByteArray.empty = x
  · obtain ⟨n, hn⟩ := h
    obtain ⟨k, hk, hm⟩ := least (p := fun k => k < l.length ∧ l.getD k ByteArray.empty = x) n hn
    refine .inr ⟨k, hk.1, ?_, hk.2, fun j hj e => hm j hj ⟨by omega, e⟩⟩
    have := idxOfS_hit l l.length k x hk.1 (Nat.le_refl _) hk.2 (fun j hj e => hm j hj ⟨by omega, e⟩)
    rwa [List.take_length] at this
  · refine .inl ⟨?_, fun j hj e => h ⟨j, hj, e⟩⟩
    have := idxOfS_miss l l.length x (fun j hj e => h ⟨j, hj, e⟩)
    rwa [List.take_length] at this
theorem nm_getD {l : List ByteArray} {v : Int} {k : Nat} (h : v = 1 + (k : Int)) (hk : k < l.length) : nmAt l v = l.getD k ByteArray.empty := by
  subst h
  unfold nmAt
  rw [show (1 + (k : Int) - 1).toNat = k by omega, List.getD_eq_getElem?_getD, List.getD_eq_getElem?_getD, List.getElem?_eq_getElem hk]
  rfl
theorem cut_sym {l : List ByteArray} {t : List UInt8} {v c : Int} (hok : symOk2 l v c = true) (e : t = (symT l v c).data.toList) (hv : v ≠ 0) : (cut t [32]).1 = (nmAt l v).data.toList ∧ (cut t [32]).2.1 = (tailL c).drop 1 := by
  obtain ⟨hl, h0, h1, _⟩ := ok_parts hok
  have hL := nm_lab hl (v := v) (by omega) h1
  rw [e, symT_more c hv]
  unfold tailL
  split
  · rw [List.append_nil, cut32_none hL.2]; exact ⟨rfl, rfl⟩
  · split
    · rw [cut32 hL.2]; exact ⟨rfl, rfl⟩
    · rw [cut32 hL.2]; exact ⟨rfl, rfl⟩
theorem cut_num {l : List ByteArray} {t : List UInt8} {c : Int} (e : t = (symT l 0 c).data.toList) : (cut t [32]).1 = itoa c ∧ (cut t [32]).2.1 = [] := by
  rw [e, symT_zero, cut32_none (itoa_no32 c)]; exact ⟨rfl, rfl⟩
theorem sym_ne {l : List ByteArray} {t : List UInt8} {v c : Int} (hok : symOk2 l v c = true) (e : t = (symT l v c).data.toList) : t ≠ [] := by
  by_cases hv : v = 0
  · subst hv; rw [e, symT_zero]; exact itoa_ne c
  · obtain ⟨hl, h0, h1, _⟩ := ok_parts hok
    obtain ⟨b, r, hb, _⟩ := (nm_lab hl (v := v) (by omega) h1).1
    rw [e, symT_more c hv, hb]
    simp
/-- How the program comes to a term whose text it is. -/
theorem sym_path {l : List ByteArray} {t : List UInt8} {v c : Int} (hok : symOk2 l v c = true) (e : t = (symT l v c).data.toList) :
    (idxOfS l ⟨(cut t [32]).1.toArray⟩ = -1 ∧ atoiAll (replace (cut t [32]).1 [32] [] 1) = .ok c ∧ (textS l 0 c).data.toList = t) ∨
    ∃ k : Nat, idxOfS l ⟨(cut t [32]).1.toArray⟩ = k ∧ (((cut t [32]).2.1 = [] ∧ (textS l (1 + k) 0).data.toList = t) ∨ ((cut t [32]).2.1 ≠ [] ∧ atoiAll (replace (cut t [32]).2.1 [32] [] 1) = .ok c ∧ (textS l (1 + k) c).data.toList = t)) := by
  obtain ⟨hl, h0, h1, h12, c0, c1⟩ := ok_parts hok
  by_cases hv : v = 0
  · subst hv
    obtain ⟨e1, e2⟩ := cut_num e
    refine .inl ⟨?_, ?_, by rw [textS_ok hok, ← e]⟩
    · rcases idx_cases l ⟨(cut t [32]).1.toArray⟩ with h | ⟨k, hk, _, hg, _⟩
      · exact h.1
      · exfalso
        have hL := lab_lab (List.all_eq_true.1 hl _ (List.mem_of_getElem? (List.getElem?_eq_getElem hk)))
        rw [List.getD_eq_getElem?_getD, List.getElem?_eq_getElem hk] at hg
        have hg2 : l[k] = ⟨(cut t [32]).1.toArray⟩ := hg
        rw [hg2, e1] at hL
        exact lab_itoa hL c (by simp)
    · rw [e1, repl_none (itoa_no32 c)]; exact atoiAll_itoa (by omega) (by omega)
  · obtain ⟨e1, e2⟩ := cut_sym hok e hv
    obtain ⟨k0, hk0, hkl, hkg⟩ := nmAt_get (l := l) (v := v) (by omega) h1
    have hA : (⟨(cut t [32]).1.toArray⟩ : ByteArray) = nmAt l v := by rw [e1]
    rw [hA]
    rcases idx_cases l (nmAt l v) with h | ⟨k, hk, hi, hg, _⟩
    · exfalso
      refine h.2 k0 hkl ?_
      rw [List.getD_eq_getElem?_getD, hkg]; rfl
    · refine .inr ⟨k, hi, ?_⟩
      have hv2 : (1 + (k : Int)) ≠ 0 := by omega
      have hok2 : symOk2 l (1 + k) c = true := ok_mk hl (by omega) (by omega) h12 c0 c1
      have ht : (symT l (1 + k) c).data.toList = t := by rw [symT_more c hv2, nm_getD rfl hk, hg, e, symT_more c hv]
      by_cases hc : c = 0
      · subst hc
        exact .inl ⟨by rw [e2]; unfold tailL; rw [if_pos rfl]; rfl, by rw [textS_ok hok2]; exact ht⟩
      · refine .inr ⟨?_, ?_, by rw [textS_ok hok2]; exact ht⟩
        · rw [e2]; unfold tailL; rw [if_neg hc]; split <;> simp
        · rw [e2]
          unfold tailL
          rw [if_neg hc]
          split
          · rename_i hn
            show atoiAll (replace (45 :: 32 :: itoa (-c)) [32] [] 1) = _
            rw [repl_one (by decide), atoi_minus (by omega) (by omega)]
            congr 1
            omega
          · show atoiAll (replace (43 :: 32 :: itoa c) [32] [] 1) = _
            rw [repl_one (by decide), atoi_plus (by omega) (by omega)]
theorem readS_none {l : List ByteArray} {t : List UInt8} (h : ∀ c, ¬ ((idxOfS l ⟨(cut t [32]).1.toArray⟩ = -1 ∧ atoiAll (replace (cut t [32]).1 [32] [] 1) = .ok c ∧ (textS l 0 c).data.toList = t) ∨
    ∃ k : Nat, idxOfS l ⟨(cut t [32]).1.toArray⟩ = k ∧ (((cut t [32]).2.1 = [] ∧ (textS l (1 + k) 0).data.toList = t) ∨ ((cut t [32]).2.1 ≠ [] ∧ atoiAll (replace (cut t [32]).2.1 [32] [] 1) = .ok c ∧ (textS l (1 + k) c).data.toList = t)))) : ReadsS l t none :=
  fun _ c hok e => h c (sym_path hok e)
theorem readS_empty {l : List ByteArray} : ReadsS l [] none := fun _ _ hok e => sym_ne hok e rfl
/-- What is written again as the text is what it is read as. -/
theorem readS_some {l : List ByteArray} {t : List UInt8} {v c : Int} (hne : t ≠ []) (he : (textS l v c).data.toList = t) (hv : v = 0 ∨ ∃ k : Nat, v = 1 + (k : Int) ∧ ∀ j, j < k → l.getD j ByteArray.empty ≠ ⟨(cut t [32]).1.toArray⟩) : ReadsS l t (some (v, c)) := by
  have hok : symOk2 l v c = true := by
    cases q : symOk2 l v c
    · unfold textS at he; rw [q] at he; exact absurd he.symm hne
    · rfl
  have e : t = (symT l v c).data.toList := by rw [← he, textS_ok hok]
  refine ⟨hok, e, fun v' c' hok' e' => ?_⟩
  obtain ⟨hl, h0, h1, _⟩ := ok_parts hok'
  rcases hv with rfl | ⟨k, rfl, hm⟩
  · exact h0
  · by_cases hv' : v' = 0
    · subst hv'
      exfalso
      obtain ⟨hl2, g0, g1, _⟩ := ok_parts hok
      have hL := nm_lab hl (v := 1 + (k : Int)) (by omega) g1
      rw [← (cut_sym hok e (by omega)).1, (cut_num e').1] at hL
      exact lab_itoa hL c' rfl
    · obtain ⟨k', hk', hkl', hkg'⟩ := nmAt_get (l := l) (v := v') (by omega) h1
      show 1 + (k : Int) ≤ v'
      by_cases hle : k ≤ k'
      · omega
      · exfalso
        refine hm k' (by omega) ?_
        rw [List.getD_eq_getElem?_getD, hkg', (cut_sym hok' e' hv').1]
        show nmAt l v' = _
        apply list_inj
        simp
end Go.Proofs.YtiihjoliodemmaaDoor
