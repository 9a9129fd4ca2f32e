/-
  PLAIN FACTS: words that are written with one blank between are read back, each where it was written.
-/
import Derived.Test.YthaehhndfahocaaMark
namespace Go.Proofs.Ythaehhndfahocaa
open Go.RowKit
open Pl

theorem all_low {s : ByteArray} {l : List UInt8} (h : s.toList = l) (ha : l.all (fun c => lowI c.toNat) = true) (j : Nat) (hj : j < s.size) : alnum s j = true := by
  rw [Lib.toList_data] at h
  have hl : j < l.length := by rw [← h, ← Lib.size_eq]; exact hj
  unfold alnum
  rw [byt_list, h, List.getD_eq_getElem?_getD, List.getElem?_eq_getElem hl]
  have := (List.all_eq_true.1 ha) l[j] (List.getElem_mem _)
  simp only [Option.getD_some]
  rw [this]; rfl
theorem key_alnum {s : ByteArray} (h : keyB s = true) (j : Nat) (hj : j < s.size) : alnum s j = true := by
  unfold keyB keys at h
  simp only [List.contains_cons, Bool.or_eq_true, beq_iff_eq, List.contains_nil, Bool.false_eq_true, or_false] at h
  rcases h with h | h | h | h | h | h | h | h | h | h | h | h | h <;> exact all_low h rfl j hj
theorem sign_facts {s : ByteArray} (h : signB s = true) : (s.size = 1 ∨ (s.size = 2 ∧ byt s 1 = 61)) ∧ alnum s 0 = false ∧ blankB s 0 = false ∧ byt s 0 ≠ 35 := by
  unfold signB signs at h
  simp only [List.contains_cons, Bool.or_eq_true, beq_iff_eq, List.contains_nil, Bool.false_eq_true, or_false] at h
  unfold alnum blankB
  rw [Lib.size_eq, byt_list, byt_list]
  rw [Lib.toList_data] at h
  rcases h with h | h | h | h | h | h | h | h | h | h | h | h | h | h | h | h | h | h <;> (rw [h]; refine ⟨?_, ?_, ?_, ?_⟩ <;> simp [lowI, digI])
theorem word_shape {s : ByteArray} (h : kindI s ≠ 0) : 1 ≤ s.size ∧ ((∀ j, j < s.size → alnum s j = true) ∨ signB s = true) := by
  by_cases hk : keyB s = true
  · exact ⟨(key_low hk).2, .inl (key_alnum hk)⟩
  · by_cases hn : nameB s = true
    · have hp : nameP s := by simpa [nameB] using hn
      refine ⟨hp.1, .inl fun j hj => ?_⟩
      unfold alnum
      rcases hp.2.2.2 j hj with e | e
      · rw [e]; rfl
      · rw [e.2]; simp
    · by_cases hu : numB s = true
      · have hp : numP s := by simpa [numB] using hu
        refine ⟨hp.1, .inl fun j hj => ?_⟩
        unfold alnum
        rw [hp.2.1 j hj]; simp
      · by_cases hs : signB s = true
        · have := (sign_facts hs).1
          exact ⟨by omega, .inr hs⟩
        · exfalso
          apply h
          simp at hk hn hu hs
          simp [kindI, hk, hn, hu, hs]

def joinR : List W3 → List UInt8
  | [] => []
  | [x] => x.s.data.toList
  | x :: y :: r => x.s.data.toList ++ 32 :: joinR (y :: r)
def placeL : List W3 → Nat → List W3
  | [], _ => []
  | x :: r, p => ⟨x.k, x.s, p⟩ :: placeL r (p + x.s.size + 1)

/-- A word within a text, a blank or the end behind it. -/
theorem within {T : ByteArray} {pre suf : List UInt8} {s : ByteArray} (h : T.data.toList = pre ++ (s.data.toList ++ suf)) :
    pre.length + s.size ≤ T.size ∧ T.extract pre.length (pre.length + s.size) = s ∧ (∀ j, j < s.size → byt T (pre.length + j) = byt s j) ∧ (suf = [] → pre.length + s.size = T.size) ∧ (∀ c r, suf = c :: r → pre.length + s.size < T.size ∧ byt T (pre.length + s.size) = (c.toNat : Int)) := by
  have hz : T.size = pre.length + (s.size + suf.length) := by rw [Lib.size_eq, h, Lib.size_eq]; simp
  refine ⟨by omega, ?_, fun j hj => ?_, fun e => ?_, fun c r e => ?_⟩
  · rw [Lib.extract_eq, h, List.drop_left' rfl, show pre.length + s.size - pre.length = s.size by omega, List.take_left' (Lib.size_eq s).symm, Lib.mk_data]
  · rw [byt_list, byt_list, h, List.getD_eq_getElem?_getD, List.getD_eq_getElem?_getD, List.getElem?_append_right (by omega), show pre.length + j - pre.length = j by omega, List.getElem?_append_left (by rw [← Lib.size_eq]; exact hj)]
  · subst e; simp at hz; omega
  · subst e
    refine ⟨by simp at hz; omega, ?_⟩
    rw [byt_list, h, List.getD_eq_getElem?_getD, List.getElem?_append_right (by omega), show pre.length + s.size - pre.length = s.size by omega, List.getElem?_append_right (by rw [← Lib.size_eq]; omega), ← Lib.size_eq, Nat.sub_self]
    rfl
theorem end_at {T : ByteArray} {pre suf : List UInt8} {s : ByteArray} (h : T.data.toList = pre ++ (s.data.toList ++ suf)) (hsuf : suf = [] ∨ ∃ r, suf = 32 :: r) (hk : kindI s ≠ 0) :
    pre.length < T.size ∧ endI T pre.length = pre.length + s.size ∧ T.extract pre.length (endI T pre.length) = s ∧ skipI T pre.length = pre.length := by
  obtain ⟨w1, w2, w3, w4, w5⟩ := within h
  obtain ⟨h1, hsh⟩ := word_shape hk
  have hp : pre.length < T.size := by omega
  have b0 := w3 0 (by omega)
  rw [Nat.add_zero] at b0
  have hend : endI T pre.length = pre.length + s.size := by
    rcases hsh with hal | hsg
    · have ha : alnum T pre.length = true := by unfold alnum; rw [b0]; exact hal 0 (by omega)
      unfold endI
      rw [if_pos ha]
      refine first_eq ⟨by omega, w1, fun j j1 j2 => ?_, ?_⟩
      · have := hal (j - pre.length) (by omega)
        have e := w3 (j - pre.length) (by omega)
        rw [show pre.length + (j - pre.length) = j by omega] at e
        show (!alnum T j) = false
        unfold alnum at this ⊢
        rw [e, this]; rfl
      · rcases hsuf with e | ⟨r, e⟩
        · exact .inl (w4 e)
        · refine .inr ?_
          show (!alnum T (pre.length + s.size)) = true
          unfold alnum
          rw [(w5 _ _ e).2]; rfl
    · obtain ⟨f1, f2, _, _⟩ := sign_facts hsg
      have ha : alnum T pre.length = false := by unfold alnum at f2 ⊢; rw [b0]; exact f2
      unfold endI
      rw [if_neg (by simp [ha])]
      rcases f1 with f1 | ⟨f1, _⟩
      · rw [if_neg]
        · omega
        · rintro ⟨g1, g2⟩
          rcases hsuf with e | ⟨r, e⟩
          · have := w4 e; omega
          · obtain ⟨f3, _⟩ := sign_facts g2
            have hz : (T.extract pre.length (pre.length + 2)).size = 2 := by rw [size_ext _ _ _ (by omega)]; omega
            have hb : byt (T.extract pre.length (pre.length + 2)) 1 = byt T (pre.length + 1) := byt_ext _ _ _ 1 (by omega)
            have h32 := (w5 _ _ e).2
            rw [f1] at h32
            rw [h32] at hb
            rcases f3 with f3 | ⟨_, f3⟩
            · omega
            · rw [hb] at f3; simp at f3
      · rw [if_pos]
        · omega
        · rw [f1] at w1 w2
          exact ⟨by omega, by rw [w2]; exact hsg⟩
  refine ⟨hp, hend, by rw [hend]; exact w2, ?_⟩
  rcases hsh with hal | hsg
  · have ha := hal 0 (by omega)
    unfold alnum at ha
    rw [Bool.or_eq_true, low_iff, dig_iff] at ha
    refine skip_stop hp ?_ (by rw [b0]; omega)
    unfold blankB
    rw [b0]; simp; omega
  · obtain ⟨_, _, f3, f4⟩ := sign_facts hsg
    exact skip_stop hp (by unfold blankB at f3 ⊢; rw [b0]; exact f3) (by rw [b0]; exact f4)

theorem scan_back {T : ByteArray} (b : List W3) (pre : List UInt8) (acc : List W3) (hT : T.data.toList = pre ++ joinR b) (hb : ∀ x ∈ b, okW x = true) (hn : acc.length + b.length ≤ 1500) (hne : b ≠ []) :
    skipI T pre.length = pre.length ∧ scanI T pre.length acc = (acc ++ placeL b pre.length, 0, 0) := by
  induction b generalizing pre acc with
  | nil => exact absurd rfl hne
  | cons x r ih =>
    have hok := hb x (by simp)
    have hkk : kindI x.s ≠ 0 ∧ kindI x.s = x.k := by
      unfold okW wordB at hok
      simp at hok
      exact ⟨hok.1.1, hok.1.2⟩
    cases r with
    | nil =>
      have h1 : T.data.toList = pre ++ (x.s.data.toList ++ []) := by rw [hT]; simp [joinR]
      obtain ⟨p1, p2, p3, p4⟩ := end_at h1 (.inl rfl) hkk.1
      obtain ⟨_, _, _, w4, _⟩ := within h1
      refine ⟨p4, ?_⟩
      rw [scan_go p1 (by rw [p3]; exact hkk.1) (by simp at hn; omega), p3, p2, skip_end (by have := w4 rfl; omega), scan_end (by have := w4 rfl; omega), hkk.2]
      rfl
    | cons y r =>
      have h1 : T.data.toList = pre ++ (x.s.data.toList ++ (32 :: joinR (y :: r))) := by rw [hT]; simp [joinR]
      obtain ⟨p1, p2, p3, p4⟩ := end_at h1 (.inr ⟨_, rfl⟩) hkk.1
      obtain ⟨_, _, _, _, w5⟩ := within h1
      obtain ⟨q1, q2⟩ := w5 _ _ rfl
      have h2 : T.data.toList = (pre ++ x.s.data.toList ++ [32]) ++ joinR (y :: r) := by rw [h1]; simp
      have hl : (pre ++ x.s.data.toList ++ [32]).length = pre.length + x.s.size + 1 := by rw [List.length_append, List.length_append, ← Lib.size_eq]; simp
      obtain ⟨i1, i2⟩ := ih (pre ++ x.s.data.toList ++ [32]) (acc ++ [⟨x.k, x.s, (pre.length : Int)⟩]) h2 (fun z hz => hb z (by simp at hz ⊢; right; exact hz)) (by simp at hn ⊢; omega) (by simp)
      rw [hl] at i1 i2
      refine ⟨p4, ?_⟩
      rw [scan_go p1 (by rw [p3]; exact hkk.1) (by simp at hn; omega), p3, p2, skip_blank q1 (by unfold blankB; rw [q2]; rfl), i1, hkk.2, i2]
      simp [placeL]

theorem join_eq (ws a b : List W3) (h : ws = a ++ b) : joinN ws ws.length = joinN ws a.length ++ (if a = [] ∨ b = [] then [] else [32]) ++ joinR b := by
  induction b generalizing a with
  | nil => subst h; simp [joinR]
  | cons x r ih =>
    have hx : ws[a.length]? = some x := by rw [h]; simp
    have h2 : ws = (a ++ [x]) ++ r := by rw [h]; simp
    rw [ih (a ++ [x]) h2]
    have hl : (a ++ [x]).length = a.length + 1 := by simp
    rw [hl]
    by_cases ha : a = []
    · subst ha
      rw [List.length_nil] at hx ⊢
      rw [joinN_zero hx]
      cases r with
      | nil => simp [joinR, joinN]
      | cons y r => simp [joinR, joinN]
    · rw [joinN_succ hx (by cases a <;> simp_all)]
      cases r with
      | nil => simp [joinR, ha]
      | cons y r => simp [joinR, ha]
theorem join_all (ws : List W3) : joinN ws ws.length = joinR ws := by
  have := join_eq ws [] ws rfl
  simpa [joinN] using this

/-- What is written is read back. -/
theorem words_back {ws : List W3} (h : textB ws = true) (hne : ws ≠ []) : wordsI (textOf ws) = (placeL ws 0, 0, 0) := by
  unfold textB at h
  simp only [Bool.and_eq_true, decide_eq_true_eq] at h
  obtain ⟨⟨h1, h2⟩, h3⟩ := h
  have ht : textOf ws = ⟨(joinR ws).toArray⟩ := by
    unfold textOf
    rw [if_pos (by unfold textB; simp only [Bool.and_eq_true, decide_eq_true_eq]; exact ⟨⟨h1, h2⟩, h3⟩), join_all]
  have hz : (textOf ws).size ≤ 4000 := by
    rw [ht, Lib.size_eq]
    rw [join_all] at h3
    simpa using h3
  obtain ⟨e1, e2⟩ := scan_back (T := textOf ws) ws [] [] (by rw [ht]; simp) (fun x hx => (List.all_eq_true.1 h2) x hx) (by simpa using h1) hne
  unfold wordsI
  rw [if_neg (by omega)]
  simp only [List.length_nil] at e1 e2
  rw [e1, e2]
  simp
end Go.Proofs.Ythaehhndfahocaa
