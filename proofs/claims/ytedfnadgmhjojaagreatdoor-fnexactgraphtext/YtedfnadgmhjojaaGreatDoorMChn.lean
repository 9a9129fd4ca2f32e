/-
  PLAIN FACTS: a text that is put together of words and blanks is read as those words.
-/
import Derived.Test.YtedfnadgmhjojaaGreatDoorMGroveb
namespace Go.Proofs.YtedfnadgmhjojaaGreatDoor
open Go.RowKit
open Pl

theorem all_low {s : ByteArray} {l : List UInt8} (h : s.toList = l) (ha : l.all (fun c => lowI c.toNat) = true) (j : Nat) (hj : j < s.size) : alnum s j = true := by
 rw [Lib.toList_data] at h
 have hl : j < l.length := by rw [← h, ← Lib.size_eq]; exact hj
 unfold alnum
 rw [byt_list, h, List.getD_eq_getElem?_getD, List.getElem?_eq_getElem hl]
 have := (List.all_eq_true.1 ha) l[j] (List.getElem_mem _)
 simp only [Option.getD_some]
 rw [this]; rfl
theorem key_alnum {s : ByteArray} (h : keyB s = true) (j : Nat) (hj : j < s.size) : alnum s j = true := by
 unfold keyB keys at h
 simp only [List.contains_cons, Bool.or_eq_true, beq_iff_eq, List.contains_nil, Bool.false_eq_true, or_false] at h
 rcases h with h | h | h | h | h | h | h | h | h | h | h | h | h <;> exact all_low h rfl j hj
theorem sign_facts {s : ByteArray} (h : signB s = true) : (s.size = 1 ∨ (s.size = 2 ∧ byt s 1 = 61)) ∧ alnum s 0 = false ∧ blankB s 0 = false ∧ byt s 0 ≠ 35 := by
 unfold signB signs at h
 simp only [List.contains_cons, Bool.or_eq_true, beq_iff_eq, List.contains_nil, Bool.false_eq_true, or_false] at h
 unfold alnum blankB
 rw [Lib.size_eq, byt_list, byt_list]
 rw [Lib.toList_data] at h
 rcases h with h | h | h | h | h | h | h | h | h | h | h | h | h | h | h | h | h | h <;> (rw [h]; refine ⟨?_, ?_, ?_, ?_⟩ <;> simp [lowI, digI])
theorem word_shape {s : ByteArray} (h : kindI s ≠ 0) : 1 ≤ s.size ∧ ((∀ j, j < s.size → alnum s j = true) ∨ signB s = true) := by
 by_cases hk : keyB s = true
 ·exact ⟨(key_low hk).2, .inl (key_alnum hk)⟩
 ·by_cases hn : nameB s = true
  ·have hp : nameP s := by simpa [nameB] using hn
   refine ⟨hp.1, .inl fun j hj => ?_⟩
   unfold alnum
   rcases hp.2.2.2 j hj with e | e
   ·rw [e]; rfl
   ·rw [e.2]; simp
  ·by_cases hu : numB s = true
   ·have hp : numP s := by simpa [numB] using hu
    refine ⟨hp.1, .inl fun j hj => ?_⟩
    unfold alnum
    rw [hp.2.1 j hj]; simp
   ·by_cases hs : signB s = true
    ·have := (sign_facts hs).1
     exact ⟨by omega, .inr hs⟩
    ·exfalso
     apply h
     simp at hk hn hu hs
     simp [kindI, hk, hn, hu, hs]

/-- A word within a text, a blank or the end behind it. -/
theorem within {T : ByteArray} {pre suf : List UInt8} {s : ByteArray} (h : T.data.toList = pre ++ (s.data.toList ++ suf)) :
    pre.length + s.size ≤ T.size ∧ T.extract pre.length (pre.length + s.size) = s ∧ (∀ j, j < s.size → byt T (pre.length + j) = byt s j) ∧ (suf = [] → pre.length + s.size = T.size) ∧ (∀ c r, suf = c :: r → pre.length + s.size < T.size ∧ byt T (pre.length + s.size) = (c.toNat : Int)) := by
 have hz : T.size = pre.length + (s.size + suf.length) := by rw [Lib.size_eq, h, Lib.size_eq]; simp
 refine ⟨by omega, ?_, fun j hj => ?_, fun e => ?_, fun c r e => ?_⟩
 ·rw [Lib.extract_eq, h, List.drop_left' rfl, show pre.length + s.size - pre.length = s.size by omega, List.take_left' (Lib.size_eq s).symm, Lib.mk_data]
 ·rw [byt_list, byt_list, h, List.getD_eq_getElem?_getD, List.getD_eq_getElem?_getD, List.getElem?_append_right (by omega), show pre.length + j - pre.length = j by omega, List.getElem?_append_left (by rw [← Lib.size_eq]; exact hj)]
 ·subst e; simp at hz; omega
 ·subst e
  refine ⟨by simp at hz; omega, ?_⟩
  rw [byt_list, h, List.getD_eq_getElem?_getD, List.getElem?_append_right (by omega), show pre.length + s.size - pre.length = s.size by omega, List.getElem?_append_right (by rw [← Lib.size_eq]; omega), ← Lib.size_eq, Nat.sub_self]
  rfl
def alW (s : ByteArray) : Prop := ∀ j, j < s.size → alnum s j = true
/-- What may stand behind a word of letters and digits. -/
def Sep (suf : List UInt8) : Prop := suf = [] ∨ ∃ c r, suf = c :: r ∧ (lowI c.toNat || digI c.toNat) = false
/-- What may stand behind a sign. -/
def NoEq (suf : List UInt8) : Prop := suf = [] ∨ ∃ c r, suf = c :: r ∧ c.toNat ≠ 61
theorem end_of {T : ByteArray} {pre suf : List UInt8} {s : ByteArray} (h : T.data.toList = pre ++ (s.data.toList ++ suf)) (hk : kindI s ≠ 0) (ha1 : alW s → Sep suf) (hs1 : signB s = true → s.size = 2 ∨ NoEq suf) :
    pre.length < T.size ∧ endI T pre.length = pre.length + s.size ∧ T.extract pre.length (endI T pre.length) = s ∧ skipI T pre.length = pre.length := by
 obtain ⟨w1, w2, w3, w4, w5⟩ := within h
 obtain ⟨h1, hsh⟩ := word_shape hk
 have hp : pre.length < T.size := by omega
 have b0 := w3 0 (by omega)
 rw [Nat.add_zero] at b0
 have hend : endI T pre.length = pre.length + s.size := by
  rcases hsh with hal | hsg
  ·have ha : alnum T pre.length = true := by unfold alnum; rw [b0]; exact hal 0 (by omega)
   unfold endI
   rw [if_pos ha]
   refine first_eq ⟨by omega, w1, fun j j1 j2 => ?_, ?_⟩
   ·have := hal (j - pre.length) (by omega)
    have e := w3 (j - pre.length) (by omega)
    rw [show pre.length + (j - pre.length) = j by omega] at e
    show (!alnum T j) = false
    unfold alnum at this ⊢
    rw [e, this]; rfl
   ·rcases ha1 hal with e | ⟨c, r, e, hc⟩
    ·exact .inl (w4 e)
    ·refine .inr ?_
     show (!alnum T (pre.length + s.size)) = true
     unfold alnum
     rw [(w5 _ _ e).2, hc]; rfl
  ·obtain ⟨f1, f2, _, _⟩ := sign_facts hsg
   have ha : alnum T pre.length = false := by unfold alnum at f2 ⊢; rw [b0]; exact f2
   unfold endI
   rw [if_neg (by simp [ha])]
   rcases f1 with f1 | ⟨f1, _⟩
   ·rw [if_neg]
    ·omega
    ·rintro ⟨g1, g2⟩
     rcases hs1 hsg with e | e | ⟨c, r, e, hc⟩
     ·omega
     ·have := w4 e; omega
     ·obtain ⟨f3, _⟩ := sign_facts g2
      have hz : (T.extract pre.length (pre.length + 2)).size = 2 := by rw [size_ext _ _ _ (by omega)]; omega
      have hb : byt (T.extract pre.length (pre.length + 2)) 1 = byt T (pre.length + 1) := byt_ext _ _ _ 1 (by omega)
      have h32 := (w5 _ _ e).2
      rw [f1] at h32
      rw [h32] at hb
      rcases f3 with f3 | ⟨_, f3⟩
      ·omega
      ·rw [hb] at f3; omega
   ·rw [if_pos]
    ·omega
    ·rw [f1] at w1 w2
     exact ⟨by omega, by rw [w2]; exact hsg⟩
 refine ⟨hp, hend, by rw [hend]; exact w2, ?_⟩
 rcases hsh with hal | hsg
 ·have ha := hal 0 (by omega)
  unfold alnum at ha
  rw [Bool.or_eq_true, low_iff, dig_iff] at ha
  refine skip_stop hp ?_ (by rw [b0]; omega)
  unfold blankB
  rw [b0]; simp; omega
 ·obtain ⟨_, _, f3, f4⟩ := sign_facts hsg
  exact skip_stop hp (by unfold blankB at f3 ⊢; rw [b0]; exact f3) (by rw [b0]; exact f4)

/-- From place p on the words toks are read, and then it goes on from q. -/
def Reads (T : ByteArray) (p q : Nat) (toks : List ByteArray) : Prop := ∀ acc : List W3, ∃ W : List W3, W.map W3.s = toks ∧ (∀ x ∈ W, kindI x.s = x.k ∧ x.k ≠ 0) ∧ ((scanI T (skipI T p) acc).2.1 = 0 → scanI T (skipI T p) acc = scanI T (skipI T q) (acc ++ W))
theorem Reads.nil (T : ByteArray) (p : Nat) : Reads T p p [] := fun acc => ⟨[], rfl, fun x hx => (by cases hx), fun _ => by rw [List.append_nil]⟩
theorem Reads.trans {T : ByteArray} {p q r : Nat} {a b : List ByteArray} (h1 : Reads T p q a) (h2 : Reads T q r b) : Reads T p r (a ++ b) := fun acc => by
 obtain ⟨W1, e1, k1, g1⟩ := h1 acc
 obtain ⟨W2, e2, k2, g2⟩ := h2 (acc ++ W1)
 refine ⟨W1 ++ W2, by rw [List.map_append, e1, e2], fun x hx => ?_, fun h => ?_⟩
 ·rcases List.mem_append.1 hx with hx | hx
  ·exact k1 x hx
  ·exact k2 x hx
 ·have := g1 h
  rw [this] at h ⊢
  rw [g2 h, List.append_assoc]
/-- A stretch of text that is read as the words toks, whatever text it lies in, where F holds of what stands behind. -/
def Chunk (l : List UInt8) (toks : List ByteArray) (F : List UInt8 → Prop) : Prop := ∀ (T : ByteArray) (pre suf : List UInt8), T.data.toList = pre ++ (l ++ suf) → F suf → Reads T pre.length (pre.length + l.length) toks
theorem Chunk.app {l1 l2 : List UInt8} {t1 t2 : List ByteArray} {F1 F2 : List UInt8 → Prop} (h1 : Chunk l1 t1 F1) (h2 : Chunk l2 t2 F2) (hF : ∀ suf, F2 suf → F1 (l2 ++ suf)) : Chunk (l1 ++ l2) (t1 ++ t2) F2 := fun T pre suf hT hs => by
 have a := h1 T pre (l2 ++ suf) (by rw [hT, List.append_assoc]) (hF suf hs)
 have b := h2 T (pre ++ l1) suf (by rw [hT]; simp) hs
 rw [List.length_append] at b
 have := a.trans b
 rwa [List.length_append, ← Nat.add_assoc]
theorem Chunk.weak {l : List UInt8} {t : List ByteArray} {F G : List UInt8 → Prop} (h : Chunk l t F) (hG : ∀ s, G s → F s) : Chunk l t G := fun T pre suf hT hs => h T pre suf hT (hG suf hs)
theorem Chunk.nil (F : List UInt8 → Prop) : Chunk [] [] F := fun T pre _ _ _ => by
 rw [List.length_nil, Nat.add_zero]; exact Reads.nil T _
theorem Chunk.word {s : ByteArray} (hk : kindI s ≠ 0) : Chunk s.data.toList [s] (fun suf => (alW s → Sep suf) ∧ (signB s = true → s.size = 2 ∨ NoEq suf)) := fun T pre suf hT hs acc => by
 obtain ⟨p1, p2, p3, p4⟩ := end_of hT hk hs.1 hs.2
 refine ⟨[⟨kindI s, s, pre.length⟩], rfl, fun x hx => ?_, fun h => ?_⟩
 ·rw [List.mem_singleton] at hx; subst hx; exact ⟨rfl, hk⟩
 ·rw [p4] at h ⊢
  by_cases hm : acc.length = 1500
  ·rw [scan_many p1 (by rw [p3]; exact hk) hm] at h; cases h
  ·rw [scan_go p1 (by rw [p3]; exact hk) hm, p3, p2, ← Lib.size_eq]
theorem Chunk.blank {c : UInt8} (hc : c.toNat = 32 ∨ c.toNat = 10) (F : List UInt8 → Prop) : Chunk [c] [] F := fun T pre suf hT _ acc => by
 refine ⟨[], rfl, fun x hx => (by cases hx), fun _ => ?_⟩
 have hl : T.size = pre.length + (1 + suf.length) := by rw [Lib.size_eq, hT]; simp; omega
 have hb : byt T pre.length = (c.toNat : Int) := by
  rw [byt_list, hT, List.getD_eq_getElem?_getD, List.getElem?_append_right (Nat.le_refl _), Nat.sub_self]; rfl
 rw [skip_blank (by omega) (by unfold blankB; rw [hb]; rcases hc with e | e <;> rw [e] <;> rfl), List.append_nil]; rfl
/-- What may stand behind any word. -/
def Gap (suf : List UInt8) : Prop := suf = [] ∨ ∃ c r, suf = c :: r ∧ (lowI c.toNat || digI c.toNat) = false ∧ c.toNat ≠ 61
theorem Gap.sep {suf : List UInt8} (h : Gap suf) : Sep suf := by
 rcases h with h | ⟨c, r, h, h1, _⟩
 ·exact .inl h
 ·exact .inr ⟨c, r, h, h1⟩
theorem Gap.noEq {suf : List UInt8} (h : Gap suf) : NoEq suf := by
 rcases h with h | ⟨c, r, h, _, h1⟩
 ·exact .inl h
 ·exact .inr ⟨c, r, h, h1⟩
theorem Gap.at {c : UInt8} (r : List UInt8) (h : ((lowI c.toNat || digI c.toNat) = false ∧ c.toNat ≠ 61)) : Gap (c :: r) := .inr ⟨c, r, rfl, h⟩
theorem Chunk.any {s : ByteArray} (hk : kindI s ≠ 0) : Chunk s.data.toList [s] Gap := (Chunk.word hk).weak fun _ h => ⟨fun _ => h.sep, fun _ => .inr h.noEq⟩
theorem Chunk.sign {s : ByteArray} (hk : signB s = true) : Chunk s.data.toList [s] NoEq := by
 have h0 : kindI s ≠ 0 := by
  have h1 := sign_not_key hk
  unfold kindI
  rw [h1]
  simp only [Bool.false_eq_true, if_false, hk, if_true]
  split
  ·decide
  ·split <;> decide
 refine (Chunk.word h0).weak fun _ h => ⟨fun ha => ?_, fun _ => .inr h⟩
 have := sign_facts hk
 have h2 := ha 0 (by have := this.1; omega)
 rw [this.2.1] at h2; cases h2
/-- A text that is such a stretch: its words, where it has no fault. -/
theorem chunk_words {l : List UInt8} {toks : List ByteArray} (h : Chunk l toks Gap) (hc : (wordsI ⟨l.toArray⟩).2.1 = 0) : (wordsI ⟨l.toArray⟩).1.map W3.s = toks ∧ ∀ x ∈ (wordsI ⟨l.toArray⟩).1, kindI x.s = x.k ∧ x.k ≠ 0 := by
 have hz : (ByteArray.mk l.toArray).size = l.length := by simp [ByteArray.size]
 unfold wordsI at hc ⊢
 split at hc
 ·cases hc
 ·rename_i hn
  rw [if_neg hn]
  obtain ⟨W, e, k, g⟩ := h ⟨l.toArray⟩ [] [] (by simp) (.inl rfl) []
  simp only [List.length_nil, Nat.zero_add, List.nil_append] at g
  have := g hc
  rw [this, skip_end (by omega), scan_end (by omega)]
  exact ⟨e, k⟩
end Go.Proofs.YtedfnadgmhjojaaGreatDoor
