/-
  PLAIN FACTS on the reading of words: where it ends, it has not gone back.
  PLAIN FACTS: a text that is put together of words and blanks is read as those words.
-/
import Derived.Test.YtjmjmdmnejnlbaaGreatDoorMGrove
import Derived.Test.YtjmjmdmnejnlbaaGreatDoorMGroveb
namespace Go.Proofs.YtjmjmdmnejnlbaaGreatDoor
open Go.RowKit
open Pl

theorem then_no {r : Res} {f : T → Nat → Res} {p : Nat} (h : r.then_ f = .no p) : r = .no p ∨ ∃ x i, r = .ok x i ∧ f x i = .no p := by
 cases r with
 | ok x i => exact .inr ⟨x, i, rfl, h⟩
 | no q => exact .inl h
theorem want_no {ws : List W3} {i : Nat} {s : ByteArray} {r : Res} {p : Nat} (h : want ws i s r = .no p) : p = i ∨ r = .no p := by
 unfold want at h
 split at h
 ·exact .inr h
 ·cases h; exact .inl rfl
theorem wantK_no {ws : List W3} {i : Nat} {k : Int} {r : Res} {p : Nat} (h : wantK ws i k r = .no p) : p = i ∨ r = .no p := by
 unfold wantK at h
 split at h
 ·exact .inr h
 ·cases h; exact .inl rfl
theorem no_inj {p q : Nat} (h : Res.no p = .no q) : p = q := by cases h; rfl
def AdvN (ws : List W3) (f : Nat) : Prop := (∀ i p, mOne ws f i = .no p → i ≤ p) ∧ (∀ i p, mTerm ws f i = .no p → i ≤ p) ∧ (∀ x i p, mTermL ws f x i = .no p → i ≤ p) ∧ (∀ i p, mExpr ws f i = .no p → i ≤ p) ∧ (∀ x i p, mExprL ws f x i = .no p → i ≤ p)
theorem advN_one {ws : List W3} {f : Nat} (ih : AdvN ws f) {i p : Nat} (h : mOne ws (f + 1) i = .no p) : i ≤ p := by
 obtain ⟨a1, a2, a3, a4, a5⟩ := ih
 have e4 := (adv ws f).2.2.2.1
 simp only [mOne] at h
 split at h
 ·rcases then_no h with h | ⟨x, k, h1, h2⟩
  ·have := a1 _ _ h; omega
  ·cases h2
 ·split at h
  ·rcases then_no h with h | ⟨x, k, h1, h2⟩
   ·have := a4 _ _ h; omega
   ·have := e4 _ _ _ h1
    rcases want_no h2 with h2 | h2
    ·omega
    ·cases h2
  ·split at h
   ·rcases want_no h with h | h
    ·omega
    ·rcases wantK_no h with h | h
     ·omega
     ·rcases want_no h with h | h
      ·omega
      ·cases h
   ·split at h
    ·cases h
    ·rcases wantK_no h with h | h
     ·omega
     ·split at h
      ·rcases then_no h with h | ⟨x, k, h1, h2⟩
       ·have := a4 _ _ h; omega
       ·have := e4 _ _ _ h1
        rcases want_no h2 with h2 | h2
        ·omega
        ·cases h2
      ·cases h
theorem advN (ws : List W3) (f : Nat) : AdvN ws f := by
 induction f with
 | zero => exact ⟨(fun _ _ h => by simp only [mOne] at h; exact Nat.le_of_eq (no_inj h)), (fun _ _ h => by simp only [mTerm] at h; exact Nat.le_of_eq (no_inj h)), (fun _ _ _ h => by simp only [mTermL] at h; exact Nat.le_of_eq (no_inj h)), (fun _ _ h => by simp only [mExpr] at h; exact Nat.le_of_eq (no_inj h)), (fun _ _ _ h => by simp only [mExprL] at h; exact Nat.le_of_eq (no_inj h))⟩
 | succ f ih =>
   have ih' := ih
   obtain ⟨a1, a2, a3, a4, a5⟩ := ih
   have e1 := (adv ws f).1
   have e2 := (adv ws f).2.1
   refine ⟨fun i p h => advN_one ih' h, fun i p h => ?_, fun x i p h => ?_, fun i p h => ?_, fun x i p h => ?_⟩
   ·simp only [mTerm] at h
    rcases then_no h with h | ⟨x, k, h1, h2⟩
    ·exact a1 _ _ h
    ·have := e1 _ _ _ h1; have := a3 _ _ _ h2; omega
   ·simp only [mTermL] at h
    split at h
    ·rcases then_no h with h | ⟨x, k, h1, h2⟩
     ·have := a1 _ _ h; omega
     ·have := e1 _ _ _ h1; have := a3 _ _ _ h2; omega
    ·cases h
   ·simp only [mExpr] at h
    rcases then_no h with h | ⟨x, k, h1, h2⟩
    ·exact a2 _ _ h
    ·have := e2 _ _ _ h1; have := a5 _ _ _ h2; omega
   ·simp only [mExprL] at h
    split at h
    ·rcases then_no h with h | ⟨x, k, h1, h2⟩
     ·have := a2 _ _ h; omega
     ·have := e2 _ _ _ h1; have := a5 _ _ _ h2; omega
    ·split at h
     ·rcases then_no h with h | ⟨x, k, h1, h2⟩
      ·have := a2 _ _ h; omega
      ·have := e2 _ _ _ h1; have := a5 _ _ _ h2; omega
     ·cases h
theorem advN_cond {ws : List W3} {f i p : Nat} (h : mCond ws f i = .no p) : i ≤ p := by
 unfold mCond at h
 have e4 := (adv ws f).2.2.2.1
 have n4 := (advN ws f).2.2.2.1
 rcases then_no h with h | ⟨x, k, h1, h2⟩
 ·exact n4 _ _ h
 ·have := e4 _ _ _ h1
  split at h2
  ·cases h2; omega
  ·rcases then_no h2 with h2 | ⟨y, k2, h3, h4⟩
   ·have := n4 _ _ h2; omega
   ·cases h4
theorem advN_short {ws : List W3} {f i p : Nat} (h : mShort ws f i = .no p) : i ≤ p := by
 unfold mShort at h
 have e4 := (adv ws f).2.2.2.1
 have n4 := (advN ws f).2.2.2.1
 split at h
 ·rcases wantK_no h with h | h
  ·omega
  ·cases h
 ·split at h
  ·rcases then_no h with h | ⟨x, k, h1, h2⟩
   ·have := advN_cond h; omega
   ·cases h2
  ·split at h
   ·cases h
   ·split at h
    ·cases h
    ·rcases wantK_no h with h | h
     ·omega
     ·split at h
      ·rcases then_no h with h | ⟨x, k, h1, h2⟩
       ·have := n4 _ _ h; omega
       ·have := e4 _ _ _ h1
        rcases want_no h2 with h2 | h2
        ·omega
        ·rcases want_no h2 with h2 | h2
         ·omega
         ·rcases then_no h2 with h2 | ⟨y, k2, h3, h4⟩
          ·have := n4 _ _ h2; omega
          ·cases h4
      ·rcases want_no h with h | h
       ·omega
       ·rcases then_no h with h | ⟨y, k2, h3, h4⟩
        ·have := n4 _ _ h; omega
        ·cases h4
def AdvNS (ws : List W3) (F f : Nat) : Prop := (∀ i p, mStmt ws F f i = .no p → i ≤ p) ∧ (∀ i p, mBlock ws F f i = .no p → i ≤ p) ∧ (∀ acc i p, mList ws F f acc i = .no p → i ≤ p)
theorem advNS (ws : List W3) (F f : Nat) : AdvNS ws F f := by
 induction f with
 | zero => exact ⟨(fun _ _ h => by simp only [mStmt] at h; exact Nat.le_of_eq (no_inj h)), (fun _ _ h => by simp only [mBlock] at h; exact Nat.le_of_eq (no_inj h)), (fun _ _ _ h => by simp only [mList] at h; exact Nat.le_of_eq (no_inj h))⟩
 | succ f ih =>
   obtain ⟨a1, a2, a3⟩ := ih
   have b1 := (advS ws F f).1
   have b2 := (advS ws F f).2.1
   have e4 := (adv ws F).2.2.2.1
   have n4 := (advN ws F).2.2.2.1
   refine ⟨fun i p h => ?_, fun i p h => ?_, fun acc i p h => ?_⟩
   ·simp only [mStmt] at h
    split at h
    ·rcases then_no h with h | ⟨x, k, h1, h2⟩
     ·have := advN_cond h; omega
     ·have := adv_cond h1
      rcases then_no h2 with h2 | ⟨y, k2, h3, h4⟩
      ·have := a2 _ _ h2; omega
      ·have := b2 _ _ _ h3
       split at h4
       ·rcases then_no h4 with h4 | ⟨z, k3, h5, h6⟩
        ·have := a2 _ _ h4; omega
        ·cases h6
       ·cases h4
    ·split at h
     ·rcases then_no h with h | ⟨x, k, h1, h2⟩
      ·have := advN_cond h; omega
      ·have := adv_cond h1
       rcases then_no h2 with h2 | ⟨y, k2, h3, h4⟩
       ·have := a2 _ _ h2; omega
       ·cases h4
     ·split at h
      ·rcases wantK_no h with h | h
       ·omega
       ·rcases want_no h with h | h
        ·omega
        ·rcases then_no h with h | ⟨x, k, h1, h2⟩
         ·have := n4 _ _ h; omega
         ·have := e4 _ _ _ h1
          rcases want_no h2 with h2 | h2
          ·omega
          ·rcases then_no h2 with h2 | ⟨y, k2, h3, h4⟩
           ·have := n4 _ _ h2; omega
           ·have := e4 _ _ _ h3
            rcases then_no h4 with h4 | ⟨z, k3, h5, h6⟩
            ·have := a2 _ _ h4; omega
            ·cases h6
      ·rcases then_no h with h | ⟨x, k, h1, h2⟩
       ·exact advN_short h
       ·have := adv_short h1
        rcases want_no h2 with h2 | h2
        ·omega
        ·cases h2
   ·simp only [mBlock] at h
    rcases want_no h with h | h
    ·omega
    ·have := a3 _ _ _ h; omega
   ·simp only [mList] at h
    split at h
    ·cases h
    ·rcases then_no h with h | ⟨x, k, h1, h2⟩
     ·exact a1 _ _ h
     ·have := b1 _ _ _ h1; have := a3 _ _ _ h2; omega

/-- Where the specification's reader stands: at a word, or at the word that cannot stand. -/
abbrev St2 := Nat × Bool
/-- What a part of the specification's reader answers, against the plain reading. -/
def SR (r : Res) (st : St2) (t : T) (st' : St2) : Prop := if st.2 = true then st' = st else match r with
 | .ok t' j => t = t' ∧ st' = (j, false)
 | .no p => st' = (p, true)
def tk (ws : List W3) (st : St2) (s : ByteArray) : Bool := !st.2 && isW ws st.1 s
def tkS (ws : List W3) (st : St2) (s : ByteArray) : St2 := if tk ws st s then (st.1 + 1, false) else st
def nd (ws : List W3) (st : St2) (s : ByteArray) : St2 := if tk ws st s then (st.1 + 1, false) else (st.1, true)
def nmB (ws : List W3) (st : St2) : Bool := !st.2 && decide (kindW ws st.1 = 1)
def nmT (ws : List W3) (st : St2) : ByteArray := if nmB ws st then textW ws st.1 else ⟨#[]⟩
def nmS (ws : List W3) (st : St2) : St2 := if nmB ws st then (st.1 + 1, false) else (st.1, true)
theorem tk_yes {ws : List W3} {st : St2} {s : ByteArray} (h : tk ws st s = true) : st.2 = false ∧ isW ws st.1 s = true := by
 unfold tk at h; simpa using h
theorem SR.bad {r : Res} {i : Nat} {t : T} {st' : St2} (h : SR r (i, true) t st') : st' = (i, true) := by simpa [SR] using h
theorem SR.ok {i j : Nat} {t t' : T} {st' : St2} (h : SR (.ok t' j) (i, false) t st') : t = t' ∧ st' = (j, false) := by simpa [SR] using h
theorem SR.no {i p : Nat} {t : T} {st' : St2} (h : SR (.no p) (i, false) t st') : st' = (p, true) := by simpa [SR] using h
theorem SR.mk_bad (r : Res) (i : Nat) (t : T) : SR r (i, true) t (i, true) := by simp [SR]
theorem SR.mk_ok (i : Nat) (t : T) (j : Nat) : SR (.ok t j) (i, false) t (j, false) := by simp [SR]
theorem SR.mk_no (i : Nat) (t : T) (p : Nat) : SR (.no p) (i, false) t (p, true) := by simp [SR]
theorem nd_bad (ws : List W3) (i : Nat) (s : ByteArray) : nd ws (i, true) s = (i, true) := by simp [nd, tk]
theorem nd_good (ws : List W3) (i : Nat) (s : ByteArray) : nd ws (i, false) s = if isW ws i s then (i + 1, false) else (i, true) := by simp [nd, tk]
end Go.Proofs.YtjmjmdmnejnlbaaGreatDoor
namespace Go.Proofs.YtjmjmdmnejnlbaaGreatDoor
open Go.RowKit
open Pl

theorem all_low {s : ByteArray} {l : List UInt8} (h : s.toList = l) (ha : l.all (fun c => lowI c.toNat) = true) (j : Nat) (hj : j < s.size) : alnum s j = true := by
 rw [Lib.toList_data] at h
 have hl : j < l.length := by rw [← h, ← Lib.size_eq]; exact hj
 unfold alnum
 rw [byt_list, h, List.getD_eq_getElem?_getD, List.getElem?_eq_getElem hl]
 have := (List.all_eq_true.1 ha) l[j] (List.getElem_mem _)
 simp only [Option.getD_some]
 rw [this]; rfl
theorem key_alnum {s : ByteArray} (h : keyB s = true) (j : Nat) (hj : j < s.size) : alnum s j = true := by
 unfold keyB keys at h
 simp only [List.contains_cons, Bool.or_eq_true, beq_iff_eq, List.contains_nil, Bool.false_eq_true, or_false] at h
 rcases h with h | h | h | h | h | h | h | h | h | h | h | h | h <;> exact all_low h rfl j hj
theorem sign_facts {s : ByteArray} (h : signB s = true) : (s.size = 1 ∨ (s.size = 2 ∧ byt s 1 = 61)) ∧ alnum s 0 = false ∧ blankB s 0 = false ∧ byt s 0 ≠ 35 := by
 unfold signB signs at h
 simp only [List.contains_cons, Bool.or_eq_true, beq_iff_eq, List.contains_nil, Bool.false_eq_true, or_false] at h
 unfold alnum blankB
 rw [Lib.size_eq, byt_list, byt_list]
 rw [Lib.toList_data] at h
 rcases h with h | h | h | h | h | h | h | h | h | h | h | h | h | h | h | h | h | h <;> (rw [h]; refine ⟨?_, ?_, ?_, ?_⟩ <;> simp [lowI, digI])
theorem word_shape {s : ByteArray} (h : kindI s ≠ 0) : 1 ≤ s.size ∧ ((∀ j, j < s.size → alnum s j = true) ∨ signB s = true) := by
 by_cases hk : keyB s = true
 ·exact ⟨(key_low hk).2, .inl (key_alnum hk)⟩
 ·by_cases hn : nameB s = true
  ·have hp : nameP s := by simpa [nameB] using hn
   refine ⟨hp.1, .inl fun j hj => ?_⟩
   unfold alnum
   rcases hp.2.2.2 j hj with e | e
   ·rw [e]; rfl
   ·rw [e.2]; simp
  ·by_cases hu : numB s = true
   ·have hp : numP s := by simpa [numB] using hu
    refine ⟨hp.1, .inl fun j hj => ?_⟩
    unfold alnum
    rw [hp.2.1 j hj]; simp
   ·by_cases hs : signB s = true
    ·have := (sign_facts hs).1
     exact ⟨by omega, .inr hs⟩
    ·exfalso
     apply h
     simp at hk hn hu hs
     simp [kindI, hk, hn, hu, hs]

/-- A word within a text, a blank or the end behind it. -/
theorem within {T : ByteArray} {pre suf : List UInt8} {s : ByteArray} (h : T.data.toList = pre ++ (s.data.toList ++ suf)) :
    pre.length + s.size ≤ T.size ∧ T.extract pre.length (pre.length + s.size) = s ∧ (∀ j, j < s.size → byt T (pre.length + j) = byt s j) ∧ (suf = [] → pre.length + s.size = T.size) ∧ (∀ c r, suf = c :: r → pre.length + s.size < T.size ∧ byt T (pre.length + s.size) = (c.toNat : Int)) := by
 have hz : T.size = pre.length + (s.size + suf.length) := by rw [Lib.size_eq, h, Lib.size_eq]; simp
 refine ⟨by omega, ?_, fun j hj => ?_, fun e => ?_, fun c r e => ?_⟩
 ·rw [Lib.extract_eq, h, List.drop_left' rfl, show pre.length + s.size - pre.length = s.size by omega, List.take_left' (Lib.size_eq s).symm, Lib.mk_data]
 ·rw [byt_list, byt_list, h, List.getD_eq_getElem?_getD, List.getD_eq_getElem?_getD, List.getElem?_append_right (by omega), show pre.length + j - pre.length = j by omega, List.getElem?_append_left (by rw [← Lib.size_eq]; exact hj)]
 ·subst e; simp at hz; omega
 ·subst e
  refine ⟨by simp at hz; omega, ?_⟩
  rw [byt_list, h, List.getD_eq_getElem?_getD, List.getElem?_append_right (by omega), show pre.length + s.size - pre.length = s.size by omega, List.getElem?_append_right (by rw [← Lib.size_eq]; omega), ← Lib.size_eq, Nat.sub_self]
  rfl
def alW (s : ByteArray) : Prop := ∀ j, j < s.size → alnum s j = true
/-- What may stand behind a word of letters and digits. -/
def Sep (suf : List UInt8) : Prop := suf = [] ∨ ∃ c r, suf = c :: r ∧ (lowI c.toNat || digI c.toNat) = false
/-- What may stand behind a sign. -/
def NoEq (suf : List UInt8) : Prop := suf = [] ∨ ∃ c r, suf = c :: r ∧ c.toNat ≠ 61
theorem end_of {T : ByteArray} {pre suf : List UInt8} {s : ByteArray} (h : T.data.toList = pre ++ (s.data.toList ++ suf)) (hk : kindI s ≠ 0) (ha1 : alW s → Sep suf) (hs1 : signB s = true → s.size = 2 ∨ NoEq suf) :
    pre.length < T.size ∧ endI T pre.length = pre.length + s.size ∧ T.extract pre.length (endI T pre.length) = s ∧ skipI T pre.length = pre.length := by
 obtain ⟨w1, w2, w3, w4, w5⟩ := within h
 obtain ⟨h1, hsh⟩ := word_shape hk
 have hp : pre.length < T.size := by omega
 have b0 := w3 0 (by omega)
 rw [Nat.add_zero] at b0
 have hend : endI T pre.length = pre.length + s.size := by
  rcases hsh with hal | hsg
  ·have ha : alnum T pre.length = true := by unfold alnum; rw [b0]; exact hal 0 (by omega)
   unfold endI
   rw [if_pos ha]
   refine first_eq ⟨by omega, w1, fun j j1 j2 => ?_, ?_⟩
   ·have := hal (j - pre.length) (by omega)
    have e := w3 (j - pre.length) (by omega)
    rw [show pre.length + (j - pre.length) = j by omega] at e
    show (!alnum T j) = false
    unfold alnum at this ⊢
    rw [e, this]; rfl
   ·rcases ha1 hal with e | ⟨c, r, e, hc⟩
    ·exact .inl (w4 e)
    ·refine .inr ?_
     show (!alnum T (pre.length + s.size)) = true
     unfold alnum
     rw [(w5 _ _ e).2, hc]; rfl
  ·obtain ⟨f1, f2, _, _⟩ := sign_facts hsg
   have ha : alnum T pre.length = false := by unfold alnum at f2 ⊢; rw [b0]; exact f2
   unfold endI
   rw [if_neg (by simp [ha])]
   rcases f1 with f1 | ⟨f1, _⟩
   ·rw [if_neg]
    ·omega
    ·rintro ⟨g1, g2⟩
     rcases hs1 hsg with e | e | ⟨c, r, e, hc⟩
     ·omega
     ·have := w4 e; omega
     ·obtain ⟨f3, _⟩ := sign_facts g2
      have hz : (T.extract pre.length (pre.length + 2)).size = 2 := by rw [size_ext _ _ _ (by omega)]; omega
      have hb : byt (T.extract pre.length (pre.length + 2)) 1 = byt T (pre.length + 1) := byt_ext _ _ _ 1 (by omega)
      have h32 := (w5 _ _ e).2
      rw [f1] at h32
      rw [h32] at hb
      rcases f3 with f3 | ⟨_, f3⟩
      ·omega
      ·rw [hb] at f3; omega
   ·rw [if_pos]
    ·omega
    ·rw [f1] at w1 w2
     exact ⟨by omega, by rw [w2]; exact hsg⟩
 refine ⟨hp, hend, by rw [hend]; exact w2, ?_⟩
 rcases hsh with hal | hsg
 ·have ha := hal 0 (by omega)
  unfold alnum at ha
  rw [Bool.or_eq_true, low_iff, dig_iff] at ha
  refine skip_stop hp ?_ (by rw [b0]; omega)
  unfold blankB
  rw [b0]; simp; omega
 ·obtain ⟨_, _, f3, f4⟩ := sign_facts hsg
  exact skip_stop hp (by unfold blankB at f3 ⊢; rw [b0]; exact f3) (by rw [b0]; exact f4)

/-- From place p on the words toks are read, and then it goes on from q. -/
def Reads (T : ByteArray) (p q : Nat) (toks : List ByteArray) : Prop := ∀ acc : List W3, ∃ W : List W3, W.map W3.s = toks ∧ (∀ x ∈ W, kindI x.s = x.k ∧ x.k ≠ 0) ∧ ((scanI T (skipI T p) acc).2.1 = 0 → scanI T (skipI T p) acc = scanI T (skipI T q) (acc ++ W))
theorem Reads.nil (T : ByteArray) (p : Nat) : Reads T p p [] := fun acc => ⟨[], rfl, fun x hx => (by cases hx), fun _ => by rw [List.append_nil]⟩
theorem Reads.trans {T : ByteArray} {p q r : Nat} {a b : List ByteArray} (h1 : Reads T p q a) (h2 : Reads T q r b) : Reads T p r (a ++ b) := fun acc => by
 obtain ⟨W1, e1, k1, g1⟩ := h1 acc
 obtain ⟨W2, e2, k2, g2⟩ := h2 (acc ++ W1)
 refine ⟨W1 ++ W2, by rw [List.map_append, e1, e2], fun x hx => ?_, fun h => ?_⟩
 ·rcases List.mem_append.1 hx with hx | hx
  ·exact k1 x hx
  ·exact k2 x hx
 ·have := g1 h
  rw [this] at h ⊢
  rw [g2 h, List.append_assoc]
/-- A stretch of text that is read as the words toks, whatever text it lies in, where F holds of what stands behind. -/
def Chunk (l : List UInt8) (toks : List ByteArray) (F : List UInt8 → Prop) : Prop := ∀ (T : ByteArray) (pre suf : List UInt8), T.data.toList = pre ++ (l ++ suf) → F suf → Reads T pre.length (pre.length + l.length) toks
theorem Chunk.app {l1 l2 : List UInt8} {t1 t2 : List ByteArray} {F1 F2 : List UInt8 → Prop} (h1 : Chunk l1 t1 F1) (h2 : Chunk l2 t2 F2) (hF : ∀ suf, F2 suf → F1 (l2 ++ suf)) : Chunk (l1 ++ l2) (t1 ++ t2) F2 := fun T pre suf hT hs => by
 have a := h1 T pre (l2 ++ suf) (by rw [hT, List.append_assoc]) (hF suf hs)
 have b := h2 T (pre ++ l1) suf (by rw [hT]; simp) hs
 rw [List.length_append] at b
 have := a.trans b
 rwa [List.length_append, ← Nat.add_assoc]
theorem Chunk.weak {l : List UInt8} {t : List ByteArray} {F G : List UInt8 → Prop} (h : Chunk l t F) (hG : ∀ s, G s → F s) : Chunk l t G := fun T pre suf hT hs => h T pre suf hT (hG suf hs)
theorem Chunk.nil (F : List UInt8 → Prop) : Chunk [] [] F := fun T pre _ _ _ => by
 rw [List.length_nil, Nat.add_zero]; exact Reads.nil T _
theorem Chunk.word {s : ByteArray} (hk : kindI s ≠ 0) : Chunk s.data.toList [s] (fun suf => (alW s → Sep suf) ∧ (signB s = true → s.size = 2 ∨ NoEq suf)) := fun T pre suf hT hs acc => by
 obtain ⟨p1, p2, p3, p4⟩ := end_of hT hk hs.1 hs.2
 refine ⟨[⟨kindI s, s, pre.length⟩], rfl, fun x hx => ?_, fun h => ?_⟩
 ·rw [List.mem_singleton] at hx; subst hx; exact ⟨rfl, hk⟩
 ·rw [p4] at h ⊢
  by_cases hm : acc.length = 1500
  ·rw [scan_many p1 (by rw [p3]; exact hk) hm] at h; cases h
  ·rw [scan_go p1 (by rw [p3]; exact hk) hm, p3, p2, ← Lib.size_eq]
theorem Chunk.blank {c : UInt8} (hc : c.toNat = 32 ∨ c.toNat = 10) (F : List UInt8 → Prop) : Chunk [c] [] F := fun T pre suf hT _ acc => by
 refine ⟨[], rfl, fun x hx => (by cases hx), fun _ => ?_⟩
 have hl : T.size = pre.length + (1 + suf.length) := by rw [Lib.size_eq, hT]; simp; omega
 have hb : byt T pre.length = (c.toNat : Int) := by
  rw [byt_list, hT, List.getD_eq_getElem?_getD, List.getElem?_append_right (Nat.le_refl _), Nat.sub_self]; rfl
 rw [skip_blank (by omega) (by unfold blankB; rw [hb]; rcases hc with e | e <;> rw [e] <;> rfl), List.append_nil]; rfl
/-- What may stand behind any word. -/
def Gap (suf : List UInt8) : Prop := suf = [] ∨ ∃ c r, suf = c :: r ∧ (lowI c.toNat || digI c.toNat) = false ∧ c.toNat ≠ 61
theorem Gap.sep {suf : List UInt8} (h : Gap suf) : Sep suf := by
 rcases h with h | ⟨c, r, h, h1, _⟩
 ·exact .inl h
 ·exact .inr ⟨c, r, h, h1⟩
theorem Gap.noEq {suf : List UInt8} (h : Gap suf) : NoEq suf := by
 rcases h with h | ⟨c, r, h, _, h1⟩
 ·exact .inl h
 ·exact .inr ⟨c, r, h, h1⟩
theorem Gap.at {c : UInt8} (r : List UInt8) (h : ((lowI c.toNat || digI c.toNat) = false ∧ c.toNat ≠ 61)) : Gap (c :: r) := .inr ⟨c, r, rfl, h⟩
theorem Chunk.any {s : ByteArray} (hk : kindI s ≠ 0) : Chunk s.data.toList [s] Gap := (Chunk.word hk).weak fun _ h => ⟨fun _ => h.sep, fun _ => .inr h.noEq⟩
theorem Chunk.sign {s : ByteArray} (hk : signB s = true) : Chunk s.data.toList [s] NoEq := by
 have h0 : kindI s ≠ 0 := by
  have h1 := sign_not_key hk
  unfold kindI
  rw [h1]
  simp only [Bool.false_eq_true, if_false, hk, if_true]
  split
  ·decide
  ·split <;> decide
 refine (Chunk.word h0).weak fun _ h => ⟨fun ha => ?_, fun _ => .inr h⟩
 have := sign_facts hk
 have h2 := ha 0 (by have := this.1; omega)
 rw [this.2.1] at h2; cases h2
end Go.Proofs.YtjmjmdmnejnlbaaGreatDoor
