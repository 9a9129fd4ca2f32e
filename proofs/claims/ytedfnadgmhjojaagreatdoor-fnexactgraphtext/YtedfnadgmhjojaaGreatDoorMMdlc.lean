/-
  PLAIN FACTS on the reading of words: where it ends, it has not gone back.
-/
import Derived.Test.YtedfnadgmhjojaaGreatDoorMGroveb
namespace Go.Proofs.YtedfnadgmhjojaaGreatDoor
open Go.RowKit
open Pl

theorem then_no {r : Res} {f : T → Nat → Res} {p : Nat} (h : r.then_ f = .no p) : r = .no p ∨ ∃ x i, r = .ok x i ∧ f x i = .no p := by
 cases r with
 | ok x i => exact .inr ⟨x, i, rfl, h⟩
 | no q => exact .inl h
theorem want_no {ws : List W3} {i : Nat} {s : ByteArray} {r : Res} {p : Nat} (h : want ws i s r = .no p) : p = i ∨ r = .no p := by
 unfold want at h
 split at h
 ·exact .inr h
 ·cases h; exact .inl rfl
theorem wantK_no {ws : List W3} {i : Nat} {k : Int} {r : Res} {p : Nat} (h : wantK ws i k r = .no p) : p = i ∨ r = .no p := by
 unfold wantK at h
 split at h
 ·exact .inr h
 ·cases h; exact .inl rfl
theorem no_inj {p q : Nat} (h : Res.no p = .no q) : p = q := by cases h; rfl
def AdvN (ws : List W3) (f : Nat) : Prop := (∀ i p, mOne ws f i = .no p → i ≤ p) ∧ (∀ i p, mTerm ws f i = .no p → i ≤ p) ∧ (∀ x i p, mTermL ws f x i = .no p → i ≤ p) ∧ (∀ i p, mExpr ws f i = .no p → i ≤ p) ∧ (∀ x i p, mExprL ws f x i = .no p → i ≤ p)
theorem advN_one {ws : List W3} {f : Nat} (ih : AdvN ws f) {i p : Nat} (h : mOne ws (f + 1) i = .no p) : i ≤ p := by
 obtain ⟨a1, a2, a3, a4, a5⟩ := ih
 have e4 := (adv ws f).2.2.2.1
 simp only [mOne] at h
 split at h
 ·rcases then_no h with h | ⟨x, k, h1, h2⟩
  ·have := a1 _ _ h; omega
  ·cases h2
 ·split at h
  ·rcases then_no h with h | ⟨x, k, h1, h2⟩
   ·have := a4 _ _ h; omega
   ·have := e4 _ _ _ h1
    rcases want_no h2 with h2 | h2
    ·omega
    ·cases h2
  ·split at h
   ·rcases want_no h with h | h
    ·omega
    ·rcases wantK_no h with h | h
     ·omega
     ·rcases want_no h with h | h
      ·omega
      ·cases h
   ·split at h
    ·cases h
    ·rcases wantK_no h with h | h
     ·omega
     ·split at h
      ·rcases then_no h with h | ⟨x, k, h1, h2⟩
       ·have := a4 _ _ h; omega
       ·have := e4 _ _ _ h1
        rcases want_no h2 with h2 | h2
        ·omega
        ·cases h2
      ·cases h
theorem advN (ws : List W3) (f : Nat) : AdvN ws f := by
 induction f with
 | zero => exact ⟨(fun _ _ h => by simp only [mOne] at h; exact Nat.le_of_eq (no_inj h)), (fun _ _ h => by simp only [mTerm] at h; exact Nat.le_of_eq (no_inj h)), (fun _ _ _ h => by simp only [mTermL] at h; exact Nat.le_of_eq (no_inj h)), (fun _ _ h => by simp only [mExpr] at h; exact Nat.le_of_eq (no_inj h)), (fun _ _ _ h => by simp only [mExprL] at h; exact Nat.le_of_eq (no_inj h))⟩
 | succ f ih =>
   have ih' := ih
   obtain ⟨a1, a2, a3, a4, a5⟩ := ih
   have e1 := (adv ws f).1
   have e2 := (adv ws f).2.1
   refine ⟨fun i p h => advN_one ih' h, fun i p h => ?_, fun x i p h => ?_, fun i p h => ?_, fun x i p h => ?_⟩
   ·simp only [mTerm] at h
    rcases then_no h with h | ⟨x, k, h1, h2⟩
    ·exact a1 _ _ h
    ·have := e1 _ _ _ h1; have := a3 _ _ _ h2; omega
   ·simp only [mTermL] at h
    split at h
    ·rcases then_no h with h | ⟨x, k, h1, h2⟩
     ·have := a1 _ _ h; omega
     ·have := e1 _ _ _ h1; have := a3 _ _ _ h2; omega
    ·cases h
   ·simp only [mExpr] at h
    rcases then_no h with h | ⟨x, k, h1, h2⟩
    ·exact a2 _ _ h
    ·have := e2 _ _ _ h1; have := a5 _ _ _ h2; omega
   ·simp only [mExprL] at h
    split at h
    ·rcases then_no h with h | ⟨x, k, h1, h2⟩
     ·have := a2 _ _ h; omega
     ·have := e2 _ _ _ h1; have := a5 _ _ _ h2; omega
    ·split at h
     ·rcases then_no h with h | ⟨x, k, h1, h2⟩
      ·have := a2 _ _ h; omega
      ·have := e2 _ _ _ h1; have := a5 _ _ _ h2; omega
     ·cases h
theorem advN_cond {ws : List W3} {f i p : Nat} (h : mCond ws f i = .no p) : i ≤ p := by
 unfold mCond at h
 have e4 := (adv ws f).2.2.2.1
 have n4 := (advN ws f).2.2.2.1
 rcases then_no h with h | ⟨x, k, h1, h2⟩
 ·exact n4 _ _ h
 ·have := e4 _ _ _ h1
  split at h2
  ·cases h2; omega
  ·rcases then_no h2 with h2 | ⟨y, k2, h3, h4⟩
   ·have := n4 _ _ h2; omega
   ·cases h4
theorem advN_short {ws : List W3} {f i p : Nat} (h : mShort ws f i = .no p) : i ≤ p := by
 unfold mShort at h
 have e4 := (adv ws f).2.2.2.1
 have n4 := (advN ws f).2.2.2.1
 split at h
 ·rcases wantK_no h with h | h
  ·omega
  ·cases h
 ·split at h
  ·rcases then_no h with h | ⟨x, k, h1, h2⟩
   ·have := advN_cond h; omega
   ·cases h2
  ·split at h
   ·cases h
   ·split at h
    ·cases h
    ·rcases wantK_no h with h | h
     ·omega
     ·split at h
      ·rcases then_no h with h | ⟨x, k, h1, h2⟩
       ·have := n4 _ _ h; omega
       ·have := e4 _ _ _ h1
        rcases want_no h2 with h2 | h2
        ·omega
        ·rcases want_no h2 with h2 | h2
         ·omega
         ·rcases then_no h2 with h2 | ⟨y, k2, h3, h4⟩
          ·have := n4 _ _ h2; omega
          ·cases h4
      ·rcases want_no h with h | h
       ·omega
       ·rcases then_no h with h | ⟨y, k2, h3, h4⟩
        ·have := n4 _ _ h; omega
        ·cases h4
def AdvNS (ws : List W3) (F f : Nat) : Prop := (∀ i p, mStmt ws F f i = .no p → i ≤ p) ∧ (∀ i p, mBlock ws F f i = .no p → i ≤ p) ∧ (∀ acc i p, mList ws F f acc i = .no p → i ≤ p)
theorem advNS (ws : List W3) (F f : Nat) : AdvNS ws F f := by
 induction f with
 | zero => exact ⟨(fun _ _ h => by simp only [mStmt] at h; exact Nat.le_of_eq (no_inj h)), (fun _ _ h => by simp only [mBlock] at h; exact Nat.le_of_eq (no_inj h)), (fun _ _ _ h => by simp only [mList] at h; exact Nat.le_of_eq (no_inj h))⟩
 | succ f ih =>
   obtain ⟨a1, a2, a3⟩ := ih
   have b1 := (advS ws F f).1
   have b2 := (advS ws F f).2.1
   have e4 := (adv ws F).2.2.2.1
   have n4 := (advN ws F).2.2.2.1
   refine ⟨fun i p h => ?_, fun i p h => ?_, fun acc i p h => ?_⟩
   ·simp only [mStmt] at h
    split at h
    ·rcases then_no h with h | ⟨x, k, h1, h2⟩
     ·have := advN_cond h; omega
     ·have := adv_cond h1
      rcases then_no h2 with h2 | ⟨y, k2, h3, h4⟩
      ·have := a2 _ _ h2; omega
      ·have := b2 _ _ _ h3
       split at h4
       ·rcases then_no h4 with h4 | ⟨z, k3, h5, h6⟩
        ·have := a2 _ _ h4; omega
        ·cases h6
       ·cases h4
    ·split at h
     ·rcases then_no h with h | ⟨x, k, h1, h2⟩
      ·have := advN_cond h; omega
      ·have := adv_cond h1
       rcases then_no h2 with h2 | ⟨y, k2, h3, h4⟩
       ·have := a2 _ _ h2; omega
       ·cases h4
     ·split at h
      ·rcases wantK_no h with h | h
       ·omega
       ·rcases want_no h with h | h
        ·omega
        ·rcases then_no h with h | ⟨x, k, h1, h2⟩
         ·have := n4 _ _ h; omega
         ·have := e4 _ _ _ h1
          rcases want_no h2 with h2 | h2
          ·omega
          ·rcases then_no h2 with h2 | ⟨y, k2, h3, h4⟩
           ·have := n4 _ _ h2; omega
           ·have := e4 _ _ _ h3
            rcases then_no h4 with h4 | ⟨z, k3, h5, h6⟩
            ·have := a2 _ _ h4; omega
            ·cases h6
      ·rcases then_no h with h | ⟨x, k, h1, h2⟩
       ·exact advN_short h
       ·have := adv_short h1
        rcases want_no h2 with h2 | h2
        ·omega
        ·cases h2
   ·simp only [mBlock] at h
    rcases want_no h with h | h
    ·omega
    ·have := a3 _ _ _ h; omega
   ·simp only [mList] at h
    split at h
    ·cases h
    ·rcases then_no h with h | ⟨x, k, h1, h2⟩
     ·exact a1 _ _ h
     ·have := b1 _ _ _ h1; have := a3 _ _ _ h2; omega

/-- Where the specification's reader stands: at a word, or at the word that cannot stand. -/
abbrev St2 := Nat × Bool
/-- What a part of the specification's reader answers, against the plain reading. -/
def SR (r : Res) (st : St2) (t : T) (st' : St2) : Prop := if st.2 = true then st' = st else match r with
 | .ok t' j => t = t' ∧ st' = (j, false)
 | .no p => st' = (p, true)
def tk (ws : List W3) (st : St2) (s : ByteArray) : Bool := !st.2 && isW ws st.1 s
def tkS (ws : List W3) (st : St2) (s : ByteArray) : St2 := if tk ws st s then (st.1 + 1, false) else st
def nd (ws : List W3) (st : St2) (s : ByteArray) : St2 := if tk ws st s then (st.1 + 1, false) else (st.1, true)
def nmB (ws : List W3) (st : St2) : Bool := !st.2 && decide (kindW ws st.1 = 1)
def nmT (ws : List W3) (st : St2) : ByteArray := if nmB ws st then textW ws st.1 else ⟨#[]⟩
def nmS (ws : List W3) (st : St2) : St2 := if nmB ws st then (st.1 + 1, false) else (st.1, true)
theorem tk_yes {ws : List W3} {st : St2} {s : ByteArray} (h : tk ws st s = true) : st.2 = false ∧ isW ws st.1 s = true := by
 unfold tk at h; simpa using h
theorem SR.bad {r : Res} {i : Nat} {t : T} {st' : St2} (h : SR r (i, true) t st') : st' = (i, true) := by simpa [SR] using h
theorem SR.ok {i j : Nat} {t t' : T} {st' : St2} (h : SR (.ok t' j) (i, false) t st') : t = t' ∧ st' = (j, false) := by simpa [SR] using h
theorem SR.no {i p : Nat} {t : T} {st' : St2} (h : SR (.no p) (i, false) t st') : st' = (p, true) := by simpa [SR] using h
theorem SR.mk_bad (r : Res) (i : Nat) (t : T) : SR r (i, true) t (i, true) := by simp [SR]
theorem SR.mk_ok (i : Nat) (t : T) (j : Nat) : SR (.ok t j) (i, false) t (j, false) := by simp [SR]
theorem SR.mk_no (i : Nat) (t : T) (p : Nat) : SR (.no p) (i, false) t (p, true) := by simp [SR]
theorem nd_bad (ws : List W3) (i : Nat) (s : ByteArray) : nd ws (i, true) s = (i, true) := by simp [nd, tk]
theorem nd_good (ws : List W3) (i : Nat) (s : ByteArray) : nd ws (i, false) s = if isW ws i s then (i + 1, false) else (i, true) := by simp [nd, tk]
end Go.Proofs.YtedfnadgmhjojaaGreatDoor
