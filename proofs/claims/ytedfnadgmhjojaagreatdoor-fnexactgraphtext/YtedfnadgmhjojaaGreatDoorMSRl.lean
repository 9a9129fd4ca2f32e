/-
  PLAIN FACTS: the specification's reader against the plain reading, at expressions.
-/
import Derived.Test.YtedfnadgmhjojaaGreatDoorMMdlc
import Derived.Test.YtedfnadgmhjojaaGreatDoorMGroveb
namespace Go.Proofs.YtedfnadgmhjojaaGreatDoor
open Go.RowKit
open Pl

theorem isW_other {ws : List W3} {i : Nat} {s t : ByteArray} (h : isW ws i s = true) (hne : s ≠ t) : isW ws i t = false := by
 cases q : isW ws i t with
 | false => rfl
 | true => exact absurd ((isW_text h).symm.trans (isW_text q)) hne
theorem not_num {s : ByteArray} (h : digI (byt s 0) = false) : kindI s ≠ 2 := fun e => by
 have hn := kind_num e
 have hp : numP s := by simpa [numB] using hn
 have := hp.2.1 0 (by have := hp.1; omega)
 rw [h] at this; cases this
theorem kind_name {s : ByteArray} (h : kindI s = 1) : nameB s = true := by
 unfold kindI at h
 split at h
 ·cases h
 ·split at h
  ·assumption
  ·split at h
   ·cases h
   ·split at h <;> cases h
theorem not_name {s : ByteArray} (h : lowI (byt s 0) = false) : kindI s ≠ 1 := fun e => by
 have hn := kind_name e
 have hp : nameP s := by simpa [nameB] using hn
 rcases hp.2.2.2 0 (by have := hp.1; omega) with q | q
 ·rw [h] at q; cases q
 ·exact q.1 rfl
theorem key_not_name {s : ByteArray} (h : keyB s = true) : kindI s = 4 := by unfold kindI; rw [h]; rfl
theorem sr_neg {ws : List W3} {f i : Nat} {x : T} {st' : St2} (h1 : isW ws i ⟨#[45]⟩ = true) (h : SR (mOne ws f (i + 1)) (i + 1, false) x st') : SR (mOne ws (f + 1) i) (i, false) (.node 5 nil_ 0 [x]) st' := by
 simp only [mOne]
 rw [if_pos h1]
 generalize mOne ws f (i + 1) = r at h ⊢
 cases r with
 | no p => rw [h.no]; exact SR.mk_no _ _ _
 | ok t j => rw [h.ok.1, h.ok.2]; exact SR.mk_ok _ _ _
theorem sr_par {ws : List W3} {f i : Nat} {x : T} {st' : St2} (h1 : isW ws i ⟨#[40]⟩ = true) (h : SR (mExpr ws f (i + 1)) (i + 1, false) x st') : SR (mOne ws (f + 1) i) (i, false) x (nd ws st' ⟨#[41]⟩) := by
 simp only [mOne]
 rw [if_neg (by rw [isW_other h1 (by decide)]; decide), if_pos h1]
 generalize mExpr ws f (i + 1) = r at h ⊢
 cases r with
 | no p => rw [h.no, nd_bad]; exact SR.mk_no _ _ _
 | ok t j =>
   rw [h.ok.1, h.ok.2, nd_good]
   simp only [Res.then_, want]
   split
   ·exact SR.mk_ok _ _ _
   ·exact SR.mk_no _ _ _
theorem sr_len {ws : List W3} {f i : Nat} (h1 : isW ws i ⟨#[108, 101, 110]⟩ = true) :
    SR (mOne ws (f + 1) i) (i, false) (.node 4 (nmT ws (nd ws (i + 1, false) ⟨#[40]⟩)) 0 []) (nd ws (nmS ws (nd ws (i + 1, false) ⟨#[40]⟩)) ⟨#[41]⟩) := by
 simp only [mOne]
 rw [if_neg (by rw [isW_other h1 (by decide)]; decide), if_neg (by rw [isW_other h1 (by decide)]; decide), if_pos h1, nd_good]
 simp only [want, wantK]
 by_cases h2 : isW ws (i + 1) ⟨#[40]⟩ = true
 ·rw [if_pos h2, if_pos h2]
  by_cases h3 : kindW ws (i + 2) = 1
  ·have e1 : nmS ws (i + 1 + 1, false) = (i + 3, false) := by simp [nmS, nmB, h3]
   have e2 : nmT ws (i + 1 + 1, false) = textW ws (i + 2) := by simp [nmT, nmB, h3]
   rw [if_pos h3, e1, e2, nd_good]
   by_cases h4 : isW ws (i + 3) ⟨#[41]⟩ = true
   ·rw [if_pos h4, if_pos h4]; exact SR.mk_ok _ _ _
   ·rw [if_neg h4, if_neg h4]; exact SR.mk_no _ _ _
  ·have e1 : nmS ws (i + 1 + 1, false) = (i + 2, true) := by simp [nmS, nmB, h3]
   rw [if_neg h3, e1, nd_bad]; exact SR.mk_no _ _ _
 ·rw [if_neg h2, if_neg h2]
  have e1 : nmS ws (i + 1, true) = (i + 1, true) := by simp [nmS, nmB]
  rw [e1, nd_bad]; exact SR.mk_no _ _ _
theorem num_words {ws : List W3} (hw : WsOk ws) {i : Nat} (h : kindW ws i = 2) {s : ByteArray} (hs : digI (byt s 0) = false) : isW ws i s = false := by
 cases q : isW ws i s with
 | false => rfl
 | true => exact absurd ((isW_kind hw q).symm.trans h) (not_num hs)
theorem name_words {ws : List W3} (hw : WsOk ws) {i : Nat} (h : kindW ws i = 1) {s : ByteArray} (hs : kindI s ≠ 1) : isW ws i s = false := by
 cases q : isW ws i s with
 | false => rfl
 | true => exact absurd ((isW_kind hw q).symm.trans h) hs
theorem sr_num {ws : List W3} (hw : WsOk ws) {f i : Nat} (h1 : kindW ws i = 2) : SR (mOne ws (f + 1) i) (i, false) (.node 1 nil_ (numV (textW ws i)) []) (i + 1, false) := by
 simp only [mOne]
 rw [if_neg (by rw [num_words hw h1 (by decide)]; decide), if_neg (by rw [num_words hw h1 (by decide)]; decide), if_neg (by rw [num_words hw h1 (by decide)]; decide), if_pos h1]
 exact SR.mk_ok _ _ _
theorem sr_cell {ws : List W3} {f i : Nat} {x : T} {st' : St2} (n0 : isW ws i ⟨#[45]⟩ = false) (n1 : isW ws i ⟨#[40]⟩ = false) (n2 : isW ws i ⟨#[108, 101, 110]⟩ = false) (n3 : kindW ws i ≠ 2) (h1 : kindW ws i = 1) (h2 : isW ws (i + 1) ⟨#[91]⟩ = true)
    (h : SR (mExpr ws f (i + 2)) (i + 2, false) x st') : SR (mOne ws (f + 1) i) (i, false) (.node 3 (textW ws i) 0 [x]) (nd ws st' ⟨#[93]⟩) := by
 simp only [mOne]
 rw [if_neg (by rw [n0]; decide), if_neg (by rw [n1]; decide), if_neg (by rw [n2]; decide), if_neg n3]
 simp only [wantK]
 rw [if_pos h1, if_pos h2]
 generalize mExpr ws f (i + 2) = r at h ⊢
 cases r with
 | no p => rw [h.no, nd_bad]; exact SR.mk_no _ _ _
 | ok t j =>
   rw [h.ok.1, h.ok.2, nd_good]
   simp only [Res.then_, want]
   split
   ·exact SR.mk_ok _ _ _
   ·exact SR.mk_no _ _ _
theorem sr_var {ws : List W3} {f i : Nat} (n0 : isW ws i ⟨#[45]⟩ = false) (n1 : isW ws i ⟨#[40]⟩ = false) (n2 : isW ws i ⟨#[108, 101, 110]⟩ = false) (n3 : kindW ws i ≠ 2) (h2 : tk ws (nmS ws (i, false)) ⟨#[91]⟩ = false) :
    SR (mOne ws (f + 1) i) (i, false) (.node 2 (nmT ws (i, false)) 0 []) (nmS ws (i, false)) := by
 simp only [mOne]
 rw [if_neg (by rw [n0]; decide), if_neg (by rw [n1]; decide), if_neg (by rw [n2]; decide), if_neg n3]
 simp only [wantK]
 by_cases h1 : kindW ws i = 1
 ·have e1 : nmS ws (i, false) = (i + 1, false) := by simp [nmS, nmB, h1]
  have e2 : nmT ws (i, false) = textW ws i := by simp [nmT, nmB, h1]
  rw [e1] at h2
  have h3 : isW ws (i + 1) ⟨#[91]⟩ = false := by simpa [tk] using h2
  rw [if_pos h1, e1, e2, if_neg (by rw [h3]; decide)]
  exact SR.mk_ok _ _ _
 ·have e1 : nmS ws (i, false) = (i, true) := by simp [nmS, nmB, h1]
  rw [if_neg h1, e1]; exact SR.mk_no _ _ _
end Go.Proofs.YtedfnadgmhjojaaGreatDoor
