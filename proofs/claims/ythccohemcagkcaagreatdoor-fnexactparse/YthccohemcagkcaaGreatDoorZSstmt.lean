/-
  CONTRACT of the specification's reader's stmt and block.
-/
import Derived.Test.YthccohemcagkcaaGreatDoorZSif
import Derived.Test.YthccohemcagkcaaGreatDoorZSwhile
import Derived.Test.YthccohemcagkcaaGreatDoorZSfor
import Derived.Test.YthccohemcagkcaaGreatDoorZSshort
import Derived.Test.YthccohemcagkcaaGreatDoorZSset
namespace Go.Proofs.YthccohemcagkcaaGreatDoor
open Go.RowKit
open Pl

theorem tk_off {ws : List W3} {i : Nat} {s : ByteArray} (h : isW ws i s = false) : tk ws (i, false) s = false := by rw [tk_good]; exact h
theorem tk_bad (ws : List W3) (i : Nat) (s : ByteArray) : tk ws (i, true) s = false := by simp [tk]
theorem nm_bad (ws : List W3) (i : Nat) : nmS ws (i, true) = (i, true) := by simp [nmS, nmB]
theorem sstmt_step {rb : Nat} {a : Option Addr} {cap : Nat} {ws : List W3} {F f : Nat} (he : Env ws) (hF : 5 * ws.length + 3 ≤ F) (hE : SExpr rb a cap ws F) (hC : SCond rb a cap ws F) (hB : SBlock rb a cap ws F f) : SStmt rb a cap ws F (f + 1) := by
  rintro ⟨i, b⟩ w hf h
  simp only at hf
  cases b with
  | true =>
    refine sstmt_set he hF hE (i, true) w h (tk_bad _ _ _) (tk_bad _ _ _) (tk_bad _ _ _) (tk_bad _ _ _) (tk_bad _ _ _) (tk_bad _ _ _) (tk_bad _ _ _) (by rw [nm_bad]; exact tk_bad _ _ _) (fun y st3 hs => ?_)
    rw [nm_bad, nd_bad] at hs
    rw [hs.bad, nd_bad]
    exact SR.mk_bad _ _ _
  | false =>
    by_cases q0 : isW ws i ⟨#[105, 102]⟩ = true
    · exact sstmt_if hC hB i w hf h  q0
    have n0 : isW ws i ⟨#[105, 102]⟩ = false := by simpa using q0
    by_cases q1 : isW ws i ⟨#[119, 104, 105, 108, 101]⟩ = true
    · exact sstmt_while hC hB i w hf h n0 q1
    have n1 : isW ws i ⟨#[119, 104, 105, 108, 101]⟩ = false := by simpa using q1
    by_cases q2 : isW ws i ⟨#[102, 111, 114]⟩ = true
    · exact sstmt_for he hF hE hB i w hf h n0 n1 q2
    have n2 : isW ws i ⟨#[102, 111, 114]⟩ = false := by simpa using q2
    by_cases q3 : isW ws i ⟨#[99, 104, 101, 99, 107]⟩ = true
    · exact sstmt_check hC i w h n0 n1 n2 q3
    have n3 : isW ws i ⟨#[99, 104, 101, 99, 107]⟩ = false := by simpa using q3
    by_cases q4 : isW ws i ⟨#[114, 101, 97, 100]⟩ = true
    · exact sstmt_read he i w h n0 n1 n2 n3 q4
    have n4 : isW ws i ⟨#[114, 101, 97, 100]⟩ = false := by simpa using q4
    by_cases q5 : isW ws i ⟨#[115, 107, 105, 112]⟩ = true
    · exact sstmt_skip i w h n0 n1 n2 n3 n4 q5
    have n5 : isW ws i ⟨#[115, 107, 105, 112]⟩ = false := by simpa using q5
    by_cases q6 : isW ws i ⟨#[115, 116, 111, 112]⟩ = true
    · exact sstmt_stop i w h n0 n1 n2 n3 n4 n5 q6
    have n6 : isW ws i ⟨#[115, 116, 111, 112]⟩ = false := by simpa using q6
    by_cases ht : tk ws (nmS ws (i, false)) ⟨#[91]⟩ = true
    · by_cases hk : kindW ws i = 1
      · rw [(nm_good hk).1, tk_good] at ht
        exact sstmt_put he hF hE i w h n0 n1 n2 n3 n4 n5 n6 hk ht
      · rw [nm_none hk, tk_bad] at ht; cases ht
    · have ht' : tk ws (nmS ws (i, false)) ⟨#[91]⟩ = false := by simpa using ht
      exact sstmt_set he hF hE (i, false) w h (tk_off n0) (tk_off n1) (tk_off n2) (tk_off n3) (tk_off n4) (tk_off n5) (tk_off n6) ht' (fun y st3 hs => sr_semi n0 n1 n2 (sr_set n4 n3 n5 n6 ht' hs))
theorem sstmt_all {rb : Nat} {a : Option Addr} {cap : Nat} {ws : List W3} {F : Nat} (he : Env ws) (hF : 5 * ws.length + 3 ≤ F) (hE : SExpr rb a cap ws F) (f : Nat) : ∀ g, g ≤ f → SStmt rb a cap ws F g ∧ SBlock rb a cap ws F g := by
  have hC : SCond rb a cap ws F := scond_all hF he.few hE
  induction f with
  | zero =>
    intro g hg
    have : g = 0 := by omega
    subst this
    exact ⟨fun i w h => by omega, fun i w h => by omega⟩
  | succ f ih =>
    intro g hg
    by_cases q : g ≤ f
    · exact ih g q
    · have : g = f + 1 := by omega
      subst this
      exact ⟨sstmt_step he hF hE hC (ih f (Nat.le_refl _)).2, sblock_step he.few fun g hg => (ih g hg).1⟩
end Go.Proofs.YthccohemcagkcaaGreatDoor
