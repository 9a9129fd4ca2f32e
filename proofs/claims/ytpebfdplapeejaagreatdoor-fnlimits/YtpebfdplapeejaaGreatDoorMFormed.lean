/-
  CONTRACT of the specification's l02Formed.
-/
import Derived.Test.YtpebfdplapeejaaGreatDoorMShape
namespace Go.Proofs.YtpebfdplapeejaaGreatDoor
open Go.RowKit
open Pl

def kindT : T → Int
  | .node k _ _ _ => k
def numOk (k m : Int) : Bool := if k = 1 then betw m 0 1000000 else if k = 32 then betw m (-1) 1000000 else (m == 0)
def formHead (k : Int) (s : ByteArray) (n : Nat) : Bool :=
  (shapeI k).2.2 && (decide ((shapeI k).1 < 0 ∨ (n : Int) = (shapeI k).1)) && decide ((shapeI k).2.1 = decide (s.size ≠ 0)) && (!(shapeI k).2.1 || nameB s) && !(decide (k = 40 ∧ n = 0))
mutual
def formedT : T → Bool
  | .node k s m kk => formHead k s kk.length && numOk k m && formedL k kk.length 0 kk
def formedL (k : Int) (n : Nat) : Nat → List T → Bool
  | _, [] => true
  | i, t :: r => kidI k n i (kindT t) && formedT t && formedL k n (i + 1) r
end
theorem formedL_iff (k : Int) (n : Nat) : ∀ (kk : List T) (i : Nat), formedL k n i kk = true ↔ ∀ (j : Nat) (t : T), kk[j]? = some t → (kidI k n (i + j) (kindT t) && formedT t) = true
  | [], i => by simp [formedL]
  | x :: r, i => by
    simp only [formedL, Bool.and_eq_true, formedL_iff k n r (i + 1)]
    constructor
    · rintro ⟨h0, h1⟩ j t hj
      cases j with
      | zero =>
        simp at hj
        subst hj
        simpa using h0
      | succ j =>
        have := h1 j t (by simpa using hj)
        rwa [show i + 1 + j = i + (j + 1) by omega] at this
    · intro h
      refine ⟨by simpa using h 0 x rfl, fun j t hj => ?_⟩
      have := h (j + 1) t (by simpa using hj)
      rwa [show i + (j + 1) = i + 1 + j by omega] at this
end Go.Proofs.YtpebfdplapeejaaGreatDoor
