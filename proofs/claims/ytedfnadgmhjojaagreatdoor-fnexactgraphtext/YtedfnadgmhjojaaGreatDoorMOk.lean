/-
  THE PROGRAM'S fits AND THE SPECIFICATION'S l02Formed SAY THE SAME, as plain functions.
  CONTRACTS of both ExprOk and both CondOk.
-/
import Derived.Test.YtedfnadgmhjojaaGreatDoorMFits
import Derived.Test.YtedfnadgmhjojaaGreatDoorMFormed
namespace Go.Proofs.YtedfnadgmhjojaaGreatDoor
open Go.RowKit
open Pl

def grpI (x : Int) : Int := if 1 ≤ x ∧ x ≤ 8 then 1 else if 11 ≤ x ∧ x ≤ 16 then 2 else if 21 ≤ x ∧ x ≤ 29 then 3 else if x = 30 then 4 else if x = 31 ∨ x = 32 then 5 else if x = 40 then 6 else 0
theorem grp_eq (x : Int) : (rowI x).grp = grpI x := by
 by_cases h1 : x = 1
 ·subst h1; decide
 by_cases h2 : x = 2
 ·subst h2; decide
 by_cases h3 : x = 3
 ·subst h3; decide
 by_cases h4 : x = 4
 ·subst h4; decide
 by_cases h5 : x = 5
 ·subst h5; decide
 by_cases h6 : x = 6
 ·subst h6; decide
 by_cases h7 : x = 7
 ·subst h7; decide
 by_cases h8 : x = 8
 ·subst h8; decide
 by_cases h11 : x = 11
 ·subst h11; decide
 by_cases h12 : x = 12
 ·subst h12; decide
 by_cases h13 : x = 13
 ·subst h13; decide
 by_cases h14 : x = 14
 ·subst h14; decide
 by_cases h15 : x = 15
 ·subst h15; decide
 by_cases h16 : x = 16
 ·subst h16; decide
 by_cases h21 : x = 21
 ·subst h21; decide
 by_cases h22 : x = 22
 ·subst h22; decide
 by_cases h23 : x = 23
 ·subst h23; decide
 by_cases h24 : x = 24
 ·subst h24; decide
 by_cases h25 : x = 25
 ·subst h25; decide
 by_cases h26 : x = 26
 ·subst h26; decide
 by_cases h27 : x = 27
 ·subst h27; decide
 by_cases h28 : x = 28
 ·subst h28; decide
 by_cases h29 : x = 29
 ·subst h29; decide
 by_cases h30 : x = 30
 ·subst h30; decide
 by_cases h31 : x = 31
 ·subst h31; decide
 by_cases h32 : x = 32
 ·subst h32; decide
 by_cases h40 : x = 40
 ·subst h40; decide
 have e : rowI x = rw0 163 := by simp [rowI, typI, h1, h2, h3, h4, h5, h6, h7, h8, h11, h12, h13, h14, h15, h16, h21, h22, h23, h24, h25, h26, h27, h28, h29, h30, h31, h32, h40]
 rw [e]
 unfold grpI
 rw [if_neg (by omega), if_neg (by omega), if_neg (by omega), if_neg (by omega), if_neg (by omega), if_neg (by omega)]
 rfl
/-- What a kind that is none says. -/
theorem none_shape {k : Int} (h : (rowI k).grp = 0) : (shapeI k).2.2 = false := by
 by_cases h1 : k = 1
 ·subst h1; exact absurd h (by decide)
 by_cases h2 : k = 2
 ·subst h2; exact absurd h (by decide)
 by_cases h3 : k = 3
 ·subst h3; exact absurd h (by decide)
 by_cases h4 : k = 4
 ·subst h4; exact absurd h (by decide)
 by_cases h5 : k = 5
 ·subst h5; exact absurd h (by decide)
 by_cases h6 : k = 6
 ·subst h6; exact absurd h (by decide)
 by_cases h7 : k = 7
 ·subst h7; exact absurd h (by decide)
 by_cases h8 : k = 8
 ·subst h8; exact absurd h (by decide)
 by_cases h11 : k = 11
 ·subst h11; exact absurd h (by decide)
 by_cases h12 : k = 12
 ·subst h12; exact absurd h (by decide)
 by_cases h13 : k = 13
 ·subst h13; exact absurd h (by decide)
 by_cases h14 : k = 14
 ·subst h14; exact absurd h (by decide)
 by_cases h15 : k = 15
 ·subst h15; exact absurd h (by decide)
 by_cases h16 : k = 16
 ·subst h16; exact absurd h (by decide)
 by_cases h21 : k = 21
 ·subst h21; exact absurd h (by decide)
 by_cases h22 : k = 22
 ·subst h22; exact absurd h (by decide)
 by_cases h23 : k = 23
 ·subst h23; exact absurd h (by decide)
 by_cases h24 : k = 24
 ·subst h24; exact absurd h (by decide)
 by_cases h25 : k = 25
 ·subst h25; exact absurd h (by decide)
 by_cases h26 : k = 26
 ·subst h26; exact absurd h (by decide)
 by_cases h27 : k = 27
 ·subst h27; exact absurd h (by decide)
 by_cases h28 : k = 28
 ·subst h28; exact absurd h (by decide)
 by_cases h29 : k = 29
 ·subst h29; exact absurd h (by decide)
 by_cases h30 : k = 30
 ·subst h30; exact absurd h (by decide)
 by_cases h31 : k = 31
 ·subst h31; exact absurd h (by decide)
 by_cases h32 : k = 32
 ·subst h32; exact absurd h (by decide)
 by_cases h40 : k = 40
 ·subst h40; exact absurd h (by decide)
 simp [shapeI, h1, h2, h3, h4, h5, h6, h7, h8, h11, h12, h13, h14, h15, h16, h21, h22, h23, h24, h25, h26, h27, h28, h29, h30, h31, h32, h40]

/-- Of a kind: the heads say the same, and so do the groups of the kids. -/
def Agree (k : Int) : Prop := ∀ (s : ByteArray) (m : Int) (n : Nat),
 headOk (rowI k) s m (rowI k).grp n = (formHead k s n && numOk k m) ∧
 (formHead k s n = true → ∀ (i : Nat), i < n → ∃ y, ((wants (rowI k) n)[i]?).getD 0 = y ∧ 1 ≤ y ∧ ∀ x, kidI k n i x = decide (grpI x = y))
theorem betw_grp1 (x : Int) : betw x 1 8 = decide (grpI x = 1) := by
 unfold betw grpI
 repeat' split
 all_goals simp
 all_goals omega
theorem betw_grp2 (x : Int) : betw x 11 16 = decide (grpI x = 2) := by
 unfold betw grpI
 repeat' split
 all_goals simp
 all_goals omega
theorem betw_grp3 (x : Int) : betw x 21 29 = decide (grpI x = 3) := by
 unfold betw grpI
 repeat' split
 all_goals simp
 all_goals omega
theorem eq_grp4 (x : Int) : (x == 30) = decide (grpI x = 4) := by
 by_cases h : x = 30
 ·subst h; decide
 ·have e1 : (x == 30) = false := by simpa using h
  rw [e1]
  unfold grpI
  repeat' split
  all_goals simp
  all_goals omega
theorem eq_grp5 (x : Int) : (x == 31 || x == 32) = decide (grpI x = 5) := by
 by_cases h : x = 31
 ·subst h; decide
 ·by_cases h' : x = 32
  ·subst h'; decide
  ·have e1 : (x == 31 || x == 32) = false := by simp [h, h']
   rw [e1]
   unfold grpI
   repeat' split
   all_goals simp
   all_goals omega
theorem nameB_size (s : ByteArray) : nameB s = true → s.size ≠ 0 := fun h => by
 have hp : nameP s := by simpa [nameB] using h
 have := hp.1
 omega
set_option maxHeartbeats 800000 in
theorem agree1 : Agree 1 := by
 intro s m n
 have hr : rowI 1 = ⟨1, false, 0, 1000000, 0, []⟩ := rfl
 have hsh : shapeI 1 = (0, false, true) := rfl
 have hq := nameB_size s
 refine ⟨?_, fun hf => ?_⟩
 ·unfold headOk formHead numOk
  rw [hr, hsh]
  generalize s.size = z at hq
  cases hqq : nameB s with
  | false =>
    rw [Bool.eq_iff_iff]
    simp [betw]
    try omega
  | true =>
    have hz := hq hqq
    rw [Bool.eq_iff_iff]
    simp [betw]
    try omega
 ·have hn : n = 0 := by
    unfold formHead at hf
    rw [hsh] at hf
    simp at hf
    omega
  subst hn
  intro i hi
  omega
set_option maxHeartbeats 800000 in
theorem agree2 : Agree 2 := by
 intro s m n
 have hr : rowI 2 = ⟨1, true, 0, 0, 0, []⟩ := rfl
 have hsh : shapeI 2 = (0, true, true) := rfl
 have hq := nameB_size s
 refine ⟨?_, fun hf => ?_⟩
 ·unfold headOk formHead numOk
  rw [hr, hsh]
  generalize s.size = z at hq
  cases hqq : nameB s with
  | false =>
    rw [Bool.eq_iff_iff]
    simp
    try omega
  | true =>
    have hz := hq hqq
    rw [Bool.eq_iff_iff]
    simp
    try omega
 ·have hn : n = 0 := by
    unfold formHead at hf
    rw [hsh] at hf
    simp at hf
    omega
  subst hn
  intro i hi
  omega
set_option maxHeartbeats 800000 in
theorem agree3 : Agree 3 := by
 intro s m n
 have hr : rowI 3 = ⟨1, true, 0, 0, 0, [1]⟩ := rfl
 have hsh : shapeI 3 = (1, true, true) := rfl
 have hq := nameB_size s
 refine ⟨?_, fun hf => ?_⟩
 ·unfold headOk formHead numOk
  rw [hr, hsh]
  generalize s.size = z at hq
  cases hqq : nameB s with
  | false =>
    rw [Bool.eq_iff_iff]
    simp
    try omega
  | true =>
    have hz := hq hqq
    rw [Bool.eq_iff_iff]
    simp
    try omega
 ·have hn : n = 1 := by
    unfold formHead at hf
    rw [hsh] at hf
    simp at hf
    omega
  subst hn
  intro i hi
  rw [hr, wants_get]
  match i, hi with
  | 0, _ => exact ⟨1, by simp, by decide, fun x => by rw [← betw_grp1]; simp [kidI]⟩
set_option maxHeartbeats 800000 in
theorem agree4 : Agree 4 := by
 intro s m n
 have hr : rowI 4 = ⟨1, true, 0, 0, 0, []⟩ := rfl
 have hsh : shapeI 4 = (0, true, true) := rfl
 have hq := nameB_size s
 refine ⟨?_, fun hf => ?_⟩
 ·unfold headOk formHead numOk
  rw [hr, hsh]
  generalize s.size = z at hq
  cases hqq : nameB s with
  | false =>
    rw [Bool.eq_iff_iff]
    simp
    try omega
  | true =>
    have hz := hq hqq
    rw [Bool.eq_iff_iff]
    simp
    try omega
 ·have hn : n = 0 := by
    unfold formHead at hf
    rw [hsh] at hf
    simp at hf
    omega
  subst hn
  intro i hi
  omega
set_option maxHeartbeats 800000 in
theorem agree5 : Agree 5 := by
 intro s m n
 have hr : rowI 5 = ⟨1, false, 0, 0, 0, [1]⟩ := rfl
 have hsh : shapeI 5 = (1, false, true) := rfl
 have hq := nameB_size s
 refine ⟨?_, fun hf => ?_⟩
 ·unfold headOk formHead numOk
  rw [hr, hsh]
  generalize s.size = z at hq
  cases hqq : nameB s with
  | false =>
    rw [Bool.eq_iff_iff]
    simp
    try omega
  | true =>
    have hz := hq hqq
    rw [Bool.eq_iff_iff]
    simp
    try omega
 ·have hn : n = 1 := by
    unfold formHead at hf
    rw [hsh] at hf
    simp at hf
    omega
  subst hn
  intro i hi
  rw [hr, wants_get]
  match i, hi with
  | 0, _ => exact ⟨1, by simp, by decide, fun x => by rw [← betw_grp1]; simp [kidI]⟩
set_option maxHeartbeats 800000 in
theorem agree6 : Agree 6 := by
 intro s m n
 have hr : rowI 6 = ⟨1, false, 0, 0, 0, [1, 1]⟩ := rfl
 have hsh : shapeI 6 = (2, false, true) := rfl
 have hq := nameB_size s
 refine ⟨?_, fun hf => ?_⟩
 ·unfold headOk formHead numOk
  rw [hr, hsh]
  generalize s.size = z at hq
  cases hqq : nameB s with
  | false =>
    rw [Bool.eq_iff_iff]
    simp
    try omega
  | true =>
    have hz := hq hqq
    rw [Bool.eq_iff_iff]
    simp
    try omega
 ·have hn : n = 2 := by
    unfold formHead at hf
    rw [hsh] at hf
    simp at hf
    omega
  subst hn
  intro i hi
  rw [hr, wants_get]
  match i, hi with
  | 0, _ => exact ⟨1, by simp, by decide, fun x => by rw [← betw_grp1]; simp [kidI]⟩
  | 1, _ => exact ⟨1, by simp, by decide, fun x => by rw [← betw_grp1]; simp [kidI]⟩
set_option maxHeartbeats 800000 in
theorem agree7 : Agree 7 := by
 intro s m n
 have hr : rowI 7 = ⟨1, false, 0, 0, 0, [1, 1]⟩ := rfl
 have hsh : shapeI 7 = (2, false, true) := rfl
 have hq := nameB_size s
 refine ⟨?_, fun hf => ?_⟩
 ·unfold headOk formHead numOk
  rw [hr, hsh]
  generalize s.size = z at hq
  cases hqq : nameB s with
  | false =>
    rw [Bool.eq_iff_iff]
    simp
    try omega
  | true =>
    have hz := hq hqq
    rw [Bool.eq_iff_iff]
    simp
    try omega
 ·have hn : n = 2 := by
    unfold formHead at hf
    rw [hsh] at hf
    simp at hf
    omega
  subst hn
  intro i hi
  rw [hr, wants_get]
  match i, hi with
  | 0, _ => exact ⟨1, by simp, by decide, fun x => by rw [← betw_grp1]; simp [kidI]⟩
  | 1, _ => exact ⟨1, by simp, by decide, fun x => by rw [← betw_grp1]; simp [kidI]⟩
set_option maxHeartbeats 800000 in
theorem agree8 : Agree 8 := by
 intro s m n
 have hr : rowI 8 = ⟨1, false, 0, 0, 0, [1, 1]⟩ := rfl
 have hsh : shapeI 8 = (2, false, true) := rfl
 have hq := nameB_size s
 refine ⟨?_, fun hf => ?_⟩
 ·unfold headOk formHead numOk
  rw [hr, hsh]
  generalize s.size = z at hq
  cases hqq : nameB s with
  | false =>
    rw [Bool.eq_iff_iff]
    simp
    try omega
  | true =>
    have hz := hq hqq
    rw [Bool.eq_iff_iff]
    simp
    try omega
 ·have hn : n = 2 := by
    unfold formHead at hf
    rw [hsh] at hf
    simp at hf
    omega
  subst hn
  intro i hi
  rw [hr, wants_get]
  match i, hi with
  | 0, _ => exact ⟨1, by simp, by decide, fun x => by rw [← betw_grp1]; simp [kidI]⟩
  | 1, _ => exact ⟨1, by simp, by decide, fun x => by rw [← betw_grp1]; simp [kidI]⟩
set_option maxHeartbeats 800000 in
theorem agree11 : Agree 11 := by
 intro s m n
 have hr : rowI 11 = ⟨2, false, 0, 0, 0, [1, 1]⟩ := rfl
 have hsh : shapeI 11 = (2, false, true) := rfl
 have hq := nameB_size s
 refine ⟨?_, fun hf => ?_⟩
 ·unfold headOk formHead numOk
  rw [hr, hsh]
  generalize s.size = z at hq
  cases hqq : nameB s with
  | false =>
    rw [Bool.eq_iff_iff]
    simp
    try omega
  | true =>
    have hz := hq hqq
    rw [Bool.eq_iff_iff]
    simp
    try omega
 ·have hn : n = 2 := by
    unfold formHead at hf
    rw [hsh] at hf
    simp at hf
    omega
  subst hn
  intro i hi
  rw [hr, wants_get]
  match i, hi with
  | 0, _ => exact ⟨1, by simp, by decide, fun x => by rw [← betw_grp1]; simp [kidI]⟩
  | 1, _ => exact ⟨1, by simp, by decide, fun x => by rw [← betw_grp1]; simp [kidI]⟩
set_option maxHeartbeats 800000 in
theorem agree12 : Agree 12 := by
 intro s m n
 have hr : rowI 12 = ⟨2, false, 0, 0, 0, [1, 1]⟩ := rfl
 have hsh : shapeI 12 = (2, false, true) := rfl
 have hq := nameB_size s
 refine ⟨?_, fun hf => ?_⟩
 ·unfold headOk formHead numOk
  rw [hr, hsh]
  generalize s.size = z at hq
  cases hqq : nameB s with
  | false =>
    rw [Bool.eq_iff_iff]
    simp
    try omega
  | true =>
    have hz := hq hqq
    rw [Bool.eq_iff_iff]
    simp
    try omega
 ·have hn : n = 2 := by
    unfold formHead at hf
    rw [hsh] at hf
    simp at hf
    omega
  subst hn
  intro i hi
  rw [hr, wants_get]
  match i, hi with
  | 0, _ => exact ⟨1, by simp, by decide, fun x => by rw [← betw_grp1]; simp [kidI]⟩
  | 1, _ => exact ⟨1, by simp, by decide, fun x => by rw [← betw_grp1]; simp [kidI]⟩
set_option maxHeartbeats 800000 in
theorem agree13 : Agree 13 := by
 intro s m n
 have hr : rowI 13 = ⟨2, false, 0, 0, 0, [1, 1]⟩ := rfl
 have hsh : shapeI 13 = (2, false, true) := rfl
 have hq := nameB_size s
 refine ⟨?_, fun hf => ?_⟩
 ·unfold headOk formHead numOk
  rw [hr, hsh]
  generalize s.size = z at hq
  cases hqq : nameB s with
  | false =>
    rw [Bool.eq_iff_iff]
    simp
    try omega
  | true =>
    have hz := hq hqq
    rw [Bool.eq_iff_iff]
    simp
    try omega
 ·have hn : n = 2 := by
    unfold formHead at hf
    rw [hsh] at hf
    simp at hf
    omega
  subst hn
  intro i hi
  rw [hr, wants_get]
  match i, hi with
  | 0, _ => exact ⟨1, by simp, by decide, fun x => by rw [← betw_grp1]; simp [kidI]⟩
  | 1, _ => exact ⟨1, by simp, by decide, fun x => by rw [← betw_grp1]; simp [kidI]⟩
set_option maxHeartbeats 800000 in
theorem agree14 : Agree 14 := by
 intro s m n
 have hr : rowI 14 = ⟨2, false, 0, 0, 0, [1, 1]⟩ := rfl
 have hsh : shapeI 14 = (2, false, true) := rfl
 have hq := nameB_size s
 refine ⟨?_, fun hf => ?_⟩
 ·unfold headOk formHead numOk
  rw [hr, hsh]
  generalize s.size = z at hq
  cases hqq : nameB s with
  | false =>
    rw [Bool.eq_iff_iff]
    simp
    try omega
  | true =>
    have hz := hq hqq
    rw [Bool.eq_iff_iff]
    simp
    try omega
 ·have hn : n = 2 := by
    unfold formHead at hf
    rw [hsh] at hf
    simp at hf
    omega
  subst hn
  intro i hi
  rw [hr, wants_get]
  match i, hi with
  | 0, _ => exact ⟨1, by simp, by decide, fun x => by rw [← betw_grp1]; simp [kidI]⟩
  | 1, _ => exact ⟨1, by simp, by decide, fun x => by rw [← betw_grp1]; simp [kidI]⟩
set_option maxHeartbeats 800000 in
theorem agree15 : Agree 15 := by
 intro s m n
 have hr : rowI 15 = ⟨2, false, 0, 0, 0, [1, 1]⟩ := rfl
 have hsh : shapeI 15 = (2, false, true) := rfl
 have hq := nameB_size s
 refine ⟨?_, fun hf => ?_⟩
 ·unfold headOk formHead numOk
  rw [hr, hsh]
  generalize s.size = z at hq
  cases hqq : nameB s with
  | false =>
    rw [Bool.eq_iff_iff]
    simp
    try omega
  | true =>
    have hz := hq hqq
    rw [Bool.eq_iff_iff]
    simp
    try omega
 ·have hn : n = 2 := by
    unfold formHead at hf
    rw [hsh] at hf
    simp at hf
    omega
  subst hn
  intro i hi
  rw [hr, wants_get]
  match i, hi with
  | 0, _ => exact ⟨1, by simp, by decide, fun x => by rw [← betw_grp1]; simp [kidI]⟩
  | 1, _ => exact ⟨1, by simp, by decide, fun x => by rw [← betw_grp1]; simp [kidI]⟩
set_option maxHeartbeats 800000 in
theorem agree16 : Agree 16 := by
 intro s m n
 have hr : rowI 16 = ⟨2, false, 0, 0, 0, [1, 1]⟩ := rfl
 have hsh : shapeI 16 = (2, false, true) := rfl
 have hq := nameB_size s
 refine ⟨?_, fun hf => ?_⟩
 ·unfold headOk formHead numOk
  rw [hr, hsh]
  generalize s.size = z at hq
  cases hqq : nameB s with
  | false =>
    rw [Bool.eq_iff_iff]
    simp
    try omega
  | true =>
    have hz := hq hqq
    rw [Bool.eq_iff_iff]
    simp
    try omega
 ·have hn : n = 2 := by
    unfold formHead at hf
    rw [hsh] at hf
    simp at hf
    omega
  subst hn
  intro i hi
  rw [hr, wants_get]
  match i, hi with
  | 0, _ => exact ⟨1, by simp, by decide, fun x => by rw [← betw_grp1]; simp [kidI]⟩
  | 1, _ => exact ⟨1, by simp, by decide, fun x => by rw [← betw_grp1]; simp [kidI]⟩
set_option maxHeartbeats 800000 in
theorem agree21 : Agree 21 := by
 intro s m n
 have hr : rowI 21 = ⟨3, true, 0, 0, 0, [1]⟩ := rfl
 have hsh : shapeI 21 = (1, true, true) := rfl
 have hq := nameB_size s
 refine ⟨?_, fun hf => ?_⟩
 ·unfold headOk formHead numOk
  rw [hr, hsh]
  generalize s.size = z at hq
  cases hqq : nameB s with
  | false =>
    rw [Bool.eq_iff_iff]
    simp
    try omega
  | true =>
    have hz := hq hqq
    rw [Bool.eq_iff_iff]
    simp
    try omega
 ·have hn : n = 1 := by
    unfold formHead at hf
    rw [hsh] at hf
    simp at hf
    omega
  subst hn
  intro i hi
  rw [hr, wants_get]
  match i, hi with
  | 0, _ => exact ⟨1, by simp, by decide, fun x => by rw [← betw_grp1]; simp [kidI]⟩
set_option maxHeartbeats 800000 in
theorem agree22 : Agree 22 := by
 intro s m n
 have hr : rowI 22 = ⟨3, true, 0, 0, 0, [1, 1]⟩ := rfl
 have hsh : shapeI 22 = (2, true, true) := rfl
 have hq := nameB_size s
 refine ⟨?_, fun hf => ?_⟩
 ·unfold headOk formHead numOk
  rw [hr, hsh]
  generalize s.size = z at hq
  cases hqq : nameB s with
  | false =>
    rw [Bool.eq_iff_iff]
    simp
    try omega
  | true =>
    have hz := hq hqq
    rw [Bool.eq_iff_iff]
    simp
    try omega
 ·have hn : n = 2 := by
    unfold formHead at hf
    rw [hsh] at hf
    simp at hf
    omega
  subst hn
  intro i hi
  rw [hr, wants_get]
  match i, hi with
  | 0, _ => exact ⟨1, by simp, by decide, fun x => by rw [← betw_grp1]; simp [kidI]⟩
  | 1, _ => exact ⟨1, by simp, by decide, fun x => by rw [← betw_grp1]; simp [kidI]⟩
set_option maxHeartbeats 800000 in
theorem agree23 : Agree 23 := by
 intro s m n
 have hr : rowI 23 = ⟨3, true, 0, 0, 0, []⟩ := rfl
 have hsh : shapeI 23 = (0, true, true) := rfl
 have hq := nameB_size s
 refine ⟨?_, fun hf => ?_⟩
 ·unfold headOk formHead numOk
  rw [hr, hsh]
  generalize s.size = z at hq
  cases hqq : nameB s with
  | false =>
    rw [Bool.eq_iff_iff]
    simp
    try omega
  | true =>
    have hz := hq hqq
    rw [Bool.eq_iff_iff]
    simp
    try omega
 ·have hn : n = 0 := by
    unfold formHead at hf
    rw [hsh] at hf
    simp at hf
    omega
  subst hn
  intro i hi
  omega
set_option maxHeartbeats 800000 in
theorem agree24 : Agree 24 := by
 intro s m n
 have hr : rowI 24 = ⟨3, false, 0, 0, 0, [2, 4, 4]⟩ := rfl
 have hsh : shapeI 24 = (3, false, true) := rfl
 have hq := nameB_size s
 refine ⟨?_, fun hf => ?_⟩
 ·unfold headOk formHead numOk
  rw [hr, hsh]
  generalize s.size = z at hq
  cases hqq : nameB s with
  | false =>
    rw [Bool.eq_iff_iff]
    simp
    try omega
  | true =>
    have hz := hq hqq
    rw [Bool.eq_iff_iff]
    simp
    try omega
 ·have hn : n = 3 := by
    unfold formHead at hf
    rw [hsh] at hf
    simp at hf
    omega
  subst hn
  intro i hi
  rw [hr, wants_get]
  match i, hi with
  | 0, _ => exact ⟨2, by simp, by decide, fun x => by rw [← betw_grp2]; simp [kidI]⟩
  | 1, _ => exact ⟨4, by simp, by decide, fun x => by rw [← eq_grp4]; simp [kidI]⟩
  | 2, _ => exact ⟨4, by simp, by decide, fun x => by rw [← eq_grp4]; simp [kidI]⟩
set_option maxHeartbeats 800000 in
theorem agree25 : Agree 25 := by
 intro s m n
 have hr : rowI 25 = ⟨3, false, 0, 0, 0, [2, 4]⟩ := rfl
 have hsh : shapeI 25 = (2, false, true) := rfl
 have hq := nameB_size s
 refine ⟨?_, fun hf => ?_⟩
 ·unfold headOk formHead numOk
  rw [hr, hsh]
  generalize s.size = z at hq
  cases hqq : nameB s with
  | false =>
    rw [Bool.eq_iff_iff]
    simp
    try omega
  | true =>
    have hz := hq hqq
    rw [Bool.eq_iff_iff]
    simp
    try omega
 ·have hn : n = 2 := by
    unfold formHead at hf
    rw [hsh] at hf
    simp at hf
    omega
  subst hn
  intro i hi
  rw [hr, wants_get]
  match i, hi with
  | 0, _ => exact ⟨2, by simp, by decide, fun x => by rw [← betw_grp2]; simp [kidI]⟩
  | 1, _ => exact ⟨4, by simp, by decide, fun x => by rw [← eq_grp4]; simp [kidI]⟩
set_option maxHeartbeats 800000 in
theorem agree26 : Agree 26 := by
 intro s m n
 have hr : rowI 26 = ⟨3, true, 0, 0, 0, [1, 1, 4]⟩ := rfl
 have hsh : shapeI 26 = (3, true, true) := rfl
 have hq := nameB_size s
 refine ⟨?_, fun hf => ?_⟩
 ·unfold headOk formHead numOk
  rw [hr, hsh]
  generalize s.size = z at hq
  cases hqq : nameB s with
  | false =>
    rw [Bool.eq_iff_iff]
    simp
    try omega
  | true =>
    have hz := hq hqq
    rw [Bool.eq_iff_iff]
    simp
    try omega
 ·have hn : n = 3 := by
    unfold formHead at hf
    rw [hsh] at hf
    simp at hf
    omega
  subst hn
  intro i hi
  rw [hr, wants_get]
  match i, hi with
  | 0, _ => exact ⟨1, by simp, by decide, fun x => by rw [← betw_grp1]; simp [kidI]⟩
  | 1, _ => exact ⟨1, by simp, by decide, fun x => by rw [← betw_grp1]; simp [kidI]⟩
  | 2, _ => exact ⟨4, by simp, by decide, fun x => by rw [← eq_grp4]; simp [kidI]⟩
set_option maxHeartbeats 800000 in
theorem agree27 : Agree 27 := by
 intro s m n
 have hr : rowI 27 = ⟨3, false, 0, 0, 0, [2]⟩ := rfl
 have hsh : shapeI 27 = (1, false, true) := rfl
 have hq := nameB_size s
 refine ⟨?_, fun hf => ?_⟩
 ·unfold headOk formHead numOk
  rw [hr, hsh]
  generalize s.size = z at hq
  cases hqq : nameB s with
  | false =>
    rw [Bool.eq_iff_iff]
    simp
    try omega
  | true =>
    have hz := hq hqq
    rw [Bool.eq_iff_iff]
    simp
    try omega
 ·have hn : n = 1 := by
    unfold formHead at hf
    rw [hsh] at hf
    simp at hf
    omega
  subst hn
  intro i hi
  rw [hr, wants_get]
  match i, hi with
  | 0, _ => exact ⟨2, by simp, by decide, fun x => by rw [← betw_grp2]; simp [kidI]⟩
set_option maxHeartbeats 800000 in
theorem agree28 : Agree 28 := by
 intro s m n
 have hr : rowI 28 = ⟨3, false, 0, 0, 0, []⟩ := rfl
 have hsh : shapeI 28 = (0, false, true) := rfl
 have hq := nameB_size s
 refine ⟨?_, fun hf => ?_⟩
 ·unfold headOk formHead numOk
  rw [hr, hsh]
  generalize s.size = z at hq
  cases hqq : nameB s with
  | false =>
    rw [Bool.eq_iff_iff]
    simp
    try omega
  | true =>
    have hz := hq hqq
    rw [Bool.eq_iff_iff]
    simp
    try omega
 ·have hn : n = 0 := by
    unfold formHead at hf
    rw [hsh] at hf
    simp at hf
    omega
  subst hn
  intro i hi
  omega
set_option maxHeartbeats 800000 in
theorem agree29 : Agree 29 := by
 intro s m n
 have hr : rowI 29 = ⟨3, false, 0, 0, 0, []⟩ := rfl
 have hsh : shapeI 29 = (0, false, true) := rfl
 have hq := nameB_size s
 refine ⟨?_, fun hf => ?_⟩
 ·unfold headOk formHead numOk
  rw [hr, hsh]
  generalize s.size = z at hq
  cases hqq : nameB s with
  | false =>
    rw [Bool.eq_iff_iff]
    simp
    try omega
  | true =>
    have hz := hq hqq
    rw [Bool.eq_iff_iff]
    simp
    try omega
 ·have hn : n = 0 := by
    unfold formHead at hf
    rw [hsh] at hf
    simp at hf
    omega
  subst hn
  intro i hi
  omega
set_option maxHeartbeats 800000 in
theorem agree30 : Agree 30 := by
 intro s m n
 have hr : rowI 30 = ⟨4, false, 0, 0, 3, []⟩ := rfl
 have hsh : shapeI 30 = (-1, false, true) := rfl
 have hq := nameB_size s
 refine ⟨?_, fun hf => ?_⟩
 ·unfold headOk formHead numOk
  rw [hr, hsh]
  generalize s.size = z at hq
  cases hqq : nameB s with
  | false =>
    rw [Bool.eq_iff_iff]
    simp
    try omega
  | true =>
    have hz := hq hqq
    rw [Bool.eq_iff_iff]
    simp
    try omega
 ·intro i hi
  rw [hr, wants_get]
  exact ⟨3, by simp [hi], by decide, fun x => by rw [← betw_grp3]; simp [kidI]⟩
set_option maxHeartbeats 800000 in
theorem agree31 : Agree 31 := by
 intro s m n
 have hr : rowI 31 = ⟨5, true, 0, 0, 0, []⟩ := rfl
 have hsh : shapeI 31 = (0, true, true) := rfl
 have hq := nameB_size s
 refine ⟨?_, fun hf => ?_⟩
 ·unfold headOk formHead numOk
  rw [hr, hsh]
  generalize s.size = z at hq
  cases hqq : nameB s with
  | false =>
    rw [Bool.eq_iff_iff]
    simp
    try omega
  | true =>
    have hz := hq hqq
    rw [Bool.eq_iff_iff]
    simp
    try omega
 ·have hn : n = 0 := by
    unfold formHead at hf
    rw [hsh] at hf
    simp at hf
    omega
  subst hn
  intro i hi
  omega
set_option maxHeartbeats 800000 in
theorem agree32 : Agree 32 := by
 intro s m n
 have hr : rowI 32 = ⟨5, true, -1, 1000000, 0, []⟩ := rfl
 have hsh : shapeI 32 = (0, true, true) := rfl
 have hq := nameB_size s
 refine ⟨?_, fun hf => ?_⟩
 ·unfold headOk formHead numOk
  rw [hr, hsh]
  generalize s.size = z at hq
  cases hqq : nameB s with
  | false =>
    rw [Bool.eq_iff_iff]
    simp [betw]
    try omega
  | true =>
    have hz := hq hqq
    rw [Bool.eq_iff_iff]
    simp [betw]
    try omega
 ·have hn : n = 0 := by
    unfold formHead at hf
    rw [hsh] at hf
    simp at hf
    omega
  subst hn
  intro i hi
  omega
set_option maxHeartbeats 800000 in
theorem agree40 : Agree 40 := by
 intro s m n
 have hr : rowI 40 = ⟨6, false, 0, 0, 5, [4]⟩ := rfl
 have hsh : shapeI 40 = (-1, false, true) := rfl
 have hq := nameB_size s
 refine ⟨?_, fun hf => ?_⟩
 ·unfold headOk formHead numOk
  rw [hr, hsh]
  generalize s.size = z at hq
  cases hqq : nameB s with
  | false =>
    rw [Bool.eq_iff_iff]
    simp
    try omega
  | true =>
    have hz := hq hqq
    rw [Bool.eq_iff_iff]
    simp
    try omega
 ·intro i hi
  rw [hr, wants_get]
  by_cases hl : i + 1 = n
  ·exact ⟨4, by rw [if_neg (by simp; omega)]; simp; rw [show i - (n - 1) = 0 by omega]; rfl, by decide, fun x => by rw [← eq_grp4]; simp [kidI, hl]⟩
  ·exact ⟨5, by rw [if_pos (by simp; omega)], by decide, fun x => by rw [← eq_grp5]; simp [kidI, hl]⟩
theorem agree_all (k : Int) (h : grpI k ≠ 0) : Agree k := by
 by_cases h1 : k = 1
 ·subst h1; exact agree1
 by_cases h2 : k = 2
 ·subst h2; exact agree2
 by_cases h3 : k = 3
 ·subst h3; exact agree3
 by_cases h4 : k = 4
 ·subst h4; exact agree4
 by_cases h5 : k = 5
 ·subst h5; exact agree5
 by_cases h6 : k = 6
 ·subst h6; exact agree6
 by_cases h7 : k = 7
 ·subst h7; exact agree7
 by_cases h8 : k = 8
 ·subst h8; exact agree8
 by_cases h11 : k = 11
 ·subst h11; exact agree11
 by_cases h12 : k = 12
 ·subst h12; exact agree12
 by_cases h13 : k = 13
 ·subst h13; exact agree13
 by_cases h14 : k = 14
 ·subst h14; exact agree14
 by_cases h15 : k = 15
 ·subst h15; exact agree15
 by_cases h16 : k = 16
 ·subst h16; exact agree16
 by_cases h21 : k = 21
 ·subst h21; exact agree21
 by_cases h22 : k = 22
 ·subst h22; exact agree22
 by_cases h23 : k = 23
 ·subst h23; exact agree23
 by_cases h24 : k = 24
 ·subst h24; exact agree24
 by_cases h25 : k = 25
 ·subst h25; exact agree25
 by_cases h26 : k = 26
 ·subst h26; exact agree26
 by_cases h27 : k = 27
 ·subst h27; exact agree27
 by_cases h28 : k = 28
 ·subst h28; exact agree28
 by_cases h29 : k = 29
 ·subst h29; exact agree29
 by_cases h30 : k = 30
 ·subst h30; exact agree30
 by_cases h31 : k = 31
 ·subst h31; exact agree31
 by_cases h32 : k = 32
 ·subst h32; exact agree32
 by_cases h40 : k = 40
 ·subst h40; exact agree40
 exfalso
 apply h
 unfold grpI
 rw [if_neg (by omega), if_neg (by omega), if_neg (by omega), if_neg (by omega), if_neg (by omega), if_neg (by omega)]

theorem fits_formed (t : T) : ∀ g : Int, 1 ≤ g → fitsT t g = (decide (grpI (kindT t) = g) && formedT t) := by
 refine T.induct (P := fun t => ∀ g : Int, 1 ≤ g → fitsT t g = (decide (grpI (kindT t) = g) && formedT t)) ?_ t
 intro k s m kk IH g hg
 have hgr := grp_eq k
 rw [show fitsT (.node k s m kk) g = (headOk (rowI k) s m g kk.length && fitsL kk (wants (rowI k) kk.length)) by simp only [fitsT], show formedT (.node k s m kk) = (formHead k s kk.length && numOk k m && formedL k kk.length 0 kk) by simp only [formedT]]
 show _ = (decide (grpI k = g) && _)
 by_cases h0 : grpI k = 0
 ·have h1 : formHead k s kk.length = false := by
    unfold formHead
    rw [none_shape (by rw [hgr, h0])]
    simp
  have h2 : headOk (rowI k) s m g kk.length = false := by
   unfold headOk
   rw [hgr, h0]
   have : ¬ (0 : Int) = g := by omega
   simp [this]
  simp [h1, h2]
 ·obtain ⟨a1, a2⟩ := agree_all k h0 s m kk.length
  by_cases he : grpI k = g
  ·subst he
   rw [hgr] at a1
   rw [a1, decide_eq_true (rfl : grpI k = grpI k), Bool.true_and]
   cases hf : formHead k s kk.length with
   | false => simp
   | true =>
     have h3 : fitsL kk (wants (rowI k) kk.length) = formedL k kk.length 0 kk := by
      rw [Bool.eq_iff_iff, fitsL_iff, formedL_iff]
      refine forall_congr' fun j => forall_congr' fun t => ?_
      refine forall_congr' fun ht => ?_
      have hj := (List.getElem?_eq_some_iff.1 ht).1
      obtain ⟨y, hy, hy1, hx⟩ := a2 hf j hj
      rw [hy, IH t (List.mem_of_getElem? ht) y hy1, Nat.zero_add, hx]
     rw [h3]
  ·have h2 : headOk (rowI k) s m g kk.length = false := by
     unfold headOk
     rw [hgr]
     simp [he]
   simp [h2, he]
end Go.Proofs.YtedfnadgmhjojaaGreatDoor
namespace Go.Proofs.YtedfnadgmhjojaaGreatDoor
open Go.RowKit
open Pl

def fitsS (t : T) : Bool := decide (cnt t ≤ 500) && decide (dep t ≤ 24) && formedT t

set_option maxRecDepth 100000 in
set_option maxHeartbeats 1600000 in
theorem sFits_ok (k : Int) (s : ByteArray) (m : Int) (kk : List T) (a : Option Addr) (c : Nat) (w : World) (hs : s.size ≤ maxLen) (hn : kk.length ≤ maxLen) (hc : cnt (.node k s m kk) ≤ 2097152) (hk : Kids w 0 a kk) :
    Calls Tryz.prog 41 #[.agg #[.int .i64 k, .string s, .int .i64 m, .slice a kk.length c]] w fun e w' => e = .returned (.bool (fitsS (.node k s m kk))) ∧ Below w.heap.size w w' := by
 have B0 := mkHid ((Below.refl w.heap.size w).alloc (Nat.le_refl _) (.cells #[.int .i64 k, .string s, .int .i64 m, .slice a kk.length c] 38))
 have F0 := mkHid (Four.new w k s m a kk.length c 38)
 have HS := mkHid (show fitsS (.node k s m kk) = (decide (cnt (.node k s m kk) ≤ 500) && decide (dep (.node k s m kk) ≤ 24) && formedT (.node k s m kk)) from rfl)
 have HC := mkHid (fun W (hW : Below w.heap.size w W) => sCount_ok (.node k s m kk) a c W hn hc (hk.below hW))
 have HD := mkHid (fun W (hW : Below w.heap.size w W) => sDepth_ok (.node k s m kk) a c W hn hc (hk.below hW))
 have HF := mkHid (fun W (hW : Below w.heap.size w W) => formed_ok (.node k s m kk) a c W hs hn (hk.below hW))
 have hd := Nat.le_trans (dep_le (.node k s m kk)) hc
 generalize cnt (.node k s m kk) = C at HS HC hc hd
 generalize dep (.node k s m kk) = D at HS HD hd
 generalize formedT (.node k s m kk) = f at HS HF
 generalize fitsS (.node k s m kk) = g at HS ⊢
 clear hs hn hk
 go_enter Tryz.func41, Tryz.ntmps41
 obtain ⟨p0, p1, p2, p3⟩ := F0.out
 go_wp2_with fail
 refine (HC.out _ B0.out).mono ?_
 rintro e w1 ⟨rfl, hb1⟩
 have B1 := mkHid (below_step B0.out hb1)
 have F1 := mkHid (F0.out.below hb1)
 clear hb1 B0 F0 p0 p1 p2 p3
 by_cases h1 : (C : Int) ≤ 500
 ·obtain ⟨p0, p1, p2, p3⟩ := F1.out
  go_wp2_with fail
  refine (HD.out _ B1.out).mono ?_
  rintro e w2 ⟨rfl, hb2⟩
  have B2 := mkHid (below_step B1.out hb2)
  have F2 := mkHid (F1.out.below hb2)
  clear hb2 B1 F1 p0 p1 p2 p3
  by_cases h2 : (D : Int) ≤ 24
  ·obtain ⟨p0, p1, p2, p3⟩ := F2.out
   have HG : Hid (g = f) := mkHid (by rw [HS.out, decide_eq_true (by omega), decide_eq_true (by omega)]; rfl)
   go_wp2_with fail
   refine (HF.out _ B2.out).mono ?_
   rintro e w3 ⟨rfl, hb3⟩
   have B3 := mkHid (below_step B2.out hb3)
   clear hb3
   go_wp2
   go_ret
   exact ⟨by rw [HG.out]; rfl, B3.out⟩
  ·have HG : Hid (g = false) := mkHid (by rw [HS.out, decide_eq_false (show ¬ D ≤ 24 by omega)]; simp)
   go_wp2
   go_ret
   exact ⟨by rw [HG.out]; rfl, B2.out⟩
 ·have HG : Hid (g = false) := mkHid (by rw [HS.out, decide_eq_false (show ¬ C ≤ 500 by omega)]; simp)
  go_wp2
  go_ret
  exact ⟨by rw [HG.out]; rfl, B1.out⟩

set_option maxRecDepth 100000 in
set_option maxHeartbeats 1600000 in
theorem sExpr_ok (k : Int) (s : ByteArray) (m : Int) (kk : List T) (a : Option Addr) (c : Nat) (w : World) (hs : s.size ≤ maxLen) (hn : kk.length ≤ maxLen) (hc : cnt (.node k s m kk) ≤ 2097152) (hk : Kids w 0 a kk) :
    Calls Tryz.prog 42 #[.agg #[.int .i64 k, .string s, .int .i64 m, .slice a kk.length c]] w fun e w' => e = .returned (.bool (betw k 1 8 && fitsS (.node k s m kk))) ∧ Below w.heap.size w w' := by
 have B0 := mkHid ((Below.refl w.heap.size w).alloc (Nat.le_refl _) (.cells #[.int .i64 k, .string s, .int .i64 m, .slice a kk.length c] 38))
 have HF := mkHid (fun W (hW : Below w.heap.size w W) => sFits_ok k s m kk a c W hs hn hc (hk.below hW))
 have HB := mkHid (fun W => isExpr_any k W)
 generalize fitsS (.node k s m kk) = f at HF
 generalize betw k 1 8 = g at HB
 clear hs hn hk hc
 go_enter Tryz.func42, Tryz.ntmps42
 go_wp2_with fail
 refine (HB.out _).mono ?_
 rintro e w1 ⟨rfl, rfl⟩
 cases g
 ·go_wp2
  go_ret
  exact ⟨rfl, B0.out⟩
 ·go_wp2_with fail
  refine (HF.out _ B0.out).mono ?_
  rintro e w2 ⟨rfl, hb2⟩
  have B2 := mkHid (below_step B0.out hb2)
  clear hb2
  go_wp2
  go_ret
  exact ⟨rfl, B2.out⟩
set_option maxRecDepth 100000 in
set_option maxHeartbeats 1600000 in
theorem iExpr_ok (k : Int) (s : ByteArray) (m : Int) (kk : List T) (a : Option Addr) (c : Nat) (w : World) (hs : s.size ≤ maxLen) (hn : kk.length ≤ maxLen) (hk : Kids w 0 a kk) :
    Calls Tryz.prog 52 #[.agg #[.int .i64 k, .string s, .int .i64 m, .slice a kk.length c]] w fun e w' => e = .returned (.bool (betw k 1 8 && fitsS (.node k s m kk))) ∧ Below w.heap.size w w' := by
 have B0 := mkHid ((Below.refl w.heap.size w).alloc (Nat.le_refl _) (.cells #[.int .i64 k, .string s, .int .i64 m, .slice a kk.length c] 38))
 have F0 := mkHid (Four.new w k s m a kk.length c 38)
 have HE := mkHid (show (betw k 1 8 && fitsS (.node k s m kk)) = (decide (dep (.node k s m kk) ≤ 24 ∧ cnt (.node k s m kk) ≤ 500) && fitsT (.node k s m kk) 1) by
  rw [fits_formed _ 1 (by decide), betw_grp1]
  show (decide (grpI k = 1) && (decide (cnt (.node k s m kk) ≤ 500) && decide (dep (.node k s m kk) ≤ 24) && formedT (.node k s m kk))) = (decide (dep (.node k s m kk) ≤ 24 ∧ cnt (.node k s m kk) ≤ 500) && (decide (grpI k = 1) && formedT (.node k s m kk)))
  rw [Bool.decide_and]
  cases decide (grpI k = 1) <;> cases decide (cnt (.node k s m kk) ≤ 500) <;> cases decide (dep (.node k s m kk) ≤ 24) <;> cases formedT (.node k s m kk) <;> rfl)
 have HM := mkHid (fun W (hW : Below w.heap.size w W) => isSmall_ok k s m kk a c W hn (hk.below hW))
 have HF := mkHid (fun W (hW : Below w.heap.size w W) => fits_ok (.node k s m kk) a c 1 W hs hn (hk.below hW))
 generalize (betw k 1 8 && fitsS (.node k s m kk)) = r at HE ⊢
 generalize decide (dep (.node k s m kk) ≤ 24 ∧ cnt (.node k s m kk) ≤ 500) = g at HE HM
 generalize fitsT (.node k s m kk) 1 = f at HE HF
 clear hs hn hk
 go_enter Tryz.func52, Tryz.ntmps52
 go_wp2_with fail
 refine (HM.out _ B0.out).mono ?_
 rintro e w1 ⟨rfl, hb1⟩
 have B1 := mkHid (below_step B0.out hb1)
 have F1 := mkHid (F0.out.below hb1)
 clear hb1 B0 F0
 cases g
 ·have HG : Hid (r = false) := mkHid (by rw [HE.out]; rfl)
  go_wp2
  go_ret
  exact ⟨by rw [HG.out]; rfl, B1.out⟩
 ·have HG : Hid (r = f) := mkHid (by rw [HE.out]; rfl)
  obtain ⟨p0, p1, p2, p3⟩ := F1.out
  go_wp2_with fail
  refine (HF.out _ B1.out).mono ?_
  rintro e w2 ⟨rfl, hb2⟩
  have B2 := mkHid (below_step B1.out hb2)
  clear hb2
  go_wp2
  go_ret
  exact ⟨by rw [HG.out]; rfl, B2.out⟩

set_option maxRecDepth 100000 in
set_option maxHeartbeats 1600000 in
theorem sCond_ok (k : Int) (s : ByteArray) (m : Int) (kk : List T) (a : Option Addr) (c : Nat) (w : World) (hs : s.size ≤ maxLen) (hn : kk.length ≤ maxLen) (hc : cnt (.node k s m kk) ≤ 2097152) (hk : Kids w 0 a kk) :
    Calls Tryz.prog 25 #[.agg #[.int .i64 k, .string s, .int .i64 m, .slice a kk.length c]] w fun e w' => e = .returned (.bool (betw k 11 16 && fitsS (.node k s m kk))) ∧ Below w.heap.size w w' := by
 have B0 := mkHid ((Below.refl w.heap.size w).alloc (Nat.le_refl _) (.cells #[.int .i64 k, .string s, .int .i64 m, .slice a kk.length c] 38))
 have HF := mkHid (fun W (hW : Below w.heap.size w W) => sFits_ok k s m kk a c W hs hn hc (hk.below hW))
 have HB := mkHid (fun W => isCond_any k W)
 generalize fitsS (.node k s m kk) = f at HF
 generalize betw k 11 16 = g at HB
 clear hs hn hk hc
 go_enter Tryz.func25, Tryz.ntmps25
 go_wp2_with fail
 refine (HB.out _).mono ?_
 rintro e w1 ⟨rfl, rfl⟩
 cases g
 ·go_wp2
  go_ret
  exact ⟨rfl, B0.out⟩
 ·go_wp2_with fail
  refine (HF.out _ B0.out).mono ?_
  rintro e w2 ⟨rfl, hb2⟩
  have B2 := mkHid (below_step B0.out hb2)
  clear hb2
  go_wp2
  go_ret
  exact ⟨rfl, B2.out⟩
set_option maxRecDepth 100000 in
set_option maxHeartbeats 1600000 in
theorem iCond_ok (k : Int) (s : ByteArray) (m : Int) (kk : List T) (a : Option Addr) (c : Nat) (w : World) (hs : s.size ≤ maxLen) (hn : kk.length ≤ maxLen) (hk : Kids w 0 a kk) :
    Calls Tryz.prog 36 #[.agg #[.int .i64 k, .string s, .int .i64 m, .slice a kk.length c]] w fun e w' => e = .returned (.bool (betw k 11 16 && fitsS (.node k s m kk))) ∧ Below w.heap.size w w' := by
 have B0 := mkHid ((Below.refl w.heap.size w).alloc (Nat.le_refl _) (.cells #[.int .i64 k, .string s, .int .i64 m, .slice a kk.length c] 38))
 have F0 := mkHid (Four.new w k s m a kk.length c 38)
 have HE := mkHid (show (betw k 11 16 && fitsS (.node k s m kk)) = (decide (dep (.node k s m kk) ≤ 24 ∧ cnt (.node k s m kk) ≤ 500) && fitsT (.node k s m kk) 2) by
  rw [fits_formed _ 2 (by decide), betw_grp2]
  show (decide (grpI k = 2) && (decide (cnt (.node k s m kk) ≤ 500) && decide (dep (.node k s m kk) ≤ 24) && formedT (.node k s m kk))) = (decide (dep (.node k s m kk) ≤ 24 ∧ cnt (.node k s m kk) ≤ 500) && (decide (grpI k = 2) && formedT (.node k s m kk)))
  rw [Bool.decide_and]
  cases decide (grpI k = 2) <;> cases decide (cnt (.node k s m kk) ≤ 500) <;> cases decide (dep (.node k s m kk) ≤ 24) <;> cases formedT (.node k s m kk) <;> rfl)
 have HM := mkHid (fun W (hW : Below w.heap.size w W) => isSmall_ok k s m kk a c W hn (hk.below hW))
 have HF := mkHid (fun W (hW : Below w.heap.size w W) => fits_ok (.node k s m kk) a c 2 W hs hn (hk.below hW))
 generalize (betw k 11 16 && fitsS (.node k s m kk)) = r at HE ⊢
 generalize decide (dep (.node k s m kk) ≤ 24 ∧ cnt (.node k s m kk) ≤ 500) = g at HE HM
 generalize fitsT (.node k s m kk) 2 = f at HE HF
 clear hs hn hk
 go_enter Tryz.func36, Tryz.ntmps36
 go_wp2_with fail
 refine (HM.out _ B0.out).mono ?_
 rintro e w1 ⟨rfl, hb1⟩
 have B1 := mkHid (below_step B0.out hb1)
 have F1 := mkHid (F0.out.below hb1)
 clear hb1 B0 F0
 cases g
 ·have HG : Hid (r = false) := mkHid (by rw [HE.out]; rfl)
  go_wp2
  go_ret
  exact ⟨by rw [HG.out]; rfl, B1.out⟩
 ·have HG : Hid (r = f) := mkHid (by rw [HE.out]; rfl)
  obtain ⟨p0, p1, p2, p3⟩ := F1.out
  go_wp2_with fail
  refine (HF.out _ B1.out).mono ?_
  rintro e w2 ⟨rfl, hb2⟩
  have B2 := mkHid (below_step B1.out hb2)
  clear hb2
  go_wp2
  go_ret
  exact ⟨by rw [HG.out]; rfl, B2.out⟩

end Go.Proofs.YtedfnadgmhjojaaGreatDoor
