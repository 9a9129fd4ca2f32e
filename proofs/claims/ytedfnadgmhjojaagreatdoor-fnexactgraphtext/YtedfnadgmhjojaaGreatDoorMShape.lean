/-
  CONTRACTS of the specification's l02Shape, l01Between, l02IsExpr, l02IsCond, l02IsStmt, l02Kid.
-/
import Derived.Test.YtedfnadgmhjojaaGreatDoorMFormb
namespace Go.Proofs.YtedfnadgmhjojaaGreatDoor
open Go.RowKit
open Pl

def shapeI (kind : Int) : Int × Bool × Bool :=
 if kind = 1 then (0, false, true) else
 if kind = 28 then (0, false, true) else
 if kind = 29 then (0, false, true) else
 if kind = 2 then (0, true, true) else
 if kind = 4 then (0, true, true) else
 if kind = 23 then (0, true, true) else
 if kind = 31 then (0, true, true) else
 if kind = 32 then (0, true, true) else
 if kind = 3 then (1, true, true) else
 if kind = 21 then (1, true, true) else
 if kind = 5 then (1, false, true) else
 if kind = 27 then (1, false, true) else
 if kind = 6 then (2, false, true) else
 if kind = 7 then (2, false, true) else
 if kind = 8 then (2, false, true) else
 if kind = 11 then (2, false, true) else
 if kind = 12 then (2, false, true) else
 if kind = 13 then (2, false, true) else
 if kind = 14 then (2, false, true) else
 if kind = 15 then (2, false, true) else
 if kind = 16 then (2, false, true) else
 if kind = 25 then (2, false, true) else
 if kind = 22 then (2, true, true) else
 if kind = 24 then (3, false, true) else
 if kind = 26 then (3, true, true) else
 if kind = 30 then (-1, false, true) else
 if kind = 40 then (-1, false, true) else
 (0, false, false)

set_option maxHeartbeats 1600000 in
theorem shape_any (kind : Int) (w : World) : Calls Tryz.prog 79 #[.int .i64 kind] w fun e w' => e = .returned (.tuple #[.int .i64 (shapeI kind).1, .bool (shapeI kind).2.1, .bool (shapeI kind).2.2]) ∧ w = w' := by
 by_cases h1 : kind = 1
 ·subst h1
  go_enter Tryz.func79, Tryz.ntmps79
  go_wp2
  exact bodyPost_ret (v := .tuple #[.int .i64 (0), .bool false, .bool true]) (by simp [results, Tryz.results79, go_sem]) rfl ⟨rfl, rfl⟩
 by_cases h28 : kind = 28
 ·subst h28
  go_enter Tryz.func79, Tryz.ntmps79
  go_wp2
  exact bodyPost_ret (v := .tuple #[.int .i64 (0), .bool false, .bool true]) (by simp [results, Tryz.results79, go_sem]) rfl ⟨rfl, rfl⟩
 by_cases h29 : kind = 29
 ·subst h29
  go_enter Tryz.func79, Tryz.ntmps79
  go_wp2
  exact bodyPost_ret (v := .tuple #[.int .i64 (0), .bool false, .bool true]) (by simp [results, Tryz.results79, go_sem]) rfl ⟨rfl, rfl⟩
 by_cases h2 : kind = 2
 ·subst h2
  go_enter Tryz.func79, Tryz.ntmps79
  go_wp2
  exact bodyPost_ret (v := .tuple #[.int .i64 (0), .bool true, .bool true]) (by simp [results, Tryz.results79, go_sem]) rfl ⟨rfl, rfl⟩
 by_cases h4 : kind = 4
 ·subst h4
  go_enter Tryz.func79, Tryz.ntmps79
  go_wp2
  exact bodyPost_ret (v := .tuple #[.int .i64 (0), .bool true, .bool true]) (by simp [results, Tryz.results79, go_sem]) rfl ⟨rfl, rfl⟩
 by_cases h23 : kind = 23
 ·subst h23
  go_enter Tryz.func79, Tryz.ntmps79
  go_wp2
  exact bodyPost_ret (v := .tuple #[.int .i64 (0), .bool true, .bool true]) (by simp [results, Tryz.results79, go_sem]) rfl ⟨rfl, rfl⟩
 by_cases h31 : kind = 31
 ·subst h31
  go_enter Tryz.func79, Tryz.ntmps79
  go_wp2
  exact bodyPost_ret (v := .tuple #[.int .i64 (0), .bool true, .bool true]) (by simp [results, Tryz.results79, go_sem]) rfl ⟨rfl, rfl⟩
 by_cases h32 : kind = 32
 ·subst h32
  go_enter Tryz.func79, Tryz.ntmps79
  go_wp2
  exact bodyPost_ret (v := .tuple #[.int .i64 (0), .bool true, .bool true]) (by simp [results, Tryz.results79, go_sem]) rfl ⟨rfl, rfl⟩
 by_cases h3 : kind = 3
 ·subst h3
  go_enter Tryz.func79, Tryz.ntmps79
  go_wp2
  exact bodyPost_ret (v := .tuple #[.int .i64 (1), .bool true, .bool true]) (by simp [results, Tryz.results79, go_sem]) rfl ⟨rfl, rfl⟩
 by_cases h21 : kind = 21
 ·subst h21
  go_enter Tryz.func79, Tryz.ntmps79
  go_wp2
  exact bodyPost_ret (v := .tuple #[.int .i64 (1), .bool true, .bool true]) (by simp [results, Tryz.results79, go_sem]) rfl ⟨rfl, rfl⟩
 by_cases h5 : kind = 5
 ·subst h5
  go_enter Tryz.func79, Tryz.ntmps79
  go_wp2
  exact bodyPost_ret (v := .tuple #[.int .i64 (1), .bool false, .bool true]) (by simp [results, Tryz.results79, go_sem]) rfl ⟨rfl, rfl⟩
 by_cases h27 : kind = 27
 ·subst h27
  go_enter Tryz.func79, Tryz.ntmps79
  go_wp2
  exact bodyPost_ret (v := .tuple #[.int .i64 (1), .bool false, .bool true]) (by simp [results, Tryz.results79, go_sem]) rfl ⟨rfl, rfl⟩
 by_cases h6 : kind = 6
 ·subst h6
  go_enter Tryz.func79, Tryz.ntmps79
  go_wp2
  exact bodyPost_ret (v := .tuple #[.int .i64 (2), .bool false, .bool true]) (by simp [results, Tryz.results79, go_sem]) rfl ⟨rfl, rfl⟩
 by_cases h7 : kind = 7
 ·subst h7
  go_enter Tryz.func79, Tryz.ntmps79
  go_wp2
  exact bodyPost_ret (v := .tuple #[.int .i64 (2), .bool false, .bool true]) (by simp [results, Tryz.results79, go_sem]) rfl ⟨rfl, rfl⟩
 by_cases h8 : kind = 8
 ·subst h8
  go_enter Tryz.func79, Tryz.ntmps79
  go_wp2
  exact bodyPost_ret (v := .tuple #[.int .i64 (2), .bool false, .bool true]) (by simp [results, Tryz.results79, go_sem]) rfl ⟨rfl, rfl⟩
 by_cases h11 : kind = 11
 ·subst h11
  go_enter Tryz.func79, Tryz.ntmps79
  go_wp2
  exact bodyPost_ret (v := .tuple #[.int .i64 (2), .bool false, .bool true]) (by simp [results, Tryz.results79, go_sem]) rfl ⟨rfl, rfl⟩
 by_cases h12 : kind = 12
 ·subst h12
  go_enter Tryz.func79, Tryz.ntmps79
  go_wp2
  exact bodyPost_ret (v := .tuple #[.int .i64 (2), .bool false, .bool true]) (by simp [results, Tryz.results79, go_sem]) rfl ⟨rfl, rfl⟩
 by_cases h13 : kind = 13
 ·subst h13
  go_enter Tryz.func79, Tryz.ntmps79
  go_wp2
  exact bodyPost_ret (v := .tuple #[.int .i64 (2), .bool false, .bool true]) (by simp [results, Tryz.results79, go_sem]) rfl ⟨rfl, rfl⟩
 by_cases h14 : kind = 14
 ·subst h14
  go_enter Tryz.func79, Tryz.ntmps79
  go_wp2
  exact bodyPost_ret (v := .tuple #[.int .i64 (2), .bool false, .bool true]) (by simp [results, Tryz.results79, go_sem]) rfl ⟨rfl, rfl⟩
 by_cases h15 : kind = 15
 ·subst h15
  go_enter Tryz.func79, Tryz.ntmps79
  go_wp2
  exact bodyPost_ret (v := .tuple #[.int .i64 (2), .bool false, .bool true]) (by simp [results, Tryz.results79, go_sem]) rfl ⟨rfl, rfl⟩
 by_cases h16 : kind = 16
 ·subst h16
  go_enter Tryz.func79, Tryz.ntmps79
  go_wp2
  exact bodyPost_ret (v := .tuple #[.int .i64 (2), .bool false, .bool true]) (by simp [results, Tryz.results79, go_sem]) rfl ⟨rfl, rfl⟩
 by_cases h25 : kind = 25
 ·subst h25
  go_enter Tryz.func79, Tryz.ntmps79
  go_wp2
  exact bodyPost_ret (v := .tuple #[.int .i64 (2), .bool false, .bool true]) (by simp [results, Tryz.results79, go_sem]) rfl ⟨rfl, rfl⟩
 by_cases h22 : kind = 22
 ·subst h22
  go_enter Tryz.func79, Tryz.ntmps79
  go_wp2
  exact bodyPost_ret (v := .tuple #[.int .i64 (2), .bool true, .bool true]) (by simp [results, Tryz.results79, go_sem]) rfl ⟨rfl, rfl⟩
 by_cases h24 : kind = 24
 ·subst h24
  go_enter Tryz.func79, Tryz.ntmps79
  go_wp2
  exact bodyPost_ret (v := .tuple #[.int .i64 (3), .bool false, .bool true]) (by simp [results, Tryz.results79, go_sem]) rfl ⟨rfl, rfl⟩
 by_cases h26 : kind = 26
 ·subst h26
  go_enter Tryz.func79, Tryz.ntmps79
  go_wp2
  exact bodyPost_ret (v := .tuple #[.int .i64 (3), .bool true, .bool true]) (by simp [results, Tryz.results79, go_sem]) rfl ⟨rfl, rfl⟩
 by_cases h30 : kind = 30
 ·subst h30
  go_enter Tryz.func79, Tryz.ntmps79
  go_wp2
  exact bodyPost_ret (v := .tuple #[.int .i64 (-1), .bool false, .bool true]) (by simp [results, Tryz.results79, go_sem]) rfl ⟨rfl, rfl⟩
 by_cases h40 : kind = 40
 ·subst h40
  go_enter Tryz.func79, Tryz.ntmps79
  go_wp2
  exact bodyPost_ret (v := .tuple #[.int .i64 (-1), .bool false, .bool true]) (by simp [results, Tryz.results79, go_sem]) rfl ⟨rfl, rfl⟩
 have e : shapeI kind = (0, false, false) := by simp [shapeI, h1, h28, h29, h2, h4, h23, h31, h32, h3, h21, h5, h27, h6, h7, h8, h11, h12, h13, h14, h15, h16, h25, h22, h24, h26, h30, h40]
 rw [e]
 clear e
 go_enter Tryz.func79, Tryz.ntmps79
 go_wp2
 exact bodyPost_ret (v := .tuple #[.int .i64 0, .bool false, .bool false]) (by simp [results, Tryz.results79, go_sem]) rfl ⟨rfl, rfl⟩

def betw (n lo hi : Int) : Bool := decide (lo ≤ n ∧ n ≤ hi)
set_option maxHeartbeats 800000 in
theorem betw_any (n lo hi : Int) (w : World) : Calls Tryz.prog 24 #[.int .i64 n, .int .i64 lo, .int .i64 hi] w fun e w' => e = .returned (.bool (betw n lo hi)) ∧ w = w' := by
 unfold betw
 by_cases h1 : lo ≤ n
 ·by_cases h2 : n ≤ hi
  ·rw [decide_eq_true ⟨h1, h2⟩]
   go_enter Tryz.func24, Tryz.ntmps24
   go_wp2
   go_ret
   exact ⟨by simp, rfl⟩
  ·rw [decide_eq_false (fun h => h2 h.2)]
   go_enter Tryz.func24, Tryz.ntmps24
   go_wp2
   go_ret
   exact ⟨by simp, rfl⟩
 ·rw [decide_eq_false (fun h => h1 h.1)]
  go_enter Tryz.func24, Tryz.ntmps24
  go_wp2
  go_ret
  exact ⟨by simp, rfl⟩
set_option maxHeartbeats 400000 in
theorem isExpr_any (k : Int) (w : World) : Calls Tryz.prog 60 #[.int .i64 k] w fun e w' => e = .returned (.bool (betw k 1 8)) ∧ w = w' := by
 go_enter Tryz.func60, Tryz.ntmps60
 go_wp2_with fail
 refine (betw_any k 1 8 _).mono ?_
 rintro e w1 ⟨rfl, rfl⟩
 go_wp2
 go_ret
 exact ⟨rfl, rfl⟩
set_option maxHeartbeats 400000 in
theorem isCond_any (k : Int) (w : World) : Calls Tryz.prog 40 #[.int .i64 k] w fun e w' => e = .returned (.bool (betw k 11 16)) ∧ w = w' := by
 go_enter Tryz.func40, Tryz.ntmps40
 go_wp2_with fail
 refine (betw_any k 11 16 _).mono ?_
 rintro e w1 ⟨rfl, rfl⟩
 go_wp2
 go_ret
 exact ⟨rfl, rfl⟩
set_option maxHeartbeats 400000 in
theorem isStmt_any (k : Int) (w : World) : Calls Tryz.prog 114 #[.int .i64 k] w fun e w' => e = .returned (.bool (betw k 21 29)) ∧ w = w' := by
 go_enter Tryz.func114, Tryz.ntmps114
 go_wp2_with fail
 refine (betw_any k 21 29 _).mono ?_
 rintro e w1 ⟨rfl, rfl⟩
 go_wp2
 go_ret
 exact ⟨rfl, rfl⟩
/-- Whether a kind may stand as the kid at a place. -/
def kidI (k : Int) (n : Nat) (i : Nat) (x : Int) : Bool :=
 if k = 24 ∨ k = 25 ∨ k = 27 then (if i = 0 then betw x 11 16 else (x == 30)) else
 if k = 26 ∧ i = 2 then (x == 30) else
 if k = 30 then betw x 21 29 else
 if k = 40 then (if i + 1 = n then (x == 30) else (x == 31 || x == 32)) else
 betw x 1 8

set_option maxHeartbeats 1600000 in
theorem kid_any (k : Int) (s : ByteArray) (m : Int) (a : Option Addr) (n c i : Nat) (x : Int) (w : World) (hn : n ≤ maxLen) (hi : i < n) :
    Calls Tryz.prog 81 #[.agg #[.int .i64 k, .string s, .int .i64 m, .slice a n c], .int .i64 i, .int .i64 x] w fun e w' => e = .returned (.bool (kidI k n i x)) ∧ Below w.heap.size w w' := by
 have A0 := mkHid ((Below.refl w.heap.size w).alloc (Nat.le_refl _) (.cells #[.int .i64 k, .string s, .int .i64 m, .slice a n c] 38))
 unfold maxLen at hn
 by_cases h24 : k = 24
 ·subst h24
  by_cases hi0 : i = 0
  ·subst hi0
   rw [show kidI 24 n 0 x = betw x 11 16 by simp [kidI]]
   go_enter Tryz.func81, Tryz.ntmps81
   go_wp2_with fail
   refine (isCond_any x _).mono ?_
   rintro e w1 ⟨rfl, rfl⟩
   go_wp2
   go_ret
   exact ⟨rfl, A0.out⟩
  ·have hi1 : ((i : Int) == 0) = false := by simp; omega
   rw [show kidI 24 n i x = (x == 30) by simp [kidI, hi0]]
   go_enter Tryz.func81, Tryz.ntmps81
   go_wp2
   go_ret
   exact ⟨rfl, A0.out⟩
 by_cases h25 : k = 25
 ·subst h25
  by_cases hi0 : i = 0
  ·subst hi0
   rw [show kidI 25 n 0 x = betw x 11 16 by simp [kidI]]
   go_enter Tryz.func81, Tryz.ntmps81
   go_wp2_with fail
   refine (isCond_any x _).mono ?_
   rintro e w1 ⟨rfl, rfl⟩
   go_wp2
   go_ret
   exact ⟨rfl, A0.out⟩
  ·have hi1 : ((i : Int) == 0) = false := by simp; omega
   rw [show kidI 25 n i x = (x == 30) by simp [kidI, hi0]]
   go_enter Tryz.func81, Tryz.ntmps81
   go_wp2
   go_ret
   exact ⟨rfl, A0.out⟩
 by_cases h27 : k = 27
 ·subst h27
  by_cases hi0 : i = 0
  ·subst hi0
   rw [show kidI 27 n 0 x = betw x 11 16 by simp [kidI]]
   go_enter Tryz.func81, Tryz.ntmps81
   go_wp2_with fail
   refine (isCond_any x _).mono ?_
   rintro e w1 ⟨rfl, rfl⟩
   go_wp2
   go_ret
   exact ⟨rfl, A0.out⟩
  ·have hi1 : ((i : Int) == 0) = false := by simp; omega
   rw [show kidI 27 n i x = (x == 30) by simp [kidI, hi0]]
   go_enter Tryz.func81, Tryz.ntmps81
   go_wp2
   go_ret
   exact ⟨rfl, A0.out⟩
 by_cases h26 : k = 26
 ·subst h26
  by_cases hi0 : i = 2
  ·subst hi0
   rw [show kidI 26 n 2 x = (x == 30) by simp [kidI]]
   go_enter Tryz.func81, Tryz.ntmps81
   go_wp2
   go_ret
   exact ⟨rfl, A0.out⟩
  ·have hi1 : ((i : Int) == 2) = false := by simp; omega
   rw [show kidI 26 n i x = betw x 1 8 by simp [kidI, hi0]]
   go_enter Tryz.func81, Tryz.ntmps81
   go_wp2_with fail
   refine (isExpr_any x _).mono ?_
   rintro e w1 ⟨rfl, rfl⟩
   go_wp2
   go_ret
   exact ⟨rfl, A0.out⟩
 by_cases h30 : k = 30
 ·subst h30
  rw [show kidI 30 n i x = betw x 21 29 by simp [kidI]]
  go_enter Tryz.func81, Tryz.ntmps81
  go_wp2_with fail
  refine (isStmt_any x _).mono ?_
  rintro e w1 ⟨rfl, rfl⟩
  go_wp2
  go_ret
  exact ⟨rfl, A0.out⟩
 by_cases h40 : k = 40
 ·subst h40
  by_cases hi0 : i + 1 = n
  ·have hi1 : (i : Int) = (n : Int) - 1 := by omega
   rw [show kidI 40 n i x = (x == 30) by simp [kidI, hi0]]
   have hi2 : ((i : Int) == (n : Int) - 1) = true := by simp; omega
   go_enter Tryz.func81, Tryz.ntmps81
   go_wp2
   go_ret
   exact ⟨rfl, A0.out⟩
  ·have hi2 : ((i : Int) == (n : Int) - 1) = false := by simp; omega
   rw [show kidI 40 n i x = (x == 31 || x == 32) by simp [kidI, hi0]]
   by_cases hq : x = 31
   ·subst hq
    go_enter Tryz.func81, Tryz.ntmps81
    go_wp2
    go_ret
    exact ⟨rfl, A0.out⟩
   ·have hq' : (x == 31) = false := by simpa using hq
    rw [hq', Bool.false_or]
    go_enter Tryz.func81, Tryz.ntmps81
    go_wp2
    go_ret
    exact ⟨rfl, A0.out⟩
 rw [show kidI k n i x = betw x 1 8 by simp [kidI, h24, h25, h27, h26, h30, h40]]
 go_enter Tryz.func81, Tryz.ntmps81
 go_wp2_with fail
 refine (isExpr_any x _).mono ?_
 rintro e w1 ⟨rfl, rfl⟩
 go_wp2
 go_ret
 exact ⟨rfl, A0.out⟩
end Go.Proofs.YtedfnadgmhjojaaGreatDoor
