/-
  CONTRACTS of both SymOks, and of taking a term over; the text of a term.
-/
import Derived.Test.YtiihjoliodemmaaDoorStz
namespace Go.Proofs.YtiihjoliodemmaaDoor
open Go.RowKit

set_option maxRecDepth 100000 in
theorem isBetween_any (a lo hi : Int) (w : World) : Calls Tryd.prog 106 #[.int .i64 a, .int .i64 lo, .int .i64 hi] w fun e w' => e = .returned (.bool (btw a lo hi)) ∧ w = w' := by
  unfold btw
  go_enter Tryd.func106, Tryd.ntmps106
  go_wp2
  all_goals (go_ret; exact ⟨ret_bool (by simp_all <;> omega), rfl⟩)
def symOkB (n v c : Int) : Bool := btw n 1 13 && (btw v 0 (n - 1) && btw c (-1000) 1000)
def nmAt (l : List ByteArray) (v : Int) : ByteArray := l.getD (v - 1).toNat ⟨#[]⟩
def symT (l : List ByteArray) (v c : Int) : ByteArray := if v = 0 then dI c else if c = 0 then nmAt l v else if c < 0 then (nmAt l v ++ ⟨#[32, 45, 32]⟩) ++ dI (-c) else (nmAt l v ++ ⟨#[32, 43, 32]⟩) ++ dI c
def symOk2 (l : List ByteArray) (v c : Int) : Bool := labsB l && symOkB ((l.length : Int) + 1) v c
def textS (l : List ByteArray) (v c : Int) : ByteArray := if symOk2 l v c then symT l v c else ⟨#[]⟩
theorem btw_iff {a lo hi : Int} : btw a lo hi = true ↔ lo ≤ a ∧ a ≤ hi := by unfold btw; simp
theorem symOk_iff {n v c : Int} : symOkB n v c = true ↔ (1 ≤ n ∧ n ≤ 13) ∧ (0 ≤ v ∧ v ≤ n - 1) ∧ -1000 ≤ c ∧ c ≤ 1000 := by unfold symOkB; rw [Bool.and_eq_true, Bool.and_eq_true, btw_iff, btw_iff, btw_iff]
theorem nmAt_get {l : List ByteArray} {v : Int} (h1 : 1 ≤ v) (h2 : v ≤ l.length) : ∃ k : Nat, v - 1 = (k : Int) ∧ k < l.length ∧ l[k]? = some (nmAt l v) := by
  refine ⟨(v - 1).toNat, by omega, by omega, ?_⟩
  unfold nmAt
  rw [List.getD_eq_getElem?_getD, List.getElem?_eq_getElem (by omega)]
  rfl
set_option maxRecDepth 100000 in
set_option maxHeartbeats 400000 in
theorem toSym_any (a b : Int) (w : World) : Calls Tryd.prog 21 #[.agg #[.int .i64 a, .int .i64 b]] w fun e w' => e = .returned (.agg #[.int .i64 a, .int .i64 b]) ∧ Below w.heap.size w w' := by
  go_enter Tryd.func21, Tryd.ntmps21
  go_wp2
  exact bodyPost_ret (v := .agg #[.int .i64 a, .int .i64 b]) (by simp [results, Tryd.results21, go_sem]) rfl ⟨rfl, (by repeat (first | with_reducible exact Below.refl _ _ | (with_reducible refine bl_set2 ?_ ?_ _; (first | (simp; done) | (simp [*]; done) | (simp [*] <;> omega))) | with_reducible refine bl_drew ?_ | with_reducible refine bl_alloc ?_ _ | with_reducible refine below_step ?_ (by assumption) | with_reducible assumption))⟩
set_option maxRecDepth 100000 in
set_option maxHeartbeats 800000 in
theorem sSymOk_any (n v c : Int) (w : World) : Calls Tryd.prog 55 #[.int .i64 n, .agg #[.int .i64 v, .int .i64 c]] w fun e w' => e = .returned (.bool (symOkB n v c)) ∧ Below w.heap.size w w' := by
  have B0 := mkHid ((Below.refl w.heap.size w).alloc (Nat.le_refl _) (.cells #[.int .i64 v, .int .i64 c] 44))
  unfold symOkB
  cases h1 : btw n 1 13
  · go_enter Tryd.func55, Tryd.ntmps55
    go_wp2_with (first | (go_at_call 105; refine (between_any _ _ _ _).mono ?_; rintro e w' ⟨rfl, rfl⟩))
    go_ret
    exact ⟨rfl, B0.out⟩
  · have hn : 1 ≤ n ∧ n ≤ 13 := of_decide_eq_true h1
    obtain ⟨k, hk⟩ : ∃ k, n - 1 = k := ⟨_, rfl⟩
    have hw : IntKind.i64.wrap (n - 1) = k := by rw [← hk]; exact IntWalk.i64_in _ (by omega)
    rw [hk]
    clear hk hn
    cases h2 : btw v 0 k
    · go_enter Tryd.func55, Tryd.ntmps55
      go_wp2_with (first | (go_at_call 105; refine (between_any _ _ _ _).mono ?_; rintro e w' ⟨rfl, rfl⟩))
      go_ret
      exact ⟨rfl, B0.out⟩
    · go_enter Tryd.func55, Tryd.ntmps55
      go_wp2_with (first | (go_at_call 105; refine (between_any _ _ _ _).mono ?_; rintro e w' ⟨rfl, rfl⟩))
      go_ret
      exact ⟨rfl, B0.out⟩
set_option maxRecDepth 100000 in
set_option maxHeartbeats 800000 in
theorem iSymOk_any (n v c : Int) (w : World) : Calls Tryd.prog 57 #[.int .i64 n, .agg #[.int .i64 v, .int .i64 c]] w fun e w' => e = .returned (.bool (symOkB n v c)) ∧ Below w.heap.size w w' := by
  have B0 := mkHid ((Below.refl w.heap.size w).alloc (Nat.le_refl _) (.cells #[.int .i64 v, .int .i64 c] 44))
  unfold symOkB
  cases h1 : btw n 1 13
  · go_enter Tryd.func57, Tryd.ntmps57
    go_wp2_with (first | (go_at_call 106; refine (isBetween_any _ _ _ _).mono ?_; rintro e w' ⟨rfl, rfl⟩))
    go_ret
    exact ⟨rfl, B0.out⟩
  · have hn : 1 ≤ n ∧ n ≤ 13 := of_decide_eq_true h1
    obtain ⟨k, hk⟩ : ∃ k, n - 1 = k := ⟨_, rfl⟩
    have hw : IntKind.i64.wrap (n - 1) = k := by rw [← hk]; exact IntWalk.i64_in _ (by omega)
    rw [hk]
    clear hk hn
    cases h2 : btw v 0 k
    · go_enter Tryd.func57, Tryd.ntmps57
      go_wp2_with (first | (go_at_call 106; refine (isBetween_any _ _ _ _).mono ?_; rintro e w' ⟨rfl, rfl⟩))
      go_ret
      exact ⟨rfl, B0.out⟩
    · go_enter Tryd.func57, Tryd.ntmps57
      go_wp2_with (first | (go_at_call 106; refine (isBetween_any _ _ _ _).mono ?_; rintro e w' ⟨rfl, rfl⟩))
      go_ret
      exact ⟨rfl, B0.out⟩
end Go.Proofs.YtiihjoliodemmaaDoor
