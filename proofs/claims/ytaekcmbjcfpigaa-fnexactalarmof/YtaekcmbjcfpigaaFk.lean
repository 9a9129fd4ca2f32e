/-
  CONTRACT of the specification's AlarmOf.
-/
import Derived.Test.YtaekcmbjcfpigaaFj
namespace Go.Proofs.Ytaekcmbjcfpigaa
open Go.RowKit

set_option maxRecDepth 100000 in
set_option maxHeartbeats 3200000 in
theorem sAlarmOf_any (L : List AA) (la : Option Addr) (lc : Nat) (p u s t e x : Int) (a b : Option Addr) (n c m d : Nat) (w : World) (hn : L.length ≤ maxLen) (hl : At eA w la L) :
    Calls Try.prog 6 #[.slice la L.length lc, .agg #[.int .i64 p, .slice a n c, .slice b m d, .int .i64 u, .int .i64 s, .int .i64 t, .int .i64 e, .int .i64 x]] w fun f w' => f = .returned (.bool (inB L e x t)) ∧ Below w.heap.size w w' := by
  unfold inB
  obtain ⟨w0, hw0⟩ : ∃ z : World, w.alloc (.cells #[.int .i64 p, .slice a n c, .slice b m d, .int .i64 u, .int .i64 s, .int .i64 t, .int .i64 e, .int .i64 x] 34) = z := ⟨_, rfl⟩
  have HB : Hid (Below w.heap.size w w0) := mkHid (by rw [← hw0]; exact bl_alloc (Below.refl _ _) _)
  obtain ⟨X, hX⟩ : ∃ z, w.heap.size = z := ⟨_, rfl⟩
  have P0 : Hid (B8 w0 X (.int .i64 p) (.slice a n c) (.slice b m d) (.int .i64 u) (.int .i64 s) (.int .i64 t) (.int .i64 e) (.int .i64 x)) := mkHid (by rw [← hw0, ← hX]; constructor <;> simp [go_sem])
  obtain ⟨q0, q1, q2, q3, q4, q5, q6, q7, _, _, _, _, _, _, _, _⟩ := P0.out
  have HL := mkHid (hl.below HB.out)
  unfold maxLen at hn
  clear hl
  cases hT : btw t 1 4
  · go_enter Try.func6, Try.ntmps6
    go_wp2_with (first | (go_at_call 14; refine (between_any _ _ _ _).mono ?_; rintro f w1 ⟨rfl, rfl⟩))
    go_ret
    exact ⟨rfl, HB.out⟩
  · obtain ⟨q, hq⟩ : ∃ q : Bool, decide ((e, x, t) ∈ L) = q := ⟨_, rfl⟩
    have HQ := mkHid hq
    rw [hq]
    clear hq
    go_enter Try.func6, Try.ntmps6
    go_wp2_with (first | (go_at_call 14; refine (between_any _ _ _ _).mono ?_; rintro f w1 ⟨rfl, rfl⟩))
    try rw [hw0]
    have HX := mkHid hX
    clear hw0 hX q0 q1 q2 q3 q4 q5 q6 q7
    go_loopg [5] L.length (fun g s5 wr => ∃ (k : Nat), k ≤ L.length ∧ s5 = .int .i64 k ∧ L.length - k ≤ g ∧ (e, x, t) ∉ L.take k ∧ Below w0.heap.size w0 wr)
    case atStart => exact ⟨0, Nat.zero_le _, rfl, by omega, by simp, Below.refl _ _⟩
    case round =>
      obtain ⟨k, hk, rfl, hgk, htk, hbel⟩ := hrel
      have HT := mkHid htk
      have HB1 := mkHid hbel
      obtain ⟨q0, q1, q2, q3, q4, q5, q6, q7, _, _, _, _, _, _, _, _⟩ := P0.out.below hbel
      clear htk
      by_cases hlt : k < L.length
      · obtain ⟨y, hx⟩ : ∃ y, L[k]? = some y := ⟨_, List.getElem?_eq_getElem hlt⟩
        obtain ⟨bl, off, rfl, _, hq⟩ := (HL.out.below hbel).cons (by omega)
        obtain ⟨c0, c1, c2⟩ := get_a hq hx
        have HXX := mkHid hx
        clear hq hbel hx
        have i0 : (0 : Int) ≤ (k : Int) := by omega
        have i1 : (k : Int) < (L.length : Int) := by omega
        by_cases he : y = (e, x, t)
        · have HM : Hid (true = q) := mkHid (by rw [← HQ.out]; exact (decide_eq_true (by rw [← he]; exact List.mem_of_getElem? HXX.out)).symm)
          obtain ⟨y1, y2, y3⟩ := y
          obtain ⟨rfl, rfl, rfl⟩ : y1 = e ∧ y2 = x ∧ y3 = t := by simpa using he
          have m1 : (y1 == y1) = true := by simp
          have m2 : (y2 == y2) = true := by simp
          have m3 : (y3 == y3) = true := by simp
          clear he
          go_wp2
          go_quiet (fail)
          go_wp2
          go_ret
          exact ⟨by rw [← HM.out]; rfl, below_step HB.out ⟨HB1.out.os, HB1.out.tape, HB1.out.output, HB1.out.size, HB1.out.block⟩⟩
        · have HK : Hid ((e, x, t) ∉ L.take (k + 1)) := mkHid (by
            rw [List.take_add_one, HXX.out]
            simp only [List.mem_append, Option.toList_some, List.mem_singleton, not_or]
            exact ⟨HT.out, fun h => he h.symm⟩)
          obtain ⟨y1, y2, y3⟩ := y
          by_cases h1 : y1 = e
          · subst h1
            have m1 : (y1 == y1) = true := by simp
            by_cases h2 : y2 = x
            · subst h2
              have m2 : (y2 == y2) = true := by simp
              have m3 : (y3 == t) = false := by simp; exact fun h => he (by rw [h])
              clear he
              go_wp2
              go_quiet (fail)
              go_wp2
              go_roundg (L.length - (k + 1))
              case measure => omega
              case rel => exact ⟨k + 1, by omega, by go_num, Nat.le_refl _, HK.out, ⟨HB1.out.os, HB1.out.tape, HB1.out.output, HB1.out.size, HB1.out.block⟩⟩
            · have m2 : (y2 == x) = false := by simp; exact h2
              clear he h2
              go_wp2
              go_quiet (fail)
              go_wp2
              go_roundg (L.length - (k + 1))
              case measure => omega
              case rel => exact ⟨k + 1, by omega, by go_num, Nat.le_refl _, HK.out, ⟨HB1.out.os, HB1.out.tape, HB1.out.output, HB1.out.size, HB1.out.block⟩⟩
          · have m1 : (y1 == e) = false := by simp; exact h1
            clear he h1
            go_wp2
            go_quiet (fail)
            go_wp2
            go_roundg (L.length - (k + 1))
            case measure => omega
            case rel => exact ⟨k + 1, by omega, by go_num, Nat.le_refl _, HK.out, ⟨HB1.out.os, HB1.out.tape, HB1.out.output, HB1.out.size, HB1.out.block⟩⟩
      · have e' : k = L.length := by omega
        subst e'
        have HT2 : Hid (false = q) := mkHid (by rw [← HQ.out]; exact (decide_eq_false (by have h := HT.out; rw [List.take_length] at h; exact h)).symm)
        clear hbel
        go_wp2
        go_ret
        exact ⟨by rw [← HT2.out]; rfl, below_step HB.out HB1.out⟩
end Go.Proofs.Ytaekcmbjcfpigaa
