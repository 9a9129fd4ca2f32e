/-
  CONTRACT of toWordS: it lays the words anew, in a block of its own.
-/
import Derived.Test.YthaehhndfahocaaRow
namespace Go.Proofs.Ythaehhndfahocaa
open Go.RowKit
open Pl

/-- The cells of a list of words. -/
def flat (ws : List W3) : List Value := ws.flatMap fun x => [.int .i64 x.k, .string x.s, .int .i64 x.a]
theorem flat_length (ws : List W3) : (flat ws).length = ws.length * 3 := by
  induction ws with
  | nil => rfl
  | cons x ws ih =>
    have : flat (x :: ws) = [.int .i64 x.k, .string x.s, .int .i64 x.a] ++ flat ws := rfl
    rw [this]
    simp only [List.length_append, List.length_cons, List.length_nil, ih]
    omega
theorem flat_append (a b : List W3) : flat (a ++ b) = flat a ++ flat b := by simp [flat]
theorem three_parts {l : List Value} {n m : Nat} (h : l.length = m) (hn : n + 3 ≤ m) : ∃ p a b c r, l = p ++ a :: b :: c :: r ∧ p.length = n := by
  have h1 : n < l.length := by omega
  have h2 : n + 1 < l.length := by omega
  have h3 : n + 1 + 1 < l.length := by omega
  refine ⟨l.take n, l[n], l[n + 1], l[n + 1 + 1], l.drop (n + 1 + 1 + 1), ?_, by simp; omega⟩
  rw [← List.drop_eq_getElem_cons h3, ← List.drop_eq_getElem_cons h2, ← List.drop_eq_getElem_cons h1, List.take_append_drop]
theorem flat_step {ws : List W3} {k : Nat} {x : W3} (hx : ws[k]? = some x) {xs : List Value} (hlen : xs.length = ws.length * 3) (h : xs.take (k * 3) = flat (ws.take k)) :
    (((xs.set (k * 3) (.int .i64 x.k)).set (k * 3 + 1) (.string x.s)).set (k * 3 + 1 + 1) (.int .i64 x.a)).take ((k + 1) * 3) = flat (ws.take (k + 1)) := by
  obtain ⟨hk, hx'⟩ := List.getElem?_eq_some_iff.1 hx
  obtain ⟨p, a, b, c, r, rfl, hp⟩ := three_parts (n := k * 3) hlen (by omega)
  rw [List.take_left' hp] at h
  rw [List.take_succ_eq_append_getElem hk, flat_append, ← h, hx']
  have e1 : (k + 1) * 3 = p.length + 3 := by omega
  rw [e1]
  have s1 : (p ++ a :: b :: c :: r).set (k * 3) (.int .i64 x.k) = p ++ .int .i64 x.k :: b :: c :: r := by
    rw [← hp]; simp
  rw [s1]
  have s2 : (p ++ .int .i64 x.k :: b :: c :: r).set (k * 3 + 1) (.string x.s) = p ++ .int .i64 x.k :: .string x.s :: c :: r := by
    rw [← hp]; simp
  rw [s2]
  have s3 : (p ++ .int .i64 x.k :: .string x.s :: c :: r).set (k * 3 + 1 + 1) (.int .i64 x.a) = p ++ .int .i64 x.k :: .string x.s :: .int .i64 x.a :: r := by
    rw [← hp, List.set_append_right _ _ (by omega), show p.length + 1 + 1 - p.length = 2 by omega]; rfl
  rw [s3, List.take_length_add_append]
  simp [flat]
theorem flat_get {ws : List W3} {k : Nat} {x : W3} (hx : ws[k]? = some x) : (flat ws)[k * 3]? = some (.int .i64 x.k) ∧ (flat ws)[k * 3 + 1]? = some (.string x.s) ∧ (flat ws)[k * 3 + 2]? = some (.int .i64 x.a) := by
  obtain ⟨hk, hx'⟩ := List.getElem?_eq_some_iff.1 hx
  have e : ws = ws.take k ++ x :: ws.drop (k + 1) := by
    rw [← hx', ← List.drop_eq_getElem_cons hk, List.take_append_drop]
  have hl : (flat (ws.take k)).length = k * 3 := by rw [flat_length]; simp; omega
  have e2 : flat ws = flat (ws.take k) ++ (.int .i64 x.k :: .string x.s :: .int .i64 x.a :: flat (ws.drop (k + 1))) := by
    conv => lhs; rw [e]
    rw [flat_append]; rfl
  rw [e2]
  refine ⟨?_, ?_, ?_⟩
  · rw [List.getElem?_append_right (by omega), hl]; simp
  · rw [List.getElem?_append_right (by omega), hl, show k * 3 + 1 - k * 3 = 1 by omega]; rfl
  · rw [List.getElem?_append_right (by omega), hl, show k * 3 + 2 - k * 3 = 2 by omega]; rfl
/-- A row of our own holds the words. -/
theorem lies_of_row {w : World} {base e g cap : Nat} {ws : List W3} (h : w.ownsRow base e 3 (.slice (some ⟨g, 0, none⟩) ws.length cap) ws.length (flat ws)) : Lies w g 0 ws := fun i x hx => by
  obtain ⟨hi, _⟩ := List.getElem?_eq_some_iff.1 hx
  obtain ⟨f0, f1, f2⟩ := flat_get hx
  rw [Nat.zero_add]
  exact ⟨(h.cellAt (i * 3) (by omega)).trans f0, (h.cellAt (i * 3 + 1) (by omega)).trans f1, (h.cellAt (i * 3 + 2) (by omega)).trans f2⟩

theorem Try.info32 : (Try.prog.info? 32).map (fun i => (i.zero, i.size, i.bytes)) = some (some (.agg #[.int .i64 0, .string ByteArray.empty, .int .i64 0]), 3, 32) := by kernel_rfl
theorem owns_below {w w' : World} {base e size n : Nat} {v : Value} {xs : List Value} (h : w.ownsRow base e size v n xs) (hb : Below w.heap.size w w') : w'.ownsRow base e size v n xs :=
  h.kept (row := none) ⟨hb.os, hb.tape, hb.output, hb.size, fun k hk _ => hb.block k hk⟩ (by cases v.ownBlock <;> simp)

set_option maxHeartbeats 400000 in
theorem toWordS_any (ws : List W3) (b off cap : Nat) (w : World) (hn : ws.length ≤ 1048576) (hl : Lies w b off ws) :
    Calls Try.prog 23 #[.slice (some ⟨b, off, none⟩) ws.length cap] w fun e w' => e = .returned (.slice (some ⟨w.heap.size, 0, none⟩) ws.length ws.length) ∧
      w'.ownsRow w.heap.size 32 3 (.slice (some ⟨w.heap.size, 0, none⟩) ws.length ws.length) ws.length (flat ws) ∧ Below w.heap.size w w' := by
  obtain ⟨i0, hi, hz⟩ := Option.map_eq_some_iff.1 Try.info32
  simp only [Prod.mk.injEq] at hz
  obtain ⟨hz0, hz1, hz2⟩ := hz
  obtain ⟨w1, hmk, hown0, hg0⟩ := run_make_full (P := Try.prog) w w.heap.size 24 32 i0 _ 3 Try.underlying24 hi hz0 hz1 .i64 .i64 ws.length (by rw [hz2]; omega) (by unfold maxLen; omega) (Nat.le_refl _)
  have HL := mkHid hl
  have HO := mkHid hown0
  have HG := mkHid (Below.grown (Below.refl w.heap.size w) hg0 (Nat.le_refl _) (fun k hk => by cases hk))
  clear hl hown0 hg0 hi hz0 hz1 hz2
  go_enter Try.func23, Try.ntmps23
  go_wp2
  go_loopw [4] (fun i w' => ∃ (k : Nat) (xs : List Value), k ≤ ws.length ∧ i = .int .i64 k ∧ w'.ownsRow w.heap.size 32 3 (.slice (some ⟨w.heap.size, 0, none⟩) ws.length ws.length) ws.length xs ∧ xs.take (k * 3) = flat (ws.take k) ∧ Below w.heap.size w w') (fun i _ => ws.length - (intOf i).toNat)
  case atStart => exact ⟨0, _, Nat.zero_le _, rfl, HO.out, by simp [flat], HG.out⟩
  case round =>
    obtain ⟨k, xs, hk, rfl, hown, htake, hbel⟩ := hrel
    have HW := mkHid hown
    have HT := mkHid htake
    have HB := mkHid hbel
    clear hown htake hbel HO HG hmk
    by_cases hlt : k < ws.length
    · obtain ⟨x, hx⟩ : ∃ x, ws[k]? = some x := ⟨_, List.getElem?_eq_getElem hlt⟩
      obtain ⟨hc0, hc1, hc2⟩ := HL.out.below HB.out k x hx
      have HX := mkHid hx
      clear hx
      go_wp2_with fail
      refine (toWord_any x.k x.s x.a _).mono ?_
      rintro e w2 ⟨rfl, hb2⟩
      have HW2 := mkHid (owns_below HW.out hb2)
      have HB2 := mkHid (HB.out.trans (hb2.mono HB.out.size))
      clear hb2 hc0 hc1 hc2
      have hxl := HW2.out.1
      obtain ⟨v0, c0⟩ : ∃ v, w2.cell? ⟨w.heap.size, k * 3, none⟩ = some v := ⟨_, (HW2.out.cellAt (k * 3) (by omega)).trans (List.getElem?_eq_getElem (by omega))⟩
      obtain ⟨v1, c1⟩ : ∃ v, w2.cell? ⟨w.heap.size, k * 3 + 1, none⟩ = some v := ⟨_, (HW2.out.cellAt (k * 3 + 1) (by omega)).trans (List.getElem?_eq_getElem (by omega))⟩
      obtain ⟨v2, c2⟩ : ∃ v, w2.cell? ⟨w.heap.size, k * 3 + 1 + 1, none⟩ = some v := ⟨_, (HW2.out.cellAt (k * 3 + 1 + 1) (by omega)).trans (List.getElem?_eq_getElem (by omega))⟩
      clear hxl
      have f0 := HW2.out.frozenAt (k * 3)
      have f1 := HW2.out.frozenAt (k * 3 + 1)
      have f2 := HW2.out.frozenAt (k * 3 + 1 + 1)
      go_wp2
      go_roundw
      case rel =>
        exact ⟨k + 1, _, by omega, by go_num, ((((HW2.out.stored (k * 3) _).1).stored (k * 3 + 1) _).1.stored (k * 3 + 2) _).1, flat_step HX.out HW2.out.1 HT.out,
          ((HB2.out.setCell (p := ⟨w.heap.size, k * 3, none⟩) (Nat.le_refl _) _).setCell (p := ⟨w.heap.size, k * 3 + 1, none⟩) (Nat.le_refl _) _).setCell (p := ⟨w.heap.size, k * 3 + 2, none⟩) (Nat.le_refl _) _⟩
      case measure => simp [intOf]; omega
    · go_wp2
      go_ret
      have e : k = ws.length := by omega
      subst e
      have hx : xs = flat ws := by
        have h1 := HW.out.1
        have h2 := HT.out
        rw [List.take_of_length_le (by omega), List.take_length] at h2
        exact h2
      subst hx
      exact ⟨rfl, HW.out, HB.out⟩
end Go.Proofs.Ythaehhndfahocaa
