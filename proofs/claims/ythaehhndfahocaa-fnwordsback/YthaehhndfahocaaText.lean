/-
  CONTRACTS of WordsText, the specification's and the program's.
-/
import Derived.Test.YthaehhndfahocaaBuild
import Derived.Test.YthaehhndfahocaaShelf
namespace Go.Proofs.Ythaehhndfahocaa
open Go.RowKit
open Pl

def okW (x : W3) : Bool := wordB x.k x.s x.a
/-- The bytes of the first k words, blanks between. -/
def joinN (ws : List W3) : Nat → List UInt8
  | 0 => []
  | k + 1 => match ws[k]? with
    | some x => (if 0 < k then joinN ws k ++ [32] else joinN ws k) ++ x.s.data.toList
    | none => joinN ws k
def textB (ws : List W3) : Bool := decide (ws.length ≤ 1500) && ws.all okW && decide ((joinN ws ws.length).length ≤ 4000)
def textOf (ws : List W3) : ByteArray := if textB ws then ⟨(joinN ws ws.length).toArray⟩ else ⟨#[]⟩
def Small (ws : List W3) : Prop := ws.length ≤ 1048576 ∧ ∀ x ∈ ws, x.s.size ≤ 1048576

theorem joinN_zero {ws : List W3} {x : W3} (h : ws[0]? = some x) : joinN ws 1 = x.s.data.toList := by simp [joinN, h]
theorem joinN_succ {ws : List W3} {k : Nat} {x : W3} (h : ws[k]? = some x) (hk : 0 < k) : joinN ws (k + 1) = joinN ws k ++ [32] ++ x.s.data.toList := by simp [joinN, h, hk]
theorem joinN_mono (ws : List W3) (k n : Nat) (h : k ≤ n) : (joinN ws k).length ≤ (joinN ws n).length := by
  induction n with
  | zero => have : k = 0 := by omega
            subst this; exact Nat.le_refl _
  | succ n ih =>
    by_cases e : k = n + 1
    · subst e; exact Nat.le_refl _
    · refine Nat.le_trans (ih (by omega)) ?_
      simp only [joinN]
      split
      · split <;> simp <;> omega
      · exact Nat.le_refl _
theorem text_bad {ws : List W3} {k : Nat} {x : W3} (h : ws[k]? = some x) (hx : okW x = false) : textOf ws = ⟨#[]⟩ := by
  have : textB ws = false := by
    unfold textB
    have : ws.all okW = false := by
      rw [List.all_eq_false]
      exact ⟨x, List.mem_of_getElem? h, by simp [hx]⟩
    simp [this]
  simp [textOf, this]
theorem text_many {ws : List W3} (h : 1500 < ws.length) : textOf ws = ⟨#[]⟩ := by
  have : textB ws = false := by
    unfold textB
    have : ¬ ws.length ≤ 1500 := by omega
    simp [this]
  simp [textOf, this]
theorem text_long {ws : List W3} {k : Nat} (hk : k ≤ ws.length) (h : 4000 < (joinN ws k).length) : textOf ws = ⟨#[]⟩ := by
  have hm := joinN_mono ws k ws.length hk
  have : textB ws = false := by
    unfold textB
    have : ¬ (joinN ws ws.length).length ≤ 4000 := by omega
    simp [this]
  simp [textOf, this]
theorem text_good {ws : List W3} (h1 : ws.length ≤ 1500) (h2 : ∀ j x, j < ws.length → ws[j]? = some x → okW x = true) (h3 : (joinN ws ws.length).length ≤ 4000) : textOf ws = ⟨(joinN ws ws.length).toArray⟩ := by
  have : textB ws = true := by
    unfold textB
    have : ws.all okW = true := by
      rw [List.all_eq_true]
      intro x hx
      obtain ⟨j, hj, e⟩ := List.getElem_of_mem hx
      exact h2 j x hj (by rw [List.getElem?_eq_getElem hj, e])
    simp [this, h1, h3]
  simp [textOf, this]
theorem ret_str {a b : ByteArray} (h : a = b) : Ending.returned (.string a) = .returned (.string b) := by rw [h]
theorem arr_of {o : ByteArray} {l : List UInt8} (h : o.data.toList = l) : o = ⟨l.toArray⟩ := by rw [← h, Lib.mk_data]
theorem size_of {o : ByteArray} {l : List UInt8} (h : o.data.toList = l) : o.size = l.length := by rw [Lib.size_eq, h]

set_option maxHeartbeats 1000000 in
theorem sText_any (ws : List W3) (b off cap : Nat) (w : World) (hsm : Small ws) (hl : Lies w b off ws) :
    Calls Try.prog 10 #[.slice (some ⟨b, off, none⟩) ws.length cap] w fun e w' => e = .returned (.string (textOf ws)) ∧ Below w.heap.size w w' := by
  have hn := hsm.1
  have HL := mkHid hl
  have HS := mkHid hsm.2
  clear hl hsm
  by_cases h : 1500 < (ws.length : Int)
  · have HT := mkHid (text_many (ws := ws) (by omega))
    go_enter Try.func10, Try.ntmps10
    go_wp2
    go_ret
    exact ⟨ret_str HT.out.symm, Below.refl _ _⟩
  · go_enter Try.func10, Try.ntmps10
    go_wp2
    go_loopw [3, 4] (fun o i w' => ∃ (k : Nat) (t : ByteArray), k ≤ ws.length ∧ i = .int .i64 k ∧ o = .string t ∧ t.data.toList = joinN ws k ∧ t.size ≤ 4000 ∧ (∀ j x, j < k → ws[j]? = some x → okW x = true) ∧ Below w.heap.size w w') (fun _ i _ => ws.length - (intOf i).toNat)
    case atStart => exact ⟨0, _, Nat.zero_le _, rfl, rfl, rfl, by decide, fun j x hj => by omega, Below.refl _ _⟩
    case round =>
      obtain ⟨k, t, hk, rfl, rfl, htj, ht4, hall, hbel⟩ := hrel
      have HJ := mkHid htj
      have HA := mkHid hall
      have HB := mkHid hbel
      clear htj hall hbel
      by_cases hlt : k < ws.length
      · obtain ⟨x, hx⟩ : ∃ x, ws[k]? = some x := ⟨_, List.getElem?_eq_getElem hlt⟩
        have HX := mkHid hx
        obtain ⟨hc0, hc1, hc2⟩ := HL.out.below HB.out k x hx
        have hxs := HS.out x (List.mem_of_getElem? hx)
        clear hx
        have i0 : (0 : Int) ≤ (k : Int) := by omega
        go_wp2_with fail
        refine (sWordOk_any x.k x.s x.a _ (by unfold maxLen; omega)).mono ?_
        rintro e w1 ⟨rfl, hb1⟩
        have HB1 := mkHid (HB.out.trans (hb1.mono HB.out.size))
        obtain ⟨hd0, hd1, hd2⟩ := HL.out.below HB1.out k x HX.out
        clear hb1 hc0 hc1 hc2
        by_cases hok : wordB x.k x.s x.a = true
        · have HA1 : Hid (∀ j y, j < k + 1 → ws[j]? = some y → okW y = true) := fun j y hj hy => by
            rcases (by omega : j < k ∨ j = k) with h | rfl
            · exact HA.out j y h hy
            · have := HX.out.symm.trans hy
              simp only [Option.some.injEq] at this
              subst this
              exact hok
          by_cases hk0 : 0 < (k : Int)
          · have HJ1 : Hid ((t ++ ⟨#[32]⟩ ++ x.s).data.toList = joinN ws (k + 1)) := by
              show _ = _
              rw [joinN_succ HX.out (by omega), ← HJ.out]; simp
            have HZ : Hid ((joinN ws (k + 1)).length = t.size + 1 + x.s.size) := by
              show _ = _
              rw [joinN_succ HX.out (by omega), ← HJ.out]
              simp only [List.length_append, List.length_cons, List.length_nil, ← Lib.size_eq]
            have HE : Hid ((t ++ ⟨#[32]⟩ ++ x.s).size = t.size + 1 + x.s.size) := by
              show _ = _
              rw [size_of HJ1.out]; exact HZ.out
            by_cases hbig : 4000 < (t.size : Int) + 1 + (x.s.size : Int)
            · have HT := mkHid (text_long (ws := ws) (k := k + 1) (by omega) (by rw [HZ.out]; omega))
              clear HJ HJ1 HZ HE
              go_wp2
              go_ret
              exact ⟨ret_str HT.out.symm, HB1.out⟩
            · clear HJ
              go_wp2
              go_roundw
              case rel => exact ⟨k + 1, _, by omega, by go_num, rfl, HJ1.out, by rw [HE.out]; omega, HA1.out, HB1.out⟩
              case measure => simp [intOf]; omega
          · have HK : Hid (k = 0) := show k = 0 by omega
            have HJ1 : Hid ((t ++ x.s).data.toList = joinN ws (k + 1)) := by
              show _ = _
              have hx := HX.out
              have hj := HJ.out
              have e : k = 0 := HK.out
              subst e
              rw [joinN_zero hx]
              simp only [joinN] at hj
              simp [hj]
            have HE : Hid ((t ++ x.s).size = t.size + x.s.size) := by
              show _ = _
              simp
            by_cases hbig : 4000 < (t.size : Int) + (x.s.size : Int)
            · have HT := mkHid (text_long (ws := ws) (k := k + 1) (by omega) (by rw [← size_of HJ1.out, HE.out]; omega))
              clear HJ HJ1 HE HK
              go_wp2
              go_ret
              exact ⟨ret_str HT.out.symm, HB1.out⟩
            · clear HJ HK
              go_wp2
              go_roundw
              case rel => exact ⟨k + 1, _, by omega, by go_num, rfl, HJ1.out, by rw [HE.out]; omega, HA1.out, HB1.out⟩
              case measure => simp [intOf]; omega
        · simp only [Bool.not_eq_true] at hok
          have HT := mkHid (text_bad HX.out hok)
          go_wp2
          go_ret
          exact ⟨ret_str HT.out.symm, HB1.out⟩
      · have HT := mkHid (show textOf ws = t by
          have e : k = ws.length := by omega
          subst e
          rw [text_good (by omega) HA.out (by rw [← size_of HJ.out]; exact ht4)]
          exact (arr_of HJ.out).symm)
        go_wp2
        go_ret
        exact ⟨ret_str HT.out.symm, HB.out⟩
end Go.Proofs.Ythaehhndfahocaa
