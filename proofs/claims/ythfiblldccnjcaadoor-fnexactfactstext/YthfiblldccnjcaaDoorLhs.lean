/-
  FOR THE LAW: rows of strings measured from any number on; a row of strings that came in.
-/
import Derived.Test.YthfiblldccnjcaaDoorFts
import Derived.Test.YthfiblldccnjcaaDoorLh
import Derived.Test.YthfiblldccnjcaaDoorLo
import Derived.SliceStrings
namespace Go.Proofs.YthfiblldccnjcaaDoor
open Go.ChangeShapes Go.WideShapes Go.ChangeAt Go.RowKit Go.Joins Go.Deep

set_option maxRecDepth 100000 in
set_option maxHeartbeats 1600000 in
theorem szStrL_any (l : List ByteArray) (a : Option Addr) (c : Nat) (left : Int) (w : World) (q0 : 0 ≤ left) (q1 : left ≤ 1048576) (hn : l.length ≤ maxLen) (hl : StrsOf w l a) (hx : ∀ (i : Nat) (x : ByteArray), l[i]? = some x → x.size ≤ maxLen) :
    Calls Tryd.prog 5 #[.slice a l.length c, .int .i64 left] w fun e w' => ∃ r : Int, e = .returned (.int .i64 r) ∧ (0 ≤ r → Fit l 1048576) ∧ (r < 0 ∨ 0 ≤ r) ∧ w = w' := by
  have HL := mkHid hl
  have HX := mkHid hx
  clear hl hx
  unfold maxLen at hn
  have hw : IntKind.i64.wrap (left - (l.length : Int)) = left - (l.length : Int) := IntWalk.i64_in _ ⟨by omega, by omega⟩
  by_cases h0 : left - (l.length : Int) < 0
  · go_enter Tryd.func5, Tryd.ntmps5
    go_wp2
    go_ret
    exact ⟨-1, rfl, fun h => by omega, .inl (by omega), rfl⟩
  · go_enter Tryd.func5, Tryd.ntmps5
    go_wp2
    go_loop [1, 5] (fun v i => ∃ (k : Nat) (r : Int), k ≤ l.length ∧ i = .int .i64 k ∧ v = .int .i64 r ∧ 0 ≤ r ∧ r ≤ 1048576 ∧ ∀ (j : Nat) (x : ByteArray), j < k → l[j]? = some x → x.size ≤ 1048576) (fun _ i => l.length - (RowKit.intOf i).toNat)
    case atStart => exact ⟨0, _, Nat.zero_le _, rfl, rfl, by omega, by omega, fun j x hj => by omega⟩
    case round =>
      obtain ⟨k, r, hk, rfl, rfl, hr0, hr1, hall⟩ := hrel
      have HA := mkHid hall
      clear hall hw
      by_cases hlt : k < l.length
      · obtain ⟨x, hx⟩ : ∃ x, l[k]? = some x := ⟨_, List.getElem?_eq_getElem hlt⟩
        obtain ⟨b, o, rfl, hl⟩ : ∃ b o, a = some ⟨b, o, none⟩ ∧ StrsIn w l b o := by
          rcases HL.out with h | h
          · subst h; simp at hlt
          · exact h
        have c1 := hl k x hx
        have hxs := HX.out k x hx
        unfold maxLen at hxs
        have HXX := mkHid hx
        clear hl hx
        have k2 : (0 : Int) ≤ (k : Int) := by omega
        have k3 : (k : Int) < (l.length : Int) := by omega
        have hw2 : IntKind.i64.wrap (r - (x.size : Int)) = r - (x.size : Int) := IntWalk.i64_in _ ⟨by omega, by omega⟩
        by_cases h1 : r - (x.size : Int) < 0
        · go_wp2
          go_ret
          exact ⟨-1, rfl, fun h => by omega, .inl (by omega), rfl⟩
        · go_wp2
          go_round
          case rel =>
            refine ⟨k + 1, _, by omega, by go_num, rfl, by omega, by omega, fun j y hj hy => ?_⟩
            rcases (by omega : j < k ∨ j = k) with h | rfl
            · exact HA.out j y h hy
            · rw [HXX.out] at hy; rw [← Option.some.inj hy]; omega
          case measure => simp [RowKit.intOf]; omega
      · have hlt' : ¬ (k : Int) < (l.length : Int) := by omega
        go_wp2
        go_ret
        exact ⟨r, rfl, fun _ => ⟨by omega, fun i x hi => HA.out i x (by have := (List.getElem?_eq_some_iff.1 hi).1; omega) hi⟩, .inr hr0, rfl⟩
/-- A row of strings that came in. -/
theorem open_row {H : Type} {enc : TypeId × Value → H} {W : World} {a : Option Addr} {len cap : Nat} {x : DataW H} {p : List MemPlace} (h : DataW.Trod enc Tryd.prog W 0 (fun _ => true) true 25 (.slice a len cap) x p) : ∃ l : List ByteArray, len = l.length ∧ l.length ≤ maxLen ∧ StrsOf W l a ∧ ∀ (i : Nat) (x : ByteArray), l[i]? = some x → x.size ≤ maxLen := by
  obtain ⟨fuel, hf⟩ := h
  rcases open_strings Tryd.underlying25 Tryd.underlying9 (by kernel_rfl) hf with ⟨hcs, _⟩ | ⟨ad, ln, c, ss, hcs, _, hl, hm, hz, _, hcell, hsz⟩
  · simp [Value.cells] at hcs
    exact ⟨[], by simpa using hcs.2.1, by unfold maxLen; simp, .inl rfl, fun i x hx => by simp at hx⟩
  · simp [Value.cells] at hcs
    obtain ⟨rfl, rfl, rfl⟩ := hcs
    have hzl : ss.length = cap := by simpa using hz
    refine ⟨ss.take len, by simp; omega, by simp; omega, ?_, fun i x hx => hsz x (List.mem_of_mem_take (List.mem_of_getElem? hx))⟩
    by_cases h0 : len = 0
    · exact .inl (by rw [h0]; simp)
    · obtain ⟨b, off, spot⟩ := ad
      have hspot : spot = none := by simpa [Addr.add] using World.cell?_spot (hcell 0 (by omega))
      subst hspot
      refine .inr ⟨b, off, rfl, fun i y hy => ?_⟩
      have hi : i < len := by have := (List.getElem?_eq_some_iff.1 hy).1; simp at this; omega
      have hc := hcell i (by omega)
      rw [Go.WideShapes.add_plain] at hc
      rw [hc]
      rw [List.getElem?_take, if_pos hi] at hy
      rw [List.getD_eq_getElem?_getD, hy]; rfl
end Go.Proofs.YthfiblldccnjcaaDoor
