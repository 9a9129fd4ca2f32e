/-
  ROWS OF STRINGS: measured; all of them labels, on both sides.
-/
import Derived.Test.YthfiblldccnjcaaDoorSts
namespace Go.Proofs.YthfiblldccnjcaaDoor
open Go.RowKit

/-- A row that is not too long, of strings that are not. -/
def Fit (l : List ByteArray) (m : Nat) : Prop := l.length ≤ m ∧ ∀ (i : Nat) (x : ByteArray), l[i]? = some x → x.size ≤ m
set_option maxRecDepth 100000 in
set_option maxHeartbeats 1600000 in
theorem szStrS_any (l : List ByteArray) (a : Option Addr) (c : Nat) (w : World) (hn : l.length ≤ maxLen) (hl : StrsOf w l a) (hx : ∀ (i : Nat) (x : ByteArray), l[i]? = some x → x.size ≤ maxLen) :
    Calls Tryd.prog 5 #[.slice a l.length c, .int .i64 1048576] w fun e w' => ∃ r : Int, e = .returned (.int .i64 r) ∧ (0 ≤ r → Fit l 1048576) ∧ (r < 0 ∨ 0 ≤ r) ∧ w = w' := by
  have HL := mkHid hl
  have HX := mkHid hx
  clear hl hx
  unfold maxLen at hn
  have hw : IntKind.i64.wrap (1048576 - (l.length : Int)) = 1048576 - (l.length : Int) := IntWalk.i64_in _ ⟨by omega, by omega⟩
  by_cases h0 : (1048576 : Int) - (l.length : Int) < 0
  · go_enter Tryd.func5, Tryd.ntmps5
    go_wp2
    go_ret
    exact ⟨-1, rfl, fun h => by omega, .inl (by omega), rfl⟩
  · go_enter Tryd.func5, Tryd.ntmps5
    go_wp2
    go_loop [1, 5] (fun v i => ∃ (k : Nat) (r : Int), k ≤ l.length ∧ i = .int .i64 k ∧ v = .int .i64 r ∧ 0 ≤ r ∧ r ≤ 1048576 ∧ ∀ (j : Nat) (x : ByteArray), j < k → l[j]? = some x → x.size ≤ 1048576) (fun _ i => l.length - (RowKit.intOf i).toNat)
    case atStart => exact ⟨0, _, Nat.zero_le _, rfl, rfl, by omega, by omega, fun j x hj => by omega⟩
    case round =>
      obtain ⟨k, r, hk, rfl, rfl, hr0, hr1, hall⟩ := hrel
      have HA := mkHid hall
      clear hall hw
      by_cases hlt : k < l.length
      · obtain ⟨x, hx⟩ : ∃ x, l[k]? = some x := ⟨_, List.getElem?_eq_getElem hlt⟩
        obtain ⟨b, o, rfl, hl⟩ : ∃ b o, a = some ⟨b, o, none⟩ ∧ StrsIn w l b o := by
          rcases HL.out with h | h
          · subst h; simp at hlt
          · exact h
        have c1 := hl k x hx
        have hxs := HX.out k x hx
        unfold maxLen at hxs
        have HXX := mkHid hx
        clear hl hx
        have k2 : (0 : Int) ≤ (k : Int) := by omega
        have k3 : (k : Int) < (l.length : Int) := by omega
        have hw2 : IntKind.i64.wrap (r - (x.size : Int)) = r - (x.size : Int) := IntWalk.i64_in _ ⟨by omega, by omega⟩
        by_cases h1 : r - (x.size : Int) < 0
        · go_wp2
          go_ret
          exact ⟨-1, rfl, fun h => by omega, .inl (by omega), rfl⟩
        · go_wp2
          go_round
          case rel =>
            refine ⟨k + 1, _, by omega, by go_num, rfl, by omega, by omega, fun j y hj hy => ?_⟩
            rcases (by omega : j < k ∨ j = k) with h | rfl
            · exact HA.out j y h hy
            · rw [HXX.out] at hy; rw [← Option.some.inj hy]; omega
          case measure => simp [RowKit.intOf]; omega
      · have hlt' : ¬ (k : Int) < (l.length : Int) := by omega
        go_wp2
        go_ret
        exact ⟨r, rfl, fun _ => ⟨by omega, fun i x hi => HA.out i x (by have := (List.getElem?_eq_some_iff.1 hi).1; omega) hi⟩, .inr hr0, rfl⟩
def labsB (l : List ByteArray) : Bool := l.all labB
theorem labs_take {l : List ByteArray} {k : Nat} {x : ByteArray} (h : l[k]? = some x) (ht : (l.take k).all labB = true) (hx : labB x = true) : (l.take (k + 1)).all labB = true := by
  rw [List.take_add_one, h]; simp at ht ⊢; exact ⟨ht, hx⟩
theorem labs_no {l : List ByteArray} {k : Nat} {x : ByteArray} (h : l[k]? = some x) (hx : labB x = false) : labsB l = false := by
  unfold labsB
  cases q : l.all labB
  · rfl
  · have := List.all_eq_true.1 q x (List.mem_of_getElem? h); rw [hx] at this; cases this
set_option maxRecDepth 100000 in
set_option maxHeartbeats 800000 in
theorem areLabels_of (l : List ByteArray) (b off c : Nat) (w : World) (hF : Fit l 1048576) (hl : StrsIn w l b off) : Calls Tryd.prog 21 #[.slice (some ⟨b, off, none⟩) l.length c] w fun e w' => e = .returned (.bool (labsB l)) ∧ Below w.heap.size w w' := by
  have hn := hF.1
  have HF := mkHid hF
  have HL := mkHid hl
  clear hl hF
  go_enter Tryd.func21, Tryd.ntmps21
  go_wp2
  go_loopw [7, 4] (fun i z w' => ∃ (k : Nat), k ≤ l.length ∧ i = .int .i64 k ∧ (l.take k).all labB = true ∧ Below w.heap.size w w') (fun i _ _ => l.length - (RowKit.intOf i).toNat)
  case atStart => exact ⟨0, Nat.zero_le _, rfl, by simp, Below.refl _ _⟩
  case round =>
    obtain ⟨k, hk, rfl, hall, hbel⟩ := hrel
    have HA := mkHid hall
    have HB := mkHid hbel
    clear hall
    by_cases hlt : k < l.length
    · obtain ⟨x, hx⟩ : ∃ x, l[k]? = some x := ⟨_, List.getElem?_eq_getElem hlt⟩
      have c1 := (HL.out.below hbel) k x hx
      have HXX := mkHid hx
      have HS := mkHid (HF.out.2 k x hx)
      clear hx hbel
      have k2 : (0 : Int) ≤ (k : Int) := by omega
      have k3 : (k : Int) < (l.length : Int) := by omega
      cases hlb : labB x
      · have E := mkHid (show false = labsB l from (labs_no HXX.out hlb).symm)
        go_wp2_with fail
        refine (isLabel_any x _ HS.out).mono ?_
        rintro e w2 ⟨rfl, hb⟩
        rw [hlb]
        go_wp2
        go_ret
        exact ⟨ret_bool E.out, below_step HB.out hb⟩
      · go_wp2_with fail
        refine (isLabel_any x _ HS.out).mono ?_
        rintro e w2 ⟨rfl, hb⟩
        rw [hlb]
        have HB2 := mkHid (below_step HB.out hb)
        clear hb
        go_wp2
        go_roundw
        case rel => exact ⟨k + 1, by omega, by go_num, labs_take HXX.out HA.out hlb, HB2.out⟩
        case measure => simp [RowKit.intOf]; omega
    · have e : k = l.length := by omega
      have hlt' : ¬ (k : Int) < (l.length : Int) := by omega
      have E := mkHid (show true = labsB l by have := HA.out; rw [e, List.take_length] at this; exact this.symm)
      clear e
      go_wp2
      go_ret
      exact ⟨ret_bool E.out, HB.out⟩
end Go.Proofs.YthfiblldccnjcaaDoor
