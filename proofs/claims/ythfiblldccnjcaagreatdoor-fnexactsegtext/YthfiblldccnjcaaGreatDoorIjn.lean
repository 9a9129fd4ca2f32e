/-
  CONTRACTS: a label by the specification; rows of strings: taken over, compared, measured; all of them labels, on both sides.
  ROWS OF STRINGS: taken over, compared.
  ROWS OF STRINGS: measured; all of them labels, on both sides.
  CONTRACTS of both SymOks, and of taking a term over; the text of a term.
  CONTRACT of the program's joinOf, at every list of ranges.
  CONTRACTS of the program's RangeJoin, RangeLeq, RangeSub, RangeMul.
-/
import Derived.Test.YthfiblldccnjcaaGreatDoorLbw
import Derived.Deep.QuietTactic
import Derived.Deep.AppendLies
import Derived.Deep.Onto
import Derived.BigQuiet
import Derived.Test.YthfiblldccnjcaaGreatDoorVl
import Derived.Test.YthfiblldccnjcaaGreatDoorSy
namespace Go.Proofs.YthfiblldccnjcaaGreatDoor
open Go.RowKit
open Wd.Pl (nameB byt)

theorem u8_eq {x : UInt8} {n : Nat} (h : (x.toNat : Int) = n) (hn : n < 256) : x = UInt8.ofNat n := by
  apply UInt8.toNat_inj.1
  rw [UInt8.toNat_ofNat']
  omega
theorem lab_spec_yes {s : ByteArray} (h5 : 5 < s.size) (hp : ((s.extract 0 4).toList == [108, 101, 110, 40]) = true) (hl : ((((s[s.size - 1]'(by omega)).toNat : Nat) : Int) == 41) = true) : labB s = nameB (s.extract 4 (s.size - 1)) := by
  have e1 : Lib.hasPrefix s.data.toList lenL = true := by
    have e := beq_iff_eq.1 hp
    rw [ByteArray.toList_eq, Lib.extract_data] at e
    refine List.isPrefixOf_iff_prefix.2 ⟨s.data.toList.drop 4, ?_⟩
    have e2 : s.data.toList.take 4 = lenL := e
    rw [← e2, List.take_append_drop]
  have e2 : Lib.hasSuffix s.data.toList [41] = true := by
    have e3 : s[s.size - 1]'(by omega) = 41 := u8_eq (n := 41) (by simpa using hl) (by omega)
    have e4 := ba_get (u := s) (k := s.size - 1) (by omega)
    rw [e3] at e4
    have e5 : s.data.toList.getLast? = some 41 := by rw [List.getLast?_eq_getElem?, ba_len]; exact e4
    obtain ⟨z, hz⟩ := List.getLast?_eq_some_iff.1 e5
    exact List.isSuffixOf_iff_suffix.2 ⟨z, hz.symm⟩
  unfold labB
  rw [e1, e2, decide_eq_true h5]
  rfl
theorem lab_spec_no {s : ByteArray} (h : ¬ (5 < s.size ∧ ((s.extract 0 4).toList == [108, 101, 110, 40]) = true ∧ ∀ hk : s.size - 1 < s.size, ((((s[s.size - 1]'hk).toNat : Nat) : Int) == 41) = true)) : labB s = nameB s := by
  unfold labB
  split
  · rename_i hh
    simp only [Bool.and_eq_true, decide_eq_true_eq] at hh
    exfalso
    refine h ⟨hh.2.2, ?_, fun hk => ?_⟩
    · obtain ⟨q, hq⟩ := List.isPrefixOf_iff_prefix.1 hh.1
      rw [ByteArray.toList_eq, Lib.extract_data, ← hq]
      rfl
    · obtain ⟨z, hz⟩ := List.isSuffixOf_iff_suffix.1 hh.2.1
      have e5 : s.data.toList.getLast? = some 41 := by rw [← hz, List.getLast?_append]; rfl
      rw [List.getLast?_eq_getElem?, ba_len, ba_get hk] at e5
      rw [Option.some.inj e5]; rfl
  · rfl
set_option maxRecDepth 100000 in
set_option maxHeartbeats 800000 in
theorem sLabel_any (s : ByteArray) (w : World) (hs : s.size ≤ 1048576) : Calls Tryz.prog 35 #[.string s] w fun e w' => e = .returned (.bool (labB s)) ∧ Below w.heap.size w w' := by
  have hml : ∀ u : ByteArray, u.size ≤ 1048576 → u.size ≤ maxLen := fun u h => by unfold maxLen; omega
  by_cases h5 : 5 < s.size
  · have h5' : 5 < (s.size : Int) := by omega
    have hw : IntKind.i64.wrap ((s.size : Int) - 1) = ((s.size - 1 : Nat) : Int) := by rw [IntWalk.i64_in _ ⟨by omega, by omega⟩]; omega
    have h4 : 4 ≤ s.size := by omega
    have hk : s.size - 1 < s.size := by omega
    have hk4 : 4 ≤ s.size - 1 := by omega
    have hkl : s.size - 1 ≤ s.size := by omega
    cases hp : ((s.extract 0 4).toList == [108, 101, 110, 40])
    · have E := mkHid (show nameB s = labB s from (lab_spec_no (fun h => by rw [hp] at h; cases h.2.1)).symm)
      have HN := mkHid (hml s hs)
      clear hml
      go_enter Tryz.func35, Tryz.ntmps35
      go_wp2_with fail
      refine (Wd.sName_any s _ HN.out).mono ?_
      rintro e w2 ⟨rfl, hb⟩
      go_wp2
      go_ret
      exact ⟨ret_bool E.out, hb⟩
    · cases hl : ((((s[s.size - 1]'hk).toNat : Nat) : Int) == 41)
      · have E := mkHid (show nameB s = labB s from (lab_spec_no (fun h => by have := h.2.2 hk; rw [hl] at this; cases this)).symm)
        have HN := mkHid (hml s hs)
        clear hml
        go_enter Tryz.func35, Tryz.ntmps35
        go_wp2_with fail
        refine (Wd.sName_any s _ HN.out).mono ?_
        rintro e w2 ⟨rfl, hb⟩
        go_wp2
        go_ret
        exact ⟨ret_bool E.out, hb⟩
      · have E := mkHid (show nameB (s.extract 4 (s.size - 1)) = labB s from (lab_spec_yes h5 hp hl).symm)
        have HN := mkHid (hml (s.extract 4 (s.size - 1)) (by simp; omega))
        clear hml
        go_enter Tryz.func35, Tryz.ntmps35
        go_wp2_with fail
        refine (Wd.sName_any (s.extract 4 (s.size - 1)) _ HN.out).mono ?_
        rintro e w2 ⟨rfl, hb⟩
        go_wp2
        go_ret
        exact ⟨ret_bool E.out, hb⟩
  · have h5' : ¬ 5 < (s.size : Int) := by omega
    have E := mkHid (show nameB s = labB s from (lab_spec_no (fun h => h5 h.1)).symm)
    have HN := mkHid (hml s hs)
    clear hml
    go_enter Tryz.func35, Tryz.ntmps35
    go_wp2_with fail
    refine (Wd.sName_any s _ HN.out).mono ?_
    rintro e w2 ⟨rfl, hb⟩
    go_wp2
    go_ret
    exact ⟨ret_bool E.out, hb⟩
end Go.Proofs.YthfiblldccnjcaaGreatDoor
namespace Go.Proofs.YthfiblldccnjcaaGreatDoor
open Go.RowKit

def StrsIn (w : World) (l : List ByteArray) (b off : Nat) : Prop := ∀ (i : Nat) (x : ByteArray), l[i]? = some x → w.cell? ⟨b, off + i, none⟩ = some (.string x)
theorem StrsIn.below {w w' : World} {l : List ByteArray} {b off : Nat} (h : StrsIn w l b off) (hb : Below w.heap.size w w') : StrsIn w' l b off := fun i x hi => by
  have := h i x hi
  exact (hb.cell (p := ⟨b, off + i, none⟩) (World.block_lt_of_cell? w _ this)).trans this
def strs (l : List ByteArray) : List Value := l.map Value.string
theorem strs_len (l : List ByteArray) : (strs l).length = l.length := by simp [strs]
theorem strs_get {l : List ByteArray} {i : Nat} : (strs l)[i]? = (l[i]?).map Value.string := by simp [strs]
/-- A slice that came in, as strings. -/
def StrsOf (w : World) (l : List ByteArray) (a : Option Addr) : Prop := l = [] ∨ ∃ b o, a = some ⟨b, o, none⟩ ∧ StrsIn w l b o
theorem StrsOf.below {w w' : World} {l : List ByteArray} {a : Option Addr} (h : StrsOf w l a) (hb : Below w.heap.size w w') : StrsOf w' l a := by
  rcases h with h | ⟨b, o, e, h⟩
  · exact .inl h
  · exact .inr ⟨b, o, e, h.below hb⟩
theorem Tryz.info9 : (Tryz.prog.info? 9).map (fun i => (i.zero, i.size, i.bytes)) = some (some (.string ⟨#[]⟩), 1, 16) := by kernel_rfl
theorem values_s {xs : List Value} {l : List ByteArray} (hl : xs.length = l.length) (h : ∀ j, j < l.length → xs[j]? = (l[j]?).map Value.string) : xs = strs l := by
  apply List.ext_getElem?
  intro q
  by_cases hq : q < l.length
  · rw [h q hq, strs_get]
  · rw [List.getElem?_eq_none (by omega), List.getElem?_eq_none (by rw [strs_len]; omega)]

set_option maxRecDepth 100000 in
set_option maxHeartbeats 1600000 in
theorem toStrS_ok (l : List ByteArray) (a : Option Addr) (c : Nat) (w : World) (hn : l.length ≤ 1048576) (hl : StrsOf w l a) :
    Calls Tryz.prog 8 #[.slice a l.length c] w fun e w' => e = .returned (.slice (some ⟨w.heap.size, 0, none⟩) l.length l.length) ∧ StrsIn w' l w.heap.size 0 ∧ Below w.heap.size w w' := by
  obtain ⟨i0, hi, hz⟩ := Option.map_eq_some_iff.1 Tryz.info9
  simp only [Prod.mk.injEq] at hz
  obtain ⟨hz0, hz1, hz2⟩ := hz
  obtain ⟨w1, hmk, hown0, hg0⟩ := run_make_full (P := Tryz.prog) w w.heap.size 27 9 i0 _ 1 Tryz.underlying27 hi hz0 hz1 .i64 .i64 l.length (by rw [hz2]; omega) (by unfold maxLen; omega) (Nat.le_refl _)
  have HL := mkHid hl
  have HO := mkHid hown0
  have HG := mkHid (Below.grown (Below.refl w.heap.size w) hg0 (Nat.le_refl _) (fun k hk => by cases hk))
  clear hl hown0 hg0 hi hz0 hz1 hz2
  go_enter Tryz.func8, Tryz.ntmps8
  go_wp2
  go_loopw [4] (fun i w' => ∃ (k : Nat) (xs : List Value), k ≤ l.length ∧ i = .int .i64 k ∧ w'.ownsRow w.heap.size 9 1 (.slice (some ⟨w.heap.size, 0, none⟩) l.length l.length) l.length xs ∧ (∀ j, j < k → xs[j]? = (l[j]?).map Value.string) ∧ Below w.heap.size w w') (fun i _ => l.length - (RowKit.intOf i).toNat)
  case atStart => exact ⟨0, _, Nat.zero_le _, rfl, by simpa using HO.out, fun j hj => by omega, HG.out⟩
  case round =>
    obtain ⟨k, xs, hk, rfl, hown, hdone, hbel⟩ := hrel
    have HW := mkHid hown
    have HD := mkHid hdone
    have HB := mkHid hbel
    clear hown hdone hbel HO HG hmk
    by_cases hlt : k < l.length
    · obtain ⟨x, hx⟩ : ∃ x, l[k]? = some x := ⟨_, List.getElem?_eq_getElem hlt⟩
      obtain ⟨b, o, rfl, hl⟩ : ∃ b o, a = some ⟨b, o, none⟩ ∧ StrsIn w l b o := by
        rcases HL.out with h | h
        · subst h; simp at hlt
        · exact h
      have c1 := (hl.below HB.out) k x hx
      have hxl := HW.out.1
      obtain ⟨v0, c0⟩ : ∃ v, wr.cell? ⟨w.heap.size, k, none⟩ = some v := ⟨_, (HW.out.cellAt k (by omega)).trans (List.getElem?_eq_getElem (by omega))⟩
      have f0 := HW.out.frozenAt k
      have HX := mkHid hx
      clear hxl hx hl
      have k2 : (0 : Int) ≤ (k : Int) := by omega
      have k3 : (k : Int) < (l.length : Int) := by omega
      go_wp2
      go_roundw
      case rel =>
        have hs := HW.out.stored k (.string x)
        refine ⟨k + 1, _, by omega, by go_num, hs.1, fun q hq => ?_, HB.out.setCell (p := ⟨w.heap.size, k, none⟩) (Nat.le_refl _) _⟩
        have hml := HW.out.1
        rw [List.getElem?_set]
        rcases (by omega : q < k ∨ q = k) with h | rfl
        · rw [if_neg (by omega)]; exact HD.out q h
        · rw [if_pos rfl, if_pos (by omega), HX.out]; rfl
      case measure => simp [RowKit.intOf]; omega
    · have e : k = l.length := by omega
      subst e
      have hown := HW.out
      rw [values_s (by have := HW.out.1; omega) HD.out] at hown
      have HW := mkHid hown
      clear hown HD
      go_wp2
      go_ret
      refine ⟨rfl, fun i x hx => ?_, HB.out⟩
      have hi := (List.getElem?_eq_some_iff.1 hx).1
      have := World.ownsRow.cellAt HW.out i (by omega)
      rw [Nat.zero_add, this, strs_get, hx]; rfl
set_option maxRecDepth 100000 in
theorem toStrS_any (l : List ByteArray) (a : Option Addr) (c : Nat) (w : World) (hn : l.length ≤ 1048576) (hl : StrsOf w l a) :
    Calls Tryz.prog 8 #[.slice a l.length c] w fun e w' => ∃ g, e = .returned (.slice (some ⟨g, 0, none⟩) l.length l.length) ∧ StrsIn w' l g 0 ∧ Below w.heap.size w w' :=
  (toStrS_ok l a c w hn hl).mono fun _ _ h => ⟨_, h⟩
set_option maxRecDepth 100000 in
set_option maxHeartbeats 800000 in
theorem eqStrS_of (l : List ByteArray) (b off c b' off' c' : Nat) (w : World) (hn : l.length ≤ maxLen) (hl : StrsIn w l b off) (hl' : StrsIn w l b' off') :
    Calls Tryz.prog 11 #[.slice (some ⟨b, off, none⟩) l.length c, .slice (some ⟨b', off', none⟩) l.length c'] w fun e w' => e = .returned (.bool true) ∧ Below w.heap.size w w' := by
  unfold maxLen at hn
  have HL := mkHid hl
  have HL' := mkHid hl'
  clear hl hl'
  go_enter Tryz.func11, Tryz.ntmps11
  go_wp2
  go_loopw [5] (fun i w' => ∃ (k : Nat), k ≤ l.length ∧ i = .int .i64 k ∧ Below w.heap.size w w') (fun i _ => l.length - (RowKit.intOf i).toNat)
  case atStart => exact ⟨0, Nat.zero_le _, rfl, Below.refl _ _⟩
  case round =>
    obtain ⟨k, hk, rfl, hbel⟩ := hrel
    have HB := mkHid hbel
    by_cases hlt : k < l.length
    · obtain ⟨x, hx⟩ : ∃ x, l[k]? = some x := ⟨_, List.getElem?_eq_getElem hlt⟩
      have hc1 := (HL.out.below hbel) k x hx
      have hc2 := (HL'.out.below hbel) k x hx
      clear hx hbel
      have i0 : (0 : Int) ≤ (k : Int) := by omega
      have i1 : (k : Int) < (l.length : Int) := by omega
      go_wp2
      go_quiet (fail)
      go_wp2
      go_roundw
      case rel => exact ⟨k + 1, by omega, by go_num, Below.trans HB.out ⟨rfl, rfl, rfl, Nat.le_refl _, fun _ _ => rfl⟩⟩
      case measure => simp [RowKit.intOf]; omega
    · go_wp2
      go_ret
      exact ⟨rfl, HB.out⟩
end Go.Proofs.YthfiblldccnjcaaGreatDoor
namespace Go.Proofs.YthfiblldccnjcaaGreatDoor
open Go.RowKit

/-- A row that is not too long, of strings that are not. -/
def Fit (l : List ByteArray) (m : Nat) : Prop := l.length ≤ m ∧ ∀ (i : Nat) (x : ByteArray), l[i]? = some x → x.size ≤ m
set_option maxRecDepth 100000 in
set_option maxHeartbeats 1600000 in
theorem szStrS_any (l : List ByteArray) (a : Option Addr) (c : Nat) (w : World) (hn : l.length ≤ maxLen) (hl : StrsOf w l a) (hx : ∀ (i : Nat) (x : ByteArray), l[i]? = some x → x.size ≤ maxLen) :
    Calls Tryz.prog 5 #[.slice a l.length c, .int .i64 1048576] w fun e w' => ∃ r : Int, e = .returned (.int .i64 r) ∧ (0 ≤ r → Fit l 1048576) ∧ (r < 0 ∨ 0 ≤ r) ∧ w = w' := by
  have HL := mkHid hl
  have HX := mkHid hx
  clear hl hx
  unfold maxLen at hn
  have hw : IntKind.i64.wrap (1048576 - (l.length : Int)) = 1048576 - (l.length : Int) := IntWalk.i64_in _ ⟨by omega, by omega⟩
  by_cases h0 : (1048576 : Int) - (l.length : Int) < 0
  · go_enter Tryz.func5, Tryz.ntmps5
    go_wp2
    go_ret
    exact ⟨-1, rfl, fun h => by omega, .inl (by omega), rfl⟩
  · go_enter Tryz.func5, Tryz.ntmps5
    go_wp2
    go_loop [1, 5] (fun v i => ∃ (k : Nat) (r : Int), k ≤ l.length ∧ i = .int .i64 k ∧ v = .int .i64 r ∧ 0 ≤ r ∧ r ≤ 1048576 ∧ ∀ (j : Nat) (x : ByteArray), j < k → l[j]? = some x → x.size ≤ 1048576) (fun _ i => l.length - (RowKit.intOf i).toNat)
    case atStart => exact ⟨0, _, Nat.zero_le _, rfl, rfl, by omega, by omega, fun j x hj => by omega⟩
    case round =>
      obtain ⟨k, r, hk, rfl, rfl, hr0, hr1, hall⟩ := hrel
      have HA := mkHid hall
      clear hall hw
      by_cases hlt : k < l.length
      · obtain ⟨x, hx⟩ : ∃ x, l[k]? = some x := ⟨_, List.getElem?_eq_getElem hlt⟩
        obtain ⟨b, o, rfl, hl⟩ : ∃ b o, a = some ⟨b, o, none⟩ ∧ StrsIn w l b o := by
          rcases HL.out with h | h
          · subst h; simp at hlt
          · exact h
        have c1 := hl k x hx
        have hxs := HX.out k x hx
        unfold maxLen at hxs
        have HXX := mkHid hx
        clear hl hx
        have k2 : (0 : Int) ≤ (k : Int) := by omega
        have k3 : (k : Int) < (l.length : Int) := by omega
        have hw2 : IntKind.i64.wrap (r - (x.size : Int)) = r - (x.size : Int) := IntWalk.i64_in _ ⟨by omega, by omega⟩
        by_cases h1 : r - (x.size : Int) < 0
        · go_wp2
          go_ret
          exact ⟨-1, rfl, fun h => by omega, .inl (by omega), rfl⟩
        · go_wp2
          go_round
          case rel =>
            refine ⟨k + 1, _, by omega, by go_num, rfl, by omega, by omega, fun j y hj hy => ?_⟩
            rcases (by omega : j < k ∨ j = k) with h | rfl
            · exact HA.out j y h hy
            · rw [HXX.out] at hy; rw [← Option.some.inj hy]; omega
          case measure => simp [RowKit.intOf]; omega
      · have hlt' : ¬ (k : Int) < (l.length : Int) := by omega
        go_wp2
        go_ret
        exact ⟨r, rfl, fun _ => ⟨by omega, fun i x hi => HA.out i x (by have := (List.getElem?_eq_some_iff.1 hi).1; omega) hi⟩, .inr hr0, rfl⟩
def labsB (l : List ByteArray) : Bool := l.all labB
theorem labs_take {l : List ByteArray} {k : Nat} {x : ByteArray} (h : l[k]? = some x) (ht : (l.take k).all labB = true) (hx : labB x = true) : (l.take (k + 1)).all labB = true := by
  rw [List.take_add_one, h]; simp at ht ⊢; exact ⟨ht, hx⟩
theorem labs_no {l : List ByteArray} {k : Nat} {x : ByteArray} (h : l[k]? = some x) (hx : labB x = false) : labsB l = false := by
  unfold labsB
  cases q : l.all labB
  · rfl
  · have := List.all_eq_true.1 q x (List.mem_of_getElem? h); rw [hx] at this; cases this
set_option maxRecDepth 100000 in
set_option maxHeartbeats 800000 in
theorem areLabels_of (l : List ByteArray) (b off c : Nat) (w : World) (hF : Fit l 1048576) (hl : StrsIn w l b off) : Calls Tryz.prog 22 #[.slice (some ⟨b, off, none⟩) l.length c] w fun e w' => e = .returned (.bool (labsB l)) ∧ Below w.heap.size w w' := by
  have hn := hF.1
  have HF := mkHid hF
  have HL := mkHid hl
  clear hl hF
  go_enter Tryz.func22, Tryz.ntmps22
  go_wp2
  go_loopw [7, 4] (fun i z w' => ∃ (k : Nat), k ≤ l.length ∧ i = .int .i64 k ∧ (l.take k).all labB = true ∧ Below w.heap.size w w') (fun i _ _ => l.length - (RowKit.intOf i).toNat)
  case atStart => exact ⟨0, Nat.zero_le _, rfl, by simp, Below.refl _ _⟩
  case round =>
    obtain ⟨k, hk, rfl, hall, hbel⟩ := hrel
    have HA := mkHid hall
    have HB := mkHid hbel
    clear hall
    by_cases hlt : k < l.length
    · obtain ⟨x, hx⟩ : ∃ x, l[k]? = some x := ⟨_, List.getElem?_eq_getElem hlt⟩
      have c1 := (HL.out.below hbel) k x hx
      have HXX := mkHid hx
      have HS := mkHid (HF.out.2 k x hx)
      clear hx hbel
      have k2 : (0 : Int) ≤ (k : Int) := by omega
      have k3 : (k : Int) < (l.length : Int) := by omega
      cases hlb : labB x
      · have E := mkHid (show false = labsB l from (labs_no HXX.out hlb).symm)
        go_wp2_with fail
        refine (isLabel_any x _ HS.out).mono ?_
        rintro e w2 ⟨rfl, hb⟩
        rw [hlb]
        go_wp2
        go_ret
        exact ⟨ret_bool E.out, below_step HB.out hb⟩
      · go_wp2_with fail
        refine (isLabel_any x _ HS.out).mono ?_
        rintro e w2 ⟨rfl, hb⟩
        rw [hlb]
        have HB2 := mkHid (below_step HB.out hb)
        clear hb
        go_wp2
        go_roundw
        case rel => exact ⟨k + 1, by omega, by go_num, labs_take HXX.out HA.out hlb, HB2.out⟩
        case measure => simp [RowKit.intOf]; omega
    · have e : k = l.length := by omega
      have hlt' : ¬ (k : Int) < (l.length : Int) := by omega
      have E := mkHid (show true = labsB l by have := HA.out; rw [e, List.take_length] at this; exact this.symm)
      clear e
      go_wp2
      go_ret
      exact ⟨ret_bool E.out, HB.out⟩
set_option maxRecDepth 100000 in
set_option maxHeartbeats 800000 in
theorem sLabels_of (l : List ByteArray) (b off c : Nat) (w : World) (hF : Fit l 1048576) (hl : StrsIn w l b off) : Calls Tryz.prog 16 #[.slice (some ⟨b, off, none⟩) l.length c] w fun e w' => e = .returned (.bool (decide (l.length < 13) && labsB l)) ∧ Below w.heap.size w w' := by
  have hn := hF.1
  have HF := mkHid hF
  have HL := mkHid hl
  clear hl hF
  by_cases h13 : l.length < 13
  · have h13' : ¬ (13 : Int) ≤ (l.length : Int) := by omega
    rw [decide_eq_true h13, Bool.true_and]
    go_enter Tryz.func16, Tryz.ntmps16
    go_wp2
    go_loopw [3] (fun i w' => ∃ (k : Nat), k ≤ l.length ∧ i = .int .i64 k ∧ (l.take k).all labB = true ∧ Below w.heap.size w w') (fun i _ => l.length - (RowKit.intOf i).toNat)
    case atStart => exact ⟨0, Nat.zero_le _, rfl, by simp, Below.refl _ _⟩
    case round =>
      obtain ⟨k, hk, rfl, hall, hbel⟩ := hrel
      have HA := mkHid hall
      have HB := mkHid hbel
      clear hall
      by_cases hlt : k < l.length
      · obtain ⟨x, hx⟩ : ∃ x, l[k]? = some x := ⟨_, List.getElem?_eq_getElem hlt⟩
        have c1 := (HL.out.below hbel) k x hx
        have HXX := mkHid hx
        have HS := mkHid (HF.out.2 k x hx)
        clear hx hbel
        have k2 : (0 : Int) ≤ (k : Int) := by omega
        have k3 : (k : Int) < (l.length : Int) := by omega
        cases hlb : labB x
        · have E := mkHid (show false = labsB l from (labs_no HXX.out hlb).symm)
          go_wp2_with fail
          refine (sLabel_any x _ HS.out).mono ?_
          rintro e w2 ⟨rfl, hb⟩
          rw [hlb]
          go_wp2
          go_ret
          exact ⟨ret_bool E.out, below_step HB.out hb⟩
        · go_wp2_with fail
          refine (sLabel_any x _ HS.out).mono ?_
          rintro e w2 ⟨rfl, hb⟩
          rw [hlb]
          have HB2 := mkHid (below_step HB.out hb)
          clear hb
          go_wp2
          go_roundw
          case rel => exact ⟨k + 1, by omega, by go_num, labs_take HXX.out HA.out hlb, HB2.out⟩
          case measure => simp [RowKit.intOf]; omega
      · have e : k = l.length := by omega
        have hlt' : ¬ (k : Int) < (l.length : Int) := by omega
        have E := mkHid (show true = labsB l by have := HA.out; rw [e, List.take_length] at this; exact this.symm)
        clear e
        go_wp2
        go_ret
        exact ⟨ret_bool E.out, HB.out⟩
  · have h13' : (13 : Int) ≤ (l.length : Int) := by omega
    rw [decide_eq_false h13, Bool.false_and]
    go_enter Tryz.func16, Tryz.ntmps16
    go_wp2
    go_ret
    exact ⟨rfl, Below.refl _ _⟩
end Go.Proofs.YthfiblldccnjcaaGreatDoor
namespace Go.Proofs.YthfiblldccnjcaaGreatDoor
open Go.RowKit

def nmAt (l : List ByteArray) (v : Int) : ByteArray := l.getD (v - 1).toNat ⟨#[]⟩
def symT (l : List ByteArray) (v c : Int) : ByteArray := if v = 0 then dI c else if c = 0 then nmAt l v else if c < 0 then (nmAt l v ++ ⟨#[32, 45, 32]⟩) ++ dI (-c) else (nmAt l v ++ ⟨#[32, 43, 32]⟩) ++ dI c
def symOk2 (l : List ByteArray) (v c : Int) : Bool := labsB l && symOkB ((l.length : Int) + 1) v c
def textS (l : List ByteArray) (v c : Int) : ByteArray := if symOk2 l v c then symT l v c else ⟨#[]⟩
theorem btw_iff {a lo hi : Int} : btw a lo hi = true ↔ lo ≤ a ∧ a ≤ hi := by unfold btw; simp
theorem symOk_iff {n v c : Int} : symOkB n v c = true ↔ (1 ≤ n ∧ n ≤ 13) ∧ (0 ≤ v ∧ v ≤ n - 1) ∧ -1000 ≤ c ∧ c ≤ 1000 := by unfold symOkB; rw [Bool.and_eq_true, Bool.and_eq_true, btw_iff, btw_iff, btw_iff]
theorem nmAt_get {l : List ByteArray} {v : Int} (h1 : 1 ≤ v) (h2 : v ≤ l.length) : ∃ k : Nat, v - 1 = (k : Int) ∧ k < l.length ∧ l[k]? = some (nmAt l v) := by
  refine ⟨(v - 1).toNat, by omega, by omega, ?_⟩
  unfold nmAt
  rw [List.getD_eq_getElem?_getD, List.getElem?_eq_getElem (by omega)]
  rfl
end Go.Proofs.YthfiblldccnjcaaGreatDoor
namespace Go.Proofs.YthfiblldccnjcaaGreatDoor
open Go.RowKit
attribute [local go_sem] nlt2 nlt3 nlt4 nle2 nle3 nle4 drew_size drew_cell drew_frozen

def joinStep (j r : Int × Int) : Int × Int := if eqB r.1 r.2 1 0 then j else if eqB j.1 j.2 1 0 then r else (min j.1 r.1, max j.2 r.2)
def joinL (l : List (Int × Int)) : Int × Int := l.foldl joinStep (1, 0)
theorem joinL_take {l : List (Int × Int)} {k : Nat} {r : Int × Int} (h : l[k]? = some r) : joinL (l.take (k + 1)) = joinStep (joinL (l.take k)) r := by
  unfold joinL; rw [List.take_add_one, h, List.foldl_append]; rfl
/-- Ranges that lie in a row. -/
def RngsAt (w : World) (l : List (Int × Int)) (b off : Nat) : Prop := ∀ (i : Nat) (r : Int × Int), l[i]? = some r → w.cell? ⟨b, off + i * 2, none⟩ = some (.int .i64 r.1) ∧ w.cell? ⟨b, off + i * 2 + 1, none⟩ = some (.int .i64 r.2)
theorem RngsAt.below {w w' : World} {l : List (Int × Int)} {b off : Nat} (h : RngsAt w l b off) (hb : Below w.heap.size w w') : RngsAt w' l b off := fun i r hi => by
  obtain ⟨h0, h1⟩ := h i r hi
  exact ⟨(hb.cell (p := ⟨b, off + i * 2, none⟩) (World.block_lt_of_cell? w _ h0)).trans h0, (hb.cell (p := ⟨b, off + i * 2 + 1, none⟩) (World.block_lt_of_cell? w _ h1)).trans h1⟩

end Go.Proofs.YthfiblldccnjcaaGreatDoor
namespace Go.Proofs.YthfiblldccnjcaaGreatDoor
open Go.RowKit
attribute [local go_sem] nlt2 nlt3 nlt4 nle2 nle3 nle4 drew_size drew_cell drew_frozen

theorem eq_none {a b : Int} : eqB a b 1 0 = true ↔ a = 1 ∧ b = 0 := by unfold eqB; simp
theorem eq_not {a b : Int} : eqB a b 1 0 = false ↔ ¬ (a = 1 ∧ b = 0) := by unfold eqB; simp
theorem ok_eq {a b : Int} (h : okB a b = true) : isB a b = !eqB a b 1 0 := by
  have := ok_iff.1 h
  cases h1 : eqB a b 1 0
  · have := eq_not.1 h1
    exact is_iff.2 (by omega)
  · have := eq_none.1 h1
    cases h2 : isB a b
    · rfl
    · have := is_iff.1 h2; omega
theorem joinL2 {a b c d : Int} (h1 : okB a b = true) (h2 : okB c d = true) : joinL [(a, b), (c, d)] = joinM a b c d := by
  have e1 := ok_eq h1
  have e2 := ok_eq h2
  have n : eqB 1 0 1 0 = true := by decide
  unfold joinM
  rw [h1, h2, e1, e2]
  show joinStep (joinStep (1, 0) (a, b)) (c, d) = _
  cases h3 : eqB a b 1 0
  · have s : joinStep (1, 0) (a, b) = (a, b) := by simp [joinStep, h3, n]
    rw [s]
    cases h4 : eqB c d 1 0 <;> simp [joinStep, h3, h4]
  · have s : joinStep (1, 0) (a, b) = (1, 0) := by simp [joinStep, h3]
    have q := eq_none.1 h3
    rw [s]
    cases h4 : eqB c d 1 0
    · simp [joinStep, n, h4]
    · have := eq_none.1 h4
      simp [joinStep, this]
theorem leq_join {a b c d : Int} (h1 : okB a b = true) (h2 : okB c d = true) : leqB a b c d = eqB (joinL [(a, b), (c, d)]).1 (joinL [(a, b), (c, d)]).2 c d := by
  have i1 := ok_iff.1 h1
  have i2 := ok_iff.1 h2
  rw [joinL2 h1 h2]
  unfold leqB joinM
  rw [h1, h2]
  cases h3 : isB a b
  · simp [eqB]
  · have k3 := is_iff.1 h3
    cases h4 : isB c d
    · have k4 : ¬ c ≤ d := fun h => by rw [is_iff.2 h] at h4; cases h4
      rw [Bool.eq_iff_iff]
      simp [eqB]
      omega
    · have k4 := is_iff.1 h4
      rw [Bool.eq_iff_iff]
      simp [eqB]
      omega
theorem joinL4 (p q r s : Int) : joinL [(p, p), (q, q), (r, r), (s, s)] = (min (min p q) (min r s), max (max p q) (max r s)) := by
  have e : ∀ x : Int, eqB x x 1 0 = false := fun x => eq_not.2 (by omega)
  have n : eqB 1 0 1 0 = true := by decide
  have t : ∀ x y z : Int, x ≤ y → joinStep (x, y) (z, z) = (min x z, max y z) := fun x y z h => by
    have : eqB x y 1 0 = false := eq_not.2 (by omega)
    simp [joinStep, e, this]
  show joinStep (joinStep (joinStep (joinStep (1, 0) (p, p)) (q, q)) (r, r)) (s, s) = _
  have s0 : joinStep (1, 0) (p, p) = (p, p) := by simp [joinStep, e, n]
  rw [s0, t p p q (by omega), t (min p q) (max p q) r (by omega), t (min (min p q) r) (max (max p q) r) s (by omega)]
  refine Prod.ext ?_ ?_ <;> (simp only; omega)

theorem sub_add (a b c d : Int) : addM a b (negM c d).1 (negM c d).2 = subM a b c d := by
  unfold addM subM negM bothB
  cases h1 : someB a b
  · simp
  · cases h2 : someB c d
    · simp; intro h; have := some_iff.1 h; omega
    · have q := some_iff.1 h2
      have : someB (-d) (-c) = true := some_iff.2 (by omega)
      simp only [if_true, this, Bool.and_self]
      rw [show a + -d = a - d by omega, show b + -c = b - c by omega]
end Go.Proofs.YthfiblldccnjcaaGreatDoor
