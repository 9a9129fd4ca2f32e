/-
  PLAIN FACTS on words (no Go in sight): what a key word, a sign, a name and a number are, as functions on bytes.
  CONTRACTS of the leaves: isKey, isSign, isLetter, isDigit of the program; l01Letter, l01Digit, l01Between of the specification.
  CONTRACTS of the program's isName, isNum, kindOf, WordOk.
  CONTRACTS of the program's kindOf and WordOk.
  CONTRACTS of the specification's l01Has, l01Key, l01Sign, l01Name, l01Number, l01Kind.
  CONTRACTS of the specification's l01Name, l01Number, l01Kind.
  CONTRACTS of the specification's l01Number, l01Kind.
  TREES IN MEMORY: what it means that a slice holds a list of trees; that this stays so where what they lie in stays as it was.
  CONTRACTS of szNode and szNodeS: what is left of a number, by the tree's bulk.
-/
import Derived.Laws.RangeAny
import Derived.Lib.Strings
import Derived.Test.YtedfnadgmhjojaaGreatDoorRows
import Derived.WalkKit
import Derived.WalkSpells
import Derived.WalkLawsBesides
import Derived.Deep.RegionHeld3
import Derived.Deep.RegionWith
import Derived.Below
namespace Go.Proofs.YtedfnadgmhjojaaGreatDoor
namespace Pl

/-- The key words. -/
def keys : List (List UInt8) := [[97, 114, 114, 97, 121], [99, 104, 101, 99, 107], [101, 108, 115, 101], [102, 111, 114], [102, 114, 111, 109], [105, 102], [108, 101, 110], [114, 101, 97, 100], [115, 107, 105, 112], [115, 116, 111, 112], [116, 111], [118, 97, 114], [119, 104, 105, 108, 101]]
/-- The signs. -/
def signs : List (List UInt8) := [[43], [45], [42], [40], [41], [91], [93], [123], [125], [59], [61], [60], [62], [63], [61, 61], [33, 61], [60, 61], [62, 61]]

def keyB (s : ByteArray) : Bool := keys.contains s.toList
def signB (s : ByteArray) : Bool := signs.contains s.toList

/-- A letter, a digit, told of a number. -/
def lowI (r : Int) : Bool := decide (97 ≤ r) && decide (r ≤ 122)
def digI (r : Int) : Bool := decide (48 ≤ r) && decide (r ≤ 57)
theorem low_iff (r : Int) : lowI r = true ↔ 97 ≤ r ∧ r ≤ 122 := by unfold lowI; simp
theorem dig_iff (r : Int) : digI r = true ↔ 48 ≤ r ∧ r ≤ 57 := by unfold digI; simp
theorem low_not (r : Int) : lowI r = false ↔ ¬ (97 ≤ r ∧ r ≤ 122) := by rw [← low_iff]; simp
theorem dig_not (r : Int) : digI r = false ↔ ¬ (48 ≤ r ∧ r ≤ 57) := by rw [← dig_iff]; simp

/-- The byte at a place, 0 past the end; as a number. -/
def byt (s : ByteArray) (k : Nat) : Int := if h : k < s.size then ((s[k]'h).toNat : Int) else 0
theorem byt_eq (s : ByteArray) (k : Nat) (h : k < s.size) : byt s k = ((s[k]'h).toNat : Int) := dif_pos h
/-- What may stand at a place of a name. -/
def nameAt (s : ByteArray) (k : Nat) : Prop := lowI (byt s k) = true ∨ (k ≠ 0 ∧ digI (byt s k) = true)
def nameAtD (s : ByteArray) (k : Nat) : Decidable (nameAt s k) := by unfold nameAt; infer_instance
def nameP (s : ByteArray) : Prop := 1 ≤ s.size ∧ s.size ≤ 8 ∧ keyB s = false ∧ ∀ k, k < s.size → nameAt s k
def namePD (s : ByteArray) : Decidable (nameP s) := by
 have := nameAtD s
 unfold nameP; infer_instance
def nameB (s : ByteArray) : Bool := @decide (nameP s) (namePD s)

/-- The number that the first k bytes are. -/
def val (s : ByteArray) : Nat → Int
 | 0 => 0
 | k + 1 => 10 * val s k + byt s k - 48
def numP (s : ByteArray) : Prop := 1 ≤ s.size ∧ (∀ k, k < s.size → digI (byt s k) = true) ∧ (1 < s.size → byt s 0 ≠ 48) ∧ val s s.size ≤ 1000000
def numPD (s : ByteArray) : Decidable (numP s) := by unfold numP; infer_instance
def numB (s : ByteArray) : Bool := @decide (numP s) (numPD s)
def numV (s : ByteArray) : Int := if numB s then val s s.size else -1

theorem val_nonneg (s : ByteArray) (k : Nat) (h : ∀ j, j < k → digI (byt s j) = true) : 0 ≤ val s k := by
 induction k with
 | zero => simp [val]
 | succ k ih =>
   have h1 := ih (fun j hj => h j (by omega))
   have h2 := (dig_iff _).1 (h k (by omega))
   simp only [val]; omega
theorem val_mono (s : ByteArray) (k n : Nat) (hk : k ≤ n) (h : ∀ j, j < n → digI (byt s j) = true) : val s k ≤ val s n := by
 induction n with
 | zero => have : k = 0 := by omega
           subst this; exact Int.le_refl _
 | succ n ih =>
   by_cases e : k = n + 1
   ·subst e; exact Int.le_refl _
   ·have h1 := ih (by omega) (fun j hj => h j (by omega))
    have h0 := val_nonneg s n (fun j hj => h j (by omega))
    have h2 := (dig_iff _).1 (h n (by omega))
    simp only [val]; omega
theorem val_long (s : ByteArray) (n : Nat) (hn : 8 ≤ n) (h : ∀ j, j < n → digI (byt s j) = true) (h0 : byt s 0 ≠ 48) : 1000000 < val s n := by
 have m := val_mono s 8 n hn h
 have d0 := (dig_iff _).1 (h 0 (by omega))
 have d1 := (dig_iff _).1 (h 1 (by omega))
 have d2 := (dig_iff _).1 (h 2 (by omega))
 have d3 := (dig_iff _).1 (h 3 (by omega))
 have d4 := (dig_iff _).1 (h 4 (by omega))
 have d5 := (dig_iff _).1 (h 5 (by omega))
 have d6 := (dig_iff _).1 (h 6 (by omega))
 have d7 := (dig_iff _).1 (h 7 (by omega))
 simp only [val] at m
 omega
theorem numV_yes {s : ByteArray} (h : numB s = true) : numV s = val s s.size ∧ 0 ≤ numV s := by
 have hp : numP s := by simpa [numB] using h
 have : numV s = val s s.size := by simp [numV, h]
 exact ⟨this, by rw [this]; exact val_nonneg s _ hp.2.1⟩
theorem numV_no {s : ByteArray} (h : numB s = false) : numV s = -1 := by simp [numV, h]

/-- The kind of a word, 0 when it is none. -/
def kindI (s : ByteArray) : Int := if keyB s then 4 else if nameB s then 1 else if numB s then 2 else if signB s then 3 else 0

theorem toList_byt {s : ByteArray} {c : UInt8} {l : List UInt8} (h : s.toList = c :: l) : byt s 0 = (c.toNat : Int) ∧ 1 ≤ s.size := by
 have hd : s.data.toList = c :: l := by rw [← h]; exact (Lib.toList_data s).symm
 have hz : 0 < s.size := by
  have e := Lib.size_eq s
  rw [hd] at e
  simp only [List.length_cons] at e
  omega
 refine ⟨?_, hz⟩
 rw [byt_eq s 0 hz]
 have : s[0]'hz = c := by
  show s.data[0] = c
  rw [← Array.getElem_toList]
  simp only [hd, List.getElem_cons_zero]
 rw [this]

theorem key_low {s : ByteArray} (h : keyB s = true) : lowI (byt s 0) = true ∧ 1 ≤ s.size := by
 unfold keyB keys at h
 simp only [List.contains_cons, Bool.or_eq_true, beq_iff_eq, List.contains_nil, Bool.false_eq_true, or_false] at h
 rcases h with h | h | h | h | h | h | h | h | h | h | h | h | h <;>
  (obtain ⟨e, e'⟩ := toList_byt h; refine ⟨?_, e'⟩; rw [e]; rfl)
theorem sign_not_low {s : ByteArray} (h : signB s = true) : lowI (byt s 0) = false := by
 unfold signB signs at h
 simp only [List.contains_cons, Bool.or_eq_true, beq_iff_eq, List.contains_nil, Bool.false_eq_true, or_false] at h
 rcases h with h | h | h | h | h | h | h | h | h | h | h | h | h | h | h | h | h | h <;>
  (obtain ⟨e, _⟩ := toList_byt h; rw [e]; rfl)
theorem name_not_key {s : ByteArray} (h : nameB s = true) : keyB s = false := by
 have hp : nameP s := by simpa [nameB] using h
 exact hp.2.2.1
theorem num_not_key {s : ByteArray} (h : numB s = true) : keyB s = false := by
 have hp : numP s := by simpa [numB] using h
 have h0 := (dig_iff _).1 (hp.2.1 0 (by have := hp.1; omega))
 by_cases k : keyB s = true
 ·have := (low_iff _).1 (key_low k).1
  omega
 ·simpa using k
theorem sign_not_key {s : ByteArray} (h : signB s = true) : keyB s = false := by
 have h0 := sign_not_low h
 by_cases k : keyB s = true
 ·rw [(key_low k).1] at h0; cases h0
 ·simpa using k
/-- The program asks in another order. -/
theorem kindI_eq (s : ByteArray) : kindI s = if nameB s then 1 else if numB s then 2 else if signB s then 3 else if keyB s then 4 else 0 := by
 unfold kindI
 by_cases h1 : nameB s = true
 ·simp [h1, name_not_key h1]
 ·by_cases h2 : numB s = true
  ·simp [h1, h2, num_not_key h2]
  ·by_cases h3 : signB s = true
   ·simp [h1, h2, h3, sign_not_key h3]
   ·by_cases h4 : keyB s = true <;> simp [h1, h2, h3, h4]

/-- What a round of 'range' over a string gives. -/
theorem next_rune {P : Program} (w : World) (s : ByteArray) (pos : Nat) (h : pos < s.size) : ∃ r d : Nat,
    (∀ ty, (Instr.next (.pointer (some ⟨w.heap.size, 0, none⟩)) true ty).run P (w.iter s pos) = .ok (.tuple #[.bool true, .int .i64 pos, .int .i32 r]) (w.iter s (pos + d))) ∧ 1 ≤ d ∧
    lowI r = lowI (byt s pos) ∧ digI r = digI (byt s pos) ∧ (byt s pos < 128 → r = byt s pos ∧ d = 1) := by
 have hb := byt_eq s pos h
 by_cases ha : (s[pos]'h).toNat < 128
 ·refine ⟨(s[pos]'h).toNat, 1, fun ty => run_next_ascii w s pos ty h ha, Nat.le_refl _, ?_, ?_, ?_⟩
  ·rw [hb]
  ·rw [hb]
  ·intro _; exact ⟨hb.symm, rfl⟩
 ·have hd := decode_high s pos h (by omega)
  refine ⟨(Utf8.decode s pos).1, (Utf8.decode s pos).2, fun ty => run_next_any w s pos ty h, hd.2, ?_, ?_, ?_⟩
  ·rw [(low_not _).2 (by omega), (low_not _).2 (by omega)]
  ·rw [(dig_not _).2 (by omega), (dig_not _).2 (by omega)]
  ·intro; omega

end Pl
end Go.Proofs.YtedfnadgmhjojaaGreatDoor
namespace Go.Proofs.YtedfnadgmhjojaaGreatDoor
open Go.RowKit
open Pl

theorem ret_bool {a b : Bool} (h : a = b) : Ending.returned (.bool a) = .returned (.bool b) := by rw [h]
theorem ret_int {k : IntKind} {a b : Int} (h : a = b) : Ending.returned (.int k a) = .returned (.int k b) := by rw [h]

set_option maxRecDepth 100000 in
theorem isLetter_any (r : Int) (w : World) : Calls Tryz.prog 109 #[.int .i32 r] w fun e w' => e = .returned (.bool (lowI r)) ∧ w = w' := by
 unfold lowI
 go_enter Tryz.func109, Tryz.ntmps109
 go_wp2
 all_goals (go_ret; exact ⟨ret_bool (by simp_all <;> omega), rfl⟩)
set_option maxRecDepth 100000 in
theorem isDigit_any (r : Int) (w : World) : Calls Tryz.prog 110 #[.int .i32 r] w fun e w' => e = .returned (.bool (digI r)) ∧ w = w' := by
 unfold digI
 go_enter Tryz.func110, Tryz.ntmps110
 go_wp2
 all_goals (go_ret; exact ⟨ret_bool (by simp_all <;> omega), rfl⟩)
set_option maxRecDepth 100000 in
theorem sLetter_any (r : Int) (w : World) : Calls Tryz.prog 111 #[.int .u8 r] w fun e w' => e = .returned (.bool (lowI r)) ∧ w = w' := by
 unfold lowI
 go_enter Tryz.func111, Tryz.ntmps111
 go_wp2
 all_goals (go_ret; exact ⟨ret_bool (by simp_all <;> omega), rfl⟩)
set_option maxRecDepth 100000 in
theorem sDigit_any (r : Int) (w : World) : Calls Tryz.prog 113 #[.int .u8 r] w fun e w' => e = .returned (.bool (digI r)) ∧ w = w' := by
 unfold digI
 go_enter Tryz.func113, Tryz.ntmps113
 go_wp2
 all_goals (go_ret; exact ⟨ret_bool (by simp_all <;> omega), rfl⟩)
set_option maxRecDepth 100000 in
set_option maxHeartbeats 400000 in
theorem isKey_any (s : ByteArray) (w : World) : Calls Tryz.prog 108 #[.string s] w fun e w' => e = .returned (.bool (keyB s)) ∧ w = w' := by
 unfold keyB keys
 go_enter Tryz.func108, Tryz.ntmps108
 go_wp2
 all_goals (go_ret; exact ⟨ret_bool (by simp_all <;> omega), rfl⟩)

set_option maxRecDepth 100000 in
set_option maxHeartbeats 800000 in
theorem isSign_any (s : ByteArray) (w : World) : Calls Tryz.prog 124 #[.string s] w fun e w' => e = .returned (.bool (signB s)) ∧ w = w' := by
 unfold signB signs
 go_enter Tryz.func124, Tryz.ntmps124
 go_wp2
 all_goals (go_ret; exact ⟨ret_bool (by simp_all <;> omega), rfl⟩)

end Go.Proofs.YtedfnadgmhjojaaGreatDoor
namespace Go.Proofs.YtedfnadgmhjojaaGreatDoor
open Go.RowKit
open Pl

theorem mkHid {p : Prop} (h : p) : Hid p := h
theorem below_iter (w : World) (s : ByteArray) (pos : Nat) : Below w.heap.size w (w.iter s pos) := (Below.refl _ _).alloc (Nat.le_refl _) _
theorem nameB_of {s : ByteArray} {b : Bool} (h : nameP s ↔ b = true) : nameB s = b := by
 unfold nameB
 by_cases p : nameP s
 ·simp [p, h.1 p]
 ·have : b = false := by cases b <;> simp_all
  simp [p, this]
theorem numB_of {s : ByteArray} {b : Bool} (h : numP s ↔ b = true) : numB s = b := by
 unfold numB
 by_cases p : numP s
 ·simp [p, h.1 p]
 ·have : b = false := by cases b <;> simp_all
  simp [p, this]

set_option maxRecDepth 100000 in
set_option maxHeartbeats 400000 in
theorem isName_any (s : ByteArray) (w : World) (hs : s.size ≤ maxLen) : Calls Tryz.prog 74 #[.string s] w fun e w' => e = .returned (.bool (nameB s)) ∧ Below w.heap.size w w' := by
 unfold maxLen at hs
 by_cases h8 : 8 < s.size
 ·go_enter Tryz.func74, Tryz.ntmps74
  go_wp2
  go_ret
  exact ⟨ret_bool (nameB_of (by unfold nameP; simp; omega)).symm, Below.refl _ _⟩
 ·by_cases hk : keyB s = true
  ·go_enter Tryz.func74, Tryz.ntmps74
   go_wp2_with (go_at_call 108; refine (isKey_any _ _).mono ?_; rintro e w' ⟨rfl, rfl⟩)
   go_ret
   exact ⟨ret_bool (nameB_of (by unfold nameP; simp [hk])).symm, Below.refl _ _⟩
  ·simp only [Bool.not_eq_true] at hk
   go_enter Tryz.func74, Tryz.ntmps74
   go_wp2_with (go_at_call 108; refine (isKey_any _ _).mono ?_; rintro e w' ⟨rfl, rfl⟩)
   go_loopw [3] (fun _ w' => ∃ pos : Nat, w' = w.iter s pos ∧ pos ≤ s.size ∧ ∀ k, k < pos → nameAt s k) (fun _ w' => s.size - w'.iterPos w.heap.size)
   case atStart => exact ⟨0, rfl, Nat.zero_le _, fun k hk => by omega⟩
   case round =>
    obtain ⟨pos, rfl, hps, hall⟩ := hrel
    by_cases hp : pos < s.size
    ·obtain ⟨r, d, hnx0, hd1, hl, hg, hr⟩ := next_rune (P := Tryz.prog) w s pos hp
     have hnx := hnx0
     clear hnx0
     by_cases g1 : lowI r = true
     ·have hd : d = 1 := (hr (by rw [hl, low_iff] at g1; omega)).2
      subst hd
      have hA : nameAt s pos := .inl (by rw [← hl]; exact g1)
      clear hr hg
      have HL : Hid (lowI r = lowI (byt s pos)) := hl
      clear hl
      go_wp2_with (first | (go_at_call 109; refine (isLetter_any _ _).mono ?_; rintro e w' ⟨rfl, rfl⟩) | (go_at_call 110; refine (isDigit_any _ _).mono ?_; rintro e w' ⟨rfl, rfl⟩))
      go_roundw
      case rel => exact ⟨pos + 1, rfl, by omega, fun k hk => by rcases (by omega : k < pos ∨ k = pos) with h | rfl; exact hall k h; exact hA⟩
      case measure => simp; omega
     ·simp only [Bool.not_eq_true] at g1
      by_cases g2 : pos ≠ 0 ∧ digI r = true
      ·obtain ⟨g2, g3⟩ := g2
       have hz : ((pos : Int) == 0) = false := by simp; omega
       have hd : d = 1 := (hr (by rw [hg, dig_iff] at g3; omega)).2
       subst hd
       have hA : nameAt s pos := .inr ⟨g2, by rw [← hg]; exact g3⟩
       clear hr hl hg
       go_wp2_with (first | (go_at_call 109; refine (isLetter_any _ _).mono ?_; rintro e w' ⟨rfl, rfl⟩) | (go_at_call 110; refine (isDigit_any _ _).mono ?_; rintro e w' ⟨rfl, rfl⟩))
       go_roundw
       case rel => exact ⟨pos + 1, rfl, by omega, fun k hk => by rcases (by omega : k < pos ∨ k = pos) with h | rfl; exact hall k h; exact hA⟩
       case measure => simp; omega
      ·have hno : nameB s = false := nameB_of (by
         unfold nameP nameAt
         simp only [Bool.false_eq_true, iff_false]
         rintro ⟨_, _, _, hq⟩
         have := hq pos hp
         rw [← hl, ← hg, g1] at this
         simp at this
         exact g2 this)
       clear hl hg hr
       by_cases g3 : pos = 0
       ·have hz : ((pos : Int) == 0) = true := by simp; omega
        clear g2 g3
        go_wp2_with (first | (go_at_call 109; refine (isLetter_any _ _).mono ?_; rintro e w' ⟨rfl, rfl⟩) | (go_at_call 110; refine (isDigit_any _ _).mono ?_; rintro e w' ⟨rfl, rfl⟩))
        go_ret
        exact ⟨ret_bool hno.symm, below_iter _ _ _⟩
       ·have hz : ((pos : Int) == 0) = false := by simp; omega
        have g4 : digI r = false := by
         by_cases q : digI r = true
         ·exact absurd ⟨g3, q⟩ g2
         ·simpa using q
        clear g2
        go_wp2_with (first | (go_at_call 109; refine (isLetter_any _ _).mono ?_; rintro e w' ⟨rfl, rfl⟩) | (go_at_call 110; refine (isDigit_any _ _).mono ?_; rintro e w' ⟨rfl, rfl⟩))
        go_ret
        exact ⟨ret_bool hno.symm, below_iter _ _ _⟩
    ·have hnx : ∀ ty, (Instr.next (.pointer (some ⟨w.heap.size, 0, none⟩)) true ty).run Tryz.prog (w.iter s pos) = _ := fun ty => run_next_end w s pos ty hp
     have hq : nameB s = !s.toList.isEmpty := nameB_of (by
      unfold nameP
      have : s.toList = [] ↔ s.size = 0 := by rw [Lib.toList_data, Lib.size_eq]; exact List.length_eq_zero_iff.symm
      simp only [Bool.not_eq_true', List.isEmpty_eq_false_iff, ne_eq, this]
      exact ⟨fun h => by omega, fun h => ⟨by omega, by omega, hk, fun k hk' => hall k (by omega)⟩⟩)
     go_wp2
     go_ret
     exact ⟨ret_bool hq.symm, below_iter _ _ _⟩

theorem numB_zero {s : ByteArray} {pos : Nat} (hp : pos < s.size) (h1 : 1 ≤ pos) (hv : val s pos = 0) (h2 : 2 ≤ pos → 10 ≤ val s pos ∧ byt s 0 ≠ 48) : numB s = false := numB_of (by
 unfold numP
 simp only [Bool.false_eq_true, iff_false]
 rintro ⟨_, _, hz, _⟩
 have e : pos = 1 := by
  by_cases q : 2 ≤ pos
  ·have := h2 q; omega
  ·omega
 subst e
 simp only [val] at hv
 have := hz (by omega)
 omega)

set_option maxRecDepth 100000 in
set_option maxHeartbeats 400000 in
theorem isNum_any (s : ByteArray) (w : World) (hs : s.size ≤ maxLen) : Calls Tryz.prog 123 #[.string s] w fun e w' => e = .returned (.bool (numB s)) ∧ Below w.heap.size w w' := by
 unfold maxLen at hs
 go_enter Tryz.func123, Tryz.ntmps123
 go_wp2
 go_loopw [3, 4] (fun n _ w' => ∃ pos : Nat, w' = w.iter s pos ∧ pos ≤ s.size ∧ n = .int .i64 (val s pos) ∧ (∀ k, k < pos → digI (byt s k) = true) ∧ 0 ≤ val s pos ∧ val s pos ≤ 1000000 ∧ (2 ≤ pos → 10 ≤ val s pos ∧ byt s 0 ≠ 48)) (fun _ _ w' => s.size - w'.iterPos w.heap.size)
 case atStart => exact ⟨0, rfl, Nat.zero_le _, rfl, fun k hk => by omega, by simp [val], by simp [val], by omega⟩
 case round =>
  obtain ⟨pos, rfl, hps, rfl, hall, hv0, hv1, hv2⟩ := hrel
  by_cases hp : pos < s.size
  ·obtain ⟨r, d, hnx, hd1, hl, hg, hr⟩ := next_rune (P := Tryz.prog) w s pos hp
   clear hl
   by_cases g1 : digI r = true
   ·have hb := (dig_iff _).1 g1
    obtain ⟨hrb, hd⟩ := hr (by rw [hg, dig_iff] at g1; omega)
    subst hd
    have hgd : digI (byt s pos) = true := by rw [← hg]; exact g1
    clear hr hg
    by_cases g2 : 1 ≤ pos ∧ val s pos = 0
    ·obtain ⟨g2, g3⟩ := g2
     have hno := numB_zero hp g2 g3 hv2
     have hz : (val s pos == 0) = true := by simp [g3]
     have hpp : (0 : Int) < (pos : Int) := by omega
     clear g3 hv2 hrb hall
     have HN : Hid (numB s = false) := hno
     clear hno
     go_wp2_with (go_at_call 110; refine (isDigit_any _ _).mono ?_; rintro e w' ⟨rfl, rfl⟩)
     go_ret
     exact ⟨ret_bool HN.out.symm, below_iter _ _ _⟩
    ·have HV : Hid (val s (pos + 1) = val s pos * 10 + ((r : Int) - 48)) := by
       show val s (pos + 1) = _
       simp only [val]; omega
     have HB : Hid ((r : Int) = byt s pos) := hrb
     have HA : Hid (∀ k, k < pos → digI (byt s k) = true) := hall
     have HW : Hid (2 ≤ pos → 10 ≤ val s pos ∧ byt s 0 ≠ 48) := hv2
     have HZ : Hid (¬(1 ≤ pos ∧ val s pos = 0)) := g2
     clear hrb hall hv2 g2
     have HD : Hid (digI (byt s pos) = true) := hgd
     clear hgd
     by_cases g4 : val s pos * 10 + ((r : Int) - 48) ≤ 1000000
     ·have hdone : val s (pos + 1) = val s pos * 10 + ((r : Int) - 48) ∧ pos + 1 ≤ s.size ∧ (∀ k, k < pos + 1 → digI (byt s k) = true) ∧ 0 ≤ val s (pos + 1) ∧ val s (pos + 1) ≤ 1000000 ∧ (2 ≤ pos + 1 → 10 ≤ val s (pos + 1) ∧ byt s 0 ≠ 48) := by
        refine ⟨HV.out, by omega, fun k hk => ?_, by rw [HV.out]; omega, by rw [HV.out]; exact g4, fun h => ?_⟩
        ·rcases (by omega : k < pos ∨ k = pos) with h | rfl
         ·exact HA.out k h
         ·exact HD.out
        ·have hz := HZ.out
         refine ⟨by rw [HV.out]; omega, ?_⟩
         by_cases q : 2 ≤ pos
         ·exact (HW.out q).2
         ·have e : pos = 1 := by omega
          subst e
          intro h0
          apply hz
          refine ⟨Nat.le_refl _, ?_⟩
          simp only [val]; omega
      have HQ := mkHid hdone
      clear hdone HV HA HB HW HD
      by_cases hpos : 1 ≤ pos
      ·have hpp : (0 : Int) < (pos : Int) := by omega
       have hz : (val s pos == 0) = false := by simp; intro h; exact HZ.out ⟨hpos, h⟩
       clear HZ
       go_wp2_with (go_at_call 110; refine (isDigit_any _ _).mono ?_; rintro e w' ⟨rfl, rfl⟩)
       go_roundw
       case rel => obtain ⟨e, q1, q2, q3, q4, q5⟩ := HQ.out; exact ⟨pos + 1, rfl, q1, by rw [e], q2, q3, q4, q5⟩
       case measure => simp; omega
      ·have hpp : ¬ (0 : Int) < (pos : Int) := by omega
       clear HZ
       go_wp2_with (go_at_call 110; refine (isDigit_any _ _).mono ?_; rintro e w' ⟨rfl, rfl⟩)
       go_roundw
       case rel => obtain ⟨e, q1, q2, q3, q4, q5⟩ := HQ.out; exact ⟨pos + 1, rfl, q1, by rw [e], q2, q3, q4, q5⟩
       case measure => simp; omega
     ·have hno : numB s = false := numB_of (by
        unfold numP
        simp only [Bool.false_eq_true, iff_false]
        rintro ⟨_, ha, _, hb⟩
        have := val_mono s (pos + 1) s.size (by omega) ha
        rw [HV.out] at this
        omega)
      have HN : Hid (numB s = false) := hno
      clear hno HV HA HB HW HD
      by_cases hpos : 1 ≤ pos
      ·have hpp : (0 : Int) < (pos : Int) := by omega
       have hz : (val s pos == 0) = false := by simp; intro h; exact HZ.out ⟨hpos, h⟩
       clear HZ
       go_wp2_with (go_at_call 110; refine (isDigit_any _ _).mono ?_; rintro e w' ⟨rfl, rfl⟩)
       go_ret
       exact ⟨ret_bool HN.out.symm, below_iter _ _ _⟩
      ·have hpp : ¬ (0 : Int) < (pos : Int) := by omega
       clear HZ
       go_wp2_with (go_at_call 110; refine (isDigit_any _ _).mono ?_; rintro e w' ⟨rfl, rfl⟩)
       go_ret
       exact ⟨ret_bool HN.out.symm, below_iter _ _ _⟩
   ·have hno : numB s = false := numB_of (by
      unfold numP
      simp only [Bool.false_eq_true, iff_false]
      rintro ⟨_, ha, _, hb⟩
      exact g1 (hg.trans (ha pos hp)))
    simp only [Bool.not_eq_true] at g1
    have HN : Hid (numB s = false) := hno
    clear hno hg hr hv0 hv1 hv2 hall
    go_wp2_with (go_at_call 110; refine (isDigit_any _ _).mono ?_; rintro e w' ⟨rfl, rfl⟩)
    go_ret
    exact ⟨ret_bool HN.out.symm, below_iter _ _ _⟩
  ·have hnx : ∀ ty, (Instr.next (.pointer (some ⟨w.heap.size, 0, none⟩)) true ty).run Tryz.prog (w.iter s pos) = _ := fun ty => run_next_end w s pos ty hp
   have hq : numB s = !s.toList.isEmpty := numB_of (by
    unfold numP
    have : s.toList = [] ↔ s.size = 0 := by rw [Lib.toList_data, Lib.size_eq]; exact List.length_eq_zero_iff.symm
    have e : pos = s.size := by omega
    subst e
    simp only [Bool.not_eq_true', List.isEmpty_eq_false_iff, ne_eq, this]
    refine ⟨fun h => by omega, fun h => ⟨by omega, hall, fun h1 => ?_, hv1⟩⟩
    exact (hv2 (by omega)).2)
   clear hv0 hv1 hv2 hall
   go_wp2
   go_ret
   exact ⟨ret_bool hq.symm, below_iter _ _ _⟩
end Go.Proofs.YtedfnadgmhjojaaGreatDoor
namespace Go.Proofs.YtedfnadgmhjojaaGreatDoor
open Go.RowKit
open Pl

theorem bcell {W w1 : World} (hb : Below W.heap.size W w1) : (∀ b o, b < W.heap.size → w1.cell? ⟨b, o, none⟩ = W.cell? ⟨b, o, none⟩) ∧ (∀ b o, b < W.heap.size → w1.frozen? ⟨b, o, none⟩ = W.frozen? ⟨b, o, none⟩) :=
 ⟨fun b o h => hb.cell (p := ⟨b, o, none⟩) h, fun b o h => hb.frozen (p := ⟨b, o, none⟩) h⟩
theorem below_step {w w1 w2 : World} (h1 : Below w.heap.size w w1) (h2 : Below w1.heap.size w1 w2) : Below w.heap.size w w2 := h1.trans (h2.mono h1.size)

set_option maxRecDepth 100000 in
set_option maxHeartbeats 400000 in
theorem kindOf_any (s : ByteArray) (w : World) (hs : s.size ≤ maxLen) : Calls Tryz.prog 104 #[.string s] w fun e w' => e = .returned (.int .i64 (kindI s)) ∧ Below w.heap.size w w' := by
 have HK := mkHid (kindI_eq s)
 by_cases h1 : nameB s = true
 ·go_enter Tryz.func104, Tryz.ntmps104
  go_wp2_with (go_at_call 74; refine (isName_any _ _ hs).mono ?_; rintro e w1 ⟨rfl, hb1⟩)
  go_ret
  exact ⟨ret_int (by rw [HK.out]; simp [h1]), hb1⟩
 ·simp only [Bool.not_eq_true] at h1
  by_cases h2 : numB s = true
  ·go_enter Tryz.func104, Tryz.ntmps104
   go_wp2_with (first | (go_at_call 74; refine (isName_any _ _ hs).mono ?_; rintro e w1 ⟨rfl, hb1⟩) | (go_at_call 123; refine (isNum_any _ _ hs).mono ?_; rintro e w2 ⟨rfl, hb2⟩))
   go_ret
   exact ⟨ret_int (by rw [HK.out]; simp [h1, h2]), below_step hb1 hb2⟩
  ·simp only [Bool.not_eq_true] at h2
   by_cases h3 : signB s = true
   ·go_enter Tryz.func104, Tryz.ntmps104
    go_wp2_with (first | (go_at_call 74; refine (isName_any _ _ hs).mono ?_; rintro e w1 ⟨rfl, hb1⟩) | (go_at_call 123; refine (isNum_any _ _ hs).mono ?_; rintro e w2 ⟨rfl, hb2⟩) | (go_at_call 124; refine (isSign_any _ _).mono ?_; rintro e w3 ⟨rfl, rfl⟩))
    go_ret
    exact ⟨ret_int (by rw [HK.out]; simp [h1, h2, h3]), below_step hb1 hb2⟩
   ·simp only [Bool.not_eq_true] at h3
    by_cases h4 : keyB s = true
    ·go_enter Tryz.func104, Tryz.ntmps104
     go_wp2_with (first | (go_at_call 74; refine (isName_any _ _ hs).mono ?_; rintro e w1 ⟨rfl, hb1⟩) | (go_at_call 123; refine (isNum_any _ _ hs).mono ?_; rintro e w2 ⟨rfl, hb2⟩) | (go_at_call 124; refine (isSign_any _ _).mono ?_; rintro e w3 ⟨rfl, rfl⟩) | (go_at_call 108; refine (isKey_any _ _).mono ?_; rintro e w3 ⟨rfl, rfl⟩))
     go_ret
     exact ⟨ret_int (by rw [HK.out]; simp [h1, h2, h3, h4]), below_step hb1 hb2⟩
    ·simp only [Bool.not_eq_true] at h4
     go_enter Tryz.func104, Tryz.ntmps104
     go_wp2_with (first | (go_at_call 74; refine (isName_any _ _ hs).mono ?_; rintro e w1 ⟨rfl, hb1⟩) | (go_at_call 123; refine (isNum_any _ _ hs).mono ?_; rintro e w2 ⟨rfl, hb2⟩) | (go_at_call 124; refine (isSign_any _ _).mono ?_; rintro e w3 ⟨rfl, rfl⟩) | (go_at_call 108; refine (isKey_any _ _).mono ?_; rintro e w3 ⟨rfl, rfl⟩))
     go_ret
     exact ⟨ret_int (by rw [HK.out]; simp [h1, h2, h3, h4]), below_step hb1 hb2⟩

end Go.Proofs.YtedfnadgmhjojaaGreatDoor
namespace Go.Proofs.YtedfnadgmhjojaaGreatDoor
open Go.RowKit
open Pl

def str (l : List UInt8) : ByteArray := ⟨l.toArray⟩
def hasB (ls : List (List UInt8)) (s : ByteArray) : Bool := ls.contains s.toList
theorem getD_get (ls : List (List UInt8)) (k : Nat) (h : k < ls.length) : ls.getD k [] = ls[k] := by simp [List.getD, h]
theorem hasB_yes {ls : List (List UInt8)} {s c : ByteArray} {k : Nat} (h : k < ls.length) (he : (c.toList == s.toList) = true) (hv : c.toList = ls.getD k []) : hasB ls s = true := by
 have e := eq_of_beq he
 unfold hasB
 rw [List.contains_iff_mem, ← e, hv, getD_get _ _ h]
 exact List.getElem_mem _
theorem hasB_no {ls : List (List UInt8)} {s : ByteArray} (h : ∀ j, j < ls.length → (ls.getD j [] == s.toList) = false) : hasB ls s = false := by
 unfold hasB
 rw [Bool.eq_false_iff]
 intro hm
 rw [List.contains_iff_mem] at hm
 obtain ⟨j, hj, e⟩ := List.getElem_of_mem hm
 have := h j hj
 rw [getD_get _ _ hj, e] at this
 simp at this
theorem str_toList (l : List UInt8) : (str l).toList = l := by unfold str; simp
set_option maxRecDepth 100000 in
set_option maxHeartbeats 400000 in
theorem sHas_any (ls : List (List UInt8)) (s : ByteArray) (b : Nat) (w : World) (hn : ls.length ≤ 100) (hcell : ∀ i, i < ls.length → w.cell? ⟨b, i, none⟩ = some (.string (str (ls.getD i [])))) :
    Calls Tryz.prog 126 #[.slice (some ⟨b, 0, none⟩) ls.length ls.length, .string s] w fun e w' => e = .returned (.bool (hasB ls s)) ∧ w = w' := by
 have HC := mkHid hcell
 clear hcell
 go_enter Tryz.func126, Tryz.ntmps126
 go_wp2
 go_loop [5] (fun i => ∃ k : Nat, k ≤ ls.length ∧ i = .int .i64 k ∧ ∀ j, j < k → (ls.getD j [] == s.toList) = false) (fun i => ls.length - (intOf i).toNat)
 case atStart => exact ⟨0, Nat.zero_le _, rfl, fun j hj => by omega⟩
 case round =>
  obtain ⟨k, hk, rfl, hall⟩ := hrel
  have HA := mkHid hall
  clear hall
  by_cases hlt : k < ls.length
  ·obtain ⟨c, hck, HV⟩ : ∃ c : ByteArray, w.cell? ⟨b, k, none⟩ = some (.string c) ∧ Hid (c.toList = ls.getD k []) := ⟨_, HC.out k hlt, str_toList _⟩
   by_cases he : (c.toList == s.toList) = true
   ·have HN := mkHid (hasB_yes hlt he HV.out)
    clear HA HV HC
    go_wp2
    go_ret
    exact ⟨ret_bool HN.out.symm, rfl⟩
   ·simp only [Bool.not_eq_true] at he
    have HN := mkHid (show ∀ j, j < k + 1 → (ls.getD j [] == s.toList) = false from fun j hj => by
     rcases (by omega : j < k ∨ j = k) with h | rfl
     ·exact HA.out j h
     ·rw [← HV.out]; exact he)
    clear HA HV HC
    go_wp2
    go_round
    case rel => exact ⟨k + 1, by omega, by go_num, HN.out⟩
    case measure => simp [intOf]; omega
  ·have HN := mkHid (hasB_no (s := s) (fun j hj => HA.out j (by omega)))
   clear HA HC
   go_wp2
   go_ret
   exact ⟨ret_bool HN.out.symm, rfl⟩

theorem rowFact (C : Array Value) (ls : List (List UInt8)) (h : C.toList = ls.map (fun l => .string (str l))) (i : Nat) (hi : i < ls.length) : C[i]? = some (.string (str (ls.getD i []))) := by
 rw [← Array.getElem?_toList, h, getD_get _ _ hi]
 simp [hi]

set_option maxRecDepth 100000 in
set_option maxHeartbeats 400000 in
theorem sKey_any (s : ByteArray) (w : World) : Calls Tryz.prog 112 #[.string s] w fun e w' => e = .returned (.bool (keyB s)) ∧ Below w.heap.size w w' := by
 go_enter Tryz.func112, Tryz.ntmps112
 go_wp2_with fail
 refine (sHas_any keys s w.heap.size _ (by decide) (fun i hi => ?_)).mono ?_
 ·rw [World.cell?_alloc_new]
  exact rowFact _ keys rfl i hi
 rintro e w' ⟨rfl, rfl⟩
 go_wp2
 go_ret
 exact ⟨rfl, (Below.refl _ _).alloc (Nat.le_refl _) _⟩
set_option maxRecDepth 100000 in
set_option maxHeartbeats 400000 in
theorem sSign_any (s : ByteArray) (w : World) : Calls Tryz.prog 115 #[.string s] w fun e w' => e = .returned (.bool (signB s)) ∧ Below w.heap.size w w' := by
 go_enter Tryz.func115, Tryz.ntmps115
 go_wp2_with fail
 refine (sHas_any signs s w.heap.size _ (by decide) (fun i hi => ?_)).mono ?_
 ·rw [World.cell?_alloc_new]
  exact rowFact _ signs rfl i hi
 rintro e w' ⟨rfl, rfl⟩
 go_wp2
 go_ret
 exact ⟨rfl, (Below.refl _ _).alloc (Nat.le_refl _) _⟩
end Go.Proofs.YtedfnadgmhjojaaGreatDoor
namespace Go.Proofs.YtedfnadgmhjojaaGreatDoor
open Go.RowKit
open Pl

set_option maxRecDepth 100000 in
set_option maxHeartbeats 400000 in
theorem sName_any (s : ByteArray) (w : World) (hs : s.size ≤ maxLen) : Calls Tryz.prog 80 #[.string s] w fun e w' => e = .returned (.bool (nameB s)) ∧ Below w.heap.size w w' := by
 unfold maxLen at hs
 by_cases h1 : (s.size : Int) < 1
 ·have HN := mkHid (show nameB s = false from nameB_of (by unfold nameP; simp; omega))
  go_enter Tryz.func80, Tryz.ntmps80
  go_wp2
  go_ret
  exact ⟨ret_bool HN.out.symm, Below.refl _ _⟩
 ·by_cases h8 : 8 < (s.size : Int)
  ·have HN := mkHid (show nameB s = false from nameB_of (by unfold nameP; simp; omega))
   go_enter Tryz.func80, Tryz.ntmps80
   go_wp2
   go_ret
   exact ⟨ret_bool HN.out.symm, Below.refl _ _⟩
  ·have hz : 0 < s.size := by omega
   by_cases hl : lowI (((s[0]'hz).toNat : Nat) : Int) = true
   ·by_cases hk : keyB s = true
    ·have HN := mkHid (show nameB s = false from nameB_of (by unfold nameP; simp [hk]))
     go_enter Tryz.func80, Tryz.ntmps80
     go_wp2_with (first | (go_at_call 111; refine (sLetter_any _ _).mono ?_; rintro e w' ⟨rfl, rfl⟩) | (go_at_call 112; refine (sKey_any _ _).mono ?_; rintro e w1 ⟨rfl, hb1⟩))
     go_ret
     exact ⟨ret_bool HN.out.symm, hb1⟩
    ·simp only [Bool.not_eq_true] at hk
     have HL := mkHid (show nameAt s 0 from .inl (by rw [byt_eq s 0 hz]; exact hl))
     go_enter Tryz.func80, Tryz.ntmps80
     go_wp2_with (first | (go_at_call 111; refine (sLetter_any _ _).mono ?_; rintro e w' ⟨rfl, rfl⟩) | (go_at_call 112; refine (sKey_any _ _).mono ?_; rintro e w1 ⟨rfl, hb1⟩))
     go_loop [3] (fun i => ∃ k : Nat, k ≤ s.size ∧ i = .int .i64 k ∧ ∀ j, j < k → nameAt s j) (fun i => s.size - (intOf i).toNat)
     case atStart => exact ⟨0, Nat.zero_le _, rfl, fun j hj => by omega⟩
     case round =>
      obtain ⟨k, hks, rfl, hall⟩ := hrel
      have HA := mkHid hall
      have HB := mkHid hb1
      clear hall hb1 hl
      by_cases hlt : k < s.size
      ·have HE := mkHid (byt_eq s k hlt)
       by_cases g1 : lowI (((s[k]'hlt).toNat : Nat) : Int) = true
       ·have HN := mkHid (show ∀ j, j < k + 1 → nameAt s j from fun j hj => by
          rcases (by omega : j < k ∨ j = k) with h | rfl
          ·exact HA.out j h
          ·exact .inl (by rw [HE.out]; exact g1))
        clear HA HE HL
        go_wp2_with (first | (go_at_call 111; refine (sLetter_any _ _).mono ?_; rintro e w' ⟨rfl, rfl⟩) | (go_at_call 113; refine (sDigit_any _ _).mono ?_; rintro e w' ⟨rfl, rfl⟩))
        go_round
        case rel => exact ⟨k + 1, by omega, by go_num, HN.out⟩
        case measure => simp [intOf]; omega
       ·simp only [Bool.not_eq_true] at g1
        by_cases g2 : digI (((s[k]'hlt).toNat : Nat) : Int) = true
        ·have HN := mkHid (show ∀ j, j < k + 1 → nameAt s j from fun j hj => by
           rcases (by omega : j < k ∨ j = k) with h | rfl
           ·exact HA.out j h
           ·by_cases hj0 : j = 0
            ·subst hj0; exact HL.out
            ·exact .inr ⟨hj0, by rw [HE.out]; exact g2⟩)
         clear HA HE HL
         go_wp2_with (first | (go_at_call 111; refine (sLetter_any _ _).mono ?_; rintro e w' ⟨rfl, rfl⟩) | (go_at_call 113; refine (sDigit_any _ _).mono ?_; rintro e w' ⟨rfl, rfl⟩))
         go_round
         case rel => exact ⟨k + 1, by omega, by go_num, HN.out⟩
         case measure => simp [intOf]; omega
        ·simp only [Bool.not_eq_true] at g2
         have HN := mkHid (show nameB s = false from nameB_of (by
          unfold nameP nameAt
          simp only [Bool.false_eq_true, iff_false]
          rintro ⟨_, _, _, hq⟩
          have := hq k hlt
          rw [HE.out, g1, g2] at this
          simp at this))
         clear HA HE HL
         go_wp2_with (first | (go_at_call 111; refine (sLetter_any _ _).mono ?_; rintro e w' ⟨rfl, rfl⟩) | (go_at_call 113; refine (sDigit_any _ _).mono ?_; rintro e w' ⟨rfl, rfl⟩))
         go_ret
         exact ⟨ret_bool HN.out.symm, HB.out⟩
      ·have HN := mkHid (show nameB s = true from nameB_of (by
         unfold nameP
         simp only [iff_true]
         exact ⟨by omega, by omega, hk, fun j hj => HA.out j (by omega)⟩))
       clear HA HL
       go_wp2
       go_ret
       exact ⟨ret_bool HN.out.symm, HB.out⟩
   ·have HN := mkHid (show nameB s = false from nameB_of (by
      unfold nameP nameAt
      simp only [Bool.false_eq_true, iff_false]
      rintro ⟨_, _, _, hq⟩
      have := hq 0 hz
      rw [byt_eq s 0 hz] at this
      simp at this
      exact hl this))
    simp only [Bool.not_eq_true] at hl
    go_enter Tryz.func80, Tryz.ntmps80
    go_wp2_with (first | (go_at_call 111; refine (sLetter_any _ _).mono ?_; rintro e w' ⟨rfl, rfl⟩) | (go_at_call 112; refine (sKey_any _ _).mono ?_; rintro e w1 ⟨rfl, hb1⟩))
    go_ret
    exact ⟨ret_bool HN.out.symm, Below.refl _ _⟩
end Go.Proofs.YtedfnadgmhjojaaGreatDoor
namespace Go.Proofs.YtedfnadgmhjojaaGreatDoor
open Go.RowKit
open Pl

theorem val_lt (s : ByteArray) (k : Nat) (h : ∀ j, j < k → digI (byt s j) = true) : val s k < 10 ^ k := by
 induction k with
 | zero => simp [val]
 | succ k ih =>
   have h1 := ih (fun j hj => h j (by omega))
   have h2 := (dig_iff _).1 (h k (by omega))
   rw [Int.pow_succ]
   simp only [val]; omega
theorem val_seven (s : ByteArray) (k : Nat) (hk : k ≤ 7) (h : ∀ j, j < k → digI (byt s j) = true) : val s k < 10000000 := by
 have h1 := val_lt s k h
 have h2 : (10 : Int) ^ k ≤ 10000000 := by
  rcases (by omega : k = 0 ∨ k = 1 ∨ k = 2 ∨ k = 3 ∨ k = 4 ∨ k = 5 ∨ k = 6 ∨ k = 7) with e | e | e | e | e | e | e | e <;> (subst e; decide)
 omega
theorem numV_neg {s : ByteArray} (h : ¬ numP s) : numV s = -1 := numV_no (numB_of (by simp [h]))

set_option maxRecDepth 100000 in
set_option maxHeartbeats 400000 in
theorem sNumber_any (s : ByteArray) (w : World) (hs : s.size ≤ maxLen) : Calls Tryz.prog 90 #[.string s] w fun e w' => e = .returned (.int .i64 (numV s)) ∧ w = w' := by
 unfold maxLen at hs
 by_cases h1 : (s.size : Int) < 1
 ·have HN := mkHid (show numV s = -1 from numV_neg (by unfold numP; omega))
  go_enter Tryz.func90, Tryz.ntmps90
  go_wp2
  go_ret
  exact ⟨ret_int HN.out.symm, rfl⟩
 ·by_cases h8 : 7 < (s.size : Int)
  ·have HN := mkHid (show numV s = -1 from numV_neg (by
     rintro ⟨_, ha, hz, hb⟩
     have := val_long s s.size (by omega) ha (hz (by omega))
     omega))
   go_enter Tryz.func90, Tryz.ntmps90
   go_wp2
   go_ret
   exact ⟨ret_int HN.out.symm, rfl⟩
  ·have hz : 0 < s.size := by omega
   by_cases hl : 1 < (s.size : Int) ∧ ((((s[0]'hz).toNat : Nat) : Int) == 48) = true
   ·obtain ⟨hl1, hl2⟩ := hl
    have HN := mkHid (show numV s = -1 from numV_neg (by
     rintro ⟨_, ha, hz', hb⟩
     apply hz' (by omega)
     rw [byt_eq s 0 hz]
     simpa using hl2))
    go_enter Tryz.func90, Tryz.ntmps90
    go_wp2
    go_ret
    exact ⟨ret_int HN.out.symm, rfl⟩
   ·have HZ := mkHid (show 1 < s.size → byt s 0 ≠ 48 from fun h h' => hl ⟨by omega, by rw [byt_eq s 0 hz] at h'; simpa using h'⟩)
    have key : Calls Tryz.prog 90 #[.string s] w fun e w' => e = .returned (.int .i64 (numV s)) ∧ w = w' := by
     have hl2 : 1 < (s.size : Int) → ((((s[0]'hz).toNat : Nat) : Int) == 48) = false := fun hl1 => by
      by_cases q : ((((s[0]'hz).toNat : Nat) : Int) == 48) = true
      ·exact absurd ⟨hl1, q⟩ hl
      ·simpa using q
     by_cases hl1 : 1 < (s.size : Int)
     all_goals
      first | replace hl2 := hl2 hl1 | clear hl2
      clear hl
      go_enter Tryz.func90, Tryz.ntmps90
      go_wp2
      go_loop [3, 4] (fun n i => ∃ k : Nat, k ≤ s.size ∧ i = .int .i64 k ∧ n = .int .i64 (val s k) ∧ ∀ j, j < k → digI (byt s j) = true) (fun _ i => s.size - (intOf i).toNat)
      case atStart => exact ⟨0, Nat.zero_le _, rfl, rfl, fun j hj => by omega⟩
      case round =>
       obtain ⟨k, hks, rfl, rfl, hall⟩ := hrel
       have hv0 := val_nonneg s k hall
       have hv1 := val_seven s k (by omega) hall
       have HA := mkHid hall
       clear hall
       by_cases hlt : k < s.size
       ·have HE := mkHid (byt_eq s k hlt)
        by_cases g1 : digI (((s[k]'hlt).toNat : Nat) : Int) = true
        ·have hb := (dig_iff _).1 g1
         have HN := mkHid (show ∀ j, j < k + 1 → digI (byt s j) = true from fun j hj => by
          rcases (by omega : j < k ∨ j = k) with h | rfl
          ·exact HA.out j h
          ·rw [HE.out]; exact g1)
         have HV := mkHid (show val s (k + 1) = 10 * val s k + (((s[k]'hlt).toNat : Nat) : Int) - 48 by simp only [val]; rw [HE.out])
         clear HA HE
         go_wp2_with (go_at_call 113; refine (sDigit_any _ _).mono ?_; rintro e w' ⟨rfl, rfl⟩)
         go_round
         case rel => exact ⟨k + 1, by omega, by go_num, by rw [HV.out], HN.out⟩
         case measure => simp [intOf]; omega
        ·simp only [Bool.not_eq_true] at g1
         have HN := mkHid (show numV s = -1 from numV_neg (by
          rintro ⟨_, ha, _, _⟩
          have := ha k hlt
          rw [HE.out, g1] at this
          cases this))
         clear HA HE
         go_wp2_with (go_at_call 113; refine (sDigit_any _ _).mono ?_; rintro e w' ⟨rfl, rfl⟩)
         go_ret
         exact ⟨ret_int HN.out.symm, rfl⟩
       ·have HK : Hid (k = s.size) := show k = s.size by omega
        by_cases g2 : 1000000 < val s k
        ·have HN := mkHid (show numV s = -1 from numV_neg (by
           rintro ⟨_, ha, _, hb⟩
           rw [← HK.out] at hb
           omega))
         clear HA
         go_wp2
         go_ret
         exact ⟨ret_int HN.out.symm, rfl⟩
        ·have HN := mkHid (show numV s = val s k by
           have hp : numP s := by
            refine ⟨by omega, fun j hj => HA.out j (by have := HK.out; omega), HZ.out, ?_⟩
            rw [← HK.out]; omega
           rw [(numV_yes (numB_of (b := true) (by simp [hp]))).1, ← HK.out])
         clear HA
         go_wp2
         go_ret
         exact ⟨ret_int HN.out.symm, rfl⟩
    exact key

set_option maxRecDepth 100000 in
set_option maxHeartbeats 400000 in
theorem sKind_any (s : ByteArray) (w : World) (hs : s.size ≤ maxLen) : Calls Tryz.prog 85 #[.string s] w fun e w' => e = .returned (.int .i64 (kindI s)) ∧ Below w.heap.size w w' := by
 by_cases h1 : keyB s = true
 ·have HK := mkHid (show kindI s = 4 by simp [kindI, h1])
  go_enter Tryz.func85, Tryz.ntmps85
  go_wp2_with (go_at_call 112; refine (sKey_any _ _).mono ?_; rintro e w1 ⟨rfl, hb1⟩)
  go_ret
  exact ⟨ret_int HK.out.symm, hb1⟩
 ·simp only [Bool.not_eq_true] at h1
  by_cases h2 : nameB s = true
  ·have HK := mkHid (show kindI s = 1 by simp [kindI, h1, h2])
   go_enter Tryz.func85, Tryz.ntmps85
   go_wp2_with (first | (go_at_call 112; refine (sKey_any _ _).mono ?_; rintro e w1 ⟨rfl, hb1⟩) | (go_at_call 80; refine (sName_any _ _ hs).mono ?_; rintro e w2 ⟨rfl, hb2⟩))
   go_ret
   exact ⟨ret_int HK.out.symm, below_step hb1 hb2⟩
  ·simp only [Bool.not_eq_true] at h2
   by_cases h3 : numB s = true
   ·have HK := mkHid (show kindI s = 2 by simp [kindI, h1, h2, h3])
    have hv := (numV_yes h3).2
    clear h3
    go_enter Tryz.func85, Tryz.ntmps85
    go_wp2_with (first | (go_at_call 112; refine (sKey_any _ _).mono ?_; rintro e w1 ⟨rfl, hb1⟩) | (go_at_call 80; refine (sName_any _ _ hs).mono ?_; rintro e w2 ⟨rfl, hb2⟩) | (go_at_call 90; refine (sNumber_any _ _ hs).mono ?_; rintro e w3 ⟨rfl, rfl⟩))
    go_ret
    exact ⟨ret_int HK.out.symm, below_step hb1 hb2⟩
   ·simp only [Bool.not_eq_true] at h3
    have hv : ¬ 0 ≤ numV s := by rw [numV_no h3]; decide
    by_cases h4 : signB s = true
    ·have HK := mkHid (show kindI s = 3 by simp [kindI, h1, h2, h3, h4])
     clear h3
     go_enter Tryz.func85, Tryz.ntmps85
     go_wp2_with (first | (go_at_call 112; refine (sKey_any _ _).mono ?_; rintro e w1 ⟨rfl, hb1⟩) | (go_at_call 80; refine (sName_any _ _ hs).mono ?_; rintro e w2 ⟨rfl, hb2⟩) | (go_at_call 90; refine (sNumber_any _ _ hs).mono ?_; rintro e w3 ⟨rfl, rfl⟩) | (go_at_call 115; refine (sSign_any _ _).mono ?_; rintro e w3 ⟨rfl, hb3⟩))
     go_ret
     exact ⟨ret_int HK.out.symm, below_step (below_step hb1 hb2) hb3⟩
    ·simp only [Bool.not_eq_true] at h4
     have HK := mkHid (show kindI s = 0 by simp [kindI, h1, h2, h3, h4])
     clear h3
     go_enter Tryz.func85, Tryz.ntmps85
     go_wp2_with (first | (go_at_call 112; refine (sKey_any _ _).mono ?_; rintro e w1 ⟨rfl, hb1⟩) | (go_at_call 80; refine (sName_any _ _ hs).mono ?_; rintro e w2 ⟨rfl, hb2⟩) | (go_at_call 90; refine (sNumber_any _ _ hs).mono ?_; rintro e w3 ⟨rfl, rfl⟩) | (go_at_call 115; refine (sSign_any _ _).mono ?_; rintro e w3 ⟨rfl, hb3⟩))
     go_ret
     exact ⟨ret_int HK.out.symm, below_step (below_step hb1 hb2) hb3⟩
end Go.Proofs.YtedfnadgmhjojaaGreatDoor
namespace Go.Proofs.YtedfnadgmhjojaaGreatDoor
open Go.RowKit

/-- A tree as data. -/
inductive T where
 | node (k : Int) (s : ByteArray) (m : Int) (kids : List T)

theorem T.induct {P : T → Prop} (h : ∀ k s m kk, (∀ t ∈ kk, P t) → P (.node k s m kk)) : ∀ t, P t
 | .node k s m kk => h k s m kk fun t _ => T.induct h t

mutual
def bulk : T → Nat
 | .node _ s _ kk => s.size + kk.length + bulks kk
def bulks : List T → Nat
 | [] => 0
 | t :: r => bulk t + bulks r
end
mutual
def cnt : T → Nat
 | .node _ _ _ kk => 1 + cnts kk
def cnts : List T → Nat
 | [] => 0
 | t :: r => cnt t + cnts r
end
mutual
def dep : T → Nat
 | .node _ _ _ kk => deps kk + 1
def deps : List T → Nat
 | [] => 0
 | t :: r => max (dep t) (deps r)
end
def kidsOf : T → List T
 | .node _ _ _ kk => kk

mutual
/-- The four cells of a tree lie at offset off of block b; the lists below it in blocks from lo on. -/
def Lies (w : World) (lo : Nat) : T → Nat → Nat → Prop
 | .node k s m kk, b, off => w.cell? ⟨b, off, none⟩ = some (.int .i64 k) ∧ w.cell? ⟨b, off + 1, none⟩ = some (.string s) ∧ w.cell? ⟨b, off + 2, none⟩ = some (.int .i64 m) ∧
   s.size ≤ maxLen ∧ kk.length ≤ maxLen ∧ ∃ (a : Option Addr) (c : Nat), w.cell? ⟨b, off + 3, none⟩ = some (.slice a kk.length c) ∧
   (kk = [] ∨ ∃ b' o', a = some ⟨b', o', none⟩ ∧ lo ≤ b' ∧ LiesL w lo kk b' o')
def LiesL (w : World) (lo : Nat) : List T → Nat → Nat → Prop
 | [], _, _ => True
 | t :: r, b, off => Lies w lo t b off ∧ LiesL w lo r b (off + 4)
end
def Kids (w : World) (lo : Nat) (a : Option Addr) (kk : List T) : Prop := kk = [] ∨ ∃ b' o', a = some ⟨b', o', none⟩ ∧ lo ≤ b' ∧ LiesL w lo kk b' o'

theorem LiesL.get {w : World} {lo b : Nat} : ∀ {ks : List T} {off i : Nat} {t : T}, LiesL w lo ks b off → ks[i]? = some t → Lies w lo t b (off + i * 4)
 | [], _, _, _, _, h => by simp at h
 | x :: r, off, 0, t, h, ht => by
   simp at ht
   subst ht
   unfold LiesL at h
   simpa using h.1
 | x :: r, off, i + 1, t, h, ht => by
   unfold LiesL at h
   simp at ht
   have := LiesL.get h.2 ht
   rwa [show off + 4 + i * 4 = off + (i + 1) * 4 by omega] at this
theorem LiesL.of {w : World} {lo b : Nat} : ∀ {ks : List T} {off : Nat}, (∀ i t, ks[i]? = some t → Lies w lo t b (off + i * 4)) → LiesL w lo ks b off
 | [], _, _ => by unfold LiesL; trivial
 | x :: r, off, h => by
   unfold LiesL
   refine ⟨by simpa using h 0 x rfl, LiesL.of fun i t ht => ?_⟩
   have := h (i + 1) t (by simpa using ht)
   rwa [show off + (i + 1) * 4 = off + 4 + i * 4 by omega] at this

mutual
theorem Lies.stay {w w' : World} {lo : Nat} (h : ∀ b o, lo ≤ b → b < w.heap.size → w'.cell? ⟨b, o, none⟩ = w.cell? ⟨b, o, none⟩) : ∀ (t : T) (b off : Nat), (∀ o, off ≤ o → o < off + 4 → w'.cell? ⟨b, o, none⟩ = w.cell? ⟨b, o, none⟩) → Lies w lo t b off → Lies w' lo t b off
 | .node k s m kk, b, off, hb, hl => by
   unfold Lies at hl ⊢
   obtain ⟨h0, h1, h2, hs, hn, a, c, h3, hk⟩ := hl
   refine ⟨(hb _ (by omega) (by omega)).trans h0, (hb _ (by omega) (by omega)).trans h1, (hb _ (by omega) (by omega)).trans h2, hs, hn, a, c, (hb _ (by omega) (by omega)).trans h3, ?_⟩
   rcases hk with hk | ⟨b', o', e, hlo, hk⟩
   ·exact .inl hk
   ·exact .inr ⟨b', o', e, hlo, LiesL.stay h kk b' o' hlo hk⟩
theorem LiesL.stay {w w' : World} {lo : Nat} (h : ∀ b o, lo ≤ b → b < w.heap.size → w'.cell? ⟨b, o, none⟩ = w.cell? ⟨b, o, none⟩) : ∀ (ks : List T) (b off : Nat), lo ≤ b → LiesL w lo ks b off → LiesL w' lo ks b off
 | [], _, _, _, _ => by unfold LiesL; trivial
 | t :: r, b, off, hb, hl => by
   unfold LiesL at hl ⊢
   refine ⟨Lies.stay h t b off (fun o _ _ => h b o hb ?_) hl.1, LiesL.stay h r b (off + 4) hb hl.2⟩
   have := hl.1
   cases t
   unfold Lies at this
   exact World.block_lt_of_cell? w _ this.1
end
mutual
theorem Lies.lower {w : World} {lo lo' : Nat} (h : lo' ≤ lo) : ∀ (t : T) (b off : Nat), Lies w lo t b off → Lies w lo' t b off
 | .node k s m kk, b, off, hl => by
   unfold Lies at hl ⊢
   obtain ⟨h0, h1, h2, hs, hn, a, c, h3, hk⟩ := hl
   refine ⟨h0, h1, h2, hs, hn, a, c, h3, ?_⟩
   rcases hk with hk | ⟨b', o', e, hlo, hk⟩
   ·exact .inl hk
   ·exact .inr ⟨b', o', e, Nat.le_trans h hlo, LiesL.lower h kk b' o' hk⟩
theorem LiesL.lower {w : World} {lo lo' : Nat} (h : lo' ≤ lo) : ∀ (ks : List T) (b off : Nat), LiesL w lo ks b off → LiesL w lo' ks b off
 | [], _, _, _ => by unfold LiesL; trivial
 | t :: r, b, off, hl => by
   unfold LiesL at hl ⊢
   exact ⟨Lies.lower h t b off hl.1, LiesL.lower h r b (off + 4) hl.2⟩
end
theorem Kids.stay {w w' : World} {lo : Nat} (h : ∀ b o, lo ≤ b → b < w.heap.size → w'.cell? ⟨b, o, none⟩ = w.cell? ⟨b, o, none⟩) {a : Option Addr} {kk : List T} (hk : Kids w lo a kk) : Kids w' lo a kk := by
 rcases hk with hk | ⟨b', o', e, hlo, hk⟩
 ·exact .inl hk
 ·exact .inr ⟨b', o', e, hlo, LiesL.stay h kk b' o' hlo hk⟩
theorem Kids.lower {w : World} {lo lo' : Nat} (h : lo' ≤ lo) {a : Option Addr} {kk : List T} (hk : Kids w lo a kk) : Kids w lo' a kk := by
 rcases hk with hk | ⟨b', o', e, hlo, hk⟩
 ·exact .inl hk
 ·exact .inr ⟨b', o', e, Nat.le_trans h hlo, LiesL.lower h kk b' o' hk⟩
theorem Kids.below {w w' : World} {lo : Nat} {a : Option Addr} {kk : List T} (hk : Kids w lo a kk) (hb : Below w.heap.size w w') : Kids w' lo a kk := hk.stay fun b o _ h => hb.cell (p := ⟨b, o, none⟩) h
theorem LiesL.below {w w' : World} {lo b off : Nat} {ks : List T} (hk : LiesL w lo ks b off) (hlo : lo ≤ b) (hb : Below w.heap.size w w') : LiesL w' lo ks b off := LiesL.stay (fun b o _ h => hb.cell (p := ⟨b, o, none⟩) h) _ _ _ hlo hk
/-- One node of a list: its cells, and its own list. -/
theorem LiesL.at {w : World} {lo b off i : Nat} {ks kk : List T} {k m : Int} {s : ByteArray} (h : LiesL w lo ks b off) (hi : ks[i]? = some (.node k s m kk)) :
    ∃ (a : Option Addr) (c : Nat), w.cell? ⟨b, off + i * 4, none⟩ = some (.int .i64 k) ∧ w.cell? ⟨b, off + i * 4 + 1, none⟩ = some (.string s) ∧ w.cell? ⟨b, off + i * 4 + 2, none⟩ = some (.int .i64 m) ∧ w.cell? ⟨b, off + i * 4 + 3, none⟩ = some (.slice a kk.length c) ∧
      s.size ≤ maxLen ∧ kk.length ≤ maxLen ∧ Kids w lo a kk := by
 have := h.get hi
 unfold Lies at this
 obtain ⟨h0, h1, h2, hs, hn, a, c, h3, hk⟩ := this
 exact ⟨a, c, h0, h1, h2, h3, hs, hn, hk⟩
theorem bulks_take {ks : List T} {i : Nat} {t : T} (h : ks[i]? = some t) : bulks (ks.take (i + 1)) = bulks (ks.take i) + bulk t := by
 induction ks generalizing i with
 | nil => simp at h
 | cons x r ih =>
   cases i with
   | zero => simp at h; subst h; simp [bulks]
   | succ i =>
     simp at h
     have := ih h
     simp only [List.take_succ_cons, bulks] at this ⊢
     omega
theorem cnts_take {ks : List T} {i : Nat} {t : T} (h : ks[i]? = some t) : cnts (ks.take (i + 1)) = cnts (ks.take i) + cnt t := by
 induction ks generalizing i with
 | nil => simp at h
 | cons x r ih =>
   cases i with
   | zero => simp at h; subst h; simp [cnts]
   | succ i =>
     simp at h
     have := ih h
     simp only [List.take_succ_cons, cnts] at this ⊢
     omega
theorem deps_take {ks : List T} {i : Nat} {t : T} (h : ks[i]? = some t) : deps (ks.take (i + 1)) = max (deps (ks.take i)) (dep t) := by
 induction ks generalizing i with
 | nil => simp at h
 | cons x r ih =>
   cases i with
   | zero => simp at h; subst h; simp [deps]
   | succ i =>
     simp at h
     have := ih h
     simp only [List.take_succ_cons, deps] at this ⊢
     omega
end Go.Proofs.YtedfnadgmhjojaaGreatDoor
namespace Go.Proofs.YtedfnadgmhjojaaGreatDoor
open Go.RowKit

def SzOk (t : T) : Prop := match t with
 | .node k s m kk => ∀ (a : Option Addr) (c : Nat) (n : Int) (w : World), s.size ≤ maxLen → kk.length ≤ maxLen → Kids w 0 a kk → 0 ≤ n → n ≤ 1048576 →
   Calls Tryz.prog 39 #[.agg #[.int .i64 k, .string s, .int .i64 m, .slice a kk.length c], .int .i64 n] w fun e w' =>
    (∃ r : Int, e = .returned (.int .i64 r) ∧ (r < 0 ∨ 0 ≤ r ∧ r + bulk t = n)) ∧ Below w.heap.size w w'

set_option maxHeartbeats 400000 in
theorem szNodeS_of (kk : List T) (IH : ∀ t ∈ kk, SzOk t) (b off c : Nat) (n : Int) (w : World) (hn : kk.length ≤ maxLen) (hl : LiesL w 0 kk b off) (h0 : 0 ≤ n) (h1 : n ≤ 1048576) :
    Calls Tryz.prog 56 #[.slice (some ⟨b, off, none⟩) kk.length c, .int .i64 n] w fun e w' =>
     (∃ r : Int, e = .returned (.int .i64 r) ∧ (r < 0 ∨ 0 ≤ r ∧ r + kk.length + bulks kk = n)) ∧ Below w.heap.size w w' := by
 unfold maxLen at hn
 have HL := mkHid hl
 have HI := mkHid IH
 clear hl IH
 by_cases h : n - (kk.length : Int) < 0
 ·go_enter Tryz.func56, Tryz.ntmps56
  go_wp2
  go_ret
  exact ⟨⟨_, rfl, .inl (by decide)⟩, Below.refl _ _⟩
 ·go_enter Tryz.func56, Tryz.ntmps56
  go_wp2
  go_loopw [1, 5] (fun l i w' => ∃ (k : Nat) (r : Int), k ≤ kk.length ∧ i = .int .i64 k ∧ l = .int .i64 r ∧ 0 ≤ r ∧ r + kk.length + bulks (kk.take k) = n ∧ Below w.heap.size w w') (fun _ i _ => kk.length - (intOf i).toNat)
  case atStart => exact ⟨0, _, Nat.zero_le _, rfl, rfl, by omega, by simp [bulks], Below.refl _ _⟩
  case round =>
   obtain ⟨k, r, hk, rfl, rfl, hr0, hr1, hbel⟩ := hrel
   have HB := mkHid hbel
   have HR := mkHid hr1
   have hrn : r ≤ 1048576 := by omega
   clear hbel hr1
   by_cases hlt : k < kk.length
   ·obtain ⟨x, hx⟩ : ∃ x, kk[k]? = some x := ⟨_, List.getElem?_eq_getElem hlt⟩
    have HX := mkHid hx
    obtain ⟨xk, xs, xm, xkk⟩ := x
    obtain ⟨xa, xc, hc0, hc1, hc2, hc3, hs, hkn, hkids⟩ := (HL.out.below (Nat.zero_le _) HB.out).at hx
    have HC := mkHid (HI.out _ (List.mem_of_getElem? hx) xa xc r wr hs hkn hkids hr0 hrn)
    clear hx hs hkn hkids
    go_wp2_with fail
    refine HC.out.mono ?_
    rintro e w1 ⟨⟨m1, rfl, hm⟩, hb1⟩
    have HB1 := mkHid (HB.out.trans (hb1.mono HB.out.size))
    have HM := mkHid hm
    clear hb1 hm HC
    by_cases hneg : m1 < 0
    ·go_wp2
     go_ret
     exact ⟨⟨_, rfl, .inl (by decide)⟩, HB1.out⟩
    ·go_wp2
     go_roundw
     case rel =>
      have h2 := HM.out
      have h3 := HR.out
      have h4 := bulks_take HX.out
      exact ⟨k + 1, m1, by omega, by go_num, rfl, by omega, by omega, HB1.out⟩
     case measure => simp [intOf]; omega
   ·go_wp2
    go_ret
    have h3 := HR.out
    rw [List.take_of_length_le (by omega)] at h3
    exact ⟨⟨_, rfl, .inr ⟨hr0, h3⟩⟩, HB.out⟩

set_option maxHeartbeats 400000 in
theorem szNodeS_nil (a : Option Addr) (c : Nat) (n : Int) (w : World) (h0 : 0 ≤ n) (h1 : n ≤ 1048576) :
    Calls Tryz.prog 56 #[.slice a 0 c, .int .i64 n] w fun e w' => (∃ r : Int, e = .returned (.int .i64 r) ∧ (r < 0 ∨ 0 ≤ r ∧ r = n)) ∧ Below w.heap.size w w' := by
 go_enter Tryz.func56, Tryz.ntmps56
 go_wp2
 go_loopw [1, 5] (fun l i w' => i = .int .i64 0 ∧ l = .int .i64 n ∧ w' = w) (fun _ i _ => 0)
 case atStart => exact ⟨rfl, by go_num, rfl⟩
 case round =>
  obtain ⟨rfl, rfl, rfl⟩ := hrel
  go_wp2
  go_ret
  exact ⟨⟨_, rfl, .inr ⟨h0, rfl⟩⟩, Below.refl _ _⟩

theorem szNodeS_kids (kk : List T) (IH : ∀ t ∈ kk, SzOk t) (a : Option Addr) (c : Nat) (n : Int) (w : World) (hn : kk.length ≤ maxLen) (hl : Kids w 0 a kk) (h0 : 0 ≤ n) (h1 : n ≤ 1048576) :
    Calls Tryz.prog 56 #[.slice a kk.length c, .int .i64 n] w fun e w' =>
     (∃ r : Int, e = .returned (.int .i64 r) ∧ (r < 0 ∨ 0 ≤ r ∧ r + kk.length + bulks kk = n)) ∧ Below w.heap.size w w' := by
 rcases hl with rfl | ⟨b, o, rfl, _, hl⟩
 ·refine (szNodeS_nil a c n w h0 h1).mono ?_
  rintro e w' ⟨⟨r, rfl, h⟩, hb⟩
  exact ⟨⟨r, rfl, by simpa [bulks] using h⟩, hb⟩
 ·exact szNodeS_of kk IH b o c n w hn hl h0 h1

set_option maxHeartbeats 400000 in
theorem szNode_ok (t : T) : SzOk t := by
 refine T.induct ?_ t
 intro k s m kk IH a c n w hs hn hk h0 h1
 unfold maxLen at hs
 have HN := mkHid hn
 have HI := mkHid IH
 have HK := mkHid hk
 clear hn IH hk
 by_cases h : n - (s.size : Int) < 0
 ·go_enter Tryz.func39, Tryz.ntmps39
  go_wp2
  go_ret
  exact ⟨⟨_, rfl, .inl (by decide)⟩, (Below.refl _ _).alloc (Nat.le_refl _) _⟩
 ·go_enter Tryz.func39, Tryz.ntmps39
  go_wp2_with fail
  refine (szNodeS_kids kk HI.out a c _ _ HN.out (HK.out.below ((Below.refl _ _).alloc (Nat.le_refl _) _)) (by omega) (by omega)).mono ?_
  rintro e w1 ⟨⟨m1, rfl, hm⟩, hb1⟩
  have HB1 := mkHid (below_step ((Below.refl _ _).alloc (Nat.le_refl _) _) hb1)
  have HM := mkHid hm
  clear hb1 hm
  by_cases hneg : m1 < 0
  ·go_wp2
   go_ret
   exact ⟨⟨_, rfl, .inl (by decide)⟩, HB1.out⟩
  ·go_wp2
   go_ret
   have := HM.out
   refine ⟨⟨_, rfl, .inr ⟨by omega, ?_⟩⟩, HB1.out⟩
   unfold bulk
   omega
end Go.Proofs.YtedfnadgmhjojaaGreatDoor
