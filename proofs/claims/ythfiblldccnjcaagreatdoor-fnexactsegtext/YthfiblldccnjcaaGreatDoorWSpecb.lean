/-
  PLAIN FACTS on words (no Go in sight): what a key word, a sign, a name and a number are, as functions on bytes.
  CONTRACTS of the leaves: isKey, isSign, isLetter, isDigit of the program; l01Letter, l01Digit, l01Between of the specification.
  CONTRACTS of the program's isName, isNum, kindOf, WordOk.
  CONTRACTS of the program's kindOf and WordOk.
  CONTRACTS of the specification's l01Has, l01Key, l01Sign, l01Name, l01Number, l01Kind.
  CONTRACTS of the specification's l01Name, l01Number, l01Kind.
-/
import Derived.Laws.RangeAny
import Derived.Lib.Strings
import Derived.Test.YthfiblldccnjcaaGreatDoorRows
import Derived.WalkKit
import Derived.WalkSpells
import Derived.WalkLawsBesides
namespace Go.Proofs.YthfiblldccnjcaaGreatDoor.Wd
namespace Pl

/-- The key words. -/
def keys : List (List UInt8) := [[97, 114, 114, 97, 121], [99, 104, 101, 99, 107], [101, 108, 115, 101], [102, 111, 114], [102, 114, 111, 109], [105, 102], [108, 101, 110], [114, 101, 97, 100], [115, 107, 105, 112], [115, 116, 111, 112], [116, 111], [118, 97, 114], [119, 104, 105, 108, 101]]
/-- The signs. -/
def signs : List (List UInt8) := [[43], [45], [42], [40], [41], [91], [93], [123], [125], [59], [61], [60], [62], [63], [61, 61], [33, 61], [60, 61], [62, 61]]

def keyB (s : ByteArray) : Bool := keys.contains s.toList
def signB (s : ByteArray) : Bool := signs.contains s.toList

/-- A letter, a digit, told of a number. -/
def lowI (r : Int) : Bool := decide (97 ≤ r) && decide (r ≤ 122)
def digI (r : Int) : Bool := decide (48 ≤ r) && decide (r ≤ 57)
/-- A place of a word. -/
def atB (n : Int) : Bool := decide (0 ≤ n) && decide (n ≤ 4000)

theorem low_iff (r : Int) : lowI r = true ↔ 97 ≤ r ∧ r ≤ 122 := by unfold lowI; simp
theorem dig_iff (r : Int) : digI r = true ↔ 48 ≤ r ∧ r ≤ 57 := by unfold digI; simp
theorem low_not (r : Int) : lowI r = false ↔ ¬ (97 ≤ r ∧ r ≤ 122) := by rw [← low_iff]; simp
theorem dig_not (r : Int) : digI r = false ↔ ¬ (48 ≤ r ∧ r ≤ 57) := by rw [← dig_iff]; simp

/-- The byte at a place, 0 past the end; as a number. -/
def byt (s : ByteArray) (k : Nat) : Int := if h : k < s.size then ((s[k]'h).toNat : Int) else 0
theorem byt_eq (s : ByteArray) (k : Nat) (h : k < s.size) : byt s k = ((s[k]'h).toNat : Int) := dif_pos h
theorem byt_bd (s : ByteArray) (k : Nat) : 0 ≤ byt s k ∧ byt s k ≤ 255 := by
  unfold byt; split
  · rename_i h
    have := (s[k]'h).toNat_lt
    omega
  · omega

/-- What may stand at a place of a name. -/
def nameAt (s : ByteArray) (k : Nat) : Prop := lowI (byt s k) = true ∨ (k ≠ 0 ∧ digI (byt s k) = true)
def nameAtD (s : ByteArray) (k : Nat) : Decidable (nameAt s k) := by unfold nameAt; infer_instance
def nameP (s : ByteArray) : Prop := 1 ≤ s.size ∧ s.size ≤ 8 ∧ keyB s = false ∧ ∀ k, k < s.size → nameAt s k
def namePD (s : ByteArray) : Decidable (nameP s) := by
  have := nameAtD s
  unfold nameP; infer_instance
def nameB (s : ByteArray) : Bool := @decide (nameP s) (namePD s)

/-- The number that the first k bytes are. -/
def val (s : ByteArray) : Nat → Int
  | 0 => 0
  | k + 1 => 10 * val s k + byt s k - 48
def numP (s : ByteArray) : Prop := 1 ≤ s.size ∧ (∀ k, k < s.size → digI (byt s k) = true) ∧ (1 < s.size → byt s 0 ≠ 48) ∧ val s s.size ≤ 1000000
def numPD (s : ByteArray) : Decidable (numP s) := by unfold numP; infer_instance
def numB (s : ByteArray) : Bool := @decide (numP s) (numPD s)
def numV (s : ByteArray) : Int := if numB s then val s s.size else -1

theorem val_nonneg (s : ByteArray) (k : Nat) (h : ∀ j, j < k → digI (byt s j) = true) : 0 ≤ val s k := by
  induction k with
  | zero => simp [val]
  | succ k ih =>
    have h1 := ih (fun j hj => h j (by omega))
    have h2 := (dig_iff _).1 (h k (by omega))
    simp only [val]; omega
theorem val_mono (s : ByteArray) (k n : Nat) (hk : k ≤ n) (h : ∀ j, j < n → digI (byt s j) = true) : val s k ≤ val s n := by
  induction n with
  | zero => have : k = 0 := by omega
            subst this; exact Int.le_refl _
  | succ n ih =>
    by_cases e : k = n + 1
    · subst e; exact Int.le_refl _
    · have h1 := ih (by omega) (fun j hj => h j (by omega))
      have h0 := val_nonneg s n (fun j hj => h j (by omega))
      have h2 := (dig_iff _).1 (h n (by omega))
      simp only [val]; omega
theorem val_long (s : ByteArray) (n : Nat) (hn : 8 ≤ n) (h : ∀ j, j < n → digI (byt s j) = true) (h0 : byt s 0 ≠ 48) : 1000000 < val s n := by
  have m := val_mono s 8 n hn h
  have d0 := (dig_iff _).1 (h 0 (by omega))
  have d1 := (dig_iff _).1 (h 1 (by omega))
  have d2 := (dig_iff _).1 (h 2 (by omega))
  have d3 := (dig_iff _).1 (h 3 (by omega))
  have d4 := (dig_iff _).1 (h 4 (by omega))
  have d5 := (dig_iff _).1 (h 5 (by omega))
  have d6 := (dig_iff _).1 (h 6 (by omega))
  have d7 := (dig_iff _).1 (h 7 (by omega))
  simp only [val] at m
  omega
theorem numV_yes {s : ByteArray} (h : numB s = true) : numV s = val s s.size ∧ 0 ≤ numV s := by
  have hp : numP s := by simpa [numB] using h
  have : numV s = val s s.size := by simp [numV, h]
  exact ⟨this, by rw [this]; exact val_nonneg s _ hp.2.1⟩
theorem numV_no {s : ByteArray} (h : numB s = false) : numV s = -1 := by simp [numV, h]

/-- The kind of a word, 0 when it is none. -/
def kindI (s : ByteArray) : Int := if keyB s then 4 else if nameB s then 1 else if numB s then 2 else if signB s then 3 else 0

theorem toList_byt {s : ByteArray} {c : UInt8} {l : List UInt8} (h : s.toList = c :: l) : byt s 0 = (c.toNat : Int) ∧ 1 ≤ s.size := by
  have hd : s.data.toList = c :: l := by rw [← h]; exact (Lib.toList_data s).symm
  have hz : 0 < s.size := by
    have e := Lib.size_eq s
    rw [hd] at e
    simp only [List.length_cons] at e
    omega
  refine ⟨?_, hz⟩
  rw [byt_eq s 0 hz]
  have : s[0]'hz = c := by
    show s.data[0] = c
    rw [← Array.getElem_toList]
    simp only [hd, List.getElem_cons_zero]
  rw [this]

theorem key_low {s : ByteArray} (h : keyB s = true) : lowI (byt s 0) = true ∧ 1 ≤ s.size := by
  unfold keyB keys at h
  simp only [List.contains_cons, Bool.or_eq_true, beq_iff_eq, List.contains_nil, Bool.false_eq_true, or_false] at h
  rcases h with h | h | h | h | h | h | h | h | h | h | h | h | h <;>
    (obtain ⟨e, e'⟩ := toList_byt h; refine ⟨?_, e'⟩; rw [e]; rfl)
theorem sign_not_low {s : ByteArray} (h : signB s = true) : lowI (byt s 0) = false := by
  unfold signB signs at h
  simp only [List.contains_cons, Bool.or_eq_true, beq_iff_eq, List.contains_nil, Bool.false_eq_true, or_false] at h
  rcases h with h | h | h | h | h | h | h | h | h | h | h | h | h | h | h | h | h | h <;>
    (obtain ⟨e, _⟩ := toList_byt h; rw [e]; rfl)
theorem name_not_key {s : ByteArray} (h : nameB s = true) : keyB s = false := by
  have hp : nameP s := by simpa [nameB] using h
  exact hp.2.2.1
theorem num_not_key {s : ByteArray} (h : numB s = true) : keyB s = false := by
  have hp : numP s := by simpa [numB] using h
  have h0 := (dig_iff _).1 (hp.2.1 0 (by have := hp.1; omega))
  by_cases k : keyB s = true
  · have := (low_iff _).1 (key_low k).1
    omega
  · simpa using k
theorem sign_not_key {s : ByteArray} (h : signB s = true) : keyB s = false := by
  have h0 := sign_not_low h
  by_cases k : keyB s = true
  · rw [(key_low k).1] at h0; cases h0
  · simpa using k
/-- The program asks in another order. -/
theorem kindI_eq (s : ByteArray) : kindI s = if nameB s then 1 else if numB s then 2 else if signB s then 3 else if keyB s then 4 else 0 := by
  unfold kindI
  by_cases h1 : nameB s = true
  · simp [h1, name_not_key h1]
  · by_cases h2 : numB s = true
    · simp [h1, h2, num_not_key h2]
    · by_cases h3 : signB s = true
      · simp [h1, h2, h3, sign_not_key h3]
      · by_cases h4 : keyB s = true <;> simp [h1, h2, h3, h4]

/-- What a round of 'range' over a string gives. -/
theorem next_rune {P : Program} (w : World) (s : ByteArray) (pos : Nat) (h : pos < s.size) : ∃ r d : Nat,
    (∀ ty, (Instr.next (.pointer (some ⟨w.heap.size, 0, none⟩)) true ty).run P (w.iter s pos) = .ok (.tuple #[.bool true, .int .i64 pos, .int .i32 r]) (w.iter s (pos + d))) ∧ 1 ≤ d ∧
    lowI r = lowI (byt s pos) ∧ digI r = digI (byt s pos) ∧ (byt s pos < 128 → r = byt s pos ∧ d = 1) := by
  have hb := byt_eq s pos h
  by_cases ha : (s[pos]'h).toNat < 128
  · refine ⟨(s[pos]'h).toNat, 1, fun ty => run_next_ascii w s pos ty h ha, Nat.le_refl _, ?_, ?_, ?_⟩
    · rw [hb]
    · rw [hb]
    · intro _; exact ⟨hb.symm, rfl⟩
  · have hd := decode_high s pos h (by omega)
    refine ⟨(Utf8.decode s pos).1, (Utf8.decode s pos).2, fun ty => run_next_any w s pos ty h, hd.2, ?_, ?_, ?_⟩
    · rw [(low_not _).2 (by omega), (low_not _).2 (by omega)]
    · rw [(dig_not _).2 (by omega), (dig_not _).2 (by omega)]
    · intro; omega

end Pl
end Go.Proofs.YthfiblldccnjcaaGreatDoor.Wd
namespace Go.Proofs.YthfiblldccnjcaaGreatDoor.Wd
open Go.RowKit
open Pl

theorem ret_bool {a b : Bool} (h : a = b) : Ending.returned (.bool a) = .returned (.bool b) := by rw [h]
theorem ret_int {k : IntKind} {a b : Int} (h : a = b) : Ending.returned (.int k a) = .returned (.int k b) := by rw [h]

theorem isLetter_any (r : Int) (w : World) : Calls Tryz.prog 88 #[.int .i32 r] w fun e w' => e = .returned (.bool (lowI r)) ∧ w = w' := by
  unfold lowI
  go_enter Tryz.func88, Tryz.ntmps88
  go_wp2
  all_goals (go_ret; exact ⟨ret_bool (by simp_all <;> omega), rfl⟩)
theorem isDigit_any (r : Int) (w : World) : Calls Tryz.prog 89 #[.int .i32 r] w fun e w' => e = .returned (.bool (digI r)) ∧ w = w' := by
  unfold digI
  go_enter Tryz.func89, Tryz.ntmps89
  go_wp2
  all_goals (go_ret; exact ⟨ret_bool (by simp_all <;> omega), rfl⟩)
theorem sLetter_any (r : Int) (w : World) : Calls Tryz.prog 79 #[.int .u8 r] w fun e w' => e = .returned (.bool (lowI r)) ∧ w = w' := by
  unfold lowI
  go_enter Tryz.func79, Tryz.ntmps79
  go_wp2
  all_goals (go_ret; exact ⟨ret_bool (by simp_all <;> omega), rfl⟩)
theorem sDigit_any (r : Int) (w : World) : Calls Tryz.prog 81 #[.int .u8 r] w fun e w' => e = .returned (.bool (digI r)) ∧ w = w' := by
  unfold digI
  go_enter Tryz.func81, Tryz.ntmps81
  go_wp2
  all_goals (go_ret; exact ⟨ret_bool (by simp_all <;> omega), rfl⟩)
theorem sBetween_any (n : Int) (w : World) : Calls Tryz.prog 54 #[.int .i64 n, .int .i64 0, .int .i64 4000] w fun e w' => e = .returned (.bool (atB n)) ∧ w = w' := by
  unfold atB
  go_enter Tryz.func54, Tryz.ntmps54
  go_wp2
  all_goals (go_ret; exact ⟨ret_bool (by simp_all <;> omega), rfl⟩)

set_option maxHeartbeats 400000 in
theorem isKey_any (s : ByteArray) (w : World) : Calls Tryz.prog 87 #[.string s] w fun e w' => e = .returned (.bool (keyB s)) ∧ w = w' := by
  unfold keyB keys
  go_enter Tryz.func87, Tryz.ntmps87
  go_wp2
  all_goals (go_ret; exact ⟨ret_bool (by simp_all <;> omega), rfl⟩)

end Go.Proofs.YthfiblldccnjcaaGreatDoor.Wd
namespace Go.Proofs.YthfiblldccnjcaaGreatDoor.Wd
open Go.RowKit
open Pl

theorem mkHid {p : Prop} (h : p) : Hid p := h
theorem below_iter (w : World) (s : ByteArray) (pos : Nat) : Below w.heap.size w (w.iter s pos) := (Below.refl _ _).alloc (Nat.le_refl _) _
theorem nameB_of {s : ByteArray} {b : Bool} (h : nameP s ↔ b = true) : nameB s = b := by
  unfold nameB
  by_cases p : nameP s
  · simp [p, h.1 p]
  · have : b = false := by cases b <;> simp_all
    simp [p, this]
theorem numB_of {s : ByteArray} {b : Bool} (h : numP s ↔ b = true) : numB s = b := by
  unfold numB
  by_cases p : numP s
  · simp [p, h.1 p]
  · have : b = false := by cases b <;> simp_all
    simp [p, this]

set_option maxHeartbeats 400000 in
theorem isName_any (s : ByteArray) (w : World) (hs : s.size ≤ maxLen) : Calls Tryz.prog 68 #[.string s] w fun e w' => e = .returned (.bool (nameB s)) ∧ Below w.heap.size w w' := by
  unfold maxLen at hs
  by_cases h8 : 8 < s.size
  · go_enter Tryz.func68, Tryz.ntmps68
    go_wp2
    go_ret
    exact ⟨ret_bool (nameB_of (by unfold nameP; simp; omega)).symm, Below.refl _ _⟩
  · by_cases hk : keyB s = true
    · go_enter Tryz.func68, Tryz.ntmps68
      go_wp2_with (go_at_call 87; refine (isKey_any _ _).mono ?_; rintro e w' ⟨rfl, rfl⟩)
      go_ret
      exact ⟨ret_bool (nameB_of (by unfold nameP; simp [hk])).symm, Below.refl _ _⟩
    · simp only [Bool.not_eq_true] at hk
      go_enter Tryz.func68, Tryz.ntmps68
      go_wp2_with (go_at_call 87; refine (isKey_any _ _).mono ?_; rintro e w' ⟨rfl, rfl⟩)
      go_loopw [3] (fun _ w' => ∃ pos : Nat, w' = w.iter s pos ∧ pos ≤ s.size ∧ ∀ k, k < pos → nameAt s k) (fun _ w' => s.size - w'.iterPos w.heap.size)
      case atStart => exact ⟨0, rfl, Nat.zero_le _, fun k hk => by omega⟩
      case round =>
        obtain ⟨pos, rfl, hps, hall⟩ := hrel
        by_cases hp : pos < s.size
        · obtain ⟨r, d, hnx0, hd1, hl, hg, hr⟩ := next_rune (P := Tryz.prog) w s pos hp
          have hnx := hnx0
          clear hnx0
          by_cases g1 : lowI r = true
          · have hd : d = 1 := (hr (by rw [hl, low_iff] at g1; omega)).2
            subst hd
            have hA : nameAt s pos := .inl (by rw [← hl]; exact g1)
            clear hr hg
            have HL : Hid (lowI r = lowI (byt s pos)) := hl
            clear hl
            go_wp2_with (first | (go_at_call 88; refine (isLetter_any _ _).mono ?_; rintro e w' ⟨rfl, rfl⟩) | (go_at_call 89; refine (isDigit_any _ _).mono ?_; rintro e w' ⟨rfl, rfl⟩))
            go_roundw
            case rel => exact ⟨pos + 1, rfl, by omega, fun k hk => by rcases (by omega : k < pos ∨ k = pos) with h | rfl; exact hall k h; exact hA⟩
            case measure => simp; omega
          · simp only [Bool.not_eq_true] at g1
            by_cases g2 : pos ≠ 0 ∧ digI r = true
            · obtain ⟨g2, g3⟩ := g2
              have hz : ((pos : Int) == 0) = false := by simp; omega
              have hd : d = 1 := (hr (by rw [hg, dig_iff] at g3; omega)).2
              subst hd
              have hA : nameAt s pos := .inr ⟨g2, by rw [← hg]; exact g3⟩
              clear hr hl hg
              go_wp2_with (first | (go_at_call 88; refine (isLetter_any _ _).mono ?_; rintro e w' ⟨rfl, rfl⟩) | (go_at_call 89; refine (isDigit_any _ _).mono ?_; rintro e w' ⟨rfl, rfl⟩))
              go_roundw
              case rel => exact ⟨pos + 1, rfl, by omega, fun k hk => by rcases (by omega : k < pos ∨ k = pos) with h | rfl; exact hall k h; exact hA⟩
              case measure => simp; omega
            · have hno : nameB s = false := nameB_of (by
                unfold nameP nameAt
                simp only [Bool.false_eq_true, iff_false]
                rintro ⟨_, _, _, hq⟩
                have := hq pos hp
                rw [← hl, ← hg, g1] at this
                simp at this
                exact g2 this)
              clear hl hg hr
              by_cases g3 : pos = 0
              · have hz : ((pos : Int) == 0) = true := by simp; omega
                clear g2 g3
                go_wp2_with (first | (go_at_call 88; refine (isLetter_any _ _).mono ?_; rintro e w' ⟨rfl, rfl⟩) | (go_at_call 89; refine (isDigit_any _ _).mono ?_; rintro e w' ⟨rfl, rfl⟩))
                go_ret
                exact ⟨ret_bool hno.symm, below_iter _ _ _⟩
              · have hz : ((pos : Int) == 0) = false := by simp; omega
                have g4 : digI r = false := by
                  by_cases q : digI r = true
                  · exact absurd ⟨g3, q⟩ g2
                  · simpa using q
                clear g2
                go_wp2_with (first | (go_at_call 88; refine (isLetter_any _ _).mono ?_; rintro e w' ⟨rfl, rfl⟩) | (go_at_call 89; refine (isDigit_any _ _).mono ?_; rintro e w' ⟨rfl, rfl⟩))
                go_ret
                exact ⟨ret_bool hno.symm, below_iter _ _ _⟩
        · have hnx : ∀ ty, (Instr.next (.pointer (some ⟨w.heap.size, 0, none⟩)) true ty).run Tryz.prog (w.iter s pos) = _ := fun ty => run_next_end w s pos ty hp
          have hq : nameB s = !s.toList.isEmpty := nameB_of (by
            unfold nameP
            have : s.toList = [] ↔ s.size = 0 := by rw [Lib.toList_data, Lib.size_eq]; exact List.length_eq_zero_iff.symm
            simp only [Bool.not_eq_true', List.isEmpty_eq_false_iff, ne_eq, this]
            exact ⟨fun h => by omega, fun h => ⟨by omega, by omega, hk, fun k hk' => hall k (by omega)⟩⟩)
          go_wp2
          go_ret
          exact ⟨ret_bool hq.symm, below_iter _ _ _⟩

theorem numB_zero {s : ByteArray} {pos : Nat} (hp : pos < s.size) (h1 : 1 ≤ pos) (hv : val s pos = 0) (h2 : 2 ≤ pos → 10 ≤ val s pos ∧ byt s 0 ≠ 48) : numB s = false := numB_of (by
  unfold numP
  simp only [Bool.false_eq_true, iff_false]
  rintro ⟨_, _, hz, _⟩
  have e : pos = 1 := by
    by_cases q : 2 ≤ pos
    · have := h2 q; omega
    · omega
  subst e
  simp only [val] at hv
  have := hz (by omega)
  omega)

end Go.Proofs.YthfiblldccnjcaaGreatDoor.Wd
namespace Go.Proofs.YthfiblldccnjcaaGreatDoor.Wd
open Go.RowKit
open Pl

theorem bcell {W w1 : World} (hb : Below W.heap.size W w1) : (∀ b o, b < W.heap.size → w1.cell? ⟨b, o, none⟩ = W.cell? ⟨b, o, none⟩) ∧ (∀ b o, b < W.heap.size → w1.frozen? ⟨b, o, none⟩ = W.frozen? ⟨b, o, none⟩) :=
  ⟨fun b o h => hb.cell (p := ⟨b, o, none⟩) h, fun b o h => hb.frozen (p := ⟨b, o, none⟩) h⟩
theorem below_step {w w1 w2 : World} (h1 : Below w.heap.size w w1) (h2 : Below w1.heap.size w1 w2) : Below w.heap.size w w2 := h1.trans (h2.mono h1.size)

/-- Whether a word can be one of some text. -/
def wordB (k : Int) (s : ByteArray) (a : Int) : Bool := decide (kindI s ≠ 0) && decide (kindI s = k) && atB a

end Go.Proofs.YthfiblldccnjcaaGreatDoor.Wd
namespace Go.Proofs.YthfiblldccnjcaaGreatDoor.Wd
open Go.RowKit
open Pl

def str (l : List UInt8) : ByteArray := ⟨l.toArray⟩
def hasB (ls : List (List UInt8)) (s : ByteArray) : Bool := ls.contains s.toList
theorem getD_get (ls : List (List UInt8)) (k : Nat) (h : k < ls.length) : ls.getD k [] = ls[k] := by simp [List.getD, h]
theorem hasB_yes {ls : List (List UInt8)} {s c : ByteArray} {k : Nat} (h : k < ls.length) (he : (c.toList == s.toList) = true) (hv : c.toList = ls.getD k []) : hasB ls s = true := by
  have e := eq_of_beq he
  unfold hasB
  rw [List.contains_iff_mem, ← e, hv, getD_get _ _ h]
  exact List.getElem_mem _
theorem hasB_no {ls : List (List UInt8)} {s : ByteArray} (h : ∀ j, j < ls.length → (ls.getD j [] == s.toList) = false) : hasB ls s = false := by
  unfold hasB
  rw [Bool.eq_false_iff]
  intro hm
  rw [List.contains_iff_mem] at hm
  obtain ⟨j, hj, e⟩ := List.getElem_of_mem hm
  have := h j hj
  rw [getD_get _ _ hj, e] at this
  simp at this
theorem str_toList (l : List UInt8) : (str l).toList = l := by unfold str; simp
set_option maxHeartbeats 400000 in
theorem sHas_any (ls : List (List UInt8)) (s : ByteArray) (b : Nat) (w : World) (hn : ls.length ≤ 100) (hcell : ∀ i, i < ls.length → w.cell? ⟨b, i, none⟩ = some (.string (str (ls.getD i [])))) :
    Calls Tryz.prog 101 #[.slice (some ⟨b, 0, none⟩) ls.length ls.length, .string s] w fun e w' => e = .returned (.bool (hasB ls s)) ∧ w = w' := by
  have HC := mkHid hcell
  clear hcell
  go_enter Tryz.func101, Tryz.ntmps101
  go_wp2
  go_loop [5] (fun i => ∃ k : Nat, k ≤ ls.length ∧ i = .int .i64 k ∧ ∀ j, j < k → (ls.getD j [] == s.toList) = false) (fun i => ls.length - (intOf i).toNat)
  case atStart => exact ⟨0, Nat.zero_le _, rfl, fun j hj => by omega⟩
  case round =>
    obtain ⟨k, hk, rfl, hall⟩ := hrel
    have HA := mkHid hall
    clear hall
    by_cases hlt : k < ls.length
    · obtain ⟨c, hck, HV⟩ : ∃ c : ByteArray, w.cell? ⟨b, k, none⟩ = some (.string c) ∧ Hid (c.toList = ls.getD k []) := ⟨_, HC.out k hlt, str_toList _⟩
      by_cases he : (c.toList == s.toList) = true
      · have HN := mkHid (hasB_yes hlt he HV.out)
        clear HA HV HC
        go_wp2
        go_ret
        exact ⟨ret_bool HN.out.symm, rfl⟩
      · simp only [Bool.not_eq_true] at he
        have HN := mkHid (show ∀ j, j < k + 1 → (ls.getD j [] == s.toList) = false from fun j hj => by
          rcases (by omega : j < k ∨ j = k) with h | rfl
          · exact HA.out j h
          · rw [← HV.out]; exact he)
        clear HA HV HC
        go_wp2
        go_round
        case rel => exact ⟨k + 1, by omega, by go_num, HN.out⟩
        case measure => simp [intOf]; omega
    · have HN := mkHid (hasB_no (s := s) (fun j hj => HA.out j (by omega)))
      clear HA HC
      go_wp2
      go_ret
      exact ⟨ret_bool HN.out.symm, rfl⟩

theorem rowFact (C : Array Value) (ls : List (List UInt8)) (h : C.toList = ls.map (fun l => .string (str l))) (i : Nat) (hi : i < ls.length) : C[i]? = some (.string (str (ls.getD i []))) := by
  rw [← Array.getElem?_toList, h, getD_get _ _ hi]
  simp [hi]

set_option maxHeartbeats 400000 in
theorem sKey_any (s : ByteArray) (w : World) : Calls Tryz.prog 80 #[.string s] w fun e w' => e = .returned (.bool (keyB s)) ∧ Below w.heap.size w w' := by
  go_enter Tryz.func80, Tryz.ntmps80
  go_wp2_with fail
  refine (sHas_any keys s w.heap.size _ (by decide) (fun i hi => ?_)).mono ?_
  · rw [World.cell?_alloc_new]
    exact rowFact _ keys rfl i hi
  rintro e w' ⟨rfl, rfl⟩
  go_wp2
  go_ret
  exact ⟨rfl, (Below.refl _ _).alloc (Nat.le_refl _) _⟩
end Go.Proofs.YthfiblldccnjcaaGreatDoor.Wd
namespace Go.Proofs.YthfiblldccnjcaaGreatDoor.Wd
open Go.RowKit
open Pl

set_option maxHeartbeats 400000 in
theorem sName_any (s : ByteArray) (w : World) (hs : s.size ≤ maxLen) : Calls Tryz.prog 57 #[.string s] w fun e w' => e = .returned (.bool (nameB s)) ∧ Below w.heap.size w w' := by
  unfold maxLen at hs
  by_cases h1 : (s.size : Int) < 1
  · have HN := mkHid (show nameB s = false from nameB_of (by unfold nameP; simp; omega))
    go_enter Tryz.func57, Tryz.ntmps57
    go_wp2
    go_ret
    exact ⟨ret_bool HN.out.symm, Below.refl _ _⟩
  · by_cases h8 : 8 < (s.size : Int)
    · have HN := mkHid (show nameB s = false from nameB_of (by unfold nameP; simp; omega))
      go_enter Tryz.func57, Tryz.ntmps57
      go_wp2
      go_ret
      exact ⟨ret_bool HN.out.symm, Below.refl _ _⟩
    · have hz : 0 < s.size := by omega
      by_cases hl : lowI (((s[0]'hz).toNat : Nat) : Int) = true
      · by_cases hk : keyB s = true
        · have HN := mkHid (show nameB s = false from nameB_of (by unfold nameP; simp [hk]))
          go_enter Tryz.func57, Tryz.ntmps57
          go_wp2_with (first | (go_at_call 79; refine (sLetter_any _ _).mono ?_; rintro e w' ⟨rfl, rfl⟩) | (go_at_call 80; refine (sKey_any _ _).mono ?_; rintro e w1 ⟨rfl, hb1⟩))
          go_ret
          exact ⟨ret_bool HN.out.symm, hb1⟩
        · simp only [Bool.not_eq_true] at hk
          have HL := mkHid (show nameAt s 0 from .inl (by rw [byt_eq s 0 hz]; exact hl))
          go_enter Tryz.func57, Tryz.ntmps57
          go_wp2_with (first | (go_at_call 79; refine (sLetter_any _ _).mono ?_; rintro e w' ⟨rfl, rfl⟩) | (go_at_call 80; refine (sKey_any _ _).mono ?_; rintro e w1 ⟨rfl, hb1⟩))
          go_loop [3] (fun i => ∃ k : Nat, k ≤ s.size ∧ i = .int .i64 k ∧ ∀ j, j < k → nameAt s j) (fun i => s.size - (intOf i).toNat)
          case atStart => exact ⟨0, Nat.zero_le _, rfl, fun j hj => by omega⟩
          case round =>
            obtain ⟨k, hks, rfl, hall⟩ := hrel
            have HA := mkHid hall
            have HB := mkHid hb1
            clear hall hb1 hl
            by_cases hlt : k < s.size
            · have HE := mkHid (byt_eq s k hlt)
              by_cases g1 : lowI (((s[k]'hlt).toNat : Nat) : Int) = true
              · have HN := mkHid (show ∀ j, j < k + 1 → nameAt s j from fun j hj => by
                  rcases (by omega : j < k ∨ j = k) with h | rfl
                  · exact HA.out j h
                  · exact .inl (by rw [HE.out]; exact g1))
                clear HA HE HL
                go_wp2_with (first | (go_at_call 79; refine (sLetter_any _ _).mono ?_; rintro e w' ⟨rfl, rfl⟩) | (go_at_call 81; refine (sDigit_any _ _).mono ?_; rintro e w' ⟨rfl, rfl⟩))
                go_round
                case rel => exact ⟨k + 1, by omega, by go_num, HN.out⟩
                case measure => simp [intOf]; omega
              · simp only [Bool.not_eq_true] at g1
                by_cases g2 : digI (((s[k]'hlt).toNat : Nat) : Int) = true
                · have HN := mkHid (show ∀ j, j < k + 1 → nameAt s j from fun j hj => by
                    rcases (by omega : j < k ∨ j = k) with h | rfl
                    · exact HA.out j h
                    · by_cases hj0 : j = 0
                      · subst hj0; exact HL.out
                      · exact .inr ⟨hj0, by rw [HE.out]; exact g2⟩)
                  clear HA HE HL
                  go_wp2_with (first | (go_at_call 79; refine (sLetter_any _ _).mono ?_; rintro e w' ⟨rfl, rfl⟩) | (go_at_call 81; refine (sDigit_any _ _).mono ?_; rintro e w' ⟨rfl, rfl⟩))
                  go_round
                  case rel => exact ⟨k + 1, by omega, by go_num, HN.out⟩
                  case measure => simp [intOf]; omega
                · simp only [Bool.not_eq_true] at g2
                  have HN := mkHid (show nameB s = false from nameB_of (by
                    unfold nameP nameAt
                    simp only [Bool.false_eq_true, iff_false]
                    rintro ⟨_, _, _, hq⟩
                    have := hq k hlt
                    rw [HE.out, g1, g2] at this
                    simp at this))
                  clear HA HE HL
                  go_wp2_with (first | (go_at_call 79; refine (sLetter_any _ _).mono ?_; rintro e w' ⟨rfl, rfl⟩) | (go_at_call 81; refine (sDigit_any _ _).mono ?_; rintro e w' ⟨rfl, rfl⟩))
                  go_ret
                  exact ⟨ret_bool HN.out.symm, HB.out⟩
            · have HN := mkHid (show nameB s = true from nameB_of (by
                unfold nameP
                simp only [iff_true]
                exact ⟨by omega, by omega, hk, fun j hj => HA.out j (by omega)⟩))
              clear HA HL
              go_wp2
              go_ret
              exact ⟨ret_bool HN.out.symm, HB.out⟩
      · have HN := mkHid (show nameB s = false from nameB_of (by
          unfold nameP nameAt
          simp only [Bool.false_eq_true, iff_false]
          rintro ⟨_, _, _, hq⟩
          have := hq 0 hz
          rw [byt_eq s 0 hz] at this
          simp at this
          exact hl this))
        simp only [Bool.not_eq_true] at hl
        go_enter Tryz.func57, Tryz.ntmps57
        go_wp2_with (first | (go_at_call 79; refine (sLetter_any _ _).mono ?_; rintro e w' ⟨rfl, rfl⟩) | (go_at_call 80; refine (sKey_any _ _).mono ?_; rintro e w1 ⟨rfl, hb1⟩))
        go_ret
        exact ⟨ret_bool HN.out.symm, Below.refl _ _⟩
end Go.Proofs.YthfiblldccnjcaaGreatDoor.Wd
