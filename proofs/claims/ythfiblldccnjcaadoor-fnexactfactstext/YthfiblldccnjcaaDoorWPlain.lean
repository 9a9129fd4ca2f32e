/-
  PLAIN FACTS on words (no Go in sight): what a key word, a sign, a name and a number are, as functions on bytes.
-/
import Derived.Laws.RangeAny
import Derived.Lib.Strings
namespace Go.Proofs.YthfiblldccnjcaaDoor.Wd
namespace Pl

/-- The key words. -/
def keys : List (List UInt8) := [[97, 114, 114, 97, 121], [99, 104, 101, 99, 107], [101, 108, 115, 101], [102, 111, 114], [102, 114, 111, 109], [105, 102], [108, 101, 110], [114, 101, 97, 100], [115, 107, 105, 112], [115, 116, 111, 112], [116, 111], [118, 97, 114], [119, 104, 105, 108, 101]]
/-- The signs. -/
def signs : List (List UInt8) := [[43], [45], [42], [40], [41], [91], [93], [123], [125], [59], [61], [60], [62], [63], [61, 61], [33, 61], [60, 61], [62, 61]]

def keyB (s : ByteArray) : Bool := keys.contains s.toList
def signB (s : ByteArray) : Bool := signs.contains s.toList

/-- A letter, a digit, told of a number. -/
def lowI (r : Int) : Bool := decide (97 ≤ r) && decide (r ≤ 122)
def digI (r : Int) : Bool := decide (48 ≤ r) && decide (r ≤ 57)
/-- A place of a word. -/
def atB (n : Int) : Bool := decide (0 ≤ n) && decide (n ≤ 4000)

theorem low_iff (r : Int) : lowI r = true ↔ 97 ≤ r ∧ r ≤ 122 := by unfold lowI; simp
theorem dig_iff (r : Int) : digI r = true ↔ 48 ≤ r ∧ r ≤ 57 := by unfold digI; simp
theorem low_not (r : Int) : lowI r = false ↔ ¬ (97 ≤ r ∧ r ≤ 122) := by rw [← low_iff]; simp
theorem dig_not (r : Int) : digI r = false ↔ ¬ (48 ≤ r ∧ r ≤ 57) := by rw [← dig_iff]; simp

/-- The byte at a place, 0 past the end; as a number. -/
def byt (s : ByteArray) (k : Nat) : Int := if h : k < s.size then ((s[k]'h).toNat : Int) else 0
theorem byt_eq (s : ByteArray) (k : Nat) (h : k < s.size) : byt s k = ((s[k]'h).toNat : Int) := dif_pos h
theorem byt_bd (s : ByteArray) (k : Nat) : 0 ≤ byt s k ∧ byt s k ≤ 255 := by
  unfold byt; split
  · rename_i h
    have := (s[k]'h).toNat_lt
    omega
  · omega

/-- What may stand at a place of a name. -/
def nameAt (s : ByteArray) (k : Nat) : Prop := lowI (byt s k) = true ∨ (k ≠ 0 ∧ digI (byt s k) = true)
def nameAtD (s : ByteArray) (k : Nat) : Decidable (nameAt s k) := by unfold nameAt; infer_instance
def nameP (s : ByteArray) : Prop := 1 ≤ s.size ∧ s.size ≤ 8 ∧ keyB s = false ∧ ∀ k, k < s.size → nameAt s k
def namePD (s : ByteArray) : Decidable (nameP s) := by
  have := nameAtD s
  unfold nameP; infer_instance
def nameB (s : ByteArray) : Bool := @decide (nameP s) (namePD s)

/-- The number that the first k bytes are. -/
def val (s : ByteArray) : Nat → Int
  | 0 => 0
  | k + 1 => 10 * val s k + byt s k - 48
def numP (s : ByteArray) : Prop := 1 ≤ s.size ∧ (∀ k, k < s.size → digI (byt s k) = true) ∧ (1 < s.size → byt s 0 ≠ 48) ∧ val s s.size ≤ 1000000
def numPD (s : ByteArray) : Decidable (numP s) := by unfold numP; infer_instance
def numB (s : ByteArray) : Bool := @decide (numP s) (numPD s)
def numV (s : ByteArray) : Int := if numB s then val s s.size else -1

theorem val_nonneg (s : ByteArray) (k : Nat) (h : ∀ j, j < k → digI (byt s j) = true) : 0 ≤ val s k := by
  induction k with
  | zero => simp [val]
  | succ k ih =>
    have h1 := ih (fun j hj => h j (by omega))
    have h2 := (dig_iff _).1 (h k (by omega))
    simp only [val]; omega
theorem val_mono (s : ByteArray) (k n : Nat) (hk : k ≤ n) (h : ∀ j, j < n → digI (byt s j) = true) : val s k ≤ val s n := by
  induction n with
  | zero => have : k = 0 := by omega
            subst this; exact Int.le_refl _
  | succ n ih =>
    by_cases e : k = n + 1
    · subst e; exact Int.le_refl _
    · have h1 := ih (by omega) (fun j hj => h j (by omega))
      have h0 := val_nonneg s n (fun j hj => h j (by omega))
      have h2 := (dig_iff _).1 (h n (by omega))
      simp only [val]; omega
theorem val_long (s : ByteArray) (n : Nat) (hn : 8 ≤ n) (h : ∀ j, j < n → digI (byt s j) = true) (h0 : byt s 0 ≠ 48) : 1000000 < val s n := by
  have m := val_mono s 8 n hn h
  have d0 := (dig_iff _).1 (h 0 (by omega))
  have d1 := (dig_iff _).1 (h 1 (by omega))
  have d2 := (dig_iff _).1 (h 2 (by omega))
  have d3 := (dig_iff _).1 (h 3 (by omega))
  have d4 := (dig_iff _).1 (h 4 (by omega))
  have d5 := (dig_iff _).1 (h 5 (by omega))
  have d6 := (dig_iff _).1 (h 6 (by omega))
  have d7 := (dig_iff _).1 (h 7 (by omega))
  simp only [val] at m
  omega
theorem numV_yes {s : ByteArray} (h : numB s = true) : numV s = val s s.size ∧ 0 ≤ numV s := by
  have hp : numP s := by simpa [numB] using h
  have : numV s = val s s.size := by simp [numV, h]
  exact ⟨this, by rw [this]; exact val_nonneg s _ hp.2.1⟩
theorem numV_no {s : ByteArray} (h : numB s = false) : numV s = -1 := by simp [numV, h]

/-- The kind of a word, 0 when it is none. -/
def kindI (s : ByteArray) : Int := if keyB s then 4 else if nameB s then 1 else if numB s then 2 else if signB s then 3 else 0

theorem toList_byt {s : ByteArray} {c : UInt8} {l : List UInt8} (h : s.toList = c :: l) : byt s 0 = (c.toNat : Int) ∧ 1 ≤ s.size := by
  have hd : s.data.toList = c :: l := by rw [← h]; exact (Lib.toList_data s).symm
  have hz : 0 < s.size := by
    have e := Lib.size_eq s
    rw [hd] at e
    simp only [List.length_cons] at e
    omega
  refine ⟨?_, hz⟩
  rw [byt_eq s 0 hz]
  have : s[0]'hz = c := by
    show s.data[0] = c
    rw [← Array.getElem_toList]
    simp only [hd, List.getElem_cons_zero]
  rw [this]

theorem key_low {s : ByteArray} (h : keyB s = true) : lowI (byt s 0) = true ∧ 1 ≤ s.size := by
  unfold keyB keys at h
  simp only [List.contains_cons, Bool.or_eq_true, beq_iff_eq, List.contains_nil, Bool.false_eq_true, or_false] at h
  rcases h with h | h | h | h | h | h | h | h | h | h | h | h | h <;>
    (obtain ⟨e, e'⟩ := toList_byt h; refine ⟨?_, e'⟩; rw [e]; rfl)
theorem sign_not_low {s : ByteArray} (h : signB s = true) : lowI (byt s 0) = false := by
  unfold signB signs at h
  simp only [List.contains_cons, Bool.or_eq_true, beq_iff_eq, List.contains_nil, Bool.false_eq_true, or_false] at h
  rcases h with h | h | h | h | h | h | h | h | h | h | h | h | h | h | h | h | h | h <;>
    (obtain ⟨e, _⟩ := toList_byt h; rw [e]; rfl)
theorem name_not_key {s : ByteArray} (h : nameB s = true) : keyB s = false := by
  have hp : nameP s := by simpa [nameB] using h
  exact hp.2.2.1
theorem num_not_key {s : ByteArray} (h : numB s = true) : keyB s = false := by
  have hp : numP s := by simpa [numB] using h
  have h0 := (dig_iff _).1 (hp.2.1 0 (by have := hp.1; omega))
  by_cases k : keyB s = true
  · have := (low_iff _).1 (key_low k).1
    omega
  · simpa using k
theorem sign_not_key {s : ByteArray} (h : signB s = true) : keyB s = false := by
  have h0 := sign_not_low h
  by_cases k : keyB s = true
  · rw [(key_low k).1] at h0; cases h0
  · simpa using k
/-- The program asks in another order. -/
theorem kindI_eq (s : ByteArray) : kindI s = if nameB s then 1 else if numB s then 2 else if signB s then 3 else if keyB s then 4 else 0 := by
  unfold kindI
  by_cases h1 : nameB s = true
  · simp [h1, name_not_key h1]
  · by_cases h2 : numB s = true
    · simp [h1, h2, num_not_key h2]
    · by_cases h3 : signB s = true
      · simp [h1, h2, h3, sign_not_key h3]
      · by_cases h4 : keyB s = true <;> simp [h1, h2, h3, h4]

/-- What a round of 'range' over a string gives. -/
theorem next_rune {P : Program} (w : World) (s : ByteArray) (pos : Nat) (h : pos < s.size) : ∃ r d : Nat,
    (∀ ty, (Instr.next (.pointer (some ⟨w.heap.size, 0, none⟩)) true ty).run P (w.iter s pos) = .ok (.tuple #[.bool true, .int .i64 pos, .int .i32 r]) (w.iter s (pos + d))) ∧ 1 ≤ d ∧
    lowI r = lowI (byt s pos) ∧ digI r = digI (byt s pos) ∧ (byt s pos < 128 → r = byt s pos ∧ d = 1) := by
  have hb := byt_eq s pos h
  by_cases ha : (s[pos]'h).toNat < 128
  · refine ⟨(s[pos]'h).toNat, 1, fun ty => run_next_ascii w s pos ty h ha, Nat.le_refl _, ?_, ?_, ?_⟩
    · rw [hb]
    · rw [hb]
    · intro _; exact ⟨hb.symm, rfl⟩
  · have hd := decode_high s pos h (by omega)
    refine ⟨(Utf8.decode s pos).1, (Utf8.decode s pos).2, fun ty => run_next_any w s pos ty h, hd.2, ?_, ?_, ?_⟩
    · rw [(low_not _).2 (by omega), (low_not _).2 (by omega)]
    · rw [(dig_not _).2 (by omega), (dig_not _).2 (by omega)]
    · intro; omega

end Pl
end Go.Proofs.YthfiblldccnjcaaDoor.Wd
