/-
  PLAIN FACTS on parts of a text; CONTRACTS of the program's isBlank, noteSize, longestSign, longestWord, and of strings.Clone.
-/
import Derived.Test.YthaehhndfahocaaWds
import Derived.Lib.IndexLaws
namespace Go.Proofs.Ythaehhndfahocaa
open Go.RowKit
open Pl

theorem byt_list (s : ByteArray) (k : Nat) : byt s k = ((s.data.toList.getD k 0).toNat : Int) := by
  unfold byt
  by_cases h : k < s.size
  · rw [dif_pos h]
    have h' : k < s.data.toList.length := by rw [← Lib.size_eq]; exact h
    rw [List.getD_eq_getElem?_getD, List.getElem?_eq_getElem h']
    simp only [Option.getD_some, Array.getElem_toList]
    rfl
  · rw [dif_neg h]
    have h' : s.data.toList.length ≤ k := by rw [← Lib.size_eq]; omega
    rw [List.getD_eq_getElem?_getD, List.getElem?_eq_none h']
    rfl
theorem size_ext (s : ByteArray) (a b : Nat) (h : b ≤ s.size) : (s.extract a b).size = b - a := by
  rw [Lib.size_eq, Lib.extract_data]
  rw [Lib.size_eq] at h
  simp only [List.length_take, List.length_drop]
  omega
theorem byt_ext (s : ByteArray) (a b k : Nat) (hk : a + k < b) : byt (s.extract a b) k = byt s (a + k) := by
  rw [byt_list, byt_list, Lib.extract_data, List.getD_eq_getElem?_getD, List.getD_eq_getElem?_getD, List.getElem?_take_of_lt (by omega), List.getElem?_drop]
theorem ext_ext (s : ByteArray) (a b c d : Nat) (hd : a + d ≤ b) : (s.extract a b).extract c d = s.extract (a + c) (a + d) := by
  rw [Lib.extract_eq, Lib.extract_data, Lib.extract_eq]
  congr 2
  rw [List.drop_take, List.drop_drop, List.take_take]
  congr 1
  omega
theorem alnum_ext (s : ByteArray) (a b k : Nat) (hk : a + k < b) : alnum (s.extract a b) k = alnum s (a + k) := by
  unfold alnum; rw [byt_ext s a b k hk]
theorem toList_inj {s t : ByteArray} (h : s.toList = t.toList) : s = t := by
  rw [← Lib.mk_data s, ← Lib.mk_data t, ← Lib.toList_data, ← Lib.toList_data, h]

/-- The rest of a text from a place on. -/
def rest (s : ByteArray) (p : Nat) : ByteArray := s.extract p s.size
theorem noteE_rest {s : ByteArray} {p : Nat} (h : p ≤ s.size) : p + noteE (rest s p) 0 = noteE s p := by
  have hz : (rest s p).size = s.size - p := size_ext s p s.size (Nat.le_refl _)
  obtain ⟨_, b, c, d⟩ := first_is (fun j => byt (rest s p) j == 10) (rest s p).size 0 (Nat.zero_le _)
  have b' : noteE (rest s p) 0 ≤ (rest s p).size := b
  refine (first_eq ⟨by omega, by omega, fun j h1 h2 => ?_, ?_⟩).symm
  · have : (byt (rest s p) (j - p) == 10) = false := c (j - p) (Nat.zero_le _) (show j - p < noteE (rest s p) 0 by omega)
    unfold rest at this
    rw [byt_ext s p s.size (j - p) (by omega)] at this
    rwa [show p + (j - p) = j by omega] at this
  · rcases d with h1 | h1
    · left; have h1' : noteE (rest s p) 0 = (rest s p).size := h1; omega
    · by_cases e : noteE (rest s p) 0 = (rest s p).size
      · left; omega
      · right
        have h1' : (byt (rest s p) (noteE (rest s p) 0) == 10) = true := h1
        unfold rest at h1'
        rw [byt_ext s p s.size _ (by have : (s.extract p s.size).size = s.size - p := hz
                                     have : noteE (s.extract p s.size) 0 = noteE (rest s p) 0 := rfl
                                     omega)] at h1'
        exact h1'
theorem runE_rest {s : ByteArray} {p : Nat} (h : p ≤ s.size) : p + runE (rest s p) 0 = runE s p := by
  have hz : (rest s p).size = s.size - p := size_ext s p s.size (Nat.le_refl _)
  obtain ⟨_, b, c, d⟩ := first_is (fun j => !alnum (rest s p) j) (rest s p).size 0 (Nat.zero_le _)
  have b' : runE (rest s p) 0 ≤ (rest s p).size := b
  refine (first_eq ⟨by omega, by omega, fun j h1 h2 => ?_, ?_⟩).symm
  · have : (!alnum (rest s p) (j - p)) = false := c (j - p) (Nat.zero_le _) (show j - p < runE (rest s p) 0 by omega)
    unfold rest at this
    rw [alnum_ext s p s.size (j - p) (by omega)] at this
    rwa [show p + (j - p) = j by omega] at this
  · rcases d with h1 | h1
    · left; have h1' : runE (rest s p) 0 = (rest s p).size := h1; omega
    · by_cases e : runE (rest s p) 0 = (rest s p).size
      · left; omega
      · right
        have h1' : (!alnum (rest s p) (runE (rest s p) 0)) = true := h1
        unfold rest at h1'
        rw [alnum_ext s p s.size _ (by have : (s.extract p s.size).size = s.size - p := hz
                                       have : runE (s.extract p s.size) 0 = runE (rest s p) 0 := rfl
                                       omega)] at h1'
        exact h1'

def blkI (r : Int) : Bool := r == 32 || r == 10
theorem isBlank_any (r : Int) (w : World) : Calls Try.prog 33 #[.int .i32 r] w fun e w' => e = .returned (.bool (blkI r)) ∧ w = w' := by
  unfold blkI
  go_enter Try.func33, Try.ntmps33
  go_wp2
  all_goals (go_ret; exact ⟨ret_bool (by simp_all <;> omega), rfl⟩)

theorem list_get {t : ByteArray} {k : Nat} (h : k < t.size) : t.data.toList[k]? = some (t[k]'h) := by
  have h' : k < t.data.toList.length := by rw [← Lib.size_eq]; exact h
  rw [List.getElem?_eq_getElem h']; simp only [Array.getElem_toList]; rfl
theorem u8_ten {c : UInt8} (h : (c.toNat : Int) = 10) : c = 10 := by
  have : c.toNat = 10 := by omega
  exact UInt8.toNat_inj.1 this
theorem note_some {t : ByteArray} {o : Nat} (h : Lib.indexByte t.data.toList 10 = o) : noteE t 0 = o := by
  obtain ⟨h1, h2⟩ := Lib.indexByte_some h
  have ho : o < t.size := by rw [Lib.size_eq]; exact (List.getElem?_eq_some_iff.1 h1).1
  refine first_eq ⟨Nat.zero_le _, by omega, fun j _ hj => ?_, .inr ?_⟩
  · have := h2 j hj
    rw [list_get (by omega : j < t.size)] at this
    show (byt t j == 10) = false
    rw [byt_eq t j (by omega)]
    simp only [beq_eq_false_iff_ne, ne_eq]
    intro e
    exact this (by rw [u8_ten e])
  · show (byt t o == 10) = true
    rw [byt_eq t o ho]
    rw [list_get ho] at h1
    simp only [Option.some.injEq] at h1
    rw [h1]; rfl
theorem note_none {t : ByteArray} (h : Lib.indexByte t.data.toList 10 = -1) : noteE t 0 = t.size := by
  refine first_eq ⟨Nat.zero_le _, Nat.le_refl _, fun j _ hj => ?_, .inl rfl⟩
  have := Lib.indexByte_none h j
  rw [list_get hj] at this
  show (byt t j == 10) = false
  rw [byt_eq t j hj]
  simp only [beq_eq_false_iff_ne, ne_eq]
  intro e
  exact this (by rw [u8_ten e])

set_option maxHeartbeats 400000 in
theorem noteSize_any (t : ByteArray) (w : World) : Calls Try.prog 34 #[.string t] w fun e w' => e = .returned (.int .i64 (noteE t 0 : Nat)) ∧ w = w' := by
  by_cases h : 0 ≤ Lib.indexByte t.data.toList 10
  · obtain ⟨o, ho⟩ := Int.eq_ofNat_of_zero_le h
    have HN := mkHid (note_some ho)
    have HO := mkHid ho
    clear ho
    go_enter Try.func34, Try.ntmps34
    go_wp2_with fail
    refine (Try.strings_IndexByte t 10 _).mono ?_
    rintro e w1 ⟨rfl, rfl⟩
    rw [show (10 : Int).toNat.toUInt8 = 10 from rfl, HO.out]
    go_wp2
    go_ret
    exact ⟨ret_int (by rw [HN.out]), rfl⟩
  · have h1 : Lib.indexByte t.data.toList 10 = -1 := by have := Lib.indexByte_ge t.data.toList 10; omega
    have HN := mkHid (note_none h1)
    have HO := mkHid h1
    clear h1 h
    go_enter Try.func34, Try.ntmps34
    go_wp2_with fail
    refine (Try.strings_IndexByte t 10 _).mono ?_
    rintro e w1 ⟨rfl, rfl⟩
    rw [show (10 : Int).toNat.toUInt8 = 10 from rfl, HO.out]
    go_wp2
    go_ret
    exact ⟨ret_int (by rw [HN.out]), rfl⟩
end Go.Proofs.Ythaehhndfahocaa
