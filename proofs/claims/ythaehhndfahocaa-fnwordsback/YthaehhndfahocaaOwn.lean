/-
  CONTRACTS of both WordsText at slices of our own, the empty one among them; of the law's big; bytes of an argument later on.
-/
import Derived.Test.YthaehhndfahocaaLawC
import Derived.Test.YthaehhndfahocaaTextb
import Derived.Test.YthaehhndfahocaaDrawb
import Derived.Test.YthaehhndfahocaaBack
namespace Go.Proofs.Ythaehhndfahocaa
open Go.RowKit
open Pl

theorem text_nil : textOf [] = ⟨#[]⟩ := by
  unfold textOf
  split <;> rfl
set_option maxHeartbeats 400000 in
theorem sText_nil (a : Option Addr) (cap : Nat) (w : World) : Calls Try.prog 10 #[.slice a 0 cap] w fun e w' => e = .returned (.string ⟨#[]⟩) ∧ w = w' := by
  go_enter Try.func10, Try.ntmps10
  go_wp2
  go_loop [3, 4] (fun o i => o = .string ⟨#[]⟩ ∧ i = .int .i64 0) (fun _ _ => 0)
  case atStart => exact ⟨rfl, rfl⟩
  case round =>
    obtain ⟨rfl, rfl⟩ := hrel
    go_wp2
    go_ret
    exact ⟨rfl, rfl⟩
set_option maxHeartbeats 400000 in
theorem iText_nil (a : Option Addr) (cap : Nat) (w : World) : Calls Try.prog 9 #[.slice a 0 cap] w fun e w' => e = .returned (.string ⟨#[]⟩) ∧ Below w.heap.size w w' := by
  go_enter Try.func9, Try.ntmps9
  go_wp2
  go_loopw [11, 4, 5] (fun i _ _ w' => i = .int .i64 0 ∧ w' = w.alloc (.cells #[.pointer none, .slice none 0 0] 55)) (fun _ _ _ _ => 0)
  case atStart => exact ⟨rfl, rfl⟩
  case round =>
    obtain ⟨rfl, rfl⟩ := hrel
    have HU : Hid (Lib.IsBuilderF 55 5 w.heap.size w.heap.size (Lib.byteCells []) (w.alloc (.cells #[.pointer none, .slice none 0 0] 55))) := .inl ⟨Nat.le_refl _, .slice none 0 0, heap_alloc_new w _, World.ownsRowF_nil _ _ _ _, by simp [Value.ownBlock]⟩
    have HB : Hid (Below w.heap.size w (w.alloc (.cells #[.pointer none, .slice none 0 0] 55))) := (Below.refl _ _).alloc (Nat.le_refl _) _
    go_wp2_with fail
    refine (Try.Builder_Len_f _ _ _ _ HU.out).mono ?_
    rw [Lib.byteCells_length]
    rintro e w1 ⟨rfl, hw1⟩
    subst hw1
    go_wp2_with fail
    refine (Try.Builder_String_any_k _ _ _ _ HU.out HB.out.size).mono ?_
    rintro e w2 ⟨rfl, _, hb2, _⟩
    have HB2 := mkHid (HB.out.trans hb2)
    clear hb2
    go_wp2
    go_ret
    exact ⟨rfl, HB2.out⟩
theorem small_of {ws : List W3} (hl : ws.length ≤ 1048576) (h : ∀ x ∈ ws, x.s.size ≤ 1048576) : Small ws := ⟨hl, h⟩
theorem iText_own {w : World} {base : Nat} {v : Value} {ws : List W3} (ho : Owns w base v ws) (hs : Small ws) : Calls Try.prog 9 #[v] w fun e w' => e = .returned (.string (textOf ws)) ∧ Below w.heap.size w w' := by
  by_cases h0 : ws.length = 0
  · obtain ⟨a, cap, rfl⟩ := ho.form
    have hz : ws = [] := List.eq_nil_of_length_eq_zero h0
    subst hz
    rw [text_nil]
    exact iText_nil a cap w
  · obtain ⟨g, cap, rfl⟩ := ho.some h0
    exact iText_any ws g 0 cap w hs (lies_of_row ho)
theorem sText_own {w : World} {base : Nat} {v : Value} {ws : List W3} (ho : Owns w base v ws) (hs : Small ws) : Calls Try.prog 10 #[v] w fun e w' => e = .returned (.string (textOf ws)) ∧ Below w.heap.size w w' := by
  by_cases h0 : ws.length = 0
  · obtain ⟨a, cap, rfl⟩ := ho.form
    have hz : ws = [] := List.eq_nil_of_length_eq_zero h0
    subst hz
    rw [text_nil]
    refine (sText_nil a cap w).mono ?_
    rintro e w' ⟨rfl, rfl⟩
    exact ⟨rfl, Below.refl _ _⟩
  · obtain ⟨g, cap, rfl⟩ := ho.some h0
    exact sText_any ws g 0 cap w hs (lies_of_row ho)
theorem big_any (a : Option Addr) (n cap : Nat) (w : World) : Calls Try.prog 7 #[.slice a n cap] w fun e w' => e = .returned (.bool (decide (1048576 < (n : Int)))) ∧ w = w' := by
  go_enter Try.func7, Try.ntmps7
  go_wp2
  go_ret
  exact ⟨rfl, rfl⟩
theorem Bytes.later {w w' : World} {a : Option Addr} {n : Nat} (h : Bytes w w.heap.size a n) (hb : Below w.heap.size w w') : Bytes w' w'.heap.size a n := by
  rcases h with h | ⟨b, off, e, hl, hc⟩
  · exact .inl h
  · refine .inr ⟨b, off, e, Nat.lt_of_lt_of_le hl hb.size, fun i hi => ?_⟩
    obtain ⟨z, h0, h1, h2⟩ := hc i hi
    exact ⟨z, h0, h1, (hb.cell (p := ⟨b, off + i, none⟩) hl).trans h2⟩
theorem place_len (ws : List W3) (p : Nat) : (placeL ws p).length = ws.length := by
  induction ws generalizing p with
  | nil => rfl
  | cons x r ih => simp [placeL, ih]
def posL : List W3 → Nat → Nat
  | _, 0 => 0
  | [], _ + 1 => 0
  | x :: r, i + 1 => x.s.size + 1 + posL r i
theorem place_get {ws : List W3} {i p : Nat} {x : W3} (h : ws[i]? = some x) : (placeL ws p)[i]? = some ⟨x.k, x.s, ((p + posL ws i : Nat) : Int)⟩ := by
  induction ws generalizing i p with
  | nil => simp at h
  | cons y r ih =>
    cases i with
    | zero => simp at h; subst h; simp [placeL, posL]
    | succ i =>
      simp at h
      simp only [placeL, List.getElem?_cons_succ]
      rw [ih h]
      simp only [posL]
      congr 2
      omega
theorem pos_succ {ws : List W3} {i : Nat} {x : W3} (h : ws[i]? = some x) : posL ws (i + 1) = posL ws i + x.s.size + 1 := by
  induction ws generalizing i with
  | nil => simp at h
  | cons y r ih =>
    cases i with
    | zero => simp at h; subst h; simp [posL]
    | succ i =>
      simp at h
      have := ih h
      simp only [posL] at this ⊢
      omega
theorem pos_le (ws : List W3) (i : Nat) (h : ∀ x ∈ ws, x.s.size ≤ 5000) : posL ws i ≤ 5001 * i := by
  induction ws generalizing i with
  | nil => cases i <;> simp [posL]
  | cons y r ih =>
    cases i with
    | zero => simp [posL]
    | succ i =>
      have h1 := ih i (fun x hx => h x (by simp [hx]))
      have h2 := h y (by simp)
      simp only [posL]; omega
theorem scan_small (s : ByteArray) (at_ : Nat) (acc : List W3) (h : ∀ x ∈ acc, x.s.size ≤ s.size) : ∀ x ∈ (scanI s at_ acc).1, x.s.size ≤ s.size := by
  generalize hf : s.size - at_ = f
  induction f using Nat.strongRecOn generalizing at_ acc with
  | _ f ih =>
    by_cases h1 : at_ < s.size
    · by_cases hk : kindI (s.extract at_ (endI s at_)) = 0
      · rw [scan_bad h1 hk]; simp
      · by_cases hm : acc.length = 1500
        · rw [scan_many h1 hk hm]; simp
        · rw [scan_go h1 hk hm]
          have h2 := endI_gt h1
          have h3 := skip_ge s (endI s at_)
          refine ih (s.size - skipI s (endI s at_)) (by omega) _ _ (fun x hx => ?_) rfl
          rw [List.mem_append, List.mem_singleton] at hx
          rcases hx with hx | rfl
          · exact h x hx
          · exact ext_le _ _ _
    · rw [scan_end h1]; exact h
theorem words_small (s : ByteArray) : ∀ x ∈ (wordsI s).1, x.s.size ≤ 4000 := by
  unfold wordsI
  split
  · simp
  · intro x hx
    have := scan_small s (skipI s 0) [] (fun x hx => by cases hx) x hx
    omega
theorem text_size (ws : List W3) : (textOf ws).size ≤ 4000 := by
  unfold textOf
  split
  · rename_i h
    unfold textB at h
    simp only [Bool.and_eq_true, decide_eq_true_eq] at h
    rw [Lib.size_eq]; simpa using h.2
  · exact Nat.zero_le _
theorem text_full {ws : List W3} (h : textB ws = true) (hne : ws ≠ []) : (textOf ws).toList.isEmpty = false := by
  have hb := words_back h hne
  cases e : (textOf ws).toList.isEmpty with
  | false => rfl
  | true =>
    have hz : (textOf ws).size = 0 := by
      rw [Lib.toList_data] at e
      rw [Lib.size_eq, List.isEmpty_iff.1 e]; rfl
    have : wordsI (textOf ws) = ([], 0, 0) := by
      unfold wordsI
      rw [if_neg (by omega), skip_end (by omega), scan_end (by omega)]
    rw [this] at hb
    cases ws with
    | nil => exact absurd rfl hne
    | cons x r => simp [placeL] at hb
theorem text_none {ws : List W3} (h : textB ws = false) : textOf ws = ⟨#[]⟩ := by simp [textOf, h]
end Go.Proofs.Ythaehhndfahocaa
