/-
  PLAIN FACTS on the words of a text: where blanks end, where a word ends, the words one by one.
  CONTRACTS of the specification's l01Skip and l01End.
  CONTRACT of the specification's Words.
  PLAIN FACTS on parts of a text; CONTRACTS of the program's isBlank, noteSize, longestSign, longestWord, and of strings.Clone.
  CONTRACTS of the program's longestSign, longestWord, and of strings.Clone.
  PLAIN FACTS: what the program takes for the next word, against what the specification takes; how far a step over a rune goes.
-/
import Derived.Test.YtpebfdplapeejaaGreatDoorMWrow
import Derived.Deep.AppendLies
import Derived.Lib.IndexLaws
namespace Go.Proofs.YtpebfdplapeejaaGreatDoor
open Go.RowKit
open Pl

/-- The first place from at on where p holds, or n. -/
def firstF (p : Nat → Bool) (n : Nat) : Nat → Nat → Nat
  | 0, at_ => at_
  | f + 1, at_ => if at_ < n then (if p at_ then at_ else firstF p n f (at_ + 1)) else at_
def first (p : Nat → Bool) (n at_ : Nat) : Nat := firstF p n (n - at_) at_
def IsFirst (p : Nat → Bool) (n at_ e : Nat) : Prop := at_ ≤ e ∧ e ≤ n ∧ (∀ j, at_ ≤ j → j < e → p j = false) ∧ (e = n ∨ p e = true)
theorem firstF_is (p : Nat → Bool) (n : Nat) (f at_ : Nat) (h : at_ ≤ n) (hf : n - at_ ≤ f) : IsFirst p n at_ (firstF p n f at_) := by
  induction f generalizing at_ with
  | zero => have : at_ = n := by omega
            subst this; exact ⟨Nat.le_refl _, Nat.le_refl _, fun j h1 h2 => by simp [firstF] at h2; omega, .inl rfl⟩
  | succ f ih =>
    simp only [firstF]
    by_cases h1 : at_ < n
    · rw [if_pos h1]
      by_cases h2 : p at_ = true
      · rw [if_pos h2]
        exact ⟨Nat.le_refl _, h, fun j a b => by omega, .inr h2⟩
      · rw [if_neg h2]
        obtain ⟨a, b, c, d⟩ := ih (at_ + 1) (by omega) (by omega)
        refine ⟨by omega, b, fun j hj hj' => ?_, d⟩
        by_cases e : j = at_
        · subst e; simpa using h2
        · exact c j (by omega) hj'
    · rw [if_neg h1]
      exact ⟨Nat.le_refl _, h, fun j a b => by omega, .inl (by omega)⟩
theorem first_is (p : Nat → Bool) (n at_ : Nat) (h : at_ ≤ n) : IsFirst p n at_ (first p n at_) := firstF_is p n _ at_ h (Nat.le_refl _)
theorem first_eq {p : Nat → Bool} {n at_ e : Nat} (h : IsFirst p n at_ e) : first p n at_ = e := by
  obtain ⟨a, b, c, d⟩ := h
  obtain ⟨a', b', c', d'⟩ := first_is p n at_ (by omega)
  rcases Nat.lt_trichotomy (first p n at_) e with hlt | heq | hgt
  · have := c _ a' hlt
    rcases d' with h | h
    · omega
    · rw [h] at this; cases this
  · exact heq
  · have := c' _ a hgt
    rcases d with h | h
    · omega
    · rw [h] at this; cases this

def alnum (s : ByteArray) (k : Nat) : Bool := lowI (byt s k) || digI (byt s k)
def runE (s : ByteArray) (at_ : Nat) : Nat := first (fun j => !alnum s j) s.size at_
def noteE (s : ByteArray) (at_ : Nat) : Nat := first (fun j => byt s j == 10) s.size at_
def blankB (s : ByteArray) (k : Nat) : Bool := byt s k == 32 || byt s k == 10

theorem noteE_gt {s : ByteArray} {at_ : Nat} (h : at_ < s.size) (h35 : byt s at_ = 35) : at_ < noteE s at_ := by
  obtain ⟨a, b, c, d⟩ := first_is (fun j => byt s j == 10) s.size at_ (by omega)
  rcases Nat.lt_or_ge at_ (noteE s at_) with h1 | h1
  · exact h1
  · have e : noteE s at_ = at_ := by have : at_ ≤ noteE s at_ := a; omega
    have d' : noteE s at_ = s.size ∨ (byt s (noteE s at_) == 10) = true := d
    rw [e, h35] at d'
    simp at d'
    omega
theorem noteE_le {s : ByteArray} {at_ : Nat} (h : at_ ≤ s.size) : noteE s at_ ≤ s.size := (first_is _ _ _ h).2.1

def skipF (s : ByteArray) : Nat → Nat → Nat
  | 0, at_ => at_
  | f + 1, at_ => if at_ < s.size then (if blankB s at_ then skipF s f (at_ + 1) else if byt s at_ = 35 then skipF s f (noteE s at_) else at_) else at_
def skipI (s : ByteArray) (at_ : Nat) : Nat := skipF s (s.size - at_) at_
theorem skipF_fuel (s : ByteArray) (f g at_ : Nat) (hf : s.size - at_ ≤ f) (hg : s.size - at_ ≤ g) : skipF s f at_ = skipF s g at_ := by
  induction f generalizing g at_ with
  | zero =>
    cases g with
    | zero => rfl
    | succ g => simp only [skipF]; rw [if_neg (by omega)]
  | succ f ih =>
    cases g with
    | zero => simp only [skipF]; rw [if_neg (by omega)]
    | succ g =>
      simp only [skipF]
      by_cases h : at_ < s.size
      · rw [if_pos h, if_pos h]
        by_cases hb : blankB s at_ = true
        · rw [if_pos hb, if_pos hb]; exact ih g _ (by omega) (by omega)
        · rw [if_neg hb, if_neg hb]
          by_cases h35 : byt s at_ = 35
          · rw [if_pos h35, if_pos h35]
            have := noteE_gt h h35
            exact ih g _ (by omega) (by omega)
          · rw [if_neg h35, if_neg h35]
      · rw [if_neg h, if_neg h]
theorem skip_blank {s : ByteArray} {at_ : Nat} (h : at_ < s.size) (hb : blankB s at_ = true) : skipI s at_ = skipI s (at_ + 1) := by
  unfold skipI
  obtain ⟨f, hf⟩ : ∃ f, s.size - at_ = f + 1 := ⟨s.size - at_ - 1, by omega⟩
  rw [hf]; simp only [skipF]; rw [if_pos h, if_pos hb]
  exact skipF_fuel s _ _ _ (by omega) (by omega)
theorem skip_note {s : ByteArray} {at_ : Nat} (h : at_ < s.size) (h35 : byt s at_ = 35) : skipI s at_ = skipI s (noteE s at_) := by
  have hb : ¬ blankB s at_ = true := by unfold blankB; rw [h35]; decide
  unfold skipI
  obtain ⟨f, hf⟩ : ∃ f, s.size - at_ = f + 1 := ⟨s.size - at_ - 1, by omega⟩
  rw [hf]; simp only [skipF]; rw [if_pos h, if_neg hb, if_pos h35]
  have := noteE_gt h h35
  exact skipF_fuel s _ _ _ (by omega) (by omega)
theorem skip_stop {s : ByteArray} {at_ : Nat} (h : at_ < s.size) (hb : blankB s at_ = false) (h35 : byt s at_ ≠ 35) : skipI s at_ = at_ := by
  unfold skipI
  obtain ⟨f, hf⟩ : ∃ f, s.size - at_ = f + 1 := ⟨s.size - at_ - 1, by omega⟩
  rw [hf]; simp only [skipF]; rw [if_pos h, if_neg (by simp [hb]), if_neg h35]
theorem skip_end {s : ByteArray} {at_ : Nat} (h : ¬ at_ < s.size) : skipI s at_ = at_ := by
  unfold skipI
  rw [show s.size - at_ = 0 by omega]; rfl
theorem skip_ge (s : ByteArray) (at_ : Nat) : at_ ≤ skipI s at_ := by
  unfold skipI
  generalize hf : s.size - at_ = f
  induction f using Nat.strongRecOn generalizing at_ with
  | _ f ih =>
    by_cases h : at_ < s.size
    · by_cases hb : blankB s at_ = true
      · have e := skip_blank h hb
        unfold skipI at e
        rw [← hf, e]
        have := ih (s.size - (at_ + 1)) (by omega) (at_ + 1) rfl
        omega
      · by_cases h35 : byt s at_ = 35
        · have e := skip_note h h35
          have hg := noteE_gt h h35
          unfold skipI at e
          rw [← hf, e]
          have := ih (s.size - noteE s at_) (by omega) (noteE s at_) rfl
          omega
        · have e := skip_stop h (by simpa using hb) h35
          unfold skipI at e
          rw [← hf, e]; exact Nat.le_refl _
    · have e := skip_end h
      unfold skipI at e
      rw [← hf, e]; exact Nat.le_refl _
/-- Where that ends which could be a word at a place. -/
def endI (s : ByteArray) (at_ : Nat) : Nat := if alnum s at_ then runE s at_ else if at_ + 1 < s.size ∧ signB (s.extract at_ (at_ + 2)) = true then at_ + 2 else at_ + 1
theorem runE_gt {s : ByteArray} {at_ : Nat} (h : at_ < s.size) (ha : alnum s at_ = true) : at_ < runE s at_ := by
  obtain ⟨a, b, c, d⟩ := first_is (fun j => !alnum s j) s.size at_ (by omega)
  rcases Nat.lt_or_ge at_ (runE s at_) with h1 | h1
  · exact h1
  · have e : runE s at_ = at_ := by have : at_ ≤ runE s at_ := a; omega
    have d' : runE s at_ = s.size ∨ (!alnum s (runE s at_)) = true := d
    rw [e, ha] at d'
    simp at d'
    omega
theorem endI_gt {s : ByteArray} {at_ : Nat} (h : at_ < s.size) : at_ < endI s at_ ∧ endI s at_ ≤ s.size := by
  unfold endI
  split
  · rename_i ha
    exact ⟨runE_gt h ha, (first_is _ _ _ (by omega)).2.1⟩
  · split <;> omega

/-- The words from a place on, behind those that were read; code and place of the fault. -/
def scanF (s : ByteArray) : Nat → Nat → List W3 → List W3 × Int × Int
  | 0, _, acc => (acc, 0, 0)
  | f + 1, at_, acc => if at_ < s.size then
      (if kindI (s.extract at_ (endI s at_)) = 0 then ([], 2, at_) else if acc.length = 1500 then ([], 3, at_) else
        scanF s f (skipI s (endI s at_)) (acc ++ [⟨kindI (s.extract at_ (endI s at_)), s.extract at_ (endI s at_), at_⟩]))
    else (acc, 0, 0)
def scanI (s : ByteArray) (at_ : Nat) (acc : List W3) : List W3 × Int × Int := scanF s (s.size - at_) at_ acc
theorem scanF_fuel (s : ByteArray) (f g at_ : Nat) (acc : List W3) (hf : s.size - at_ ≤ f) (hg : s.size - at_ ≤ g) : scanF s f at_ acc = scanF s g at_ acc := by
  induction f generalizing g at_ acc with
  | zero =>
    cases g with
    | zero => rfl
    | succ g => simp only [scanF]; rw [if_neg (by omega)]
  | succ f ih =>
    cases g with
    | zero => simp only [scanF]; rw [if_neg (by omega)]
    | succ g =>
      simp only [scanF]
      by_cases h : at_ < s.size
      · rw [if_pos h, if_pos h]
        have h1 := endI_gt h
        have h2 := skip_ge s (endI s at_)
        rw [ih g _ _ (by omega) (by omega)]
      · rw [if_neg h, if_neg h]
theorem scan_end {s : ByteArray} {at_ : Nat} {acc : List W3} (h : ¬ at_ < s.size) : scanI s at_ acc = (acc, 0, 0) := by
  unfold scanI
  rw [show s.size - at_ = 0 by omega]; rfl
theorem scan_bad {s : ByteArray} {at_ : Nat} {acc : List W3} (h : at_ < s.size) (hk : kindI (s.extract at_ (endI s at_)) = 0) : scanI s at_ acc = ([], 2, (at_ : Int)) := by
  unfold scanI
  obtain ⟨f, hf⟩ : ∃ f, s.size - at_ = f + 1 := ⟨s.size - at_ - 1, by omega⟩
  rw [hf]; simp only [scanF]; rw [if_pos h, if_pos hk]
theorem scan_many {s : ByteArray} {at_ : Nat} {acc : List W3} (h : at_ < s.size) (hk : kindI (s.extract at_ (endI s at_)) ≠ 0) (hm : acc.length = 1500) : scanI s at_ acc = ([], 3, (at_ : Int)) := by
  unfold scanI
  obtain ⟨f, hf⟩ : ∃ f, s.size - at_ = f + 1 := ⟨s.size - at_ - 1, by omega⟩
  rw [hf]; simp only [scanF]; rw [if_pos h, if_neg hk, if_pos hm]
theorem scan_go {s : ByteArray} {at_ : Nat} {acc : List W3} (h : at_ < s.size) (hk : kindI (s.extract at_ (endI s at_)) ≠ 0) (hm : acc.length ≠ 1500) :
    scanI s at_ acc = scanI s (skipI s (endI s at_)) (acc ++ [⟨kindI (s.extract at_ (endI s at_)), s.extract at_ (endI s at_), at_⟩]) := by
  have h1 := endI_gt h
  have h2 := skip_ge s (endI s at_)
  unfold scanI
  obtain ⟨f, hf⟩ : ∃ f, s.size - at_ = f + 1 := ⟨s.size - at_ - 1, by omega⟩
  rw [hf]; simp only [scanF]; rw [if_pos h, if_neg hk, if_neg hm]
  exact scanF_fuel s _ _ _ _ (by omega) (by omega)
def wordsI (s : ByteArray) : List W3 × Int × Int := if 4000 < s.size then ([], 1, 0) else scanI s (skipI s 0) []
end Go.Proofs.YtpebfdplapeejaaGreatDoor
namespace Go.Proofs.YtpebfdplapeejaaGreatDoor
open Go.RowKit
open Pl

end Go.Proofs.YtpebfdplapeejaaGreatDoor
namespace Go.Proofs.YtpebfdplapeejaaGreatDoor
open Go.RowKit
open Pl

/-- A slice of our own that holds words. -/
def Owns (w : World) (base : Nat) (v : Value) (ws : List W3) : Prop := w.ownsRow base 45 3 v ws.length (flat ws)
theorem Owns.below {w w' : World} {base : Nat} {v : Value} {ws : List W3} (h : Owns w base v ws) (hb : Below w.heap.size w w') : Owns w' base v ws := owns_below h hb
theorem Owns.setCell {w : World} {base : Nat} {v : Value} {ws : List W3} (h : Owns w base v ws) (a : Addr) (u : Value) (hne : a.block < base) : Owns (w.setCell a u) base v ws := by
  refine World.ownsRow.kept (row := some a.block) h ⟨rfl, rfl, rfl, by simp [World.setCell], fun k _ hk => Below.heap_setCell _ _ _ _ (fun e => hk (by simp [e]))⟩ (.inr ?_)
  intro e
  have := (World.ownsRow.lt h _ e).1
  omega

theorem Owns.form {w : World} {base : Nat} {v : Value} {ws : List W3} (h : Owns w base v ws) : ∃ ao cap, v = .slice ao ws.length cap := by
  rcases h.2 with ⟨rfl, h0⟩ | ⟨g, cap, cur, rfl, _⟩
  · exact ⟨none, 0, by rw [h0]⟩
  · exact ⟨_, _, rfl⟩
theorem Owns.mono {w : World} {base base' : Nat} {v : Value} {ws : List W3} (h : Owns w base v ws) (hb : base' ≤ base) : Owns w base' v ws := by
  refine ⟨h.1, ?_⟩
  rcases h.2 with h0 | ⟨g, cap, cur, e1, e2, e3⟩
  · exact .inl h0
  · exact .inr ⟨g, cap, cur, e1, by omega, e3⟩
theorem Owns.off {w : World} {base n : Nat} {v : Value} {ws : List W3} (h : Owns w base v ws) (hn : n < base) : v.ownBlock ≠ some n := fun e => by
  have := (World.ownsRow.lt h _ e).1
  omega
theorem three_new (w : World) (a b c : Value) (j : Nat) (u : Value) (h : [a, b, c][j]? = some u) : (w.alloc (.cells #[a, b, c] 45)).cell? ((⟨w.heap.size, 0, none⟩ : Addr).add j) = some u := by
  rw [WideShapes.add_plain, Nat.zero_add, World.cell?_alloc_new]
  simpa using h
theorem flat_snoc (ws : List W3) (x : W3) : flat ws ++ [.int .i64 x.k, .string x.s, .int .i64 x.a] = flat (ws ++ [x]) := by rw [flat_append]; rfl

theorem two_set {w : World} {n : Nat} {a b c d : Value} {T : TypeId} (h : w.heap[n]? = some (.cells #[a, b] T (0, 0))) : ((w.setCell ⟨n, 0, none⟩ c).setCell ⟨n, 1, none⟩ d).heap[n]? = some (.cells #[c, d] T (0, 0)) := by
  have h1 := heap_setCell_same w n 0 _ T c h
  have h2 := heap_setCell_same (w.setCell ⟨n, 0, none⟩ c) n 1 _ T d h1
  rw [h2]; rfl
end Go.Proofs.YtpebfdplapeejaaGreatDoor
namespace Go.Proofs.YtpebfdplapeejaaGreatDoor
open Go.RowKit
open Pl

theorem byt_list (s : ByteArray) (k : Nat) : byt s k = ((s.data.toList.getD k 0).toNat : Int) := by
  unfold byt
  by_cases h : k < s.size
  · rw [dif_pos h]
    have h' : k < s.data.toList.length := by rw [← Lib.size_eq]; exact h
    rw [List.getD_eq_getElem?_getD, List.getElem?_eq_getElem h']
    simp only [Option.getD_some, Array.getElem_toList]
    rfl
  · rw [dif_neg h]
    have h' : s.data.toList.length ≤ k := by rw [← Lib.size_eq]; omega
    rw [List.getD_eq_getElem?_getD, List.getElem?_eq_none h']
    rfl
theorem size_ext (s : ByteArray) (a b : Nat) (h : b ≤ s.size) : (s.extract a b).size = b - a := by
  rw [Lib.size_eq, Lib.extract_data]
  rw [Lib.size_eq] at h
  simp only [List.length_take, List.length_drop]
  omega
theorem byt_ext (s : ByteArray) (a b k : Nat) (hk : a + k < b) : byt (s.extract a b) k = byt s (a + k) := by
  rw [byt_list, byt_list, Lib.extract_data, List.getD_eq_getElem?_getD, List.getD_eq_getElem?_getD, List.getElem?_take_of_lt (by omega), List.getElem?_drop]
theorem ext_ext (s : ByteArray) (a b c d : Nat) (hd : a + d ≤ b) : (s.extract a b).extract c d = s.extract (a + c) (a + d) := by
  rw [Lib.extract_eq, Lib.extract_data, Lib.extract_eq]
  congr 2
  rw [List.drop_take, List.drop_drop, List.take_take]
  congr 1
  omega
theorem alnum_ext (s : ByteArray) (a b k : Nat) (hk : a + k < b) : alnum (s.extract a b) k = alnum s (a + k) := by
  unfold alnum; rw [byt_ext s a b k hk]
/-- The rest of a text from a place on. -/
def rest (s : ByteArray) (p : Nat) : ByteArray := s.extract p s.size
theorem noteE_rest {s : ByteArray} {p : Nat} (h : p ≤ s.size) : p + noteE (rest s p) 0 = noteE s p := by
  have hz : (rest s p).size = s.size - p := size_ext s p s.size (Nat.le_refl _)
  obtain ⟨_, b, c, d⟩ := first_is (fun j => byt (rest s p) j == 10) (rest s p).size 0 (Nat.zero_le _)
  have b' : noteE (rest s p) 0 ≤ (rest s p).size := b
  refine (first_eq ⟨by omega, by omega, fun j h1 h2 => ?_, ?_⟩).symm
  · have : (byt (rest s p) (j - p) == 10) = false := c (j - p) (Nat.zero_le _) (show j - p < noteE (rest s p) 0 by omega)
    unfold rest at this
    rw [byt_ext s p s.size (j - p) (by omega)] at this
    rwa [show p + (j - p) = j by omega] at this
  · rcases d with h1 | h1
    · left; have h1' : noteE (rest s p) 0 = (rest s p).size := h1; omega
    · by_cases e : noteE (rest s p) 0 = (rest s p).size
      · left; omega
      · right
        have h1' : (byt (rest s p) (noteE (rest s p) 0) == 10) = true := h1
        unfold rest at h1'
        rw [byt_ext s p s.size _ (by have : (s.extract p s.size).size = s.size - p := hz
                                     have : noteE (s.extract p s.size) 0 = noteE (rest s p) 0 := rfl
                                     omega)] at h1'
        exact h1'
theorem runE_rest {s : ByteArray} {p : Nat} (h : p ≤ s.size) : p + runE (rest s p) 0 = runE s p := by
  have hz : (rest s p).size = s.size - p := size_ext s p s.size (Nat.le_refl _)
  obtain ⟨_, b, c, d⟩ := first_is (fun j => !alnum (rest s p) j) (rest s p).size 0 (Nat.zero_le _)
  have b' : runE (rest s p) 0 ≤ (rest s p).size := b
  refine (first_eq ⟨by omega, by omega, fun j h1 h2 => ?_, ?_⟩).symm
  · have : (!alnum (rest s p) (j - p)) = false := c (j - p) (Nat.zero_le _) (show j - p < runE (rest s p) 0 by omega)
    unfold rest at this
    rw [alnum_ext s p s.size (j - p) (by omega)] at this
    rwa [show p + (j - p) = j by omega] at this
  · rcases d with h1 | h1
    · left; have h1' : runE (rest s p) 0 = (rest s p).size := h1; omega
    · by_cases e : runE (rest s p) 0 = (rest s p).size
      · left; omega
      · right
        have h1' : (!alnum (rest s p) (runE (rest s p) 0)) = true := h1
        unfold rest at h1'
        rw [alnum_ext s p s.size _ (by have : (s.extract p s.size).size = s.size - p := hz
                                       have : runE (s.extract p s.size) 0 = runE (rest s p) 0 := rfl
                                       omega)] at h1'
        exact h1'

def blkI (r : Int) : Bool := r == 32 || r == 10
set_option maxRecDepth 100000 in
theorem isBlank_any (r : Int) (w : World) : Calls Tryz.prog 11 #[.int .i32 r] w fun e w' => e = .returned (.bool (blkI r)) ∧ w = w' := by
  unfold blkI
  go_enter Tryz.func11, Tryz.ntmps11
  go_wp2
  all_goals (go_ret; exact ⟨ret_bool (by simp_all <;> omega), rfl⟩)

theorem list_get {t : ByteArray} {k : Nat} (h : k < t.size) : t.data.toList[k]? = some (t[k]'h) := by
  have h' : k < t.data.toList.length := by rw [← Lib.size_eq]; exact h
  rw [List.getElem?_eq_getElem h']; simp only [Array.getElem_toList]; rfl
theorem u8_ten {c : UInt8} (h : (c.toNat : Int) = 10) : c = 10 := by
  have : c.toNat = 10 := by omega
  exact UInt8.toNat_inj.1 this
theorem note_some {t : ByteArray} {o : Nat} (h : Lib.indexByte t.data.toList 10 = o) : noteE t 0 = o := by
  obtain ⟨h1, h2⟩ := Lib.indexByte_some h
  have ho : o < t.size := by rw [Lib.size_eq]; exact (List.getElem?_eq_some_iff.1 h1).1
  refine first_eq ⟨Nat.zero_le _, by omega, fun j _ hj => ?_, .inr ?_⟩
  · have := h2 j hj
    rw [list_get (by omega : j < t.size)] at this
    show (byt t j == 10) = false
    rw [byt_eq t j (by omega)]
    simp only [beq_eq_false_iff_ne, ne_eq]
    intro e
    exact this (by rw [u8_ten e])
  · show (byt t o == 10) = true
    rw [byt_eq t o ho]
    rw [list_get ho] at h1
    simp only [Option.some.injEq] at h1
    rw [h1]; rfl
theorem note_none {t : ByteArray} (h : Lib.indexByte t.data.toList 10 = -1) : noteE t 0 = t.size := by
  refine first_eq ⟨Nat.zero_le _, Nat.le_refl _, fun j _ hj => ?_, .inl rfl⟩
  have := Lib.indexByte_none h j
  rw [list_get hj] at this
  show (byt t j == 10) = false
  rw [byt_eq t j hj]
  simp only [beq_eq_false_iff_ne, ne_eq]
  intro e
  exact this (by rw [u8_ten e])

set_option maxRecDepth 100000 in
set_option maxHeartbeats 400000 in
theorem noteSize_any (t : ByteArray) (w : World) : Calls Tryz.prog 12 #[.string t] w fun e w' => e = .returned (.int .i64 (noteE t 0 : Nat)) ∧ w = w' := by
  by_cases h : 0 ≤ Lib.indexByte t.data.toList 10
  · obtain ⟨o, ho⟩ := Int.eq_ofNat_of_zero_le h
    have HN := mkHid (note_some ho)
    have HO := mkHid ho
    clear ho
    go_enter Tryz.func12, Tryz.ntmps12
    go_wp2_with fail
    refine (Tryz.strings_IndexByte t 10 _).mono ?_
    rintro e w1 ⟨rfl, rfl⟩
    rw [show (10 : Int).toNat.toUInt8 = 10 from rfl, HO.out]
    go_wp2
    go_ret
    exact ⟨ret_int (by rw [HN.out]), rfl⟩
  · have h1 : Lib.indexByte t.data.toList 10 = -1 := by have := Lib.indexByte_ge t.data.toList 10; omega
    have HN := mkHid (note_none h1)
    have HO := mkHid h1
    clear h1 h
    go_enter Tryz.func12, Tryz.ntmps12
    go_wp2_with fail
    refine (Tryz.strings_IndexByte t 10 _).mono ?_
    rintro e w1 ⟨rfl, rfl⟩
    rw [show (10 : Int).toNat.toUInt8 = 10 from rfl, HO.out]
    go_wp2
    go_ret
    exact ⟨ret_int (by rw [HN.out]), rfl⟩
end Go.Proofs.YtpebfdplapeejaaGreatDoor
namespace Go.Proofs.YtpebfdplapeejaaGreatDoor
open Go.RowKit
open Pl

def signT (t : ByteArray) : ByteArray := if 2 ≤ t.size ∧ signB (t.extract 0 2) = true then t.extract 0 2 else if signB (t.extract 0 1) = true then t.extract 0 1 else ⟨#[]⟩

theorem signT_at {t : ByteArray} {n : Nat} (h0 : 0 < n) (h2 : n ≤ 2) (hn : n ≤ t.size) (hs : signB (t.extract 0 n) = true) (hb : n ≤ 1 → ¬(2 ≤ t.size ∧ signB (t.extract 0 2) = true)) : signT t = t.extract 0 n := by
  unfold signT
  by_cases e : n = 2
  · subst e; rw [if_pos ⟨hn, hs⟩]
  · have e1 : n = 1 := by omega
    subst e1
    rw [if_neg (hb (Nat.le_refl _)), if_pos hs]

set_option maxRecDepth 100000 in
set_option maxHeartbeats 400000 in
theorem longestSign_any (t : ByteArray) (w : World) (hs : t.size ≤ 4000) (h1 : 1 ≤ t.size) : Calls Tryz.prog 26 #[.string t] w fun e w' => e = .returned (.string (signT t)) ∧ w = w' := by
  obtain ⟨m, hm⟩ : ∃ m : Nat, min (2 : Int) (t.size : Int) = m := ⟨min 2 t.size, by omega⟩
  have hm2 : m ≤ 2 ∧ m ≤ t.size ∧ (m ≤ 1 → ¬ 2 ≤ t.size) ∧ m ≠ 0 := by omega
  have HM := mkHid hm2
  clear hm2
  go_enter Tryz.func26, Tryz.ntmps26
  go_wp2
  go_loop [3] (fun v => ∃ n : Nat, v = .int .i64 n ∧ n ≤ 2 ∧ n ≤ t.size ∧ (n ≤ 1 → ¬(2 ≤ t.size ∧ signB (t.extract 0 2) = true)) ∧ (n = 0 → signB (t.extract 0 1) = false)) (fun v => (intOf v).toNat)
  case atStart => exact ⟨m, rfl, HM.out.1, HM.out.2.1, fun h h' => HM.out.2.2.1 h h'.1, fun h => absurd h HM.out.2.2.2⟩
  case round =>
    obtain ⟨n, rfl, hn2, hns, hb, hz⟩ := hrel
    have HB := mkHid hb
    have HZ := mkHid hz
    clear hb hz hm HM
    by_cases h0 : 0 < (n : Int)
    · by_cases hsg : signB (t.extract 0 n) = true
      · have HT := mkHid (signT_at (by omega) hn2 hns hsg HB.out)
        go_wp2_with (go_at_call 29; refine (isSign_any _ _).mono ?_; rintro e w' ⟨rfl, rfl⟩)
        go_ret
        exact ⟨ret_str HT.out.symm, rfl⟩
      · simp only [Bool.not_eq_true] at hsg
        have HN : Hid ((n - 1 ≤ 1 → ¬(2 ≤ t.size ∧ signB (t.extract 0 2) = true)) ∧ (n - 1 = 0 → signB (t.extract 0 1) = false)) := by
          refine ⟨fun h h' => ?_, fun h => ?_⟩
          · by_cases e : n = 2
            · subst e; rw [hsg] at h'; exact absurd h'.2 (by decide)
            · exact HB.out (by omega) h'
          · have e : n = 1 := by omega
            subst e; exact hsg
        clear HB HZ
        go_wp2_with (go_at_call 29; refine (isSign_any _ _).mono ?_; rintro e w' ⟨rfl, rfl⟩)
        go_round
        case rel => exact ⟨n - 1, by go_num, by omega, by omega, HN.out.1, HN.out.2⟩
        case measure => simp [intOf]; omega
    · have HT := mkHid (show signT t = ⟨#[]⟩ by
        unfold signT
        rw [if_neg (HB.out (by omega)), if_neg (by rw [HZ.out (by omega)]; decide)])
      clear HB HZ
      go_wp2
      go_ret
      exact ⟨ret_str HT.out.symm, rfl⟩

set_option maxRecDepth 100000 in
set_option maxHeartbeats 400000 in
theorem clone_any (t : ByteArray) (w : World) (hs : t.size ≤ 4000) : Calls Tryz.prog 15 #[.string t] w fun e w' => e = .returned (.string t) ∧ Below w.heap.size w w' := by
  go_enter Tryz.func15, Tryz.ntmps15
  go_wp2_with (go_at_call 31; refine (Tryz.stringslite_Clone t _ (by omega)).mono ?_; rintro e w1 ⟨rfl, hb1⟩)
  go_ret
  exact ⟨rfl, hb1⟩

def foundT (t : ByteArray) : ByteArray := if alnum t 0 then t.extract 0 (runE t 0) else signT t

set_option maxRecDepth 100000 in
set_option maxHeartbeats 1000000 in
theorem longestWord_any (t : ByteArray) (w : World) (hs : t.size ≤ 4000) (h1 : 1 ≤ t.size) : Calls Tryz.prog 13 #[.string t] w fun e w' => e = .returned (.string (foundT t)) ∧ Below w.heap.size w w' := by
  go_enter Tryz.func13, Tryz.ntmps13
  go_wp2
  go_step3
  go_wp2
  go_step3
  go_wp2
  go_loopw [3] (fun v w' => ∃ pos : Nat, w' = w.iter t pos ∧ v = .int .i64 pos ∧ pos ≤ t.size ∧ ∀ j, 0 ≤ j → j < pos → (!alnum t j) = false) (fun _ w' => t.size - w'.iterPos w.heap.size)
  case atStart => exact ⟨0, rfl, rfl, Nat.zero_le _, fun j _ hj => by omega⟩
  case round =>
    obtain ⟨pos, rfl, rfl, hps, hall⟩ := hrel
    have HA := mkHid hall
    clear hall
    by_cases hp : pos < t.size
    · obtain ⟨r, d, hnx, hd1, hl, hg, hr⟩ := next_rune (P := Tryz.prog) w t pos hp
      by_cases ga : alnum t pos = true
      · have HA1 : Hid (∀ j, 0 ≤ j → j < pos + 1 → (!alnum t j) = false) := fun j h0 hj => by
          rcases (by omega : j < pos ∨ j = pos) with h | rfl
          · exact HA.out j h0 h
          · rw [ga]; rfl
        have hlt : byt t pos < 128 := by
          unfold alnum at ga
          rw [Bool.or_eq_true, low_iff, dig_iff] at ga
          omega
        have hd : d = 1 := (hr hlt).2
        subst hd
        have hor : lowI r = true ∨ (lowI r = false ∧ digI r = true) := by
          unfold alnum at ga
          rw [← hl, ← hg] at ga
          revert ga
          cases lowI r <;> simp
        clear hr hl hg hlt ga HA
        rcases hor with g1 | ⟨g1, g2⟩
        · go_wp2_with (first | (go_at_call 24; refine (isLetter_any _ _).mono ?_; rintro e w' ⟨rfl, rfl⟩) | (go_at_call 25; refine (isDigit_any _ _).mono ?_; rintro e w' ⟨rfl, rfl⟩))
          go_roundw
          case rel => exact ⟨pos + 1, rfl, by go_num, by omega, HA1.out⟩
          case measure => simp; omega
        · go_wp2_with (first | (go_at_call 24; refine (isLetter_any _ _).mono ?_; rintro e w' ⟨rfl, rfl⟩) | (go_at_call 25; refine (isDigit_any _ _).mono ?_; rintro e w' ⟨rfl, rfl⟩))
          go_roundw
          case rel => exact ⟨pos + 1, rfl, by go_num, by omega, HA1.out⟩
          case measure => simp; omega
      · simp only [Bool.not_eq_true] at ga
        have hno : lowI r = false ∧ digI r = false := by
          unfold alnum at ga
          rw [← hl, ← hg] at ga
          simpa using ga
        obtain ⟨g1, g2⟩ := hno
        have HR : Hid (runE t 0 = pos) := first_eq ⟨Nat.zero_le _, hps, HA.out, .inr (by show (!alnum t pos) = true; rw [ga]; rfl)⟩
        clear hr hl hg
        by_cases h0 : ((pos : Int) == 0) = true
        · have HF : Hid (foundT t = signT t) := by
            show _ = _
            have e : pos = 0 := by simpa using h0
            subst e
            unfold foundT; rw [if_neg (by simp [ga])]
          clear ga HA HR
          go_wp2_with (first | (go_at_call 24; refine (isLetter_any _ _).mono ?_; rintro e w' ⟨rfl, rfl⟩) | (go_at_call 25; refine (isDigit_any _ _).mono ?_; rintro e w' ⟨rfl, rfl⟩) | (go_at_call 26; refine (longestSign_any t _ hs h1).mono ?_; rintro e w' ⟨rfl, rfl⟩))
          try rw [Exit.noGoto_ret]
          go_ret
          exact ⟨ret_str HF.out.symm, below_iter _ _ _⟩
        · simp only [Bool.not_eq_true] at h0
          have HF : Hid (foundT t = t.extract 0 pos) := by
            show _ = _
            have e : pos ≠ 0 := by simpa using h0
            have h00 := HA.out 0 (Nat.le_refl _) (by omega)
            unfold foundT
            rw [if_pos (by simpa using h00), HR.out]
          clear ga HA HR
          go_wp2_with (first | (go_at_call 24; refine (isLetter_any _ _).mono ?_; rintro e w' ⟨rfl, rfl⟩) | (go_at_call 25; refine (isDigit_any _ _).mono ?_; rintro e w' ⟨rfl, rfl⟩) | (go_at_call 26; refine (longestSign_any t _ hs h1).mono ?_; rintro e w' ⟨rfl, rfl⟩))
          try rw [Exit.noGoto_ret]
          go_ret
          exact ⟨ret_str HF.out.symm, below_iter _ _ _⟩
    · have hnx : ∀ ty, (Instr.next (.pointer (some ⟨w.heap.size, 0, none⟩)) true ty).run Tryz.prog (w.iter t pos) = _ := fun ty => run_next_end w t pos ty hp
      have HR : Hid (runE t 0 = pos) := first_eq ⟨Nat.zero_le _, hps, HA.out, .inl (by omega)⟩
      have h0 : ((pos : Int) == 0) = false := by simp; omega
      have HF : Hid (foundT t = t.extract 0 pos) := by
        show _ = _
        have h00 := HA.out 0 (Nat.le_refl _) (by omega)
        unfold foundT
        rw [if_pos (by simpa using h00), HR.out]
      clear HA HR
      go_wp2
      try rw [Exit.noGoto_ret]
      go_ret
      exact ⟨ret_str HF.out.symm, below_iter _ _ _⟩
end Go.Proofs.YtpebfdplapeejaaGreatDoor
namespace Go.Proofs.YtpebfdplapeejaaGreatDoor
open Go.RowKit
open Pl

theorem sign_ascii {t : ByteArray} (h : signB t = true) (k : Nat) : byt t k < 128 := by
  unfold signB signs at h
  simp only [List.contains_cons, Bool.or_eq_true, beq_iff_eq, List.contains_nil, Bool.false_eq_true, or_false] at h
  rcases h with h | h | h | h | h | h | h | h | h | h | h | h | h | h | h | h | h | h <;>
    (rw [byt_list, ← Lib.toList_data, h]; rcases k with _ | _ | k <;> simp)
theorem empty_byt (k : Nat) : byt ⟨#[]⟩ k = 0 := by
  rw [byt_list]; rfl
theorem empty_sign : signB ⟨#[]⟩ = false := by
  unfold signB
  rw [Lib.toList_data]; rfl
theorem kind_zero {t : ByteArray} (h1 : lowI (byt t 0) = false) (h2 : digI (byt t 0) = false) (h3 : signB t = false) : kindI t = 0 := by
  have hk : keyB t = false := by
    by_cases k : keyB t = true
    · rw [(key_low k).1] at h1; cases h1
    · simpa using k
  have hn : nameB t = false := nameB_of (by
    simp only [Bool.false_eq_true, iff_false]
    rintro ⟨a, _, _, d⟩
    rcases d 0 (by omega) with e | e
    · rw [h1] at e; cases e
    · exact e.1 rfl)
  have hu : numB t = false := numB_of (by
    simp only [Bool.false_eq_true, iff_false]
    rintro ⟨a, d, _⟩
    have := d 0 (by omega)
    rw [h2] at this; cases this)
  simp [kindI, hk, hn, hu, h3]
theorem empty_kind : kindI ⟨#[]⟩ = 0 := kind_zero (by rw [empty_byt]; rfl) (by rw [empty_byt]; rfl) empty_sign

theorem rest_size {s : ByteArray} {p : Nat} : (rest s p).size = s.size - p := size_ext s p s.size (Nat.le_refl _)
theorem rest_ext {s : ByteArray} {p n : Nat} (h : p + n ≤ s.size) : (rest s p).extract 0 n = s.extract p (p + n) := ext_ext s p s.size 0 n h
theorem rest_alnum {s : ByteArray} {p : Nat} (h : p < s.size) : alnum (rest s p) 0 = alnum s p := alnum_ext s p s.size 0 (by omega)

theorem found_alnum {s : ByteArray} {p : Nat} (h : p < s.size) (ha : alnum s p = true) : foundT (rest s p) = s.extract p (endI s p) ∧ ∀ j, p ≤ j → j < endI s p → byt s j < 128 := by
  have e1 : endI s p = runE s p := by simp [endI, ha]
  have e2 := runE_rest (s := s) (p := p) (by omega)
  obtain ⟨_, b, c, _⟩ := first_is (fun j => !alnum s j) s.size p (by omega)
  have b' : runE s p ≤ s.size := b
  refine ⟨?_, fun j h1 h2 => ?_⟩
  · unfold foundT
    rw [if_pos (by rw [rest_alnum h]; exact ha), rest_ext (by omega), e2, e1]
  · have : (!alnum s j) = false := c j h1 (by rw [e1] at h2; exact h2)
    have h3 : alnum s j = true := by simpa using this
    unfold alnum at h3
    rw [Bool.or_eq_true, low_iff, dig_iff] at h3
    omega
theorem found_sign {s : ByteArray} {p : Nat} (h : p < s.size) (ha : alnum s p = false) :
    (kindI (s.extract p (endI s p)) = 0 ∧ kindI (foundT (rest s p)) = 0) ∨ (foundT (rest s p) = s.extract p (endI s p) ∧ ∀ j, p ≤ j → j < endI s p → byt s j < 128) := by
  have hf : foundT (rest s p) = signT (rest s p) := by unfold foundT; rw [if_neg (by rw [rest_alnum h, ha]; decide)]
  have hz := rest_size (s := s) (p := p)
  by_cases h2 : p + 1 < s.size ∧ signB (s.extract p (p + 2)) = true
  · right
    have e1 : endI s p = p + 2 := by unfold endI; rw [if_neg (by simp [ha]), if_pos h2]
    rw [hf, e1]
    refine ⟨?_, fun j h3 h4 => ?_⟩
    · unfold signT
      rw [rest_ext (by omega), if_pos ⟨by omega, h2.2⟩]
    · have := sign_ascii h2.2 (j - p)
      rw [byt_ext s p (p + 2) (j - p) (by omega), show p + (j - p) = j by omega] at this
      exact this
  · have e1 : endI s p = p + 1 := by unfold endI; rw [if_neg (by simp [ha]), if_neg h2]
    have hb : byt (s.extract p (p + 1)) 0 = byt s p := byt_ext s p (p + 1) 0 (by omega)
    have hs2 : ¬ (2 ≤ (rest s p).size ∧ signB ((rest s p).extract 0 2) = true) := by
      rintro ⟨a, b⟩
      rw [rest_ext (by omega)] at b
      exact h2 ⟨by omega, b⟩
    rw [hf, e1]
    unfold signT
    rw [if_neg hs2, rest_ext (by omega)]
    by_cases h1 : signB (s.extract p (p + 1)) = true
    · right
      rw [if_pos h1]
      refine ⟨rfl, fun j h3 h4 => ?_⟩
      have := sign_ascii h1 0
      rw [hb] at this
      rwa [show j = p by omega]
    · left
      rw [if_neg h1]
      refine ⟨kind_zero ?_ ?_ (by simpa using h1), empty_kind⟩
      · rw [hb]; unfold alnum at ha; simp at ha; exact ha.1
      · rw [hb]; unfold alnum at ha; simp at ha; exact ha.2
theorem found_yes {s : ByteArray} {p : Nat} (h : p < s.size) (hk : kindI (s.extract p (endI s p)) ≠ 0) : foundT (rest s p) = s.extract p (endI s p) ∧ ∀ j, p ≤ j → j < endI s p → byt s j < 128 := by
  by_cases ha : alnum s p = true
  · exact found_alnum h ha
  · rcases found_sign h (by simpa using ha) with h1 | h1
    · exact absurd h1.1 hk
    · exact h1
theorem found_no {s : ByteArray} {p : Nat} (h : p < s.size) (hk : kindI (s.extract p (endI s p)) = 0) : kindI (foundT (rest s p)) = 0 := by
  by_cases ha : alnum s p = true
  · rw [(found_alnum h ha).1]; exact hk
  · rcases found_sign h (by simpa using ha) with h1 | h1
    · exact h1.2
    · rw [h1.1]; exact hk

/-- The bytes behind a rune's first one are none of ASCII. -/
theorem decode_cont (s : ByteArray) (p : Nat) : ∀ j, 1 ≤ j → j < (Utf8.decode s p).2 → p + j < s.size ∧ 128 ≤ byt s (p + j) := by
  have key : ∀ k, (p + k < s.size && (s.get! (p + k)).toNat / 64 == 2) = true → p + k < s.size ∧ 128 ≤ byt s (p + k) := fun k h => by
    rw [Bool.and_eq_true, decide_eq_true_eq, beq_iff_eq] at h
    refine ⟨h.1, ?_⟩
    rw [byt_eq s (p + k) h.1]
    have e : s.get! (p + k) = s[p + k]'h.1 := get_at s (p + k) h.1
    rw [e] at h
    omega
  intro j h1 h2
  simp only [Utf8.decode] at h2
  repeat' split at h2
  all_goals first
    | (simp at h2; omega)
    | (rename_i hc _; simp only [Bool.and_eq_true] at hc; rcases (by simp at h2; omega : j = 1 ∨ j = 2 ∨ j = 3) with rfl | rfl | rfl <;> (try (simp at h2; done)) <;> (apply key; simp_all))
end Go.Proofs.YtpebfdplapeejaaGreatDoor
