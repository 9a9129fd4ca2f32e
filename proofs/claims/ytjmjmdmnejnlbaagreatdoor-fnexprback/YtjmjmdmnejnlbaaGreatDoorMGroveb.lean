/-
  PLAIN FACTS: what the program takes for the next word, against what the specification takes; how far a step over a rune goes.
  CONTRACT of the program's Words.
  CONTRACT of the program's Words, the walk.
  CONTRACTS of the law's markText, markWordS, heldWordS, eqFault, and of eqWordS at slices of our own.
  PLAIN FACTS on the words of a text.
  Layings.
  CONTRACT of the program's reader's num; what a part of the reader answers.
  NEW TREES OUT OF NEW TREES.
-/
import Derived.Test.YtjmjmdmnejnlbaaGreatDoorMLong
import Derived.Test.YtjmjmdmnejnlbaaGreatDoorMGrove
import Derived.Lib.AtoiErrMem
namespace Go.Proofs.YtjmjmdmnejnlbaaGreatDoor
open Go.RowKit
open Pl

theorem sign_ascii {t : ByteArray} (h : signB t = true) (k : Nat) : byt t k < 128 := by
 unfold signB signs at h
 simp only [List.contains_cons, Bool.or_eq_true, beq_iff_eq, List.contains_nil, Bool.false_eq_true, or_false] at h
 rcases h with h | h | h | h | h | h | h | h | h | h | h | h | h | h | h | h | h | h <;>
  (rw [byt_list, ← Lib.toList_data, h]; rcases k with _ | _ | k <;> simp)
theorem empty_byt (k : Nat) : byt ⟨#[]⟩ k = 0 := by
 rw [byt_list]; rfl
theorem empty_sign : signB ⟨#[]⟩ = false := by
 unfold signB
 rw [Lib.toList_data]; rfl
theorem kind_zero {t : ByteArray} (h1 : lowI (byt t 0) = false) (h2 : digI (byt t 0) = false) (h3 : signB t = false) : kindI t = 0 := by
 have hk : keyB t = false := by
  by_cases k : keyB t = true
  ·rw [(key_low k).1] at h1; cases h1
  ·simpa using k
 have hn : nameB t = false := nameB_of (by
  simp only [Bool.false_eq_true, iff_false]
  rintro ⟨a, _, _, d⟩
  rcases d 0 (by omega) with e | e
  ·rw [h1] at e; cases e
  ·exact e.1 rfl)
 have hu : numB t = false := numB_of (by
  simp only [Bool.false_eq_true, iff_false]
  rintro ⟨a, d, _⟩
  have := d 0 (by omega)
  rw [h2] at this; cases this)
 simp [kindI, hk, hn, hu, h3]
theorem empty_kind : kindI ⟨#[]⟩ = 0 := kind_zero (by rw [empty_byt]; rfl) (by rw [empty_byt]; rfl) empty_sign

theorem rest_size {s : ByteArray} {p : Nat} : (rest s p).size = s.size - p := size_ext s p s.size (Nat.le_refl _)
theorem rest_ext {s : ByteArray} {p n : Nat} (h : p + n ≤ s.size) : (rest s p).extract 0 n = s.extract p (p + n) := ext_ext s p s.size 0 n h
theorem rest_alnum {s : ByteArray} {p : Nat} (h : p < s.size) : alnum (rest s p) 0 = alnum s p := alnum_ext s p s.size 0 (by omega)

theorem found_alnum {s : ByteArray} {p : Nat} (h : p < s.size) (ha : alnum s p = true) : foundT (rest s p) = s.extract p (endI s p) ∧ ∀ j, p ≤ j → j < endI s p → byt s j < 128 := by
 have e1 : endI s p = runE s p := by simp [endI, ha]
 have e2 := runE_rest (s := s) (p := p) (by omega)
 obtain ⟨_, b, c, _⟩ := first_is (fun j => !alnum s j) s.size p (by omega)
 have b' : runE s p ≤ s.size := b
 refine ⟨?_, fun j h1 h2 => ?_⟩
 ·unfold foundT
  rw [if_pos (by rw [rest_alnum h]; exact ha), rest_ext (by omega), e2, e1]
 ·have : (!alnum s j) = false := c j h1 (by rw [e1] at h2; exact h2)
  have h3 : alnum s j = true := by simpa using this
  unfold alnum at h3
  rw [Bool.or_eq_true, low_iff, dig_iff] at h3
  omega
theorem found_sign {s : ByteArray} {p : Nat} (h : p < s.size) (ha : alnum s p = false) :
    (kindI (s.extract p (endI s p)) = 0 ∧ kindI (foundT (rest s p)) = 0) ∨ (foundT (rest s p) = s.extract p (endI s p) ∧ ∀ j, p ≤ j → j < endI s p → byt s j < 128) := by
 have hf : foundT (rest s p) = signT (rest s p) := by unfold foundT; rw [if_neg (by rw [rest_alnum h, ha]; decide)]
 have hz := rest_size (s := s) (p := p)
 by_cases h2 : p + 1 < s.size ∧ signB (s.extract p (p + 2)) = true
 ·right
  have e1 : endI s p = p + 2 := by unfold endI; rw [if_neg (by simp [ha]), if_pos h2]
  rw [hf, e1]
  refine ⟨?_, fun j h3 h4 => ?_⟩
  ·unfold signT
   rw [rest_ext (by omega), if_pos ⟨by omega, h2.2⟩]
  ·have := sign_ascii h2.2 (j - p)
   rw [byt_ext s p (p + 2) (j - p) (by omega), show p + (j - p) = j by omega] at this
   exact this
 ·have e1 : endI s p = p + 1 := by unfold endI; rw [if_neg (by simp [ha]), if_neg h2]
  have hb : byt (s.extract p (p + 1)) 0 = byt s p := byt_ext s p (p + 1) 0 (by omega)
  have hs2 : ¬ (2 ≤ (rest s p).size ∧ signB ((rest s p).extract 0 2) = true) := by
   rintro ⟨a, b⟩
   rw [rest_ext (by omega)] at b
   exact h2 ⟨by omega, b⟩
  rw [hf, e1]
  unfold signT
  rw [if_neg hs2, rest_ext (by omega)]
  by_cases h1 : signB (s.extract p (p + 1)) = true
  ·right
   rw [if_pos h1]
   refine ⟨rfl, fun j h3 h4 => ?_⟩
   have := sign_ascii h1 0
   rw [hb] at this
   rwa [show j = p by omega]
  ·left
   rw [if_neg h1]
   refine ⟨kind_zero ?_ ?_ (by simpa using h1), empty_kind⟩
   ·rw [hb]; unfold alnum at ha; simp at ha; exact ha.1
   ·rw [hb]; unfold alnum at ha; simp at ha; exact ha.2
theorem found_yes {s : ByteArray} {p : Nat} (h : p < s.size) (hk : kindI (s.extract p (endI s p)) ≠ 0) : foundT (rest s p) = s.extract p (endI s p) ∧ ∀ j, p ≤ j → j < endI s p → byt s j < 128 := by
 by_cases ha : alnum s p = true
 ·exact found_alnum h ha
 ·rcases found_sign h (by simpa using ha) with h1 | h1
  ·exact absurd h1.1 hk
  ·exact h1
theorem found_no {s : ByteArray} {p : Nat} (h : p < s.size) (hk : kindI (s.extract p (endI s p)) = 0) : kindI (foundT (rest s p)) = 0 := by
 by_cases ha : alnum s p = true
 ·rw [(found_alnum h ha).1]; exact hk
 ·rcases found_sign h (by simpa using ha) with h1 | h1
  ·exact h1.2
  ·rw [h1.1]; exact hk

/-- The bytes behind a rune's first one are none of ASCII. -/
theorem decode_cont (s : ByteArray) (p : Nat) : ∀ j, 1 ≤ j → j < (Utf8.decode s p).2 → p + j < s.size ∧ 128 ≤ byt s (p + j) := by
 have key : ∀ k, (p + k < s.size && (s.get! (p + k)).toNat / 64 == 2) = true → p + k < s.size ∧ 128 ≤ byt s (p + k) := fun k h => by
  rw [Bool.and_eq_true, decide_eq_true_eq, beq_iff_eq] at h
  refine ⟨h.1, ?_⟩
  rw [byt_eq s (p + k) h.1]
  have e : s.get! (p + k) = s[p + k]'h.1 := get_at s (p + k) h.1
  rw [e] at h
  omega
 intro j h1 h2
 simp only [Utf8.decode] at h2
 repeat' split at h2
 all_goals first
  | (simp at h2; omega)
  | (rename_i hc _; simp only [Bool.and_eq_true] at hc; rcases (by simp at h2; omega : j = 1 ∨ j = 2 ∨ j = 3) with rfl | rfl | rfl <;> (try (simp at h2; done)) <;> (apply key; simp_all))
end Go.Proofs.YtjmjmdmnejnlbaaGreatDoor
namespace Go.Proofs.YtjmjmdmnejnlbaaGreatDoor
open Go.RowKit
open Pl

theorem next_at {P : Program} (w : World) (k : Nat) (s : ByteArray) (pos : Nat) (hk : w.heap[k]? = some (.stringIter s pos)) (h : pos < s.size) : ∃ r d : Nat,
    (∀ ty, (Instr.next (.pointer (some ⟨k, 0, none⟩)) true ty).run P w = .ok (.tuple #[.bool true, .int .i64 pos, .int .i32 r]) (w.iterAt k s (pos + d))) ∧ 1 ≤ d ∧ pos + d ≤ s.size ∧
    (byt s pos < 128 → (r : Int) = byt s pos ∧ d = 1) ∧ (128 ≤ byt s pos → 128 ≤ r) ∧ (∀ j, 1 ≤ j → j < d → pos + j < s.size ∧ 128 ≤ byt s (pos + j)) := by
 have hb := byt_eq s pos h
 have hc := decode_cont s pos
 have hw : ∀ d, 1 ≤ d → (∀ j, 1 ≤ j → j < d → pos + j < s.size ∧ 128 ≤ byt s (pos + j)) → pos + d ≤ s.size := fun d h1 h2 => by
  by_cases e : d = 1
  ·omega
  ·have := (h2 (d - 1) (by omega) (by omega)).1
   omega
 by_cases ha : (s[pos]'h).toNat < 128
 ·have e := decode_ascii s pos h ha
  rw [e] at hc
  exact ⟨(s[pos]'h).toNat, 1, fun ty => Lib.run_next_ascii_at w k s pos ty hk h ha, Nat.le_refl _, by omega, fun _ => ⟨hb.symm, rfl⟩, fun h1 => by omega, hc⟩
 ·have hd := decode_high s pos h (by omega)
  exact ⟨(Utf8.decode s pos).1, (Utf8.decode s pos).2, fun ty => Lib.run_next_any_at w k s pos ty hk h, hd.2, hw _ hd.2 hc, fun h1 => by omega, fun _ => hd.1, hc⟩

/-- Where the program stands: pos, done, the words so far. -/
def Inv (s : ByteArray) (pos done : Nat) (ws : List W3) : Prop := pos ≤ s.size ∧ done ≤ s.size ∧ (pos < done → (∀ j, pos ≤ j → j < done → byt s j < 128) ∨ done = s.size ∨ byt s done = 10) ∧ ws.length ≤ 1500 ∧ scanI s (skipI s (max done pos)) ws = wordsI s

theorem inv_in {s : ByteArray} {pos done d : Nat} {ws : List W3} (h : Inv s pos done ws) (hlt : pos < done) (h1 : 1 ≤ d) (hz : pos + d ≤ s.size) (ha : byt s pos < 128 → d = 1) (hc : ∀ j, 1 ≤ j → j < d → pos + j < s.size ∧ 128 ≤ byt s (pos + j)) : Inv s (pos + d) done ws := by
 obtain ⟨a, b, c, e, f⟩ := h
 have hle : pos + d ≤ done := by
  rcases c hlt with c1 | c1 | c1
  ·have := ha (c1 pos (Nat.le_refl _) hlt)
   omega
  ·omega
  ·by_cases q : pos + d ≤ done
   ·exact q
   ·have := (hc (done - pos) (by omega) (by omega)).2
    rw [show pos + (done - pos) = done by omega] at this
    omega
 refine ⟨hz, b, fun h2 => ?_, e, ?_⟩
 ·rcases c hlt with c1 | c1
  ·exact .inl fun j h3 h4 => c1 j (by omega) h4
  ·exact .inr c1
 ·rw [show max done (pos + d) = done by omega]
  rw [show max done pos = done by omega] at f
  exact f
theorem inv_blank {s : ByteArray} {pos done : Nat} {ws : List W3} (h : Inv s pos done ws) (hlt : ¬ pos < done) (hp : pos < s.size) (hb : blankB s pos = true) : Inv s (pos + 1) done ws := by
 obtain ⟨a, b, c, e, f⟩ := h
 refine ⟨by omega, b, fun h2 => by omega, e, ?_⟩
 rw [show max done (pos + 1) = pos + 1 by omega, ← skip_blank hp hb]
 rw [show max done pos = pos by omega] at f
 exact f
theorem inv_note {s : ByteArray} {pos done : Nat} {ws : List W3} (h : Inv s pos done ws) (hlt : ¬ pos < done) (hp : pos < s.size) (h35 : byt s pos = 35) : Inv s (pos + 1) (noteE s pos) ws := by
 obtain ⟨a, b, c, e, f⟩ := h
 have hg := noteE_gt hp h35
 obtain ⟨_, n2, _, n4⟩ := first_is (fun j => byt s j == 10) s.size pos (by omega)
 refine ⟨by omega, n2, fun h2 => .inr ?_, e, ?_⟩
 ·rcases n4 with n4 | n4
  ·exact .inl n4
  ·exact .inr (by have n5 : (byt s (noteE s pos) == 10) = true := n4
                  simpa using n5)
 ·rw [show max (noteE s pos) (pos + 1) = noteE s pos by omega, ← skip_note hp h35]
  rw [show max done pos = pos by omega] at f
  exact f
theorem inv_at {s : ByteArray} {pos done : Nat} {ws : List W3} (h : Inv s pos done ws) (hlt : ¬ pos < done) (hp : pos < s.size) (hb : blankB s pos = false) (h35 : byt s pos ≠ 35) : scanI s pos ws = wordsI s := by
 obtain ⟨a, b, c, e, f⟩ := h
 rw [show max done pos = pos by omega, skip_stop hp hb h35] at f
 exact f
theorem inv_word {s : ByteArray} {pos done : Nat} {ws : List W3} (h : Inv s pos done ws) (hs : scanI s pos ws = wordsI s) (hp : pos < s.size) (hk : kindI (s.extract pos (endI s pos)) ≠ 0) (hm : ws.length ≠ 1500) :
    Inv s (pos + 1) (endI s pos) (ws ++ [⟨kindI (s.extract pos (endI s pos)), s.extract pos (endI s pos), pos⟩]) := by
 obtain ⟨a, b, c, e, f⟩ := h
 obtain ⟨g1, g2⟩ := endI_gt hp
 obtain ⟨_, y⟩ := found_yes hp hk
 refine ⟨by omega, g2, fun _ => .inl fun j h1 h2 => y j (by omega) h2, by rw [List.length_append]; simp; omega, ?_⟩
 rw [show max (endI s pos) (pos + 1) = endI s pos by omega, ← scan_go hp hk hm]
 exact hs
theorem inv_end {s : ByteArray} {pos done : Nat} {ws : List W3} (h : Inv s pos done ws) (hp : ¬ pos < s.size) : wordsI s = (ws, 0, 0) := by
 obtain ⟨a, b, c, e, f⟩ := h
 rw [← f, skip_end (by omega)]
 exact scan_end (by omega)

/-- What lies in memory while the program reads words: the fault's variable, the iterator, the words so far. -/
def St (w : World) (s : ByteArray) (w' : World) (pos : Nat) (v : Value) (ws : List W3) : Prop :=
 Owns w' (w.heap.size + 2) v ws ∧ w'.heap[w.heap.size]? = some (.cells #[.int .i64 0, .int .i64 0] 31 (0, 0)) ∧ w'.heap[w.heap.size + 1]? = some (.stringIter s pos) ∧ Below w.heap.size w w'
theorem St.lt {w w' : World} {s : ByteArray} {pos : Nat} {v : Value} {ws : List W3} (h : St w s w' pos v ws) : w.heap.size + 1 < w'.heap.size := by
 have := h.2.2.1
 rcases Nat.lt_or_ge (w.heap.size + 1) w'.heap.size with h' | h'
 ·exact h'
 ·simp [Array.getElem?_eq_none h'] at this
theorem St.iter {w w' : World} {s : ByteArray} {pos : Nat} {v : Value} {ws : List W3} (h : St w s w' pos v ws) (q : Nat) : St w s (w'.iterAt (w.heap.size + 1) s q) q v ws := by
 obtain ⟨a, b, c, d⟩ := h
 refine ⟨?_, (Lib.iterAt_other _ _ _ _ _ (by omega)).trans b, Lib.iterAt_heap _ _ _ _ _ c, Lib.below_iterAt d (by omega) _ _⟩
 refine World.ownsRow.kept (row := some (w.heap.size + 1)) a ⟨rfl, rfl, rfl, by rw [Lib.iterAt_size]; exact Nat.le_refl _, fun k _ hk => Lib.iterAt_other _ _ _ _ _ (fun e => hk (by rw [e]))⟩ (.inr (a.off (by omega)))
theorem St.below {w w' w2 : World} {s : ByteArray} {pos : Nat} {v : Value} {ws : List W3} (h : St w s w' pos v ws) (hb : Below w'.heap.size w' w2) : St w s w2 pos v ws := by
 have hl := h.lt
 obtain ⟨a, b, c, d⟩ := h
 exact ⟨a.below hb, (hb.block _ (by omega)).trans b, (hb.block _ hl).trans c, below_step d hb⟩
theorem St.grow {w w' w2 : World} {s : ByteArray} {pos : Nat} {v v2 : Value} {ws ws2 : List W3} {o : Obj} (h : St w s w' pos v ws) (hg : (w'.alloc o).grownBy w2 v.ownBlock) (ho : Owns w2 (w.heap.size + 2) v2 ws2) : St w s w2 pos v2 ws2 := by
 have hl := h.lt
 obtain ⟨a, b, c, d⟩ := h
 have o1 := a.off (n := w.heap.size) (by omega)
 have o2 := a.off (n := w.heap.size + 1) (by omega)
 refine ⟨ho, ?_, ?_, (d.alloc (by omega) o).grown hg (by simp; omega) (fun k hk => by have := (World.ownsRow.lt a k hk).1; omega)⟩
 ·rw [hg.block _ (by simp; omega) (fun e => o1 e.symm), Lib.alloc_old _ _ _ (by omega)]; exact b
 ·rw [hg.block _ (by simp; omega) (fun e => o2 e.symm), Lib.alloc_old _ _ _ hl]; exact c
end Go.Proofs.YtjmjmdmnejnlbaaGreatDoor
namespace Go.Proofs.YtjmjmdmnejnlbaaGreatDoor
open Go.RowKit
open Pl

theorem owns_nil (w : World) (base : Nat) : Owns w base (.slice none 0 0) [] := World.ownsRow_nil _ _ _ _
/-- What a call that answers a fault and no words leaves. -/
theorem fault_nil {w w2 : World} {c d : Value} (hN : w2.heap[w.heap.size]? = some (.cells #[.int .i64 0, .int .i64 0] 31 (0, 0))) (hB : Below w.heap.size w w2) :
    ((w2.setCell ⟨w.heap.size, 0, none⟩ c).setCell ⟨w.heap.size, 1, none⟩ d).cell? ⟨w.heap.size, 0, none⟩ = some c ∧ ((w2.setCell ⟨w.heap.size, 0, none⟩ c).setCell ⟨w.heap.size, 1, none⟩ d).cell? ⟨w.heap.size, 1, none⟩ = some d ∧
    Below w.heap.size w ((w2.setCell ⟨w.heap.size, 0, none⟩ c).setCell ⟨w.heap.size, 1, none⟩ d) := by
 have h2 := two_set (c := c) (d := d) hN
 exact ⟨by rw [Lib.cell_of_heap h2]; rfl, by rw [Lib.cell_of_heap h2]; rfl, (hB.setCell (p := ⟨w.heap.size, 0, none⟩) (Nat.le_refl _) _).setCell (p := ⟨w.heap.size, 1, none⟩) (Nat.le_refl _) _⟩
theorem St.cells {w w' : World} {s : ByteArray} {pos : Nat} {v : Value} {ws : List W3} (h : St w s w' pos v ws) : w'.cell? ⟨w.heap.size, 0, none⟩ = some (.int .i64 0) ∧ w'.cell? ⟨w.heap.size, 1, none⟩ = some (.int .i64 0) ∧ w'.frozen? ⟨w.heap.size, 0, none⟩ = false ∧ w'.frozen? ⟨w.heap.size, 1, none⟩ = false := by
 have hN := h.2.1
 exact ⟨by rw [Lib.cell_of_heap hN]; rfl, by rw [Lib.cell_of_heap hN]; rfl, Lib.frozen_of_heap hN 0, Lib.frozen_of_heap hN 1⟩

theorem ext_le (t : ByteArray) (a b : Nat) : (t.extract a b).size ≤ t.size := by
 rw [Lib.size_eq, Lib.extract_data, Lib.size_eq]
 simp only [List.length_take, List.length_drop]
 omega
theorem found_size (t : ByteArray) : (foundT t).size ≤ t.size := by
 unfold foundT signT
 split
 ·exact ext_le _ _ _
 ·split
  ·exact ext_le _ _ _
  ·split
   ·exact ext_le _ _ _
   ·exact Nat.zero_le _

set_option maxRecDepth 100000 in
set_option maxHeartbeats 2000000 in
theorem iWords_any (s : ByteArray) (w : World) (hs : s.size ≤ maxLen) :
    Calls Tryz.prog 32 #[.string s] w fun e w' => ∃ v, e = .returned (.tuple #[v, .agg #[.int .i64 (wordsI s).2.1, .int .i64 (wordsI s).2.2]]) ∧ Owns w' w.heap.size v (wordsI s).1 ∧ Below w.heap.size w w' := by
 unfold maxLen at hs
 by_cases h4 : 4000 < (s.size : Int)
 ·have HW := mkHid (show wordsI s = ([], 1, 0) by unfold wordsI; rw [if_pos (by omega)])
  rw [HW.out]
  go_enter Tryz.func32, Tryz.ntmps32
  go_wp2
  exact bodyPost_ret (v := .tuple #[.slice none 0 0, .agg #[.int .i64 1, .int .i64 0]]) (by simp [results, Tryz.results32, go_sem]) rfl
   ⟨_, rfl, owns_nil _ _, (Below.refl _ _).alloc (Nat.le_refl _) _⟩
 ·have HW := mkHid (show wordsI s = scanI s (skipI s 0) [] by unfold wordsI; rw [if_neg (by omega)])
  obtain ⟨i0, hi, hz⟩ := Option.map_eq_some_iff.1 Tryz.info58
  simp only [Prod.mk.injEq] at hz
  obtain ⟨hz0, hz1, hz2⟩ := hz
  have HI := mkHid (show Tryz.prog.info? 58 = some i0 ∧ i0.zero = some (.agg #[.int .i64 0, .string ByteArray.empty, .int .i64 0]) ∧ i0.size = 3 ∧ i0.bytes = 32 from ⟨hi, hz0, hz1, hz2⟩)
  clear hi hz0 hz1 hz2
  go_enter Tryz.func32, Tryz.ntmps32
  go_wp2
  go_loopw [4, 5] (fun o dn w' => ∃ (pos done : Nat) (ws : List W3) (ao : Option Addr) (cap : Nat), dn = .int .i64 done ∧ o = .slice ao ws.length cap ∧ St w s w' pos (.slice ao ws.length cap) ws ∧ Inv s pos done ws) (fun _ _ w' => s.size - w'.iterPos (w.heap.size + 1))
  case atStart =>
   refine ⟨0, 0, [], none, 0, rfl, rfl, ⟨owns_nil _ _, ?_, ?_, ((Below.refl _ _).alloc (Nat.le_refl _) _).alloc (by simp) _⟩, Nat.zero_le _, Nat.zero_le _, fun h => by omega, by simp, HW.out.symm⟩
   ·show ((w.alloc _).alloc _).heap[_]? = _
    rw [Lib.alloc_old _ _ _ (by simp)]
    exact heap_alloc_new w _
   ·have := heap_alloc_new (w.alloc (.cells #[.int .i64 0, .int .i64 0] 31)) (.stringIter s 0)
    rw [show (w.alloc (.cells #[.int .i64 0, .int .i64 0] 31)).heap.size = w.heap.size + 1 by simp] at this
    exact this
  case round =>
   obtain ⟨pos, done, ws, ao, cap, rfl, rfl, hst, hinv⟩ := hrel
   have HT := mkHid hst
   have HV := mkHid hinv
   have hps := hinv.1
   have hds := hinv.2.1
   have hwl := hinv.2.2.2.1
   clear hst hinv HW
   by_cases hp : pos < s.size
   ·obtain ⟨r, d, hnx, hd1, hdz, hr1, hr2, hcont⟩ := next_at (P := Tryz.prog) wr (w.heap.size + 1) s pos HT.out.2.2.1 hp
    have HT1 := mkHid (HT.out.iter (pos + d))
    have hip : (wr.iterPos (w.heap.size + 1)) = pos := by simp [World.iterPos, HT.out.2.2.1]
    by_cases hin : (pos : Int) < (done : Int)
    ·have HV1 := mkHid (inv_in HV.out (by omega) hd1 hdz (fun h => (hr1 h).2) hcont)
     have hip1 : (wr.iterAt (w.heap.size + 1) s (pos + d)).iterPos (w.heap.size + 1) = pos + d := by simp [World.iterPos, HT1.out.2.2.1]
     have HP := mkHid hip
     have HP1 := mkHid hip1
     clear hr1 hr2 hcont HT HV hip hip1
     go_wp2
     go_roundw
     case rel => exact ⟨pos + d, done, ws, ao, cap, rfl, rfl, HT1.out, HV1.out⟩
     case measure => rw [HP.out, HP1.out]; omega
    ·have hip1 : (wr.iterAt (w.heap.size + 1) s (pos + d)).iterPos (w.heap.size + 1) = pos + d := by simp [World.iterPos, HT1.out.2.2.1]
     have HP := mkHid hip
     have HP1 := mkHid hip1
     have HC := mkHid hr1
     have HD := mkHid hr2
     clear hr1 hr2 hcont HT hip hip1
     by_cases hbl : blkI r = true
     ·have hb : blankB s pos = true ∧ d = 1 := by
        have hlt : byt s pos < 128 := by
         by_cases q : byt s pos < 128
         ·exact q
         ·have := HD.out (by omega)
          unfold blkI at hbl; simp at hbl; omega
        obtain ⟨e1, e2⟩ := HC.out hlt
        refine ⟨?_, e2⟩
        unfold blankB; rw [← e1]; exact hbl
      obtain ⟨hb, hd⟩ := hb
      subst hd
      have HV1 := mkHid (inv_blank HV.out (by omega) hp hb)
      clear hb HV
      go_wp2_with (go_at_call 66; refine (isBlank_any _ _).mono ?_; rintro e w' ⟨rfl, rfl⟩)
      go_roundw
      case rel => exact ⟨pos + 1, done, ws, ao, cap, rfl, rfl, HT1.out, HV1.out⟩
      case measure => rw [HP.out, HP1.out]; omega
     ·simp only [Bool.not_eq_true] at hbl
      have HNB : Hid (blankB s pos = false) := by
       show _ = _
       by_cases q : byt s pos < 128
       ·obtain ⟨e1, _⟩ := HC.out q
        unfold blankB; rw [← e1]; exact hbl
       ·unfold blankB; simp; omega
      by_cases h35 : ((r : Int) == 35) = true
      ·have hb : byt s pos = 35 ∧ d = 1 := by
         have hlt : byt s pos < 128 := by
          by_cases q : byt s pos < 128
          ·exact q
          ·have := HD.out (by omega)
           simp at h35; omega
         obtain ⟨e1, e2⟩ := HC.out hlt
         refine ⟨?_, e2⟩
         rw [← e1]; simpa using h35
       obtain ⟨hb, hd⟩ := hb
       subst hd
       have HV1 := mkHid (inv_note HV.out (by omega) hp hb)
       have HE : Hid (pos + noteE (s.extract pos s.size) 0 = noteE s pos) := noteE_rest (by omega)
       have hnl : noteE s pos ≤ s.size := noteE_le hps
       have hnn : pos + noteE (s.extract pos s.size) 0 ≤ s.size := by have := HE.out; omega
       clear hb HV
       go_wp2_with (first | (go_at_call 66; refine (isBlank_any _ _).mono ?_; rintro e w' ⟨rfl, rfl⟩) | (go_at_call 67; refine (noteSize_any _ _).mono ?_; rintro e w' ⟨rfl, rfl⟩))
       go_roundw
       case rel => exact ⟨pos + 1, noteE s pos, ws, ao, cap, by rw [← HE.out]; go_num, rfl, HT1.out, HV1.out⟩
       case measure => rw [HP.out, HP1.out]; omega
      ·simp only [Bool.not_eq_true] at h35
       have HN5 : Hid (byt s pos ≠ 35) := by
        show _ ≠ _
        intro e
        obtain ⟨e1, _⟩ := HC.out (by omega)
        rw [e1, e] at h35
        simp at h35
       have HS := mkHid (inv_at HV.out (by omega) hp HNB.out HN5.out)
       clear HNB HN5 HD
       have hrz : 1 ≤ (s.extract pos s.size).size ∧ (s.extract pos s.size).size ≤ 4000 := by
        have : (s.extract pos s.size).size = s.size - pos := rest_size
        omega
       go_wp2_with (first | (go_at_call 66; refine (isBlank_any _ _).mono ?_; rintro e w' ⟨rfl, rfl⟩) | fail)
       obtain ⟨f, hf⟩ : ∃ f, f = foundT (s.extract pos s.size) := ⟨_, rfl⟩
       have hfz : f.size ≤ 4000 := by rw [hf]; exact Nat.le_trans (found_size _) hrz.2
       have HF := mkHid hf
       have hcall := longestWord_any (s.extract pos s.size) (wr.iterAt (w.heap.size + 1) s (pos + d)) hrz.2 hrz.1
       rw [← hf] at hcall
       clear hf
       refine hcall.mono ?_
       rintro e w1 ⟨rfl, hb1⟩
       have HT2 := mkHid (HT1.out.below hb1)
       clear hb1 HT1 HP1 hrz hcall
       go_wp2_with fail
       refine (kindOf_any f _ (by unfold maxLen; omega)).mono ?_
       rintro e w2 ⟨rfl, hb2⟩
       have HT3 := mkHid (HT2.out.below hb2)
       clear hb2 HT2
       obtain ⟨c0, c1, f0, f1⟩ := HT3.out.cells
       by_cases hk : kindI (s.extract pos (endI s pos)) = 0
       ·have hk0 : (kindI f == 0) = true := by
          have : kindI f = 0 := by rw [HF.out]; exact found_no hp hk
          simpa using this
        have HR := mkHid (show wordsI s = ([], 2, (pos : Int)) by rw [← HS.out]; exact scan_bad hp hk)
        clear hk HS HF HV HC
        go_wp2
        obtain ⟨q0, q1, q2⟩ := fault_nil (c := .int .i64 2) (d := .int .i64 pos) HT3.out.2.1 HT3.out.2.2.2
        exact bodyPost_ret (v := .tuple #[.slice none 0 0, .agg #[.int .i64 2, .int .i64 pos]]) (by simp [results, Tryz.results32, go_sem, q0, q1]) rfl ⟨_, by rw [HR.out], by rw [HR.out]; exact owns_nil _ _, q2⟩
       ·obtain ⟨y1, y2⟩ := found_yes hp hk
        have hfe : f = s.extract pos (endI s pos) := HF.out.trans y1
        have hk0 : (kindI f == 0) = false := by
         rw [hfe]; simpa using hk
        by_cases hm : ((ws.length : Int) == 1500) = true
        ·have HR := mkHid (show wordsI s = ([], 3, (pos : Int)) by
           rw [← HS.out]
           refine scan_many hp hk ?_
           simp at hm; omega)
         clear hk HS HF HV HC y1 y2 hfe
         go_wp2
         obtain ⟨q0, q1, q2⟩ := fault_nil (c := .int .i64 3) (d := .int .i64 pos) HT3.out.2.1 HT3.out.2.2.2
         exact bodyPost_ret (v := .tuple #[.slice none 0 0, .agg #[.int .i64 3, .int .i64 pos]]) (by simp [results, Tryz.results32, go_sem, q0, q1]) rfl ⟨_, by rw [HR.out], by rw [HR.out]; exact owns_nil _ _, q2⟩
        ·have hm0 : ws.length ≠ 1500 := by simp at hm; omega
         simp only [Bool.not_eq_true] at hm
         have HV1 := mkHid (inv_word HV.out HS.out hp hk hm0)
         obtain ⟨he1, he2⟩ := endI_gt hp
         have hd : d = 1 := (HC.out (y2 pos (Nat.le_refl _) he1)).2
         subst hd
         have hfs : f.size = endI s pos - pos := by rw [hfe]; exact size_ext s pos _ he2
         have HFE := mkHid hfe
         have HFS := mkHid hfs
         clear hk HS HF HV HC y1 y2 hfe hfs c0 c1 f0 f1
         go_wp2_with fail
         refine (clone_any f _ hfz).mono ?_
         rintro e w3 ⟨rfl, hb3⟩
         have HT4 := mkHid (HT3.out.below hb3)
         clear hb3 HT3
         have hsz4 : w.heap.size + 2 ≤ w3.heap.size := HT4.out.lt
         go_wp2_with (at_builtin; refine wpList_append_lies _ rfl _ _ 50 rfl (w.heap.size + 2) 58 i0 (.agg #[.int .i64 0, .string ByteArray.empty, .int .i64 0]) 3 32 Tryz.underlying50 HI.out.1 HI.out.2.1 HI.out.2.2.1 HI.out.2.2.2 rfl (by decide) _ _ _ rfl (HT4.out.1.alloc _) ⟨w3.heap.size, 0, none⟩ 1 1 [.int .i64 (kindI f), .string f, .int .i64 pos] rfl rfl ?c1 ?c2 (by decide) ?c3 ?c4 ?c5 (w3.heap.size + 1) (by simp) ?_)
         case c1 => exact three_new _ _ _ _
         case c2 => intro u hu; simp at hu; rcases hu with rfl | rfl | rfl <;> rfl
         case c3 => unfold maxLen; omega
         case c4 => omega
         case c5 => simp; omega
         intro g cap' w4 hown' hgrow _ _
         have HT5 : Hid (St w s w4 (pos + 1) (.slice (some ⟨g, 0, none⟩) (ws.length + 1) cap') (ws ++ [⟨kindI f, f, pos⟩])) := by
          refine HT4.out.grow hgrow ?_
          unfold Owns
          rw [← flat_snoc, List.length_append]
          exact hown'
         have HP2 : Hid (w4.iterPos (w.heap.size + 1) = pos + 1) := by
          show _ = _
          simp [World.iterPos, HT5.out.2.2.1]
         clear hown' hgrow HT4
         go_wp2
         go_roundw
         case rel =>
          refine ⟨pos + 1, endI s pos, ws ++ [⟨kindI f, f, pos⟩], _, _, ?_, by rw [List.length_append]; rfl, by rw [List.length_append]; exact HT5.out, ?_⟩
          ·have := HFS.out
           congr 1
           omega
          ·rw [HFE.out]; exact HV1.out
         case measure => rw [HP.out, HP2.out]; omega
   ·have hnx : ∀ ty, (Instr.next (.pointer (some ⟨w.heap.size + 1, 0, none⟩)) true ty).run Tryz.prog wr = _ := fun ty => Lib.run_next_end_at wr (w.heap.size + 1) s pos ty HT.out.2.2.1 hp
    have HR := mkHid (inv_end HV.out hp)
    obtain ⟨c0, c1, f0, f1⟩ := HT.out.cells
    go_wp2
    obtain ⟨q0, q1, q2⟩ := fault_nil (c := .int .i64 0) (d := .int .i64 0) HT.out.2.1 HT.out.2.2.2
    exact bodyPost_ret (v := .tuple #[.slice ao ws.length cap, .agg #[.int .i64 0, .int .i64 0]]) (by simp [results, Tryz.results32, go_sem, q0, q1]) rfl
     ⟨_, by rw [HR.out], by rw [HR.out]; exact (((HT.out.1.setCell ⟨w.heap.size, 0, none⟩ _ (show w.heap.size < w.heap.size + 2 by omega)).setCell ⟨w.heap.size, 1, none⟩ _ (show w.heap.size < w.heap.size + 2 by omega))).mono (by omega), q2⟩
end Go.Proofs.YtjmjmdmnejnlbaaGreatDoor
namespace Go.Proofs.YtjmjmdmnejnlbaaGreatDoor
open Go.RowKit
open Pl

theorem grown_trans {a b c : World} {r : Option Nat} (h : a.grownBy b r) (k : b.grownBy c r) : a.grownBy c r :=
 ⟨k.os.trans h.os, k.tape.trans h.tape, k.output.trans h.output, Nat.le_trans h.size k.size, fun i hi hne => (k.block i (Nat.lt_of_lt_of_le hi h.size) hne).trans (h.block i hi hne)⟩
theorem grown_below {a b : World} {r : Option Nat} (h : Below a.heap.size a b) : a.grownBy b r := ⟨h.os, h.tape, h.output, h.size, fun i hi _ => h.block i hi⟩

end Go.Proofs.YtjmjmdmnejnlbaaGreatDoor
namespace Go.Proofs.YtjmjmdmnejnlbaaGreatDoor
open Go.RowKit
open Pl

theorem scan_len (s : ByteArray) (at_ : Nat) (acc : List W3) (h : acc.length ≤ 1500) : (scanI s at_ acc).1.length ≤ 1500 := by
 generalize hf : s.size - at_ = f
 induction f using Nat.strongRecOn generalizing at_ acc with
 | _ f ih =>
   by_cases h1 : at_ < s.size
   ·by_cases hk : kindI (s.extract at_ (endI s at_)) = 0
    ·rw [scan_bad h1 hk]; simp
    ·by_cases hm : acc.length = 1500
     ·rw [scan_many h1 hk hm]; simp
     ·rw [scan_go h1 hk hm]
      have h2 := endI_gt h1
      have h3 := skip_ge s (endI s at_)
      exact ih (s.size - skipI s (endI s at_)) (by omega) _ _ (by rw [List.length_append]; simp; omega) rfl
   ·rw [scan_end h1]; exact h
theorem words_len (s : ByteArray) : (wordsI s).1.length ≤ 1500 := by
 unfold wordsI
 split
 ·simp
 ·exact scan_len _ _ _ (by simp)

theorem Owns.some {w : World} {base : Nat} {v : Value} {ws : List W3} (h : Owns w base v ws) (hne : ws.length ≠ 0) : ∃ g cap, v = .slice (some ⟨g, 0, none⟩) ws.length cap := by
 rcases h.2 with ⟨_, h0⟩ | ⟨g, cap, cur, rfl, _⟩
 ·exact absurd h0 hne
 ·exact ⟨_, _, rfl⟩
end Go.Proofs.YtjmjmdmnejnlbaaGreatDoor
namespace Go.Proofs.YtjmjmdmnejnlbaaGreatDoor
end Go.Proofs.YtjmjmdmnejnlbaaGreatDoor
namespace Go.Proofs.YtjmjmdmnejnlbaaGreatDoor
open Go.RowKit
open Pl

theorem dec_val {s : ByteArray} (h : ∀ k, k < s.size → digI (byt s k) = true) : ∀ k, k ≤ s.size → ∃ m : Nat, Lib.decFrom 0 (s.data.toList.take k) = some m ∧ (m : Int) = val s k := by
 intro k
 induction k with
 | zero => intro _; exact ⟨0, rfl, rfl⟩
 | succ k ih =>
   intro hk
   obtain ⟨m, h1, h2⟩ := ih (by omega)
   have hd := (dig_iff _).1 (h k (by omega))
   have hl : k < s.data.toList.length := by rw [← Lib.size_eq]; omega
   have hb := byt_list s k
   rw [List.getD_eq_getElem?_getD, List.getElem?_eq_getElem hl] at hb
   simp only [Option.getD_some] at hb
   refine ⟨m * 10 + (s.data.toList[k].toNat - 48), Lib.decFrom_take _ _ _ _ _ _ h1 (List.getElem?_eq_getElem hl) ?_, ?_⟩
   ·unfold Lib.digitVal
    rw [if_pos (by omega)]
   ·simp only [val]
    omega
theorem num_short {s : ByteArray} (h : numB s = true) : s.size ≤ 7 := by
 have hp : numP s := by simpa [numB] using h
 rcases Nat.lt_or_ge 7 s.size with q | q
 ·have := val_long s s.size q hp.2.1 (hp.2.2.1 (by omega))
  have := hp.2.2.2
  omega
 ·exact q
theorem atoi_num {s : ByteArray} (h : numB s = true) : Lib.atoi s.data.toList = some (numV s) := by
 have hp : numP s := by simpa [numB] using h
 obtain ⟨m, h1, h2⟩ := dec_val hp.2.1 s.size (Nat.le_refl _)
 rw [List.take_of_length_le (by rw [← Lib.size_eq]; exact Nat.le_refl _)] at h1
 rw [(numV_yes h).1, ← h2]
 have h0 := (dig_iff _).1 (hp.2.1 0 (by have := hp.1; omega))
 rw [byt_list] at h0
 have hne : s.data.toList ≠ [] := by
  intro e
  have q := Lib.size_eq s
  rw [e, List.length_nil] at q
  have := hp.1
  omega
 generalize s.data.toList = l at h1 h0 hne
 cases l with
 | nil => exact absurd rfl hne
 | cons b r =>
   simp only [List.getD_cons_zero] at h0
   have b1 : (b == 45) = false := by
    rw [beq_eq_false_iff_ne]
    rintro rfl
    simp at h0
   have b2 : (b == 43) = false := by
    rw [beq_eq_false_iff_ne]
    rintro rfl
    simp at h0
   simp [Lib.atoi, b1, b2, Lib.decNat, h1]
theorem kind_num {s : ByteArray} (h : kindI s = 2) : numB s = true := by
 unfold kindI at h
 split at h
 ·cases h
 ·split at h
  ·cases h
  ·split at h
   ·assumption
   ·split at h <;> cases h
theorem word_num {ws : List W3} (hw : WsOk ws) {i : Nat} (h : kindW ws i = 2) : numB (textW ws i) = true := by
 have hi := kindW_lt h (by decide)
 unfold kindW at h
 unfold textW
 rw [List.getElem?_eq_getElem hi] at h ⊢
 simp only at h ⊢
 exact kind_num (by rw [(hw _ (List.getElem_mem hi)).1, h])
theorem Step.of_below {rb : Nat} {a b : World} (h : Below a.heap.size a b) : Step rb a b := grown_below h

set_option maxRecDepth 100000 in
set_option maxHeartbeats 1000000 in
theorem num_yes (rb : Nat) (a : Option Addr) (cap : Nat) (ws : List W3) (i sz : Nat) (w : World) (h : Rd w rb a cap ws i sz) (hok : WsOk ws) (hw : kindW ws i = 2) :
    Calls Tryz.prog 100 #[.pointer (some ⟨rb, 0, none⟩)] w fun e w' => e = .returned (.int .i64 (numV (textW ws i))) ∧ Rd w' rb a cap ws (i + 1) sz ∧ Step rb w w' := by
 have HS := mkHid (takeKind_yes rb a cap ws i sz 2 (by decide) w h hw)
 have hn := word_num hok hw
 have HA := mkHid (fun w => Tryz.strconv_Atoi (textW ws i) (numV (textW ws i)) (by have := num_short hn; omega) (atoi_num hn) w)
 clear h hw hn
 go_enter Tryz.func100, Tryz.ntmps100
 go_wp2_with fail
 refine HS.out.mono ?_
 rintro e w1 ⟨rfl, h1, h2⟩
 have H1 := mkHid h1
 have H2 := mkHid h2
 clear h1 h2
 go_wp2_with fail
 refine (HA.out _).mono ?_
 rintro e w2 ⟨rfl, t, rfl⟩
 have hb := Lib.bytesWorld_below w1 5 t
 have H3 := mkHid (H1.out.keep (hb.mono H1.out.lt))
 have H4 := mkHid (H2.out.trans (Step.of_below hb))
 clear hb
 generalize Lib.bytesWorld w1 5 t = w3 at *
 go_wp2
 go_ret
 exact ⟨rfl, H3.out, H4.out⟩

/-- What a part of the reader answers: the tree, in memory of its own, or a panic; where the reader stands. -/
def Post (rb : Nat) (a : Option Addr) (cap : Nat) (ws : List W3) (sz : Nat) (w : World) (r : Res) (e : Ending) (w' : World) : Prop := match r with
 | .ok t j => ∃ x : A, e = .returned x.val ∧ x.erase = t ∧ Sits w' x ∧ New w.heap.size x ∧ Rd w' rb a cap ws j sz ∧ Step rb w w'
 | .no p => Died e ∧ Rd w' rb a cap ws p sz ∧ Step rb w w'
end Go.Proofs.YtjmjmdmnejnlbaaGreatDoor
namespace Go.Proofs.YtjmjmdmnejnlbaaGreatDoor
open Go.RowKit

theorem Sits.node {w' : World} {xs : List A} {k m : Int} {s : ByteArray} {b c : Nat} {cs : Array Value} (hs : s.size ≤ maxLen) (hn : xs.length ≤ maxLen) (hl : SitsL w' xs)
    (hb : w'.heap[b]? = some (.cells cs 26 (0, 0))) (hcs : ∀ (i : Nat) (v : Value), (cellsL xs)[i]? = some v → cs[i]? = some v) : Sits w' (.node k s m (some ⟨b, 0, none⟩) c xs) := by
 simp only [Sits]
 exact ⟨hs, hn, .inr ⟨b, cs, rfl, hb, hcs⟩, hl⟩
theorem Sits.leaf (w : World) {k m : Int} {s : ByteArray} (a : Option Addr) (c : Nat) (hs : s.size ≤ maxLen) : Sits w (.node k s m a c []) := by
 simp only [Sits, SitsL, List.length_nil]
 exact ⟨hs, Nat.zero_le _, .inl rfl, trivial⟩
theorem New.leaf (n : Nat) (k m : Int) (s : ByteArray) (a : Option Addr) (c : Nat) : New n (.node k s m a c []) := by
 simp [New, A.foot, feet]
theorem New.node {n b c : Nat} {xs : List A} {k m : Int} {s : ByteArray} (h : NewL n xs) (hb : n ≤ b) (hno : b ∉ feet xs) : New n (.node k s m (some ⟨b, 0, none⟩) c xs) := by
 unfold New
 simp only [A.foot]
 by_cases e : xs.length = 0
 ·rw [if_pos e, List.nil_append]
  exact h
 ·rw [if_neg e]
  simp only [blockOf]
  refine ⟨List.nodup_cons.2 ⟨hno, h.1⟩, fun q hq => ?_⟩
  rcases List.mem_cons.1 hq with rfl | hq
  ·exact hb
  ·exact h.2 q hq
theorem NewL.one {n : Nat} {x : A} (h : New n x) : NewL n [x] := by
 unfold NewL
 simp only [feet, List.append_nil]
 exact h
theorem NewL.snoc {n n1 : Nat} {xs : List A} {x : A} (h : NewL n xs) (hlt : ∀ b ∈ feet xs, b < n1) (hx : New n1 x) (hn : n ≤ n1) : NewL n (xs ++ [x]) := by
 unfold NewL
 rw [feet_append]
 simp only [feet, List.append_nil]
 refine ⟨List.nodup_append.2 ⟨h.1, hx.1, fun p hp q hq e => ?_⟩, fun b hb => ?_⟩
 ·have h1 := hlt p hp
  have h2 := hx.2 q hq
  omega
 ·rcases List.mem_append.1 hb with hb | hb
  ·exact h.2 b hb
  ·exact Nat.le_trans hn (hx.2 b hb)
theorem sitsL_one {w : World} {x : A} (h : Sits w x) : SitsL w [x] := ⟨h, trivial⟩
theorem sitsL_snoc {w : World} {xs : List A} {x : A} (h : SitsL w xs) (hx : Sits w x) : SitsL w (xs ++ [x]) :=
 (sitsL_iff _ _).2 fun y hy => by
  rcases List.mem_append.1 hy with hy | hy
  ·exact (sitsL_iff _ _).1 h y hy
  ·rw [List.mem_singleton.1 hy]; exact hx
theorem feet_one (x : A) : feet [x] = x.foot := by simp [feet]
theorem erase1 (k m : Int) (s : ByteArray) (a : Option Addr) (c : Nat) (x : A) : (A.node k s m a c [x]).erase = .node k s m [x.erase] := by simp only [A.erase, erases]
theorem erase2 (k m : Int) (s : ByteArray) (a : Option Addr) (c : Nat) (x y : A) : (A.node k s m a c [x, y]).erase = .node k s m [x.erase, y.erase] := by simp only [A.erase, erases]
theorem erase3 (k m : Int) (s : ByteArray) (a : Option Addr) (c : Nat) (x y z : A) : (A.node k s m a c [x, y, z]).erase = .node k s m [x.erase, y.erase, z.erase] := by simp only [A.erase, erases]
theorem erase0 (k m : Int) (s : ByteArray) (a : Option Addr) (c : Nat) : (A.node k s m a c []).erase = .node k s m [] := by simp only [A.erase, erases]

theorem four_of {w : World} {p : Nat} {v0 v1 v2 v3 : Value} (h : w.heap[p]? = some (.cells #[v0, v1, v2, v3] 26 (0, 0))) :
    w.cell? ⟨p, 0, none⟩ = some v0 ∧ w.cell? ⟨p, 1, none⟩ = some v1 ∧ w.cell? ⟨p, 2, none⟩ = some v2 ∧ w.cell? ⟨p, 3, none⟩ = some v3 ∧
    w.frozen? ⟨p, 0, none⟩ = false ∧ w.frozen? ⟨p, 1, none⟩ = false ∧ w.frozen? ⟨p, 2, none⟩ = false ∧ w.frozen? ⟨p, 3, none⟩ = false :=
 ⟨by rw [Lib.cell_of_heap h]; rfl, by rw [Lib.cell_of_heap h]; rfl, by rw [Lib.cell_of_heap h]; rfl, by rw [Lib.cell_of_heap h]; rfl, Lib.frozen_of_heap h 0, Lib.frozen_of_heap h 1, Lib.frozen_of_heap h 2, Lib.frozen_of_heap h 3⟩
@[reducible] def put4 (w : World) (p : Nat) (v0 v1 v2 v3 : Value) : World := (((w.setCell ⟨p, 0, none⟩ v0).setCell ⟨p, 1, none⟩ v1).setCell ⟨p, 2, none⟩ v2).setCell ⟨p, 3, none⟩ v3
theorem put4_at {w : World} {p : Nat} {u0 u1 u2 u3 : Value} (h : w.heap[p]? = some (.cells #[u0, u1, u2, u3] 26 (0, 0))) (v0 v1 v2 v3 : Value) : (put4 w p v0 v1 v2 v3).heap[p]? = some (.cells #[v0, v1, v2, v3] 26 (0, 0)) := by
 unfold put4
 rw [heap_setCell_same _ p 3 _ 26 _ (heap_setCell_same _ p 2 _ 26 _ (heap_setCell_same _ p 1 _ 26 _ (heap_setCell_same _ p 0 _ 26 _ h)))]
 rfl
theorem put4_other {w : World} {p k : Nat} (v0 v1 v2 v3 : Value) (h : k ≠ p) : (put4 w p v0 v1 v2 v3).heap[k]? = w.heap[k]? := by
 unfold put4
 rw [Below.heap_setCell _ _ _ _ h, Below.heap_setCell _ _ _ _ h, Below.heap_setCell _ _ _ _ h, Below.heap_setCell _ _ _ _ h]
theorem put4_size (w : World) (p : Nat) (v0 v1 v2 v3 : Value) : (put4 w p v0 v1 v2 v3).heap.size = w.heap.size := by
 simp [put4, World.setCell]
theorem put4_step {rb : Nat} {a b : World} (h : Step rb a b) {p : Nat} (hp : a.heap.size ≤ p) (v0 v1 v2 v3 : Value) : Step rb a (put4 b p v0 v1 v2 v3) :=
 (((h.setCell (p := ⟨p, 0, none⟩) (.inl hp) _).setCell (p := ⟨p, 1, none⟩) (.inl hp) _).setCell (p := ⟨p, 2, none⟩) (.inl hp) _).setCell (p := ⟨p, 3, none⟩) (.inl hp) _
theorem put4_rd {w : World} {rb : Nat} {a : Option Addr} {cap : Nat} {ws : List W3} {i sz : Nat} (h : Rd w rb a cap ws i sz) {p : Nat} (hp : rb < p) (v0 v1 v2 v3 : Value) : Rd (put4 w p v0 v1 v2 v3) rb a cap ws i sz :=
 (((h.setCell (p := ⟨p, 0, none⟩) hp _).setCell (p := ⟨p, 1, none⟩) hp _).setCell (p := ⟨p, 2, none⟩) hp _).setCell (p := ⟨p, 3, none⟩) hp _

theorem put4_cells {w : World} {p : Nat} {u0 u1 u2 u3 : Value} (h : w.heap[p]? = some (.cells #[u0, u1, u2, u3] 26 (0, 0))) (v0 v1 v2 v3 : Value) (o : Obj) :
    ((put4 w p v0 v1 v2 v3).alloc o).cell? ⟨p, 0, none⟩ = some v0 ∧ ((put4 w p v0 v1 v2 v3).alloc o).cell? ⟨p, 1, none⟩ = some v1 ∧ ((put4 w p v0 v1 v2 v3).alloc o).cell? ⟨p, 2, none⟩ = some v2 ∧ ((put4 w p v0 v1 v2 v3).alloc o).cell? ⟨p, 3, none⟩ = some v3 := by
 have h1 := put4_at h v0 v1 v2 v3
 have h2 := (Lib.alloc_old (put4 w p v0 v1 v2 v3) o p (Array.getElem?_eq_some_iff.1 h1).1).trans h1
 obtain ⟨a, b, c, d, _⟩ := four_of h2
 exact ⟨a, b, c, d⟩
theorem put4_cells0 {w : World} {p : Nat} {u0 u1 u2 u3 : Value} (h : w.heap[p]? = some (.cells #[u0, u1, u2, u3] 26 (0, 0))) (v0 v1 v2 v3 : Value) :
    (put4 w p v0 v1 v2 v3).cell? ⟨p, 0, none⟩ = some v0 ∧ (put4 w p v0 v1 v2 v3).cell? ⟨p, 1, none⟩ = some v1 ∧ (put4 w p v0 v1 v2 v3).cell? ⟨p, 2, none⟩ = some v2 ∧ (put4 w p v0 v1 v2 v3).cell? ⟨p, 3, none⟩ = some v3 := by
 obtain ⟨a, b, c, d, _⟩ := four_of (put4_at h v0 v1 v2 v3)
 exact ⟨a, b, c, d⟩
/-- The end of a part that answers a tree over a list that it has just laid. -/
theorem end_list {rb : Nat} {a : Option Addr} {cap : Nat} {ws : List W3} {sz : Nat} {w w2 : World} {n j : Nat} {u0 u1 u2 u3 : Value} (k m : Int) (s : ByteArray) (xs : List A) (cs : Array Value) (c : Nat)
    (hP : w2.heap[w.heap.size]? = some (.cells #[u0, u1, u2, u3] 26 (0, 0))) (hr : Rd w2 rb a cap ws j sz) (hrb : rb < w.heap.size) (hst : Step rb w w2) (hx : SitsL w2 xs) (hn : NewL n xs) (hlt : w.heap.size < n)
    (hlen : xs.length ≤ maxLen) (hcs : (cellsL xs).toArray = cs) (hs : s.size ≤ maxLen) :
    Post rb a cap ws sz w (.ok (.node k s m (erases xs)) j) (.returned (A.node k s m (some ⟨w2.heap.size, 0, none⟩) c xs).val)
     ((put4 w2 w.heap.size (.int .i64 k) (.string s) (.int .i64 m) (.slice (some ⟨w2.heap.size, 0, none⟩) xs.length c)).alloc (.cells cs 26)) := by
 have z2 : w.heap.size < w2.heap.size := (Array.getElem?_eq_some_iff.1 hP).1
 have hl := SitsL.lt hx
 generalize hW : put4 w2 w.heap.size (.int .i64 k) (.string s) (.int .i64 m) (.slice (some ⟨w2.heap.size, 0, none⟩) xs.length c) = W
 have hz : W.heap.size = w2.heap.size := by rw [← hW]; exact put4_size _ _ _ _ _ _
 have hno : ∀ q, q ≠ w.heap.size → W.heap[q]? = w2.heap[q]? := fun q hq => by rw [← hW]; exact put4_other _ _ _ _ hq
 have hR : Rd W rb a cap ws j sz := by rw [← hW]; exact put4_rd hr hrb _ _ _ _
 have hS : Step rb w W := by rw [← hW]; exact put4_step hst (Nat.le_refl _) _ _ _ _
 refine ⟨_, rfl, by simp only [A.erase], ?_, ?_, hR.alloc _, hS.alloc _⟩
 ·refine Sits.node hs hlen (hx.stay fun q hq => ?_) (cs := cs) ?_ (fun i v hv => ?_)
  ·rw [Lib.alloc_old _ _ _ (by rw [hz]; exact hl q hq)]
   exact hno q (by have := hn.2 q hq; omega)
  ·rw [← hz]; exact heap_alloc_new W _
  ·subst hcs
   simpa using hv
 ·refine New.node (hn.mono (by omega)) (by omega) (fun q => ?_)
  have := hl _ q
  omega
/-- The end of a part that answers a tree without a list. -/
theorem end_leaf {rb : Nat} {a : Option Addr} {cap : Nat} {ws : List W3} {sz : Nat} {w w2 : World} {j : Nat} (k m : Int) (s : ByteArray) (hr : Rd w2 rb a cap ws j sz) (hrb : rb < w.heap.size) (hst : Step rb w w2) (hs : s.size ≤ maxLen) :
    Post rb a cap ws sz w (.ok (.node k s m []) j) (.returned (A.node k s m none 0 []).val) (put4 w2 w.heap.size (.int .i64 k) (.string s) (.int .i64 m) (.slice none 0 0)) := by
 generalize hW : put4 w2 w.heap.size (.int .i64 k) (.string s) (.int .i64 m) (.slice none 0 0) = W
 have hR : Rd W rb a cap ws j sz := by rw [← hW]; exact put4_rd hr hrb _ _ _ _
 have hS : Step rb w W := by rw [← hW]; exact put4_step hst (Nat.le_refl _) _ _ _ _
 exact ⟨_, rfl, by simp only [A.erase, erases], Sits.leaf _ _ _ hs, New.leaf _ _ _ _ _ _, hR, hS⟩
/-- The end of a part that hands on a tree. -/
theorem end_tree {rb : Nat} {a : Option Addr} {cap : Nat} {ws : List W3} {sz : Nat} {w w2 : World} {n j : Nat} {t : T} (x : A) (v0 v1 v2 v3 : Value) (hr : Rd w2 rb a cap ws j sz) (hrb : rb < w.heap.size) (hst : Step rb w w2) (ht : x.erase = t) (hx : Sits w2 x) (hn : New n x) (hlt : w.heap.size < n) :
    Post rb a cap ws sz w (.ok t j) (.returned x.val) (put4 w2 w.heap.size v0 v1 v2 v3) := by
 generalize hW : put4 w2 w.heap.size v0 v1 v2 v3 = W
 have hno : ∀ q, q ≠ w.heap.size → W.heap[q]? = w2.heap[q]? := fun q hq => by rw [← hW]; exact put4_other _ _ _ _ hq
 have hR : Rd W rb a cap ws j sz := by rw [← hW]; exact put4_rd hr hrb _ _ _ _
 have hS : Step rb w W := by rw [← hW]; exact put4_step hst (Nat.le_refl _) _ _ _ _
 exact ⟨x, rfl, ht, Sits.stay x (fun q hq => hno q (by have := hn.2 q hq; omega)) hx, hn.mono (by omega), hR, hS⟩
end Go.Proofs.YtjmjmdmnejnlbaaGreatDoor
