/-
  CONTRACT of the program's Words.
-/
import Derived.Test.YthaehhndfahocaaMeet
namespace Go.Proofs.Ythaehhndfahocaa
open Go.RowKit
open Pl

theorem next_at {P : Program} (w : World) (k : Nat) (s : ByteArray) (pos : Nat) (hk : w.heap[k]? = some (.stringIter s pos)) (h : pos < s.size) : ∃ r d : Nat,
    (∀ ty, (Instr.next (.pointer (some ⟨k, 0, none⟩)) true ty).run P w = .ok (.tuple #[.bool true, .int .i64 pos, .int .i32 r]) (w.iterAt k s (pos + d))) ∧ 1 ≤ d ∧ pos + d ≤ s.size ∧
    (byt s pos < 128 → (r : Int) = byt s pos ∧ d = 1) ∧ (128 ≤ byt s pos → 128 ≤ r) ∧ (∀ j, 1 ≤ j → j < d → pos + j < s.size ∧ 128 ≤ byt s (pos + j)) := by
  have hb := byt_eq s pos h
  have hc := decode_cont s pos
  have hw : ∀ d, 1 ≤ d → (∀ j, 1 ≤ j → j < d → pos + j < s.size ∧ 128 ≤ byt s (pos + j)) → pos + d ≤ s.size := fun d h1 h2 => by
    by_cases e : d = 1
    · omega
    · have := (h2 (d - 1) (by omega) (by omega)).1
      omega
  by_cases ha : (s[pos]'h).toNat < 128
  · have e := decode_ascii s pos h ha
    rw [e] at hc
    exact ⟨(s[pos]'h).toNat, 1, fun ty => Lib.run_next_ascii_at w k s pos ty hk h ha, Nat.le_refl _, by omega, fun _ => ⟨hb.symm, rfl⟩, fun h1 => by omega, hc⟩
  · have hd := decode_high s pos h (by omega)
    exact ⟨(Utf8.decode s pos).1, (Utf8.decode s pos).2, fun ty => Lib.run_next_any_at w k s pos ty hk h, hd.2, hw _ hd.2 hc, fun h1 => by omega, fun _ => hd.1, hc⟩

/-- Where the program stands: pos, done, the words so far. -/
def Inv (s : ByteArray) (pos done : Nat) (ws : List W3) : Prop := pos ≤ s.size ∧ done ≤ s.size ∧ (pos < done → (∀ j, pos ≤ j → j < done → byt s j < 128) ∨ done = s.size ∨ byt s done = 10) ∧ ws.length ≤ 1500 ∧ scanI s (skipI s (max done pos)) ws = wordsI s

theorem inv_in {s : ByteArray} {pos done d : Nat} {ws : List W3} (h : Inv s pos done ws) (hlt : pos < done) (h1 : 1 ≤ d) (hz : pos + d ≤ s.size) (ha : byt s pos < 128 → d = 1) (hc : ∀ j, 1 ≤ j → j < d → pos + j < s.size ∧ 128 ≤ byt s (pos + j)) : Inv s (pos + d) done ws := by
  obtain ⟨a, b, c, e, f⟩ := h
  have hle : pos + d ≤ done := by
    rcases c hlt with c1 | c1 | c1
    · have := ha (c1 pos (Nat.le_refl _) hlt)
      omega
    · omega
    · by_cases q : pos + d ≤ done
      · exact q
      · have := (hc (done - pos) (by omega) (by omega)).2
        rw [show pos + (done - pos) = done by omega] at this
        omega
  refine ⟨hz, b, fun h2 => ?_, e, ?_⟩
  · rcases c hlt with c1 | c1
    · exact .inl fun j h3 h4 => c1 j (by omega) h4
    · exact .inr c1
  · rw [show max done (pos + d) = done by omega]
    rw [show max done pos = done by omega] at f
    exact f
theorem inv_blank {s : ByteArray} {pos done : Nat} {ws : List W3} (h : Inv s pos done ws) (hlt : ¬ pos < done) (hp : pos < s.size) (hb : blankB s pos = true) : Inv s (pos + 1) done ws := by
  obtain ⟨a, b, c, e, f⟩ := h
  refine ⟨by omega, b, fun h2 => by omega, e, ?_⟩
  rw [show max done (pos + 1) = pos + 1 by omega, ← skip_blank hp hb]
  rw [show max done pos = pos by omega] at f
  exact f
theorem inv_note {s : ByteArray} {pos done : Nat} {ws : List W3} (h : Inv s pos done ws) (hlt : ¬ pos < done) (hp : pos < s.size) (h35 : byt s pos = 35) : Inv s (pos + 1) (noteE s pos) ws := by
  obtain ⟨a, b, c, e, f⟩ := h
  have hg := noteE_gt hp h35
  obtain ⟨_, n2, _, n4⟩ := first_is (fun j => byt s j == 10) s.size pos (by omega)
  refine ⟨by omega, n2, fun h2 => .inr ?_, e, ?_⟩
  · rcases n4 with n4 | n4
    · exact .inl n4
    · exact .inr (by have n5 : (byt s (noteE s pos) == 10) = true := n4
                     simpa using n5)
  · rw [show max (noteE s pos) (pos + 1) = noteE s pos by omega, ← skip_note hp h35]
    rw [show max done pos = pos by omega] at f
    exact f
theorem inv_at {s : ByteArray} {pos done : Nat} {ws : List W3} (h : Inv s pos done ws) (hlt : ¬ pos < done) (hp : pos < s.size) (hb : blankB s pos = false) (h35 : byt s pos ≠ 35) : scanI s pos ws = wordsI s := by
  obtain ⟨a, b, c, e, f⟩ := h
  rw [show max done pos = pos by omega, skip_stop hp hb h35] at f
  exact f
theorem inv_word {s : ByteArray} {pos done : Nat} {ws : List W3} (h : Inv s pos done ws) (hs : scanI s pos ws = wordsI s) (hp : pos < s.size) (hk : kindI (s.extract pos (endI s pos)) ≠ 0) (hm : ws.length ≠ 1500) :
    Inv s (pos + 1) (endI s pos) (ws ++ [⟨kindI (s.extract pos (endI s pos)), s.extract pos (endI s pos), pos⟩]) := by
  obtain ⟨a, b, c, e, f⟩ := h
  obtain ⟨g1, g2⟩ := endI_gt hp
  obtain ⟨_, y⟩ := found_yes hp hk
  refine ⟨by omega, g2, fun _ => .inl fun j h1 h2 => y j (by omega) h2, by rw [List.length_append]; simp; omega, ?_⟩
  rw [show max (endI s pos) (pos + 1) = endI s pos by omega, ← scan_go hp hk hm]
  exact hs
theorem inv_end {s : ByteArray} {pos done : Nat} {ws : List W3} (h : Inv s pos done ws) (hp : ¬ pos < s.size) : wordsI s = (ws, 0, 0) := by
  obtain ⟨a, b, c, e, f⟩ := h
  rw [← f, skip_end (by omega)]
  exact scan_end (by omega)

/-- What lies in memory while the program reads words: the fault's variable, the iterator, the words so far. -/
def St (w : World) (s : ByteArray) (w' : World) (pos : Nat) (v : Value) (ws : List W3) : Prop :=
  Owns w' (w.heap.size + 2) v ws ∧ w'.heap[w.heap.size]? = some (.cells #[.int .i64 0, .int .i64 0] 28 (0, 0)) ∧ w'.heap[w.heap.size + 1]? = some (.stringIter s pos) ∧ Below w.heap.size w w'
theorem St.lt {w w' : World} {s : ByteArray} {pos : Nat} {v : Value} {ws : List W3} (h : St w s w' pos v ws) : w.heap.size + 1 < w'.heap.size := by
  have := h.2.2.1
  rcases Nat.lt_or_ge (w.heap.size + 1) w'.heap.size with h' | h'
  · exact h'
  · simp [Array.getElem?_eq_none h'] at this
theorem St.iter {w w' : World} {s : ByteArray} {pos : Nat} {v : Value} {ws : List W3} (h : St w s w' pos v ws) (q : Nat) : St w s (w'.iterAt (w.heap.size + 1) s q) q v ws := by
  obtain ⟨a, b, c, d⟩ := h
  refine ⟨?_, (Lib.iterAt_other _ _ _ _ _ (by omega)).trans b, Lib.iterAt_heap _ _ _ _ _ c, Lib.below_iterAt d (by omega) _ _⟩
  refine World.ownsRow.kept (row := some (w.heap.size + 1)) a ⟨rfl, rfl, rfl, by rw [Lib.iterAt_size]; exact Nat.le_refl _, fun k _ hk => Lib.iterAt_other _ _ _ _ _ (fun e => hk (by rw [e]))⟩ (.inr (a.off (by omega)))
theorem St.below {w w' w2 : World} {s : ByteArray} {pos : Nat} {v : Value} {ws : List W3} (h : St w s w' pos v ws) (hb : Below w'.heap.size w' w2) : St w s w2 pos v ws := by
  have hl := h.lt
  obtain ⟨a, b, c, d⟩ := h
  exact ⟨a.below hb, (hb.block _ (by omega)).trans b, (hb.block _ hl).trans c, below_step d hb⟩
theorem St.grow {w w' w2 : World} {s : ByteArray} {pos : Nat} {v v2 : Value} {ws ws2 : List W3} {o : Obj} (h : St w s w' pos v ws) (hg : (w'.alloc o).grownBy w2 v.ownBlock) (ho : Owns w2 (w.heap.size + 2) v2 ws2) : St w s w2 pos v2 ws2 := by
  have hl := h.lt
  obtain ⟨a, b, c, d⟩ := h
  have o1 := a.off (n := w.heap.size) (by omega)
  have o2 := a.off (n := w.heap.size + 1) (by omega)
  refine ⟨ho, ?_, ?_, (d.alloc (by omega) o).grown hg (by simp; omega) (fun k hk => by have := (World.ownsRow.lt a k hk).1; omega)⟩
  · rw [hg.block _ (by simp; omega) (fun e => o1 e.symm), Lib.alloc_old _ _ _ (by omega)]; exact b
  · rw [hg.block _ (by simp; omega) (fun e => o2 e.symm), Lib.alloc_old _ _ _ hl]; exact c
end Go.Proofs.Ythaehhndfahocaa
