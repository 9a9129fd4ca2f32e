/-
  THE SPECIFICATION'S READER IN MEMORY; CONTRACTS of its small parts: text, kind, take, need, name.
-/
import Derived.Test.YtedfnadgmhjojaaGreatDoorMMdlc
import Derived.Test.YtedfnadgmhjojaaGreatDoorMGroveb
namespace Go.Proofs.YtedfnadgmhjojaaGreatDoor
open Go.RowKit
open Pl

/-- The specification's reader lies in block rb, its words in an elder one. -/
structure Sd (w : World) (rb : Nat) (a : Option Addr) (cap : Nat) (ws : List W3) (st : St2) : Prop where
 blk : w.heap[rb]? = some (.cells #[.slice a ws.length cap, .int .i64 st.1, .bool st.2] 96 (0, 0))
 wds : ws = [] ∨ ∃ g, a = some ⟨g, 0, none⟩ ∧ g < rb ∧ LiesW w g 0 ws
 few : ws.length ≤ 1500
theorem Sd.lt {w : World} {rb : Nat} {a : Option Addr} {cap : Nat} {ws : List W3} {st : St2} (h : Sd w rb a cap ws st) : rb < w.heap.size := (Array.getElem?_eq_some_iff.1 h.blk).1
theorem Sd.of {w w' : World} {rb : Nat} {a : Option Addr} {cap : Nat} {ws : List W3} {st st2 : St2} (h : Sd w rb a cap ws st) (hs : Step rb w w')
    (hb : w'.heap[rb]? = some (.cells #[.slice a ws.length cap, .int .i64 st2.1, .bool st2.2] 96 (0, 0))) : Sd w' rb a cap ws st2 := by
 refine ⟨hb, ?_, h.few⟩
 rcases h.wds with h1 | ⟨g, h1, h2, h3⟩
 ·exact .inl h1
 ·exact .inr ⟨g, h1, h2, h3.keep (.inr (hs.block g (by have := h.lt; omega) (by simp; omega)))⟩
/-- What does not touch the reader keeps it. -/
theorem Sd.keep {w w' : World} {rb : Nat} {a : Option Addr} {cap : Nat} {ws : List W3} {st : St2} (h : Sd w rb a cap ws st) (hb : Below (rb + 1) w w') : Sd w' rb a cap ws st := by
 refine ⟨(hb.block rb (by omega)).trans h.blk, ?_, h.few⟩
 rcases h.wds with h1 | ⟨g, h1, h2, h3⟩
 ·exact .inl h1
 ·exact .inr ⟨g, h1, h2, h3.keep (.inr (hb.block g (by omega)))⟩
theorem Sd.alloc {w : World} {rb : Nat} {a : Option Addr} {cap : Nat} {ws : List W3} {st : St2} (h : Sd w rb a cap ws st) (o : Obj) : Sd (w.alloc o) rb a cap ws st :=
 h.keep ((Below.refl _ _).alloc h.lt o)
theorem Sd.setCell {w : World} {rb : Nat} {a : Option Addr} {cap : Nat} {ws : List W3} {st : St2} (h : Sd w rb a cap ws st) {p : Addr} (hp : rb < p.block) (u : Value) : Sd (w.setCell p u) rb a cap ws st :=
 h.keep ((Below.refl _ _).setCell hp u)
theorem Sd.cells {w : World} {rb : Nat} {a : Option Addr} {cap : Nat} {ws : List W3} {st : St2} (h : Sd w rb a cap ws st) :
    w.cell? ⟨rb, 0, none⟩ = some (.slice a ws.length cap) ∧ w.cell? ⟨rb, 1, none⟩ = some (.int .i64 st.1) ∧ w.cell? ⟨rb, 2, none⟩ = some (.bool st.2) ∧ w.frozen? ⟨rb, 1, none⟩ = false ∧ w.frozen? ⟨rb, 2, none⟩ = false :=
 ⟨by rw [Lib.cell_of_heap h.blk]; rfl, by rw [Lib.cell_of_heap h.blk]; rfl, by rw [Lib.cell_of_heap h.blk]; rfl, Lib.frozen_of_heap h.blk 1, Lib.frozen_of_heap h.blk 2⟩
theorem Sd.word {w : World} {rb : Nat} {a : Option Addr} {cap : Nat} {ws : List W3} {st : St2} (h : Sd w rb a cap ws st) {j : Nat} {x : W3} (hx : ws[j]? = some x) :
    ∃ g, a = some ⟨g, 0, none⟩ ∧ w.cell? ⟨g, j * 3, none⟩ = some (.int .i64 x.k) ∧ w.cell? ⟨g, j * 3 + 1, none⟩ = some (.string x.s) ∧ w.cell? ⟨g, j * 3 + 2, none⟩ = some (.int .i64 x.a) := by
 rcases h.wds with h1 | ⟨g, h1, h2, h3⟩
 ·subst h1; simp at hx
 ·obtain ⟨h4, h5, h6⟩ := h3 j x hx
  rw [Nat.zero_add] at h4 h5 h6
  exact ⟨g, h1, h4, h5, h6⟩
theorem Sd.next {w : World} {rb : Nat} {a : Option Addr} {cap : Nat} {ws : List W3} {st : St2} (h : Sd w rb a cap ws st) (j : Nat) : Sd (w.setCell ⟨rb, 1, none⟩ (.int .i64 j)) rb a cap ws (j, st.2) := by
 refine h.of ((Step.refl rb w).setCell (.inr rfl) _) ?_
 rw [heap_setCell_same w rb 1 _ 96 _ h.blk]; rfl
theorem Sd.badly {w : World} {rb : Nat} {a : Option Addr} {cap : Nat} {ws : List W3} {st : St2} (h : Sd w rb a cap ws st) : Sd (w.setCell ⟨rb, 2, none⟩ (.bool true)) rb a cap ws (st.1, true) := by
 refine h.of ((Step.refl rb w).setCell (.inr rfl) _) ?_
 rw [heap_setCell_same w rb 2 _ 96 _ h.blk]; rfl
theorem Sd.drewN {w : World} {rb : Nat} {a : Option Addr} {cap : Nat} {ws : List W3} {st : St2} (h : Sd w rb a cap ws st) (n : Nat) : Sd (w.drewN n) rb a cap ws st :=
 h.keep ⟨rfl, rfl, rfl, Nat.le_refl _, fun _ _ => rfl⟩
theorem Sd.drew {w : World} {rb : Nat} {a : Option Addr} {cap : Nat} {ws : List W3} {st : St2} (h : Sd w rb a cap ws st) : Sd w.drew rb a cap ws st := h.drewN 1

set_option maxRecDepth 100000 in
set_option maxHeartbeats 1000000 in
theorem sText_any (rb : Nat) (a : Option Addr) (cap : Nat) (ws : List W3) (st : St2) (w : World) (h : Sd w rb a cap ws st) :
    Calls Tryz.prog 91 #[.pointer (some ⟨rb, 0, none⟩)] w fun e w' => e = .returned (.string (textW ws st.1)) ∧ ∃ n, w' = w.drewN n := by
 obtain ⟨c0, c1, c2, _⟩ := h.cells
 have hf := h.few
 obtain ⟨i, bd⟩ := st
 simp only at c1
 by_cases hlt : i < ws.length
 ·obtain ⟨x, hx⟩ : ∃ x, ws[i]? = some x := ⟨_, List.getElem?_eq_getElem hlt⟩
  obtain ⟨g, rfl, d0, d1, d2⟩ := h.word hx
  have HW := mkHid (show textW ws i = x.s by unfold textW; rw [hx])
  have hl : decide ((i : Int) < (ws.length : Int)) = true := by simp; omega
  have i0 : (0 : Int) ≤ (i : Int) := by omega
  have i1 : (i : Int) < (ws.length : Int) := by omega
  clear hx h d0 d2 c2
  go_enter Tryz.func91, Tryz.ntmps91
  go_wp2
  go_quiet (fail)
  go_wp2
  go_quiet (fail)
  go_wp2
  go_ret
  exact ⟨ret_str HW.out.symm, _, by first | exact World.drewN_drewN | exact World.drewN_drewN _ _ _⟩
 ·have HW := mkHid (show textW ws i = ⟨#[]⟩ from textW_end (by omega))
  have hl : decide ((i : Int) < (ws.length : Int)) = false := by simp; omega
  clear h c2
  go_enter Tryz.func91, Tryz.ntmps91
  go_wp2
  go_quiet (fail)
  go_wp2
  go_ret
  exact ⟨ret_str HW.out.symm, _, rfl⟩
set_option maxRecDepth 100000 in
set_option maxHeartbeats 1000000 in
theorem sKindW_any (rb : Nat) (a : Option Addr) (cap : Nat) (ws : List W3) (st : St2) (w : World) (h : Sd w rb a cap ws st) :
    Calls Tryz.prog 89 #[.pointer (some ⟨rb, 0, none⟩)] w fun e w' => e = .returned (.int .i64 (kindW ws st.1)) ∧ ∃ n, w' = w.drewN n := by
 obtain ⟨c0, c1, c2, _⟩ := h.cells
 have hf := h.few
 obtain ⟨i, bd⟩ := st
 simp only at c1
 by_cases hlt : i < ws.length
 ·obtain ⟨x, hx⟩ : ∃ x, ws[i]? = some x := ⟨_, List.getElem?_eq_getElem hlt⟩
  obtain ⟨g, rfl, d0, d1, d2⟩ := h.word hx
  have HW := mkHid (show kindW ws i = x.k by unfold kindW; rw [hx])
  have hl : decide ((i : Int) < (ws.length : Int)) = true := by simp; omega
  have i0 : (0 : Int) ≤ (i : Int) := by omega
  have i1 : (i : Int) < (ws.length : Int) := by omega
  clear hx h d1 d2 c2
  go_enter Tryz.func89, Tryz.ntmps89
  go_wp2
  go_quiet (fail)
  go_wp2
  go_quiet (fail)
  go_wp2
  go_ret
  exact ⟨ret_int HW.out.symm, _, by first | exact World.drewN_drewN | exact World.drewN_drewN _ _ _⟩
 ·have HW := mkHid (show kindW ws i = 0 from kindW_end (by omega))
  have hl : decide ((i : Int) < (ws.length : Int)) = false := by simp; omega
  clear h c2
  go_enter Tryz.func89, Tryz.ntmps89
  go_wp2
  go_quiet (fail)
  go_wp2
  go_ret
  exact ⟨ret_int HW.out.symm, _, rfl⟩

set_option maxRecDepth 100000 in
set_option maxHeartbeats 1000000 in
theorem sTake_any (rb : Nat) (a : Option Addr) (cap : Nat) (ws : List W3) (st : St2) (s : ByteArray) (hs : s ≠ ⟨#[]⟩) (w : World) (h : Sd w rb a cap ws st) :
    Calls Tryz.prog 86 #[.pointer (some ⟨rb, 0, none⟩), .string s] w fun e w' => e = .returned (.bool (tk ws st s)) ∧ Sd w' rb a cap ws (tkS ws st s) ∧ Step rb w w' := by
 obtain ⟨c0, c1, c2, f1, f2⟩ := h.cells
 have hf := h.few
 have HS := mkHid (sText_any rb a cap ws st w h)
 have HD := mkHid h
 obtain ⟨i, bd⟩ := st
 simp only at c1 c2
 cases bd with
 | true =>
   have HT : Hid (tk ws (i, true) s = false) := by simp [tk, Hid]
   have HT2 : Hid (tkS ws (i, true) s = (i, true)) := by show _ = _; unfold tkS; rw [HT.out]; rfl
   clear h
   go_enter Tryz.func86, Tryz.ntmps86
   go_wp2
   go_ret
   exact ⟨ret_bool HT.out.symm, by rw [HT2.out]; exact HD.out, Step.refl _ _⟩
 | false =>
   by_cases hw : isW ws i s = true
   ·have hlt := isW_lt hw
    have HT : Hid (tk ws (i, false) s = true) := by simp [tk, hw, Hid]
    have HT2 : Hid (tkS ws (i, false) s = (i + 1, false)) := by show _ = _; unfold tkS; rw [HT.out]; rfl
    have hne : ((textW ws i).toList == s.toList) = true := by rw [isW_text hw]; simp
    clear h hw
    go_enter Tryz.func86, Tryz.ntmps86
    go_wp2_with fail
    refine HS.out.mono ?_
    rintro e w1 ⟨rfl, n, rfl⟩
    go_wp2
    go_ret
    exact ⟨ret_bool HT.out.symm, by rw [HT2.out]; have := (HD.out.drewN n).next (i + 1); simpa using this, ((Step.refl rb w).drewN n).setCell (.inr rfl) _⟩
   ·have hne : ((textW ws i).toList == s.toList) = false := by
      rw [str_eq]
      have : textW ws i ≠ s := fun e => by
       by_cases q : i < ws.length
       ·exact hw (by rw [isW_of_text q]; simpa using e)
       ·rw [textW_end (by omega)] at e; exact hs e.symm
      simp [this]
    simp only [Bool.not_eq_true] at hw
    have HT : Hid (tk ws (i, false) s = false) := by simp [tk, hw, Hid]
    have HT2 : Hid (tkS ws (i, false) s = (i, false)) := by show _ = _; unfold tkS; rw [HT.out]; rfl
    clear h hw
    go_enter Tryz.func86, Tryz.ntmps86
    go_wp2_with fail
    refine HS.out.mono ?_
    rintro e w1 ⟨rfl, n, rfl⟩
    go_wp2
    go_ret
    exact ⟨ret_bool HT.out.symm, by rw [HT2.out]; exact HD.out.drewN n, (Step.refl rb w).drewN n⟩
set_option maxRecDepth 100000 in
set_option maxHeartbeats 1000000 in
theorem sNeed_any (rb : Nat) (a : Option Addr) (cap : Nat) (ws : List W3) (st : St2) (s : ByteArray) (hs : s ≠ ⟨#[]⟩) (w : World) (h : Sd w rb a cap ws st) :
    Calls Tryz.prog 88 #[.pointer (some ⟨rb, 0, none⟩), .string s] w fun e w' => e = .returned (.tuple #[]) ∧ Sd w' rb a cap ws (nd ws st s) ∧ Step rb w w' := by
 have HS := mkHid (sTake_any rb a cap ws st s hs w h)
 clear h
 by_cases ht : tk ws st s = true
 ·have H1 : Hid (tkS ws st s = nd ws st s) := by show _ = _; unfold tkS nd; rw [if_pos ht, if_pos ht]
  go_enter Tryz.func88, Tryz.ntmps88
  go_wp2_with fail
  refine HS.out.mono ?_
  rintro e w1 ⟨rfl, r1, s1⟩
  rw [H1.out] at r1
  have R1 := mkHid r1
  have S1 := mkHid s1
  clear r1 s1 H1
  go_wp2
  go_end0
  exact ⟨rfl, R1.out, S1.out⟩
 ·simp only [Bool.not_eq_true] at ht
  have H1 : Hid (tkS ws st s = st) := by show _ = _; unfold tkS; rw [ht]; rfl
  have H2 : Hid (nd ws st s = (st.1, true)) := by show _ = _; unfold nd; rw [ht]; rfl
  go_enter Tryz.func88, Tryz.ntmps88
  go_wp2_with fail
  refine HS.out.mono ?_
  rintro e w1 ⟨rfl, r1, s1⟩
  rw [H1.out] at r1
  obtain ⟨c0, c1, c2, f1, f2⟩ := r1.cells
  have R1 := mkHid r1
  have S1 := mkHid s1
  clear r1 s1 H1
  go_wp2
  go_end0
  exact ⟨rfl, by rw [H2.out]; exact R1.out.badly, S1.out.setCell (.inr rfl) _⟩
set_option maxRecDepth 100000 in
set_option maxHeartbeats 1000000 in
theorem sNm_any (rb : Nat) (a : Option Addr) (cap : Nat) (ws : List W3) (st : St2) (w : World) (h : Sd w rb a cap ws st) :
    Calls Tryz.prog 87 #[.pointer (some ⟨rb, 0, none⟩)] w fun e w' => e = .returned (.string (nmT ws st)) ∧ Sd w' rb a cap ws (nmS ws st) ∧ Step rb w w' := by
 obtain ⟨c0, c1, c2, f1, f2⟩ := h.cells
 have hf := h.few
 have HS := mkHid (sKindW_any rb a cap ws st w h)
 have HD := mkHid h
 obtain ⟨i, bd⟩ := st
 simp only at c1 c2
 cases bd with
 | true =>
   have HT : Hid (nmT ws (i, true) = ⟨#[]⟩) := by simp [nmT, nmB, Hid]
   have HT2 : Hid (nmS ws (i, true) = (i, true)) := by simp [nmS, nmB, Hid]
   clear h
   go_enter Tryz.func87, Tryz.ntmps87
   go_wp2
   go_ret
   exact ⟨ret_str HT.out.symm, by rw [HT2.out]; exact HD.out.badly, (Step.refl rb w).setCell (.inr rfl) _⟩
 | false =>
   by_cases hw : kindW ws i = 1
   ·have hlt := kindW_lt hw (by decide)
    obtain ⟨x, hx⟩ : ∃ x, ws[i]? = some x := ⟨_, List.getElem?_eq_getElem hlt⟩
    have HT : Hid (nmT ws (i, false) = x.s) := by show _ = _; unfold nmT nmB; simp only; rw [hw]; simp only [textW, hx]; rfl
    have HT2 : Hid (nmS ws (i, false) = (i + 1, false)) := by simp [nmS, nmB, hw, Hid]
    have h2 := fun n => ((h.drewN n).next (i + 1))
    have HX := mkHid hx
    have hne : (kindW ws i != 1) = false := by rw [hw]; rfl
    clear h hw hx
    go_enter Tryz.func87, Tryz.ntmps87
    go_wp2_with fail
    refine HS.out.mono ?_
    rintro e w1 ⟨rfl, n, rfl⟩
    have h3 := h2 n
    clear h2
    obtain ⟨e0, e1, _, _⟩ := h3.cells
    obtain ⟨g, hg, _, d1, _⟩ := h3.word HX.out
    subst hg
    have H3 := mkHid h3
    have i1 : (i : Int) < (ws.length : Int) := by omega
    have i0 : (0 : Int) ≤ (i : Int) := by omega
    clear h3
    push_cast at e0 e1 d1
    go_wp2
    go_quiet (fail)
    go_wp2
    go_ret
    exact ⟨ret_str HT.out.symm, by rw [HT2.out]; have := H3.out.drewN nq; simpa using this, (((Step.refl rb w).drewN n).setCell (.inr rfl) _).drewN nq⟩
   ·have HT : Hid (nmT ws (i, false) = ⟨#[]⟩) := by simp [nmT, nmB, hw, Hid]
    have HT2 : Hid (nmS ws (i, false) = (i, true)) := by simp [nmS, nmB, hw, Hid]
    have hne : (kindW ws i != 1) = true := by simpa using hw
    clear h hw
    go_enter Tryz.func87, Tryz.ntmps87
    go_wp2_with fail
    refine HS.out.mono ?_
    rintro e w1 ⟨rfl, n, rfl⟩
    go_wp2
    go_ret
    exact ⟨ret_str HT.out.symm, by rw [HT2.out]; exact (HD.out.drewN n).badly, ((Step.refl rb w).drewN n).setCell (.inr rfl) _⟩
end Go.Proofs.YtedfnadgmhjojaaGreatDoor
