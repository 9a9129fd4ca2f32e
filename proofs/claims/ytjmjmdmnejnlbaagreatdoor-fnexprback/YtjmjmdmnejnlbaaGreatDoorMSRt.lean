/-
  THE SPECIFICATION'S READER IN MEMORY; CONTRACTS of its small parts: text, kind, take, need, name.
  WHAT A PART OF THE SPECIFICATION'S READER ANSWERS; CONTRACTS of l02One and l02Two.
  PLAIN FACTS: the specification's reader against the plain reading, at expressions.
  CONTRACT of the specification's reader's one.
  PLAIN FACTS: the specification's reader against the plain reading, at sums and products: what a loop holds on to.
-/
import Derived.Test.YtjmjmdmnejnlbaaGreatDoorMChn
import Derived.Test.YtjmjmdmnejnlbaaGreatDoorMLong
import Derived.Test.YtjmjmdmnejnlbaaGreatDoorMGroveb
import Derived.Test.YtjmjmdmnejnlbaaGreatDoorMCopyb
import Derived.Test.YtjmjmdmnejnlbaaGreatDoorMRonec
namespace Go.Proofs.YtjmjmdmnejnlbaaGreatDoor
open Go.RowKit
open Pl

/-- The specification's reader lies in block rb, its words in an elder one. -/
structure Sd (w : World) (rb : Nat) (a : Option Addr) (cap : Nat) (ws : List W3) (st : St2) : Prop where
 blk : w.heap[rb]? = some (.cells #[.slice a ws.length cap, .int .i64 st.1, .bool st.2] 55 (0, 0))
 wds : ws = [] ∨ ∃ g, a = some ⟨g, 0, none⟩ ∧ g < rb ∧ LiesW w g 0 ws
 few : ws.length ≤ 1500
theorem Sd.lt {w : World} {rb : Nat} {a : Option Addr} {cap : Nat} {ws : List W3} {st : St2} (h : Sd w rb a cap ws st) : rb < w.heap.size := (Array.getElem?_eq_some_iff.1 h.blk).1
theorem Sd.of {w w' : World} {rb : Nat} {a : Option Addr} {cap : Nat} {ws : List W3} {st st2 : St2} (h : Sd w rb a cap ws st) (hs : Step rb w w')
    (hb : w'.heap[rb]? = some (.cells #[.slice a ws.length cap, .int .i64 st2.1, .bool st2.2] 55 (0, 0))) : Sd w' rb a cap ws st2 := by
 refine ⟨hb, ?_, h.few⟩
 rcases h.wds with h1 | ⟨g, h1, h2, h3⟩
 ·exact .inl h1
 ·exact .inr ⟨g, h1, h2, h3.keep (.inr (hs.block g (by have := h.lt; omega) (by simp; omega)))⟩
/-- What does not touch the reader keeps it. -/
theorem Sd.keep {w w' : World} {rb : Nat} {a : Option Addr} {cap : Nat} {ws : List W3} {st : St2} (h : Sd w rb a cap ws st) (hb : Below (rb + 1) w w') : Sd w' rb a cap ws st := by
 refine ⟨(hb.block rb (by omega)).trans h.blk, ?_, h.few⟩
 rcases h.wds with h1 | ⟨g, h1, h2, h3⟩
 ·exact .inl h1
 ·exact .inr ⟨g, h1, h2, h3.keep (.inr (hb.block g (by omega)))⟩
theorem Sd.alloc {w : World} {rb : Nat} {a : Option Addr} {cap : Nat} {ws : List W3} {st : St2} (h : Sd w rb a cap ws st) (o : Obj) : Sd (w.alloc o) rb a cap ws st :=
 h.keep ((Below.refl _ _).alloc h.lt o)
theorem Sd.setCell {w : World} {rb : Nat} {a : Option Addr} {cap : Nat} {ws : List W3} {st : St2} (h : Sd w rb a cap ws st) {p : Addr} (hp : rb < p.block) (u : Value) : Sd (w.setCell p u) rb a cap ws st :=
 h.keep ((Below.refl _ _).setCell hp u)
theorem Sd.cells {w : World} {rb : Nat} {a : Option Addr} {cap : Nat} {ws : List W3} {st : St2} (h : Sd w rb a cap ws st) :
    w.cell? ⟨rb, 0, none⟩ = some (.slice a ws.length cap) ∧ w.cell? ⟨rb, 1, none⟩ = some (.int .i64 st.1) ∧ w.cell? ⟨rb, 2, none⟩ = some (.bool st.2) ∧ w.frozen? ⟨rb, 1, none⟩ = false ∧ w.frozen? ⟨rb, 2, none⟩ = false :=
 ⟨by rw [Lib.cell_of_heap h.blk]; rfl, by rw [Lib.cell_of_heap h.blk]; rfl, by rw [Lib.cell_of_heap h.blk]; rfl, Lib.frozen_of_heap h.blk 1, Lib.frozen_of_heap h.blk 2⟩
theorem Sd.word {w : World} {rb : Nat} {a : Option Addr} {cap : Nat} {ws : List W3} {st : St2} (h : Sd w rb a cap ws st) {j : Nat} {x : W3} (hx : ws[j]? = some x) :
    ∃ g, a = some ⟨g, 0, none⟩ ∧ w.cell? ⟨g, j * 3, none⟩ = some (.int .i64 x.k) ∧ w.cell? ⟨g, j * 3 + 1, none⟩ = some (.string x.s) ∧ w.cell? ⟨g, j * 3 + 2, none⟩ = some (.int .i64 x.a) := by
 rcases h.wds with h1 | ⟨g, h1, h2, h3⟩
 ·subst h1; simp at hx
 ·obtain ⟨h4, h5, h6⟩ := h3 j x hx
  rw [Nat.zero_add] at h4 h5 h6
  exact ⟨g, h1, h4, h5, h6⟩
theorem Sd.next {w : World} {rb : Nat} {a : Option Addr} {cap : Nat} {ws : List W3} {st : St2} (h : Sd w rb a cap ws st) (j : Nat) : Sd (w.setCell ⟨rb, 1, none⟩ (.int .i64 j)) rb a cap ws (j, st.2) := by
 refine h.of ((Step.refl rb w).setCell (.inr rfl) _) ?_
 rw [heap_setCell_same w rb 1 _ 55 _ h.blk]; rfl
theorem Sd.badly {w : World} {rb : Nat} {a : Option Addr} {cap : Nat} {ws : List W3} {st : St2} (h : Sd w rb a cap ws st) : Sd (w.setCell ⟨rb, 2, none⟩ (.bool true)) rb a cap ws (st.1, true) := by
 refine h.of ((Step.refl rb w).setCell (.inr rfl) _) ?_
 rw [heap_setCell_same w rb 2 _ 55 _ h.blk]; rfl
theorem Sd.drewN {w : World} {rb : Nat} {a : Option Addr} {cap : Nat} {ws : List W3} {st : St2} (h : Sd w rb a cap ws st) (n : Nat) : Sd (w.drewN n) rb a cap ws st :=
 h.keep ⟨rfl, rfl, rfl, Nat.le_refl _, fun _ _ => rfl⟩
theorem Sd.drew {w : World} {rb : Nat} {a : Option Addr} {cap : Nat} {ws : List W3} {st : St2} (h : Sd w rb a cap ws st) : Sd w.drew rb a cap ws st := h.drewN 1

set_option maxRecDepth 100000 in
set_option maxHeartbeats 1000000 in
theorem sText_any (rb : Nat) (a : Option Addr) (cap : Nat) (ws : List W3) (st : St2) (w : World) (h : Sd w rb a cap ws st) :
    Calls Tryz.prog 64 #[.pointer (some ⟨rb, 0, none⟩)] w fun e w' => e = .returned (.string (textW ws st.1)) ∧ ∃ n, w' = w.drewN n := by
 obtain ⟨c0, c1, c2, _⟩ := h.cells
 have hf := h.few
 obtain ⟨i, bd⟩ := st
 simp only at c1
 by_cases hlt : i < ws.length
 ·obtain ⟨x, hx⟩ : ∃ x, ws[i]? = some x := ⟨_, List.getElem?_eq_getElem hlt⟩
  obtain ⟨g, rfl, d0, d1, d2⟩ := h.word hx
  have HW := mkHid (show textW ws i = x.s by unfold textW; rw [hx])
  have hl : decide ((i : Int) < (ws.length : Int)) = true := by simp; omega
  have i0 : (0 : Int) ≤ (i : Int) := by omega
  have i1 : (i : Int) < (ws.length : Int) := by omega
  clear hx h d0 d2 c2
  go_enter Tryz.func64, Tryz.ntmps64
  go_wp2
  go_quiet (fail)
  go_wp2
  go_quiet (fail)
  go_wp2
  go_ret
  exact ⟨ret_str HW.out.symm, _, by first | exact World.drewN_drewN | exact World.drewN_drewN _ _ _⟩
 ·have HW := mkHid (show textW ws i = ⟨#[]⟩ from textW_end (by omega))
  have hl : decide ((i : Int) < (ws.length : Int)) = false := by simp; omega
  clear h c2
  go_enter Tryz.func64, Tryz.ntmps64
  go_wp2
  go_quiet (fail)
  go_wp2
  go_ret
  exact ⟨ret_str HW.out.symm, _, rfl⟩
set_option maxRecDepth 100000 in
set_option maxHeartbeats 1000000 in
theorem sKindW_any (rb : Nat) (a : Option Addr) (cap : Nat) (ws : List W3) (st : St2) (w : World) (h : Sd w rb a cap ws st) :
    Calls Tryz.prog 62 #[.pointer (some ⟨rb, 0, none⟩)] w fun e w' => e = .returned (.int .i64 (kindW ws st.1)) ∧ ∃ n, w' = w.drewN n := by
 obtain ⟨c0, c1, c2, _⟩ := h.cells
 have hf := h.few
 obtain ⟨i, bd⟩ := st
 simp only at c1
 by_cases hlt : i < ws.length
 ·obtain ⟨x, hx⟩ : ∃ x, ws[i]? = some x := ⟨_, List.getElem?_eq_getElem hlt⟩
  obtain ⟨g, rfl, d0, d1, d2⟩ := h.word hx
  have HW := mkHid (show kindW ws i = x.k by unfold kindW; rw [hx])
  have hl : decide ((i : Int) < (ws.length : Int)) = true := by simp; omega
  have i0 : (0 : Int) ≤ (i : Int) := by omega
  have i1 : (i : Int) < (ws.length : Int) := by omega
  clear hx h d1 d2 c2
  go_enter Tryz.func62, Tryz.ntmps62
  go_wp2
  go_quiet (fail)
  go_wp2
  go_quiet (fail)
  go_wp2
  go_ret
  exact ⟨ret_int HW.out.symm, _, by first | exact World.drewN_drewN | exact World.drewN_drewN _ _ _⟩
 ·have HW := mkHid (show kindW ws i = 0 from kindW_end (by omega))
  have hl : decide ((i : Int) < (ws.length : Int)) = false := by simp; omega
  clear h c2
  go_enter Tryz.func62, Tryz.ntmps62
  go_wp2
  go_quiet (fail)
  go_wp2
  go_ret
  exact ⟨ret_int HW.out.symm, _, rfl⟩

set_option maxRecDepth 100000 in
set_option maxHeartbeats 1000000 in
theorem sTake_any (rb : Nat) (a : Option Addr) (cap : Nat) (ws : List W3) (st : St2) (s : ByteArray) (hs : s ≠ ⟨#[]⟩) (w : World) (h : Sd w rb a cap ws st) :
    Calls Tryz.prog 59 #[.pointer (some ⟨rb, 0, none⟩), .string s] w fun e w' => e = .returned (.bool (tk ws st s)) ∧ Sd w' rb a cap ws (tkS ws st s) ∧ Step rb w w' := by
 obtain ⟨c0, c1, c2, f1, f2⟩ := h.cells
 have hf := h.few
 have HS := mkHid (sText_any rb a cap ws st w h)
 have HD := mkHid h
 obtain ⟨i, bd⟩ := st
 simp only at c1 c2
 cases bd with
 | true =>
   have HT : Hid (tk ws (i, true) s = false) := by simp [tk, Hid]
   have HT2 : Hid (tkS ws (i, true) s = (i, true)) := by show _ = _; unfold tkS; rw [HT.out]; rfl
   clear h
   go_enter Tryz.func59, Tryz.ntmps59
   go_wp2
   go_ret
   exact ⟨ret_bool HT.out.symm, by rw [HT2.out]; exact HD.out, Step.refl _ _⟩
 | false =>
   by_cases hw : isW ws i s = true
   ·have hlt := isW_lt hw
    have HT : Hid (tk ws (i, false) s = true) := by simp [tk, hw, Hid]
    have HT2 : Hid (tkS ws (i, false) s = (i + 1, false)) := by show _ = _; unfold tkS; rw [HT.out]; rfl
    have hne : ((textW ws i).toList == s.toList) = true := by rw [isW_text hw]; simp
    clear h hw
    go_enter Tryz.func59, Tryz.ntmps59
    go_wp2_with fail
    refine HS.out.mono ?_
    rintro e w1 ⟨rfl, n, rfl⟩
    go_wp2
    go_ret
    exact ⟨ret_bool HT.out.symm, by rw [HT2.out]; have := (HD.out.drewN n).next (i + 1); simpa using this, ((Step.refl rb w).drewN n).setCell (.inr rfl) _⟩
   ·have hne : ((textW ws i).toList == s.toList) = false := by
      rw [str_eq]
      have : textW ws i ≠ s := fun e => by
       by_cases q : i < ws.length
       ·exact hw (by rw [isW_of_text q]; simpa using e)
       ·rw [textW_end (by omega)] at e; exact hs e.symm
      simp [this]
    simp only [Bool.not_eq_true] at hw
    have HT : Hid (tk ws (i, false) s = false) := by simp [tk, hw, Hid]
    have HT2 : Hid (tkS ws (i, false) s = (i, false)) := by show _ = _; unfold tkS; rw [HT.out]; rfl
    clear h hw
    go_enter Tryz.func59, Tryz.ntmps59
    go_wp2_with fail
    refine HS.out.mono ?_
    rintro e w1 ⟨rfl, n, rfl⟩
    go_wp2
    go_ret
    exact ⟨ret_bool HT.out.symm, by rw [HT2.out]; exact HD.out.drewN n, (Step.refl rb w).drewN n⟩
set_option maxRecDepth 100000 in
set_option maxHeartbeats 1000000 in
theorem sNeed_any (rb : Nat) (a : Option Addr) (cap : Nat) (ws : List W3) (st : St2) (s : ByteArray) (hs : s ≠ ⟨#[]⟩) (w : World) (h : Sd w rb a cap ws st) :
    Calls Tryz.prog 61 #[.pointer (some ⟨rb, 0, none⟩), .string s] w fun e w' => e = .returned (.tuple #[]) ∧ Sd w' rb a cap ws (nd ws st s) ∧ Step rb w w' := by
 have HS := mkHid (sTake_any rb a cap ws st s hs w h)
 clear h
 by_cases ht : tk ws st s = true
 ·have H1 : Hid (tkS ws st s = nd ws st s) := by show _ = _; unfold tkS nd; rw [if_pos ht, if_pos ht]
  go_enter Tryz.func61, Tryz.ntmps61
  go_wp2_with fail
  refine HS.out.mono ?_
  rintro e w1 ⟨rfl, r1, s1⟩
  rw [H1.out] at r1
  have R1 := mkHid r1
  have S1 := mkHid s1
  clear r1 s1 H1
  go_wp2
  go_end0
  exact ⟨rfl, R1.out, S1.out⟩
 ·simp only [Bool.not_eq_true] at ht
  have H1 : Hid (tkS ws st s = st) := by show _ = _; unfold tkS; rw [ht]; rfl
  have H2 : Hid (nd ws st s = (st.1, true)) := by show _ = _; unfold nd; rw [ht]; rfl
  go_enter Tryz.func61, Tryz.ntmps61
  go_wp2_with fail
  refine HS.out.mono ?_
  rintro e w1 ⟨rfl, r1, s1⟩
  rw [H1.out] at r1
  obtain ⟨c0, c1, c2, f1, f2⟩ := r1.cells
  have R1 := mkHid r1
  have S1 := mkHid s1
  clear r1 s1 H1
  go_wp2
  go_end0
  exact ⟨rfl, by rw [H2.out]; exact R1.out.badly, S1.out.setCell (.inr rfl) _⟩
set_option maxRecDepth 100000 in
set_option maxHeartbeats 1000000 in
theorem sNm_any (rb : Nat) (a : Option Addr) (cap : Nat) (ws : List W3) (st : St2) (w : World) (h : Sd w rb a cap ws st) :
    Calls Tryz.prog 60 #[.pointer (some ⟨rb, 0, none⟩)] w fun e w' => e = .returned (.string (nmT ws st)) ∧ Sd w' rb a cap ws (nmS ws st) ∧ Step rb w w' := by
 obtain ⟨c0, c1, c2, f1, f2⟩ := h.cells
 have hf := h.few
 have HS := mkHid (sKindW_any rb a cap ws st w h)
 have HD := mkHid h
 obtain ⟨i, bd⟩ := st
 simp only at c1 c2
 cases bd with
 | true =>
   have HT : Hid (nmT ws (i, true) = ⟨#[]⟩) := by simp [nmT, nmB, Hid]
   have HT2 : Hid (nmS ws (i, true) = (i, true)) := by simp [nmS, nmB, Hid]
   clear h
   go_enter Tryz.func60, Tryz.ntmps60
   go_wp2
   go_ret
   exact ⟨ret_str HT.out.symm, by rw [HT2.out]; exact HD.out.badly, (Step.refl rb w).setCell (.inr rfl) _⟩
 | false =>
   by_cases hw : kindW ws i = 1
   ·have hlt := kindW_lt hw (by decide)
    obtain ⟨x, hx⟩ : ∃ x, ws[i]? = some x := ⟨_, List.getElem?_eq_getElem hlt⟩
    have HT : Hid (nmT ws (i, false) = x.s) := by show _ = _; unfold nmT nmB; simp only; rw [hw]; simp only [textW, hx]; rfl
    have HT2 : Hid (nmS ws (i, false) = (i + 1, false)) := by simp [nmS, nmB, hw, Hid]
    have h2 := fun n => ((h.drewN n).next (i + 1))
    have HX := mkHid hx
    have hne : (kindW ws i != 1) = false := by rw [hw]; rfl
    clear h hw hx
    go_enter Tryz.func60, Tryz.ntmps60
    go_wp2_with fail
    refine HS.out.mono ?_
    rintro e w1 ⟨rfl, n, rfl⟩
    have h3 := h2 n
    clear h2
    obtain ⟨e0, e1, _, _⟩ := h3.cells
    obtain ⟨g, hg, _, d1, _⟩ := h3.word HX.out
    subst hg
    have H3 := mkHid h3
    have i1 : (i : Int) < (ws.length : Int) := by omega
    have i0 : (0 : Int) ≤ (i : Int) := by omega
    clear h3
    push_cast at e0 e1 d1
    go_wp2
    go_quiet (fail)
    go_wp2
    go_ret
    exact ⟨ret_str HT.out.symm, by rw [HT2.out]; have := H3.out.drewN nq; simpa using this, (((Step.refl rb w).drewN n).setCell (.inr rfl) _).drewN nq⟩
   ·have HT : Hid (nmT ws (i, false) = ⟨#[]⟩) := by simp [nmT, nmB, hw, Hid]
    have HT2 : Hid (nmS ws (i, false) = (i, true)) := by simp [nmS, nmB, hw, Hid]
    have hne : (kindW ws i != 1) = true := by simpa using hw
    clear h hw
    go_enter Tryz.func60, Tryz.ntmps60
    go_wp2_with fail
    refine HS.out.mono ?_
    rintro e w1 ⟨rfl, n, rfl⟩
    go_wp2
    go_ret
    exact ⟨ret_str HT.out.symm, by rw [HT2.out]; exact (HD.out.drewN n).badly, ((Step.refl rb w).drewN n).setCell (.inr rfl) _⟩
end Go.Proofs.YtjmjmdmnejnlbaaGreatDoor
namespace Go.Proofs.YtjmjmdmnejnlbaaGreatDoor
open Go.RowKit
open Pl

def SPost (rb : Nat) (a : Option Addr) (cap : Nat) (ws : List W3) (w : World) (r : Res) (st : St2) (e : Ending) (w' : World) : Prop :=
 ∃ (x : A) (st' : St2), e = .returned x.val ∧ Sits w' x ∧ New w.heap.size x ∧ Sd w' rb a cap ws st' ∧ Step rb w w' ∧ SR r st x.erase st'
section
variable {rb : Nat} {a : Option Addr} {cap : Nat} {ws : List W3}
theorem put4_sd {w : World} {st : St2} (h : Sd w rb a cap ws st) {p : Nat} (hp : rb < p) (v0 v1 v2 v3 : Value) : Sd (put4 w p v0 v1 v2 v3) rb a cap ws st :=
 (((h.setCell (p := ⟨p, 0, none⟩) hp _).setCell (p := ⟨p, 1, none⟩) hp _).setCell (p := ⟨p, 2, none⟩) hp _).setCell (p := ⟨p, 3, none⟩) hp _
theorem sp_tree {w w2 : World} {n : Nat} {r : Res} {st st' : St2} (x : A) (v0 v1 v2 v3 : Value) (hd : Sd w2 rb a cap ws st') (hrb : rb < w.heap.size) (hst : Step rb w w2) (hx : Sits w2 x) (hn : New n x) (hlt : w.heap.size < n) (hr : SR r st x.erase st') :
    SPost rb a cap ws w r st (.returned x.val) (put4 w2 w.heap.size v0 v1 v2 v3) :=
 ⟨x, st', rfl, Sits.stay x (fun q hq => put4_other _ _ _ _ (by have := hn.2 q hq; omega)) hx, hn.mono (by omega), put4_sd hd hrb _ _ _ _, put4_step hst (Nat.le_refl _) _ _ _ _, hr⟩
theorem sp_leaf {w w2 : World} {r : Res} {st st' : St2} (k m : Int) (s : ByteArray) (hd : Sd w2 rb a cap ws st') (hrb : rb < w.heap.size) (hst : Step rb w w2) (hs : s.size ≤ maxLen) (hr : SR r st (.node k s m []) st') :
    SPost rb a cap ws w r st (.returned (A.node k s m none 0 []).val) (put4 w2 w.heap.size (.int .i64 k) (.string s) (.int .i64 m) (.slice none 0 0)) :=
 ⟨_, st', rfl, Sits.leaf _ _ _ hs, New.leaf _ _ _ _ _ _, put4_sd hd hrb _ _ _ _, put4_step hst (Nat.le_refl _) _ _ _ _, by rw [erase0]; exact hr⟩
theorem made {w w' : World} {n b c : Nat} {xs : List A} {k m : Int} {s : ByteArray} (hs : SitsL w xs) (hb : Below w.heap.size w w') (hB : w'.heap[b]? = some (.cells (cellsL xs).toArray 26 (0, 0))) (hge : w.heap.size ≤ b) (hn : NewL n xs) (hle : n ≤ w.heap.size)
    (hz : s.size ≤ maxLen) (hl : xs.length ≤ maxLen) : Sits w' (.node k s m (some ⟨b, 0, none⟩) c xs) ∧ New n (.node k s m (some ⟨b, 0, none⟩) c xs) := by
 have hlt := SitsL.lt hs
 refine ⟨Sits.node hz hl (hs.stay fun q hq => hb.block q (hlt q hq)) hB (fun i v hv => by simpa using hv), New.node hn (by omega) (fun q => ?_)⟩
 have := hlt _ q
 omega
end

theorem third_new (w : World) (o1 o2 : Obj) (cs : Array Value) (e : TypeId) : (((w.alloc o1).alloc o2).alloc (.cells cs e)).heap[w.heap.size + 1 + 1]? = some (.cells cs e (0, 0)) := by
 have h := heap_alloc_new ((w.alloc o1).alloc o2) (.cells cs e)
 rw [show ((w.alloc o1).alloc o2).heap.size = w.heap.size + 1 + 1 by simp] at h
 exact h
theorem fourth_new (w : World) (o1 o2 o3 : Obj) (cs : Array Value) (e : TypeId) : ((((w.alloc o1).alloc o2).alloc o3).alloc (.cells cs e)).heap[w.heap.size + 1 + 1 + 1]? = some (.cells cs e (0, 0)) := by
 have h := heap_alloc_new (((w.alloc o1).alloc o2).alloc o3) (.cells cs e)
 rw [show (((w.alloc o1).alloc o2).alloc o3).heap.size = w.heap.size + 1 + 1 + 1 by simp] at h
 exact h
set_option maxRecDepth 100000 in
set_option maxHeartbeats 1000000 in
theorem one_new (k : Int) (x : A) (w : World) : Calls Tryz.prog 42 #[.int .i64 k, x.val] w fun e w' =>
    ∃ b, e = .returned (A.node k ⟨#[]⟩ 0 (some ⟨b, 0, none⟩) 1 [x]).val ∧ w'.heap[b]? = some (.cells (cellsL [x]).toArray 26 (0, 0)) ∧ w.heap.size ≤ b ∧ Below w.heap.size w w' := by
 obtain ⟨xk, xs, xm, xa, xc, xkk⟩ := x
 simp only [A.val]
 go_enter Tryz.func42, Tryz.ntmps42
 go_wp2
 exact bodyPost_ret (v := .agg #[.int .i64 k, .string ⟨#[]⟩, .int .i64 0, .slice (some ⟨w.heap.size + 1 + 1, 0, none⟩) 1 1]) (by simp [results, Tryz.results42, go_sem]) rfl
  ⟨w.heap.size + 1 + 1, rfl, third_new _ _ _ _ _, by omega, (((Below.refl _ _).alloc (Nat.le_refl _) _).alloc (by simp) _).alloc (by simp; omega) _⟩
set_option maxRecDepth 100000 in
set_option maxHeartbeats 1000000 in
theorem two_new (k : Int) (x y : A) (w : World) : Calls Tryz.prog 44 #[.int .i64 k, x.val, y.val] w fun e w' =>
    ∃ b, e = .returned (A.node k ⟨#[]⟩ 0 (some ⟨b, 0, none⟩) 2 [x, y]).val ∧ w'.heap[b]? = some (.cells (cellsL [x, y]).toArray 26 (0, 0)) ∧ w.heap.size ≤ b ∧ Below w.heap.size w w' := by
 obtain ⟨xk, xs, xm, xa, xc, xkk⟩ := x
 obtain ⟨yk, ys, ym, ya, yc, ykk⟩ := y
 simp only [A.val]
 go_enter Tryz.func44, Tryz.ntmps44
 go_wp2
 exact bodyPost_ret (v := .agg #[.int .i64 k, .string ⟨#[]⟩, .int .i64 0, .slice (some ⟨w.heap.size + 1 + 1 + 1, 0, none⟩) 2 2]) (by simp [results, Tryz.results44, go_sem]) rfl
  ⟨w.heap.size + 1 + 1 + 1, rfl, fourth_new _ _ _ _ _ _, by omega, ((((Below.refl _ _).alloc (Nat.le_refl _) _).alloc (by simp) _).alloc (by simp; omega) _).alloc (by simp; omega) _⟩
end Go.Proofs.YtjmjmdmnejnlbaaGreatDoor
namespace Go.Proofs.YtjmjmdmnejnlbaaGreatDoor
open Go.RowKit
open Pl

theorem isW_other {ws : List W3} {i : Nat} {s t : ByteArray} (h : isW ws i s = true) (hne : s ≠ t) : isW ws i t = false := by
 cases q : isW ws i t with
 | false => rfl
 | true => exact absurd ((isW_text h).symm.trans (isW_text q)) hne
theorem not_num {s : ByteArray} (h : digI (byt s 0) = false) : kindI s ≠ 2 := fun e => by
 have hn := kind_num e
 have hp : numP s := by simpa [numB] using hn
 have := hp.2.1 0 (by have := hp.1; omega)
 rw [h] at this; cases this
theorem kind_name {s : ByteArray} (h : kindI s = 1) : nameB s = true := by
 unfold kindI at h
 split at h
 ·cases h
 ·split at h
  ·assumption
  ·split at h
   ·cases h
   ·split at h <;> cases h
theorem not_name {s : ByteArray} (h : lowI (byt s 0) = false) : kindI s ≠ 1 := fun e => by
 have hn := kind_name e
 have hp : nameP s := by simpa [nameB] using hn
 rcases hp.2.2.2 0 (by have := hp.1; omega) with q | q
 ·rw [h] at q; cases q
 ·exact q.1 rfl
theorem key_not_name {s : ByteArray} (h : keyB s = true) : kindI s = 4 := by unfold kindI; rw [h]; rfl
theorem sr_neg {ws : List W3} {f i : Nat} {x : T} {st' : St2} (h1 : isW ws i ⟨#[45]⟩ = true) (h : SR (mOne ws f (i + 1)) (i + 1, false) x st') : SR (mOne ws (f + 1) i) (i, false) (.node 5 nil_ 0 [x]) st' := by
 simp only [mOne]
 rw [if_pos h1]
 generalize mOne ws f (i + 1) = r at h ⊢
 cases r with
 | no p => rw [h.no]; exact SR.mk_no _ _ _
 | ok t j => rw [h.ok.1, h.ok.2]; exact SR.mk_ok _ _ _
theorem sr_par {ws : List W3} {f i : Nat} {x : T} {st' : St2} (h1 : isW ws i ⟨#[40]⟩ = true) (h : SR (mExpr ws f (i + 1)) (i + 1, false) x st') : SR (mOne ws (f + 1) i) (i, false) x (nd ws st' ⟨#[41]⟩) := by
 simp only [mOne]
 rw [if_neg (by rw [isW_other h1 (by decide)]; decide), if_pos h1]
 generalize mExpr ws f (i + 1) = r at h ⊢
 cases r with
 | no p => rw [h.no, nd_bad]; exact SR.mk_no _ _ _
 | ok t j =>
   rw [h.ok.1, h.ok.2, nd_good]
   simp only [Res.then_, want]
   split
   ·exact SR.mk_ok _ _ _
   ·exact SR.mk_no _ _ _
theorem sr_len {ws : List W3} {f i : Nat} (h1 : isW ws i ⟨#[108, 101, 110]⟩ = true) :
    SR (mOne ws (f + 1) i) (i, false) (.node 4 (nmT ws (nd ws (i + 1, false) ⟨#[40]⟩)) 0 []) (nd ws (nmS ws (nd ws (i + 1, false) ⟨#[40]⟩)) ⟨#[41]⟩) := by
 simp only [mOne]
 rw [if_neg (by rw [isW_other h1 (by decide)]; decide), if_neg (by rw [isW_other h1 (by decide)]; decide), if_pos h1, nd_good]
 simp only [want, wantK]
 by_cases h2 : isW ws (i + 1) ⟨#[40]⟩ = true
 ·rw [if_pos h2, if_pos h2]
  by_cases h3 : kindW ws (i + 2) = 1
  ·have e1 : nmS ws (i + 1 + 1, false) = (i + 3, false) := by simp [nmS, nmB, h3]
   have e2 : nmT ws (i + 1 + 1, false) = textW ws (i + 2) := by simp [nmT, nmB, h3]
   rw [if_pos h3, e1, e2, nd_good]
   by_cases h4 : isW ws (i + 3) ⟨#[41]⟩ = true
   ·rw [if_pos h4, if_pos h4]; exact SR.mk_ok _ _ _
   ·rw [if_neg h4, if_neg h4]; exact SR.mk_no _ _ _
  ·have e1 : nmS ws (i + 1 + 1, false) = (i + 2, true) := by simp [nmS, nmB, h3]
   rw [if_neg h3, e1, nd_bad]; exact SR.mk_no _ _ _
 ·rw [if_neg h2, if_neg h2]
  have e1 : nmS ws (i + 1, true) = (i + 1, true) := by simp [nmS, nmB]
  rw [e1, nd_bad]; exact SR.mk_no _ _ _
theorem num_words {ws : List W3} (hw : WsOk ws) {i : Nat} (h : kindW ws i = 2) {s : ByteArray} (hs : digI (byt s 0) = false) : isW ws i s = false := by
 cases q : isW ws i s with
 | false => rfl
 | true => exact absurd ((isW_kind hw q).symm.trans h) (not_num hs)
theorem name_words {ws : List W3} (hw : WsOk ws) {i : Nat} (h : kindW ws i = 1) {s : ByteArray} (hs : kindI s ≠ 1) : isW ws i s = false := by
 cases q : isW ws i s with
 | false => rfl
 | true => exact absurd ((isW_kind hw q).symm.trans h) hs
theorem sr_num {ws : List W3} (hw : WsOk ws) {f i : Nat} (h1 : kindW ws i = 2) : SR (mOne ws (f + 1) i) (i, false) (.node 1 nil_ (numV (textW ws i)) []) (i + 1, false) := by
 simp only [mOne]
 rw [if_neg (by rw [num_words hw h1 (by decide)]; decide), if_neg (by rw [num_words hw h1 (by decide)]; decide), if_neg (by rw [num_words hw h1 (by decide)]; decide), if_pos h1]
 exact SR.mk_ok _ _ _
theorem sr_cell {ws : List W3} {f i : Nat} {x : T} {st' : St2} (n0 : isW ws i ⟨#[45]⟩ = false) (n1 : isW ws i ⟨#[40]⟩ = false) (n2 : isW ws i ⟨#[108, 101, 110]⟩ = false) (n3 : kindW ws i ≠ 2) (h1 : kindW ws i = 1) (h2 : isW ws (i + 1) ⟨#[91]⟩ = true)
    (h : SR (mExpr ws f (i + 2)) (i + 2, false) x st') : SR (mOne ws (f + 1) i) (i, false) (.node 3 (textW ws i) 0 [x]) (nd ws st' ⟨#[93]⟩) := by
 simp only [mOne]
 rw [if_neg (by rw [n0]; decide), if_neg (by rw [n1]; decide), if_neg (by rw [n2]; decide), if_neg n3]
 simp only [wantK]
 rw [if_pos h1, if_pos h2]
 generalize mExpr ws f (i + 2) = r at h ⊢
 cases r with
 | no p => rw [h.no, nd_bad]; exact SR.mk_no _ _ _
 | ok t j =>
   rw [h.ok.1, h.ok.2, nd_good]
   simp only [Res.then_, want]
   split
   ·exact SR.mk_ok _ _ _
   ·exact SR.mk_no _ _ _
theorem sr_var {ws : List W3} {f i : Nat} (n0 : isW ws i ⟨#[45]⟩ = false) (n1 : isW ws i ⟨#[40]⟩ = false) (n2 : isW ws i ⟨#[108, 101, 110]⟩ = false) (n3 : kindW ws i ≠ 2) (h2 : tk ws (nmS ws (i, false)) ⟨#[91]⟩ = false) :
    SR (mOne ws (f + 1) i) (i, false) (.node 2 (nmT ws (i, false)) 0 []) (nmS ws (i, false)) := by
 simp only [mOne]
 rw [if_neg (by rw [n0]; decide), if_neg (by rw [n1]; decide), if_neg (by rw [n2]; decide), if_neg n3]
 simp only [wantK]
 by_cases h1 : kindW ws i = 1
 ·have e1 : nmS ws (i, false) = (i + 1, false) := by simp [nmS, nmB, h1]
  have e2 : nmT ws (i, false) = textW ws i := by simp [nmT, nmB, h1]
  rw [e1] at h2
  have h3 : isW ws (i + 1) ⟨#[91]⟩ = false := by simpa [tk] using h2
  rw [if_pos h1, e1, e2, if_neg (by rw [h3]; decide)]
  exact SR.mk_ok _ _ _
 ·have e1 : nmS ws (i, false) = (i, true) := by simp [nmS, nmB, h1]
  rw [if_neg h1, e1]; exact SR.mk_no _ _ _
end Go.Proofs.YtjmjmdmnejnlbaaGreatDoor
namespace Go.Proofs.YtjmjmdmnejnlbaaGreatDoor
open Go.RowKit
open Pl

theorem sTake_yes (rb : Nat) (a : Option Addr) (cap : Nat) (ws : List W3) (st : St2) (s : ByteArray) (hs : s ≠ ⟨#[]⟩) (w : World) (h : Sd w rb a cap ws st) (ht : tk ws st s = true) :
    Calls Tryz.prog 59 #[.pointer (some ⟨rb, 0, none⟩), .string s] w fun e w' => e = .returned (.bool true) ∧ Sd w' rb a cap ws (st.1 + 1, false) ∧ Step rb w w' := by
 refine (sTake_any rb a cap ws st s hs w h).mono ?_
 rintro e w' ⟨rfl, r, s⟩
 unfold tkS at r
 rw [if_pos ht] at r
 exact ⟨by rw [ht], r, s⟩
theorem sTake_no (rb : Nat) (a : Option Addr) (cap : Nat) (ws : List W3) (st : St2) (s : ByteArray) (hs : s ≠ ⟨#[]⟩) (w : World) (h : Sd w rb a cap ws st) (ht : tk ws st s = false) :
    Calls Tryz.prog 59 #[.pointer (some ⟨rb, 0, none⟩), .string s] w fun e w' => e = .returned (.bool false) ∧ Sd w' rb a cap ws st ∧ Step rb w w' := by
 refine (sTake_any rb a cap ws st s hs w h).mono ?_
 rintro e w' ⟨rfl, r, s⟩
 unfold tkS at r
 rw [if_neg (by rw [ht]; decide)] at r
 exact ⟨by rw [ht], r, s⟩
theorem sKind_st (rb : Nat) (a : Option Addr) (cap : Nat) (ws : List W3) (st : St2) (w : World) (h : Sd w rb a cap ws st) :
    Calls Tryz.prog 62 #[.pointer (some ⟨rb, 0, none⟩)] w fun e w' => e = .returned (.int .i64 (kindW ws st.1)) ∧ Sd w' rb a cap ws st ∧ Step rb w w' := by
 refine (sKindW_any rb a cap ws st w h).mono ?_
 rintro e w' ⟨rfl, n, rfl⟩
 exact ⟨rfl, h.drewN n, (Step.refl rb w).drewN n⟩
theorem tk_good (ws : List W3) (i : Nat) (s : ByteArray) : tk ws (i, false) s = isW ws i s := by simp [tk]
def SOne (rb : Nat) (a : Option Addr) (cap : Nat) (ws : List W3) (f : Nat) : Prop := ∀ (st : St2) (w : World), 5 * (ws.length - st.1) + 1 ≤ f → Sd w rb a cap ws st → Calls Tryz.prog 133 #[.pointer (some ⟨rb, 0, none⟩)] w (SPost rb a cap ws w (mOne ws f st.1) st)
def STerm (rb : Nat) (a : Option Addr) (cap : Nat) (ws : List W3) (f : Nat) : Prop := ∀ (st : St2) (w : World), 5 * (ws.length - st.1) + 2 ≤ f → Sd w rb a cap ws st → Calls Tryz.prog 122 #[.pointer (some ⟨rb, 0, none⟩)] w (SPost rb a cap ws w (mTerm ws f st.1) st)
def SExpr (rb : Nat) (a : Option Addr) (cap : Nat) (ws : List W3) (f : Nat) : Prop := ∀ (st : St2) (w : World), 5 * (ws.length - st.1) + 3 ≤ f → Sd w rb a cap ws st → Calls Tryz.prog 111 #[.pointer (some ⟨rb, 0, none⟩)] w (SPost rb a cap ws w (mExpr ws f st.1) st)
theorem name_len {ws : List W3} (he : Env ws) (st : St2) : (nmT ws st).size ≤ maxLen := by
 unfold nmT
 split
 ·exact he.text _
 ·exact Nat.zero_le _
set_option maxRecDepth 100000 in
set_option maxHeartbeats 4000000 in
theorem sone_bad {rb : Nat} {a : Option Addr} {cap : Nat} {ws : List W3} {f : Nat} (i : Nat) (w : World) (h : Sd w rb a cap ws (i, true))  :
    Calls Tryz.prog 133 #[.pointer (some ⟨rb, 0, none⟩)] w (SPost rb a cap ws w (mOne ws (f + 1) i) (i, true)) := by
 obtain ⟨_, _, cb, _, _⟩ := h.cells
 simp only at cb
 have HA := mkHid h
 have hrb := h.lt
 clear h
 go_enter Tryz.func133, Tryz.ntmps133
 go_wp2
 obtain ⟨q0, q1, q2, q3⟩ := put4_cells0 (heap_alloc_new w (.cells #[.int .i64 0, .string ⟨#[]⟩, .int .i64 0, .slice none 0 0] 26)) (.int .i64 0) (.string ⟨#[]⟩) (.int .i64 0) (.slice none 0 0)
 first | exact bodyPost_ret (v := (A.node 0 ⟨#[]⟩ 0 none 0 []).val) (by simp [results, Tryz.results133, go_sem, A.val]) rfl (sp_leaf 0 0 ⟨#[]⟩ (HA.out.alloc _) hrb ((Step.refl rb w).alloc _) (by decide) (SR.mk_bad _ _ _)) | exact bodyPost_ret (v := (A.node 0 ⟨#[]⟩ 0 none 0 []).val) (by simp [results, Tryz.results133, go_sem, A.val]) rfl ⟨_, _, rfl, Sits.leaf _ _ _ (by decide), New.leaf _ _ _ _ _ _, HA.out.alloc _, (Step.refl rb w).alloc _, SR.mk_bad _ _ _⟩
set_option maxRecDepth 100000 in
set_option maxHeartbeats 4000000 in
theorem sone_neg {rb : Nat} {a : Option Addr} {cap : Nat} {ws : List W3} {f : Nat} (hO : SOne rb a cap ws f) (i : Nat) (w : World) (hf : 5 * (ws.length - i) + 1 ≤ f + 1) (h : Sd w rb a cap ws (i, false)) (h1 : isW ws i ⟨#[45]⟩ = true) :
    Calls Tryz.prog 133 #[.pointer (some ⟨rb, 0, none⟩)] w (SPost rb a cap ws w (mOne ws (f + 1) i) (i, false)) := by
 obtain ⟨_, _, cb, _, _⟩ := h.cells
 simp only at cb
 have hlt := isW_lt h1
 have HO := mkHid (fun w h => hO (i + 1, false) w (by simp only; omega) h)
 have H1 := mkHid h1
 have HA := mkHid h
 have hrb := h.lt
 have C0 := mkHid (fun w h => sTake_yes rb a cap ws (i, false) ⟨#[45]⟩ (by decide) w h (by rw [tk_good]; exact h1))
 clear h hO h1
 go_enter Tryz.func133, Tryz.ntmps133
 go_wp2_with fail
 refine (C0.out _ (HA.out.alloc _)).mono ?_
 rintro e w1 ⟨rfl, r, s⟩
 have R1 := mkHid r
 have S1 := mkHid (((Step.refl rb w).alloc _).trans s)
 have P1 := mkHid (s.at (heap_alloc_new w _) (by omega))
 clear r s
 go_wp2_with fail
 refine (HO.out _ R1.out).mono ?_
 rintro e w2 ⟨x, st', rfl, hsx, hnx, r, s, hr⟩
 have R2 := mkHid r
 have S2 := mkHid (S1.out.trans s)
 have P2 := mkHid (s.at P1.out (by omega))
 have HS := mkHid hsx
 have HN := mkHid hnx
 have HR := mkHid hr
 have Z := mkHid s.size
 clear r s hsx hnx hr
 obtain ⟨xk, xs, xm, xa, xc, xkk⟩ := x
 simp only [A.val]
 have z1 : w.heap.size < w1.heap.size := (Array.getElem?_eq_some_iff.1 P1.out).1
 go_wp2_with fail
 refine (one_new 5 (.node xk xs xm xa xc xkk) _).mono ?_
 rintro e w3 ⟨bb, rfl, hB, hge, hb⟩
 obtain ⟨t1, t2⟩ := made (k := 5) (m := 0) (s := ⟨#[]⟩) (c := 1) (sitsL_one HS.out) hb hB hge (NewL.one HN.out) Z.out (by decide) (by simp [maxLen])
 have P3 := mkHid ((hb.block _ (Array.getElem?_eq_some_iff.1 P2.out).1).trans P2.out)
 have R3 := mkHid (R2.out.keep (hb.mono R2.out.lt))
 have S3 := mkHid (S2.out.trans (Step.of_below hb))
 have HT1 := mkHid t1
 have HT2 := mkHid t2
 clear hB hge hb t1 t2
 simp only [A.val]
 obtain ⟨c0, c1, c2, c3, f0, f1, f2, f3⟩ := four_of P3.out
 go_wp2
 obtain ⟨q0, q1, q2, q3⟩ := put4_cells0 P3.out (.int .i64 5) (.string ⟨#[]⟩) (.int .i64 0) (.slice (some ⟨bb, 0, none⟩) 1 1)
 exact bodyPost_ret (v := (A.node 5 ⟨#[]⟩ 0 (some ⟨bb, 0, none⟩) 1 [.node xk xs xm xa xc xkk]).val) (by simp [results, Tryz.results133, go_sem, q0, q1, q2, q3, A.val]) rfl (sp_tree _ _ _ _ _ R3.out hrb S3.out HT1.out HT2.out z1 (by rw [erase1]; exact sr_neg H1.out HR.out))
set_option maxRecDepth 100000 in
set_option maxHeartbeats 4000000 in
theorem sone_par {rb : Nat} {a : Option Addr} {cap : Nat} {ws : List W3} {f : Nat} (hE : SExpr rb a cap ws f) (i : Nat) (w : World) (hf : 5 * (ws.length - i) + 1 ≤ f + 1) (h : Sd w rb a cap ws (i, false)) (n0 : isW ws i ⟨#[45]⟩ = false) (n2 : (kindW ws i == 2) = false) (h1 : isW ws i ⟨#[40]⟩ = true) :
    Calls Tryz.prog 133 #[.pointer (some ⟨rb, 0, none⟩)] w (SPost rb a cap ws w (mOne ws (f + 1) i) (i, false)) := by
 obtain ⟨_, _, cb, _, _⟩ := h.cells
 simp only at cb
 have hlt := isW_lt h1
 have HE := mkHid (fun w h => hE (i + 1, false) w (by simp only; omega) h)
 have H1 := mkHid h1
 have HA := mkHid h
 have hrb := h.lt
 have C0 := mkHid (fun w h => sTake_no rb a cap ws (i, false) ⟨#[45]⟩ (by decide) w h (by rw [tk_good]; exact n0))
 have C1 := mkHid (fun w h => sKind_st rb a cap ws (i, false) w h)
 have C2 := mkHid (fun w h => sTake_yes rb a cap ws (i, false) ⟨#[40]⟩ (by decide) w h (by rw [tk_good]; exact h1))
 have C3 := mkHid (fun st' w h => sNeed_any rb a cap ws st' ⟨#[41]⟩ (by decide) w h)
 clear h hE h1 n0
 go_enter Tryz.func133, Tryz.ntmps133
 go_wp2_with fail
 refine (C0.out _ (HA.out.alloc _)).mono ?_
 rintro e w1 ⟨rfl, r, s⟩
 have R1 := mkHid r
 have S1 := mkHid (((Step.refl rb w).alloc _).trans s)
 have P1 := mkHid (s.at (heap_alloc_new w _) (by omega))
 clear r s
 go_wp2_with fail
 refine (C1.out _ R1.out).mono ?_
 rintro e w2 ⟨rfl, r, s⟩
 have R2 := mkHid r
 have S2 := mkHid (S1.out.trans s)
 have P2 := mkHid (s.at P1.out (by omega))
 clear r s
 go_wp2_with fail
 refine (C2.out _ R2.out).mono ?_
 rintro e w3 ⟨rfl, r, s⟩
 have R3 := mkHid r
 have S3 := mkHid (S2.out.trans s)
 have P3 := mkHid (s.at P2.out (by omega))
 clear r s
 go_wp2_with fail
 refine (HE.out _ R3.out).mono ?_
 rintro e w4 ⟨x, st', rfl, hsx, hnx, r, s, hr⟩
 have R4 := mkHid r
 have S4 := mkHid (S3.out.trans s)
 have P4 := mkHid (s.at P3.out (by omega))
 clear r s
 have z3 : w.heap.size < w3.heap.size := (Array.getElem?_eq_some_iff.1 P3.out).1
 have z4 : w.heap.size < w4.heap.size := (Array.getElem?_eq_some_iff.1 P4.out).1
 have hsx' := ((Step.refl rb w4).alloc (.cells x.cells.toArray 26)).sits hsx (fun q hq => by have := hnx.2 q hq; have := R3.out.lt; omega)
 obtain ⟨xk, xs, xm, xa, xc, xkk⟩ := x
 simp only [A.cells] at hsx'
 have HS := mkHid hsx'
 have HN := mkHid hnx
 have HR := mkHid hr
 clear hsx' hsx hnx hr
 simp only [A.val]
 go_wp2_with fail
 refine (C3.out st' _ (R4.out.alloc _)).mono ?_
 rintro e w5 ⟨rfl, r, s⟩
 have P5 := mkHid (s.at ((Lib.alloc_old w4 _ _ z4).trans P4.out) (by omega))
 have L5 := s.at (heap_alloc_new w4 _) (by have := R4.out.lt; omega)
 have HS5 := mkHid (s.sits HS.out (fun q hq => by have := HN.out.2 q hq; have := R3.out.lt; omega))
 have S5 := mkHid ((S4.out.alloc _).trans s)
 have R5 := mkHid r
 clear r s
 obtain ⟨d0, d1, d2, d3, _⟩ := four_of L5
 obtain ⟨c0, c1, c2, c3, f0, f1, f2, f3⟩ := four_of P5.out
 clear L5
 go_wp2
 obtain ⟨q0, q1, q2, q3⟩ := put4_cells0 P5.out (.int .i64 xk) (.string xs) (.int .i64 xm) (.slice xa xkk.length xc)
 exact bodyPost_ret (v := (A.node xk xs xm xa xc xkk).val) (by simp [results, Tryz.results133, go_sem, q0, q1, q2, q3, A.val]) rfl (sp_tree _ _ _ _ _ R5.out hrb S5.out HS5.out HN.out z3 (sr_par H1.out HR.out))
set_option maxRecDepth 100000 in
set_option maxHeartbeats 4000000 in
theorem sone_len {rb : Nat} {a : Option Addr} {cap : Nat} {ws : List W3} {f : Nat} (he : Env ws) (i : Nat) (w : World) (h : Sd w rb a cap ws (i, false)) (n0 : isW ws i ⟨#[45]⟩ = false) (n1 : isW ws i ⟨#[40]⟩ = false) (n2 : (kindW ws i == 2) = false) (h1 : isW ws i ⟨#[108, 101, 110]⟩ = true) :
    Calls Tryz.prog 133 #[.pointer (some ⟨rb, 0, none⟩)] w (SPost rb a cap ws w (mOne ws (f + 1) i) (i, false)) := by
 obtain ⟨_, _, cb, _, _⟩ := h.cells
 simp only at cb
 have hnm := name_len he (nd ws (i + 1, false) ⟨#[40]⟩)
 have H1 := mkHid h1
 have HA := mkHid h
 have hrb := h.lt
 have C0 := mkHid (fun w h => sTake_no rb a cap ws (i, false) ⟨#[45]⟩ (by decide) w h (by rw [tk_good]; exact n0))
 have C1 := mkHid (fun w h => sKind_st rb a cap ws (i, false) w h)
 have C2 := mkHid (fun w h => sTake_no rb a cap ws (i, false) ⟨#[40]⟩ (by decide) w h (by rw [tk_good]; exact n1))
 have C3 := mkHid (fun w h => sTake_yes rb a cap ws (i, false) ⟨#[108, 101, 110]⟩ (by decide) w h (by rw [tk_good]; exact h1))
 have C4 := mkHid (fun w h => sNeed_any rb a cap ws (i + 1, false) ⟨#[40]⟩ (by decide) w h)
 have C5 := mkHid (fun w h => sNm_any rb a cap ws (nd ws (i + 1, false) ⟨#[40]⟩) w h)
 have C6 := mkHid (fun w h => sNeed_any rb a cap ws (nmS ws (nd ws (i + 1, false) ⟨#[40]⟩)) ⟨#[41]⟩ (by decide) w h)
 clear h h1 n0 n1 he
 go_enter Tryz.func133, Tryz.ntmps133
 go_wp2_with fail
 refine (C0.out _ (HA.out.alloc _)).mono ?_
 rintro e w1 ⟨rfl, r, s⟩
 have R1 := mkHid r
 have S1 := mkHid (((Step.refl rb w).alloc _).trans s)
 have P1 := mkHid (s.at (heap_alloc_new w _) (by omega))
 clear r s
 go_wp2_with fail
 refine (C1.out _ R1.out).mono ?_
 rintro e w2 ⟨rfl, r, s⟩
 have R2 := mkHid r
 have S2 := mkHid (S1.out.trans s)
 have P2 := mkHid (s.at P1.out (by omega))
 clear r s
 go_wp2_with fail
 refine (C2.out _ R2.out).mono ?_
 rintro e w3 ⟨rfl, r, s⟩
 have R3 := mkHid r
 have S3 := mkHid (S2.out.trans s)
 have P3 := mkHid (s.at P2.out (by omega))
 clear r s
 go_wp2_with fail
 refine (C3.out _ R3.out).mono ?_
 rintro e w4 ⟨rfl, r, s⟩
 have R4 := mkHid r
 have S4 := mkHid (S3.out.trans s)
 have P4 := mkHid (s.at P3.out (by omega))
 clear r s
 go_wp2_with fail
 refine (C4.out _ R4.out).mono ?_
 rintro e w5 ⟨rfl, r, s⟩
 have R5 := mkHid r
 have S5 := mkHid (S4.out.trans s)
 have P5 := mkHid (s.at P4.out (by omega))
 clear r s
 go_wp2_with fail
 refine (C5.out _ R5.out).mono ?_
 rintro e w6 ⟨rfl, r, s⟩
 have R6 := mkHid r
 have S6 := mkHid (S5.out.trans s)
 have P6 := mkHid (s.at P5.out (by omega))
 clear r s
 go_wp2_with fail
 refine (C6.out _ R6.out).mono ?_
 rintro e w7 ⟨rfl, r, s⟩
 have R7 := mkHid r
 have S7 := mkHid (S6.out.trans s)
 have P7 := mkHid (s.at P6.out (by omega))
 clear r s
 obtain ⟨c0, c1, c2, c3, f0, f1, f2, f3⟩ := four_of P7.out
 go_wp2
 obtain ⟨q0, q1, q2, q3⟩ := put4_cells0 P7.out (.int .i64 4) (.string (nmT ws (nd ws (i + 1, false) ⟨#[40]⟩))) (.int .i64 0) (.slice none 0 0)
 exact bodyPost_ret (v := (A.node 4 (nmT ws (nd ws (i + 1, false) ⟨#[40]⟩)) 0 none 0 []).val) (by simp [results, Tryz.results133, go_sem, q0, q1, q2, q3, A.val]) rfl (sp_leaf 4 0 (nmT ws (nd ws (i + 1, false) ⟨#[40]⟩)) R7.out hrb S7.out hnm (sr_len H1.out))
set_option maxRecDepth 100000 in
set_option maxHeartbeats 4000000 in
theorem sone_var {rb : Nat} {a : Option Addr} {cap : Nat} {ws : List W3} {f : Nat} (he : Env ws) (i : Nat) (w : World) (h : Sd w rb a cap ws (i, false)) (n0 : isW ws i ⟨#[45]⟩ = false) (n1 : isW ws i ⟨#[40]⟩ = false) (n2 : (kindW ws i == 2) = false) (n3 : isW ws i ⟨#[108, 101, 110]⟩ = false) (h2 : tk ws (nmS ws (i, false)) ⟨#[91]⟩ = false) :
    Calls Tryz.prog 133 #[.pointer (some ⟨rb, 0, none⟩)] w (SPost rb a cap ws w (mOne ws (f + 1) i) (i, false)) := by
 obtain ⟨_, _, cb, _, _⟩ := h.cells
 simp only at cb
 have hnm := name_len he (i, false)
 have HSR := mkHid (sr_var (f := f) n0 n1 n3 (by simpa using n2) h2)
 have HA := mkHid h
 have hrb := h.lt
 have C0 := mkHid (fun w h => sTake_no rb a cap ws (i, false) ⟨#[45]⟩ (by decide) w h (by rw [tk_good]; exact n0))
 have C1 := mkHid (fun w h => sKind_st rb a cap ws (i, false) w h)
 have C2 := mkHid (fun w h => sTake_no rb a cap ws (i, false) ⟨#[40]⟩ (by decide) w h (by rw [tk_good]; exact n1))
 have C3 := mkHid (fun w h => sTake_no rb a cap ws (i, false) ⟨#[108, 101, 110]⟩ (by decide) w h (by rw [tk_good]; exact n3))
 have C4 := mkHid (fun w h => sNm_any rb a cap ws (i, false) w h)
 have C5 := mkHid (fun w h => sTake_no rb a cap ws (nmS ws (i, false)) ⟨#[91]⟩ (by decide) w h h2)
 clear h n0 n1 n3 h2 he
 go_enter Tryz.func133, Tryz.ntmps133
 go_wp2_with fail
 refine (C0.out _ (HA.out.alloc _)).mono ?_
 rintro e w1 ⟨rfl, r, s⟩
 have R1 := mkHid r
 have S1 := mkHid (((Step.refl rb w).alloc _).trans s)
 have P1 := mkHid (s.at (heap_alloc_new w _) (by omega))
 clear r s
 go_wp2_with fail
 refine (C1.out _ R1.out).mono ?_
 rintro e w2 ⟨rfl, r, s⟩
 have R2 := mkHid r
 have S2 := mkHid (S1.out.trans s)
 have P2 := mkHid (s.at P1.out (by omega))
 clear r s
 go_wp2_with fail
 refine (C2.out _ R2.out).mono ?_
 rintro e w3 ⟨rfl, r, s⟩
 have R3 := mkHid r
 have S3 := mkHid (S2.out.trans s)
 have P3 := mkHid (s.at P2.out (by omega))
 clear r s
 go_wp2_with fail
 refine (C3.out _ R3.out).mono ?_
 rintro e w4 ⟨rfl, r, s⟩
 have R4 := mkHid r
 have S4 := mkHid (S3.out.trans s)
 have P4 := mkHid (s.at P3.out (by omega))
 clear r s
 go_wp2_with fail
 refine (C4.out _ R4.out).mono ?_
 rintro e w5 ⟨rfl, r, s⟩
 have R5 := mkHid r
 have S5 := mkHid (S4.out.trans s)
 have P5 := mkHid (s.at P4.out (by omega))
 clear r s
 go_wp2_with fail
 refine (C5.out _ R5.out).mono ?_
 rintro e w6 ⟨rfl, r, s⟩
 have R6 := mkHid r
 have S6 := mkHid (S5.out.trans s)
 have P6 := mkHid (s.at P5.out (by omega))
 clear r s
 obtain ⟨c0, c1, c2, c3, f0, f1, f2, f3⟩ := four_of P6.out
 go_wp2
 obtain ⟨q0, q1, q2, q3⟩ := put4_cells0 P6.out (.int .i64 2) (.string (nmT ws (i, false))) (.int .i64 0) (.slice none 0 0)
 exact bodyPost_ret (v := (A.node 2 (nmT ws (i, false)) 0 none 0 []).val) (by simp [results, Tryz.results133, go_sem, q0, q1, q2, q3, A.val]) rfl (sp_leaf 2 0 (nmT ws (i, false)) R6.out hrb S6.out hnm HSR.out)
end Go.Proofs.YtjmjmdmnejnlbaaGreatDoor
namespace Go.Proofs.YtjmjmdmnejnlbaaGreatDoor
open Go.RowKit
open Pl

/-- The loop has read x and stands at st'; all together R is read from st on. -/
def TInv (ws : List W3) (f : Nat) (m : Nat → T → Nat → Res) (R : Res) (st : St2) (x : T) (st' : St2) : Prop :=
 (st.2 = true ∧ st' = st) ∨ (st.2 = false ∧ ((st'.2 = true ∧ R = .no st'.1) ∨ (st'.2 = false ∧ ∃ g, g ≤ f ∧ 5 * (ws.length - st'.1) + 1 ≤ g ∧ m g x st'.1 = R)))
theorem tinv_end {ws : List W3} {f : Nat} {m : Nat → T → Nat → Res} {R : Res} {st : St2} {x : T} {st' : St2} (h : TInv ws f m R st x st') (hm : st'.2 = false → ∀ g, 1 ≤ g → m g x st'.1 = .ok x st'.1) : SR R st x st' := by
 obtain ⟨i, b⟩ := st
 obtain ⟨j, c⟩ := st'
 rcases h with ⟨h1, h2⟩ | ⟨h1, ⟨h2, h3⟩ | ⟨h2, g, _, h3, h4⟩⟩
 ·simp only at h1
  subst h1
  rw [h2]; exact SR.mk_bad _ _ _
 ·simp only at h1 h2 h3
  subst h1 h2
  rw [h3]; exact SR.mk_no _ _ _
 ·simp only at h1 h2 h3 h4
  subst h1 h2
  rw [← h4, hm rfl g (by omega)]; exact SR.mk_ok _ _ _
theorem tinv_first {ws : List W3} {f i : Nat} {b : Bool} {m : Nat → T → Nat → Res} {r R : Res} {x : T} {st' : St2} (hR : R = r.then_ fun x j => m f x j) (h : SR r (i, b) x st') (ha : ∀ t j, r = .ok t j → i < j ∧ j ≤ ws.length) (hf : 5 * (ws.length - i) + 1 ≤ f) : TInv ws f m R (i, b) x st' := by
 cases b with
 | true => exact .inl ⟨rfl, h.bad⟩
 | false =>
   refine .inr ⟨rfl, ?_⟩
   cases r with
   | no p => rw [h.no]; exact .inl ⟨rfl, hR⟩
   | ok t j =>
     rw [h.ok.1, h.ok.2]
     have := ha t j rfl
     exact .inr ⟨rfl, f, Nat.le_refl _, by simp only; omega, hR.symm⟩
end Go.Proofs.YtjmjmdmnejnlbaaGreatDoor
