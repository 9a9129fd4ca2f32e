/-
  THE PROGRAM'S READER IN MEMORY; CONTRACTS of its small parts: sees, has, take, seesKind, takeKind, name.
  CONTRACTS of the specification's l01Skip and l01End.
  CONTRACT of the specification's Words.
  PLAIN FACTS on parts of a text; CONTRACTS of the program's isBlank, noteSize, longestSign, longestWord, and of strings.Clone.
  CONTRACTS of the program's longestSign, longestWord, and of strings.Clone.
-/
import Derived.Test.YtjmjmdmnejnlbaaGreatDoorMGrove
import Derived.Deep.QuietTactic
import Derived.BigQuiet
import Derived.Deep.AppendLies
import Derived.Lib.IndexLaws
namespace Go.Proofs.YtjmjmdmnejnlbaaGreatDoor
open Go.RowKit
open Pl

theorem str_eq (a b : ByteArray) : (a.toList == b.toList) = decide (a = b) := by
 rw [Bool.eq_iff_iff, beq_iff_eq, decide_eq_true_eq, Lib.toList_data, Lib.toList_data]
 constructor
 ·intro h
  cases a
  cases b
  simpa using h
 ·rintro rfl
  rfl
/-- All old blocks but one are as they were. -/
abbrev Step (rb : Nat) (w w' : World) : Prop := w.grownBy w' (some rb)
theorem Step.refl (rb : Nat) (w : World) : Step rb w w := World.grownBy.refl _ _
theorem Step.trans {rb : Nat} {a b c : World} (h : Step rb a b) (k : Step rb b c) : Step rb a c :=
 ⟨k.os.trans h.os, k.tape.trans h.tape, k.output.trans h.output, Nat.le_trans h.size k.size, fun i hi hn => (k.block i (Nat.lt_of_lt_of_le hi h.size) hn).trans (h.block i hi hn)⟩
theorem Step.at {rb : Nat} {a b : World} (h : Step rb a b) {k : Nat} {o : Obj} (hk : a.heap[k]? = some o) (hne : k ≠ rb) : b.heap[k]? = some o :=
 (h.block k (Array.getElem?_eq_some_iff.1 hk).1 (by simpa using hne)).trans hk
theorem Step.below {rb : Nat} {a b : World} (h : Step rb a b) : rb < a.heap.size → Below rb a b := fun hr =>
 ⟨h.os, h.tape, h.output, h.size, fun k hk => h.block k (by omega) (by simp; omega)⟩
theorem Step.drew {rb : Nat} {a b : World} (h : Step rb a b) : Step rb a b.drew := ⟨h.os, h.tape, h.output, h.size, h.block⟩
theorem Step.drewN {rb : Nat} {a b : World} (h : Step rb a b) (n : Nat) : Step rb a (b.drewN n) := ⟨h.os, h.tape, h.output, h.size, h.block⟩
theorem Step.alloc {rb : Nat} {a b : World} (h : Step rb a b) (o : Obj) : Step rb a (b.alloc o) :=
 h.trans ⟨rfl, rfl, rfl, by simp, fun k hk _ => Lib.alloc_old _ _ _ hk⟩
theorem Step.setCell {rb : Nat} {a b : World} (h : Step rb a b) {p : Addr} (hp : a.heap.size ≤ p.block ∨ p.block = rb) (u : Value) : Step rb a (b.setCell p u) :=
 ⟨h.os, h.tape, h.output, by simp only [World.setCell, Array.size_modify]; exact h.size, fun k hk hn => by
  rw [Below.heap_setCell _ _ _ _ (by rcases hp with hp | hp
                                     ·omega
                                     ·intro e; exact hn (by rw [e, hp]))]
  exact h.block k hk hn⟩
/-- What lies apart from the reader, and is old, stays. -/
theorem Step.sits {rb : Nat} {a b : World} (h : Step rb a b) {x : A} (hs : Sits a x) (hne : ∀ q ∈ x.foot, q ≠ rb) : Sits b x :=
 Sits.stay x (fun q hq => h.block q (Sits.lt x hs q hq) (by simpa using hne q hq)) hs
theorem Step.sitsL {rb : Nat} {a b : World} (h : Step rb a b) {x : List A} (hs : SitsL a x) (hne : ∀ q ∈ feet x, q ≠ rb) : SitsL b x :=
 hs.stay (fun q hq => h.block q (SitsL.lt hs q hq) (by simpa using hne q hq))

/-- The reader lies in block rb, its words in an elder one. -/
structure Rd (w : World) (rb : Nat) (a : Option Addr) (cap : Nat) (ws : List W3) (i sz : Nat) : Prop where
 blk : w.heap[rb]? = some (.cells #[.slice a ws.length cap, .int .i64 i, .int .i64 sz] 61 (0, 0))
 wds : ws = [] ∨ ∃ g, a = some ⟨g, 0, none⟩ ∧ g < rb ∧ LiesW w g 0 ws
 few : ws.length ≤ 1500
theorem Rd.lt {w : World} {rb : Nat} {a : Option Addr} {cap : Nat} {ws : List W3} {i sz : Nat} (h : Rd w rb a cap ws i sz) : rb < w.heap.size := (Array.getElem?_eq_some_iff.1 h.blk).1
theorem LiesW.keep {w w' : World} {g : Nat} {ws : List W3} (h : LiesW w g 0 ws) (hb : ws = [] ∨ w'.heap[g]? = w.heap[g]?) : LiesW w' g 0 ws := fun i x hx => by
 rcases hb with rfl | hb
 ·simp at hx
 ·obtain ⟨h0, h1, h2⟩ := h i x hx
  have e : ∀ o, w'.cell? ⟨g, o, none⟩ = w.cell? ⟨g, o, none⟩ := fun o => World.cell?_of_block (w := w) (a := ⟨g, o, none⟩) hb
  exact ⟨(e _).trans h0, (e _).trans h1, (e _).trans h2⟩
theorem Rd.of {w w' : World} {rb : Nat} {a : Option Addr} {cap : Nat} {ws : List W3} {i j sz : Nat} (h : Rd w rb a cap ws i sz) (hs : Step rb w w')
    (hb : w'.heap[rb]? = some (.cells #[.slice a ws.length cap, .int .i64 j, .int .i64 sz] 61 (0, 0))) : Rd w' rb a cap ws j sz := by
 refine ⟨hb, ?_, h.few⟩
 rcases h.wds with h1 | ⟨g, h1, h2, h3⟩
 ·exact .inl h1
 ·exact .inr ⟨g, h1, h2, h3.keep (.inr (hs.block g (by have := h.lt; omega) (by simp; omega)))⟩
/-- What does not touch the reader keeps it. -/
theorem Rd.keep {w w' : World} {rb : Nat} {a : Option Addr} {cap : Nat} {ws : List W3} {i sz : Nat} (h : Rd w rb a cap ws i sz) (hb : Below (rb + 1) w w') : Rd w' rb a cap ws i sz := by
 refine ⟨(hb.block rb (by omega)).trans h.blk, ?_, h.few⟩
 rcases h.wds with h1 | ⟨g, h1, h2, h3⟩
 ·exact .inl h1
 ·exact .inr ⟨g, h1, h2, h3.keep (.inr (hb.block g (by omega)))⟩
theorem Rd.alloc {w : World} {rb : Nat} {a : Option Addr} {cap : Nat} {ws : List W3} {i sz : Nat} (h : Rd w rb a cap ws i sz) (o : Obj) : Rd (w.alloc o) rb a cap ws i sz :=
 h.keep ((Below.refl _ _).alloc h.lt o)
theorem Rd.setCell {w : World} {rb : Nat} {a : Option Addr} {cap : Nat} {ws : List W3} {i sz : Nat} (h : Rd w rb a cap ws i sz) {p : Addr} (hp : rb < p.block) (u : Value) : Rd (w.setCell p u) rb a cap ws i sz :=
 h.keep ((Below.refl _ _).setCell hp u)
theorem Rd.cells {w : World} {rb : Nat} {a : Option Addr} {cap : Nat} {ws : List W3} {i sz : Nat} (h : Rd w rb a cap ws i sz) :
    w.cell? ⟨rb, 0, none⟩ = some (.slice a ws.length cap) ∧ w.cell? ⟨rb, 1, none⟩ = some (.int .i64 i) ∧ w.cell? ⟨rb, 2, none⟩ = some (.int .i64 sz) ∧ w.frozen? ⟨rb, 1, none⟩ = false :=
 ⟨by rw [Lib.cell_of_heap h.blk]; rfl, by rw [Lib.cell_of_heap h.blk]; rfl, by rw [Lib.cell_of_heap h.blk]; rfl, Lib.frozen_of_heap h.blk 1⟩
theorem Rd.word {w : World} {rb : Nat} {a : Option Addr} {cap : Nat} {ws : List W3} {i sz : Nat} (h : Rd w rb a cap ws i sz) {j : Nat} {x : W3} (hx : ws[j]? = some x) :
    ∃ g, a = some ⟨g, 0, none⟩ ∧ w.cell? ⟨g, j * 3, none⟩ = some (.int .i64 x.k) ∧ w.cell? ⟨g, j * 3 + 1, none⟩ = some (.string x.s) ∧ w.cell? ⟨g, j * 3 + 2, none⟩ = some (.int .i64 x.a) := by
 rcases h.wds with h1 | ⟨g, h1, h2, h3⟩
 ·subst h1; simp at hx
 ·obtain ⟨h4, h5, h6⟩ := h3 j x hx
  rw [Nat.zero_add] at h4 h5 h6
  exact ⟨g, h1, h4, h5, h6⟩
theorem Rd.next {w : World} {rb : Nat} {a : Option Addr} {cap : Nat} {ws : List W3} {i sz : Nat} (h : Rd w rb a cap ws i sz) (j : Nat) : Rd (w.setCell ⟨rb, 1, none⟩ (.int .i64 j)) rb a cap ws j sz := by
 refine h.of ((Step.refl rb w).setCell (.inr rfl) _) ?_
 rw [heap_setCell_same w rb 1 _ 61 _ h.blk]; rfl

set_option maxRecDepth 100000 in
set_option maxHeartbeats 1000000 in
theorem sees_any (rb : Nat) (a : Option Addr) (cap : Nat) (ws : List W3) (i sz : Nat) (s : ByteArray) (w : World) (h : Rd w rb a cap ws i sz) :
    Calls Tryz.prog 71 #[.pointer (some ⟨rb, 0, none⟩), .string s] w fun e w' => e = .returned (.bool (isW ws i s)) ∧ ∃ n, w' = w.drewN n := by
 obtain ⟨c0, c1, c2, _⟩ := h.cells
 have hf := h.few
 by_cases hlt : i < ws.length
 ·obtain ⟨x, hx⟩ : ∃ x, ws[i]? = some x := ⟨_, List.getElem?_eq_getElem hlt⟩
  obtain ⟨g, rfl, d0, d1, d2⟩ := h.word hx
  have HW := mkHid (show isW ws i s = decide (x.s = s) by unfold isW; rw [hx])
  have hl : decide ((i : Int) < (ws.length : Int)) = true := by simp; omega
  have i0 : (0 : Int) ≤ (i : Int) := by omega
  have i1 : (i : Int) < (ws.length : Int) := by omega
  clear hx h d0 d2 c2
  go_enter Tryz.func71, Tryz.ntmps71
  go_wp2
  go_quiet (fail)
  go_wp2
  go_ret
  exact ⟨ret_bool (by rw [HW.out]; exact str_eq _ _), _, rfl⟩
 ·have HW := mkHid (show isW ws i s = false from isW_end s (by omega))
  have hl : decide ((i : Int) < (ws.length : Int)) = false := by simp; omega
  clear h c2
  go_enter Tryz.func71, Tryz.ntmps71
  go_wp2
  go_quiet (fail)
  go_wp2
  go_ret
  exact ⟨ret_bool (by rw [HW.out]), _, rfl⟩

/-- A panic of the reader's own. -/
def Died (e : Ending) : Prop := ∃ m : ByteArray, e = .panicked [{ v := .iface 9 (.string m), recovered := false }]

set_option maxRecDepth 100000 in
set_option maxHeartbeats 1000000 in
theorem seesKind_any (rb : Nat) (a : Option Addr) (cap : Nat) (ws : List W3) (i sz : Nat) (k : Int) (hk : k ≠ 0) (w : World) (h : Rd w rb a cap ws i sz) :
    Calls Tryz.prog 124 #[.pointer (some ⟨rb, 0, none⟩), .int .i64 k] w fun e w' => e = .returned (.bool (decide (kindW ws i = k))) ∧ ∃ n, w' = w.drewN n := by
 obtain ⟨c0, c1, c2, _⟩ := h.cells
 have hf := h.few
 by_cases hlt : i < ws.length
 ·obtain ⟨x, hx⟩ : ∃ x, ws[i]? = some x := ⟨_, List.getElem?_eq_getElem hlt⟩
  obtain ⟨g, rfl, d0, d1, d2⟩ := h.word hx
  have HW := mkHid (show kindW ws i = x.k by unfold kindW; rw [hx])
  have hl : decide ((i : Int) < (ws.length : Int)) = true := by simp; omega
  have i0 : (0 : Int) ≤ (i : Int) := by omega
  have i1 : (i : Int) < (ws.length : Int) := by omega
  clear hx h d1 d2 c2 hk
  go_enter Tryz.func124, Tryz.ntmps124
  go_wp2
  go_quiet (fail)
  go_wp2
  go_ret
  exact ⟨ret_bool (by rw [HW.out]; rfl), _, rfl⟩
 ·have HW := mkHid (show decide (kindW ws i = k) = false by rw [kindW_end (by omega)]; simpa using fun e => hk e.symm)
  have hl : decide ((i : Int) < (ws.length : Int)) = false := by simp; omega
  clear h c2 hk
  go_enter Tryz.func124, Tryz.ntmps124
  go_wp2
  go_quiet (fail)
  go_wp2
  go_ret
  exact ⟨ret_bool (by rw [HW.out]), _, rfl⟩

theorem Rd.drewN {w : World} {rb : Nat} {a : Option Addr} {cap : Nat} {ws : List W3} {i sz : Nat} (h : Rd w rb a cap ws i sz) (n : Nat) : Rd (w.drewN n) rb a cap ws i sz :=
 h.keep ⟨rfl, rfl, rfl, Nat.le_refl _, fun _ _ => rfl⟩

set_option maxRecDepth 100000 in
set_option maxHeartbeats 1000000 in
theorem has_yes (rb : Nat) (a : Option Addr) (cap : Nat) (ws : List W3) (i sz : Nat) (s : ByteArray) (w : World) (h : Rd w rb a cap ws i sz) (hw : isW ws i s = true) :
    Calls Tryz.prog 97 #[.pointer (some ⟨rb, 0, none⟩), .string s] w fun e w' => e = .returned (.bool true) ∧ Rd w' rb a cap ws (i + 1) sz ∧ Step rb w w' := by
 have HR := mkHid h
 obtain ⟨c0, c1, c2, f1⟩ := h.cells
 have hf := h.few
 have hlt := isW_lt hw
 have HS := mkHid (sees_any rb a cap ws i sz s w h)
 rw [hw] at HS
 clear h hw
 go_enter Tryz.func97, Tryz.ntmps97
 go_wp2_with fail
 refine HS.out.mono ?_
 rintro e w1 ⟨rfl, n, rfl⟩
 go_wp2
 go_ret
 exact ⟨rfl, by have := (HR.out.drewN n).next (i + 1); simpa using this, ((Step.refl rb w).drewN n).setCell (.inr rfl) _⟩
set_option maxRecDepth 100000 in
set_option maxHeartbeats 1000000 in
theorem has_no (rb : Nat) (a : Option Addr) (cap : Nat) (ws : List W3) (i sz : Nat) (s : ByteArray) (w : World) (h : Rd w rb a cap ws i sz) (hw : isW ws i s = false) :
    Calls Tryz.prog 97 #[.pointer (some ⟨rb, 0, none⟩), .string s] w fun e w' => e = .returned (.bool false) ∧ Rd w' rb a cap ws i sz ∧ Step rb w w' := by
 have HR := mkHid h
 have HS := mkHid (sees_any rb a cap ws i sz s w h)
 rw [hw] at HS
 clear h hw
 go_enter Tryz.func97, Tryz.ntmps97
 go_wp2_with fail
 refine HS.out.mono ?_
 rintro e w1 ⟨rfl, n, rfl⟩
 go_wp2
 go_ret
 exact ⟨rfl, HR.out.drewN n, (Step.refl rb w).drewN n⟩
set_option maxRecDepth 100000 in
set_option maxHeartbeats 1000000 in
theorem take_yes (rb : Nat) (a : Option Addr) (cap : Nat) (ws : List W3) (i sz : Nat) (s : ByteArray) (w : World) (h : Rd w rb a cap ws i sz) (hw : isW ws i s = true) :
    Calls Tryz.prog 99 #[.pointer (some ⟨rb, 0, none⟩), .string s] w fun e w' => e = .returned (.tuple #[]) ∧ Rd w' rb a cap ws (i + 1) sz ∧ Step rb w w' := by
 have HS := mkHid (has_yes rb a cap ws i sz s w h hw)
 clear h hw
 go_enter Tryz.func99, Tryz.ntmps99
 go_wp2_with fail
 refine HS.out.mono ?_
 rintro e w1 ⟨rfl, h1, h2⟩
 have H1 := mkHid h1
 have H2 := mkHid h2
 clear h1 h2
 go_wp2
 go_end0
 exact ⟨rfl, H1.out, H2.out⟩
set_option maxRecDepth 100000 in
set_option maxHeartbeats 1000000 in
theorem take_no (rb : Nat) (a : Option Addr) (cap : Nat) (ws : List W3) (i sz : Nat) (s : ByteArray) (w : World) (h : Rd w rb a cap ws i sz) (hw : isW ws i s = false) :
    Calls Tryz.prog 99 #[.pointer (some ⟨rb, 0, none⟩), .string s] w fun e w' => Died e ∧ Rd w' rb a cap ws i sz ∧ Step rb w w' := by
 have HS := mkHid (has_no rb a cap ws i sz s w h hw)
 clear h hw
 go_enter Tryz.func99, Tryz.ntmps99
 go_wp2_with fail
 refine HS.out.mono ?_
 rintro e w1 ⟨rfl, h1, h2⟩
 have H1 := mkHid h1
 have H2 := mkHid h2
 clear h1 h2
 go_wp2
 exact ⟨rfl, ⟨_, rfl⟩, H1.out, H2.out⟩
set_option maxRecDepth 100000 in
set_option maxHeartbeats 1000000 in
theorem takeKind_yes (rb : Nat) (a : Option Addr) (cap : Nat) (ws : List W3) (i sz : Nat) (k : Int) (hk : k ≠ 0) (w : World) (h : Rd w rb a cap ws i sz) (hw : kindW ws i = k) :
    Calls Tryz.prog 113 #[.pointer (some ⟨rb, 0, none⟩), .int .i64 k] w fun e w' => e = .returned (.string (textW ws i)) ∧ Rd w' rb a cap ws (i + 1) sz ∧ Step rb w w' := by
 have HR := mkHid h
 obtain ⟨c0, c1, c2, f1⟩ := h.cells
 have hf := h.few
 have hlt := kindW_lt hw hk
 obtain ⟨x, hx⟩ : ∃ x, ws[i]? = some x := ⟨_, List.getElem?_eq_getElem hlt⟩
 have HS := mkHid (seesKind_any rb a cap ws i sz k hk w h)
 rw [show decide (kindW ws i = k) = true by simpa using hw] at HS
 have HT := mkHid (show textW ws i = x.s by unfold textW; rw [hx])
 have h2 := fun n => ((h.drewN n).next (i + 1))
 have HX := mkHid hx
 clear h hw hk hx
 go_enter Tryz.func113, Tryz.ntmps113
 go_wp2_with fail
 refine HS.out.mono ?_
 rintro e w1 ⟨rfl, n, rfl⟩
 have h3 := h2 n
 clear h2
 obtain ⟨e0, e1, _, _⟩ := h3.cells
 obtain ⟨g, hg, _, d1, _⟩ := h3.word HX.out
 subst hg
 have H3 := mkHid h3
 have i1 : (i : Int) < (ws.length : Int) := by omega
 have i0 : (0 : Int) ≤ (i : Int) := by omega
 clear h3 c2
 push_cast at e0 e1 d1
 go_wp2
 go_quiet (fail)
 go_wp2
 go_ret
 exact ⟨ret_str HT.out.symm, by have := H3.out.drewN nq; simpa using this, (((Step.refl rb w).drewN n).setCell (.inr rfl) _).drewN nq⟩
set_option maxRecDepth 100000 in
set_option maxHeartbeats 1000000 in
theorem takeKind_no (rb : Nat) (a : Option Addr) (cap : Nat) (ws : List W3) (i sz : Nat) (k : Int) (hk : k ≠ 0) (w : World) (h : Rd w rb a cap ws i sz) (hw : kindW ws i ≠ k) :
    Calls Tryz.prog 113 #[.pointer (some ⟨rb, 0, none⟩), .int .i64 k] w fun e w' => Died e ∧ Rd w' rb a cap ws i sz ∧ Step rb w w' := by
 have HR := mkHid h
 have HS := mkHid (seesKind_any rb a cap ws i sz k hk w h)
 rw [show decide (kindW ws i = k) = false by simpa using hw] at HS
 clear h hw hk
 go_enter Tryz.func113, Tryz.ntmps113
 go_wp2_with fail
 refine HS.out.mono ?_
 rintro e w1 ⟨rfl, n, rfl⟩
 go_wp2
 exact ⟨rfl, ⟨_, rfl⟩, HR.out.drewN n, (Step.refl rb w).drewN n⟩
set_option maxRecDepth 100000 in
set_option maxHeartbeats 1000000 in
theorem name_yes (rb : Nat) (a : Option Addr) (cap : Nat) (ws : List W3) (i sz : Nat) (w : World) (h : Rd w rb a cap ws i sz) (hw : kindW ws i = 1) :
    Calls Tryz.prog 98 #[.pointer (some ⟨rb, 0, none⟩)] w fun e w' => e = .returned (.string (textW ws i)) ∧ Rd w' rb a cap ws (i + 1) sz ∧ Step rb w w' := by
 have HS := mkHid (takeKind_yes rb a cap ws i sz 1 (by decide) w h hw)
 clear h hw
 go_enter Tryz.func98, Tryz.ntmps98
 go_wp2_with fail
 refine HS.out.mono ?_
 rintro e w1 ⟨rfl, h1, h2⟩
 have H1 := mkHid h1
 have H2 := mkHid h2
 clear h1 h2
 go_wp2
 go_ret
 exact ⟨rfl, H1.out, H2.out⟩
set_option maxRecDepth 100000 in
set_option maxHeartbeats 1000000 in
theorem name_no (rb : Nat) (a : Option Addr) (cap : Nat) (ws : List W3) (i sz : Nat) (w : World) (h : Rd w rb a cap ws i sz) (hw : kindW ws i ≠ 1) :
    Calls Tryz.prog 98 #[.pointer (some ⟨rb, 0, none⟩)] w fun e w' => Died e ∧ Rd w' rb a cap ws i sz ∧ Step rb w w' := by
 have HS := mkHid (takeKind_no rb a cap ws i sz 1 (by decide) w h hw)
 clear h hw
 go_enter Tryz.func98, Tryz.ntmps98
 go_wp2_with fail
 refine HS.out.mono ?_
 rintro e w1 ⟨⟨m, rfl⟩, h1, h2⟩
 exact ⟨rfl, ⟨m, rfl⟩, h1, h2⟩
set_option maxRecDepth 100000 in
set_option maxHeartbeats 1000000 in
theorem num_no (rb : Nat) (a : Option Addr) (cap : Nat) (ws : List W3) (i sz : Nat) (w : World) (h : Rd w rb a cap ws i sz) (hw : kindW ws i ≠ 2) :
    Calls Tryz.prog 100 #[.pointer (some ⟨rb, 0, none⟩)] w fun e w' => Died e ∧ Rd w' rb a cap ws i sz ∧ Step rb w w' := by
 have HS := mkHid (takeKind_no rb a cap ws i sz 2 (by decide) w h hw)
 clear h hw
 go_enter Tryz.func100, Tryz.ntmps100
 go_wp2_with fail
 refine HS.out.mono ?_
 rintro e w1 ⟨⟨m, rfl⟩, h1, h2⟩
 exact ⟨rfl, ⟨m, rfl⟩, h1, h2⟩
end Go.Proofs.YtjmjmdmnejnlbaaGreatDoor
namespace Go.Proofs.YtjmjmdmnejnlbaaGreatDoor
open Go.RowKit
open Pl

theorem blank_eq {s : ByteArray} {k : Nat} (h : k < s.size) : blankB s k = ((((s[k]'h).toNat : Int) == 32) || (((s[k]'h).toNat : Int) == 10)) := by
 unfold blankB; rw [byt_eq s k h]

set_option maxRecDepth 100000 in
set_option maxHeartbeats 1000000 in
theorem sSkip_any (s : ByteArray) (at_ : Nat) (w : World) (hs : s.size ≤ 4000) (hat : at_ ≤ s.size) :
    Calls Tryz.prog 56 #[.string s, .int .i64 at_] w fun e w' => e = .returned (.int .i64 (skipI s at_ : Nat)) ∧ w = w' := by
 go_enter Tryz.func56, Tryz.ntmps56
 go_wp2
 go_loop [1] (fun v => ∃ p : Nat, at_ ≤ p ∧ p ≤ s.size ∧ v = .int .i64 p ∧ skipI s at_ = skipI s p) (fun v => s.size - (intOf v).toNat)
 case atStart => exact ⟨at_, Nat.le_refl _, hat, rfl, rfl⟩
 case round =>
  obtain ⟨p, hap, hps, rfl, heq⟩ := hrel
  have HE := mkHid heq
  clear heq
  by_cases hlt : p < s.size
  ·have HBY := mkHid (byt_eq s p hlt)
   have HBL := mkHid (blank_eq hlt)
   by_cases h32 : (((s[p]'hlt).toNat : Int) == 32) = true
   ·have HN := mkHid (show skipI s at_ = skipI s (p + 1) by rw [HE.out]; exact skip_blank hlt (by rw [HBL.out, h32]; rfl))
    clear HE HBY HBL
    go_wp2
    go_round
    case rel => exact ⟨p + 1, by omega, by omega, by go_num, HN.out⟩
    case measure => simp [intOf]; omega
   ·simp only [Bool.not_eq_true] at h32
    by_cases h10 : (((s[p]'hlt).toNat : Int) == 10) = true
    ·have HN := mkHid (show skipI s at_ = skipI s (p + 1) by rw [HE.out]; exact skip_blank hlt (by rw [HBL.out, h32, h10]; rfl))
     clear HE HBY HBL
     go_wp2
     go_round
     case rel => exact ⟨p + 1, by omega, by omega, by go_num, HN.out⟩
     case measure => simp [intOf]; omega
    ·simp only [Bool.not_eq_true] at h10
     by_cases h35 : (((s[p]'hlt).toNat : Int) == 35) = true
     ·have HN := mkHid (show skipI s at_ = skipI s (noteE s p) by rw [HE.out]; exact skip_note hlt (by rw [HBY.out]; simpa using h35))
      have HG := mkHid (noteE_gt hlt (by rw [HBY.out]; simpa using h35))
      clear HE HBY HBL
      go_wp2
      go_loop [1] (fun v => ∃ q : Nat, p ≤ q ∧ q ≤ s.size ∧ v = .int .i64 q ∧ ∀ j, p ≤ j → j < q → (byt s j == 10) = false) (fun v => s.size - (intOf v).toNat)
      case atStart => exact ⟨p, Nat.le_refl _, hps, rfl, fun j h1 h2 => by omega⟩
      case round =>
       obtain ⟨q, hpq, hqs, rfl, hq⟩ := hrel
       have HQ := mkHid hq
       clear hq h32 h10 h35
       by_cases hlq : q < s.size
       ·have HBQ := mkHid (byt_eq s q hlq)
        by_cases g10 : (((s[q]'hlq).toNat : Int) != 10) = true
        ·have HQ1 : Hid (∀ j, p ≤ j → j < q + 1 → (byt s j == 10) = false) := fun j h1 h2 => by
           rcases (by omega : j < q ∨ j = q) with h | rfl
           ·exact HQ.out j h1 h
           ·rw [HBQ.out]; simpa using g10
         clear HQ HBQ
         go_wp2
         go_round
         case rel => exact ⟨q + 1, by omega, by omega, by go_num, HQ1.out⟩
         case measure => simp [intOf]; omega
        ·simp only [Bool.not_eq_true] at g10
         have HF : Hid (noteE s p = q) := first_eq ⟨hpq, hqs, HQ.out, .inr (by show (byt s q == 10) = true; rw [HBQ.out]; simpa using g10)⟩
         clear HQ HBQ
         go_wp2
         go_round
         case rel => exact ⟨q, by omega, hqs, rfl, by rw [HN.out, HF.out]⟩
         case measure => have := HG.out; rw [HF.out] at this; simp [intOf]; omega
       ·have HF : Hid (noteE s p = q) := first_eq ⟨hpq, hqs, HQ.out, .inl (by omega)⟩
        clear HQ
        go_wp2
        go_round
        case rel => exact ⟨q, by omega, hqs, rfl, by rw [HN.out, HF.out]⟩
        case measure => have := HG.out; rw [HF.out] at this; simp [intOf]; omega
     ·simp only [Bool.not_eq_true] at h35
      have HN := mkHid (show skipI s at_ = p by
       rw [HE.out]
       exact skip_stop hlt (by rw [HBL.out, h32, h10]; rfl) (by rw [HBY.out]; simpa using h35))
      clear HE HBY HBL
      go_wp2
      go_ret
      exact ⟨ret_int (by rw [HN.out]), rfl⟩
  ·have HN := mkHid (show skipI s at_ = p by rw [HE.out]; exact skip_end hlt)
   go_wp2
   go_ret
   exact ⟨ret_int (by rw [HN.out]), rfl⟩

set_option maxRecDepth 100000 in
set_option maxHeartbeats 1000000 in
theorem sEnd_any (s : ByteArray) (at_ : Nat) (w : World) (hs : s.size ≤ 4000) (hat : at_ < s.size) :
    Calls Tryz.prog 57 #[.string s, .int .i64 at_] w fun e w' => e = .returned (.int .i64 (endI s at_ : Nat)) ∧ Below w.heap.size w w' := by
 have HBY := mkHid (byt_eq s at_ hat)
 by_cases ha : alnum s at_ = true
 ·have HE := mkHid (show endI s at_ = runE s at_ by simp [endI, ha])
  have key : Calls Tryz.prog 57 #[.string s, .int .i64 at_] w fun e w' => e = .returned (.int .i64 (runE s at_ : Nat)) ∧ Below w.heap.size w w' := by
   have hor : lowI (((s[at_]'hat).toNat : Nat) : Int) = true ∨ (lowI (((s[at_]'hat).toNat : Nat) : Int) = false ∧ digI (((s[at_]'hat).toNat : Nat) : Int) = true) := by
    unfold alnum at ha
    rw [HBY.out] at ha
    revert ha
    cases lowI (((s[at_]'hat).toNat : Nat) : Int) <;> simp
   clear HE
   have HA := mkHid ha
   clear ha
   rcases hor with g1 | ⟨g1, g2⟩
   all_goals
    go_enter Tryz.func57, Tryz.ntmps57
    go_wp2_with (first | (go_at_call 84; refine (sLetter_any _ _).mono ?_; rintro e w' ⟨rfl, rfl⟩) | (go_at_call 85; refine (sDigit_any _ _).mono ?_; rintro e w' ⟨rfl, rfl⟩))
    go_loop [1] (fun v => ∃ q : Nat, at_ ≤ q ∧ q ≤ s.size ∧ v = .int .i64 q ∧ ∀ j, at_ ≤ j → j < q → (!alnum s j) = false) (fun v => s.size - (intOf v).toNat)
    case atStart => exact ⟨at_, Nat.le_refl _, by omega, rfl, fun j h1 h2 => by omega⟩
    case round =>
     obtain ⟨q, hpq, hqs, rfl, hq⟩ := hrel
     have HQ := mkHid hq
     first | clear hq g1 g2 | clear hq g1
     by_cases hlq : q < s.size
     ·have HBQ := mkHid (byt_eq s q hlq)
      by_cases k1 : lowI (((s[q]'hlq).toNat : Nat) : Int) = true
      ·have HQ1 : Hid (∀ j, at_ ≤ j → j < q + 1 → (!alnum s j) = false) := fun j h1 h2 => by
         rcases (by omega : j < q ∨ j = q) with h | rfl
         ·exact HQ.out j h1 h
         ·unfold alnum; rw [HBQ.out, k1]; rfl
       clear HQ HBQ
       go_wp2_with (first | (go_at_call 84; refine (sLetter_any _ _).mono ?_; rintro e w' ⟨rfl, rfl⟩) | (go_at_call 85; refine (sDigit_any _ _).mono ?_; rintro e w' ⟨rfl, rfl⟩))
       go_round
       case rel => exact ⟨q + 1, by omega, by omega, by go_num, HQ1.out⟩
       case measure => simp [intOf]; omega
      ·simp only [Bool.not_eq_true] at k1
       by_cases k2 : digI (((s[q]'hlq).toNat : Nat) : Int) = true
       ·have HQ1 : Hid (∀ j, at_ ≤ j → j < q + 1 → (!alnum s j) = false) := fun j h1 h2 => by
          rcases (by omega : j < q ∨ j = q) with h | rfl
          ·exact HQ.out j h1 h
          ·unfold alnum; rw [HBQ.out, k2]; simp
        clear HQ HBQ
        go_wp2_with (first | (go_at_call 84; refine (sLetter_any _ _).mono ?_; rintro e w' ⟨rfl, rfl⟩) | (go_at_call 85; refine (sDigit_any _ _).mono ?_; rintro e w' ⟨rfl, rfl⟩))
        go_round
        case rel => exact ⟨q + 1, by omega, by omega, by go_num, HQ1.out⟩
        case measure => simp [intOf]; omega
       ·simp only [Bool.not_eq_true] at k2
        have HF : Hid (runE s at_ = q) := first_eq ⟨hpq, hqs, HQ.out, .inr (by show (!alnum s q) = true; unfold alnum; rw [HBQ.out, k1, k2]; rfl)⟩
        clear HQ HBQ
        go_wp2_with (first | (go_at_call 84; refine (sLetter_any _ _).mono ?_; rintro e w' ⟨rfl, rfl⟩) | (go_at_call 85; refine (sDigit_any _ _).mono ?_; rintro e w' ⟨rfl, rfl⟩))
        go_ret
        exact ⟨ret_int (by rw [HF.out]), Below.refl _ _⟩
     ·have HF : Hid (runE s at_ = q) := first_eq ⟨hpq, hqs, HQ.out, .inl (by omega)⟩
      clear HQ
      go_wp2
      go_ret
      exact ⟨ret_int (by rw [HF.out]), Below.refl _ _⟩
  rw [HE.out]
  exact key
 ·simp only [Bool.not_eq_true] at ha
  have hno : lowI (((s[at_]'hat).toNat : Nat) : Int) = false ∧ digI (((s[at_]'hat).toNat : Nat) : Int) = false := by
   unfold alnum at ha
   rw [HBY.out] at ha
   simpa using ha
  obtain ⟨g1, g2⟩ := hno
  by_cases h2 : (at_ : Int) + 1 < (s.size : Int)
  ·by_cases hsg : signB (s.extract at_ (at_ + 2)) = true
   ·have HE := mkHid (show endI s at_ = at_ + 2 by
      unfold endI
      rw [if_neg (by simp [ha]), if_pos ⟨by omega, hsg⟩])
    clear ha HBY
    go_enter Tryz.func57, Tryz.ntmps57
    go_wp2_with (first | (go_at_call 84; refine (sLetter_any _ _).mono ?_; rintro e w' ⟨rfl, rfl⟩) | (go_at_call 85; refine (sDigit_any _ _).mono ?_; rintro e w' ⟨rfl, rfl⟩) | (go_at_call 86; refine (sSign_any _ _).mono ?_; rintro e w1 ⟨rfl, hb1⟩))
    go_ret
    exact ⟨ret_int (by rw [HE.out]; omega), hb1⟩
   ·have HE := mkHid (show endI s at_ = at_ + 1 by
      unfold endI
      rw [if_neg (by simp [ha]), if_neg (fun h => hsg h.2)])
    simp only [Bool.not_eq_true] at hsg
    clear ha HBY
    go_enter Tryz.func57, Tryz.ntmps57
    go_wp2_with (first | (go_at_call 84; refine (sLetter_any _ _).mono ?_; rintro e w' ⟨rfl, rfl⟩) | (go_at_call 85; refine (sDigit_any _ _).mono ?_; rintro e w' ⟨rfl, rfl⟩) | (go_at_call 86; refine (sSign_any _ _).mono ?_; rintro e w1 ⟨rfl, hb1⟩))
    go_ret
    exact ⟨ret_int (by rw [HE.out]; omega), hb1⟩
  ·have HE := mkHid (show endI s at_ = at_ + 1 by
     unfold endI
     rw [if_neg (by simp [ha]), if_neg (fun h => h2 (by omega))])
   clear ha HBY
   go_enter Tryz.func57, Tryz.ntmps57
   go_wp2_with (first | (go_at_call 84; refine (sLetter_any _ _).mono ?_; rintro e w' ⟨rfl, rfl⟩) | (go_at_call 85; refine (sDigit_any _ _).mono ?_; rintro e w' ⟨rfl, rfl⟩))
   go_ret
   exact ⟨ret_int (by rw [HE.out]; omega), Below.refl _ _⟩
end Go.Proofs.YtjmjmdmnejnlbaaGreatDoor
namespace Go.Proofs.YtjmjmdmnejnlbaaGreatDoor
open Go.RowKit
open Pl

/-- A slice of our own that holds words. -/
def Owns (w : World) (base : Nat) (v : Value) (ws : List W3) : Prop := w.ownsRow base 58 3 v ws.length (flat ws)
theorem Owns.below {w w' : World} {base : Nat} {v : Value} {ws : List W3} (h : Owns w base v ws) (hb : Below w.heap.size w w') : Owns w' base v ws := owns_below h hb
theorem Owns.setCell {w : World} {base : Nat} {v : Value} {ws : List W3} (h : Owns w base v ws) (a : Addr) (u : Value) (hne : a.block < base) : Owns (w.setCell a u) base v ws := by
 refine World.ownsRow.kept (row := some a.block) h ⟨rfl, rfl, rfl, by simp [World.setCell], fun k _ hk => Below.heap_setCell _ _ _ _ (fun e => hk (by simp [e]))⟩ (.inr ?_)
 intro e
 have := (World.ownsRow.lt h _ e).1
 omega

theorem owns_fresh {w' : World} {g base : Nat} (hb : base ≤ g) (hg : w'.heap[g]? = some (.cells #[] 58 (0, 0))) : Owns w' base (.slice (some ⟨g, 0, none⟩) 0 0) [] :=
 ⟨rfl, .inr ⟨g, 0, #[], rfl, hb, hg, Nat.le_refl _, by unfold maxLen; omega, rfl, rfl⟩⟩
theorem Owns.form {w : World} {base : Nat} {v : Value} {ws : List W3} (h : Owns w base v ws) : ∃ ao cap, v = .slice ao ws.length cap := by
 rcases h.2 with ⟨rfl, h0⟩ | ⟨g, cap, cur, rfl, _⟩
 ·exact ⟨none, 0, by rw [h0]⟩
 ·exact ⟨_, _, rfl⟩
theorem Owns.mono {w : World} {base base' : Nat} {v : Value} {ws : List W3} (h : Owns w base v ws) (hb : base' ≤ base) : Owns w base' v ws := by
 refine ⟨h.1, ?_⟩
 rcases h.2 with h0 | ⟨g, cap, cur, e1, e2, e3⟩
 ·exact .inl h0
 ·exact .inr ⟨g, cap, cur, e1, by omega, e3⟩
theorem Owns.off {w : World} {base n : Nat} {v : Value} {ws : List W3} (h : Owns w base v ws) (hn : n < base) : v.ownBlock ≠ some n := fun e => by
 have := (World.ownsRow.lt h _ e).1
 omega
theorem three_new (w : World) (a b c : Value) (j : Nat) (u : Value) (h : [a, b, c][j]? = some u) : (w.alloc (.cells #[a, b, c] 58)).cell? ((⟨w.heap.size, 0, none⟩ : Addr).add j) = some u := by
 rw [WideShapes.add_plain, Nat.zero_add, World.cell?_alloc_new]
 simpa using h
theorem flat_snoc (ws : List W3) (x : W3) : flat ws ++ [.int .i64 x.k, .string x.s, .int .i64 x.a] = flat (ws ++ [x]) := by rw [flat_append]; rfl

theorem two_set {w : World} {n : Nat} {a b c d : Value} {T : TypeId} (h : w.heap[n]? = some (.cells #[a, b] T (0, 0))) : ((w.setCell ⟨n, 0, none⟩ c).setCell ⟨n, 1, none⟩ d).heap[n]? = some (.cells #[c, d] T (0, 0)) := by
 have h1 := heap_setCell_same w n 0 _ T c h
 have h2 := heap_setCell_same (w.setCell ⟨n, 0, none⟩ c) n 1 _ T d h1
 rw [h2]; rfl
theorem two_size (w : World) (n : Nat) (c d : Value) : ((w.setCell ⟨n, 0, none⟩ c).setCell ⟨n, 1, none⟩ d).heap.size = w.heap.size := by simp [World.setCell]
/-- What a call that answers a fault leaves: the fault in its variable, an empty slice in a new block. -/
theorem fault_end {w w2 : World} {c d : Value} (hN : w2.heap[w.heap.size]? = some (.cells #[.int .i64 0, .int .i64 0] 31 (0, 0))) (hs : w.heap.size < w2.heap.size) (hB : Below w.heap.size w w2) :
    (((w2.setCell ⟨w.heap.size, 0, none⟩ c).setCell ⟨w.heap.size, 1, none⟩ d).alloc (.cells #[] 58)).cell? ⟨w.heap.size, 0, none⟩ = some c ∧
    (((w2.setCell ⟨w.heap.size, 0, none⟩ c).setCell ⟨w.heap.size, 1, none⟩ d).alloc (.cells #[] 58)).cell? ⟨w.heap.size, 1, none⟩ = some d ∧
    Owns (((w2.setCell ⟨w.heap.size, 0, none⟩ c).setCell ⟨w.heap.size, 1, none⟩ d).alloc (.cells #[] 58)) w.heap.size (.slice (some ⟨w2.heap.size, 0, none⟩) 0 0) [] ∧
    Below w.heap.size w (((w2.setCell ⟨w.heap.size, 0, none⟩ c).setCell ⟨w.heap.size, 1, none⟩ d).alloc (.cells #[] 58)) := by
 have h2 := two_set (c := c) (d := d) hN
 have hz := two_size w2 w.heap.size c d
 have h3 : (((w2.setCell ⟨w.heap.size, 0, none⟩ c).setCell ⟨w.heap.size, 1, none⟩ d).alloc (.cells #[] 58)).heap[w.heap.size]? = some (.cells #[c, d] 31 (0, 0)) := by
  rw [Lib.alloc_old _ _ _ (by omega)]; exact h2
 refine ⟨by rw [Lib.cell_of_heap h3]; rfl, by rw [Lib.cell_of_heap h3]; rfl, owns_fresh (by omega) ?_, ?_⟩
 ·have := heap_alloc_new ((w2.setCell ⟨w.heap.size, 0, none⟩ c).setCell ⟨w.heap.size, 1, none⟩ d) (.cells #[] 58)
  rw [hz] at this
  exact this
 ·exact (((hB.setCell (p := ⟨w.heap.size, 0, none⟩) (Nat.le_refl _) _).setCell (p := ⟨w.heap.size, 1, none⟩) (Nat.le_refl _) _)).alloc (by omega) _

set_option maxRecDepth 100000 in
set_option maxHeartbeats 2000000 in
theorem sWords_any (s : ByteArray) (w : World) (hs : s.size ≤ maxLen) :
    Calls Tryz.prog 28 #[.string s] w fun e w' => ∃ v, e = .returned (.tuple #[v, .agg #[.int .i64 (wordsI s).2.1, .int .i64 (wordsI s).2.2]]) ∧ Owns w' w.heap.size v (wordsI s).1 ∧ Below w.heap.size w w' := by
 unfold maxLen at hs
 by_cases h4 : 4000 < (s.size : Int)
 ·have HW := mkHid (show wordsI s = ([], 1, 0) by unfold wordsI; rw [if_pos (by omega)])
  rw [HW.out]
  go_enter Tryz.func28, Tryz.ntmps28
  go_wp2
  exact bodyPost_ret (v := .tuple #[.slice (some ⟨w.heap.size + 1, 0, none⟩) 0 0, .agg #[.int .i64 1, .int .i64 0]]) (by simp [results, Tryz.results28, go_sem]) rfl
   ⟨_, rfl, owns_fresh (by omega) (by have := heap_alloc_new (w.alloc (.cells #[.int .i64 1, .int .i64 0] 31)) (.cells #[] 58); simpa using this), ((Below.refl _ _).alloc (Nat.le_refl _) _).alloc (by simp) _⟩
 ·have HW := mkHid (show wordsI s = scanI s (skipI s 0) [] by unfold wordsI; rw [if_neg (by omega)])
  have k0 := skip_le (s := s) (Nat.zero_le _)
  obtain ⟨i0, hi, hz⟩ := Option.map_eq_some_iff.1 Tryz.info58
  simp only [Prod.mk.injEq] at hz
  obtain ⟨hz0, hz1, hz2⟩ := hz
  have HI := mkHid (show Tryz.prog.info? 58 = some i0 ∧ i0.zero = some (.agg #[.int .i64 0, .string ByteArray.empty, .int .i64 0]) ∧ i0.size = 3 ∧ i0.bytes = 32 from ⟨hi, hz0, hz1, hz2⟩)
  clear hi hz0 hz1 hz2
  go_enter Tryz.func28, Tryz.ntmps28
  go_wp2_with fail
  refine (sSkip_any s 0 _ (by omega) (Nat.zero_le _)).mono ?_
  rintro e w1 ⟨rfl, rfl⟩
  go_wp2
  go_loopw [4, 5] (fun o a w' => ∃ (p : Nat) (ws : List W3) (ao : Option Addr) (cap : Nat), a = .int .i64 p ∧ o = .slice ao ws.length cap ∧ p ≤ s.size ∧ Owns w' (w.heap.size + 1) (.slice ao ws.length cap) ws ∧ ws.length ≤ 1500 ∧ scanI s p ws = wordsI s ∧
   w'.heap[w.heap.size]? = some (.cells #[.int .i64 0, .int .i64 0] 31 (0, 0)) ∧ Below w.heap.size w w') (fun _ a _ => s.size - (intOf a).toNat)
  case atStart =>
   refine ⟨skipI s 0, [], _, 0, rfl, rfl, k0, owns_fresh (Nat.le_refl _) ?_, by simp, HW.out.symm, ?_, ((Below.refl _ _).alloc (Nat.le_refl _) _).alloc (by simp) _⟩
   ·have := heap_alloc_new (w.alloc (.cells #[.int .i64 0, .int .i64 0] 31)) (.cells #[] 58)
    simpa using this
   ·rw [Lib.alloc_old _ _ _ (by simp)]
    exact heap_alloc_new w _
  case round =>
   obtain ⟨p, ws, ao, cap, rfl, rfl, hps, hown, hmax, hscan, hcellN, hbel⟩ := hrel
   have HO := mkHid hown
   have HS := mkHid hscan
   have HN := mkHid hcellN
   have HB := mkHid hbel
   have hNs : w.heap.size < wr.heap.size := by
    rcases Nat.lt_or_ge w.heap.size wr.heap.size with h' | h'
    ·exact h'
    ·simp [Array.getElem?_eq_none h'] at hcellN
   clear hown hscan hcellN hbel HW k0
   by_cases hlt : p < s.size
   ·obtain ⟨he1, he2⟩ := endI_gt hlt
    go_wp2_with fail
    refine (sEnd_any s p _ (by omega) hlt).mono ?_
    rintro e w1 ⟨rfl, hb1⟩
    have HB1 := mkHid (below_step HB.out hb1)
    have HO1 := mkHid (HO.out.below hb1)
    have HN1 := mkHid ((hb1.block _ hNs).trans HN.out)
    have hNs1 : w.heap.size < w1.heap.size := Nat.lt_of_lt_of_le hNs hb1.size
    clear hb1 HB HO HN
    go_wp2_with fail
    refine (sKind_any (s.extract p (endI s p)) _ ?hsz).mono ?_
    case hsz => unfold maxLen; simp; omega
    rintro e w2 ⟨rfl, hb2⟩
    have HB2 := mkHid (below_step HB1.out hb2)
    have HO2 := mkHid (HO1.out.below hb2)
    have HN2 := mkHid ((hb2.block _ hNs1).trans HN1.out)
    have hNs2 : w.heap.size < w2.heap.size := Nat.lt_of_lt_of_le hNs1 hb2.size
    clear hb2 HB1 HO1 HN1 hNs hNs1
    have c0 : w2.cell? ⟨w.heap.size, 0, none⟩ = some (.int .i64 0) := by rw [Lib.cell_of_heap HN2.out]; rfl
    have c1 : w2.cell? ⟨w.heap.size, 1, none⟩ = some (.int .i64 0) := by rw [Lib.cell_of_heap HN2.out]; rfl
    have f0 := Lib.frozen_of_heap HN2.out 0
    have f1 := Lib.frozen_of_heap HN2.out 1
    by_cases hk : (kindI (s.extract p (endI s p)) == 0) = true
    ·have HR := mkHid (show wordsI s = ([], 2, (p : Int)) by rw [← HS.out]; exact scan_bad hlt (by simpa using hk))
     clear HO2 HS
     go_wp2
     obtain ⟨q0, q1, q2, q3⟩ := fault_end (c := .int .i64 2) (d := .int .i64 p) HN2.out hNs2 HB2.out
     exact bodyPost_ret (v := .tuple #[.slice (some ⟨w2.heap.size, 0, none⟩) 0 0, .agg #[.int .i64 2, .int .i64 p]]) (by simp [results, Tryz.results28, go_sem, q0, q1]) rfl ⟨_, by rw [HR.out], by rw [HR.out]; exact q2, q3⟩
    ·have hk0 : kindI (s.extract p (endI s p)) ≠ 0 := by simpa using hk
     simp only [Bool.not_eq_true] at hk
     by_cases hm : ((ws.length : Int) == 1500) = true
     ·have HR := mkHid (show wordsI s = ([], 3, (p : Int)) by
        rw [← HS.out]
        refine scan_many hlt hk0 ?_
        simp at hm; omega)
      clear HO2 HS
      go_wp2
      obtain ⟨q0, q1, q2, q3⟩ := fault_end (c := .int .i64 3) (d := .int .i64 p) HN2.out hNs2 HB2.out
      exact bodyPost_ret (v := .tuple #[.slice (some ⟨w2.heap.size, 0, none⟩) 0 0, .agg #[.int .i64 3, .int .i64 p]]) (by simp [results, Tryz.results28, go_sem, q0, q1]) rfl ⟨_, by rw [HR.out], by rw [HR.out]; exact q2, q3⟩
     ·have hm0 : ws.length ≠ 1500 := by simp at hm; omega
      simp only [Bool.not_eq_true] at hm
      have HR := mkHid (scan_go hlt hk0 hm0)
      have HK0 := mkHid hk0
      clear hk0 c0 c1 f0 f1
      go_wp2_with (at_builtin; refine wpList_append_lies _ rfl _ _ 50 rfl (w.heap.size + 1) 58 i0 (.agg #[.int .i64 0, .string ByteArray.empty, .int .i64 0]) 3 32 Tryz.underlying50 HI.out.1 HI.out.2.1 HI.out.2.2.1 HI.out.2.2.2 rfl (by decide) _ _ _ rfl (HO2.out.alloc _) ⟨w2.heap.size, 0, none⟩ 1 1 [.int .i64 (kindI (s.extract p (endI s p))), .string (s.extract p (endI s p)), .int .i64 p] rfl rfl ?c1 ?c2 (by decide) ?c3 ?c4 ?c5 (w2.heap.size + 1) (by simp) ?_)
      case c1 => exact three_new _ _ _ _
      case c2 => intro u hu; simp at hu; rcases hu with rfl | rfl | rfl <;> rfl
      case c3 => unfold maxLen; omega
      case c4 => omega
      case c5 => simp; omega
      intro g cap' w3 hown' hgrow _ _
      have hoff := HO2.out.off (n := w.heap.size) (by omega)
      have HN3 : Hid (w3.heap[w.heap.size]? = some (.cells #[.int .i64 0, .int .i64 0] 31 (0, 0))) := by
       show _ = _
       rw [hgrow.block _ (by simp; omega) (fun e => hoff e.symm), Lib.alloc_old _ _ _ hNs2]
       exact HN2.out
      have HB3 : Hid (Below w.heap.size w w3) := (HB2.out.alloc (by omega) _).grown hgrow (by simp; omega) (fun k hk => by have := (World.ownsRow.lt HO2.out k hk).1; omega)
      have HO3 : Hid (Owns w3 (w.heap.size + 1) (.slice (some ⟨g, 0, none⟩) (ws.length + 1) cap') (ws ++ [⟨kindI (s.extract p (endI s p)), s.extract p (endI s p), p⟩])) := by
       show Owns _ _ _ _
       unfold Owns
       rw [← flat_snoc, List.length_append]
       exact hown'
      clear hown' hgrow hoff HN2 HB2 HO2
      go_wp2_with fail
      refine (sSkip_any s (endI s p) _ (by omega) he2).mono ?_
      rintro e w4 ⟨rfl, rfl⟩
      have k1 := skip_ge s (endI s p)
      have k2 := skip_le he2
      go_wp2
      go_roundw
      case rel => exact ⟨skipI s (endI s p), ws ++ [⟨kindI (s.extract p (endI s p)), s.extract p (endI s p), p⟩], _, _, rfl, by rw [List.length_append]; rfl, k2, by rw [List.length_append]; exact HO3.out, by rw [List.length_append]; simp; omega, HR.out.symm.trans HS.out, HN3.out, HB3.out⟩
      case measure => simp [intOf]; omega
   ·have HR := mkHid (show wordsI s = (ws, 0, 0) by rw [← HS.out]; exact scan_end hlt)
    have c0 : wr.cell? ⟨w.heap.size, 0, none⟩ = some (.int .i64 0) := by rw [Lib.cell_of_heap HN.out]; rfl
    have c1 : wr.cell? ⟨w.heap.size, 1, none⟩ = some (.int .i64 0) := by rw [Lib.cell_of_heap HN.out]; rfl
    have f0 := Lib.frozen_of_heap HN.out 0
    have f1 := Lib.frozen_of_heap HN.out 1
    go_wp2
    have h2 := two_set (c := .int .i64 0) (d := .int .i64 0) HN.out
    have q0 : ((wr.setCell ⟨w.heap.size, 0, none⟩ (.int .i64 0)).setCell ⟨w.heap.size, 1, none⟩ (.int .i64 0)).cell? ⟨w.heap.size, 0, none⟩ = some (.int .i64 0) := by rw [Lib.cell_of_heap h2]; rfl
    have q1 : ((wr.setCell ⟨w.heap.size, 0, none⟩ (.int .i64 0)).setCell ⟨w.heap.size, 1, none⟩ (.int .i64 0)).cell? ⟨w.heap.size, 1, none⟩ = some (.int .i64 0) := by rw [Lib.cell_of_heap h2]; rfl
    exact bodyPost_ret (v := .tuple #[.slice ao ws.length cap, .agg #[.int .i64 0, .int .i64 0]]) (by simp [results, Tryz.results28, go_sem, q0, q1]) rfl
     ⟨_, by rw [HR.out], by rw [HR.out]; exact (((HO.out.setCell ⟨w.heap.size, 0, none⟩ _ (Nat.lt_succ_self _)).setCell ⟨w.heap.size, 1, none⟩ _ (Nat.lt_succ_self _))).mono (Nat.le_succ _),
      (HB.out.setCell (p := ⟨w.heap.size, 0, none⟩) (Nat.le_refl _) _).setCell (p := ⟨w.heap.size, 1, none⟩) (Nat.le_refl _) _⟩
end Go.Proofs.YtjmjmdmnejnlbaaGreatDoor
namespace Go.Proofs.YtjmjmdmnejnlbaaGreatDoor
open Go.RowKit
open Pl

theorem byt_list (s : ByteArray) (k : Nat) : byt s k = ((s.data.toList.getD k 0).toNat : Int) := by
 unfold byt
 by_cases h : k < s.size
 ·rw [dif_pos h]
  have h' : k < s.data.toList.length := by rw [← Lib.size_eq]; exact h
  rw [List.getD_eq_getElem?_getD, List.getElem?_eq_getElem h']
  simp only [Option.getD_some, Array.getElem_toList]
  rfl
 ·rw [dif_neg h]
  have h' : s.data.toList.length ≤ k := by rw [← Lib.size_eq]; omega
  rw [List.getD_eq_getElem?_getD, List.getElem?_eq_none h']
  rfl
theorem size_ext (s : ByteArray) (a b : Nat) (h : b ≤ s.size) : (s.extract a b).size = b - a := by
 rw [Lib.size_eq, Lib.extract_data]
 rw [Lib.size_eq] at h
 simp only [List.length_take, List.length_drop]
 omega
theorem byt_ext (s : ByteArray) (a b k : Nat) (hk : a + k < b) : byt (s.extract a b) k = byt s (a + k) := by
 rw [byt_list, byt_list, Lib.extract_data, List.getD_eq_getElem?_getD, List.getD_eq_getElem?_getD, List.getElem?_take_of_lt (by omega), List.getElem?_drop]
theorem ext_ext (s : ByteArray) (a b c d : Nat) (hd : a + d ≤ b) : (s.extract a b).extract c d = s.extract (a + c) (a + d) := by
 rw [Lib.extract_eq, Lib.extract_data, Lib.extract_eq]
 congr 2
 rw [List.drop_take, List.drop_drop, List.take_take]
 congr 1
 omega
theorem alnum_ext (s : ByteArray) (a b k : Nat) (hk : a + k < b) : alnum (s.extract a b) k = alnum s (a + k) := by
 unfold alnum; rw [byt_ext s a b k hk]
theorem toList_inj {s t : ByteArray} (h : s.toList = t.toList) : s = t := by
 rw [← Lib.mk_data s, ← Lib.mk_data t, ← Lib.toList_data, ← Lib.toList_data, h]

/-- The rest of a text from a place on. -/
def rest (s : ByteArray) (p : Nat) : ByteArray := s.extract p s.size
theorem noteE_rest {s : ByteArray} {p : Nat} (h : p ≤ s.size) : p + noteE (rest s p) 0 = noteE s p := by
 have hz : (rest s p).size = s.size - p := size_ext s p s.size (Nat.le_refl _)
 obtain ⟨_, b, c, d⟩ := first_is (fun j => byt (rest s p) j == 10) (rest s p).size 0 (Nat.zero_le _)
 have b' : noteE (rest s p) 0 ≤ (rest s p).size := b
 refine (first_eq ⟨by omega, by omega, fun j h1 h2 => ?_, ?_⟩).symm
 ·have : (byt (rest s p) (j - p) == 10) = false := c (j - p) (Nat.zero_le _) (show j - p < noteE (rest s p) 0 by omega)
  unfold rest at this
  rw [byt_ext s p s.size (j - p) (by omega)] at this
  rwa [show p + (j - p) = j by omega] at this
 ·rcases d with h1 | h1
  ·left; have h1' : noteE (rest s p) 0 = (rest s p).size := h1; omega
  ·by_cases e : noteE (rest s p) 0 = (rest s p).size
   ·left; omega
   ·right
    have h1' : (byt (rest s p) (noteE (rest s p) 0) == 10) = true := h1
    unfold rest at h1'
    rw [byt_ext s p s.size _ (by have : (s.extract p s.size).size = s.size - p := hz
                                 have : noteE (s.extract p s.size) 0 = noteE (rest s p) 0 := rfl
                                 omega)] at h1'
    exact h1'
theorem runE_rest {s : ByteArray} {p : Nat} (h : p ≤ s.size) : p + runE (rest s p) 0 = runE s p := by
 have hz : (rest s p).size = s.size - p := size_ext s p s.size (Nat.le_refl _)
 obtain ⟨_, b, c, d⟩ := first_is (fun j => !alnum (rest s p) j) (rest s p).size 0 (Nat.zero_le _)
 have b' : runE (rest s p) 0 ≤ (rest s p).size := b
 refine (first_eq ⟨by omega, by omega, fun j h1 h2 => ?_, ?_⟩).symm
 ·have : (!alnum (rest s p) (j - p)) = false := c (j - p) (Nat.zero_le _) (show j - p < runE (rest s p) 0 by omega)
  unfold rest at this
  rw [alnum_ext s p s.size (j - p) (by omega)] at this
  rwa [show p + (j - p) = j by omega] at this
 ·rcases d with h1 | h1
  ·left; have h1' : runE (rest s p) 0 = (rest s p).size := h1; omega
  ·by_cases e : runE (rest s p) 0 = (rest s p).size
   ·left; omega
   ·right
    have h1' : (!alnum (rest s p) (runE (rest s p) 0)) = true := h1
    unfold rest at h1'
    rw [alnum_ext s p s.size _ (by have : (s.extract p s.size).size = s.size - p := hz
                                   have : runE (s.extract p s.size) 0 = runE (rest s p) 0 := rfl
                                   omega)] at h1'
    exact h1'

def blkI (r : Int) : Bool := r == 32 || r == 10
set_option maxRecDepth 100000 in
theorem isBlank_any (r : Int) (w : World) : Calls Tryz.prog 66 #[.int .i32 r] w fun e w' => e = .returned (.bool (blkI r)) ∧ w = w' := by
 unfold blkI
 go_enter Tryz.func66, Tryz.ntmps66
 go_wp2
 all_goals (go_ret; exact ⟨ret_bool (by simp_all <;> omega), rfl⟩)

theorem list_get {t : ByteArray} {k : Nat} (h : k < t.size) : t.data.toList[k]? = some (t[k]'h) := by
 have h' : k < t.data.toList.length := by rw [← Lib.size_eq]; exact h
 rw [List.getElem?_eq_getElem h']; simp only [Array.getElem_toList]; rfl
theorem u8_ten {c : UInt8} (h : (c.toNat : Int) = 10) : c = 10 := by
 have : c.toNat = 10 := by omega
 exact UInt8.toNat_inj.1 this
theorem note_some {t : ByteArray} {o : Nat} (h : Lib.indexByte t.data.toList 10 = o) : noteE t 0 = o := by
 obtain ⟨h1, h2⟩ := Lib.indexByte_some h
 have ho : o < t.size := by rw [Lib.size_eq]; exact (List.getElem?_eq_some_iff.1 h1).1
 refine first_eq ⟨Nat.zero_le _, by omega, fun j _ hj => ?_, .inr ?_⟩
 ·have := h2 j hj
  rw [list_get (by omega : j < t.size)] at this
  show (byt t j == 10) = false
  rw [byt_eq t j (by omega)]
  simp only [beq_eq_false_iff_ne, ne_eq]
  intro e
  exact this (by rw [u8_ten e])
 ·show (byt t o == 10) = true
  rw [byt_eq t o ho]
  rw [list_get ho] at h1
  simp only [Option.some.injEq] at h1
  rw [h1]; rfl
theorem note_none {t : ByteArray} (h : Lib.indexByte t.data.toList 10 = -1) : noteE t 0 = t.size := by
 refine first_eq ⟨Nat.zero_le _, Nat.le_refl _, fun j _ hj => ?_, .inl rfl⟩
 have := Lib.indexByte_none h j
 rw [list_get hj] at this
 show (byt t j == 10) = false
 rw [byt_eq t j hj]
 simp only [beq_eq_false_iff_ne, ne_eq]
 intro e
 exact this (by rw [u8_ten e])

set_option maxRecDepth 100000 in
set_option maxHeartbeats 400000 in
theorem noteSize_any (t : ByteArray) (w : World) : Calls Tryz.prog 67 #[.string t] w fun e w' => e = .returned (.int .i64 (noteE t 0 : Nat)) ∧ w = w' := by
 by_cases h : 0 ≤ Lib.indexByte t.data.toList 10
 ·obtain ⟨o, ho⟩ := Int.eq_ofNat_of_zero_le h
  have HN := mkHid (note_some ho)
  have HO := mkHid ho
  clear ho
  go_enter Tryz.func67, Tryz.ntmps67
  go_wp2_with fail
  refine (Tryz.strings_IndexByte t 10 _).mono ?_
  rintro e w1 ⟨rfl, rfl⟩
  rw [show (10 : Int).toNat.toUInt8 = 10 from rfl, HO.out]
  go_wp2
  go_ret
  exact ⟨ret_int (by rw [HN.out]), rfl⟩
 ·have h1 : Lib.indexByte t.data.toList 10 = -1 := by have := Lib.indexByte_ge t.data.toList 10; omega
  have HN := mkHid (note_none h1)
  have HO := mkHid h1
  clear h1 h
  go_enter Tryz.func67, Tryz.ntmps67
  go_wp2_with fail
  refine (Tryz.strings_IndexByte t 10 _).mono ?_
  rintro e w1 ⟨rfl, rfl⟩
  rw [show (10 : Int).toNat.toUInt8 = 10 from rfl, HO.out]
  go_wp2
  go_ret
  exact ⟨ret_int (by rw [HN.out]), rfl⟩
end Go.Proofs.YtjmjmdmnejnlbaaGreatDoor
namespace Go.Proofs.YtjmjmdmnejnlbaaGreatDoor
open Go.RowKit
open Pl

def signT (t : ByteArray) : ByteArray := if 2 ≤ t.size ∧ signB (t.extract 0 2) = true then t.extract 0 2 else if signB (t.extract 0 1) = true then t.extract 0 1 else ⟨#[]⟩

theorem signT_at {t : ByteArray} {n : Nat} (h0 : 0 < n) (h2 : n ≤ 2) (hn : n ≤ t.size) (hs : signB (t.extract 0 n) = true) (hb : n ≤ 1 → ¬(2 ≤ t.size ∧ signB (t.extract 0 2) = true)) : signT t = t.extract 0 n := by
 unfold signT
 by_cases e : n = 2
 ·subst e; rw [if_pos ⟨hn, hs⟩]
 ·have e1 : n = 1 := by omega
  subst e1
  rw [if_neg (hb (Nat.le_refl _)), if_pos hs]

set_option maxRecDepth 100000 in
set_option maxHeartbeats 400000 in
theorem longestSign_any (t : ByteArray) (w : World) (hs : t.size ≤ 4000) (h1 : 1 ≤ t.size) : Calls Tryz.prog 92 #[.string t] w fun e w' => e = .returned (.string (signT t)) ∧ w = w' := by
 obtain ⟨m, hm⟩ : ∃ m : Nat, min (2 : Int) (t.size : Int) = m := ⟨min 2 t.size, by omega⟩
 have hm2 : m ≤ 2 ∧ m ≤ t.size ∧ (m ≤ 1 → ¬ 2 ≤ t.size) ∧ m ≠ 0 := by omega
 have HM := mkHid hm2
 clear hm2
 go_enter Tryz.func92, Tryz.ntmps92
 go_wp2
 go_loop [3] (fun v => ∃ n : Nat, v = .int .i64 n ∧ n ≤ 2 ∧ n ≤ t.size ∧ (n ≤ 1 → ¬(2 ≤ t.size ∧ signB (t.extract 0 2) = true)) ∧ (n = 0 → signB (t.extract 0 1) = false)) (fun v => (intOf v).toNat)
 case atStart => exact ⟨m, rfl, HM.out.1, HM.out.2.1, fun h h' => HM.out.2.2.1 h h'.1, fun h => absurd h HM.out.2.2.2⟩
 case round =>
  obtain ⟨n, rfl, hn2, hns, hb, hz⟩ := hrel
  have HB := mkHid hb
  have HZ := mkHid hz
  clear hb hz hm HM
  by_cases h0 : 0 < (n : Int)
  ·by_cases hsg : signB (t.extract 0 n) = true
   ·have HT := mkHid (signT_at (by omega) hn2 hns hsg HB.out)
    go_wp2_with (go_at_call 94; refine (isSign_any _ _).mono ?_; rintro e w' ⟨rfl, rfl⟩)
    go_ret
    exact ⟨ret_str HT.out.symm, rfl⟩
   ·simp only [Bool.not_eq_true] at hsg
    have HN : Hid ((n - 1 ≤ 1 → ¬(2 ≤ t.size ∧ signB (t.extract 0 2) = true)) ∧ (n - 1 = 0 → signB (t.extract 0 1) = false)) := by
     refine ⟨fun h h' => ?_, fun h => ?_⟩
     ·by_cases e : n = 2
      ·subst e; rw [hsg] at h'; exact absurd h'.2 (by decide)
      ·exact HB.out (by omega) h'
     ·have e : n = 1 := by omega
      subst e; exact hsg
    clear HB HZ
    go_wp2_with (go_at_call 94; refine (isSign_any _ _).mono ?_; rintro e w' ⟨rfl, rfl⟩)
    go_round
    case rel => exact ⟨n - 1, by go_num, by omega, by omega, HN.out.1, HN.out.2⟩
    case measure => simp [intOf]; omega
  ·have HT := mkHid (show signT t = ⟨#[]⟩ by
     unfold signT
     rw [if_neg (HB.out (by omega)), if_neg (by rw [HZ.out (by omega)]; decide)])
   clear HB HZ
   go_wp2
   go_ret
   exact ⟨ret_str HT.out.symm, rfl⟩

set_option maxRecDepth 100000 in
set_option maxHeartbeats 400000 in
theorem clone_any (t : ByteArray) (w : World) (hs : t.size ≤ 4000) : Calls Tryz.prog 70 #[.string t] w fun e w' => e = .returned (.string t) ∧ Below w.heap.size w w' := by
 go_enter Tryz.func70, Tryz.ntmps70
 go_wp2_with (go_at_call 96; refine (Tryz.stringslite_Clone t _ (by omega)).mono ?_; rintro e w1 ⟨rfl, hb1⟩)
 go_ret
 exact ⟨rfl, hb1⟩

def foundT (t : ByteArray) : ByteArray := if alnum t 0 then t.extract 0 (runE t 0) else signT t

set_option maxRecDepth 100000 in
set_option maxHeartbeats 1000000 in
theorem longestWord_any (t : ByteArray) (w : World) (hs : t.size ≤ 4000) (h1 : 1 ≤ t.size) : Calls Tryz.prog 68 #[.string t] w fun e w' => e = .returned (.string (foundT t)) ∧ Below w.heap.size w w' := by
 go_enter Tryz.func68, Tryz.ntmps68
 go_wp2
 go_step3
 go_wp2
 go_step3
 go_wp2
 go_loopw [3] (fun v w' => ∃ pos : Nat, w' = w.iter t pos ∧ v = .int .i64 pos ∧ pos ≤ t.size ∧ ∀ j, 0 ≤ j → j < pos → (!alnum t j) = false) (fun _ w' => t.size - w'.iterPos w.heap.size)
 case atStart => exact ⟨0, rfl, rfl, Nat.zero_le _, fun j _ hj => by omega⟩
 case round =>
  obtain ⟨pos, rfl, rfl, hps, hall⟩ := hrel
  have HA := mkHid hall
  clear hall
  by_cases hp : pos < t.size
  ·obtain ⟨r, d, hnx, hd1, hl, hg, hr⟩ := next_rune (P := Tryz.prog) w t pos hp
   by_cases ga : alnum t pos = true
   ·have HA1 : Hid (∀ j, 0 ≤ j → j < pos + 1 → (!alnum t j) = false) := fun j h0 hj => by
      rcases (by omega : j < pos ∨ j = pos) with h | rfl
      ·exact HA.out j h0 h
      ·rw [ga]; rfl
    have hlt : byt t pos < 128 := by
     unfold alnum at ga
     rw [Bool.or_eq_true, low_iff, dig_iff] at ga
     omega
    have hd : d = 1 := (hr hlt).2
    subst hd
    have hor : lowI r = true ∨ (lowI r = false ∧ digI r = true) := by
     unfold alnum at ga
     rw [← hl, ← hg] at ga
     revert ga
     cases lowI r <;> simp
    clear hr hl hg hlt ga HA
    rcases hor with g1 | ⟨g1, g2⟩
    ·go_wp2_with (first | (go_at_call 90; refine (isLetter_any _ _).mono ?_; rintro e w' ⟨rfl, rfl⟩) | (go_at_call 91; refine (isDigit_any _ _).mono ?_; rintro e w' ⟨rfl, rfl⟩))
     go_roundw
     case rel => exact ⟨pos + 1, rfl, by go_num, by omega, HA1.out⟩
     case measure => simp; omega
    ·go_wp2_with (first | (go_at_call 90; refine (isLetter_any _ _).mono ?_; rintro e w' ⟨rfl, rfl⟩) | (go_at_call 91; refine (isDigit_any _ _).mono ?_; rintro e w' ⟨rfl, rfl⟩))
     go_roundw
     case rel => exact ⟨pos + 1, rfl, by go_num, by omega, HA1.out⟩
     case measure => simp; omega
   ·simp only [Bool.not_eq_true] at ga
    have hno : lowI r = false ∧ digI r = false := by
     unfold alnum at ga
     rw [← hl, ← hg] at ga
     simpa using ga
    obtain ⟨g1, g2⟩ := hno
    have HR : Hid (runE t 0 = pos) := first_eq ⟨Nat.zero_le _, hps, HA.out, .inr (by show (!alnum t pos) = true; rw [ga]; rfl)⟩
    clear hr hl hg
    by_cases h0 : ((pos : Int) == 0) = true
    ·have HF : Hid (foundT t = signT t) := by
       show _ = _
       have e : pos = 0 := by simpa using h0
       subst e
       unfold foundT; rw [if_neg (by simp [ga])]
     clear ga HA HR
     go_wp2_with (first | (go_at_call 90; refine (isLetter_any _ _).mono ?_; rintro e w' ⟨rfl, rfl⟩) | (go_at_call 91; refine (isDigit_any _ _).mono ?_; rintro e w' ⟨rfl, rfl⟩) | (go_at_call 92; refine (longestSign_any t _ hs h1).mono ?_; rintro e w' ⟨rfl, rfl⟩))
     try rw [Exit.noGoto_ret]
     go_ret
     exact ⟨ret_str HF.out.symm, below_iter _ _ _⟩
    ·simp only [Bool.not_eq_true] at h0
     have HF : Hid (foundT t = t.extract 0 pos) := by
      show _ = _
      have e : pos ≠ 0 := by simpa using h0
      have h00 := HA.out 0 (Nat.le_refl _) (by omega)
      unfold foundT
      rw [if_pos (by simpa using h00), HR.out]
     clear ga HA HR
     go_wp2_with (first | (go_at_call 90; refine (isLetter_any _ _).mono ?_; rintro e w' ⟨rfl, rfl⟩) | (go_at_call 91; refine (isDigit_any _ _).mono ?_; rintro e w' ⟨rfl, rfl⟩) | (go_at_call 92; refine (longestSign_any t _ hs h1).mono ?_; rintro e w' ⟨rfl, rfl⟩))
     try rw [Exit.noGoto_ret]
     go_ret
     exact ⟨ret_str HF.out.symm, below_iter _ _ _⟩
  ·have hnx : ∀ ty, (Instr.next (.pointer (some ⟨w.heap.size, 0, none⟩)) true ty).run Tryz.prog (w.iter t pos) = _ := fun ty => run_next_end w t pos ty hp
   have HR : Hid (runE t 0 = pos) := first_eq ⟨Nat.zero_le _, hps, HA.out, .inl (by omega)⟩
   have h0 : ((pos : Int) == 0) = false := by simp; omega
   have HF : Hid (foundT t = t.extract 0 pos) := by
    show _ = _
    have h00 := HA.out 0 (Nat.le_refl _) (by omega)
    unfold foundT
    rw [if_pos (by simpa using h00), HR.out]
   clear HA HR
   go_wp2
   try rw [Exit.noGoto_ret]
   go_ret
   exact ⟨ret_str HF.out.symm, below_iter _ _ _⟩
end Go.Proofs.YtjmjmdmnejnlbaaGreatDoor
