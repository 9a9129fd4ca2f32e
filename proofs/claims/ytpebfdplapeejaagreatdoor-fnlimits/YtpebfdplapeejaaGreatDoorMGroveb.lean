/-
  THE PROGRAM'S READER IN MEMORY; CONTRACTS of its small parts: sees, has, take, seesKind, takeKind, name.
  Layings.
  CONTRACT of the program's reader's num; what a part of the reader answers.
  NEW TREES OUT OF NEW TREES.
-/
import Derived.Test.YtpebfdplapeejaaGreatDoorMGrove
import Derived.Deep.QuietTactic
import Derived.BigQuiet
import Derived.Test.YtpebfdplapeejaaGreatDoorMWrow
import Derived.Test.YtpebfdplapeejaaGreatDoorMChn
import Derived.Lib.AtoiErrMem
namespace Go.Proofs.YtpebfdplapeejaaGreatDoor
open Go.RowKit
open Pl

theorem str_eq (a b : ByteArray) : (a.toList == b.toList) = decide (a = b) := by
  rw [Bool.eq_iff_iff, beq_iff_eq, decide_eq_true_eq, Lib.toList_data, Lib.toList_data]
  constructor
  · intro h
    cases a
    cases b
    simpa using h
  · rintro rfl
    rfl
/-- All old blocks but one are as they were. -/
abbrev Step (rb : Nat) (w w' : World) : Prop := w.grownBy w' (some rb)
theorem Step.refl (rb : Nat) (w : World) : Step rb w w := World.grownBy.refl _ _
theorem Step.trans {rb : Nat} {a b c : World} (h : Step rb a b) (k : Step rb b c) : Step rb a c :=
  ⟨k.os.trans h.os, k.tape.trans h.tape, k.output.trans h.output, Nat.le_trans h.size k.size, fun i hi hn => (k.block i (Nat.lt_of_lt_of_le hi h.size) hn).trans (h.block i hi hn)⟩
theorem Step.at {rb : Nat} {a b : World} (h : Step rb a b) {k : Nat} {o : Obj} (hk : a.heap[k]? = some o) (hne : k ≠ rb) : b.heap[k]? = some o :=
  (h.block k (Array.getElem?_eq_some_iff.1 hk).1 (by simpa using hne)).trans hk
theorem Step.below {rb : Nat} {a b : World} (h : Step rb a b) : rb < a.heap.size → Below rb a b := fun hr =>
  ⟨h.os, h.tape, h.output, h.size, fun k hk => h.block k (by omega) (by simp; omega)⟩
theorem Step.drew {rb : Nat} {a b : World} (h : Step rb a b) : Step rb a b.drew := ⟨h.os, h.tape, h.output, h.size, h.block⟩
theorem Step.drewN {rb : Nat} {a b : World} (h : Step rb a b) (n : Nat) : Step rb a (b.drewN n) := ⟨h.os, h.tape, h.output, h.size, h.block⟩
theorem Step.alloc {rb : Nat} {a b : World} (h : Step rb a b) (o : Obj) : Step rb a (b.alloc o) :=
  h.trans ⟨rfl, rfl, rfl, by simp, fun k hk _ => Lib.alloc_old _ _ _ hk⟩
theorem Step.setCell {rb : Nat} {a b : World} (h : Step rb a b) {p : Addr} (hp : a.heap.size ≤ p.block ∨ p.block = rb) (u : Value) : Step rb a (b.setCell p u) :=
  ⟨h.os, h.tape, h.output, by simp only [World.setCell, Array.size_modify]; exact h.size, fun k hk hn => by
    rw [Below.heap_setCell _ _ _ _ (by rcases hp with hp | hp
                                       · omega
                                       · intro e; exact hn (by rw [e, hp]))]
    exact h.block k hk hn⟩
/-- What lies apart from the reader, and is old, stays. -/
theorem Step.sits {rb : Nat} {a b : World} (h : Step rb a b) {x : A} (hs : Sits a x) (hne : ∀ q ∈ x.foot, q ≠ rb) : Sits b x :=
  Sits.stay x (fun q hq => h.block q (Sits.lt x hs q hq) (by simpa using hne q hq)) hs
theorem Step.sitsL {rb : Nat} {a b : World} (h : Step rb a b) {x : List A} (hs : SitsL a x) (hne : ∀ q ∈ feet x, q ≠ rb) : SitsL b x :=
  hs.stay (fun q hq => h.block q (SitsL.lt hs q hq) (by simpa using hne q hq))

/-- The reader lies in block rb, its words in an elder one. -/
structure Rd (w : World) (rb : Nat) (a : Option Addr) (cap : Nat) (ws : List W3) (i sz : Nat) : Prop where
  blk : w.heap[rb]? = some (.cells #[.slice a ws.length cap, .int .i64 i, .int .i64 sz] 47 (0, 0))
  wds : ws = [] ∨ ∃ g, a = some ⟨g, 0, none⟩ ∧ g < rb ∧ LiesW w g 0 ws
  few : ws.length ≤ 1500
theorem Rd.lt {w : World} {rb : Nat} {a : Option Addr} {cap : Nat} {ws : List W3} {i sz : Nat} (h : Rd w rb a cap ws i sz) : rb < w.heap.size := (Array.getElem?_eq_some_iff.1 h.blk).1
theorem LiesW.keep {w w' : World} {g : Nat} {ws : List W3} (h : LiesW w g 0 ws) (hb : ws = [] ∨ w'.heap[g]? = w.heap[g]?) : LiesW w' g 0 ws := fun i x hx => by
  rcases hb with rfl | hb
  · simp at hx
  · obtain ⟨h0, h1, h2⟩ := h i x hx
    have e : ∀ o, w'.cell? ⟨g, o, none⟩ = w.cell? ⟨g, o, none⟩ := fun o => World.cell?_of_block (w := w) (a := ⟨g, o, none⟩) hb
    exact ⟨(e _).trans h0, (e _).trans h1, (e _).trans h2⟩
theorem Rd.of {w w' : World} {rb : Nat} {a : Option Addr} {cap : Nat} {ws : List W3} {i j sz : Nat} (h : Rd w rb a cap ws i sz) (hs : Step rb w w')
    (hb : w'.heap[rb]? = some (.cells #[.slice a ws.length cap, .int .i64 j, .int .i64 sz] 47 (0, 0))) : Rd w' rb a cap ws j sz := by
  refine ⟨hb, ?_, h.few⟩
  rcases h.wds with h1 | ⟨g, h1, h2, h3⟩
  · exact .inl h1
  · exact .inr ⟨g, h1, h2, h3.keep (.inr (hs.block g (by have := h.lt; omega) (by simp; omega)))⟩
/-- What does not touch the reader keeps it. -/
theorem Rd.keep {w w' : World} {rb : Nat} {a : Option Addr} {cap : Nat} {ws : List W3} {i sz : Nat} (h : Rd w rb a cap ws i sz) (hb : Below (rb + 1) w w') : Rd w' rb a cap ws i sz := by
  refine ⟨(hb.block rb (by omega)).trans h.blk, ?_, h.few⟩
  rcases h.wds with h1 | ⟨g, h1, h2, h3⟩
  · exact .inl h1
  · exact .inr ⟨g, h1, h2, h3.keep (.inr (hb.block g (by omega)))⟩
theorem Rd.alloc {w : World} {rb : Nat} {a : Option Addr} {cap : Nat} {ws : List W3} {i sz : Nat} (h : Rd w rb a cap ws i sz) (o : Obj) : Rd (w.alloc o) rb a cap ws i sz :=
  h.keep ((Below.refl _ _).alloc h.lt o)
theorem Rd.setCell {w : World} {rb : Nat} {a : Option Addr} {cap : Nat} {ws : List W3} {i sz : Nat} (h : Rd w rb a cap ws i sz) {p : Addr} (hp : rb < p.block) (u : Value) : Rd (w.setCell p u) rb a cap ws i sz :=
  h.keep ((Below.refl _ _).setCell hp u)
theorem Rd.cells {w : World} {rb : Nat} {a : Option Addr} {cap : Nat} {ws : List W3} {i sz : Nat} (h : Rd w rb a cap ws i sz) :
    w.cell? ⟨rb, 0, none⟩ = some (.slice a ws.length cap) ∧ w.cell? ⟨rb, 1, none⟩ = some (.int .i64 i) ∧ w.cell? ⟨rb, 2, none⟩ = some (.int .i64 sz) ∧ w.frozen? ⟨rb, 1, none⟩ = false :=
  ⟨by rw [Lib.cell_of_heap h.blk]; rfl, by rw [Lib.cell_of_heap h.blk]; rfl, by rw [Lib.cell_of_heap h.blk]; rfl, Lib.frozen_of_heap h.blk 1⟩
theorem Rd.word {w : World} {rb : Nat} {a : Option Addr} {cap : Nat} {ws : List W3} {i sz : Nat} (h : Rd w rb a cap ws i sz) {j : Nat} {x : W3} (hx : ws[j]? = some x) :
    ∃ g, a = some ⟨g, 0, none⟩ ∧ w.cell? ⟨g, j * 3, none⟩ = some (.int .i64 x.k) ∧ w.cell? ⟨g, j * 3 + 1, none⟩ = some (.string x.s) ∧ w.cell? ⟨g, j * 3 + 2, none⟩ = some (.int .i64 x.a) := by
  rcases h.wds with h1 | ⟨g, h1, h2, h3⟩
  · subst h1; simp at hx
  · obtain ⟨h4, h5, h6⟩ := h3 j x hx
    rw [Nat.zero_add] at h4 h5 h6
    exact ⟨g, h1, h4, h5, h6⟩
theorem Rd.next {w : World} {rb : Nat} {a : Option Addr} {cap : Nat} {ws : List W3} {i sz : Nat} (h : Rd w rb a cap ws i sz) (j : Nat) : Rd (w.setCell ⟨rb, 1, none⟩ (.int .i64 j)) rb a cap ws j sz := by
  refine h.of ((Step.refl rb w).setCell (.inr rfl) _) ?_
  rw [heap_setCell_same w rb 1 _ 47 _ h.blk]; rfl

set_option maxRecDepth 100000 in
set_option maxHeartbeats 1000000 in
theorem sees_any (rb : Nat) (a : Option Addr) (cap : Nat) (ws : List W3) (i sz : Nat) (s : ByteArray) (w : World) (h : Rd w rb a cap ws i sz) :
    Calls Tryz.prog 32 #[.pointer (some ⟨rb, 0, none⟩), .string s] w fun e w' => e = .returned (.bool (isW ws i s)) ∧ ∃ n, w' = w.drewN n := by
  obtain ⟨c0, c1, c2, _⟩ := h.cells
  have hf := h.few
  by_cases hlt : i < ws.length
  · obtain ⟨x, hx⟩ : ∃ x, ws[i]? = some x := ⟨_, List.getElem?_eq_getElem hlt⟩
    obtain ⟨g, rfl, d0, d1, d2⟩ := h.word hx
    have HW := mkHid (show isW ws i s = decide (x.s = s) by unfold isW; rw [hx])
    have hl : decide ((i : Int) < (ws.length : Int)) = true := by simp; omega
    have i0 : (0 : Int) ≤ (i : Int) := by omega
    have i1 : (i : Int) < (ws.length : Int) := by omega
    clear hx h d0 d2 c2
    go_enter Tryz.func32, Tryz.ntmps32
    go_wp2
    go_quiet (fail)
    go_wp2
    go_ret
    exact ⟨ret_bool (by rw [HW.out]; exact str_eq _ _), _, rfl⟩
  · have HW := mkHid (show isW ws i s = false from isW_end s (by omega))
    have hl : decide ((i : Int) < (ws.length : Int)) = false := by simp; omega
    clear h c2
    go_enter Tryz.func32, Tryz.ntmps32
    go_wp2
    go_quiet (fail)
    go_wp2
    go_ret
    exact ⟨ret_bool (by rw [HW.out]), _, rfl⟩

/-- A panic of the reader's own. -/
def Died (e : Ending) : Prop := ∃ m : ByteArray, e = .panicked [{ v := .iface 9 (.string m), recovered := false }]

set_option maxRecDepth 100000 in
set_option maxHeartbeats 1000000 in
theorem seesKind_any (rb : Nat) (a : Option Addr) (cap : Nat) (ws : List W3) (i sz : Nat) (k : Int) (hk : k ≠ 0) (w : World) (h : Rd w rb a cap ws i sz) :
    Calls Tryz.prog 72 #[.pointer (some ⟨rb, 0, none⟩), .int .i64 k] w fun e w' => e = .returned (.bool (decide (kindW ws i = k))) ∧ ∃ n, w' = w.drewN n := by
  obtain ⟨c0, c1, c2, _⟩ := h.cells
  have hf := h.few
  by_cases hlt : i < ws.length
  · obtain ⟨x, hx⟩ : ∃ x, ws[i]? = some x := ⟨_, List.getElem?_eq_getElem hlt⟩
    obtain ⟨g, rfl, d0, d1, d2⟩ := h.word hx
    have HW := mkHid (show kindW ws i = x.k by unfold kindW; rw [hx])
    have hl : decide ((i : Int) < (ws.length : Int)) = true := by simp; omega
    have i0 : (0 : Int) ≤ (i : Int) := by omega
    have i1 : (i : Int) < (ws.length : Int) := by omega
    clear hx h d1 d2 c2 hk
    go_enter Tryz.func72, Tryz.ntmps72
    go_wp2
    go_quiet (fail)
    go_wp2
    go_ret
    exact ⟨ret_bool (by rw [HW.out]; rfl), _, rfl⟩
  · have HW := mkHid (show decide (kindW ws i = k) = false by rw [kindW_end (by omega)]; simpa using fun e => hk e.symm)
    have hl : decide ((i : Int) < (ws.length : Int)) = false := by simp; omega
    clear h c2 hk
    go_enter Tryz.func72, Tryz.ntmps72
    go_wp2
    go_quiet (fail)
    go_wp2
    go_ret
    exact ⟨ret_bool (by rw [HW.out]), _, rfl⟩

theorem Rd.drewN {w : World} {rb : Nat} {a : Option Addr} {cap : Nat} {ws : List W3} {i sz : Nat} (h : Rd w rb a cap ws i sz) (n : Nat) : Rd (w.drewN n) rb a cap ws i sz :=
  h.keep ⟨rfl, rfl, rfl, Nat.le_refl _, fun _ _ => rfl⟩

set_option maxRecDepth 100000 in
set_option maxHeartbeats 1000000 in
theorem has_yes (rb : Nat) (a : Option Addr) (cap : Nat) (ws : List W3) (i sz : Nat) (s : ByteArray) (w : World) (h : Rd w rb a cap ws i sz) (hw : isW ws i s = true) :
    Calls Tryz.prog 46 #[.pointer (some ⟨rb, 0, none⟩), .string s] w fun e w' => e = .returned (.bool true) ∧ Rd w' rb a cap ws (i + 1) sz ∧ Step rb w w' := by
  have HR := mkHid h
  obtain ⟨c0, c1, c2, f1⟩ := h.cells
  have hf := h.few
  have hlt := isW_lt hw
  have HS := mkHid (sees_any rb a cap ws i sz s w h)
  rw [hw] at HS
  clear h hw
  go_enter Tryz.func46, Tryz.ntmps46
  go_wp2_with fail
  refine HS.out.mono ?_
  rintro e w1 ⟨rfl, n, rfl⟩
  go_wp2
  go_ret
  exact ⟨rfl, by have := (HR.out.drewN n).next (i + 1); simpa using this, ((Step.refl rb w).drewN n).setCell (.inr rfl) _⟩
set_option maxRecDepth 100000 in
set_option maxHeartbeats 1000000 in
theorem has_no (rb : Nat) (a : Option Addr) (cap : Nat) (ws : List W3) (i sz : Nat) (s : ByteArray) (w : World) (h : Rd w rb a cap ws i sz) (hw : isW ws i s = false) :
    Calls Tryz.prog 46 #[.pointer (some ⟨rb, 0, none⟩), .string s] w fun e w' => e = .returned (.bool false) ∧ Rd w' rb a cap ws i sz ∧ Step rb w w' := by
  have HR := mkHid h
  have HS := mkHid (sees_any rb a cap ws i sz s w h)
  rw [hw] at HS
  clear h hw
  go_enter Tryz.func46, Tryz.ntmps46
  go_wp2_with fail
  refine HS.out.mono ?_
  rintro e w1 ⟨rfl, n, rfl⟩
  go_wp2
  go_ret
  exact ⟨rfl, HR.out.drewN n, (Step.refl rb w).drewN n⟩
set_option maxRecDepth 100000 in
set_option maxHeartbeats 1000000 in
theorem take_yes (rb : Nat) (a : Option Addr) (cap : Nat) (ws : List W3) (i sz : Nat) (s : ByteArray) (w : World) (h : Rd w rb a cap ws i sz) (hw : isW ws i s = true) :
    Calls Tryz.prog 48 #[.pointer (some ⟨rb, 0, none⟩), .string s] w fun e w' => e = .returned (.tuple #[]) ∧ Rd w' rb a cap ws (i + 1) sz ∧ Step rb w w' := by
  have HS := mkHid (has_yes rb a cap ws i sz s w h hw)
  clear h hw
  go_enter Tryz.func48, Tryz.ntmps48
  go_wp2_with fail
  refine HS.out.mono ?_
  rintro e w1 ⟨rfl, h1, h2⟩
  have H1 := mkHid h1
  have H2 := mkHid h2
  clear h1 h2
  go_wp2
  go_end0
  exact ⟨rfl, H1.out, H2.out⟩
set_option maxRecDepth 100000 in
set_option maxHeartbeats 1000000 in
theorem take_no (rb : Nat) (a : Option Addr) (cap : Nat) (ws : List W3) (i sz : Nat) (s : ByteArray) (w : World) (h : Rd w rb a cap ws i sz) (hw : isW ws i s = false) :
    Calls Tryz.prog 48 #[.pointer (some ⟨rb, 0, none⟩), .string s] w fun e w' => Died e ∧ Rd w' rb a cap ws i sz ∧ Step rb w w' := by
  have HS := mkHid (has_no rb a cap ws i sz s w h hw)
  clear h hw
  go_enter Tryz.func48, Tryz.ntmps48
  go_wp2_with fail
  refine HS.out.mono ?_
  rintro e w1 ⟨rfl, h1, h2⟩
  have H1 := mkHid h1
  have H2 := mkHid h2
  clear h1 h2
  go_wp2
  exact ⟨rfl, ⟨_, rfl⟩, H1.out, H2.out⟩
set_option maxRecDepth 100000 in
set_option maxHeartbeats 1000000 in
theorem takeKind_yes (rb : Nat) (a : Option Addr) (cap : Nat) (ws : List W3) (i sz : Nat) (k : Int) (hk : k ≠ 0) (w : World) (h : Rd w rb a cap ws i sz) (hw : kindW ws i = k) :
    Calls Tryz.prog 62 #[.pointer (some ⟨rb, 0, none⟩), .int .i64 k] w fun e w' => e = .returned (.string (textW ws i)) ∧ Rd w' rb a cap ws (i + 1) sz ∧ Step rb w w' := by
  have HR := mkHid h
  obtain ⟨c0, c1, c2, f1⟩ := h.cells
  have hf := h.few
  have hlt := kindW_lt hw hk
  obtain ⟨x, hx⟩ : ∃ x, ws[i]? = some x := ⟨_, List.getElem?_eq_getElem hlt⟩
  have HS := mkHid (seesKind_any rb a cap ws i sz k hk w h)
  rw [show decide (kindW ws i = k) = true by simpa using hw] at HS
  have HT := mkHid (show textW ws i = x.s by unfold textW; rw [hx])
  have h2 := fun n => ((h.drewN n).next (i + 1))
  have HX := mkHid hx
  clear h hw hk hx
  go_enter Tryz.func62, Tryz.ntmps62
  go_wp2_with fail
  refine HS.out.mono ?_
  rintro e w1 ⟨rfl, n, rfl⟩
  have h3 := h2 n
  clear h2
  obtain ⟨e0, e1, _, _⟩ := h3.cells
  obtain ⟨g, hg, _, d1, _⟩ := h3.word HX.out
  subst hg
  have H3 := mkHid h3
  have i1 : (i : Int) < (ws.length : Int) := by omega
  have i0 : (0 : Int) ≤ (i : Int) := by omega
  clear h3 c2
  push_cast at e0 e1 d1
  go_wp2
  go_quiet (fail)
  go_wp2
  go_ret
  exact ⟨ret_str HT.out.symm, by have := H3.out.drewN nq; simpa using this, (((Step.refl rb w).drewN n).setCell (.inr rfl) _).drewN nq⟩
set_option maxRecDepth 100000 in
set_option maxHeartbeats 1000000 in
theorem takeKind_no (rb : Nat) (a : Option Addr) (cap : Nat) (ws : List W3) (i sz : Nat) (k : Int) (hk : k ≠ 0) (w : World) (h : Rd w rb a cap ws i sz) (hw : kindW ws i ≠ k) :
    Calls Tryz.prog 62 #[.pointer (some ⟨rb, 0, none⟩), .int .i64 k] w fun e w' => Died e ∧ Rd w' rb a cap ws i sz ∧ Step rb w w' := by
  have HR := mkHid h
  have HS := mkHid (seesKind_any rb a cap ws i sz k hk w h)
  rw [show decide (kindW ws i = k) = false by simpa using hw] at HS
  clear h hw hk
  go_enter Tryz.func62, Tryz.ntmps62
  go_wp2_with fail
  refine HS.out.mono ?_
  rintro e w1 ⟨rfl, n, rfl⟩
  go_wp2
  exact ⟨rfl, ⟨_, rfl⟩, HR.out.drewN n, (Step.refl rb w).drewN n⟩
set_option maxRecDepth 100000 in
set_option maxHeartbeats 1000000 in
theorem name_yes (rb : Nat) (a : Option Addr) (cap : Nat) (ws : List W3) (i sz : Nat) (w : World) (h : Rd w rb a cap ws i sz) (hw : kindW ws i = 1) :
    Calls Tryz.prog 47 #[.pointer (some ⟨rb, 0, none⟩)] w fun e w' => e = .returned (.string (textW ws i)) ∧ Rd w' rb a cap ws (i + 1) sz ∧ Step rb w w' := by
  have HS := mkHid (takeKind_yes rb a cap ws i sz 1 (by decide) w h hw)
  clear h hw
  go_enter Tryz.func47, Tryz.ntmps47
  go_wp2_with fail
  refine HS.out.mono ?_
  rintro e w1 ⟨rfl, h1, h2⟩
  have H1 := mkHid h1
  have H2 := mkHid h2
  clear h1 h2
  go_wp2
  go_ret
  exact ⟨rfl, H1.out, H2.out⟩
set_option maxRecDepth 100000 in
set_option maxHeartbeats 1000000 in
theorem name_no (rb : Nat) (a : Option Addr) (cap : Nat) (ws : List W3) (i sz : Nat) (w : World) (h : Rd w rb a cap ws i sz) (hw : kindW ws i ≠ 1) :
    Calls Tryz.prog 47 #[.pointer (some ⟨rb, 0, none⟩)] w fun e w' => Died e ∧ Rd w' rb a cap ws i sz ∧ Step rb w w' := by
  have HS := mkHid (takeKind_no rb a cap ws i sz 1 (by decide) w h hw)
  clear h hw
  go_enter Tryz.func47, Tryz.ntmps47
  go_wp2_with fail
  refine HS.out.mono ?_
  rintro e w1 ⟨⟨m, rfl⟩, h1, h2⟩
  exact ⟨rfl, ⟨m, rfl⟩, h1, h2⟩
set_option maxRecDepth 100000 in
set_option maxHeartbeats 1000000 in
theorem num_no (rb : Nat) (a : Option Addr) (cap : Nat) (ws : List W3) (i sz : Nat) (w : World) (h : Rd w rb a cap ws i sz) (hw : kindW ws i ≠ 2) :
    Calls Tryz.prog 49 #[.pointer (some ⟨rb, 0, none⟩)] w fun e w' => Died e ∧ Rd w' rb a cap ws i sz ∧ Step rb w w' := by
  have HS := mkHid (takeKind_no rb a cap ws i sz 2 (by decide) w h hw)
  clear h hw
  go_enter Tryz.func49, Tryz.ntmps49
  go_wp2_with fail
  refine HS.out.mono ?_
  rintro e w1 ⟨⟨m, rfl⟩, h1, h2⟩
  exact ⟨rfl, ⟨m, rfl⟩, h1, h2⟩
end Go.Proofs.YtpebfdplapeejaaGreatDoor
namespace Go.Proofs.YtpebfdplapeejaaGreatDoor
end Go.Proofs.YtpebfdplapeejaaGreatDoor
namespace Go.Proofs.YtpebfdplapeejaaGreatDoor
open Go.RowKit
open Pl

theorem dec_val {s : ByteArray} (h : ∀ k, k < s.size → digI (byt s k) = true) : ∀ k, k ≤ s.size → ∃ m : Nat, Lib.decFrom 0 (s.data.toList.take k) = some m ∧ (m : Int) = val s k := by
  intro k
  induction k with
  | zero => intro _; exact ⟨0, rfl, rfl⟩
  | succ k ih =>
    intro hk
    obtain ⟨m, h1, h2⟩ := ih (by omega)
    have hd := (dig_iff _).1 (h k (by omega))
    have hl : k < s.data.toList.length := by rw [← Lib.size_eq]; omega
    have hb := byt_list s k
    rw [List.getD_eq_getElem?_getD, List.getElem?_eq_getElem hl] at hb
    simp only [Option.getD_some] at hb
    refine ⟨m * 10 + (s.data.toList[k].toNat - 48), Lib.decFrom_take _ _ _ _ _ _ h1 (List.getElem?_eq_getElem hl) ?_, ?_⟩
    · unfold Lib.digitVal
      rw [if_pos (by omega)]
    · simp only [val]
      omega
theorem num_short {s : ByteArray} (h : numB s = true) : s.size ≤ 7 := by
  have hp : numP s := by simpa [numB] using h
  rcases Nat.lt_or_ge 7 s.size with q | q
  · have := val_long s s.size q hp.2.1 (hp.2.2.1 (by omega))
    have := hp.2.2.2
    omega
  · exact q
theorem atoi_num {s : ByteArray} (h : numB s = true) : Lib.atoi s.data.toList = some (numV s) := by
  have hp : numP s := by simpa [numB] using h
  obtain ⟨m, h1, h2⟩ := dec_val hp.2.1 s.size (Nat.le_refl _)
  rw [List.take_of_length_le (by rw [← Lib.size_eq]; exact Nat.le_refl _)] at h1
  rw [(numV_yes h).1, ← h2]
  have h0 := (dig_iff _).1 (hp.2.1 0 (by have := hp.1; omega))
  rw [byt_list] at h0
  have hne : s.data.toList ≠ [] := by
    intro e
    have q := Lib.size_eq s
    rw [e, List.length_nil] at q
    have := hp.1
    omega
  generalize s.data.toList = l at h1 h0 hne
  cases l with
  | nil => exact absurd rfl hne
  | cons b r =>
    simp only [List.getD_cons_zero] at h0
    have b1 : (b == 45) = false := by
      rw [beq_eq_false_iff_ne]
      rintro rfl
      simp at h0
    have b2 : (b == 43) = false := by
      rw [beq_eq_false_iff_ne]
      rintro rfl
      simp at h0
    simp [Lib.atoi, b1, b2, Lib.decNat, h1]
theorem kind_num {s : ByteArray} (h : kindI s = 2) : numB s = true := by
  unfold kindI at h
  split at h
  · cases h
  · split at h
    · cases h
    · split at h
      · assumption
      · split at h <;> cases h
theorem word_num {ws : List W3} (hw : WsOk ws) {i : Nat} (h : kindW ws i = 2) : numB (textW ws i) = true := by
  have hi := kindW_lt h (by decide)
  unfold kindW at h
  unfold textW
  rw [List.getElem?_eq_getElem hi] at h ⊢
  simp only at h ⊢
  exact kind_num (by rw [(hw _ (List.getElem_mem hi)).1, h])
theorem Step.of_below {rb : Nat} {a b : World} (h : Below a.heap.size a b) : Step rb a b := grown_below h

set_option maxRecDepth 100000 in
set_option maxHeartbeats 1000000 in
theorem num_yes (rb : Nat) (a : Option Addr) (cap : Nat) (ws : List W3) (i sz : Nat) (w : World) (h : Rd w rb a cap ws i sz) (hok : WsOk ws) (hw : kindW ws i = 2) :
    Calls Tryz.prog 49 #[.pointer (some ⟨rb, 0, none⟩)] w fun e w' => e = .returned (.int .i64 (numV (textW ws i))) ∧ Rd w' rb a cap ws (i + 1) sz ∧ Step rb w w' := by
  have HS := mkHid (takeKind_yes rb a cap ws i sz 2 (by decide) w h hw)
  have hn := word_num hok hw
  have HA := mkHid (fun w => Tryz.strconv_Atoi (textW ws i) (numV (textW ws i)) (by have := num_short hn; omega) (atoi_num hn) w)
  clear h hw hn
  go_enter Tryz.func49, Tryz.ntmps49
  go_wp2_with fail
  refine HS.out.mono ?_
  rintro e w1 ⟨rfl, h1, h2⟩
  have H1 := mkHid h1
  have H2 := mkHid h2
  clear h1 h2
  go_wp2_with fail
  refine (HA.out _).mono ?_
  rintro e w2 ⟨rfl, t, rfl⟩
  have hb := Lib.bytesWorld_below w1 5 t
  have H3 := mkHid (H1.out.keep (hb.mono H1.out.lt))
  have H4 := mkHid (H2.out.trans (Step.of_below hb))
  clear hb
  generalize Lib.bytesWorld w1 5 t = w3 at *
  go_wp2
  go_ret
  exact ⟨rfl, H3.out, H4.out⟩

/-- What a part of the reader answers: the tree, in memory of its own, or a panic; where the reader stands. -/
def Post (rb : Nat) (a : Option Addr) (cap : Nat) (ws : List W3) (sz : Nat) (w : World) (r : Res) (e : Ending) (w' : World) : Prop := match r with
  | .ok t j => ∃ x : A, e = .returned x.val ∧ x.erase = t ∧ Sits w' x ∧ New w.heap.size x ∧ Rd w' rb a cap ws j sz ∧ Step rb w w'
  | .no p => Died e ∧ Rd w' rb a cap ws p sz ∧ Step rb w w'
end Go.Proofs.YtpebfdplapeejaaGreatDoor
namespace Go.Proofs.YtpebfdplapeejaaGreatDoor
open Go.RowKit

theorem Sits.node {w' : World} {xs : List A} {k m : Int} {s : ByteArray} {b c : Nat} {cs : Array Value} (hs : s.size ≤ maxLen) (hn : xs.length ≤ maxLen) (hl : SitsL w' xs)
    (hb : w'.heap[b]? = some (.cells cs 33 (0, 0))) (hcs : ∀ (i : Nat) (v : Value), (cellsL xs)[i]? = some v → cs[i]? = some v) : Sits w' (.node k s m (some ⟨b, 0, none⟩) c xs) := by
  simp only [Sits]
  exact ⟨hs, hn, .inr ⟨b, cs, rfl, hb, hcs⟩, hl⟩
theorem Sits.leaf (w : World) {k m : Int} {s : ByteArray} (a : Option Addr) (c : Nat) (hs : s.size ≤ maxLen) : Sits w (.node k s m a c []) := by
  simp only [Sits, SitsL, List.length_nil]
  exact ⟨hs, Nat.zero_le _, .inl rfl, trivial⟩
theorem New.leaf (n : Nat) (k m : Int) (s : ByteArray) (a : Option Addr) (c : Nat) : New n (.node k s m a c []) := by
  simp [New, A.foot, feet]
theorem New.node {n b c : Nat} {xs : List A} {k m : Int} {s : ByteArray} (h : NewL n xs) (hb : n ≤ b) (hno : b ∉ feet xs) : New n (.node k s m (some ⟨b, 0, none⟩) c xs) := by
  unfold New
  simp only [A.foot]
  by_cases e : xs.length = 0
  · rw [if_pos e, List.nil_append]
    exact h
  · rw [if_neg e]
    simp only [blockOf]
    refine ⟨List.nodup_cons.2 ⟨hno, h.1⟩, fun q hq => ?_⟩
    rcases List.mem_cons.1 hq with rfl | hq
    · exact hb
    · exact h.2 q hq
theorem NewL.one {n : Nat} {x : A} (h : New n x) : NewL n [x] := by
  unfold NewL
  simp only [feet, List.append_nil]
  exact h
theorem NewL.snoc {n n1 : Nat} {xs : List A} {x : A} (h : NewL n xs) (hlt : ∀ b ∈ feet xs, b < n1) (hx : New n1 x) (hn : n ≤ n1) : NewL n (xs ++ [x]) := by
  unfold NewL
  rw [feet_append]
  simp only [feet, List.append_nil]
  refine ⟨List.nodup_append.2 ⟨h.1, hx.1, fun p hp q hq e => ?_⟩, fun b hb => ?_⟩
  · have h1 := hlt p hp
    have h2 := hx.2 q hq
    omega
  · rcases List.mem_append.1 hb with hb | hb
    · exact h.2 b hb
    · exact Nat.le_trans hn (hx.2 b hb)
theorem sitsL_one {w : World} {x : A} (h : Sits w x) : SitsL w [x] := ⟨h, trivial⟩
theorem sitsL_snoc {w : World} {xs : List A} {x : A} (h : SitsL w xs) (hx : Sits w x) : SitsL w (xs ++ [x]) :=
  (sitsL_iff _ _).2 fun y hy => by
    rcases List.mem_append.1 hy with hy | hy
    · exact (sitsL_iff _ _).1 h y hy
    · rw [List.mem_singleton.1 hy]; exact hx
theorem feet_one (x : A) : feet [x] = x.foot := by simp [feet]
theorem erase1 (k m : Int) (s : ByteArray) (a : Option Addr) (c : Nat) (x : A) : (A.node k s m a c [x]).erase = .node k s m [x.erase] := by simp only [A.erase, erases]
theorem erase2 (k m : Int) (s : ByteArray) (a : Option Addr) (c : Nat) (x y : A) : (A.node k s m a c [x, y]).erase = .node k s m [x.erase, y.erase] := by simp only [A.erase, erases]
theorem erase3 (k m : Int) (s : ByteArray) (a : Option Addr) (c : Nat) (x y z : A) : (A.node k s m a c [x, y, z]).erase = .node k s m [x.erase, y.erase, z.erase] := by simp only [A.erase, erases]
theorem erase0 (k m : Int) (s : ByteArray) (a : Option Addr) (c : Nat) : (A.node k s m a c []).erase = .node k s m [] := by simp only [A.erase, erases]

theorem four_of {w : World} {p : Nat} {v0 v1 v2 v3 : Value} (h : w.heap[p]? = some (.cells #[v0, v1, v2, v3] 33 (0, 0))) :
    w.cell? ⟨p, 0, none⟩ = some v0 ∧ w.cell? ⟨p, 1, none⟩ = some v1 ∧ w.cell? ⟨p, 2, none⟩ = some v2 ∧ w.cell? ⟨p, 3, none⟩ = some v3 ∧
    w.frozen? ⟨p, 0, none⟩ = false ∧ w.frozen? ⟨p, 1, none⟩ = false ∧ w.frozen? ⟨p, 2, none⟩ = false ∧ w.frozen? ⟨p, 3, none⟩ = false :=
  ⟨by rw [Lib.cell_of_heap h]; rfl, by rw [Lib.cell_of_heap h]; rfl, by rw [Lib.cell_of_heap h]; rfl, by rw [Lib.cell_of_heap h]; rfl, Lib.frozen_of_heap h 0, Lib.frozen_of_heap h 1, Lib.frozen_of_heap h 2, Lib.frozen_of_heap h 3⟩
@[reducible] def put4 (w : World) (p : Nat) (v0 v1 v2 v3 : Value) : World := (((w.setCell ⟨p, 0, none⟩ v0).setCell ⟨p, 1, none⟩ v1).setCell ⟨p, 2, none⟩ v2).setCell ⟨p, 3, none⟩ v3
theorem put4_at {w : World} {p : Nat} {u0 u1 u2 u3 : Value} (h : w.heap[p]? = some (.cells #[u0, u1, u2, u3] 33 (0, 0))) (v0 v1 v2 v3 : Value) : (put4 w p v0 v1 v2 v3).heap[p]? = some (.cells #[v0, v1, v2, v3] 33 (0, 0)) := by
  unfold put4
  rw [heap_setCell_same _ p 3 _ 33 _ (heap_setCell_same _ p 2 _ 33 _ (heap_setCell_same _ p 1 _ 33 _ (heap_setCell_same _ p 0 _ 33 _ h)))]
  rfl
theorem put4_other {w : World} {p k : Nat} (v0 v1 v2 v3 : Value) (h : k ≠ p) : (put4 w p v0 v1 v2 v3).heap[k]? = w.heap[k]? := by
  unfold put4
  rw [Below.heap_setCell _ _ _ _ h, Below.heap_setCell _ _ _ _ h, Below.heap_setCell _ _ _ _ h, Below.heap_setCell _ _ _ _ h]
theorem put4_size (w : World) (p : Nat) (v0 v1 v2 v3 : Value) : (put4 w p v0 v1 v2 v3).heap.size = w.heap.size := by
  simp [put4, World.setCell]
theorem put4_step {rb : Nat} {a b : World} (h : Step rb a b) {p : Nat} (hp : a.heap.size ≤ p) (v0 v1 v2 v3 : Value) : Step rb a (put4 b p v0 v1 v2 v3) :=
  (((h.setCell (p := ⟨p, 0, none⟩) (.inl hp) _).setCell (p := ⟨p, 1, none⟩) (.inl hp) _).setCell (p := ⟨p, 2, none⟩) (.inl hp) _).setCell (p := ⟨p, 3, none⟩) (.inl hp) _
theorem put4_rd {w : World} {rb : Nat} {a : Option Addr} {cap : Nat} {ws : List W3} {i sz : Nat} (h : Rd w rb a cap ws i sz) {p : Nat} (hp : rb < p) (v0 v1 v2 v3 : Value) : Rd (put4 w p v0 v1 v2 v3) rb a cap ws i sz :=
  (((h.setCell (p := ⟨p, 0, none⟩) hp _).setCell (p := ⟨p, 1, none⟩) hp _).setCell (p := ⟨p, 2, none⟩) hp _).setCell (p := ⟨p, 3, none⟩) hp _

theorem put4_cells {w : World} {p : Nat} {u0 u1 u2 u3 : Value} (h : w.heap[p]? = some (.cells #[u0, u1, u2, u3] 33 (0, 0))) (v0 v1 v2 v3 : Value) (o : Obj) :
    ((put4 w p v0 v1 v2 v3).alloc o).cell? ⟨p, 0, none⟩ = some v0 ∧ ((put4 w p v0 v1 v2 v3).alloc o).cell? ⟨p, 1, none⟩ = some v1 ∧ ((put4 w p v0 v1 v2 v3).alloc o).cell? ⟨p, 2, none⟩ = some v2 ∧ ((put4 w p v0 v1 v2 v3).alloc o).cell? ⟨p, 3, none⟩ = some v3 := by
  have h1 := put4_at h v0 v1 v2 v3
  have h2 := (Lib.alloc_old (put4 w p v0 v1 v2 v3) o p (Array.getElem?_eq_some_iff.1 h1).1).trans h1
  obtain ⟨a, b, c, d, _⟩ := four_of h2
  exact ⟨a, b, c, d⟩
theorem put4_cells0 {w : World} {p : Nat} {u0 u1 u2 u3 : Value} (h : w.heap[p]? = some (.cells #[u0, u1, u2, u3] 33 (0, 0))) (v0 v1 v2 v3 : Value) :
    (put4 w p v0 v1 v2 v3).cell? ⟨p, 0, none⟩ = some v0 ∧ (put4 w p v0 v1 v2 v3).cell? ⟨p, 1, none⟩ = some v1 ∧ (put4 w p v0 v1 v2 v3).cell? ⟨p, 2, none⟩ = some v2 ∧ (put4 w p v0 v1 v2 v3).cell? ⟨p, 3, none⟩ = some v3 := by
  obtain ⟨a, b, c, d, _⟩ := four_of (put4_at h v0 v1 v2 v3)
  exact ⟨a, b, c, d⟩
/-- The end of a part that answers a tree over a list that it has just laid. -/
theorem end_list {rb : Nat} {a : Option Addr} {cap : Nat} {ws : List W3} {sz : Nat} {w w2 : World} {n j : Nat} {u0 u1 u2 u3 : Value} (k m : Int) (s : ByteArray) (xs : List A) (cs : Array Value) (c : Nat)
    (hP : w2.heap[w.heap.size]? = some (.cells #[u0, u1, u2, u3] 33 (0, 0))) (hr : Rd w2 rb a cap ws j sz) (hrb : rb < w.heap.size) (hst : Step rb w w2) (hx : SitsL w2 xs) (hn : NewL n xs) (hlt : w.heap.size < n)
    (hlen : xs.length ≤ maxLen) (hcs : (cellsL xs).toArray = cs) (hs : s.size ≤ maxLen) :
    Post rb a cap ws sz w (.ok (.node k s m (erases xs)) j) (.returned (A.node k s m (some ⟨w2.heap.size, 0, none⟩) c xs).val)
      ((put4 w2 w.heap.size (.int .i64 k) (.string s) (.int .i64 m) (.slice (some ⟨w2.heap.size, 0, none⟩) xs.length c)).alloc (.cells cs 33)) := by
  have z2 : w.heap.size < w2.heap.size := (Array.getElem?_eq_some_iff.1 hP).1
  have hl := SitsL.lt hx
  generalize hW : put4 w2 w.heap.size (.int .i64 k) (.string s) (.int .i64 m) (.slice (some ⟨w2.heap.size, 0, none⟩) xs.length c) = W
  have hz : W.heap.size = w2.heap.size := by rw [← hW]; exact put4_size _ _ _ _ _ _
  have hno : ∀ q, q ≠ w.heap.size → W.heap[q]? = w2.heap[q]? := fun q hq => by rw [← hW]; exact put4_other _ _ _ _ hq
  have hR : Rd W rb a cap ws j sz := by rw [← hW]; exact put4_rd hr hrb _ _ _ _
  have hS : Step rb w W := by rw [← hW]; exact put4_step hst (Nat.le_refl _) _ _ _ _
  refine ⟨_, rfl, by simp only [A.erase], ?_, ?_, hR.alloc _, hS.alloc _⟩
  · refine Sits.node hs hlen (hx.stay fun q hq => ?_) (cs := cs) ?_ (fun i v hv => ?_)
    · rw [Lib.alloc_old _ _ _ (by rw [hz]; exact hl q hq)]
      exact hno q (by have := hn.2 q hq; omega)
    · rw [← hz]; exact heap_alloc_new W _
    · subst hcs
      simpa using hv
  · refine New.node (hn.mono (by omega)) (by omega) (fun q => ?_)
    have := hl _ q
    omega
/-- The end of a part that answers a tree without a list. -/
theorem end_leaf {rb : Nat} {a : Option Addr} {cap : Nat} {ws : List W3} {sz : Nat} {w w2 : World} {j : Nat} (k m : Int) (s : ByteArray) (hr : Rd w2 rb a cap ws j sz) (hrb : rb < w.heap.size) (hst : Step rb w w2) (hs : s.size ≤ maxLen) :
    Post rb a cap ws sz w (.ok (.node k s m []) j) (.returned (A.node k s m none 0 []).val) (put4 w2 w.heap.size (.int .i64 k) (.string s) (.int .i64 m) (.slice none 0 0)) := by
  generalize hW : put4 w2 w.heap.size (.int .i64 k) (.string s) (.int .i64 m) (.slice none 0 0) = W
  have hR : Rd W rb a cap ws j sz := by rw [← hW]; exact put4_rd hr hrb _ _ _ _
  have hS : Step rb w W := by rw [← hW]; exact put4_step hst (Nat.le_refl _) _ _ _ _
  exact ⟨_, rfl, by simp only [A.erase, erases], Sits.leaf _ _ _ hs, New.leaf _ _ _ _ _ _, hR, hS⟩
/-- The end of a part that hands on a tree. -/
theorem end_tree {rb : Nat} {a : Option Addr} {cap : Nat} {ws : List W3} {sz : Nat} {w w2 : World} {n j : Nat} {t : T} (x : A) (v0 v1 v2 v3 : Value) (hr : Rd w2 rb a cap ws j sz) (hrb : rb < w.heap.size) (hst : Step rb w w2) (ht : x.erase = t) (hx : Sits w2 x) (hn : New n x) (hlt : w.heap.size < n) :
    Post rb a cap ws sz w (.ok t j) (.returned x.val) (put4 w2 w.heap.size v0 v1 v2 v3) := by
  generalize hW : put4 w2 w.heap.size v0 v1 v2 v3 = W
  have hno : ∀ q, q ≠ w.heap.size → W.heap[q]? = w2.heap[q]? := fun q hq => by rw [← hW]; exact put4_other _ _ _ _ hq
  have hR : Rd W rb a cap ws j sz := by rw [← hW]; exact put4_rd hr hrb _ _ _ _
  have hS : Step rb w W := by rw [← hW]; exact put4_step hst (Nat.le_refl _) _ _ _ _
  exact ⟨x, rfl, ht, Sits.stay x (fun q hq => hno q (by have := hn.2 q hq; omega)) hx, hn.mono (by omega), hR, hS⟩
end Go.Proofs.YtpebfdplapeejaaGreatDoor
