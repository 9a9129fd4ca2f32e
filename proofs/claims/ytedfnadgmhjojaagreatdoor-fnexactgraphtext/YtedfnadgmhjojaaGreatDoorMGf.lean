/-
  THE TEXT OF AN EDGE, as data. CONTRACTS of edgeWord and l04Word.
  CONTRACTS of strings.TrimSuffix at the end of a statement's line.
  CONTRACT of stmtText: a statement alone, without the end of its line.
  CONTRACTS of edgeText and l04Does.
  CONTRACT of l04Does.
  THE TEXT OF A GRAPH, as data; rows of bytes of one's own.
-/
import Derived.Test.YtedfnadgmhjojaaGreatDoorMGok
import Derived.Test.YtedfnadgmhjojaaGreatDoorMPbl
import Derived.Test.YtedfnadgmhjojaaGreatDoorMPrn
import Derived.Test.YtedfnadgmhjojaaGreatDoorMStxt
import Derived.Test.YtedfnadgmhjojaaGreatDoorMDd
import Derived.Deep.RegionLaw
import Derived.Shelf.Strings.BuilderK
import Derived.Lib.BufferRead
namespace Go.Proofs.YtedfnadgmhjojaaGreatDoor
open Go.RowKit
open Pl
def wordT (k : Int) (y : Bool) : ByteArray :=
 if k = 1 then ⟨#[115, 101, 116]⟩ else if k = 2 then ⟨#[112, 117, 116]⟩ else if k = 3 then ⟨#[114, 101, 97, 100]⟩ else if k = 5 then ⟨#[99, 104, 101, 99, 107]⟩ else
 if k = 6 then ⟨#[115, 107, 105, 112]⟩ else if k = 7 then ⟨#[115, 116, 111, 112]⟩ else if y then ⟨#[121, 101, 115]⟩ else ⟨#[110, 111]⟩
def loneT (t : T) : T := .node 40 nil_ 0 [.node 30 nil_ 0 [t]]
/-- A statement's text without its end. -/
def bareS (t : T) : ByteArray := (lnS t ⟨#[]⟩).extract 0 ((lnS t ⟨#[]⟩).size - 2)
def stT (t : T) (want : Int) : ByteArray := if kindT t = want ∧ okP (loneT t) = true then bareS t else ⟨#[]⟩
def cdT (t : T) : ByteArray := if (betw (kindT t) 11 16 && fitsS t) = true then textT t else ⟨#[]⟩
def doesT (k : Int) (t : T) : ByteArray := if k = 1 then stT t 21 else if k = 2 then stT t 22 else if k = 3 then stT t 23 else if k = 4 ∨ k = 5 then cdT t else ⟨#[]⟩
theorem eight_of {w : World} {b ty : Nat} {v0 v1 v2 v3 v4 v5 v6 v7 : Value} (h : w.heap[b]? = some (.cells #[v0, v1, v2, v3, v4, v5, v6, v7] ty (0, 0))) :
    w.cell? ⟨b, 0, none⟩ = some v0 ∧ w.cell? ⟨b, 1, none⟩ = some v1 ∧ w.cell? ⟨b, 2, none⟩ = some v2 ∧ w.cell? ⟨b, 3, none⟩ = some v3 ∧ w.cell? ⟨b, 4, none⟩ = some v4 ∧ w.cell? ⟨b, 5, none⟩ = some v5 ∧ w.cell? ⟨b, 6, none⟩ = some v6 ∧ w.cell? ⟨b, 7, none⟩ = some v7 :=
 ⟨by rw [Lib.cell_of_heap h]; rfl, by rw [Lib.cell_of_heap h]; rfl, by rw [Lib.cell_of_heap h]; rfl, by rw [Lib.cell_of_heap h]; rfl, by rw [Lib.cell_of_heap h]; rfl, by rw [Lib.cell_of_heap h]; rfl, by rw [Lib.cell_of_heap h]; rfl, by rw [Lib.cell_of_heap h]; rfl⟩
set_option maxRecDepth 100000 in
set_option maxHeartbeats 6400000 in
theorem iWord_any (f t k : Int) (y : Bool) (nk nm : Int) (ns : ByteArray) (a : Option Addr) (n c : Nat) (w : World) :
    Calls Tryz.prog 18 #[.agg #[.int .i64 f, .int .i64 t, .int .i64 k, .bool y, .int .i64 nk, .string ns, .int .i64 nm, .slice a n c]] w fun e w' => e = .returned (.string (wordT k y)) ∧ Below w.heap.size w w' := by
 have hb := (Below.refl w.heap.size w).alloc (Nat.le_refl _) (.cells #[.int .i64 f, .int .i64 t, .int .i64 k, .bool y, .int .i64 nk, .string ns, .int .i64 nm, .slice a n c] 40)
 have HB := mkHid hb
 have h8 := heap_alloc_new w (.cells #[.int .i64 f, .int .i64 t, .int .i64 k, .bool y, .int .i64 nk, .string ns, .int .i64 nm, .slice a n c] 40)
 obtain ⟨c0, c1, c2, c3, c4, c5, c6, c7⟩ := eight_of h8
 clear hb h8
 unfold wordT
 by_cases k1 : k = 1
 ·subst k1
  go_enter Tryz.func18, Tryz.ntmps18
  go_wp2
  go_ret
  exact ⟨rfl, HB.out⟩
 ·by_cases k2 : k = 2
  ·subst k2
   go_enter Tryz.func18, Tryz.ntmps18
   go_wp2
   go_ret
   exact ⟨rfl, HB.out⟩
  ·by_cases k3 : k = 3
   ·subst k3
    go_enter Tryz.func18, Tryz.ntmps18
    go_wp2
    go_ret
    exact ⟨rfl, HB.out⟩
   ·by_cases k5 : k = 5
    ·subst k5
     go_enter Tryz.func18, Tryz.ntmps18
     go_wp2
     go_ret
     exact ⟨rfl, HB.out⟩
    ·by_cases k6 : k = 6
     ·subst k6
      go_enter Tryz.func18, Tryz.ntmps18
      go_wp2
      go_ret
      exact ⟨rfl, HB.out⟩
     ·by_cases k7 : k = 7
      ·subst k7
       go_enter Tryz.func18, Tryz.ntmps18
       go_wp2
       go_ret
       exact ⟨rfl, HB.out⟩
      ·have q1 : (k == 1) = false := by simpa using k1
       have q2 : (k == 2) = false := by simpa using k2
       have q3 : (k == 3) = false := by simpa using k3
       have q5 : (k == 5) = false := by simpa using k5
       have q6 : (k == 6) = false := by simpa using k6
       have q7 : (k == 7) = false := by simpa using k7
       rw [if_neg k1, if_neg k2, if_neg k3, if_neg k5, if_neg k6, if_neg k7]
       cases y
       ·go_enter Tryz.func18, Tryz.ntmps18
        go_wp2
        go_ret
        exact ⟨rfl, HB.out⟩
       ·go_enter Tryz.func18, Tryz.ntmps18
        go_wp2
        go_ret
        exact ⟨rfl, HB.out⟩
set_option maxRecDepth 100000 in
set_option maxHeartbeats 6400000 in
theorem sWord_any (f t k : Int) (y : Bool) (nk nm : Int) (ns : ByteArray) (a : Option Addr) (n c : Nat) (w : World) (h1 : 1 ≤ k) (h7 : k ≤ 7) :
    Calls Tryz.prog 12 #[.agg #[.int .i64 f, .int .i64 t, .int .i64 k, .bool y, .int .i64 nk, .string ns, .int .i64 nm, .slice a n c]] w fun e w' => e = .returned (.string (wordT k y)) ∧ Below w.heap.size w w' := by
 have hb := (Below.refl w.heap.size w).alloc (Nat.le_refl _) (.cells #[.int .i64 f, .int .i64 t, .int .i64 k, .bool y, .int .i64 nk, .string ns, .int .i64 nm, .slice a n c] 40)
 have HB := mkHid hb
 have h8 := heap_alloc_new w (.cells #[.int .i64 f, .int .i64 t, .int .i64 k, .bool y, .int .i64 nk, .string ns, .int .i64 nm, .slice a n c] 40)
 obtain ⟨c0, c1, c2, c3, c4, c5, c6, c7⟩ := eight_of h8
 clear hb h8
 rcases (by omega : k = 1 ∨ k = 2 ∨ k = 3 ∨ k = 4 ∨ k = 5 ∨ k = 6 ∨ k = 7) with rfl | rfl | rfl | rfl | rfl | rfl | rfl
 case inr.inr.inr.inl =>
  cases y
  ·go_enter Tryz.func12, Tryz.ntmps12
   go_wp2
   go_ret
   exact ⟨rfl, HB.out.alloc HB.out.size _⟩
  ·go_enter Tryz.func12, Tryz.ntmps12
   go_wp2
   go_ret
   exact ⟨rfl, HB.out⟩
 all_goals
  go_enter Tryz.func12, Tryz.ntmps12
  go_wp2
  go_ret
  exact ⟨rfl, HB.out.alloc HB.out.size _⟩
end Go.Proofs.YtedfnadgmhjojaaGreatDoor
namespace Go.Proofs.YtedfnadgmhjojaaGreatDoor
open Go.RowKit
open Pl
theorem ext_left (A B : ByteArray) : (A ++ B).extract 0 A.size = A := ByteArray.extract_append_eq_left rfl
theorem ext_right (A B : ByteArray) {n : Nat} (hn : n = A.size + B.size) : (A ++ B).extract A.size n = B := ByteArray.extract_append_eq_right rfl hn
set_option maxHeartbeats 3200000 in
theorem trim_nil (w : World) : Calls Tryz.prog 48 #[.string ⟨#[]⟩, .string ⟨#[59, 10]⟩] w fun e w' => e = .returned (.string ⟨#[]⟩) ∧ w = w' := by
 go_enter Tryz.func48, Tryz.ntmps48
 go_wp2
 go_ret
 exact ⟨rfl, rfl⟩
set_option maxHeartbeats 3200000 in
theorem trim_yes (B : ByteArray) (w : World) (hB : B.size ≤ 1000000) : Calls Tryz.prog 48 #[.string (B ++ ⟨#[59, 10]⟩), .string ⟨#[59, 10]⟩] w fun e w' => e = .returned (.string B) ∧ w = w' := by
 have hz : (B ++ ⟨#[59, 10]⟩).size = B.size + 2 := by rw [ByteArray.size_append]; rfl
 have hx := ext_right B ⟨#[59, 10]⟩ (n := B.size + 2) rfl
 have hy := ext_left B ⟨#[59, 10]⟩
 have hl : (ByteArray.mk #[59, 10]).toList = [59, 10] := by rw [Lib.toList_data]
 have h1 : (2 : Int) ≤ (B.size : Int) + 2 := by omega
 go_enter Tryz.func48, Tryz.ntmps48
 go_wp2
 go_ret
 exact ⟨rfl, rfl⟩
end Go.Proofs.YtedfnadgmhjojaaGreatDoor
namespace Go.Proofs.YtedfnadgmhjojaaGreatDoor
open Go.RowKit
open Pl
theorem tab_below {w w' : World} {name : String} {k : IntKind} {zs : List Int} (h : Lib.TabIs Tryz.prog w name k zs) (hb : Below w.heap.size w w') : Lib.TabIs Tryz.prog w' name k zs := by
 unfold Lib.TabIs World.var? at h ⊢
 cases hg : Tryz.prog.globalNamed name with
 | none => rw [hg] at h; exact h
 | some g =>
  rw [hg] at h
  simp only [Option.bind_some] at h ⊢
  have hlt : g < w.heap.size := by
   rcases Nat.lt_or_ge g w.heap.size with h' | h'
   ·exact h'
   ·rw [Array.getElem?_eq_none h'] at h; cases h
  rw [hb.block g hlt]
  exact h
theorem below_one (w : World) (o : Obj) : Below w.heap.size w (w.alloc o) := (Below.refl _ _).alloc (Nat.le_refl _) o
theorem lone_text (t : T) : textP (loneT t) = lnS t ⟨#[]⟩ := by
 have h := text_prog [] [t]
 have e : loneT t = .node 40 nil_ 0 ([] ++ [.node 30 nil_ 0 [t]]) := rfl
 apply ByteArray.ext
 apply Array.toList_inj.1
 rw [e, h]
 simp only [lnSs, catS, padB_zero]
 rw [toL_app]
 simp
theorem lone_good {t : T} (h : okP (loneT t) = true) : GoodS t ∧ (wordsI (lnS t ⟨#[]⟩)).2.1 = 0 ∧ cnt t ≤ 498 ∧ dep t ≤ 24 := by
 unfold okP at h
 rw [lone_text] at h
 simp only [Bool.and_eq_true, decide_eq_true_eq] at h
 obtain ⟨⟨⟨_, hf⟩, _⟩, hw⟩ := h
 obtain ⟨h1, h2, h3⟩ := fits_parts hf
 obtain ⟨_, q2⟩ := kid_of (j := 0) (t := .node 30 nil_ 0 [t]) h3 rfl
 obtain ⟨r1, r2⟩ := kid_of (j := 0) (t := t) q2 rfl
 have r3 : kidI 30 1 0 (kindT t) = betw (kindT t) 21 29 := rfl
 simp only [List.length_singleton] at r1
 rw [r3] at r1
 refine ⟨⟨r2, betw_iff r1⟩, hw, ?_, ?_⟩
 ·simp only [loneT, cnt, cnts] at h1; omega
 ·simp only [loneT, dep, deps] at h2; omega
theorem line_ends {t : T} (hg : GoodS t) (hk : kindT t = 21 ∨ kindT t = 22 ∨ kindT t = 23) : ∃ B, lnS t ⟨#[]⟩ = B ++ ⟨#[59, 10]⟩ := by
 obtain ⟨k, s, m, kk⟩ := t
 have hk' : k = 21 ∨ k = 22 ∨ k = 23 := hk
 cases stmt_shape hg with
 | set h x hx _ _ _ => subst h hx; exact ⟨⟨#[]⟩ ++ s ++ ⟨#[32, 61, 32]⟩ ++ exS x, by rw [lnS_eq, exSs1]; rfl⟩
 | put h x y hx _ _ _ _ => subst h hx; exact ⟨⟨#[]⟩ ++ s ++ ⟨#[91]⟩ ++ exS x ++ ⟨#[93, 32, 61, 32]⟩ ++ exS y, by rw [lnS_eq, exSs2]; rfl⟩
 | read h hx _ _ => subst h hx; exact ⟨⟨#[]⟩ ++ ⟨#[114, 101, 97, 100, 32]⟩ ++ s, by rw [lnS_eq]; rfl⟩
 | _ => omega
theorem lone_cases (t : T) (want : Int) (hw : want = 21 ∨ want = 22 ∨ want = 23) (hk : kindT t = want) : (okP (loneT t) = false ∧ printP (loneT t) = ⟨#[]⟩ ∧ stT t want = ⟨#[]⟩) ∨
 (okP (loneT t) = true ∧ ∃ B, printP (loneT t) = B ++ ⟨#[59, 10]⟩ ∧ lnS t ⟨#[]⟩ = B ++ ⟨#[59, 10]⟩ ∧ stT t want = B ∧ B.size ≤ 4000 ∧ GoodS t ∧ cnt t ≤ 498 ∧ dep t ≤ 24) := by
 cases ho : okP (loneT t) with
 | false => exact .inl ⟨rfl, by unfold printP; rw [ho]; rfl, by unfold stT; rw [ho]; exact if_neg (fun h => by cases h.2)⟩
 | true =>
  obtain ⟨hg, hwd, hc, hd⟩ := lone_good ho
  obtain ⟨B, hB⟩ := line_ends hg (by rw [hk]; exact hw)
  have hz : (lnS t ⟨#[]⟩).size = B.size + 2 := by rw [hB, ByteArray.size_append]; rfl
  have h4 : (lnS t ⟨#[]⟩).size ≤ 4000 := by
   rcases Nat.lt_or_ge 4000 (lnS t ⟨#[]⟩).size with h | h
   ·exact absurd hwd (words_long h)
   ·exact h
  refine .inr ⟨rfl, B, by unfold printP; rw [ho, lone_text]; exact hB, hB, ?_, by omega, hg, hc, hd⟩
  unfold stT
  rw [if_pos ⟨hk, ho⟩]
  unfold bareS
  rw [hz, hB]
  exact ext_left B _
/-- A node in a list of its own. -/
theorem kids_new {W : World} {b : Nat} {k m : Int} {s : ByteArray} {kk : List T} {a : Option Addr} {c : Nat} (hb : W.heap[b]? = some (.cells #[.int .i64 k, .string s, .int .i64 m, .slice a kk.length c] 38 (0, 0))) (hs : s.size ≤ maxLen) (hn : kk.length ≤ maxLen) (hk : Kids W 0 a kk) : Kids W 0 (some ⟨b, 0, none⟩) [.node k s m kk] := by
 have e : ∀ i, W.cell? ⟨b, i, none⟩ = (#[.int .i64 k, .string s, .int .i64 m, .slice a kk.length c] : Array Value)[i]? := fun i => Lib.cell_of_heap hb i
 refine .inr ⟨b, 0, rfl, Nat.zero_le _, ?_⟩
 simp only [LiesL, Lies, and_true]
 exact ⟨(e 0).trans rfl, (e 1).trans rfl, (e 2).trans rfl, hs, hn, a, c, (e 3).trans rfl, hk⟩
set_option maxRecDepth 100000 in
set_option maxHeartbeats 6400000 in
theorem iStmt_any (want : Int) (hw : want = 21 ∨ want = 22 ∨ want = 23) (k : Int) (s : ByteArray) (m : Int) (kk : List T) (a : Option Addr) (c : Nat) (w : World) (hs : s.size ≤ maxLen) (hn : kk.length ≤ maxLen) (hk : Kids w 0 a kk) (htab : Lib.TabIs Tryz.prog w "internal/strconv.uint64pow10" .u64 Lib.pow10Tab) :
    Calls Tryz.prog 35 #[.agg #[.int .i64 k, .string s, .int .i64 m, .slice a kk.length c], .int .i64 want] w fun e w' => e = .returned (.string (stT (.node k s m kk) want)) ∧ Below w.heap.size w w' := by
 have hb0 := below_one w (.cells #[.int .i64 k, .string s, .int .i64 m, .slice a kk.length c] 38)
 have h0 := heap_alloc_new w (.cells #[.int .i64 k, .string s, .int .i64 m, .slice a kk.length c] 38)
 have hz0 : (w.alloc (.cells #[.int .i64 k, .string s, .int .i64 m, .slice a kk.length c] 38)).heap.size = w.heap.size + 1 := by simp
 obtain ⟨w0, hw0⟩ : ∃ q, w.alloc (.cells #[.int .i64 k, .string s, .int .i64 m, .slice a kk.length c] 38) = q := ⟨_, rfl⟩
 rw [hw0] at hb0 h0 hz0
 obtain ⟨c0, c1, c2, c3, _, _, _, _⟩ := four_of h0
 have HB0 := mkHid hb0
 by_cases hkw : k = want
 ·subst hkw
  have h1 := heap_alloc_new w0 (.cells #[.int .i64 k, .string s, .int .i64 m, .slice a kk.length c] 38)
  have hb1 := below_step hb0 (below_one w0 (.cells #[.int .i64 k, .string s, .int .i64 m, .slice a kk.length c] 38))
  have hz1 : (w0.alloc (.cells #[.int .i64 k, .string s, .int .i64 m, .slice a kk.length c] 38)).heap.size = w.heap.size + 2 := by simp [hz0]
  obtain ⟨w1, hw1⟩ : ∃ q, w0.alloc (.cells #[.int .i64 k, .string s, .int .i64 m, .slice a kk.length c] 38) = q := ⟨_, rfl⟩
  rw [hw1] at h1 hb1 hz1
  have h2 := heap_alloc_new w1 (.cells #[.int .i64 30, .string ⟨#[]⟩, .int .i64 0, .slice (some ⟨w0.heap.size, 0, none⟩) 1 1] 38)
  have hb2 := below_step hb1 (below_one w1 (.cells #[.int .i64 30, .string ⟨#[]⟩, .int .i64 0, .slice (some ⟨w0.heap.size, 0, none⟩) 1 1] 38))
  have h12 := (Lib.alloc_old w1 (.cells #[.int .i64 30, .string ⟨#[]⟩, .int .i64 0, .slice (some ⟨w0.heap.size, 0, none⟩) 1 1] 38) w0.heap.size (by omega)).trans h1
  have hz2 : (w1.alloc (.cells #[.int .i64 30, .string ⟨#[]⟩, .int .i64 0, .slice (some ⟨w0.heap.size, 0, none⟩) 1 1] 38)).heap.size = w.heap.size + 3 := by simp [hz1]
  obtain ⟨w2, hw2⟩ : ∃ q, w1.alloc (.cells #[.int .i64 30, .string ⟨#[]⟩, .int .i64 0, .slice (some ⟨w0.heap.size, 0, none⟩) 1 1] 38) = q := ⟨_, rfl⟩
  rw [hw2] at h2 hb2 h12 hz2
  have hb3 := below_step hb2 (below_one w2 (.cells #[.int .i64 40, .string ⟨#[]⟩, .int .i64 0, .slice (some ⟨w1.heap.size, 0, none⟩) 1 1] 38))
  have h13 := (Lib.alloc_old w2 (.cells #[.int .i64 40, .string ⟨#[]⟩, .int .i64 0, .slice (some ⟨w1.heap.size, 0, none⟩) 1 1] 38) w0.heap.size (by omega)).trans h12
  have h23 := (Lib.alloc_old w2 (.cells #[.int .i64 40, .string ⟨#[]⟩, .int .i64 0, .slice (some ⟨w1.heap.size, 0, none⟩) 1 1] 38) w1.heap.size (by omega)).trans h2
  have h33 := heap_alloc_new w2 (.cells #[.int .i64 40, .string ⟨#[]⟩, .int .i64 0, .slice (some ⟨w1.heap.size, 0, none⟩) 1 1] 38)
  obtain ⟨w3, hw3⟩ : ∃ q, w2.alloc (.cells #[.int .i64 40, .string ⟨#[]⟩, .int .i64 0, .slice (some ⟨w1.heap.size, 0, none⟩) 1 1] 38) = q := ⟨_, rfl⟩
  rw [hw3] at h13 h23 hb3 h33
  obtain ⟨d0, d1, d2, d3, _, _, _, _⟩ := four_of h33
  have HLC := mkHid (lone_cases (.node k s m kk) k hw rfl)
  have Kn := kids_new h13 hs hn (hk.below hb3)
  have HKB := mkHid (kids_new (W := w3) (b := w1.heap.size) (k := 30) (s := nil_) (m := 0) (kk := [.node k s m kk]) (a := some ⟨w0.heap.size, 0, none⟩) (c := 1) h23 (by decide) (by unfold maxLen; simp) Kn)
  obtain ⟨R, hR⟩ : ∃ R, printP (loneT (.node k s m kk)) = R := ⟨_, rfl⟩
  have HPR : Hid (Calls Tryz.prog 49 #[.agg #[.int .i64 40, .string ⟨#[]⟩, .int .i64 0, .slice (some ⟨w1.heap.size, 0, none⟩) 1 1]] w3 fun e w' => e = .returned (.string R) ∧ Below w3.heap.size w3 w') := mkHid (by
   rw [← hR]
   exact iPrint_any 40 nil_ 0 [.node 30 nil_ 0 [.node k s m kk]] (some ⟨w1.heap.size, 0, none⟩) 1 w3 (by decide) (by unfold maxLen; simp) (Nat.le_refl _) (by decide) HKB.out (tab_below htab hb3))
  rw [hR] at HLC
  have HB3 := mkHid hb3
  clear HKB hR Kn h13 h23 h12 h2 h1 hb0 hb1 hb2 hb3 hz0 hz1 hz2 hk hs hn htab
  go_enter Tryz.func35, Tryz.ntmps35
  go_wp2_with fail
  first | rw [hw2] | skip
  first | rw [hw3] | skip
  refine HPR.out.mono ?_
  rintro e w4 ⟨rfl, hb4⟩
  have HB4 := mkHid (below_step HB3.out hb4)
  clear hb4 HB3 HPR
  rcases HLC.out with ⟨_, hp, hst⟩ | ⟨_, B, hp, _, hst, hB, _⟩
  ·have HST := mkHid hst
   subst hp
   clear hst HLC
   go_wp2_with fail
   refine (trim_nil _).mono ?_
   rintro e _ ⟨rfl, rfl⟩
   go_wp2
   go_ret
   exact ⟨by rw [HST.out]; rfl, HB4.out⟩
  ·have HST := mkHid hst
   subst hp
   clear hst HLC
   go_wp2_with fail
   refine (trim_yes B _ (by omega)).mono ?_
   rintro e _ ⟨rfl, rfl⟩
   go_wp2
   go_ret
   exact ⟨by rw [HST.out]; rfl, HB4.out⟩
 ·have hne : (k == want) = false := by simpa using hkw
  have hst : stT (.node k s m kk) want = ⟨#[]⟩ := if_neg (fun h => hkw h.1)
  rw [hst]
  clear hst h0 hz0
  go_enter Tryz.func35, Tryz.ntmps35
  go_wp2
  go_ret
  exact ⟨rfl, HB0.out⟩
end Go.Proofs.YtedfnadgmhjojaaGreatDoor
namespace Go.Proofs.YtedfnadgmhjojaaGreatDoor
open Go.RowKit
open Pl
theorem eightF {w : World} {b ty : Nat} {v0 v1 v2 v3 v4 v5 v6 v7 : Value} (h : w.heap[b]? = some (.cells #[v0, v1, v2, v3, v4, v5, v6, v7] ty (0, 0))) {w' : World} (hb : Below w.heap.size w w') :
    w'.heap[b]? = some (.cells #[v0, v1, v2, v3, v4, v5, v6, v7] ty (0, 0)) := (hb.block b (Array.getElem?_eq_some_iff.1 h).1).trans h
set_option maxRecDepth 100000 in
set_option maxHeartbeats 6400000 in
theorem iDoes_any (f t k : Int) (y : Bool) (nk nm : Int) (ns : ByteArray) (kk : List T) (a : Option Addr) (c : Nat) (w : World) (hs : ns.size ≤ maxLen) (hn : kk.length ≤ maxLen) (hk : Kids w 0 a kk) (htab : Lib.TabIs Tryz.prog w "internal/strconv.uint64pow10" .u64 Lib.pow10Tab) :
    Calls Tryz.prog 19 #[.agg #[.int .i64 f, .int .i64 t, .int .i64 k, .bool y, .int .i64 nk, .string ns, .int .i64 nm, .slice a kk.length c]] w fun e w' => e = .returned (.string (doesT k (.node nk ns nm kk))) ∧ Below w.heap.size w w' := by
 have hb0 := below_one w (.cells #[.int .i64 f, .int .i64 t, .int .i64 k, .bool y, .int .i64 nk, .string ns, .int .i64 nm, .slice a kk.length c] 40)
 have h0 := heap_alloc_new w (.cells #[.int .i64 f, .int .i64 t, .int .i64 k, .bool y, .int .i64 nk, .string ns, .int .i64 nm, .slice a kk.length c] 40)
 obtain ⟨w0, hw0⟩ : ∃ q, w.alloc (.cells #[.int .i64 f, .int .i64 t, .int .i64 k, .bool y, .int .i64 nk, .string ns, .int .i64 nm, .slice a kk.length c] 40) = q := ⟨_, rfl⟩
 rw [hw0] at hb0 h0
 obtain ⟨c0, c1, c2, c3, c4, c5, c6, c7⟩ := eight_of h0
 have HB0 := mkHid hb0
 have H8 := mkHid h0
 have HST := mkHid (fun (want : Int) (hw : want = 21 ∨ want = 22 ∨ want = 23) => iStmt_any want hw nk ns nm kk a c w0 hs hn (hk.below hb0) (tab_below htab hb0))
 have HCD := mkHid (iCond_ok nk ns nm kk a c w0 hs hn (hk.below hb0))
 have HTX := mkHid (fun W (hW : Below w0.heap.size w0 W) => iText_ok nk ns nm kk a c W hs hn ((hk.below hb0).below hW) (tab_below (tab_below htab hb0) hW))
 clear hb0 h0 hk hs hn htab
 by_cases k1 : k = 1
 ·subst k1
  have e : doesT 1 (.node nk ns nm kk) = stT (.node nk ns nm kk) 21 := rfl
  rw [e]
  clear e
  go_enter Tryz.func19, Tryz.ntmps19
  go_wp2_with fail
  first | rw [hw0] | skip
  refine (HST.out 21 (by omega)).mono ?_
  rintro e w2 ⟨rfl, hb2⟩
  have HB2 := mkHid (below_step HB0.out hb2)
  clear hb2
  go_wp2
  go_ret
  exact ⟨rfl, HB2.out⟩
 ·skip
  by_cases k2 : k = 2
  ·subst k2
   have e : doesT 2 (.node nk ns nm kk) = stT (.node nk ns nm kk) 22 := rfl
   rw [e]
   clear e
   go_enter Tryz.func19, Tryz.ntmps19
   go_wp2_with fail
   first | rw [hw0] | skip
   refine (HST.out 22 (by omega)).mono ?_
   rintro e w2 ⟨rfl, hb2⟩
   have HB2 := mkHid (below_step HB0.out hb2)
   clear hb2
   go_wp2
   go_ret
   exact ⟨rfl, HB2.out⟩
  ·skip
   by_cases k3 : k = 3
   ·subst k3
    have e : doesT 3 (.node nk ns nm kk) = stT (.node nk ns nm kk) 23 := rfl
    rw [e]
    clear e
    go_enter Tryz.func19, Tryz.ntmps19
    go_wp2_with fail
    first | rw [hw0] | skip
    refine (HST.out 23 (by omega)).mono ?_
    rintro e w2 ⟨rfl, hb2⟩
    have HB2 := mkHid (below_step HB0.out hb2)
    clear hb2
    go_wp2
    go_ret
    exact ⟨rfl, HB2.out⟩
   ·skip
    by_cases k4 : k = 4
    ·subst k4
     have HE := mkHid (show doesT 4 (.node nk ns nm kk) = if (betw nk 11 16 && fitsS (.node nk ns nm kk)) = true then textT (.node nk ns nm kk) else ⟨#[]⟩ from rfl)
     generalize doesT 4 (.node nk ns nm kk) = R at HE ⊢
     generalize (betw nk 11 16 && fitsS (.node nk ns nm kk)) = q at HCD HE
     go_enter Tryz.func19, Tryz.ntmps19
     go_wp2_with fail
     first | rw [hw0] | skip
     refine HCD.out.mono ?_
     rintro e w2 ⟨rfl, hb2⟩
     have HB2 := mkHid (below_step HB0.out hb2)
     cases q
     ·have HR : Hid (R = ⟨#[]⟩) := mkHid (by rw [HE.out]; rfl)
      clear hb2 HE
      go_wp2
      go_ret
      exact ⟨by rw [HR.out]; rfl, HB2.out⟩
     ·have HR : Hid (R = textT (.node nk ns nm kk)) := mkHid (by rw [HE.out]; rfl)
      obtain ⟨c0, c1, c2, c3, c4, c5, c6, c7⟩ := eight_of (eightF H8.out hb2)
      have HT := mkHid (HTX.out _ hb2)
      clear hb2 HE HTX
      go_wp2_with fail
      refine HT.out.mono ?_
      rintro e w3 ⟨rfl, hb3⟩
      have HB3 := mkHid (below_step HB2.out hb3)
      clear hb3
      go_wp2
      go_ret
      exact ⟨by rw [HR.out]; rfl, HB3.out⟩
    ·skip
     by_cases k5 : k = 5
     ·subst k5
      have HE := mkHid (show doesT 5 (.node nk ns nm kk) = if (betw nk 11 16 && fitsS (.node nk ns nm kk)) = true then textT (.node nk ns nm kk) else ⟨#[]⟩ from rfl)
      generalize doesT 5 (.node nk ns nm kk) = R at HE ⊢
      generalize (betw nk 11 16 && fitsS (.node nk ns nm kk)) = q at HCD HE
      go_enter Tryz.func19, Tryz.ntmps19
      go_wp2_with fail
      first | rw [hw0] | skip
      refine HCD.out.mono ?_
      rintro e w2 ⟨rfl, hb2⟩
      have HB2 := mkHid (below_step HB0.out hb2)
      cases q
      ·have HR : Hid (R = ⟨#[]⟩) := mkHid (by rw [HE.out]; rfl)
       clear hb2 HE
       go_wp2
       go_ret
       exact ⟨by rw [HR.out]; rfl, HB2.out⟩
      ·have HR : Hid (R = textT (.node nk ns nm kk)) := mkHid (by rw [HE.out]; rfl)
       obtain ⟨c0, c1, c2, c3, c4, c5, c6, c7⟩ := eight_of (eightF H8.out hb2)
       have HT := mkHid (HTX.out _ hb2)
       clear hb2 HE HTX
       go_wp2_with fail
       refine HT.out.mono ?_
       rintro e w3 ⟨rfl, hb3⟩
       have HB3 := mkHid (below_step HB2.out hb3)
       clear hb3
       go_wp2
       go_ret
       exact ⟨by rw [HR.out]; rfl, HB3.out⟩
     ·skip
      have q1 : (k == 1) = false := by simpa using k1
      have q2 : (k == 2) = false := by simpa using k2
      have q3 : (k == 3) = false := by simpa using k3
      have q4 : (k == 4) = false := by simpa using k4
      have q5 : (k == 5) = false := by simpa using k5
      have e : doesT k (.node nk ns nm kk) = ⟨#[]⟩ := by
       unfold doesT
       rw [if_neg k1, if_neg k2, if_neg k3, if_neg (fun h => h.elim k4 k5)]
      rw [e]
      clear e
      go_enter Tryz.func19, Tryz.ntmps19
      go_wp2
      go_ret
      exact ⟨rfl, HB0.out⟩
end Go.Proofs.YtedfnadgmhjojaaGreatDoor
namespace Go.Proofs.YtedfnadgmhjojaaGreatDoor
open Go.RowKit
open Pl
set_option maxRecDepth 100000 in
set_option maxHeartbeats 1600000 in
theorem sBlk_any (a : Option Addr) (n c : Nat) (w : World) : Calls Tryz.prog 28 #[.slice a n c] w fun e w' => e = .returned (.agg #[.int .i64 30, .string ⟨#[]⟩, .int .i64 0, .slice a n c]) ∧ Below w.heap.size w w' := by
 have hb := below_one w (.cells #[.int .i64 30, .string ⟨#[]⟩, .int .i64 0, .slice a n c] 38)
 go_enter Tryz.func28, Tryz.ntmps28
 go_wp2
 exact bodyPost_ret (v := .agg #[.int .i64 30, .string ⟨#[]⟩, .int .i64 0, .slice a n c]) (by simp [results, Tryz.results28, go_sem]) rfl ⟨rfl, hb⟩
set_option maxRecDepth 100000 in
set_option maxHeartbeats 6400000 in
theorem sDoes_any (f t k : Int) (y : Bool) (nk nm : Int) (ns : ByteArray) (kk : List T) (a : Option Addr) (c : Nat) (w : World) (hs : ns.size ≤ maxLen) (hn : kk.length ≤ maxLen) (hk : Kids w 0 a kk) (hcn : cnt (.node nk ns nm kk) ≤ 1048576) :
    Calls Tryz.prog 13 #[.agg #[.int .i64 f, .int .i64 t, .int .i64 k, .bool y, .int .i64 nk, .string ns, .int .i64 nm, .slice a kk.length c]] w fun e w' => e = .returned (.string (doesT k (.node nk ns nm kk))) ∧ Below w.heap.size w w' := by
 have hb0 := below_one w (.cells #[.int .i64 f, .int .i64 t, .int .i64 k, .bool y, .int .i64 nk, .string ns, .int .i64 nm, .slice a kk.length c] 40)
 have h0 := heap_alloc_new w (.cells #[.int .i64 f, .int .i64 t, .int .i64 k, .bool y, .int .i64 nk, .string ns, .int .i64 nm, .slice a kk.length c] 40)
 obtain ⟨w0, hw0⟩ : ∃ q, w.alloc (.cells #[.int .i64 f, .int .i64 t, .int .i64 k, .bool y, .int .i64 nk, .string ns, .int .i64 nm, .slice a kk.length c] 40) = q := ⟨_, rfl⟩
 rw [hw0] at hb0 h0
 obtain ⟨c0, c1, c2, c3, c4, c5, c6, c7⟩ := eight_of h0
 have HB0 := mkHid hb0
 have H8 := mkHid h0
 have HCD := mkHid (sCond_ok nk ns nm kk a c w0 hs hn (by omega) (hk.below hb0))
 have HTX := mkHid (fun W (hW : Below w0.heap.size w0 W) => sText_ok nk ns nm kk a c W hs hn (by omega) ((hk.below hb0).below hW))
 have HCP : Hid (Calls Tryz.prog 29 #[.agg #[.int .i64 nk, .string ns, .int .i64 nm, .slice a kk.length c]] w0 (TPost (.node nk ns nm kk) w0)) := mkHid (sCopy_any (.node nk ns nm kk) hs (by simp only [cnt] at hcn; omega) a c w0 (hk.below hb0))
 have HLN := mkHid (fun W (hW : Below w0.heap.size w0 W) (hg : GoodS (.node nk ns nm kk)) (h1 : cnt (.node nk ns nm kk) ≤ 498) (h2 : dep (.node nk ns nm kk) ≤ 24) => sLn_all (.node nk ns nm kk) (.inl hg) (fun e _ => sEx_ok e) ⟨#[]⟩ a c W (.inl hg) (by omega) (by show 0 + 2 * dep _ ≤ 1000; omega) ((hk.below hb0).below hW))
 have HCN := mkHid hcn
 have HS := mkHid hs
 have HN := mkHid hn
 clear hb0 h0 hk hs hn hcn
 by_cases k1 : k = 1
 ·subst k1
  have e : doesT 1 (.node nk ns nm kk) = stT (.node nk ns nm kk) 21 := rfl
  rw [e]
  clear e
  by_cases hkw : nk = 21
  ·subst hkw
   have HLC := mkHid (lone_cases (.node 21 ns nm kk) 21 (by omega) rfl)
   go_enter Tryz.func13, Tryz.ntmps13
   go_wp2_with fail
   first | rw [hw0] | skip
   refine HCP.out.mono ?_
   rintro e w2 ⟨x, rfl, hxe, hxm, hb2⟩
   obtain ⟨xk, xs, xm, xa, xc, xkk⟩ := x
   simp only [A.erase, T.node.injEq] at hxe
   obtain ⟨rfl, rfl, rfl, hxk⟩ := hxe
   have HB2 := mkHid hb2
   have hkx := Sits.lies (lo := 0) _ hxm.tree.1 (fun _ _ => Nat.zero_le _)
   have HKX : Hid (Kids w2 0 xa kk) := mkHid (by rw [← hxk]; exact hkx)
   have hxl : xkk.length = kk.length := by rw [← hxk, erases_len]
   simp only [A.val]
   rw [hxl]
   clear hb2 hxm hkx hxk hxl HCP
   have h21 := heap_alloc_new w2 (.cells #[.int .i64 21, .string xs, .int .i64 xm, .slice xa kk.length xc] 38)
   have hb21 := below_one w2 (.cells #[.int .i64 21, .string xs, .int .i64 xm, .slice xa kk.length xc] 38)
   have hk21 := kids_new h21 HS.out HN.out (HKX.out.below hb21)
   obtain ⟨w21, hw21⟩ : ∃ q, w2.alloc (.cells #[.int .i64 21, .string xs, .int .i64 xm, .slice xa kk.length xc] 38) = q := ⟨_, rfl⟩
   rw [hw21] at hb21 hk21
   have HK21 := mkHid hk21
   have HB21 := mkHid (below_step HB2.out hb21)
   clear h21 hb21 hk21 HKX
   go_wp2_with fail
   first | rw [hw21] | skip
   refine (sBlk_any (some ⟨w2.heap.size, 0, none⟩) 1 1 _).mono ?_
   rintro e w3 ⟨rfl, hb3⟩
   have h31 := heap_alloc_new w3 (.cells #[.int .i64 30, .string ⟨#[]⟩, .int .i64 0, .slice (some ⟨w2.heap.size, 0, none⟩) 1 1] 38)
   have hb31 := below_one w3 (.cells #[.int .i64 30, .string ⟨#[]⟩, .int .i64 0, .slice (some ⟨w2.heap.size, 0, none⟩) 1 1] 38)
   have hk31 := kids_new (k := 30) (s := nil_) (m := 0) (kk := [.node 21 xs xm kk]) (a := some ⟨w2.heap.size, 0, none⟩) (c := 1) h31 (by decide) (by unfold maxLen; simp) ((HK21.out.below hb3).below hb31)
   obtain ⟨w31, hw31⟩ : ∃ q, w3.alloc (.cells #[.int .i64 30, .string ⟨#[]⟩, .int .i64 0, .slice (some ⟨w2.heap.size, 0, none⟩) 1 1] 38) = q := ⟨_, rfl⟩
   rw [hw31] at hb31 hk31
   have HB31 := mkHid (below_step (below_step HB21.out hb3) hb31)
   have HPO : Hid (Calls Tryz.prog 27 #[.agg #[.int .i64 40, .string ⟨#[]⟩, .int .i64 0, .slice (some ⟨w3.heap.size, 0, none⟩) 1 1]] w31 fun e w' => e = .returned (.bool (okP (loneT (.node 21 xs xm kk)))) ∧ Below w31.heap.size w31 w') := mkHid
    (sProgOk_any 40 nil_ 0 [.node 30 nil_ 0 [.node 21 xs xm kk]] (some ⟨w3.heap.size, 0, none⟩) 1 w31 (by decide) (by unfold maxLen; simp) (by have := HCN.out; simp only [cnt, cnts] at this ⊢; omega) hk31)
   clear h31 hb31 hk31 hb3 HK21 HB21
   generalize okP (loneT (.node 21 xs xm kk)) = q at HPO HLC
   go_wp2_with fail
   first | rw [hw31] | skip
   refine HPO.out.mono ?_
   rintro e w4 ⟨rfl, hb4⟩
   have HB4 := mkHid (below_step HB31.out hb4)
   clear hb4 HPO HB31
   rcases HLC.out with ⟨rfl, _, hst⟩ | ⟨rfl, B, _, hL, hst, hB, hg, hc1, hd1⟩
   ·have HST := mkHid hst
    clear hst HLC
    go_wp2
    go_ret
    exact ⟨by rw [HST.out]; rfl, below_step HB0.out HB4.out⟩
   ·have HST := mkHid hst
    have HL := mkHid (HLN.out _ HB4.out hg hc1 hd1)
    have hz : (B ++ ⟨#[59, 10]⟩).size = B.size + 2 := by rw [ByteArray.size_append]; rfl
    have hy := ext_left B ⟨#[59, 10]⟩
    rw [hL] at HL
    obtain ⟨c0, c1, c2, c3, c4, c5, c6, c7⟩ := eight_of (eightF H8.out HB4.out)
    clear hst HLC hL hg hc1 hd1 HLN
    go_wp2_with fail
    refine HL.out.mono ?_
    rintro e w5 ⟨rfl, hb5⟩
    have HB5 := mkHid (below_step HB4.out hb5)
    clear hb5 HL
    go_wp2
    go_ret
    exact ⟨by rw [HST.out]; rfl, below_step HB0.out HB5.out⟩
  ·have hne : (nk == 21) = false := by simpa using hkw
   have hst : stT (.node nk ns nm kk) 21 = ⟨#[]⟩ := if_neg (fun h => hkw h.1)
   rw [hst]
   clear hst
   go_enter Tryz.func13, Tryz.ntmps13
   go_wp2
   go_ret
   exact ⟨rfl, HB0.out⟩
 ·skip
  by_cases k2 : k = 2
  ·subst k2
   have e : doesT 2 (.node nk ns nm kk) = stT (.node nk ns nm kk) 22 := rfl
   rw [e]
   clear e
   by_cases hkw : nk = 22
   ·subst hkw
    have HLC := mkHid (lone_cases (.node 22 ns nm kk) 22 (by omega) rfl)
    go_enter Tryz.func13, Tryz.ntmps13
    go_wp2_with fail
    first | rw [hw0] | skip
    refine HCP.out.mono ?_
    rintro e w2 ⟨x, rfl, hxe, hxm, hb2⟩
    obtain ⟨xk, xs, xm, xa, xc, xkk⟩ := x
    simp only [A.erase, T.node.injEq] at hxe
    obtain ⟨rfl, rfl, rfl, hxk⟩ := hxe
    have HB2 := mkHid hb2
    have hkx := Sits.lies (lo := 0) _ hxm.tree.1 (fun _ _ => Nat.zero_le _)
    have HKX : Hid (Kids w2 0 xa kk) := mkHid (by rw [← hxk]; exact hkx)
    have hxl : xkk.length = kk.length := by rw [← hxk, erases_len]
    simp only [A.val]
    rw [hxl]
    clear hb2 hxm hkx hxk hxl HCP
    have h21 := heap_alloc_new w2 (.cells #[.int .i64 22, .string xs, .int .i64 xm, .slice xa kk.length xc] 38)
    have hb21 := below_one w2 (.cells #[.int .i64 22, .string xs, .int .i64 xm, .slice xa kk.length xc] 38)
    have hk21 := kids_new h21 HS.out HN.out (HKX.out.below hb21)
    obtain ⟨w21, hw21⟩ : ∃ q, w2.alloc (.cells #[.int .i64 22, .string xs, .int .i64 xm, .slice xa kk.length xc] 38) = q := ⟨_, rfl⟩
    rw [hw21] at hb21 hk21
    have HK21 := mkHid hk21
    have HB21 := mkHid (below_step HB2.out hb21)
    clear h21 hb21 hk21 HKX
    go_wp2_with fail
    first | rw [hw21] | skip
    refine (sBlk_any (some ⟨w2.heap.size, 0, none⟩) 1 1 _).mono ?_
    rintro e w3 ⟨rfl, hb3⟩
    have h31 := heap_alloc_new w3 (.cells #[.int .i64 30, .string ⟨#[]⟩, .int .i64 0, .slice (some ⟨w2.heap.size, 0, none⟩) 1 1] 38)
    have hb31 := below_one w3 (.cells #[.int .i64 30, .string ⟨#[]⟩, .int .i64 0, .slice (some ⟨w2.heap.size, 0, none⟩) 1 1] 38)
    have hk31 := kids_new (k := 30) (s := nil_) (m := 0) (kk := [.node 22 xs xm kk]) (a := some ⟨w2.heap.size, 0, none⟩) (c := 1) h31 (by decide) (by unfold maxLen; simp) ((HK21.out.below hb3).below hb31)
    obtain ⟨w31, hw31⟩ : ∃ q, w3.alloc (.cells #[.int .i64 30, .string ⟨#[]⟩, .int .i64 0, .slice (some ⟨w2.heap.size, 0, none⟩) 1 1] 38) = q := ⟨_, rfl⟩
    rw [hw31] at hb31 hk31
    have HB31 := mkHid (below_step (below_step HB21.out hb3) hb31)
    have HPO : Hid (Calls Tryz.prog 27 #[.agg #[.int .i64 40, .string ⟨#[]⟩, .int .i64 0, .slice (some ⟨w3.heap.size, 0, none⟩) 1 1]] w31 fun e w' => e = .returned (.bool (okP (loneT (.node 22 xs xm kk)))) ∧ Below w31.heap.size w31 w') := mkHid
     (sProgOk_any 40 nil_ 0 [.node 30 nil_ 0 [.node 22 xs xm kk]] (some ⟨w3.heap.size, 0, none⟩) 1 w31 (by decide) (by unfold maxLen; simp) (by have := HCN.out; simp only [cnt, cnts] at this ⊢; omega) hk31)
    clear h31 hb31 hk31 hb3 HK21 HB21
    generalize okP (loneT (.node 22 xs xm kk)) = q at HPO HLC
    go_wp2_with fail
    first | rw [hw31] | skip
    refine HPO.out.mono ?_
    rintro e w4 ⟨rfl, hb4⟩
    have HB4 := mkHid (below_step HB31.out hb4)
    clear hb4 HPO HB31
    rcases HLC.out with ⟨rfl, _, hst⟩ | ⟨rfl, B, _, hL, hst, hB, hg, hc1, hd1⟩
    ·have HST := mkHid hst
     clear hst HLC
     go_wp2
     go_ret
     exact ⟨by rw [HST.out]; rfl, below_step HB0.out HB4.out⟩
    ·have HST := mkHid hst
     have HL := mkHid (HLN.out _ HB4.out hg hc1 hd1)
     have hz : (B ++ ⟨#[59, 10]⟩).size = B.size + 2 := by rw [ByteArray.size_append]; rfl
     have hy := ext_left B ⟨#[59, 10]⟩
     rw [hL] at HL
     obtain ⟨c0, c1, c2, c3, c4, c5, c6, c7⟩ := eight_of (eightF H8.out HB4.out)
     clear hst HLC hL hg hc1 hd1 HLN
     go_wp2_with fail
     refine HL.out.mono ?_
     rintro e w5 ⟨rfl, hb5⟩
     have HB5 := mkHid (below_step HB4.out hb5)
     clear hb5 HL
     go_wp2
     go_ret
     exact ⟨by rw [HST.out]; rfl, below_step HB0.out HB5.out⟩
   ·have hne : (nk == 22) = false := by simpa using hkw
    have hst : stT (.node nk ns nm kk) 22 = ⟨#[]⟩ := if_neg (fun h => hkw h.1)
    rw [hst]
    clear hst
    go_enter Tryz.func13, Tryz.ntmps13
    go_wp2
    go_ret
    exact ⟨rfl, HB0.out⟩
  ·skip
   by_cases k3 : k = 3
   ·subst k3
    have e : doesT 3 (.node nk ns nm kk) = stT (.node nk ns nm kk) 23 := rfl
    rw [e]
    clear e
    by_cases hkw : nk = 23
    ·subst hkw
     have HLC := mkHid (lone_cases (.node 23 ns nm kk) 23 (by omega) rfl)
     go_enter Tryz.func13, Tryz.ntmps13
     go_wp2_with fail
     first | rw [hw0] | skip
     refine HCP.out.mono ?_
     rintro e w2 ⟨x, rfl, hxe, hxm, hb2⟩
     obtain ⟨xk, xs, xm, xa, xc, xkk⟩ := x
     simp only [A.erase, T.node.injEq] at hxe
     obtain ⟨rfl, rfl, rfl, hxk⟩ := hxe
     have HB2 := mkHid hb2
     have hkx := Sits.lies (lo := 0) _ hxm.tree.1 (fun _ _ => Nat.zero_le _)
     have HKX : Hid (Kids w2 0 xa kk) := mkHid (by rw [← hxk]; exact hkx)
     have hxl : xkk.length = kk.length := by rw [← hxk, erases_len]
     simp only [A.val]
     rw [hxl]
     clear hb2 hxm hkx hxk hxl HCP
     have h21 := heap_alloc_new w2 (.cells #[.int .i64 23, .string xs, .int .i64 xm, .slice xa kk.length xc] 38)
     have hb21 := below_one w2 (.cells #[.int .i64 23, .string xs, .int .i64 xm, .slice xa kk.length xc] 38)
     have hk21 := kids_new h21 HS.out HN.out (HKX.out.below hb21)
     obtain ⟨w21, hw21⟩ : ∃ q, w2.alloc (.cells #[.int .i64 23, .string xs, .int .i64 xm, .slice xa kk.length xc] 38) = q := ⟨_, rfl⟩
     rw [hw21] at hb21 hk21
     have HK21 := mkHid hk21
     have HB21 := mkHid (below_step HB2.out hb21)
     clear h21 hb21 hk21 HKX
     go_wp2_with fail
     first | rw [hw21] | skip
     refine (sBlk_any (some ⟨w2.heap.size, 0, none⟩) 1 1 _).mono ?_
     rintro e w3 ⟨rfl, hb3⟩
     have h31 := heap_alloc_new w3 (.cells #[.int .i64 30, .string ⟨#[]⟩, .int .i64 0, .slice (some ⟨w2.heap.size, 0, none⟩) 1 1] 38)
     have hb31 := below_one w3 (.cells #[.int .i64 30, .string ⟨#[]⟩, .int .i64 0, .slice (some ⟨w2.heap.size, 0, none⟩) 1 1] 38)
     have hk31 := kids_new (k := 30) (s := nil_) (m := 0) (kk := [.node 23 xs xm kk]) (a := some ⟨w2.heap.size, 0, none⟩) (c := 1) h31 (by decide) (by unfold maxLen; simp) ((HK21.out.below hb3).below hb31)
     obtain ⟨w31, hw31⟩ : ∃ q, w3.alloc (.cells #[.int .i64 30, .string ⟨#[]⟩, .int .i64 0, .slice (some ⟨w2.heap.size, 0, none⟩) 1 1] 38) = q := ⟨_, rfl⟩
     rw [hw31] at hb31 hk31
     have HB31 := mkHid (below_step (below_step HB21.out hb3) hb31)
     have HPO : Hid (Calls Tryz.prog 27 #[.agg #[.int .i64 40, .string ⟨#[]⟩, .int .i64 0, .slice (some ⟨w3.heap.size, 0, none⟩) 1 1]] w31 fun e w' => e = .returned (.bool (okP (loneT (.node 23 xs xm kk)))) ∧ Below w31.heap.size w31 w') := mkHid
      (sProgOk_any 40 nil_ 0 [.node 30 nil_ 0 [.node 23 xs xm kk]] (some ⟨w3.heap.size, 0, none⟩) 1 w31 (by decide) (by unfold maxLen; simp) (by have := HCN.out; simp only [cnt, cnts] at this ⊢; omega) hk31)
     clear h31 hb31 hk31 hb3 HK21 HB21
     generalize okP (loneT (.node 23 xs xm kk)) = q at HPO HLC
     go_wp2_with fail
     first | rw [hw31] | skip
     refine HPO.out.mono ?_
     rintro e w4 ⟨rfl, hb4⟩
     have HB4 := mkHid (below_step HB31.out hb4)
     clear hb4 HPO HB31
     rcases HLC.out with ⟨rfl, _, hst⟩ | ⟨rfl, B, _, hL, hst, hB, hg, hc1, hd1⟩
     ·have HST := mkHid hst
      clear hst HLC
      go_wp2
      go_ret
      exact ⟨by rw [HST.out]; rfl, below_step HB0.out HB4.out⟩
     ·have HST := mkHid hst
      have HL := mkHid (HLN.out _ HB4.out hg hc1 hd1)
      have hz : (B ++ ⟨#[59, 10]⟩).size = B.size + 2 := by rw [ByteArray.size_append]; rfl
      have hy := ext_left B ⟨#[59, 10]⟩
      rw [hL] at HL
      obtain ⟨c0, c1, c2, c3, c4, c5, c6, c7⟩ := eight_of (eightF H8.out HB4.out)
      clear hst HLC hL hg hc1 hd1 HLN
      go_wp2_with fail
      refine HL.out.mono ?_
      rintro e w5 ⟨rfl, hb5⟩
      have HB5 := mkHid (below_step HB4.out hb5)
      clear hb5 HL
      go_wp2
      go_ret
      exact ⟨by rw [HST.out]; rfl, below_step HB0.out HB5.out⟩
    ·have hne : (nk == 23) = false := by simpa using hkw
     have hst : stT (.node nk ns nm kk) 23 = ⟨#[]⟩ := if_neg (fun h => hkw h.1)
     rw [hst]
     clear hst
     go_enter Tryz.func13, Tryz.ntmps13
     go_wp2
     go_ret
     exact ⟨rfl, HB0.out⟩
   ·skip
    by_cases k4 : k = 4
    ·subst k4
     have HE := mkHid (show doesT 4 (.node nk ns nm kk) = if (betw nk 11 16 && fitsS (.node nk ns nm kk)) = true then textT (.node nk ns nm kk) else ⟨#[]⟩ from rfl)
     generalize doesT 4 (.node nk ns nm kk) = R at HE ⊢
     generalize (betw nk 11 16 && fitsS (.node nk ns nm kk)) = q at HCD HE
     go_enter Tryz.func13, Tryz.ntmps13
     go_wp2_with fail
     first | rw [hw0] | skip
     refine HCD.out.mono ?_
     rintro e w2 ⟨rfl, hb2⟩
     have HB2 := mkHid (below_step HB0.out hb2)
     cases q
     ·have HR : Hid (R = ⟨#[]⟩) := mkHid (by rw [HE.out]; rfl)
      clear hb2 HE
      go_wp2
      go_ret
      exact ⟨by rw [HR.out]; rfl, HB2.out⟩
     ·have HR : Hid (R = textT (.node nk ns nm kk)) := mkHid (by rw [HE.out]; rfl)
      obtain ⟨c0, c1, c2, c3, c4, c5, c6, c7⟩ := eight_of (eightF H8.out hb2)
      have HT := mkHid (HTX.out _ hb2)
      clear hb2 HE HTX
      go_wp2_with fail
      refine HT.out.mono ?_
      rintro e w3 ⟨rfl, hb3⟩
      have HB3 := mkHid (below_step HB2.out hb3)
      clear hb3
      go_wp2
      go_ret
      exact ⟨by rw [HR.out]; rfl, HB3.out⟩
    ·skip
     by_cases k5 : k = 5
     ·subst k5
      have HE := mkHid (show doesT 5 (.node nk ns nm kk) = if (betw nk 11 16 && fitsS (.node nk ns nm kk)) = true then textT (.node nk ns nm kk) else ⟨#[]⟩ from rfl)
      generalize doesT 5 (.node nk ns nm kk) = R at HE ⊢
      generalize (betw nk 11 16 && fitsS (.node nk ns nm kk)) = q at HCD HE
      go_enter Tryz.func13, Tryz.ntmps13
      go_wp2_with fail
      first | rw [hw0] | skip
      refine HCD.out.mono ?_
      rintro e w2 ⟨rfl, hb2⟩
      have HB2 := mkHid (below_step HB0.out hb2)
      cases q
      ·have HR : Hid (R = ⟨#[]⟩) := mkHid (by rw [HE.out]; rfl)
       clear hb2 HE
       go_wp2
       go_ret
       exact ⟨by rw [HR.out]; rfl, HB2.out⟩
      ·have HR : Hid (R = textT (.node nk ns nm kk)) := mkHid (by rw [HE.out]; rfl)
       obtain ⟨c0, c1, c2, c3, c4, c5, c6, c7⟩ := eight_of (eightF H8.out hb2)
       have HT := mkHid (HTX.out _ hb2)
       clear hb2 HE HTX
       go_wp2_with fail
       refine HT.out.mono ?_
       rintro e w3 ⟨rfl, hb3⟩
       have HB3 := mkHid (below_step HB2.out hb3)
       clear hb3
       go_wp2
       go_ret
       exact ⟨by rw [HR.out]; rfl, HB3.out⟩
     ·skip
      have q1 : (k == 1) = false := by simpa using k1
      have q2 : (k == 2) = false := by simpa using k2
      have q3 : (k == 3) = false := by simpa using k3
      have q4 : (k == 4) = false := by simpa using k4
      have q5 : (k == 5) = false := by simpa using k5
      have e : doesT k (.node nk ns nm kk) = ⟨#[]⟩ := by
       unfold doesT
       rw [if_neg k1, if_neg k2, if_neg k3, if_neg (fun h => h.elim k4 k5)]
      rw [e]
      clear e
      go_enter Tryz.func13, Tryz.ntmps13
      go_wp2
      go_ret
      exact ⟨rfl, HB0.out⟩
end Go.Proofs.YtedfnadgmhjojaaGreatDoor
namespace Go.Proofs.YtedfnadgmhjojaaGreatDoor
open Go.RowKit
open Pl
def lineS (e : Ed) : ByteArray := dec e.f.toNat ++ ⟨#[32]⟩ ++ wordT e.k e.y ++ ⟨#[32]⟩ ++ dec e.t.toNat
def tailS (e : Ed) : ByteArray := if doesT e.k e.n = ⟨#[]⟩ then ⟨#[]⟩ else ⟨#[32]⟩ ++ doesT e.k e.n
def lineL (e : Ed) : List UInt8 := (lineS e).data.toList ++ (tailS e).data.toList ++ [10]
def graphL (es : List Ed) : List UInt8 := es.flatMap lineL
def graphT (p : Int) (es : List Ed) : ByteArray := if gokB p es = true then ⟨(graphL es).toArray⟩ else ⟨#[]⟩
theorem stT_size (t : T) (want : Int) (hw : want = 21 ∨ want = 22 ∨ want = 23) : (stT t want).size ≤ 4000 := by
 by_cases hk : kindT t = want
 ·rcases lone_cases t want hw hk with ⟨_, _, h⟩ | ⟨_, B, _, _, h, hB, _⟩
  ·rw [h]; exact Nat.zero_le _
  ·rw [h]; exact hB
 ·rw [show stT t want = ⟨#[]⟩ from if_neg (fun h => hk h.1)]; exact Nat.zero_le _
theorem cdT_size (t : T) : (cdT t).size ≤ 4000 := by
 unfold cdT textT
 repeat' split
 all_goals first | exact Nat.zero_le _ | omega
theorem doesT_size (k : Int) (t : T) : (doesT k t).size ≤ 4000 := by
 unfold doesT
 split
 ·exact stT_size t 21 (by omega)
 ·split
  ·exact stT_size t 22 (by omega)
  ·split
   ·exact stT_size t 23 (by omega)
   ·split
    ·exact cdT_size t
    ·exact Nat.zero_le _
theorem wordT_size (k : Int) (y : Bool) : (wordT k y).size ≤ 5 := by
 unfold wordT
 repeat' split
 all_goals decide
theorem lineS_size {e : Ed} (hf : e.f ≤ 3000) (ht : e.t ≤ 3000) : (lineS e).size ≤ 6010 := by
 unfold lineS
 have h1 := dec_size e.f.toNat
 have h2 := dec_size e.t.toNat
 have h3 := wordT_size e.k e.y
 have e1 : (ByteArray.mk #[32]).size = 1 := rfl
 rw [ByteArray.size_append, ByteArray.size_append, ByteArray.size_append, ByteArray.size_append, e1]
 omega
theorem tailS_size (e : Ed) : (tailS e).size ≤ 4001 := by
 unfold tailS
 have h := doesT_size e.k e.n
 have e1 : (ByteArray.mk #[32]).size = 1 := rfl
 split
 ·exact Nat.zero_le _
 ·rw [ByteArray.size_append, e1]; omega
theorem lineL_len {e : Ed} (hf : e.f ≤ 3000) (ht : e.t ≤ 3000) : (lineL e).length ≤ 10012 := by
 unfold lineL
 have h1 := lineS_size hf ht
 have h2 := tailS_size e
 rw [List.length_append, List.length_append, ← Lib.size_eq, ← Lib.size_eq]
 simp
 omega
theorem graphL_take {es : List Ed} {i : Nat} {e : Ed} (h : es[i]? = some e) : graphL (es.take (i + 1)) = graphL (es.take i) ++ lineL e := by
 unfold graphL
 rw [List.take_add_one, h]
 simp
theorem graphL_len {es : List Ed} (h : ∀ e ∈ es, e.f ≤ 3000 ∧ e.t ≤ 3000) : (graphL es).length ≤ 10012 * es.length := by
 induction es with
 | nil => exact Nat.zero_le _
 | cons x r ih =>
  have h1 := lineL_len (h x (by simp)).1 (h x (by simp)).2
  have h2 := ih (fun e he => h e (by simp [he]))
  have e1 : graphL (x :: r) = lineL x ++ graphL r := rfl
  rw [e1, List.length_append, List.length_cons]
  omega
theorem gok_parts {p : Int} {es : List Ed} (h : gokB p es = true) : p ≤ 3000 ∧ es.length ≤ 6000 ∧ ∀ e ∈ es, (0 ≤ e.f ∧ e.f ≤ 3000) ∧ (0 ≤ e.t ∧ e.t ≤ 3000) ∧ (1 ≤ e.k ∧ e.k ≤ 7) := by
 unfold gokB at h
 simp only [Bool.and_eq_true, decide_eq_true_eq, List.all_eq_true] at h
 obtain ⟨⟨h1, h2⟩, h3⟩ := h
 have h1' := btw_iff.1 h1
 refine ⟨h1'.2, h2, fun e he => ?_⟩
 have h4 := h3 e he
 unfold edB at h4
 simp only [Bool.and_eq_true] at h4
 have q1 := btw_iff.1 h4.1.1
 have q2 := btw_iff.1 h4.1.2
 have q3 := btw_iff.1 h4.2
 omega
theorem Tryz.info35b : (Tryz.prog.info? 5).map (fun i => (i.zero, i.size, i.bytes)) = some (some (.int .u8 0), 1, 1) := by kernel_rfl
/-- At a step of a region that draws its order: a text appended to a row of bytes of one's own. -/
theorem step_append_text {ops : Array Oper} {o : Oper} {a : Act} {w : World} {K : Act → World → Prop} {Q : Exit → Act → World → Prop} {E : Prop} (hgd : o.guard = none) (sl x : Operand) (t u : TypeId)
    (ho : o.op = .call { callee := .builtin .append, args := #[sl, x], argTypes := #[t, u] })
    (base : Nat) (e : TypeId) (i : TypeInfo) (ht : Tryz.prog.underlying t = some (.slice e)) (hu : Tryz.prog.underlying u = some .string) (hi : Tryz.prog.info? e = some i) (hz : i.zero = some (.int .u8 0))
    (hsize : i.size = 1) (hby : i.bytes = 1)
    (v : Value) (n : Nat) (xs : List Value) (hs : a.eval sl = v) (hown : w.ownsRowF base e 1 v n xs) (s : ByteArray) (hx : a.eval x = .string s)
    (h63 : n + s.size ≤ maxLen) (hbytes : n + s.size ≤ 140737488355328) (hbase : base ≤ w.heap.size)
    (h : ∀ v' w', w'.ownsRowF base e 1 v' (n + s.size) (xs ++ Lib.strCells s) → w.grownBy w' v.ownBlock → K (a.put o.dst v') w') :
    if Region.wanted o (yielded ops a.tmps) = true then Oper.wp Tryz.prog o a w K Q else E := by
 have hw : Region.wanted o (yielded ops a.tmps) = true := by simp [Region.wanted, hgd]
 rw [if_pos hw]
 obtain ⟨v', w', hr, h2, h3, _⟩ := Lib.run_append_own_stringF (P := Tryz.prog) w base t u o.type e i ht hu hi hz hsize hby v n xs hown s h63 hbytes hbase
 unfold Oper.wp execOp
 simp only [ho, resolve, invoke, builtin, Sem.run_bind, Sem.run_pure, Result.andThen_ok, List.map_toArray, List.map_cons, List.map_nil, hs, hx, hr]
 exact h v' w' h2 h3
def OwnB (w : World) (base : Nat) (v : Value) (bs : List UInt8) : Prop := w.ownsRowF base 5 1 v bs.length (Lib.byteCells bs)
theorem OwnB.below {w w' : World} {base : Nat} {v : Value} {bs : List UInt8} (h : OwnB w base v bs) (hb : Below w.heap.size w w') : OwnB w' base v bs :=
 World.ownsRowF.kept h (row := none) ⟨hb.os, hb.tape, hb.output, hb.size, fun k hk _ => hb.block k hk⟩ (by cases v.ownBlock <;> simp)
theorem OwnB.fresh {w' : World} {g base : Nat} (hb : base ≤ g) (hg : w'.heap[g]? = some (.cells #[] 5 (0, 0))) : OwnB w' base (.slice (some ⟨g, 0, none⟩) 0 0) [] :=
 ⟨rfl, .inr ⟨g, 0, #[], (0, 0), rfl, hb, hg, by simp, Nat.le_refl _, by unfold maxLen; omega, rfl, rfl⟩⟩
theorem OwnB.one {w' : World} {base : Nat} {v' : Value} {bs : List UInt8} {c : UInt8} {z : Int} {N : Nat} (hc : z = c.toNat) (hN : N = bs.length + 1) (h : w'.ownsRowF base 5 1 v' N (Lib.byteCells bs ++ [.int .u8 z])) : OwnB w' base v' (bs ++ [c]) := by
 unfold OwnB
 rw [Lib.byteCells_append, List.length_append]
 subst hc hN
 exact h
theorem OwnB.str {w' : World} {base : Nat} {v' : Value} {bs : List UInt8} {s : ByteArray} {N : Nat} (hN : N = bs.length + s.size) (h : w'.ownsRowF base 5 1 v' N (Lib.byteCells bs ++ Lib.strCells s)) : OwnB w' base v' (bs ++ s.data.toList) := by
 unfold OwnB
 rw [Lib.byteCells_append, List.length_append, ← Lib.size_eq]
 subst hN
 exact h
theorem OwnB.form {w : World} {base : Nat} {v : Value} {bs : List UInt8} (h : OwnB w base v bs) : ∃ ao cap, v = .slice ao bs.length cap := by
 rcases h.2 with ⟨rfl, h0⟩ | ⟨g, cap, cur, fz, rfl, _⟩
 ·exact ⟨none, 0, by rw [h0]⟩
 ·exact ⟨_, _, rfl⟩
theorem OwnB.lt {w : World} {base : Nat} {v : Value} {bs : List UInt8} (h : OwnB w base v bs) {q : Nat} (hq : v.ownBlock = some q) : base ≤ q ∧ q < w.heap.size := World.ownsRowF.lt h q hq
theorem oneB_new (w : World) (a : Value) (T : TypeId) (j : Nat) (u : Value) (h : [a][j]? = some u) : (w.alloc (.cells #[a] T)).cell? ((⟨w.heap.size, 0, none⟩ : Addr).add j) = some u := by
 rw [WideShapes.add_plain, Nat.zero_add, World.cell?_alloc_new]
 simpa using h
/-- A row of bytes becomes a string. -/
theorem conv_own {w : World} {base : Nat} {ao : Option Addr} {n cap : Nat} {bs : List UInt8} (h : OwnB w base (.slice ao n cap) bs) (h0 : 0 < bs.length) : Sem.run Tryz.prog (convert 35 9 (.slice ao n cap)) w = .ok (.string ⟨bs.toArray⟩) w := by
 rcases h.2 with ⟨_, hz⟩ | ⟨g, cap', cur, fz, e, _⟩
 ·omega
 ·simp at e
  obtain ⟨rfl, rfl, rfl⟩ := e
  refine run_convert_bytes_back (P := Tryz.prog) w 35 9 5 ⟨g, 0, none⟩ cap bs Tryz.underlying35 Tryz.underlying5 Tryz.underlying9 (fun i hi => ?_)
  rw [WideShapes.add_plain, Nat.zero_add]
  have := World.ownsRowF.cells h (g := g) rfl i (.int .u8 (bs[i].toNat : Int)) (by simp [Lib.byteCells, hi])
  rw [WideShapes.add_plain, Nat.zero_add] at this
  exact this

theorem conv_all {w : World} {base : Nat} {ao : Option Addr} {n cap : Nat} {bs : List UInt8} (h : OwnB w base (.slice ao n cap) bs) (hn : n = bs.length) : Sem.run Tryz.prog (convert 35 9 (.slice ao n cap)) w = .ok (.string ⟨bs.toArray⟩) w := by
 by_cases h0 : 0 < bs.length
 ·exact conv_own h h0
 ·have : bs = [] := List.eq_nil_of_length_eq_zero (by omega)
  subst this
  subst hn
  rcases h.2 with ⟨e, _⟩ | ⟨g, cap', cur, fz, e, _⟩
  ·simp at e
   obtain ⟨rfl, rfl⟩ := e
   exact Lib.run_convert_nil_bytes w 35 9 5 0 Tryz.underlying35 Tryz.underlying5 Tryz.underlying9
  ·simp at e
   obtain ⟨rfl, rfl⟩ := e
   exact run_convert_bytes_back (P := Tryz.prog) w 35 9 5 ⟨g, 0, none⟩ cap [] Tryz.underlying35 Tryz.underlying5 Tryz.underlying9 (fun i hi => absurd hi (by simp))
end Go.Proofs.YtedfnadgmhjojaaGreatDoor
