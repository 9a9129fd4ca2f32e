/-
  CONTRACT of the program's Parse.
-/
import Derived.Test.YtjmjmdmnejnlbaaGreatDoorMRall
import Derived.Test.YtjmjmdmnejnlbaaGreatDoorMFormb
namespace Go.Proofs.YtjmjmdmnejnlbaaGreatDoor
open Go.RowKit
open Pl

/-- How far the reading may go. -/
def fuelI (ws : List W3) : Nat := 5 * ws.length + 10
/-- What Parse answers: the tree, the fault's code, its place. -/
def parseI (s : ByteArray) : T × Int × Int :=
 if (wordsI s).2.1 ≠ 0 then (.node 0 nil_ 0 [], (wordsI s).2.1, (wordsI s).2.2) else
  match mProg (wordsI s).1 (fuelI (wordsI s).1) (fuelI (wordsI s).1) [] 0 with
  | .no p => (.node 0 nil_ 0 [], 4, placeI (wordsI s).1 p s.size)
  | .ok t _ => if dep t ≤ 24 ∧ cnt t ≤ 500 then (t, 0, 0) else (.node 0 nil_ 0 [], 5, 0)

/-- The words of a text are words. -/
theorem scan_env (s : ByteArray) (hs : s.size ≤ 4000) (at_ : Nat) (acc : List W3) (ha : ∀ x ∈ acc, (kindI x.s = x.k ∧ x.k ≠ 0) ∧ x.s.size ≤ 4000) : ∀ x ∈ (scanI s at_ acc).1, (kindI x.s = x.k ∧ x.k ≠ 0) ∧ x.s.size ≤ 4000 := by
 generalize hf : s.size - at_ = f
 induction f using Nat.strongRecOn generalizing at_ acc with
 | _ f ih =>
   by_cases h1 : at_ < s.size
   ·by_cases hk : kindI (s.extract at_ (endI s at_)) = 0
    ·rw [scan_bad h1 hk]; intro x hx; cases hx
    ·by_cases hm : acc.length = 1500
     ·rw [scan_many h1 hk hm]; intro x hx; cases hx
     ·rw [scan_go h1 hk hm]
      have h2 := endI_gt h1
      have h3 := skip_ge s (endI s at_)
      refine ih (s.size - skipI s (endI s at_)) (by omega) _ _ ?_ rfl
      intro x hx
      rcases List.mem_append.1 hx with hx | hx
      ·exact ha x hx
      ·rw [List.mem_singleton.1 hx]
       exact ⟨⟨rfl, hk⟩, Nat.le_trans (ext_le s _ _) hs⟩
   ·rw [scan_end h1]; exact ha
theorem words_env (s : ByteArray) : Env (wordsI s).1 := by
 have h : ∀ x ∈ (wordsI s).1, (kindI x.s = x.k ∧ x.k ≠ 0) ∧ x.s.size ≤ 4000 := by
  unfold wordsI
  split
  ·intro x hx; cases hx
  ·exact scan_env s (by omega) _ _ (fun x hx => by cases hx)
 exact ⟨fun x hx => (h x hx).1, words_len s, fun x hx => (h x hx).2⟩
/-- What a call of Parse leaves. -/
def Parsed (s : ByteArray) (w : World) (e : Ending) (w' : World) : Prop := ∃ x : A, e = .returned (.tuple #[x.val, .agg #[.int .i64 (parseI s).2.1, .int .i64 (parseI s).2.2]]) ∧ x.erase = (parseI s).1 ∧ Sits w' x ∧ New w.heap.size x ∧ Below w.heap.size w w'
theorem two_of {w : World} {p : Nat} {v0 v1 : Value} (h : w.heap[p]? = some (.cells #[v0, v1] 31 (0, 0))) : w.cell? ⟨p, 0, none⟩ = some v0 ∧ w.cell? ⟨p, 1, none⟩ = some v1 ∧ w.frozen? ⟨p, 0, none⟩ = false ∧ w.frozen? ⟨p, 1, none⟩ = false :=
 ⟨by rw [Lib.cell_of_heap h]; rfl, by rw [Lib.cell_of_heap h]; rfl, Lib.frozen_of_heap h 0, Lib.frozen_of_heap h 1⟩

@[reducible] def put2 (w : World) (q : Nat) (v0 v1 : Value) : World := (w.setCell ⟨q, 0, none⟩ v0).setCell ⟨q, 1, none⟩ v1
theorem put2_at {w : World} {q : Nat} {u0 u1 : Value} (h : w.heap[q]? = some (.cells #[u0, u1] 31 (0, 0))) (v0 v1 : Value) : (put2 w q v0 v1).heap[q]? = some (.cells #[v0, v1] 31 (0, 0)) := by
 rw [heap_setCell_same _ q 1 _ 31 _ (heap_setCell_same _ q 0 _ 31 _ h)]; rfl
theorem put2_other {w : World} {q k : Nat} (v0 v1 : Value) (h : k ≠ q) : (put2 w q v0 v1).heap[k]? = w.heap[k]? := by
 rw [Below.heap_setCell _ _ _ _ h, Below.heap_setCell _ _ _ _ h]
theorem put2_size (w : World) (q : Nat) (v0 v1 : Value) : (put2 w q v0 v1).heap.size = w.heap.size := by simp [World.setCell]
theorem put2_below {B : Nat} {a w : World} (h : Below B a w) {q : Nat} (hq : B ≤ q) (v0 v1 : Value) : Below B a (put2 w q v0 v1) := (h.setCell (p := ⟨q, 0, none⟩) hq _).setCell (p := ⟨q, 1, none⟩) hq _
theorem put4_below {B : Nat} {a w : World} (h : Below B a w) {q : Nat} (hq : B ≤ q) (v0 v1 v2 v3 : Value) : Below B a (put4 w q v0 v1 v2 v3) := (((h.setCell (p := ⟨q, 0, none⟩) hq _).setCell (p := ⟨q, 1, none⟩) hq _).setCell (p := ⟨q, 2, none⟩) hq _).setCell (p := ⟨q, 3, none⟩) hq _
/-- The two results' variables, written one behind the other. -/
theorem out_cells {w : World} {p q : Nat} {u0 u1 u2 u3 v0 v1 : Value} (hp : w.heap[p]? = some (.cells #[u0, u1, u2, u3] 26 (0, 0))) (hq : w.heap[q]? = some (.cells #[v0, v1] 31 (0, 0))) (hpq : p ≠ q) (a b c d x y : Value) :
    (put2 (put4 w p a b c d) q x y).cell? ⟨p, 0, none⟩ = some a ∧ (put2 (put4 w p a b c d) q x y).cell? ⟨p, 1, none⟩ = some b ∧ (put2 (put4 w p a b c d) q x y).cell? ⟨p, 2, none⟩ = some c ∧ (put2 (put4 w p a b c d) q x y).cell? ⟨p, 3, none⟩ = some d ∧
    (put2 (put4 w p a b c d) q x y).cell? ⟨q, 0, none⟩ = some x ∧ (put2 (put4 w p a b c d) q x y).cell? ⟨q, 1, none⟩ = some y := by
 have h1 := (put2_other x y hpq).trans (put4_at hp a b c d)
 have h2 := put2_at ((put4_other a b c d (fun e => hpq e.symm)).trans hq) x y
 obtain ⟨a0, a1, a2, a3, _⟩ := four_of h1
 obtain ⟨b0, b1, _⟩ := two_of h2
 exact ⟨a0, a1, a2, a3, b0, b1⟩
theorem six_cells {w1 : World} {n : Nat} {u0 u1 u2 u3 v0 v1 : Value} (hp : w1.heap[n]? = some (.cells #[u0, u1, u2, u3] 26 (0, 0))) (hq : w1.heap[n + 1]? = some (.cells #[v0, v1] 31 (0, 0))) (c d : Int) :
    (put2 (put4 (put2 w1 (n + 1) (.int .i64 c) (.int .i64 d)) n (.int .i64 0) (.string ⟨#[]⟩) (.int .i64 0) (.slice none 0 0)) (n + 1) (.int .i64 c) (.int .i64 d)).cell? ⟨n, 0, none⟩ = some (.int .i64 0) ∧
    (put2 (put4 (put2 w1 (n + 1) (.int .i64 c) (.int .i64 d)) n (.int .i64 0) (.string ⟨#[]⟩) (.int .i64 0) (.slice none 0 0)) (n + 1) (.int .i64 c) (.int .i64 d)).cell? ⟨n, 1, none⟩ = some (.string ⟨#[]⟩) ∧
    (put2 (put4 (put2 w1 (n + 1) (.int .i64 c) (.int .i64 d)) n (.int .i64 0) (.string ⟨#[]⟩) (.int .i64 0) (.slice none 0 0)) (n + 1) (.int .i64 c) (.int .i64 d)).cell? ⟨n, 2, none⟩ = some (.int .i64 0) ∧
    (put2 (put4 (put2 w1 (n + 1) (.int .i64 c) (.int .i64 d)) n (.int .i64 0) (.string ⟨#[]⟩) (.int .i64 0) (.slice none 0 0)) (n + 1) (.int .i64 c) (.int .i64 d)).cell? ⟨n, 3, none⟩ = some (.slice none 0 0) ∧
    (put2 (put4 (put2 w1 (n + 1) (.int .i64 c) (.int .i64 d)) n (.int .i64 0) (.string ⟨#[]⟩) (.int .i64 0) (.slice none 0 0)) (n + 1) (.int .i64 c) (.int .i64 d)).cell? ⟨n + 1, 0, none⟩ = some (.int .i64 c) ∧
    (put2 (put4 (put2 w1 (n + 1) (.int .i64 c) (.int .i64 d)) n (.int .i64 0) (.string ⟨#[]⟩) (.int .i64 0) (.slice none 0 0)) (n + 1) (.int .i64 c) (.int .i64 d)).cell? ⟨n + 1, 1, none⟩ = some (.int .i64 d) :=
 out_cells ((put2_other _ _ (by omega)).trans hp) (put2_at hq _ _) (by omega) _ _ _ _ _ _

set_option maxRecDepth 100000 in
set_option maxHeartbeats 8000000 in
theorem parse_fault (s : ByteArray) (w : World) (hs : s.size ≤ maxLen) (hc : (wordsI s).2.1 ≠ 0) : Calls Tryz.prog 11 #[.string s] w (Parsed s w) := by
 have hP : parseI s = (.node 0 nil_ 0 [], (wordsI s).2.1, (wordsI s).2.2) := by unfold parseI; rw [if_pos hc]
 have hW := fun w => iWords_any s w hs
 generalize wordsI s = x at hP hW hc
 obtain ⟨ws, c, d⟩ := x
 have HW := mkHid hW
 have HP := mkHid hP
 have hc' : (c != 0) = true := by simpa using hc
 clear hP hW hc hs
 go_enter_defers Tryz.func11, Tryz.ntmps11
 go_wp2_with fail
 refine (HW.out _).mono ?_
 rintro e w1 ⟨v, rfl, _, b1⟩
 have P1 := (b1.block w.heap.size (by first | (simp; omega) | simp)).trans ((Lib.alloc_old _ _ _ (by simp)).trans (heap_alloc_new w _))
 have Q1 : w1.heap[w.heap.size + 1]? = some (.cells #[.int .i64 0, .int .i64 0] 31 (0, 0)) := (b1.block (w.heap.size + 1) (by first | (simp; omega) | simp)).trans (by have := heap_alloc_new (w.alloc (.cells #[.int .i64 0, .string ⟨#[]⟩, .int .i64 0, .slice none 0 0] 26)) (.cells #[.int .i64 0, .int .i64 0] 31); simpa using this)
 have B1 : Hid (Below w.heap.size w w1) := (((Below.refl _ _).alloc (Nat.le_refl _) _).alloc (by simp) _).trans (b1.mono (by first | (simp; omega) | simp))
 obtain ⟨c0, c1, c2, c3, f0, f1, f2, f3⟩ := four_of P1
 obtain ⟨d0, d1, e0, e1⟩ := two_of Q1
 have HPP := mkHid P1
 have HQ := mkHid Q1
 clear P1 Q1 b1
 go_wp2
 go_region
 all_goals
  go_wp2
  obtain ⟨q0, q1, q2, q3, r0, r1⟩ := six_cells HPP.out HQ.out c d
  refine ⟨.tuple #[(A.node 0 ⟨#[]⟩ 0 none 0 []).val, .agg #[.int .i64 c, .int .i64 d]], by simp [results, Tryz.results11, go_sem, q0, q1, q2, q3, r0, r1, A.val], ?_⟩
  refine ⟨_, by rw [HP.out], by rw [HP.out, erase0]; rfl, Sits.leaf _ _ _ (by decide), New.leaf _ _ _ _ _ _, ?_⟩
  exact ((((((((B1.out.setCell (p := ⟨w.heap.size + 1, 0, none⟩) (Nat.le_succ _) _).setCell (p := ⟨w.heap.size + 1, 1, none⟩) (Nat.le_succ _) _).setCell (p := ⟨w.heap.size, 0, none⟩) (Nat.le_refl _) _).setCell (p := ⟨w.heap.size, 1, none⟩) (Nat.le_refl _) _).setCell (p := ⟨w.heap.size, 2, none⟩) (Nat.le_refl _) _).setCell (p := ⟨w.heap.size, 3, none⟩) (Nat.le_refl _) _).setCell (p := ⟨w.heap.size + 1, 0, none⟩) (Nat.le_succ _) _).setCell (p := ⟨w.heap.size + 1, 1, none⟩) (Nat.le_succ _) _).drew
def A.v0 : A → Value
 | .node k _ _ _ _ _ => .int .i64 k
def A.v1 : A → Value
 | .node _ s _ _ _ _ => .string s
def A.v2 : A → Value
 | .node _ _ m _ _ _ => .int .i64 m
def A.v3 : A → Value
 | .node _ _ _ a c kk => .slice a kk.length c
theorem below_step' {B : Nat} {a b c : World} (h : Below B a b) (k : Below b.heap.size b c) (hB : B ≤ b.heap.size) : Below B a c := h.trans (k.mono hB)
/-- The reader as Parse lays it. -/
theorem rd_of {w1 : World} {n base sz : Nat} {v : Value} {ws : List W3} {c d : Value} (ho : Owns w1 base v ws) (hn : ws.length ≤ 1500) (hb : n + 1 < base) : ∃ a cap, v = .slice a ws.length cap ∧
    Rd ((put2 w1 (n + 1) c d).alloc (.cells #[v, .int .i64 0, .int .i64 sz] 61)) w1.heap.size a cap ws 0 sz := by
 have hz := put2_size w1 (n + 1) c d
 obtain ⟨a, cap, rfl⟩ := ho.form
 refine ⟨a, cap, rfl, ?_, ?_, hn⟩
 ·have := heap_alloc_new (put2 w1 (n + 1) c d) (.cells #[.slice a ws.length cap, .int .i64 0, .int .i64 sz] 61)
  rw [hz] at this
  exact this
 ·by_cases h0 : ws.length = 0
  ·exact .inl (List.eq_nil_of_length_eq_zero h0)
  ·obtain ⟨g, cap', hv⟩ := ho.some h0
   obtain ⟨ha, _, _⟩ : a = some ⟨g, 0, none⟩ ∧ True ∧ cap = cap' := by simp at hv; exact ⟨hv.1, trivial, hv.2⟩
   subst ha
   have hl := lies_of_row ho
   have hg : base ≤ g ∧ g < w1.heap.size := World.ownsRow.lt ho g rfl
   refine .inr ⟨g, rfl, hg.2, hl.keep (.inr ?_)⟩
   rw [Lib.alloc_old _ _ _ (by rw [hz]; exact hg.2), put2_other _ _ (by omega)]

set_option maxRecDepth 100000 in
set_option maxHeartbeats 8000000 in
theorem parse_no (s : ByteArray) (w : World) (hs : s.size ≤ maxLen) (hc : (wordsI s).2.1 = 0) {p : Nat} (hr : mProg (wordsI s).1 (fuelI (wordsI s).1) (fuelI (wordsI s).1) [] 0 = .no p) : Calls Tryz.prog 11 #[.string s] w (Parsed s w) := by
 have hW := fun w => iWords_any s w hs
 have he := words_env s
 have hE := fun rb a cap w h => reader_all (rb := rb) (a := a) (cap := cap) (sz := s.size) he (show 5 * (wordsI s).1.length + 3 ≤ fuelI (wordsI s).1 by unfold fuelI; omega) w h
 have hfew := he.few
 have hP : parseI s = (.node 0 nil_ 0 [], 4, placeI (wordsI s).1 p s.size) := by unfold parseI; rw [if_neg (by rw [hc]; decide), hr]
 simp only [hr] at hE
 clear hr
 generalize wordsI s = x at hP hW hc hE hfew
 obtain ⟨ws, c, d⟩ := x
 simp only at hc hE hfew
 subst hc
 have HW := mkHid hW
 have HP := mkHid hP
 have HE := mkHid hE
 have hmf : ∀ (fn : Fn) (first cap : Array Value) (w : World), (Instr.makeFunc fn first cap).run Tryz.prog w = .ok (.func fn first cap) w := fun _ _ _ _ => rfl
 unfold maxLen at hs
 clear hP hW hE he
 go_enter_defers Tryz.func11, Tryz.ntmps11
 go_wp2_with fail
 refine (HW.out _).mono ?_
 rintro e w1 ⟨v, rfl, ho, b1⟩
 have P1 := (b1.block w.heap.size (by first | (simp; omega) | simp)).trans ((Lib.alloc_old _ _ _ (by simp)).trans (heap_alloc_new w _))
 have Q1 : w1.heap[w.heap.size + 1]? = some (.cells #[.int .i64 0, .int .i64 0] 31 (0, 0)) := (b1.block (w.heap.size + 1) (by first | (simp; omega) | simp)).trans (by have := heap_alloc_new (w.alloc (.cells #[.int .i64 0, .string ⟨#[]⟩, .int .i64 0, .slice none 0 0] 26)) (.cells #[.int .i64 0, .int .i64 0] 31); simpa using this)
 have B1 : Hid (Below w.heap.size w w1) := (((Below.refl _ _).alloc (Nat.le_refl _) _).alloc (by simp) _).trans (b1.mono (by first | (simp; omega) | simp))
 have z1 : w.heap.size + 1 < w1.heap.size := (Array.getElem?_eq_some_iff.1 Q1).1
 obtain ⟨a, cap, rfl, hrd⟩ := rd_of (n := w.heap.size) (sz := s.size) (c := .int .i64 0) (d := .int .i64 d) ho hfew (by simp)
 obtain ⟨c0, c1, c2, c3, f0, f1, f2, f3⟩ := four_of P1
 obtain ⟨d0, d1, e0, e1⟩ := two_of Q1
 have hz : (put2 w1 (w.heap.size + 1) (.int .i64 0) (.int .i64 d)).heap.size = w1.heap.size := put2_size _ _ _ _
 have P2 := mkHid ((Lib.alloc_old (put2 w1 (w.heap.size + 1) (.int .i64 0) (.int .i64 d)) (.cells #[.slice a ws.length cap, .int .i64 0, .int .i64 s.size] 61) w.heap.size (by omega)).trans ((put2_other _ _ (by omega)).trans P1))
 have Q2 := mkHid ((Lib.alloc_old (put2 w1 (w.heap.size + 1) (.int .i64 0) (.int .i64 d)) (.cells #[.slice a ws.length cap, .int .i64 0, .int .i64 s.size] 61) (w.heap.size + 1) (by omega)).trans (put2_at Q1 (.int .i64 0) (.int .i64 d)))
 have B2 : Hid (Below w.heap.size w ((put2 w1 (w.heap.size + 1) (.int .i64 0) (.int .i64 d)).alloc (.cells #[.slice a ws.length cap, .int .i64 0, .int .i64 s.size] 61))) := (put2_below B1.out (Nat.le_succ _) _ _).alloc (by rw [put2_size]; omega) _
 have RD := mkHid hrd
 clear P1 Q1 b1 ho hrd B1
 go_wp2_with fail
 refine (HE.out _ a cap _ RD.out).mono ?_
 rintro e w3 ⟨⟨m, rfl⟩, r3, s3⟩
 have P3 := s3.at P2.out (by omega)
 have Q3 := s3.at Q2.out (by omega)
 have B3 : Below w.heap.size w w3 := B2.out.trans ((s3.below (by simp [World.setCell])).mono (by omega))
 refine leaves_cons (f := 33) (args := #[.pointer (some ⟨w1.heap.size, 0, none⟩), .pointer (some ⟨w.heap.size, 0, none⟩), .pointer (some ⟨w.heap.size + 1, 0, none⟩)]) (by simp) (by simp [go_sem]) ?_
 refine (catch_panicking w1.heap.size a cap ws p s.size w.heap.size (w.heap.size + 1) m w3 r3 P3 Q3 (by omega)).mono ?_
 rintro e u' w'' ⟨rfl, rfl, n, rfl⟩
 obtain ⟨q0, q1, q2, q3, r0, r1⟩ := out_cells (w := w3.drewN n) P3 Q3 (by omega) (.int .i64 0) (.string ⟨#[]⟩) (.int .i64 0) (.slice none 0 0) (.int .i64 4) (.int .i64 (placeI ws p s.size))
 show Leaves _ _ _ _ [] .returning _
 refine ⟨.tuple #[(A.node 0 ⟨#[]⟩ 0 none 0 []).val, .agg #[.int .i64 4, .int .i64 (placeI ws p s.size)]], by unfold six; simp [results, Tryz.results11, go_sem, q0, q1, q2, q3, r0, r1, A.val], ?_⟩
 refine ⟨_, by rw [HP.out], by rw [HP.out, erase0]; rfl, Sits.leaf _ _ _ (by decide), New.leaf _ _ _ _ _ _, ?_⟩
 exact put2_below (put4_below (below_drewN B3 n) (Nat.le_refl _) _ _ _ _) (Nat.le_succ _) _ _
set_option maxRecDepth 100000 in
set_option maxHeartbeats 8000000 in
theorem parse_large (s : ByteArray) (w : World) (hs : s.size ≤ maxLen) (hc : (wordsI s).2.1 = 0) {t : T} {j : Nat} (hr : mProg (wordsI s).1 (fuelI (wordsI s).1) (fuelI (wordsI s).1) [] 0 = .ok t j) (hd : ¬ (dep t ≤ 24 ∧ cnt t ≤ 500)) : Calls Tryz.prog 11 #[.string s] w (Parsed s w) := by
 have hW := fun w => iWords_any s w hs
 have he := words_env s
 have hE := fun rb a cap w h => reader_all (rb := rb) (a := a) (cap := cap) (sz := s.size) he (show 5 * (wordsI s).1.length + 3 ≤ fuelI (wordsI s).1 by unfold fuelI; omega) w h
 have hfew := he.few
 have hP : parseI s = (.node 0 nil_ 0 [], 5, 0) := by unfold parseI; rw [if_neg (by rw [hc]; decide), hr]; simp only; rw [if_neg hd]
 simp only [hr] at hE
 clear hr
 generalize wordsI s = x at hP hW hc hE hfew
 obtain ⟨ws, c, d⟩ := x
 simp only at hc hE hfew
 subst hc
 have HW := mkHid hW
 have HP := mkHid hP
 have HE := mkHid hE
 have hmf : ∀ (fn : Fn) (first cap : Array Value) (w : World), (Instr.makeFunc fn first cap).run Tryz.prog w = .ok (.func fn first cap) w := fun _ _ _ _ => rfl
 unfold maxLen at hs
 clear hP hW hE he
 go_enter_defers Tryz.func11, Tryz.ntmps11
 go_wp2_with fail
 refine (HW.out _).mono ?_
 rintro e w1 ⟨v, rfl, ho, b1⟩
 have P1 := (b1.block w.heap.size (by first | (simp; omega) | simp)).trans ((Lib.alloc_old _ _ _ (by simp)).trans (heap_alloc_new w _))
 have Q1 : w1.heap[w.heap.size + 1]? = some (.cells #[.int .i64 0, .int .i64 0] 31 (0, 0)) := (b1.block (w.heap.size + 1) (by first | (simp; omega) | simp)).trans (by have := heap_alloc_new (w.alloc (.cells #[.int .i64 0, .string ⟨#[]⟩, .int .i64 0, .slice none 0 0] 26)) (.cells #[.int .i64 0, .int .i64 0] 31); simpa using this)
 have B1 : Hid (Below w.heap.size w w1) := (((Below.refl _ _).alloc (Nat.le_refl _) _).alloc (by simp) _).trans (b1.mono (by first | (simp; omega) | simp))
 have z1 : w.heap.size + 1 < w1.heap.size := (Array.getElem?_eq_some_iff.1 Q1).1
 obtain ⟨a, cap, rfl, hrd⟩ := rd_of (n := w.heap.size) (sz := s.size) (c := .int .i64 0) (d := .int .i64 d) ho hfew (by simp)
 obtain ⟨c0, c1, c2, c3, f0, f1, f2, f3⟩ := four_of P1
 obtain ⟨d0, d1, e0, e1⟩ := two_of Q1
 have hz : (put2 w1 (w.heap.size + 1) (.int .i64 0) (.int .i64 d)).heap.size = w1.heap.size := put2_size _ _ _ _
 have P2 := mkHid ((Lib.alloc_old (put2 w1 (w.heap.size + 1) (.int .i64 0) (.int .i64 d)) (.cells #[.slice a ws.length cap, .int .i64 0, .int .i64 s.size] 61) w.heap.size (by omega)).trans ((put2_other _ _ (by omega)).trans P1))
 have Q2 := mkHid ((Lib.alloc_old (put2 w1 (w.heap.size + 1) (.int .i64 0) (.int .i64 d)) (.cells #[.slice a ws.length cap, .int .i64 0, .int .i64 s.size] 61) (w.heap.size + 1) (by omega)).trans (put2_at Q1 (.int .i64 0) (.int .i64 d)))
 have B2 : Hid (Below w.heap.size w ((put2 w1 (w.heap.size + 1) (.int .i64 0) (.int .i64 d)).alloc (.cells #[.slice a ws.length cap, .int .i64 0, .int .i64 s.size] 61))) := (put2_below B1.out (Nat.le_succ _) _ _).alloc (by rw [put2_size]; omega) _
 have RD := mkHid hrd
 clear P1 Q1 b1 ho hrd B1
 go_wp2_with fail
 refine (HE.out _ a cap _ RD.out).mono ?_
 rintro e w3 ⟨x, rfl, hx, hsx, hnx, r3, s3⟩
 have P3 := s3.at P2.out (by omega)
 have Q3 := s3.at Q2.out (by omega)
 have B3 : Hid (Below w.heap.size w w3) := B2.out.trans ((s3.below (by simp [World.setCell])).mono (by omega))
 have hn1 : New (w1.heap.size + 1) x := hnx.mono (by simp [World.setCell])
 have z3 : w1.heap.size ≤ w3.heap.size := by have := s3.size; simp [World.setCell] at this; omega
 have hW4 := Sits.stay (w' := put4 w3 w.heap.size x.v0 x.v1 x.v2 x.v3) x (fun q hq => put4_other _ _ _ _ (by have := hn1.2 q hq; omega)) hsx
 have hk := Sits.lies (lo := 0) x hW4 (fun _ _ => Nat.zero_le _)
 have hlen : x.kids.length ≤ maxLen := by cases x; simp only [Sits] at hsx; exact hsx.2.1
 obtain ⟨xk, xs, xm, xa, xc, xkk⟩ := x
 have hS := isSmall_ok xk xs xm (erases xkk) xa xc _ (by rw [erases_len]; exact hlen) hk
 rw [erases_len] at hS
 have ht : decide (dep (.node xk xs xm (erases xkk)) ≤ 24 ∧ cnt (.node xk xs xm (erases xkk)) ≤ 500) = false := by
  have e : T.node xk xs xm (erases xkk) = t := by rw [← hx]; simp only [A.erase]
  rw [e]
  simpa using hd
 rw [ht] at hS
 have HS := mkHid hS
 have P4 := mkHid (put4_at P3 (.int .i64 xk) (.string xs) (.int .i64 xm) (.slice xa xkk.length xc))
 have Q4 := mkHid ((put4_other (w := w3) (.int .i64 xk) (.string xs) (.int .i64 xm) (.slice xa xkk.length xc) (show w.heap.size + 1 ≠ w.heap.size by omega)).trans Q3)
 have HX := mkHid hx
 have HSX := mkHid hW4
 have HN := mkHid hn1
 have B4 := mkHid (put4_below B3.out (Nat.le_refl _) (.int .i64 xk) (.string xs) (.int .i64 xm) (.slice xa xkk.length xc))
 obtain ⟨k0, k1, k2, k3, l0, l1, l2, l3⟩ := four_of P3
 clear P3 Q3 hx hsx hnx r3 s3 hn1 hW4 hk hS ht c0 c1 c2 c3 f0 f1 f2 f3 d0 d1 e0 e1 hd
 simp only [A.val]
 go_wp2_with fail
 refine HS.out.mono ?_
 rintro e w5 ⟨rfl, b5⟩
 have P5 := (b5.block w.heap.size (Array.getElem?_eq_some_iff.1 P4.out).1).trans P4.out
 have Q5 := (b5.block (w.heap.size + 1) (Array.getElem?_eq_some_iff.1 Q4.out).1).trans Q4.out
 have B5 := below_step' B4.out b5 (by rw [put4_size]; omega)
 have HS5 := Sits.stay _ (fun q hq => b5.block q (Sits.lt _ HSX.out q hq)) HSX.out
 obtain ⟨c0, c1, c2, c3, f0, f1, f2, f3⟩ := four_of P5
 obtain ⟨d0, d1, e0, e1⟩ := two_of Q5
 have HP5 := mkHid P5
 have HQ5 := mkHid Q5
 have HB5 := mkHid B5
 have HS6 := mkHid HS5
 clear P5 Q5 B5 b5 HS5 P4 Q4 HSX B4 B3 k0 k1 k2 k3 l0 l1 l2 l3
 go_wp2
 refine leaves_cons (f := 33) (args := #[.pointer (some ⟨w1.heap.size, 0, none⟩), .pointer (some ⟨w.heap.size, 0, none⟩), .pointer (some ⟨w.heap.size + 1, 0, none⟩)]) (by simp) (by simp [go_sem]) ?_
 refine (catch_idle _ _ _ _).mono ?_
 rintro e u' w'' ⟨rfl, rfl, rfl⟩
 obtain ⟨q0, q1, q2, q3, r0, r1⟩ := out_cells HP5.out HQ5.out (by omega) (.int .i64 0) (.string ⟨#[]⟩) (.int .i64 0) (.slice none 0 0) (.int .i64 5) (.int .i64 0)
 refine ⟨.tuple #[(A.node 0 ⟨#[]⟩ 0 none 0 []).val, .agg #[.int .i64 5, .int .i64 0]], by simp [results, Tryz.results11, go_sem, q0, q1, q2, q3, r0, r1, A.val], ?_⟩
 refine ⟨_, by rw [HP.out], by rw [HP.out, erase0]; rfl, Sits.leaf _ _ _ (by decide), New.leaf _ _ _ _ _ _, ?_⟩
 exact put2_below (put4_below HB5.out (Nat.le_refl _) _ _ _ _) (Nat.le_succ _) _ _
set_option maxRecDepth 100000 in
set_option maxHeartbeats 8000000 in
theorem parse_small (s : ByteArray) (w : World) (hs : s.size ≤ maxLen) (hc : (wordsI s).2.1 = 0) {t : T} {j : Nat} (hr : mProg (wordsI s).1 (fuelI (wordsI s).1) (fuelI (wordsI s).1) [] 0 = .ok t j) (hd : dep t ≤ 24 ∧ cnt t ≤ 500) : Calls Tryz.prog 11 #[.string s] w (Parsed s w) := by
 have hW := fun w => iWords_any s w hs
 have he := words_env s
 have hE := fun rb a cap w h => reader_all (rb := rb) (a := a) (cap := cap) (sz := s.size) he (show 5 * (wordsI s).1.length + 3 ≤ fuelI (wordsI s).1 by unfold fuelI; omega) w h
 have hfew := he.few
 have hP : parseI s = (t, 0, 0) := by unfold parseI; rw [if_neg (by rw [hc]; decide), hr]; simp only; rw [if_pos hd]
 simp only [hr] at hE
 clear hr
 generalize wordsI s = x at hP hW hc hE hfew
 obtain ⟨ws, c, d⟩ := x
 simp only at hc hE hfew
 subst hc
 have HW := mkHid hW
 have HP := mkHid hP
 have HE := mkHid hE
 have hmf : ∀ (fn : Fn) (first cap : Array Value) (w : World), (Instr.makeFunc fn first cap).run Tryz.prog w = .ok (.func fn first cap) w := fun _ _ _ _ => rfl
 unfold maxLen at hs
 clear hP hW hE he
 go_enter_defers Tryz.func11, Tryz.ntmps11
 go_wp2_with fail
 refine (HW.out _).mono ?_
 rintro e w1 ⟨v, rfl, ho, b1⟩
 have P1 := (b1.block w.heap.size (by first | (simp; omega) | simp)).trans ((Lib.alloc_old _ _ _ (by simp)).trans (heap_alloc_new w _))
 have Q1 : w1.heap[w.heap.size + 1]? = some (.cells #[.int .i64 0, .int .i64 0] 31 (0, 0)) := (b1.block (w.heap.size + 1) (by first | (simp; omega) | simp)).trans (by have := heap_alloc_new (w.alloc (.cells #[.int .i64 0, .string ⟨#[]⟩, .int .i64 0, .slice none 0 0] 26)) (.cells #[.int .i64 0, .int .i64 0] 31); simpa using this)
 have B1 : Hid (Below w.heap.size w w1) := (((Below.refl _ _).alloc (Nat.le_refl _) _).alloc (by simp) _).trans (b1.mono (by first | (simp; omega) | simp))
 have z1 : w.heap.size + 1 < w1.heap.size := (Array.getElem?_eq_some_iff.1 Q1).1
 obtain ⟨a, cap, rfl, hrd⟩ := rd_of (n := w.heap.size) (sz := s.size) (c := .int .i64 0) (d := .int .i64 d) ho hfew (by simp)
 obtain ⟨c0, c1, c2, c3, f0, f1, f2, f3⟩ := four_of P1
 obtain ⟨d0, d1, e0, e1⟩ := two_of Q1
 have hz : (put2 w1 (w.heap.size + 1) (.int .i64 0) (.int .i64 d)).heap.size = w1.heap.size := put2_size _ _ _ _
 have P2 := mkHid ((Lib.alloc_old (put2 w1 (w.heap.size + 1) (.int .i64 0) (.int .i64 d)) (.cells #[.slice a ws.length cap, .int .i64 0, .int .i64 s.size] 61) w.heap.size (by omega)).trans ((put2_other _ _ (by omega)).trans P1))
 have Q2 := mkHid ((Lib.alloc_old (put2 w1 (w.heap.size + 1) (.int .i64 0) (.int .i64 d)) (.cells #[.slice a ws.length cap, .int .i64 0, .int .i64 s.size] 61) (w.heap.size + 1) (by omega)).trans (put2_at Q1 (.int .i64 0) (.int .i64 d)))
 have B2 : Hid (Below w.heap.size w ((put2 w1 (w.heap.size + 1) (.int .i64 0) (.int .i64 d)).alloc (.cells #[.slice a ws.length cap, .int .i64 0, .int .i64 s.size] 61))) := (put2_below B1.out (Nat.le_succ _) _ _).alloc (by rw [put2_size]; omega) _
 have RD := mkHid hrd
 clear P1 Q1 b1 ho hrd B1
 go_wp2_with fail
 refine (HE.out _ a cap _ RD.out).mono ?_
 rintro e w3 ⟨x, rfl, hx, hsx, hnx, r3, s3⟩
 have P3 := s3.at P2.out (by omega)
 have Q3 := s3.at Q2.out (by omega)
 have B3 : Hid (Below w.heap.size w w3) := B2.out.trans ((s3.below (by simp [World.setCell])).mono (by omega))
 have hn1 : New (w1.heap.size + 1) x := hnx.mono (by simp [World.setCell])
 have z3 : w1.heap.size ≤ w3.heap.size := by have := s3.size; simp [World.setCell] at this; omega
 have hW4 := Sits.stay (w' := put4 w3 w.heap.size x.v0 x.v1 x.v2 x.v3) x (fun q hq => put4_other _ _ _ _ (by have := hn1.2 q hq; omega)) hsx
 have hk := Sits.lies (lo := 0) x hW4 (fun _ _ => Nat.zero_le _)
 have hlen : x.kids.length ≤ maxLen := by cases x; simp only [Sits] at hsx; exact hsx.2.1
 obtain ⟨xk, xs, xm, xa, xc, xkk⟩ := x
 have hS := isSmall_ok xk xs xm (erases xkk) xa xc _ (by rw [erases_len]; exact hlen) hk
 rw [erases_len] at hS
 have ht : decide (dep (.node xk xs xm (erases xkk)) ≤ 24 ∧ cnt (.node xk xs xm (erases xkk)) ≤ 500) = true := by
  have e : T.node xk xs xm (erases xkk) = t := by rw [← hx]; simp only [A.erase]
  rw [e]
  simpa using hd
 rw [ht] at hS
 have HS := mkHid hS
 have P4 := mkHid (put4_at P3 (.int .i64 xk) (.string xs) (.int .i64 xm) (.slice xa xkk.length xc))
 have Q4 := mkHid ((put4_other (w := w3) (.int .i64 xk) (.string xs) (.int .i64 xm) (.slice xa xkk.length xc) (show w.heap.size + 1 ≠ w.heap.size by omega)).trans Q3)
 have HX := mkHid hx
 have HSX := mkHid hW4
 have HN := mkHid hn1
 have B4 := mkHid (put4_below B3.out (Nat.le_refl _) (.int .i64 xk) (.string xs) (.int .i64 xm) (.slice xa xkk.length xc))
 obtain ⟨k0, k1, k2, k3, l0, l1, l2, l3⟩ := four_of P3
 clear P3 Q3 hx hsx hnx r3 s3 hn1 hW4 hk hS ht c0 c1 c2 c3 f0 f1 f2 f3 d0 d1 e0 e1 hd
 simp only [A.val]
 go_wp2_with fail
 refine HS.out.mono ?_
 rintro e w5 ⟨rfl, b5⟩
 have P5 := (b5.block w.heap.size (Array.getElem?_eq_some_iff.1 P4.out).1).trans P4.out
 have Q5 := (b5.block (w.heap.size + 1) (Array.getElem?_eq_some_iff.1 Q4.out).1).trans Q4.out
 have B5 := below_step' B4.out b5 (by rw [put4_size]; omega)
 have HS5 := Sits.stay _ (fun q hq => b5.block q (Sits.lt _ HSX.out q hq)) HSX.out
 obtain ⟨c0, c1, c2, c3, f0, f1, f2, f3⟩ := four_of P5
 obtain ⟨d0, d1, e0, e1⟩ := two_of Q5
 have HP5 := mkHid P5
 have HQ5 := mkHid Q5
 have HB5 := mkHid B5
 have HS6 := mkHid HS5
 clear P5 Q5 B5 b5 HS5 P4 Q4 HSX B4 B3 k0 k1 k2 k3 l0 l1 l2 l3
 go_wp2
 refine leaves_cons (f := 33) (args := #[.pointer (some ⟨w1.heap.size, 0, none⟩), .pointer (some ⟨w.heap.size, 0, none⟩), .pointer (some ⟨w.heap.size + 1, 0, none⟩)]) (by simp) (by simp [go_sem]) ?_
 refine (catch_idle _ _ _ _).mono ?_
 rintro e u' w'' ⟨rfl, rfl, rfl⟩
 obtain ⟨q0, q1, q2, q3, r0, r1⟩ := out_cells HP5.out HQ5.out (by omega) (.int .i64 xk) (.string xs) (.int .i64 xm) (.slice xa xkk.length xc) (.int .i64 0) (.int .i64 0)
 refine ⟨.tuple #[(A.node xk xs xm xa xc xkk).val, .agg #[.int .i64 0, .int .i64 0]], by simp [results, Tryz.results11, go_sem, q0, q1, q2, q3, r0, r1, A.val], ?_⟩
 refine ⟨_, by rw [HP.out], by rw [HP.out]; exact HX.out, Sits.stay _ (fun q hq => ?_) HS6.out, HN.out.mono (by omega), ?_⟩
 ·have := HN.out.2 q hq
  rw [put2_other _ _ (by omega), put4_other _ _ _ _ (by omega)]
 ·exact put2_below (put4_below HB5.out (Nat.le_refl _) _ _ _ _) (Nat.le_succ _) _ _
/-- The program's Parse. -/
theorem iParse_any (s : ByteArray) (w : World) (hs : s.size ≤ maxLen) : Calls Tryz.prog 11 #[.string s] w (Parsed s w) := by
 by_cases hc : (wordsI s).2.1 = 0
 ·cases hr : mProg (wordsI s).1 (fuelI (wordsI s).1) (fuelI (wordsI s).1) [] 0 with
  | no p => exact parse_no s w hs hc hr
  | ok t j =>
    by_cases hd : dep t ≤ 24 ∧ cnt t ≤ 500
    ·exact parse_small s w hs hc hr hd
    ·exact parse_large s w hs hc hr hd
 ·exact parse_fault s w hs hc
end Go.Proofs.YtjmjmdmnejnlbaaGreatDoor
