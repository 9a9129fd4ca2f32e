/-
  CONTRACT of the specification's Parse: it answers as the plain reading does.
-/
import Derived.Test.YtedfnadgmhjojaaGreatDoorMCn
import Derived.Test.YtedfnadgmhjojaaGreatDoorMRpars
namespace Go.Proofs.YtedfnadgmhjojaaGreatDoor
open Go.RowKit
open Pl

/-- The reader as the specification's Parse lays it. -/
theorem sd_of {w1 : World} {base : Nat} {v : Value} {ws : List W3} {o : Obj} (ho : Owns w1 base v ws) (hn : ws.length ≤ 1500) : ∃ a cap, v = .slice a ws.length cap ∧
    Sd ((w1.alloc o).alloc (.cells #[v, .int .i64 0, .bool false] 96)) (w1.heap.size + 1) a cap ws (0, false) := by
 have hz : (w1.alloc o).heap.size = w1.heap.size + 1 := by simp
 obtain ⟨a, cap, rfl⟩ := ho.form
 refine ⟨a, cap, rfl, ?_, ?_, hn⟩
 ·have := heap_alloc_new (w1.alloc o) (.cells #[.slice a ws.length cap, .int .i64 0, .bool false] 96)
  rw [hz] at this
  exact this
 ·by_cases h0 : ws.length = 0
  ·exact .inl (List.eq_nil_of_length_eq_zero h0)
  ·obtain ⟨g, cap', hv⟩ := ho.some h0
   obtain ⟨ha, _, _⟩ : a = some ⟨g, 0, none⟩ ∧ True ∧ cap = cap' := by simp at hv; exact ⟨hv.1, trivial, hv.2⟩
   subst ha
   have hl := lies_of_row ho
   have hg : base ≤ g ∧ g < w1.heap.size := World.ownsRow.lt ho g rfl
   refine .inr ⟨g, rfl, by omega, hl.keep (.inr ?_)⟩
   rw [Lib.alloc_old _ _ _ (by rw [hz]; omega), Lib.alloc_old _ _ _ hg.2]
theorem out_cells_o {w : World} {p q : Nat} {u0 u1 u2 u3 v0 v1 : Value} (o : Obj) (hp : w.heap[p]? = some (.cells #[u0, u1, u2, u3] 38 (0, 0))) (hq : w.heap[q]? = some (.cells #[v0, v1] 75 (0, 0))) (hpq : p ≠ q) (a b c d x y : Value) :
    ((put2 (put4 w p a b c d) q x y).alloc o).cell? ⟨p, 0, none⟩ = some a ∧ ((put2 (put4 w p a b c d) q x y).alloc o).cell? ⟨p, 1, none⟩ = some b ∧ ((put2 (put4 w p a b c d) q x y).alloc o).cell? ⟨p, 2, none⟩ = some c ∧ ((put2 (put4 w p a b c d) q x y).alloc o).cell? ⟨p, 3, none⟩ = some d ∧
    ((put2 (put4 w p a b c d) q x y).alloc o).cell? ⟨q, 0, none⟩ = some x ∧ ((put2 (put4 w p a b c d) q x y).alloc o).cell? ⟨q, 1, none⟩ = some y := by
 have hz : (put2 (put4 w p a b c d) q x y).heap.size = w.heap.size := by rw [put2_size, put4_size]
 have h1 := (Lib.alloc_old (put2 (put4 w p a b c d) q x y) o p (by rw [hz]; exact (Array.getElem?_eq_some_iff.1 hp).1)).trans ((put2_other x y hpq).trans (put4_at hp a b c d))
 have h2 := (Lib.alloc_old (put2 (put4 w p a b c d) q x y) o q (by rw [hz]; exact (Array.getElem?_eq_some_iff.1 hq).1)).trans (put2_at ((put4_other a b c d (fun e => hpq e.symm)).trans hq) x y)
 obtain ⟨a0, a1, a2, a3, _⟩ := four_of h1
 obtain ⟨b0, b1, _⟩ := two_of h2
 exact ⟨a0, a1, a2, a3, b0, b1⟩
theorem out_below {B : Nat} {a w : World} (h : Below B a w) {p q : Nat} (hp : B ≤ p) (hq : B ≤ q) (hB : B ≤ w.heap.size) (v0 v1 v2 v3 u0 u1 : Value) (o : Obj) : Below B a ((put2 (put4 w p v0 v1 v2 v3) q u0 u1).alloc o) :=
 (put2_below (put4_below h hp v0 v1 v2 v3) hq u0 u1).alloc (by rw [put2_size, put4_size]; exact hB) o
theorem sreader_all {rb : Nat} {a : Option Addr} {cap : Nat} {ws : List W3} {F : Nat} (he : Env ws) (hF : 5 * ws.length + 3 ≤ F) : SProg rb a cap ws F :=
 have hE : SExpr rb a cap ws F := (sexpr_all he F F (Nat.le_refl _)).2.2
 sprog_all he hF (sstmt_all he hF hE F F (Nat.le_refl _)).1
set_option maxRecDepth 100000 in
set_option maxHeartbeats 8000000 in
theorem sparse_fault (s : ByteArray) (w : World) (hs : s.size ≤ maxLen) (hc : (wordsI s).2.1 ≠ 0) : Calls Tryz.prog 44 #[.string s] w (Parsed s w) := by
 have hP : parseI s = (.node 0 nil_ 0 [], (wordsI s).2.1, (wordsI s).2.2) := by unfold parseI; rw [if_pos hc]
 have hW := fun w => sWords_any s w hs
 generalize wordsI s = x at hP hW hc
 obtain ⟨ws, c, d⟩ := x
 have HW := mkHid hW
 have HP := mkHid hP
 have hc' : (c != 0) = true := by simpa using hc
 clear hP hW hc hs
 go_enter Tryz.func44, Tryz.ntmps44
 go_wp2_with fail
 refine (HW.out _).mono ?_
 rintro e w1 ⟨v, rfl, _, b1⟩
 have P1 := (b1.block w.heap.size (by first | (simp; omega) | simp)).trans ((Lib.alloc_old _ _ _ (by simp)).trans (heap_alloc_new w _))
 have Q1 : w1.heap[w.heap.size + 1]? = some (.cells #[.int .i64 0, .int .i64 0] 75 (0, 0)) := (b1.block (w.heap.size + 1) (by first | (simp; omega) | simp)).trans (by have := heap_alloc_new (w.alloc (.cells #[.int .i64 0, .string ⟨#[]⟩, .int .i64 0, .slice none 0 0] 38)) (.cells #[.int .i64 0, .int .i64 0] 75); simpa using this)
 have B1 : Hid (Below w.heap.size w w1) := (((Below.refl _ _).alloc (Nat.le_refl _) _).alloc (by simp) _).trans (b1.mono (by first | (simp; omega) | simp))
 have z1 : w.heap.size + 1 < w1.heap.size := (Array.getElem?_eq_some_iff.1 Q1).1
 obtain ⟨c0, c1, c2, c3, f0, f1, f2, f3⟩ := four_of P1
 obtain ⟨d0, d1, e0, e1⟩ := two_of Q1
 have HPP := mkHid P1
 have HQ := mkHid Q1
 have zp : w.heap.size < w1.heap.size := by omega
 clear P1 Q1 b1
 go_wp2
 go_region
 all_goals
  go_wp2
  obtain ⟨q0, q1, q2, q3, r0, r1⟩ := out_cells_o (.cells #[.int .i64 c, .int .i64 d] 75) HPP.out HQ.out (by omega) (.int .i64 0) (.string ⟨#[]⟩) (.int .i64 0) (.slice none 0 0) (.int .i64 c) (.int .i64 d)
  exact bodyPost_ret (v := .tuple #[(A.node 0 ⟨#[]⟩ 0 none 0 []).val, .agg #[.int .i64 c, .int .i64 d]]) (by simp [results, Tryz.results44, go_sem, q0, q1, q2, q3, r0, r1, A.val]) rfl ⟨_, by rw [HP.out], by rw [HP.out, erase0]; rfl, Sits.leaf _ _ _ (by decide), New.leaf _ _ _ _ _ _, (out_below B1.out (Nat.le_refl _) (Nat.le_succ _) (by omega) _ _ _ _ _ _ _).drew⟩
set_option maxRecDepth 100000 in
set_option maxHeartbeats 8000000 in
theorem sparse_no (s : ByteArray) (w : World) (hs : s.size ≤ maxLen) (hc : (wordsI s).2.1 = 0) {p : Nat} (hr : mProg (wordsI s).1 (fuelI (wordsI s).1) (fuelI (wordsI s).1) [] 0 = .no p) : Calls Tryz.prog 44 #[.string s] w (Parsed s w) := by
 have hW := fun w => sWords_any s w hs
 have he := words_env s
 have hE := fun rb a cap w h => sreader_all (rb := rb) (a := a) (cap := cap) he (show 5 * (wordsI s).1.length + 3 ≤ fuelI (wordsI s).1 by unfold fuelI; omega) w h
 have hfew := he.few
 have hP : parseI s = (.node 0 nil_ 0 [], 4, placeI (wordsI s).1 p s.size) := by unfold parseI; rw [if_neg (by rw [hc]; decide), hr]
 simp only [hr] at hE
 clear hr
 generalize wordsI s = x at hP hW hc hE hfew
 obtain ⟨ws, c, d⟩ := x
 simp only at hc hE hfew
 subst hc
 have HW := mkHid hW
 have HP := mkHid hP
 have HE := mkHid hE
 unfold maxLen at hs
 clear hP hW hE he
 go_enter Tryz.func44, Tryz.ntmps44
 go_wp2_with fail
 refine (HW.out _).mono ?_
 rintro e w1 ⟨v, rfl, ho, b1⟩
 have P1 := (b1.block w.heap.size (by first | (simp; omega) | simp)).trans ((Lib.alloc_old _ _ _ (by simp)).trans (heap_alloc_new w _))
 have Q1 : w1.heap[w.heap.size + 1]? = some (.cells #[.int .i64 0, .int .i64 0] 75 (0, 0)) := (b1.block (w.heap.size + 1) (by first | (simp; omega) | simp)).trans (by have := heap_alloc_new (w.alloc (.cells #[.int .i64 0, .string ⟨#[]⟩, .int .i64 0, .slice none 0 0] 38)) (.cells #[.int .i64 0, .int .i64 0] 75); simpa using this)
 have B1 : Hid (Below w.heap.size w w1) := (((Below.refl _ _).alloc (Nat.le_refl _) _).alloc (by simp) _).trans (b1.mono (by first | (simp; omega) | simp))
 have z1 : w.heap.size + 1 < w1.heap.size := (Array.getElem?_eq_some_iff.1 Q1).1
 obtain ⟨a, cap, rfl, hsd⟩ := sd_of (o := .cells #[.int .i64 0, .int .i64 d] 75) ho hfew
 have P2 := mkHid ((Lib.alloc_old (w1.alloc (.cells #[.int .i64 0, .int .i64 d] 75)) (.cells #[.slice a ws.length cap, .int .i64 0, .bool false] 96) w.heap.size (by simp; omega)).trans ((Lib.alloc_old _ _ _ (by omega)).trans P1))
 have Q2 := mkHid ((Lib.alloc_old (w1.alloc (.cells #[.int .i64 0, .int .i64 d] 75)) (.cells #[.slice a ws.length cap, .int .i64 0, .bool false] 96) (w.heap.size + 1) (by simp; omega)).trans ((Lib.alloc_old _ _ _ (by omega)).trans Q1))
 have B2 : Hid (Below w.heap.size w ((w1.alloc (.cells #[.int .i64 0, .int .i64 d] 75)).alloc (.cells #[.slice a ws.length cap, .int .i64 0, .bool false] 96))) := (B1.out.alloc (by omega) _).alloc (by simp; omega) _
 have RD := mkHid hsd
 clear P1 Q1 b1 ho hsd B1
 go_wp2_with fail
 refine (HE.out _ a cap _ RD.out).mono ?_
 rintro e w3 ⟨x, st3, rfl, hsx, hnx, r3, s3, hr3⟩
 have P3 := s3.at P2.out (by omega)
 have Q3 := s3.at Q2.out (by omega)
 have B3 : Hid (Below w.heap.size w w3) := B2.out.trans ((s3.below (by simp)).mono (by omega))
 have z3 : w1.heap.size + 2 ≤ w3.heap.size := by have := s3.size; simp at this; omega
 have e3 := hr3.no
 subst e3
 obtain ⟨xk, xs, xm, xa, xc, xkk⟩ := x
 obtain ⟨k0, k1, k2, _, _⟩ := r3.cells
 simp only at k1 k2
 have RD3 := mkHid r3
 have zp : w.heap.size < w3.heap.size := by omega
 have zq : w.heap.size + 1 < w3.heap.size := by omega
 have zr : w1.heap.size + 1 < w3.heap.size := by omega
 obtain ⟨c0, c1, c2, c3, f0, f1, f2, f3⟩ := four_of P3
 obtain ⟨d0, d1, e0, e1⟩ := two_of Q3
 have HPP := mkHid P3
 have HQ := mkHid Q3
 clear P3 Q3 hsx hnx r3 s3 hr3 P2 Q2 B2 RD
 simp only [A.val]
 by_cases hl : p < ws.length
 ·obtain ⟨y, hy⟩ : ∃ y, ws[p]? = some y := ⟨_, List.getElem?_eq_getElem hl⟩
  obtain ⟨g, hg, _, _, d2⟩ := RD3.out.word hy
  subst hg
  have HPL := mkHid (show placeI ws p s.size = y.a by unfold placeI; rw [hy])
  have hl' : decide ((p : Int) < (ws.length : Int)) = true := by simp; omega
  have i0 : (0 : Int) ≤ (p : Int) := by omega
  have i1 : (p : Int) < (ws.length : Int) := by omega
  have zg : g < w3.heap.size := World.block_lt_of_cell? w3 _ d2
  clear hy RD3
  go_wp2
  obtain ⟨q0, q1, q2, q3, r0, r1⟩ := out_cells_o (.cells #[.int .i64 xk, .string xs, .int .i64 xm, .slice xa xkk.length xc] 38) HPP.out HQ.out (by omega) (.int .i64 0) (.string ⟨#[]⟩) (.int .i64 0) (.slice none 0 0) (.int .i64 4) (.int .i64 y.a)
  exact bodyPost_ret (v := .tuple #[(A.node 0 ⟨#[]⟩ 0 none 0 []).val, .agg #[.int .i64 4, .int .i64 y.a]]) (by simp [results, Tryz.results44, go_sem, q0, q1, q2, q3, r0, r1, A.val]) rfl ⟨_, by rw [HP.out, HPL.out], by rw [HP.out, erase0]; rfl, Sits.leaf _ _ _ (by decide), New.leaf _ _ _ _ _ _, out_below B3.out (Nat.le_refl _) (Nat.le_succ _) (by omega) _ _ _ _ _ _ _⟩
 ·have HPL := mkHid (show placeI ws p s.size = s.size by unfold placeI; rw [List.getElem?_eq_none (by omega)])
  have hl' : decide ((p : Int) < (ws.length : Int)) = false := by simp; omega
  clear RD3
  go_wp2
  obtain ⟨q0, q1, q2, q3, r0, r1⟩ := out_cells_o (.cells #[.int .i64 xk, .string xs, .int .i64 xm, .slice xa xkk.length xc] 38) HPP.out HQ.out (by omega) (.int .i64 0) (.string ⟨#[]⟩) (.int .i64 0) (.slice none 0 0) (.int .i64 4) (.int .i64 s.size)
  exact bodyPost_ret (v := .tuple #[(A.node 0 ⟨#[]⟩ 0 none 0 []).val, .agg #[.int .i64 4, .int .i64 s.size]]) (by simp [results, Tryz.results44, go_sem, q0, q1, q2, q3, r0, r1, A.val]) rfl ⟨_, by rw [HP.out, HPL.out], by rw [HP.out, erase0]; rfl, Sits.leaf _ _ _ (by decide), New.leaf _ _ _ _ _ _, out_below B3.out (Nat.le_refl _) (Nat.le_succ _) (by omega) _ _ _ _ _ _ _⟩
set_option maxRecDepth 100000 in
set_option maxHeartbeats 8000000 in
theorem sparse_large (s : ByteArray) (w : World) (hs : s.size ≤ maxLen) (hc : (wordsI s).2.1 = 0) {t : T} {j : Nat} (hr : mProg (wordsI s).1 (fuelI (wordsI s).1) (fuelI (wordsI s).1) [] 0 = .ok t j) (hd : ¬ (dep t ≤ 24 ∧ cnt t ≤ 500)) : Calls Tryz.prog 44 #[.string s] w (Parsed s w) := by
 have hW := fun w => sWords_any s w hs
 have he := words_env s
 have hE := fun rb a cap w h => sreader_all (rb := rb) (a := a) (cap := cap) he (show 5 * (wordsI s).1.length + 3 ≤ fuelI (wordsI s).1 by unfold fuelI; omega) w h
 have hfew := he.few
 have hP : parseI s = (.node 0 nil_ 0 [], 5, 0) := by unfold parseI; rw [if_neg (by rw [hc]; decide), hr]; simp only; rw [if_neg hd]
 have hcn : cnt t ≤ 1502 := by have := cn_prog _ _ _ _ _ (Nat.zero_le _) hr; simp only [cnts] at this; omega
 simp only [hr] at hE
 clear hr
 generalize wordsI s = x at hP hW hc hE hfew
 obtain ⟨ws, c, d⟩ := x
 simp only at hc hE hfew
 subst hc
 have HW := mkHid hW
 have HP := mkHid hP
 have HE := mkHid hE
 unfold maxLen at hs
 clear hP hW hE he
 go_enter Tryz.func44, Tryz.ntmps44
 go_wp2_with fail
 refine (HW.out _).mono ?_
 rintro e w1 ⟨v, rfl, ho, b1⟩
 have P1 := (b1.block w.heap.size (by first | (simp; omega) | simp)).trans ((Lib.alloc_old _ _ _ (by simp)).trans (heap_alloc_new w _))
 have Q1 : w1.heap[w.heap.size + 1]? = some (.cells #[.int .i64 0, .int .i64 0] 75 (0, 0)) := (b1.block (w.heap.size + 1) (by first | (simp; omega) | simp)).trans (by have := heap_alloc_new (w.alloc (.cells #[.int .i64 0, .string ⟨#[]⟩, .int .i64 0, .slice none 0 0] 38)) (.cells #[.int .i64 0, .int .i64 0] 75); simpa using this)
 have B1 : Hid (Below w.heap.size w w1) := (((Below.refl _ _).alloc (Nat.le_refl _) _).alloc (by simp) _).trans (b1.mono (by first | (simp; omega) | simp))
 have z1 : w.heap.size + 1 < w1.heap.size := (Array.getElem?_eq_some_iff.1 Q1).1
 obtain ⟨a, cap, rfl, hsd⟩ := sd_of (o := .cells #[.int .i64 0, .int .i64 d] 75) ho hfew
 have P2 := mkHid ((Lib.alloc_old (w1.alloc (.cells #[.int .i64 0, .int .i64 d] 75)) (.cells #[.slice a ws.length cap, .int .i64 0, .bool false] 96) w.heap.size (by simp; omega)).trans ((Lib.alloc_old _ _ _ (by omega)).trans P1))
 have Q2 := mkHid ((Lib.alloc_old (w1.alloc (.cells #[.int .i64 0, .int .i64 d] 75)) (.cells #[.slice a ws.length cap, .int .i64 0, .bool false] 96) (w.heap.size + 1) (by simp; omega)).trans ((Lib.alloc_old _ _ _ (by omega)).trans Q1))
 have B2 : Hid (Below w.heap.size w ((w1.alloc (.cells #[.int .i64 0, .int .i64 d] 75)).alloc (.cells #[.slice a ws.length cap, .int .i64 0, .bool false] 96))) := (B1.out.alloc (by omega) _).alloc (by simp; omega) _
 have RD := mkHid hsd
 clear P1 Q1 b1 ho hsd B1
 go_wp2_with fail
 refine (HE.out _ a cap _ RD.out).mono ?_
 rintro e w3 ⟨x, st3, rfl, hsx, hnx, r3, s3, hr3⟩
 have P3 := s3.at P2.out (by omega)
 have Q3 := s3.at Q2.out (by omega)
 have B3 : Hid (Below w.heap.size w w3) := B2.out.trans ((s3.below (by simp)).mono (by omega))
 have z3 : w1.heap.size + 2 ≤ w3.heap.size := by have := s3.size; simp at this; omega
 have ht := hr3.ok.1
 have e3 := hr3.ok.2
 subst e3
 have hsx4 := Sits.stay (w' := w3.alloc (.cells x.cells.toArray 38)) x (fun q hq => Lib.alloc_old _ _ _ (Sits.lt x hsx q hq)) hsx
 have hn1 : New (w1.heap.size + 2) x := hnx.mono (by simp)
 obtain ⟨xk, xs, xm, xa, xc, xkk⟩ := x
 simp only [A.cells] at hsx4
 have hlen : xkk.length ≤ maxLen := by simp only [Sits] at hsx; exact hsx.2.1
 have hte : T.node xk xs xm (erases xkk) = t := by rw [← ht]; simp only [A.erase]
 have hC := fun (W : World) (hk : Kids W 0 xa (erases xkk)) => sCount_ok (.node xk xs xm (erases xkk)) xa xc W (by rw [erases_len]; exact hlen) (by rw [hte]; omega) hk
 have hD := fun (W : World) (hk : Kids W 0 xa (erases xkk)) => sDepth_ok (.node xk xs xm (erases xkk)) xa xc W (by rw [erases_len]; exact hlen) (by rw [hte]; omega) hk
 rw [hte] at hC hD
 simp only [erases_len] at hC hD
 have HC := mkHid hC
 have HD := mkHid hD
 have HK := mkHid (Sits.lies (lo := 0) _ hsx4 (fun _ _ => Nat.zero_le _))
 have HT := mkHid ht
 have HSX := mkHid hsx4
 have HN := mkHid hn1
 obtain ⟨k0, k1, k2, _, _⟩ := r3.cells
 simp only at k1 k2
 have zp : w.heap.size < w3.heap.size := by omega
 have zq : w.heap.size + 1 < w3.heap.size := by omega
 have zr : w1.heap.size + 1 < w3.heap.size := by omega
 have P4 := mkHid ((Lib.alloc_old w3 (.cells #[.int .i64 xk, .string xs, .int .i64 xm, .slice xa xkk.length xc] 38) w.heap.size zp).trans P3)
 have Q4 := mkHid ((Lib.alloc_old w3 (.cells #[.int .i64 xk, .string xs, .int .i64 xm, .slice xa xkk.length xc] 38) (w.heap.size + 1) zq).trans Q3)
 have X4 := mkHid (heap_alloc_new w3 (.cells #[.int .i64 xk, .string xs, .int .i64 xm, .slice xa xkk.length xc] 38))
 have B4 := mkHid (B3.out.alloc (by omega) (.cells #[.int .i64 xk, .string xs, .int .i64 xm, .slice xa xkk.length xc] 38))
 generalize cnt t = n at HC hcn hd
 generalize dep t = m at HD hd
 clear P3 Q3 hsx hnx r3 s3 hr3 B3 P2 Q2 B2 RD ht hsx4 hn1 hlen hte hC hD
 simp only [A.val]
 go_wp2_with fail
 refine (HC.out _ HK.out).mono ?_
 rintro e w5 ⟨rfl, b5⟩
 have P5 := (b5.block w.heap.size (Array.getElem?_eq_some_iff.1 P4.out).1).trans P4.out
 have Q5 := (b5.block (w.heap.size + 1) (Array.getElem?_eq_some_iff.1 Q4.out).1).trans Q4.out
 have X5 := (b5.block w3.heap.size (Array.getElem?_eq_some_iff.1 X4.out).1).trans X4.out
 have B5 := mkHid (below_step' B4.out b5 (by simp; omega))
 have HS5 := mkHid (Sits.stay _ (fun q hq => b5.block q (Sits.lt _ HSX.out q hq)) HSX.out)
 have HP5 := mkHid P5
 have HQ5 := mkHid Q5
 have HX5 := mkHid X5
 clear P5 Q5 X5 b5 P4 Q4 X4 B4 HSX HC HK k0 k1 k2
 by_cases hn5 : 500 < n
 ·have hn6 : decide ((500 : Int) < (n : Int)) = true := by simp; omega
  obtain ⟨c0, c1, c2, c3, f0, f1, f2, f3⟩ := four_of HP5.out
  obtain ⟨d0, d1, e0, e1⟩ := two_of HQ5.out
  have HPP := HP5
  have HQ := HQ5
  clear HD HP5 HQ5 hd
  go_wp2
  obtain ⟨q0, q1, q2, q3, r0, r1⟩ := out_cells HPP.out HQ.out (by omega) (.int .i64 0) (.string ⟨#[]⟩) (.int .i64 0) (.slice none 0 0) (.int .i64 5) (.int .i64 0)
  exact bodyPost_ret (v := .tuple #[(A.node 0 ⟨#[]⟩ 0 none 0 []).val, .agg #[.int .i64 5, .int .i64 0]]) (by simp [results, Tryz.results44, go_sem, q0, q1, q2, q3, r0, r1, A.val]) rfl ⟨_, by rw [HP.out], by rw [HP.out, erase0]; rfl, Sits.leaf _ _ _ (by decide), New.leaf _ _ _ _ _ _, put2_below (put4_below B5.out (Nat.le_refl _) _ _ _ _) (Nat.le_succ _) _ _⟩
 have hm : 24 < m := by omega
 have hm5 : decide ((24 : Int) < (m : Int)) = true := by simp; omega
 clear hd
 have hn5 : decide ((500 : Int) < (n : Int)) = false := by simp; omega
 have HK5 := mkHid (Sits.lies (lo := 0) _ HS5.out (fun _ _ => Nat.zero_le _))
 obtain ⟨x0, x1, x2, x3, _⟩ := four_of HX5.out
 go_wp2_with fail
 refine (HD.out _ HK5.out).mono ?_
 rintro e w6 ⟨rfl, b6⟩
 have P6 := (b6.block w.heap.size (Array.getElem?_eq_some_iff.1 HP5.out).1).trans HP5.out
 have Q6 := (b6.block (w.heap.size + 1) (Array.getElem?_eq_some_iff.1 HQ5.out).1).trans HQ5.out
 have X6 := (b6.block w3.heap.size (Array.getElem?_eq_some_iff.1 HX5.out).1).trans HX5.out
 have B6 := mkHid (below_step' B5.out b6 (by have := (Array.getElem?_eq_some_iff.1 HP5.out).1; omega))
 have HS6 := mkHid (Sits.stay _ (fun q hq => b6.block q (Sits.lt _ HS5.out q hq)) HS5.out)
 obtain ⟨c0, c1, c2, c3, f0, f1, f2, f3⟩ := four_of P6
 obtain ⟨d0, d1, e0, e1⟩ := two_of Q6
 have HPP := mkHid P6
 have HQ := mkHid Q6
 have HX6 := mkHid X6
 clear P6 Q6 X6 b6 HD HK5 x0 x1 x2 x3
 go_wp2
 obtain ⟨q0, q1, q2, q3, r0, r1⟩ := out_cells HPP.out HQ.out (by omega) (.int .i64 0) (.string ⟨#[]⟩) (.int .i64 0) (.slice none 0 0) (.int .i64 5) (.int .i64 0)
 exact bodyPost_ret (v := .tuple #[(A.node 0 ⟨#[]⟩ 0 none 0 []).val, .agg #[.int .i64 5, .int .i64 0]]) (by simp [results, Tryz.results44, go_sem, q0, q1, q2, q3, r0, r1, A.val]) rfl ⟨_, by rw [HP.out], by rw [HP.out, erase0]; rfl, Sits.leaf _ _ _ (by decide), New.leaf _ _ _ _ _ _, put2_below (put4_below B6.out (Nat.le_refl _) _ _ _ _) (Nat.le_succ _) _ _⟩
set_option maxRecDepth 100000 in
set_option maxHeartbeats 8000000 in
theorem sparse_small (s : ByteArray) (w : World) (hs : s.size ≤ maxLen) (hc : (wordsI s).2.1 = 0) {t : T} {j : Nat} (hr : mProg (wordsI s).1 (fuelI (wordsI s).1) (fuelI (wordsI s).1) [] 0 = .ok t j) (hd : dep t ≤ 24 ∧ cnt t ≤ 500) : Calls Tryz.prog 44 #[.string s] w (Parsed s w) := by
 have hW := fun w => sWords_any s w hs
 have he := words_env s
 have hE := fun rb a cap w h => sreader_all (rb := rb) (a := a) (cap := cap) he (show 5 * (wordsI s).1.length + 3 ≤ fuelI (wordsI s).1 by unfold fuelI; omega) w h
 have hfew := he.few
 have hP : parseI s = (t, 0, 0) := by unfold parseI; rw [if_neg (by rw [hc]; decide), hr]; simp only; rw [if_pos hd]
 have hcn : cnt t ≤ 1502 := by have := cn_prog _ _ _ _ _ (Nat.zero_le _) hr; simp only [cnts] at this; omega
 simp only [hr] at hE
 clear hr
 generalize wordsI s = x at hP hW hc hE hfew
 obtain ⟨ws, c, d⟩ := x
 simp only at hc hE hfew
 subst hc
 have HW := mkHid hW
 have HP := mkHid hP
 have HE := mkHid hE
 unfold maxLen at hs
 clear hP hW hE he
 go_enter Tryz.func44, Tryz.ntmps44
 go_wp2_with fail
 refine (HW.out _).mono ?_
 rintro e w1 ⟨v, rfl, ho, b1⟩
 have P1 := (b1.block w.heap.size (by first | (simp; omega) | simp)).trans ((Lib.alloc_old _ _ _ (by simp)).trans (heap_alloc_new w _))
 have Q1 : w1.heap[w.heap.size + 1]? = some (.cells #[.int .i64 0, .int .i64 0] 75 (0, 0)) := (b1.block (w.heap.size + 1) (by first | (simp; omega) | simp)).trans (by have := heap_alloc_new (w.alloc (.cells #[.int .i64 0, .string ⟨#[]⟩, .int .i64 0, .slice none 0 0] 38)) (.cells #[.int .i64 0, .int .i64 0] 75); simpa using this)
 have B1 : Hid (Below w.heap.size w w1) := (((Below.refl _ _).alloc (Nat.le_refl _) _).alloc (by simp) _).trans (b1.mono (by first | (simp; omega) | simp))
 have z1 : w.heap.size + 1 < w1.heap.size := (Array.getElem?_eq_some_iff.1 Q1).1
 obtain ⟨a, cap, rfl, hsd⟩ := sd_of (o := .cells #[.int .i64 0, .int .i64 d] 75) ho hfew
 have P2 := mkHid ((Lib.alloc_old (w1.alloc (.cells #[.int .i64 0, .int .i64 d] 75)) (.cells #[.slice a ws.length cap, .int .i64 0, .bool false] 96) w.heap.size (by simp; omega)).trans ((Lib.alloc_old _ _ _ (by omega)).trans P1))
 have Q2 := mkHid ((Lib.alloc_old (w1.alloc (.cells #[.int .i64 0, .int .i64 d] 75)) (.cells #[.slice a ws.length cap, .int .i64 0, .bool false] 96) (w.heap.size + 1) (by simp; omega)).trans ((Lib.alloc_old _ _ _ (by omega)).trans Q1))
 have B2 : Hid (Below w.heap.size w ((w1.alloc (.cells #[.int .i64 0, .int .i64 d] 75)).alloc (.cells #[.slice a ws.length cap, .int .i64 0, .bool false] 96))) := (B1.out.alloc (by omega) _).alloc (by simp; omega) _
 have RD := mkHid hsd
 clear P1 Q1 b1 ho hsd B1
 go_wp2_with fail
 refine (HE.out _ a cap _ RD.out).mono ?_
 rintro e w3 ⟨x, st3, rfl, hsx, hnx, r3, s3, hr3⟩
 have P3 := s3.at P2.out (by omega)
 have Q3 := s3.at Q2.out (by omega)
 have B3 : Hid (Below w.heap.size w w3) := B2.out.trans ((s3.below (by simp)).mono (by omega))
 have z3 : w1.heap.size + 2 ≤ w3.heap.size := by have := s3.size; simp at this; omega
 have ht := hr3.ok.1
 have e3 := hr3.ok.2
 subst e3
 have hsx4 := Sits.stay (w' := w3.alloc (.cells x.cells.toArray 38)) x (fun q hq => Lib.alloc_old _ _ _ (Sits.lt x hsx q hq)) hsx
 have hn1 : New (w1.heap.size + 2) x := hnx.mono (by simp)
 obtain ⟨xk, xs, xm, xa, xc, xkk⟩ := x
 simp only [A.cells] at hsx4
 have hlen : xkk.length ≤ maxLen := by simp only [Sits] at hsx; exact hsx.2.1
 have hte : T.node xk xs xm (erases xkk) = t := by rw [← ht]; simp only [A.erase]
 have hC := fun (W : World) (hk : Kids W 0 xa (erases xkk)) => sCount_ok (.node xk xs xm (erases xkk)) xa xc W (by rw [erases_len]; exact hlen) (by rw [hte]; omega) hk
 have hD := fun (W : World) (hk : Kids W 0 xa (erases xkk)) => sDepth_ok (.node xk xs xm (erases xkk)) xa xc W (by rw [erases_len]; exact hlen) (by rw [hte]; omega) hk
 rw [hte] at hC hD
 simp only [erases_len] at hC hD
 have HC := mkHid hC
 have HD := mkHid hD
 have HK := mkHid (Sits.lies (lo := 0) _ hsx4 (fun _ _ => Nat.zero_le _))
 have HT := mkHid ht
 have HSX := mkHid hsx4
 have HN := mkHid hn1
 obtain ⟨k0, k1, k2, _, _⟩ := r3.cells
 simp only at k1 k2
 have zp : w.heap.size < w3.heap.size := by omega
 have zq : w.heap.size + 1 < w3.heap.size := by omega
 have zr : w1.heap.size + 1 < w3.heap.size := by omega
 have P4 := mkHid ((Lib.alloc_old w3 (.cells #[.int .i64 xk, .string xs, .int .i64 xm, .slice xa xkk.length xc] 38) w.heap.size zp).trans P3)
 have Q4 := mkHid ((Lib.alloc_old w3 (.cells #[.int .i64 xk, .string xs, .int .i64 xm, .slice xa xkk.length xc] 38) (w.heap.size + 1) zq).trans Q3)
 have X4 := mkHid (heap_alloc_new w3 (.cells #[.int .i64 xk, .string xs, .int .i64 xm, .slice xa xkk.length xc] 38))
 have B4 := mkHid (B3.out.alloc (by omega) (.cells #[.int .i64 xk, .string xs, .int .i64 xm, .slice xa xkk.length xc] 38))
 generalize cnt t = n at HC hcn hd
 generalize dep t = m at HD hd
 clear P3 Q3 hsx hnx r3 s3 hr3 B3 P2 Q2 B2 RD ht hsx4 hn1 hlen hte hC hD
 simp only [A.val]
 go_wp2_with fail
 refine (HC.out _ HK.out).mono ?_
 rintro e w5 ⟨rfl, b5⟩
 have P5 := (b5.block w.heap.size (Array.getElem?_eq_some_iff.1 P4.out).1).trans P4.out
 have Q5 := (b5.block (w.heap.size + 1) (Array.getElem?_eq_some_iff.1 Q4.out).1).trans Q4.out
 have X5 := (b5.block w3.heap.size (Array.getElem?_eq_some_iff.1 X4.out).1).trans X4.out
 have B5 := mkHid (below_step' B4.out b5 (by simp; omega))
 have HS5 := mkHid (Sits.stay _ (fun q hq => b5.block q (Sits.lt _ HSX.out q hq)) HSX.out)
 have HP5 := mkHid P5
 have HQ5 := mkHid Q5
 have HX5 := mkHid X5
 clear P5 Q5 X5 b5 P4 Q4 X4 B4 HSX HC HK k0 k1 k2
 have hm5 : decide ((24 : Int) < (m : Int)) = false := by simp; omega
 have hn5 : decide ((500 : Int) < (n : Int)) = false := by simp; omega
 have HK5 := mkHid (Sits.lies (lo := 0) _ HS5.out (fun _ _ => Nat.zero_le _))
 obtain ⟨x0, x1, x2, x3, _⟩ := four_of HX5.out
 go_wp2_with fail
 refine (HD.out _ HK5.out).mono ?_
 rintro e w6 ⟨rfl, b6⟩
 have P6 := (b6.block w.heap.size (Array.getElem?_eq_some_iff.1 HP5.out).1).trans HP5.out
 have Q6 := (b6.block (w.heap.size + 1) (Array.getElem?_eq_some_iff.1 HQ5.out).1).trans HQ5.out
 have X6 := (b6.block w3.heap.size (Array.getElem?_eq_some_iff.1 HX5.out).1).trans HX5.out
 have B6 := mkHid (below_step' B5.out b6 (by have := (Array.getElem?_eq_some_iff.1 HP5.out).1; omega))
 have HS6 := mkHid (Sits.stay _ (fun q hq => b6.block q (Sits.lt _ HS5.out q hq)) HS5.out)
 obtain ⟨c0, c1, c2, c3, f0, f1, f2, f3⟩ := four_of P6
 obtain ⟨d0, d1, e0, e1⟩ := two_of Q6
 have HPP := mkHid P6
 have HQ := mkHid Q6
 have HX6 := mkHid X6
 clear P6 Q6 X6 b6 HD HK5 x0 x1 x2 x3
 obtain ⟨x0, x1, x2, x3, _⟩ := four_of HX6.out
 clear hd
 go_wp2
 obtain ⟨q0, q1, q2, q3, r0, r1⟩ := out_cells HPP.out HQ.out (by omega) (.int .i64 xk) (.string xs) (.int .i64 xm) (.slice xa xkk.length xc) (.int .i64 0) (.int .i64 0)
 refine bodyPost_ret (v := .tuple #[(A.node xk xs xm xa xc xkk).val, .agg #[.int .i64 0, .int .i64 0]]) (by simp [results, Tryz.results44, go_sem, q0, q1, q2, q3, r0, r1, A.val]) rfl ?_
 refine ⟨_, by rw [HP.out], by rw [HP.out]; exact HT.out, Sits.stay _ (fun q hq => ?_) HS6.out, HN.out.mono (by omega), ?_⟩
 ·have := HN.out.2 q hq
  rw [put2_other _ _ (by omega), put4_other _ _ _ _ (by omega)]
 ·exact put2_below (put4_below B6.out (Nat.le_refl _) _ _ _ _) (Nat.le_succ _) _ _
/-- The specification's Parse. -/
theorem sParse_any (s : ByteArray) (w : World) (hs : s.size ≤ maxLen) : Calls Tryz.prog 44 #[.string s] w (Parsed s w) := by
 by_cases hc : (wordsI s).2.1 = 0
 ·cases hr : mProg (wordsI s).1 (fuelI (wordsI s).1) (fuelI (wordsI s).1) [] 0 with
  | no p => exact sparse_no s w hs hc hr
  | ok t j =>
    by_cases hd : dep t ≤ 24 ∧ cnt t ≤ 500
    ·exact sparse_small s w hs hc hr hd
    ·exact sparse_large s w hs hc hr hd
 ·exact sparse_fault s w hs hc
end Go.Proofs.YtedfnadgmhjojaaGreatDoor
