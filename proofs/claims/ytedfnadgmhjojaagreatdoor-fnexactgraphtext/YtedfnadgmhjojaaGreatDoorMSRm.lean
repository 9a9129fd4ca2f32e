/-
  CONTRACT of the specification's reader's cond.
  A NODE WHOSE LIST GROWS, while the specification reads.
  CONTRACT of the specification's reader's list.
  PLAIN FACTS: statements one behind another, against the reading of a block.
  CONTRACT of the specification's reader's block.
  PLAIN FACTS: the specification's reader against the plain reading, at statements.
-/
import Derived.Test.YtedfnadgmhjojaaGreatDoorMSexpr
import Derived.Test.YtedfnadgmhjojaaGreatDoorMRpars
import Derived.Deep.QuietTactic
import Derived.BigQuiet
import Derived.Deep.RegionLaw
import Derived.Deep.AppendLies
namespace Go.Proofs.YtedfnadgmhjojaaGreatDoor
open Go.RowKit
open Pl

theorem str_is (s : ByteArray) (l : List UInt8) : (s.toList == l) = decide (s = ⟨l.toArray⟩) := by
 have h := str_eq s ⟨l.toArray⟩
 rw [← h]
 congr 1
 rw [Lib.toList_data]
set_option maxRecDepth 100000 in
set_option maxHeartbeats 1000000 in
theorem rel_any (s : ByteArray) (w : World) : Calls Tryz.prog 133 #[.string s] w fun e w' => e = .returned (.int .i64 (relI s)) ∧ w = w' := by
 have e1 := str_is s [60]
 have e2 := str_is s [60, 61]
 have e3 := str_is s [62]
 have e4 := str_is s [62, 61]
 have e5 := str_is s [61, 61]
 have e6 := str_is s [33, 61]
 have H1 := mkHid e1
 have H2 := mkHid e2
 have H3 := mkHid e3
 have H4 := mkHid e4
 have H5 := mkHid e5
 have H6 := mkHid e6
 clear e1 e2 e3 e4 e5 e6
 go_enter Tryz.func133, Tryz.ntmps133
 go_wp2
 all_goals
  go_ret
  refine ⟨ret_int ?_, rfl⟩
  have e1 := H1.out
  have e2 := H2.out
  have e3 := H3.out
  have e4 := H4.out
  have e5 := H5.out
  have e6 := H6.out
  simp_all [relI]
theorem sText_st (rb : Nat) (a : Option Addr) (cap : Nat) (ws : List W3) (st : St2) (w : World) (h : Sd w rb a cap ws st) :
    Calls Tryz.prog 91 #[.pointer (some ⟨rb, 0, none⟩)] w fun e w' => e = .returned (.string (textW ws st.1)) ∧ Sd w' rb a cap ws st ∧ Step rb w w' := by
 refine (sText_any rb a cap ws st w h).mono ?_
 rintro e w' ⟨rfl, n, rfl⟩
 exact ⟨rfl, h.drewN n, (Step.refl rb w).drewN n⟩
theorem src_bad {ws : List W3} {F i : Nat} {b : Bool} {x t : T} {j : Nat} (h : SR (mExpr ws F i) (i, b) x (j, true)) : SR (mCond ws F i) (i, b) t (j, true) := by
 cases b with
 | true => have := h.bad; rw [this]; exact SR.mk_bad _ _ _
 | false =>
   unfold mCond
   generalize mExpr ws F i = r at h ⊢
   cases r with
   | no p => have := h.no; rw [this]; exact SR.mk_no _ _ _
   | ok t j => have := h.ok.2; cases this
theorem src_none {ws : List W3} {F i : Nat} {b : Bool} {x t : T} {j : Nat} (h : SR (mExpr ws F i) (i, b) x (j, false)) (hr : relI (textW ws j) = 0) : SR (mCond ws F i) (i, b) t (j, true) := by
 cases b with
 | true => have := h.bad; cases this
 | false =>
   unfold mCond
   generalize mExpr ws F i = r at h ⊢
   cases r with
   | no p => have := h.no; cases this
   | ok t j' =>
     have e := h.ok.2
     have : j = j' := by injection e
     subst this
     simp only [Res.then_]
     rw [if_pos hr]; exact SR.mk_no _ _ _
theorem src_two {ws : List W3} {F i : Nat} {b : Bool} {x y : T} {j : Nat} {st2 : St2} (h : SR (mExpr ws F i) (i, b) x (j, false)) (hr : relI (textW ws j) ≠ 0) (h2 : SR (mExpr ws F (j + 1)) (j + 1, false) y st2) : SR (mCond ws F i) (i, b) (.node (relI (textW ws j)) nil_ 0 [x, y]) st2 := by
 cases b with
 | true => have := h.bad; cases this
 | false =>
   unfold mCond
   generalize mExpr ws F i = r at h ⊢
   cases r with
   | no p => have := h.no; cases this
   | ok t j' =>
     have e := h.ok.2
     have : j = j' := by injection e
     subst this
     rw [h.ok.1]
     simp only [Res.then_]
     rw [if_neg hr]
     generalize mExpr ws F (j + 1) = r2 at h2 ⊢
     cases r2 with
     | no p => rw [h2.no]; exact SR.mk_no _ _ _
     | ok t2 j2 => rw [h2.ok.1, h2.ok.2]; exact SR.mk_ok _ _ _
def SCond (rb : Nat) (a : Option Addr) (cap : Nat) (ws : List W3) (F : Nat) : Prop := ∀ (st : St2) (w : World), Sd w rb a cap ws st → Calls Tryz.prog 127 #[.pointer (some ⟨rb, 0, none⟩)] w (SPost rb a cap ws w (mCond ws F st.1) st)

set_option maxRecDepth 100000 in
set_option maxHeartbeats 4000000 in
theorem scond_all {rb : Nat} {a : Option Addr} {cap : Nat} {ws : List W3} {F : Nat} (hF : 5 * ws.length + 3 ≤ F) (hfew : ws.length ≤ 1500) (hE : SExpr rb a cap ws F) : SCond rb a cap ws F := by
 rintro ⟨i, b⟩ w h
 have HE := mkHid hE
 have H1 := mkHid (fun w h => hE (i, b) w (by simp only; omega) h)
 have HA := mkHid h
 have hrb := h.lt
 clear h hE
 go_enter Tryz.func127, Tryz.ntmps127
 go_wp2_with fail
 refine (H1.out _ (HA.out.alloc _)).mono ?_
 rintro e w1 ⟨x, st1, rfl, hsx, hnx, r1, s1, hr⟩
 have hG := SGrown.first (s1.at (heap_alloc_new w _) (by omega)) hsx hnx (by simp) r1 (((Step.refl rb w).alloc _).trans s1) hrb _ rfl
 have hz : w.heap.size < w1.heap.size := (Array.getElem?_eq_some_iff.1 (s1.at (heap_alloc_new w _) (by omega))).1
 obtain ⟨xk, xs, xm, xa, xc, xkk⟩ := x
 have HG := mkHid hG
 have HR := mkHid hr
 have C1 := mkHid (fun w h => sText_st rb a cap ws st1 w h)
 clear hG hsx hnx r1 s1 H1 HA hr
 simp only [A.val]
 go_wp2_with fail
 refine (C1.out _ HG.out.sd).mono ?_
 rintro e w2 ⟨rfl, r2, s2⟩
 have G2 := mkHid (HG.out.on s2 r2)
 clear r2 s2 C1 HG
 go_wp2_with fail
 refine (rel_any _ _).mono ?_
 rintro e w9 ⟨rfl, rfl⟩
 obtain ⟨j, c⟩ := st1
 obtain ⟨x0, x1, x2, x3, x4⟩ := G2.out.sd.cells
 simp only at x1 x2
 obtain ⟨c0, c1, c2, c3, f0, f1, f2, f3⟩ := four_of G2.out.res
 cases c with
 | true =>
   have B2 := mkHid G2.out.sd.badly
   have HP := mkHid ((Below.heap_setCell w2 ⟨rb, 2, none⟩ (.bool true) w.heap.size (by show w.heap.size ≠ rb; omega)).trans G2.out.res)
   go_wp2
   obtain ⟨q0, q1, q2, q3⟩ := put4_cells0 HP.out (.int .i64 0) (.string ⟨#[]⟩) (.int .i64 0) (.slice none 0 0)
   exact bodyPost_ret (v := (A.node 0 ⟨#[]⟩ 0 none 0 []).val) (by simp [results, Tryz.results127, go_sem, q0, q1, q2, q3, A.val]) rfl (sp_leaf 0 0 ⟨#[]⟩ B2.out hrb (G2.out.step.setCell (.inr rfl) _) (by decide) (src_bad HR.out))
 | false =>
   by_cases hk : (relI (textW ws j) == 0) = true
   ·have B2 := mkHid G2.out.sd.badly
    have HP := mkHid ((Below.heap_setCell w2 ⟨rb, 2, none⟩ (.bool true) w.heap.size (by show w.heap.size ≠ rb; omega)).trans G2.out.res)
    go_wp2
    obtain ⟨q0, q1, q2, q3⟩ := put4_cells0 HP.out (.int .i64 0) (.string ⟨#[]⟩) (.int .i64 0) (.slice none 0 0)
    exact bodyPost_ret (v := (A.node 0 ⟨#[]⟩ 0 none 0 []).val) (by simp [results, Tryz.results127, go_sem, q0, q1, q2, q3, A.val]) rfl (sp_leaf 0 0 ⟨#[]⟩ B2.out hrb (G2.out.step.setCell (.inr rfl) _) (by decide) (src_none HR.out (by simpa using hk)))
   ·have hk0 : relI (textW ws j) ≠ 0 := by simpa using hk
    simp only [Bool.not_eq_true] at hk
    have HK0 := mkHid hk0
    have hjl : j < ws.length := by
     rcases Nat.lt_or_ge j ws.length with q | q
     ·exact q
     ·rw [textW_end q] at hk0; exact absurd (by decide) hk0
    have hG3 := G2.out.on ((Step.refl rb w2).setCell (p := ⟨rb, 1, none⟩) (.inr rfl) (.int .i64 ((j + 1 : Nat) : Int))) (G2.out.sd.next (j + 1))
    have hcast : ((j + 1 : Nat) : Int) = (j : Int) + 1 := by omega
    rw [hcast] at hG3
    have H2 := mkHid (fun w h => HE.out (j + 1, false) w (by simp only; omega) h)
    generalize hkk : relI (textW ws j) = kk at hk HK0 ⊢
    have HKK := mkHid hkk
    have G3 := mkHid hG3
    clear hk0 hG3 hcast hkk c0 c1 c2 c3 f0 f1 f2 f3 HE
    go_wp2_with fail
    refine (H2.out _ G3.out.sd).mono ?_
    rintro e w4 ⟨y, st4, rfl, hsy, hny, r4, s4, hr4⟩
    have hG4 := G3.out.on s4 r4
    have ly := Sits.lt y hsy
    have hxl := Sits.lt _ G3.out.sits
    have hz2 : (w2.setCell ⟨rb, 1, none⟩ (.int .i64 ((j : Int) + 1))).heap.size = w2.heap.size := by simp [World.setCell]
    have hp2 := G2.out.plt
    have hNN := NewL.snoc (xs := [A.node xk xs xm xa xc xkk]) (n1 := (w2.setCell ⟨rb, 1, none⟩ (.int .i64 ((j : Int) + 1))).heap.size) (NewL.one G3.out.new) (fun b hb => hxl b (by rwa [feet_one] at hb)) hny (by rw [hz2]; omega)
    obtain ⟨yk, ys, ym, ya, yc, ykk⟩ := y
    have hG5 := hG4.on ((Step.refl rb w4).alloc (.cells #[.int .i64 yk, .string ys, .int .i64 ym, .slice ya ykk.length yc] 38)) (r4.alloc _)
    have G5 := mkHid hG5
    have HY := mkHid (Sits.stay _ (fun q hq => Lib.alloc_old w4 (.cells #[.int .i64 yk, .string ys, .int .i64 ym, .slice ya ykk.length yc] 38) q (ly q hq)) hsy)
    have HN := mkHid hNN
    have HR4 := mkHid (src_two HR.out (by rw [HKK.out]; exact HK0.out) hr4)
    have hp4 : w1.heap.size < w4.heap.size := hG4.plt
    have hq4 : w.heap.size < w4.heap.size := by omega
    obtain ⟨d0, d1, d2, d3, _⟩ := four_of (show w4.heap[w1.heap.size]? = some (.cells #[.int .i64 xk, .string xs, .int .i64 xm, .slice xa xkk.length xc] 38 (0, 0)) from hG4.here)
    clear hG4 hG5 ly hxl hNN hsy hny r4 s4 hr4 hz2 x0 x1 x2 x3 x4
    simp only [A.val]
    go_wp2_with fail
    refine (two_new kk (.node xk xs xm xa xc xkk) (.node yk ys ym ya yc ykk) _).mono ?_
    rintro e w5 ⟨bb, rfl, hB, hge, hb⟩
    obtain ⟨t1, t2⟩ := made (n := w.heap.size + 1) (k := kk) (m := 0) (s := ⟨#[]⟩) (c := 2) (xs := [.node xk xs xm xa xc xkk, .node yk ys ym ya yc ykk]) ⟨G5.out.sits, HY.out, trivial⟩ hb hB hge HN.out (by simp; omega) (by decide) (by simp [maxLen])
    have G6 := mkHid (G5.out.below hb)
    have HT1 := mkHid t1
    have HT2 := mkHid t2
    clear hB hge hb t1 t2 d0 d1 d2 d3
    obtain ⟨c0, c1, c2, c3, f0, f1, f2, f3⟩ := four_of G6.out.res
    simp only [A.val]
    go_wp2
    obtain ⟨q0, q1, q2, q3⟩ := put4_cells0 G6.out.res (.int .i64 kk) (.string ⟨#[]⟩) (.int .i64 0) (.slice (some ⟨bb, 0, none⟩) 2 2)
    exact bodyPost_ret (v := (A.node kk ⟨#[]⟩ 0 (some ⟨bb, 0, none⟩) 2 [.node xk xs xm xa xc xkk, .node yk ys ym ya yc ykk]).val) (by simp [results, Tryz.results127, go_sem, q0, q1, q2, q3, A.val]) rfl (sp_tree _ _ _ _ _ G6.out.sd hrb G6.out.step HT1.out HT2.out (by omega) (by rw [erase2]; have := HR4.out; rw [HKK.out] at this; exact this))
end Go.Proofs.YtedfnadgmhjojaaGreatDoor
namespace Go.Proofs.YtedfnadgmhjojaaGreatDoor
open Go.RowKit
open Pl

/-- A node lies in block p1; its list, of trees that own their memory, in a row of its own; the result's variable is still zero. -/
structure SStem (rb : Nat) (a : Option Addr) (cap : Nat) (ws : List W3) (w : World) (p1 : Nat) (k : Int) (s : ByteArray) (w' : World) (els : List A) (sa : Option Addr) (sc : Nat) (st : St2) : Prop where
 here : w'.heap[p1]? = some (.cells #[.int .i64 k, .string s, .int .i64 0, .slice sa els.length sc] 38 (0, 0))
 res : w'.heap[w.heap.size]? = some (.cells #[.int .i64 0, .string ⟨#[]⟩, .int .i64 0, .slice none 0 0] 38 (0, 0))
 own : w'.ownsRow (p1 + 1) 38 4 (.slice sa els.length sc) els.length (cellsL els)
 sits : SitsL w' els
 new : NewL (p1 + 1) els
 apart : ∀ g, (Value.slice sa els.length sc).ownBlock = some g → g ∉ feet els
 rd : Sd w' rb a cap ws st
 step : Step rb w w'
 lt : w.heap.size < p1
 rlt : rb < w.heap.size
section
variable {rb : Nat} {a : Option Addr} {cap : Nat} {ws : List W3} {w : World} {p1 : Nat} {k : Int} {s : ByteArray} {w' : World} {els : List A} {sa : Option Addr} {sc : Nat} {st : St2}
theorem SStem.plt (h : SStem rb a cap ws w p1 k s w' els sa sc st) : p1 < w'.heap.size := (Array.getElem?_eq_some_iff.1 h.here).1
theorem SStem.on {w2 : World} {st2 : St2} (h : SStem rb a cap ws w p1 k s w' els sa sc st) (sp : Step rb w' w2) (r : Sd w2 rb a cap ws st2) : SStem rb a cap ws w p1 k s w2 els sa sc st2 := by
 have hr := h.rlt
 have hl := h.lt
 refine ⟨sp.at h.here (by omega), sp.at h.res (by omega), h.own.kept sp (.inr fun e => ?_), sp.sitsL h.sits (fun q hq => by have := h.new.2 q hq; omega), h.new, h.apart, r, h.step.trans sp, hl, hr⟩
 have := (h.own.lt rb e).1
 omega
theorem SStem.drew (h : SStem rb a cap ws w p1 k s w' els sa sc st) : SStem rb a cap ws w p1 k s w'.drew els sa sc st := h.on (Step.refl rb w').drew h.rd.drew
/-- One tree more. -/
theorem SStem.push {w3 w4 : World} {x : A} {st2 : St2} {g c2 : Nat} (h : SStem rb a cap ws w p1 k s w' els sa sc st) (sp : Step rb w' w3) (r : Sd w3 rb a cap ws st2) (hx : Sits w3 x) (hn : New w'.heap.size x) (cs : Array Value)
    (hown : w4.ownsRow (p1 + 1) 38 4 (.slice (some ⟨g, 0, none⟩) (els.length + 1) c2) (els.length + 1) (cellsL els ++ x.cells)) (hgrow : (w3.alloc (.cells cs 38)).grownBy w4 (Value.slice sa els.length sc).ownBlock)
    (hat : (Value.slice sa els.length sc).ownBlock = some g ∨ g = w3.heap.size + 1) :
    SStem rb a cap ws w p1 k s (w4.setCell ⟨p1, 3, none⟩ (.slice (some ⟨g, 0, none⟩) (els.length + 1) c2)) (els ++ [x]) (some ⟨g, 0, none⟩) c2 st2 := by
 have h3 := h.on sp r
 have hr := h.rlt
 have hl := h.lt
 have hp := h3.plt
 have hp0 := h.plt
 have lx := Sits.lt x hx
 have le := SitsL.lt h3.sits
 have le0 := SitsL.lt h.sits
 have hol := h.own.lt
 have hlen : (els ++ [x]).length = els.length + 1 := by simp
 have hcl : cellsL (els ++ [x]) = cellsL els ++ x.cells := by rw [cellsL_append]; simp [cellsL]
 -- what the append leaves
 have keep : ∀ q, q < w3.heap.size → (∀ g', (Value.slice sa els.length sc).ownBlock = some g' → q ≠ g') → w4.heap[q]? = w3.heap[q]? := fun q hq hne => by
  rw [hgrow.block q (by simp; omega) (fun e => hne q e.symm rfl), Lib.alloc_old _ _ _ hq]
 have gg : p1 + 1 ≤ g := by
  have := (hown.lt g rfl).1
  exact this
 have set : ∀ q, q ≠ p1 → (w4.setCell ⟨p1, 3, none⟩ (.slice (some ⟨g, 0, none⟩) (els.length + 1) c2)).heap[q]? = w4.heap[q]? := fun q hq => Below.heap_setCell _ _ _ _ hq
 have p1k := keep p1 hp (fun g' e => by have := (hol g' e).1; omega)
 refine ⟨?_, ?_, ?_, ?_, ?_, ?_, ?_, ?_, hl, hr⟩
 ·have := heap_setCell_same w4 p1 3 _ 38 (.slice (some ⟨g, 0, none⟩) (els.length + 1) c2) (p1k.trans h3.here)
  rw [this, hlen]; rfl
 ·rw [set _ (by omega), keep _ (by omega) (fun g' e => by have := (hol g' e).1; omega)]
  exact h3.res
 ·rw [hlen, hcl]
  exact hown.kept (row := some p1) ⟨rfl, rfl, rfl, by simp [World.setCell], fun q _ hq => set q (fun e => hq (by rw [e]))⟩ (.inr fun e => by simp [Value.ownBlock] at e; omega)
 ·refine sitsL_snoc (h3.sits.stay fun q hq => ?_) (Sits.stay x (fun q hq => ?_) hx)
  ·rw [set q (by have := h.new.2 q hq; omega), keep q (le q hq) (fun g' e => fun e2 => h.apart g' e (e2 ▸ hq))]
  ·rw [set q (by have := hn.2 q hq; omega), keep q (lx q hq) (fun g' e => by have := (hol g' e).2; have := hn.2 q hq; omega)]
 ·exact NewL.snoc h.new le0 hn (by omega)
 ·intro g' e hq
  rw [hlen] at e
  simp [Value.ownBlock] at e
  subst e
  rw [feet_append, feet_one, List.mem_append] at hq
  rcases hat with hat | hat
  ·rcases hq with hq | hq
   ·exact h.apart g hat hq
   ·have := (hol g hat).2
    have := hn.2 g hq
    omega
  ·rcases hq with hq | hq
   ·have := le g hq; omega
   ·have := lx g hq; omega
 ·refine Sd.setCell ?_ (show rb < p1 by omega) _
  refine (r.alloc (.cells cs 38)).keep ⟨hgrow.os, hgrow.tape, hgrow.output, hgrow.size, fun q hq => hgrow.block q (by have := r.lt; simp; omega) (fun e => by have := (hol q e.symm).1; omega)⟩
 ·have h4 : Step rb w w4 := ⟨hgrow.os.trans h3.step.os, hgrow.tape.trans h3.step.tape, hgrow.output.trans h3.step.output, by have := hgrow.size; have := h3.step.size; simp at *; omega, fun q hq hne => by
    have := h3.step.size
    rw [keep q (by omega) (fun g' e => by have := (hol g' e).1; omega)]
    exact h3.step.block q hq hne⟩
  exact h4.setCell (.inl (show w.heap.size ≤ p1 by omega)) _
/-- What it is when it is done. -/
theorem SStem.tree (h : SStem rb a cap ws w p1 k s w' els sa sc st) (hs : s.size ≤ maxLen) (hn : els.length ≤ maxLen) : Sits w' (.node k s 0 sa sc els) ∧ New (w.heap.size + 1) (.node k s 0 sa sc els) := by
 have hl := h.lt
 rcases h.own.2 with ⟨e, h0⟩ | ⟨g, c, cur, e, hb, hg, h1, h2, h3, h4⟩
 ·have : els = [] := List.eq_nil_of_length_eq_zero h0
  subst this
  exact ⟨Sits.leaf _ _ _ hs, New.leaf _ _ _ _ _ _⟩
 ·have ea : sa = some ⟨g, 0, none⟩ := by simp at e; exact e.1
  subst ea
  refine ⟨Sits.node hs hn h.sits hg (fun i v hv => ?_), New.node (h.new.mono (by omega)) (by omega) (h.apart g rfl)⟩
  rw [← h4, List.getElem?_take] at hv
  split at hv
  ·simpa using hv
  ·cases hv
theorem SStem.start {w1 : World} (hP : w1.heap[w.heap.size]? = some (.cells #[.int .i64 0, .string ⟨#[]⟩, .int .i64 0, .slice none 0 0] 38 (0, 0))) (r : Sd w1 rb a cap ws st) (sp : Step rb w w1) (hr : rb < w.heap.size) (k : Int) (s : ByteArray) :
    SStem rb a cap ws w w1.heap.size k s (w1.alloc (.cells #[.int .i64 k, .string s, .int .i64 0, .slice none 0 0] 38)) [] none 0 st := by
 have z1 : w.heap.size < w1.heap.size := (Array.getElem?_eq_some_iff.1 hP).1
 exact ⟨heap_alloc_new w1 _, (Lib.alloc_old _ _ _ z1).trans hP, World.ownsRow_nil _ _ _ _, trivial, ⟨List.nodup_nil, fun b hb => (by cases hb)⟩, fun g e => (by cases e), r.alloc _, sp.alloc _, z1, hr⟩
/-- Another kind. -/
theorem SStem.kind (h : SStem rb a cap ws w p1 k s w' els sa sc st) (k2 : Int) : SStem rb a cap ws w p1 k2 s (w'.setCell ⟨p1, 0, none⟩ (.int .i64 k2)) els sa sc st := by
 have hr := h.rlt
 have hl := h.lt
 have set : ∀ q, q ≠ p1 → (w'.setCell ⟨p1, 0, none⟩ (.int .i64 k2)).heap[q]? = w'.heap[q]? := fun q hq => Below.heap_setCell _ _ _ _ hq
 refine ⟨?_, (set _ (by omega)).trans h.res, h.own.kept (row := some p1) ⟨rfl, rfl, rfl, by simp [World.setCell], fun q _ hq => set q (fun e => hq (by rw [e]))⟩ (.inr fun e => by have := (h.own.lt p1 e).1; omega), h.sits.stay (fun q hq => set q (by have := h.new.2 q hq; omega)), h.new, h.apart, h.rd.setCell (show rb < p1 by omega) _, h.step.setCell (.inl (show w.heap.size ≤ p1 by omega)) _, hl, hr⟩
 have := heap_setCell_same w' p1 0 _ 38 (.int .i64 k2) h.here
 rw [this]; rfl
end
end Go.Proofs.YtedfnadgmhjojaaGreatDoor
namespace Go.Proofs.YtedfnadgmhjojaaGreatDoor
open Go.RowKit
open Pl

/-- Statements one behind another, as long as one begins. -/
def seqM (ws : List W3) (m : Nat → Nat → Res) : Nat → List T → Nat → List T × St2
 | 0, acc, i => (acc, (i, true))
 | g + 1, acc, i => if i < ws.length ∧ isW ws i ⟨#[125]⟩ = false then (match m g i with | .ok x j => seqM ws m g (acc ++ [x]) j | .no p => (acc, (p, true))) else (acc, (i, false))
theorem seq_stop {ws : List W3} {m : Nat → Nat → Res} {g : Nat} {acc : List T} {i : Nat} (h : ¬ (i < ws.length ∧ isW ws i ⟨#[125]⟩ = false)) : seqM ws m (g + 1) acc i = (acc, (i, false)) := by
 simp only [seqM]; rw [if_neg h]
theorem seq_go {ws : List W3} {m : Nat → Nat → Res} {g : Nat} {acc : List T} {i : Nat} (h : i < ws.length ∧ isW ws i ⟨#[125]⟩ = false) : seqM ws m (g + 1) acc i = (match m g i with | .ok x j => seqM ws m g (acc ++ [x]) j | .no p => (acc, (p, true))) := by
 simp only [seqM]; rw [if_pos h]
def badOf (rb : Nat) (w : World) : Nat := match w.cell? ⟨rb, 2, none⟩ with
 | some (.bool true) => 0
 | _ => 1
theorem Sd.bad0 {w : World} {rb : Nat} {a : Option Addr} {cap : Nat} {ws : List W3} {i : Nat} {b : Bool} (h : Sd w rb a cap ws (i, b)) : badOf rb w = if b then 0 else 1 := by
 unfold badOf
 rw [h.cells.2.2.1]
 cases b <;> rfl
/-- What list answers. -/
def LPost (rb : Nat) (a : Option Addr) (cap : Nat) (ws : List W3) (w : World) (R : List T × St2) (st : St2) (e : Ending) (w' : World) : Prop :=
 ∃ (x : A) (st' : St2), e = .returned x.val ∧ Sits w' x ∧ New w.heap.size x ∧ Sd w' rb a cap ws st' ∧ Step rb w w' ∧ (st.2 = true → st' = st) ∧ (st.2 = false → st' = R.2 ∧ (R.2.2 = false → x.erase = .node 30 nil_ 0 R.1))
/-- What the loop holds on to. -/
def LInv (ws : List W3) (m : Nat → Nat → Res) (f : Nat) (R : List T × St2) (st : St2) (els : List T) (st' : St2) : Prop :=
 (st.2 = true ∧ st' = st) ∨ (st.2 = false ∧ ((st'.2 = true ∧ R.2 = st') ∨ (st'.2 = false ∧ ∃ g, g ≤ f ∧ 3 * (ws.length - st'.1) + 2 ≤ g ∧ seqM ws m g els st'.1 = R)))
theorem linv_end {ws : List W3} {m : Nat → Nat → Res} {f : Nat} {R : List T × St2} {st : St2} {els : List T} {st' : St2} (h : LInv ws m f R st els st') (hs : st'.2 = false → ¬ (st'.1 < ws.length ∧ isW ws st'.1 ⟨#[125]⟩ = false)) :
    (st.2 = true → st' = st) ∧ (st.2 = false → st' = R.2 ∧ (R.2.2 = false → T.node 30 nil_ 0 els = .node 30 nil_ 0 R.1)) := by
 rcases h with ⟨h1, h2⟩ | ⟨h1, ⟨h2, h3⟩ | ⟨h2, g, _, h3, h4⟩⟩
 ·exact ⟨fun _ => h2, fun h => (by rw [h1] at h; cases h)⟩
 ·exact ⟨fun h => (by rw [h1] at h; cases h), fun _ => ⟨h3.symm, fun q => (by rw [h3, h2] at q; cases q)⟩⟩
 ·obtain ⟨g1, rfl⟩ : ∃ g1, g = g1 + 1 := ⟨g - 1, by omega⟩
  rw [seq_stop (hs h2)] at h4
  refine ⟨fun h => (by rw [h1] at h; cases h), fun _ => ⟨?_, fun _ => (by rw [← h4])⟩⟩
  rw [← h4]
  obtain ⟨j, c⟩ := st'
  simp only at h2
  rw [h2]

set_option maxRecDepth 100000 in
set_option maxHeartbeats 8000000 in
theorem slist_any {rb : Nat} {a : Option Addr} {cap : Nat} {ws : List W3} (hfew : ws.length ≤ 1500) (m : Nat → Nat → Res) (f : Nat) (hS : ∀ g j w, 3 * (ws.length - j) + 1 ≤ g → g ≤ f → Sd w rb a cap ws (j, false) → Calls Tryz.prog 116 #[.pointer (some ⟨rb, 0, none⟩)] w (SPost rb a cap ws w (m g j) (j, false)))
    (ha : ∀ g j t k, m g j = .ok t k → j < k ∧ k ≤ ws.length) (hn : ∀ g j p, m g j = .no p → j ≤ p) (st : St2) (hf : st.2 = false → 3 * (ws.length - st.1) + 2 ≤ f) (w : World) (h : Sd w rb a cap ws st) :
    Calls Tryz.prog 92 #[.pointer (some ⟨rb, 0, none⟩)] w (LPost rb a cap ws w (seqM ws m f [] st.1) st) := by
 have HA := mkHid h
 have hrb := h.lt
 have HST := mkHid hS
 have HAD := mkHid ha
 have HNO := mkHid hn
 generalize hR : seqM ws m f [] st.1 = R
 have HI0 : Hid (LInv ws m f R st [] st) := by
  show LInv _ _ _ _ _ _ _
  cases hb : st.2 with
  | true => exact .inl ⟨hb, rfl⟩
  | false => exact .inr ⟨hb, .inr ⟨hb, f, Nat.le_refl _, hf hb, hR⟩⟩
 have hfn : Hid (f = f) := rfl
 clear hR h hS ha hn hf
 obtain ⟨i0, hi0, hz0⟩ := Option.map_eq_some_iff.1 Tryz.info38
 simp only [Prod.mk.injEq] at hz0
 obtain ⟨hz1, hz2, hz3⟩ := hz0
 have HI := mkHid (show Tryz.prog.info? 38 = some i0 ∧ i0.zero = some (.agg #[.int .i64 0, .string ByteArray.empty, .int .i64 0, .slice none 0 0]) ∧ i0.size = 4 ∧ i0.bytes = 56 from ⟨hi0, hz1, hz2, hz3⟩)
 clear hi0 hz1 hz2 hz3 hfn
 have hG := SStem.start (w := w) (heap_alloc_new w _) (HA.out.alloc _) ((Step.refl rb w).alloc _) hrb 30 ⟨#[]⟩
 have e0 : (w.alloc (.cells #[.int .i64 0, .string ⟨#[]⟩, .int .i64 0, .slice none 0 0] 38)).heap.size = w.heap.size + 1 := by simp
 rw [e0] at hG
 have HG := mkHid hG
 clear hG e0
 go_enter Tryz.func92, Tryz.ntmps92
 go_wp2
 go_loopw [] (fun w' => ∃ (els : List A) (sa : Option Addr) (sc : Nat) (st' : St2), SStem rb a cap ws w (w.heap.size + 1) 30 ⟨#[]⟩ w' els sa sc st' ∧ LInv ws m f R st (erases els) st' ∧ els.length ≤ 1501 ∧ (st'.2 = false → els.length ≤ st'.1)) (fun w' => 2 * (ws.length - posOf rb w') + badOf rb w')
 case atStart => exact ⟨[], none, 0, st, HG.out, HI0.out, Nat.zero_le _, fun _ => Nat.zero_le _⟩
 case round =>
  obtain ⟨els, sa, sc, st2, hG, hI, hle, hle2⟩ := hrel
  have G0 := mkHid hG
  have I0 := mkHid hI
  have HPo := mkHid hG.rd.pos
  obtain ⟨x0, x1, x2, _⟩ := hG.rd.cells
  obtain ⟨j, c⟩ := st2
  have HB0 := mkHid hG.rd.bad0
  simp only at x1 x2 hle hle2
  clear hG hI HG HI0
  by_cases hc : c = true
  ·subst hc
   have HE := mkHid (linv_end I0.out (fun h => (by simp at h)))
   clear I0
   go_wp2
   go_quiet (fail)
   have G2 := mkHid (G0.out.on ((Step.refl rb wr).drewN nq) (G0.out.rd.drewN nq))
   obtain ⟨d0, d1, d2, d3, _⟩ := four_of G2.out.here
   obtain ⟨c0, c1, c2, c3, f0, f1, f2, f3⟩ := four_of G2.out.res
   generalize wr.drewN nq = W at G2 d0 d1 d2 d3 c0 c1 c2 c3 f0 f1 f2 f3 ⊢
   go_wp2
   obtain ⟨q0, q1, q2, q3⟩ := put4_cells0 G2.out.res (.int .i64 30) (.string ⟨#[]⟩) (.int .i64 0) (.slice sa els.length sc)
   obtain ⟨t1, t2⟩ := G2.out.tree (by decide) (by unfold maxLen; omega)
   refine bodyPost_ret (v := (A.node 30 ⟨#[]⟩ 0 sa sc els).val) (by simp [results, Tryz.results92, go_sem, q0, q1, q2, q3, A.val]) rfl ?_
   exact ⟨_, _, rfl, Sits.stay _ (fun q hq => put4_other _ _ _ _ (by have := t2.2 q hq; omega)) t1, t2.mono (by omega), put4_sd G2.out.rd hrb _ _ _ _, put4_step G2.out.step (Nat.le_refl _) _ _ _ _, HE.out.1, fun hb => ⟨(HE.out.2 hb).1, fun hq => by simp only [A.erase]; exact (HE.out.2 hb).2 hq⟩⟩
  ·have hc2 : c = false := by simpa using hc
   subst hc2
   clear hc
   have hlj := hle2 rfl
   by_cases hlt : j < ws.length
   ·have hl : decide ((j : Int) < (ws.length : Int)) = true := by simp; omega
    by_cases hb : isW ws j ⟨#[125]⟩ = true
    ·have hne : ((textW ws j).toList == [125]) = true := by rw [str_is, isW_text hb]; decide
     have HW := mkHid hb
     have HE := mkHid (linv_end I0.out (fun _ h => (by rw [HW.out] at h; cases h.2)))
     clear I0
     go_wp2
     go_quiet ((go_at_call 91; exact Calls.quiet_of (sText_any rb a cap ws (j, false) _ (G0.out.rd.drewN _))))
     have G2 := mkHid (G0.out.on ((Step.refl rb wr).drewN nq) (G0.out.rd.drewN nq))
     obtain ⟨d0, d1, d2, d3, _⟩ := four_of G2.out.here
     obtain ⟨c0, c1, c2, c3, f0, f1, f2, f3⟩ := four_of G2.out.res
     generalize wr.drewN nq = W at G2 d0 d1 d2 d3 c0 c1 c2 c3 f0 f1 f2 f3 ⊢
     go_wp2
     obtain ⟨q0, q1, q2, q3⟩ := put4_cells0 G2.out.res (.int .i64 30) (.string ⟨#[]⟩) (.int .i64 0) (.slice sa els.length sc)
     obtain ⟨t1, t2⟩ := G2.out.tree (by decide) (by unfold maxLen; omega)
     refine bodyPost_ret (v := (A.node 30 ⟨#[]⟩ 0 sa sc els).val) (by simp [results, Tryz.results92, go_sem, q0, q1, q2, q3, A.val]) rfl ?_
     exact ⟨_, _, rfl, Sits.stay _ (fun q hq => put4_other _ _ _ _ (by have := t2.2 q hq; omega)) t1, t2.mono (by omega), put4_sd G2.out.rd hrb _ _ _ _, put4_step G2.out.step (Nat.le_refl _) _ _ _ _, HE.out.1, fun hb => ⟨(HE.out.2 hb).1, fun hq => by simp only [A.erase]; exact (HE.out.2 hb).2 hq⟩⟩
    ·simp only [Bool.not_eq_true] at hb
     have hne : ((textW ws j).toList == [125]) = false := by
      rw [str_is]
      have : textW ws j ≠ ⟨#[125]⟩ := fun e => by rw [isW_of_text hlt] at hb; simp [e] at hb
      simpa using this
     obtain ⟨hsb, g, hgf, hgl, hm⟩ : st.2 = false ∧ ∃ g, g ≤ f ∧ 3 * (ws.length - j) + 2 ≤ g ∧ seqM ws m g (erases els) j = R := by
      rcases I0.out with ⟨h1, h2⟩ | ⟨h1, ⟨h2, _⟩ | ⟨_, g, h3, h4, h5⟩⟩
      ·rw [← h2] at h1; cases h1
      ·cases h2
      ·exact ⟨h1, g, h3, h4, h5⟩
     obtain ⟨g1, rfl⟩ : ∃ g1, g = g1 + 1 := ⟨g - 1, by omega⟩
     rw [seq_go ⟨hlt, hb⟩] at hm
     have H1 := mkHid (fun w h => HST.out g1 j w (by omega) (by omega) h)
     have HS := mkHid (fun (y : T) (st3 : St2) (h : SR (m g1 j) (j, false) y st3) => show LInv ws m f R st (erases els ++ [y]) st3 ∧ (j ≤ st3.1 ∧ (st3.2 = false → j < st3.1 ∧ st3.1 ≤ ws.length)) from by
      have e1 := HAD.out g1 j
      have e2 := HNO.out g1 j
      generalize m g1 j = r at h hm e1 e2
      cases r with
      | no p => rw [h.no]; exact ⟨.inr ⟨hsb, .inl ⟨rfl, by rw [← hm]⟩⟩, e2 p rfl, fun q => by cases q⟩
      | ok t k =>
        have := e1 t k rfl
        rw [h.ok.1, h.ok.2]
        exact ⟨.inr ⟨hsb, .inr ⟨rfl, g1, by omega, by simp only; omega, hm⟩⟩, by simp only; omega, fun _ => by simp only; omega⟩)
     clear hm I0 hb hgl
     go_wp2
     go_quiet ((go_at_call 91; exact Calls.quiet_of (sText_any rb a cap ws (j, false) _ (G0.out.rd.drewN _))))
     have G2 := mkHid (G0.out.on ((Step.refl rb wr).drewN nq) (G0.out.rd.drewN nq))
     obtain ⟨d0, d1, d2, d3, e0, e1, e2, e3⟩ := four_of G2.out.here
     have hp2 := G2.out.plt
     generalize wr.drewN nq = W at G2 d0 d1 d2 d3 e0 e1 e2 e3 hp2 ⊢
     clear x0 x1 x2 hne hl
     go_wp2
     go_region_law (first | (go_simp; go_at_call 116; refine (H1.out _ G2.out.rd.drew).mono ?_; rintro e w3 ⟨z, st3, rfl, hsz, hnz, r3, s3, hz3⟩; obtain ⟨zk, zs, zm, za, zc, zkk⟩ := z; simp only [A.val]; have T3 := G2.out.drew.on s3 r3; obtain ⟨b0, b1, b2, b3, g0, g1, g2, g3⟩ := four_of T3.here; have hp3 := T3.plt; have OW := mkHid (T3.own.alloc (.cells #[.int .i64 zk, .string zs, .int .i64 zm, .slice za zkk.length zc] 38)); have HT3 := mkHid T3; have HS3 := mkHid s3; have HZ := mkHid hz3; have HSZ := mkHid hsz; have HNZ := mkHid hnz; have HR3 := mkHid r3; clear T3 s3 hz3 hsz hnz r3) | (refine step_append_lies _ (by rfl) _ _ _ (by rfl) ((w.heap.size + 1) + 1) 38 i0 _ 4 56 Tryz.underlying36 HI.out.1 HI.out.2.1 HI.out.2.2.1 HI.out.2.2.2 rfl (by decide) _ _ _ (by rfl) OW.out ⟨w3.heap.size, 0, none⟩ 1 1 [.int .i64 zk, .string zs, .int .i64 zm, .slice za zkk.length zc] (by rfl) (by rfl) (World.news_of_block (heap_alloc_new w3 _)) (fun u hu => by simp at hu; rcases hu with rfl | rfl | rfl | rfl <;> rfl) (by decide) (by unfold maxLen; omega) (by omega) (by simp; omega) (w3.heap.size + 1) (by simp) ?_; intro g cq w4 hown hgrow hat hlt4; have GP := mkHid (SStem.push (x := .node zk zs zm za zc zkk) G2.out.drew HS3.out HR3.out HSZ.out HNZ.out _ hown hgrow hat); have K4 := (hgrow.block (w.heap.size + 1) (by simp; omega) (fun e => absurd (OW.out.lt _ e.symm).1 (Nat.not_succ_le_self _))).trans ((Lib.alloc_old w3 _ _ hp3).trans HT3.out.here); clear b0 b1 b2 b3 g0 g1 g2 g3; obtain ⟨l0, l1, l2, l3, m0, m1, m2, m3⟩ := four_of K4; clear K4 hown hgrow hat OW HS3 HSZ HNZ HR3))
     all_goals
         have HL := mkHid (HS.out _ _ HZ.out)
         go_wp2
         go_roundw
         case rel => exact ⟨_, _, _, _, GP.out, by rw [erases_append]; simp only [erases]; exact HL.out.1, by simp; omega, fun hq => by have := HL.out.2.2 hq; simp; omega⟩
         case measure =>
          rw [HPo.out, HB0.out]
          have h1 := GP.out.rd.pos
          have h2 := HL.out.2
          obtain ⟨j3, c3⟩ := st3
          have h3 := GP.out.rd.bad0
          refine Nat.lt_of_le_of_lt (Nat.le_of_eq (congrArg (fun q => 2 * (ws.length - q) + _) h1)) ?_
          refine Nat.lt_of_le_of_lt (Nat.le_of_eq (congrArg (fun q => 2 * (ws.length - _) + q) h3)) ?_
          simp only at h2 ⊢
          cases c3 with
          | true => simp; omega
          | false => have := h2.2 rfl; simp; omega
   ·have hl : decide ((j : Int) < (ws.length : Int)) = false := by simp; omega
    have HE := mkHid (linv_end I0.out (fun _ h => (by omega)))
    clear I0
    go_wp2
    go_quiet (fail)
    have G2 := mkHid (G0.out.on ((Step.refl rb wr).drewN nq) (G0.out.rd.drewN nq))
    obtain ⟨d0, d1, d2, d3, _⟩ := four_of G2.out.here
    obtain ⟨c0, c1, c2, c3, f0, f1, f2, f3⟩ := four_of G2.out.res
    generalize wr.drewN nq = W at G2 d0 d1 d2 d3 c0 c1 c2 c3 f0 f1 f2 f3 ⊢
    go_wp2
    obtain ⟨q0, q1, q2, q3⟩ := put4_cells0 G2.out.res (.int .i64 30) (.string ⟨#[]⟩) (.int .i64 0) (.slice sa els.length sc)
    obtain ⟨t1, t2⟩ := G2.out.tree (by decide) (by unfold maxLen; omega)
    refine bodyPost_ret (v := (A.node 30 ⟨#[]⟩ 0 sa sc els).val) (by simp [results, Tryz.results92, go_sem, q0, q1, q2, q3, A.val]) rfl ?_
    exact ⟨_, _, rfl, Sits.stay _ (fun q hq => put4_other _ _ _ _ (by have := t2.2 q hq; omega)) t1, t2.mono (by omega), put4_sd G2.out.rd hrb _ _ _ _, put4_step G2.out.step (Nat.le_refl _) _ _ _ _, HE.out.1, fun hb => ⟨(HE.out.2 hb).1, fun hq => by simp only [A.erase]; exact (HE.out.2 hb).2 hq⟩⟩
end Go.Proofs.YtedfnadgmhjojaaGreatDoor
namespace Go.Proofs.YtedfnadgmhjojaaGreatDoor
open Go.RowKit
open Pl

theorem short_end {ws : List W3} {F i : Nat} (h : ws.length ≤ i) : mShort ws F i = .no i := by
 unfold mShort wantK
 simp only [isW_end _ h, kindW_end h]
 simp
theorem stmt_end {ws : List W3} {F g i : Nat} (h : ws.length ≤ i) : mStmt ws F (g + 1) i = .no i := by
 simp only [mStmt, isW_end _ h, short_end h]
 simp [Res.then_]
theorem seq_list {ws : List W3} {F : Nat} (g : Nat) : ∀ (acc : List T) (i : Nat), 3 * (ws.length - i) + 2 ≤ g →
    mList ws F g acc i = if (seqM ws (mStmt ws F) g acc i).2.2 = true then .no (seqM ws (mStmt ws F) g acc i).2.1 else
     if isW ws (seqM ws (mStmt ws F) g acc i).2.1 ⟨#[125]⟩ then .ok (.node 30 nil_ 0 (seqM ws (mStmt ws F) g acc i).1) ((seqM ws (mStmt ws F) g acc i).2.1 + 1) else .no (seqM ws (mStmt ws F) g acc i).2.1 := by
 induction g with
 | zero => intro acc i h; omega
 | succ g ih =>
   intro acc i h
   by_cases hb : isW ws i ⟨#[125]⟩ = true
   ·rw [seq_stop (fun q => by rw [hb] at q; cases q.2)]
    simp only [mList]
    rw [if_pos hb, if_neg (by decide), if_pos hb]
   ·have hb' : isW ws i ⟨#[125]⟩ = false := by simpa using hb
    by_cases hl : i < ws.length
    ·rw [seq_go ⟨hl, hb'⟩]
     simp only [mList]
     rw [if_neg hb]
     have ha := (advS ws F g).1 i
     generalize mStmt ws F g i = r at ha ⊢
     cases r with
     | no p => simp [Res.then_]
     | ok t j =>
       have := ha t j rfl
       simp only [Res.then_]
       exact ih _ _ (by omega)
    ·rw [seq_stop (fun q => hl q.1)]
     simp only [mList]
     rw [if_neg hb, if_neg (by decide), if_neg hb]
     obtain ⟨g1, rfl⟩ : ∃ g1, g = g1 + 1 := ⟨g - 1, by omega⟩
     rw [stmt_end (by omega)]
     rfl
/-- A block, out of what need and list say. -/
theorem sr_block {ws : List W3} {F f i : Nat} {x : T} {st1 : St2} (hf : 3 * (ws.length - i) + 2 ≤ f + 1)
    (h : (nd ws (i, false) ⟨#[123]⟩).2 = true → st1 = nd ws (i, false) ⟨#[123]⟩)
    (h2 : (nd ws (i, false) ⟨#[123]⟩).2 = false → st1 = (seqM ws (mStmt ws F) f [] (nd ws (i, false) ⟨#[123]⟩).1).2 ∧ ((seqM ws (mStmt ws F) f [] (nd ws (i, false) ⟨#[123]⟩).1).2.2 = false → x = .node 30 nil_ 0 (seqM ws (mStmt ws F) f [] (nd ws (i, false) ⟨#[123]⟩).1).1)) :
    SR (mBlock ws F (f + 1) i) (i, false) x (nd ws st1 ⟨#[125]⟩) := by
 simp only [mBlock, want]
 rw [nd_good] at h h2
 by_cases hw : isW ws i ⟨#[123]⟩ = true
 ·have hl := isW_lt hw
  rw [if_pos hw] at h h2 ⊢
  simp only at h2
  obtain ⟨e1, e2⟩ := h2 trivial
  rw [seq_list f [] (i + 1) (by omega)]
  generalize seqM ws (mStmt ws F) f [] (i + 1) = R at e1 e2 ⊢
  obtain ⟨els, j, c⟩ := R
  simp only at e1 e2 ⊢
  subst e1
  cases c with
  | true => rw [nd_bad, if_pos rfl]; exact SR.mk_no _ _ _
  | false =>
    rw [nd_good, if_neg (by decide), e2 rfl]
    split
    ·exact SR.mk_ok _ _ _
    ·exact SR.mk_no _ _ _
 ·rw [if_neg hw] at h h2 ⊢
  rw [h rfl, nd_bad]; exact SR.mk_no _ _ _
end Go.Proofs.YtedfnadgmhjojaaGreatDoor
namespace Go.Proofs.YtedfnadgmhjojaaGreatDoor
open Go.RowKit
open Pl

def SStmt (rb : Nat) (a : Option Addr) (cap : Nat) (ws : List W3) (F f : Nat) : Prop := ∀ (st : St2) (w : World), 3 * (ws.length - st.1) + 1 ≤ f → Sd w rb a cap ws st → Calls Tryz.prog 116 #[.pointer (some ⟨rb, 0, none⟩)] w (SPost rb a cap ws w (mStmt ws F f st.1) st)
def SBlock (rb : Nat) (a : Option Addr) (cap : Nat) (ws : List W3) (F f : Nat) : Prop := ∀ (st : St2) (w : World), 3 * (ws.length - st.1) + 2 ≤ f → Sd w rb a cap ws st → Calls Tryz.prog 128 #[.pointer (some ⟨rb, 0, none⟩)] w (SPost rb a cap ws w (mBlock ws F f st.1) st)

set_option maxRecDepth 100000 in
set_option maxHeartbeats 4000000 in
theorem sblock_step {rb : Nat} {a : Option Addr} {cap : Nat} {ws : List W3} {F f : Nat} (hfew : ws.length ≤ 1500) (hS : ∀ g, g ≤ f → SStmt rb a cap ws F g) : SBlock rb a cap ws F (f + 1) := by
 rintro ⟨i, b⟩ w hf h
 simp only at hf
 have C0 := mkHid (fun w h => sNeed_any rb a cap ws (i, b) ⟨#[123]⟩ (by decide) w h)
 have hnf : (nd ws (i, b) ⟨#[123]⟩).2 = false → 3 * (ws.length - (nd ws (i, b) ⟨#[123]⟩).1) + 2 ≤ f := by
  cases b with
  | true => rw [nd_bad]; intro q; cases q
  | false =>
    rw [nd_good]
    split
    ·rename_i hw; have := isW_lt hw; intro _; simp only; omega
    ·intro q; cases q
 have hL := fun w h => slist_any (rb := rb) (a := a) (cap := cap) hfew (mStmt ws F) f (fun g j w hg hgf hd => hS g hgf (j, false) w hg hd) (fun g j t k e => (advS ws F g).1 j t k e) (fun g j p e => (advNS ws F g).1 j p e) (nd ws (i, b) ⟨#[123]⟩) hnf w h
 have HSR : Hid (∀ (x : T) (st1 : St2), ((nd ws (i, b) ⟨#[123]⟩).2 = true → st1 = nd ws (i, b) ⟨#[123]⟩) → ((nd ws (i, b) ⟨#[123]⟩).2 = false → st1 = (seqM ws (mStmt ws F) f [] (nd ws (i, b) ⟨#[123]⟩).1).2 ∧ ((seqM ws (mStmt ws F) f [] (nd ws (i, b) ⟨#[123]⟩).1).2.2 = false → x = .node 30 nil_ 0 (seqM ws (mStmt ws F) f [] (nd ws (i, b) ⟨#[123]⟩).1).1)) → SR (mBlock ws F (f + 1) i) (i, b) x (nd ws st1 ⟨#[125]⟩)) := fun x st1 h1 h2 => by
  cases b with
  | true => rw [nd_bad] at h1; rw [h1 rfl, nd_bad]; exact SR.mk_bad _ _ _
  | false => exact sr_block hf h1 h2
 have HA := mkHid h
 have hrb := h.lt
 generalize seqM ws (mStmt ws F) f [] (nd ws (i, b) ⟨#[123]⟩).1 = R at hL HSR
 generalize nd ws (i, b) ⟨#[123]⟩ = st0 at hL HSR C0
 have HL := mkHid hL
 have C2 := mkHid (fun st1 w h => sNeed_any rb a cap ws st1 ⟨#[125]⟩ (by decide) w h)
 clear h hnf hL hS
 show Calls _ _ _ _ (SPost rb a cap ws w (mBlock ws F (f + 1) i) (i, b))
 generalize mBlock ws F (f + 1) i = M at HSR ⊢
 go_enter Tryz.func128, Tryz.ntmps128
 go_wp2_with fail
 refine (C0.out _ (HA.out.alloc _)).mono ?_
 rintro e w1 ⟨rfl, r, s⟩
 have R1 := mkHid r
 have S1 := mkHid (((Step.refl rb w).alloc _).trans s)
 have P1 := mkHid (s.at (heap_alloc_new w _) (by omega))
 clear r s
 go_wp2_with fail
 refine (HL.out _ R1.out).mono ?_
 rintro e w2 ⟨x, st1, rfl, hsx, hnx, r, s, h1, h2⟩
 have R2 := mkHid r
 have S2 := mkHid (S1.out.trans s)
 have P2 := mkHid (s.at P1.out (by omega))
 have z1 : w.heap.size < w1.heap.size := (Array.getElem?_eq_some_iff.1 P1.out).1
 have z2 : w.heap.size < w2.heap.size := (Array.getElem?_eq_some_iff.1 P2.out).1
 have HX := mkHid (HSR.out x.erase st1 h1 h2)
 have hsx' := ((Step.refl rb w2).alloc (.cells x.cells.toArray 38)).sits hsx (fun q hq => by have := hnx.2 q hq; have := R1.out.lt; omega)
 obtain ⟨xk, xs, xm, xa, xc, xkk⟩ := x
 simp only [A.cells] at hsx'
 have HS := mkHid hsx'
 have HN := mkHid hnx
 clear hsx' hsx hnx r s h1 h2 HSR
 simp only [A.val]
 go_wp2_with fail
 refine (C2.out st1 _ (R2.out.alloc _)).mono ?_
 rintro e w3 ⟨rfl, r, s⟩
 have P3 := mkHid (s.at ((Lib.alloc_old w2 _ _ z2).trans P2.out) (by omega))
 have L3 := s.at (heap_alloc_new w2 _) (by have := R2.out.lt; omega)
 have HS3 := mkHid (s.sits HS.out (fun q hq => by have := HN.out.2 q hq; have := R1.out.lt; omega))
 have S3 := mkHid ((S2.out.alloc _).trans s)
 have R3 := mkHid r
 clear r s
 obtain ⟨d0, d1, d2, d3, _⟩ := four_of L3
 obtain ⟨c0, c1, c2, c3, f0, f1, f2, f3⟩ := four_of P3.out
 clear L3
 go_wp2
 obtain ⟨q0, q1, q2, q3⟩ := put4_cells0 P3.out (.int .i64 xk) (.string xs) (.int .i64 xm) (.slice xa xkk.length xc)
 exact bodyPost_ret (v := (A.node xk xs xm xa xc xkk).val) (by simp [results, Tryz.results128, go_sem, q0, q1, q2, q3, A.val]) rfl (sp_tree _ _ _ _ _ R3.out hrb S3.out HS3.out HN.out z1 HX.out)
end Go.Proofs.YtedfnadgmhjojaaGreatDoor
namespace Go.Proofs.YtedfnadgmhjojaaGreatDoor
open Go.RowKit
open Pl

theorem SR.parts {r : Res} {i : Nat} {t : T} {st' : St2} (h : SR r (i, false) t st') : (∃ j, r = .ok t j ∧ st' = (j, false)) ∨ (∃ p, r = .no p ∧ st' = (p, true)) := by
 cases r with
 | no p => exact .inr ⟨p, rfl, h.no⟩
 | ok t' j => exact .inl ⟨j, by rw [h.ok.1], h.ok.2⟩
theorem sr_while {ws : List W3} {F f i : Nat} {x y : T} {st1 st2 : St2} (h1 : isW ws i ⟨#[119, 104, 105, 108, 101]⟩ = true) (h : SR (mCond ws F (i + 1)) (i + 1, false) x st1) (h2 : SR (mBlock ws F f st1.1) st1 y st2) : SR (mStmt ws F (f + 1) i) (i, false) (.node 25 nil_ 0 [x, y]) st2 := by
 simp only [mStmt]
 rw [if_neg (by rw [isW_other h1 (by decide)]; decide), if_pos h1]
 rcases h.parts with ⟨j, e, rfl⟩ | ⟨p, e, rfl⟩
 ·rw [e]
  rcases h2.parts with ⟨k, e2, rfl⟩ | ⟨p, e2, rfl⟩
  ·simp only [Res.then_]; rw [e2]; exact SR.mk_ok _ _ _
  ·simp only [Res.then_]; rw [e2]; exact SR.mk_no _ _ _
 ·rw [e, h2.bad]; exact SR.mk_no _ _ _
theorem sr_else {ws : List W3} {F f i : Nat} {x y z : T} {st1 st2 st3 : St2} (h1 : isW ws i ⟨#[105, 102]⟩ = true) (h : SR (mCond ws F (i + 1)) (i + 1, false) x st1) (h2 : SR (mBlock ws F f st1.1) st1 y st2) (ht : tk ws st2 ⟨#[101, 108, 115, 101]⟩ = true)
    (h3 : SR (mBlock ws F f (st2.1 + 1)) (st2.1 + 1, false) z st3) : SR (mStmt ws F (f + 1) i) (i, false) (.node 24 nil_ 0 [x, y, z]) st3 := by
 simp only [mStmt]
 rw [if_pos h1]
 obtain ⟨b2, w2⟩ := tk_yes ht
 rcases h.parts with ⟨j, e, rfl⟩ | ⟨p, e, rfl⟩
 ·rw [e]
  rcases h2.parts with ⟨k, e2, rfl⟩ | ⟨p, e2, rfl⟩
  ·simp only [Res.then_]; rw [e2]
   simp only at w2 h3 ⊢
   rw [if_pos w2]
   rcases h3.parts with ⟨l, e3, rfl⟩ | ⟨p, e3, rfl⟩
   ·rw [e3]; exact SR.mk_ok _ _ _
   ·rw [e3]; exact SR.mk_no _ _ _
  ·cases b2
 ·rw [h2.bad] at b2; cases b2
theorem sr_noelse {ws : List W3} {F f i : Nat} {x y : T} {st1 st2 : St2} (h1 : isW ws i ⟨#[105, 102]⟩ = true) (h : SR (mCond ws F (i + 1)) (i + 1, false) x st1) (h2 : SR (mBlock ws F f st1.1) st1 y st2) (ht : tk ws st2 ⟨#[101, 108, 115, 101]⟩ = false) :
    SR (mStmt ws F (f + 1) i) (i, false) (.node 24 nil_ 0 [x, y, .node 30 nil_ 0 []]) st2 := by
 simp only [mStmt]
 rw [if_pos h1]
 rcases h.parts with ⟨j, e, rfl⟩ | ⟨p, e, rfl⟩
 ·rw [e]
  rcases h2.parts with ⟨k, e2, rfl⟩ | ⟨p, e2, rfl⟩
  ·simp only [Res.then_]; rw [e2]
   rw [tk_good] at ht
   simp only
   rw [if_neg (by rw [ht]; decide)]
   exact SR.mk_ok _ _ _
  ·simp only [Res.then_]; rw [e2]; exact SR.mk_no _ _ _
 ·rw [e, h2.bad]; exact SR.mk_no _ _ _
/-- What stands behind the tests for if, while, for. -/
theorem stmt_short_eq {ws : List W3} {F f i : Nat} (n0 : isW ws i ⟨#[105, 102]⟩ = false) (n1 : isW ws i ⟨#[119, 104, 105, 108, 101]⟩ = false) (n2 : isW ws i ⟨#[102, 111, 114]⟩ = false) :
    mStmt ws F (f + 1) i = (mShort ws F i).then_ fun x j => want ws j ⟨#[59]⟩ (.ok x (j + 1)) := by
 simp only [mStmt]
 rw [if_neg (by rw [n0]; decide), if_neg (by rw [n1]; decide), if_neg (by rw [n2]; decide)]
theorem sr_semi {ws : List W3} {F f i : Nat} {x : T} {st1 : St2} (n0 : isW ws i ⟨#[105, 102]⟩ = false) (n1 : isW ws i ⟨#[119, 104, 105, 108, 101]⟩ = false) (n2 : isW ws i ⟨#[102, 111, 114]⟩ = false) (h : SR (mShort ws F i) (i, false) x st1) :
    SR (mStmt ws F (f + 1) i) (i, false) x (nd ws st1 ⟨#[59]⟩) := by
 rw [stmt_short_eq n0 n1 n2]
 rcases h.parts with ⟨j, e, rfl⟩ | ⟨p, e, rfl⟩
 ·rw [e, nd_good]
  simp only [Res.then_, want]
  split
  ·exact SR.mk_ok _ _ _
  ·exact SR.mk_no _ _ _
 ·rw [e, nd_bad]; exact SR.mk_no _ _ _
end Go.Proofs.YtedfnadgmhjojaaGreatDoor
