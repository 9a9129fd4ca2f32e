/-
  PLAIN FACTS: the specification's reader against the plain reading, at for and at short statements.
  PLAIN FACTS: the specification's reader against the plain reading, at short statements.
  WHAT THE READING OF A STATEMENT HOLDS ON TO.
  CONTRACT of the specification's reader's stmt: if.
  CONTRACT of the specification's reader's stmt: while.
  CONTRACT of the specification's reader's stmt: for.
-/
import Derived.Test.YtedfnadgmhjojaaGreatDoorMSRm
namespace Go.Proofs.YtedfnadgmhjojaaGreatDoor
open Go.RowKit
open Pl

theorem nm_good {ws : List W3} {i : Nat} (h : kindW ws i = 1) : nmS ws (i, false) = (i + 1, false) ∧ nmT ws (i, false) = textW ws i := by simp [nmS, nmT, nmB, h]
theorem nm_none {ws : List W3} {i : Nat} (h : kindW ws i ≠ 1) : nmS ws (i, false) = (i, true) := by simp [nmS, nmB, h]
theorem sr_for {ws : List W3} {F f i : Nat} {x y z : T} {st2 st4 st5 : St2} (h1 : isW ws i ⟨#[102, 111, 114]⟩ = true)
    (h : SR (mExpr ws F (nd ws (nmS ws (i + 1, false)) ⟨#[102, 114, 111, 109]⟩).1) (nd ws (nmS ws (i + 1, false)) ⟨#[102, 114, 111, 109]⟩) x st2)
    (h2 : SR (mExpr ws F (nd ws st2 ⟨#[116, 111]⟩).1) (nd ws st2 ⟨#[116, 111]⟩) y st4) (h3 : SR (mBlock ws F f st4.1) st4 z st5) :
    SR (mStmt ws F (f + 1) i) (i, false) (.node 26 (nmT ws (i + 1, false)) 0 [x, y, z]) st5 := by
 simp only [mStmt]
 rw [if_neg (by rw [isW_other h1 (by decide)]; decide), if_neg (by rw [isW_other h1 (by decide)]; decide), if_pos h1]
 simp only [wantK, want]
 have bad : ∀ p, st2 = (p, true) → st5 = (p, true) := fun p e => by
  subst e
  rw [nd_bad] at h2
  have e4 := h2.bad
  subst e4
  exact h3.bad
 by_cases k1 : kindW ws (i + 1) = 1
 ·obtain ⟨e1, e2⟩ := nm_good k1
  rw [e1, nd_good] at h
  rw [if_pos k1, e2]
  by_cases k2 : isW ws (i + 1 + 1) ⟨#[102, 114, 111, 109]⟩ = true
  ·rw [if_pos k2] at h
   have k2' : isW ws (i + 2) ⟨#[102, 114, 111, 109]⟩ = true := k2
   rw [if_pos k2']
   rcases h.parts with ⟨j, e, rfl⟩ | ⟨p, e, rfl⟩
   ·have e' : mExpr ws F (i + 3) = .ok x j := e
    rw [e']
    rw [nd_good] at h2
    simp only [Res.then_]
    by_cases k3 : isW ws j ⟨#[116, 111]⟩ = true
    ·rw [if_pos k3] at h2 ⊢
     rcases h2.parts with ⟨k, e3, rfl⟩ | ⟨p, e3, rfl⟩
     ·have e3' : mExpr ws F (j + 1) = .ok y k := e3
      rw [e3']
      rcases h3.parts with ⟨l, e4, rfl⟩ | ⟨p, e4, rfl⟩
      ·simp only; rw [e4]; exact SR.mk_ok _ _ _
      ·simp only; rw [e4]; exact SR.mk_no _ _ _
     ·have e3' : mExpr ws F (j + 1) = .no p := e3
      rw [e3', h3.bad]; exact SR.mk_no _ _ _
    ·rw [if_neg k3] at h2 ⊢
     have e4 := h2.bad
     subst e4
     rw [h3.bad]; exact SR.mk_no _ _ _
   ·have e' : mExpr ws F (i + 3) = .no p := e
    rw [e', bad p rfl]; exact SR.mk_no _ _ _
  ·rw [if_neg k2] at h
   have k2' : ¬ isW ws (i + 2) ⟨#[102, 114, 111, 109]⟩ = true := k2
   rw [if_neg k2', bad _ h.bad]; exact SR.mk_no _ _ _
 ·rw [nm_none k1, nd_bad] at h
  rw [if_neg k1, bad _ h.bad]; exact SR.mk_no _ _ _
end Go.Proofs.YtedfnadgmhjojaaGreatDoor
namespace Go.Proofs.YtedfnadgmhjojaaGreatDoor
open Go.RowKit
open Pl

theorem sr_check {ws : List W3} {F i : Nat} {x : T} {st1 : St2} (h1 : isW ws i ⟨#[99, 104, 101, 99, 107]⟩ = true) (h : SR (mCond ws F (i + 1)) (i + 1, false) x st1) : SR (mShort ws F i) (i, false) (.node 27 nil_ 0 [x]) st1 := by
 unfold mShort
 rw [if_neg (by rw [isW_other h1 (by decide)]; decide), if_pos h1]
 rcases h.parts with ⟨j, e, rfl⟩ | ⟨p, e, rfl⟩
 ·rw [e]; exact SR.mk_ok _ _ _
 ·rw [e]; exact SR.mk_no _ _ _
theorem sr_read {ws : List W3} {F i : Nat} (h1 : isW ws i ⟨#[114, 101, 97, 100]⟩ = true) : SR (mShort ws F i) (i, false) (.node 23 (nmT ws (i + 1, false)) 0 []) (nmS ws (i + 1, false)) := by
 unfold mShort wantK
 rw [if_pos h1]
 by_cases k : kindW ws (i + 1) = 1
 ·rw [if_pos k, (nm_good k).1, (nm_good k).2]; exact SR.mk_ok _ _ _
 ·rw [if_neg k, nm_none k]; exact SR.mk_no _ _ _
theorem sr_skip {ws : List W3} {F i : Nat} (h1 : isW ws i ⟨#[115, 107, 105, 112]⟩ = true) : SR (mShort ws F i) (i, false) (.node 28 nil_ 0 []) (i + 1, false) := by
 unfold mShort
 rw [if_neg (by rw [isW_other h1 (by decide)]; decide), if_neg (by rw [isW_other h1 (by decide)]; decide), if_pos h1]; exact SR.mk_ok _ _ _
theorem sr_stop {ws : List W3} {F i : Nat} (h1 : isW ws i ⟨#[115, 116, 111, 112]⟩ = true) : SR (mShort ws F i) (i, false) (.node 29 nil_ 0 []) (i + 1, false) := by
 unfold mShort
 rw [if_neg (by rw [isW_other h1 (by decide)]; decide), if_neg (by rw [isW_other h1 (by decide)]; decide), if_neg (by rw [isW_other h1 (by decide)]; decide), if_pos h1]; exact SR.mk_ok _ _ _
theorem sr_set {ws : List W3} {F i : Nat} {y : T} {st3 : St2} (n0 : isW ws i ⟨#[114, 101, 97, 100]⟩ = false) (n1 : isW ws i ⟨#[99, 104, 101, 99, 107]⟩ = false) (n2 : isW ws i ⟨#[115, 107, 105, 112]⟩ = false) (n3 : isW ws i ⟨#[115, 116, 111, 112]⟩ = false)
    (ht : tk ws (nmS ws (i, false)) ⟨#[91]⟩ = false) (h : SR (mExpr ws F (nd ws (nmS ws (i, false)) ⟨#[61]⟩).1) (nd ws (nmS ws (i, false)) ⟨#[61]⟩) y st3) : SR (mShort ws F i) (i, false) (.node 21 (nmT ws (i, false)) 0 [y]) st3 := by
 unfold mShort wantK want
 rw [if_neg (by rw [n0]; decide), if_neg (by rw [n1]; decide), if_neg (by rw [n2]; decide), if_neg (by rw [n3]; decide)]
 by_cases k : kindW ws i = 1
 ·obtain ⟨e1, e2⟩ := nm_good k
  rw [e1, tk_good] at ht
  rw [e1, nd_good] at h
  rw [if_pos k, if_neg (by rw [ht]; decide), e2]
  by_cases k2 : isW ws (i + 1) ⟨#[61]⟩ = true
  ·rw [if_pos k2] at h ⊢
   rcases h.parts with ⟨j, e, rfl⟩ | ⟨p, e, rfl⟩
   ·have e' : mExpr ws F (i + 2) = .ok y j := e
    rw [e']; exact SR.mk_ok _ _ _
   ·have e' : mExpr ws F (i + 2) = .no p := e
    rw [e']; exact SR.mk_no _ _ _
  ·rw [if_neg k2] at h ⊢
   rw [h.bad]; exact SR.mk_no _ _ _
 ·rw [nm_none k, nd_bad] at h
  rw [if_neg k, h.bad]; exact SR.mk_no _ _ _
theorem sr_put {ws : List W3} {F i : Nat} {x y : T} {st2 st4 : St2} (n0 : isW ws i ⟨#[114, 101, 97, 100]⟩ = false) (n1 : isW ws i ⟨#[99, 104, 101, 99, 107]⟩ = false) (n2 : isW ws i ⟨#[115, 107, 105, 112]⟩ = false) (n3 : isW ws i ⟨#[115, 116, 111, 112]⟩ = false)
    (k : kindW ws i = 1) (k1 : isW ws (i + 1) ⟨#[91]⟩ = true) (h : SR (mExpr ws F (i + 2)) (i + 2, false) x st2) (h2 : SR (mExpr ws F (nd ws (nd ws st2 ⟨#[93]⟩) ⟨#[61]⟩).1) (nd ws (nd ws st2 ⟨#[93]⟩) ⟨#[61]⟩) y st4) :
    SR (mShort ws F i) (i, false) (.node 22 (textW ws i) 0 [x, y]) st4 := by

 unfold mShort wantK want
 rw [if_neg (by rw [n0]; decide), if_neg (by rw [n1]; decide), if_neg (by rw [n2]; decide), if_neg (by rw [n3]; decide), if_pos k, if_pos k1]
 rcases h.parts with ⟨j, e, rfl⟩ | ⟨p, e, rfl⟩
 ·rw [e]
  simp only [Res.then_]
  rw [nd_good] at h2
  by_cases k2 : isW ws j ⟨#[93]⟩ = true
  ·rw [if_pos k2, nd_good] at h2
   rw [if_pos k2]
   by_cases k3 : isW ws (j + 1) ⟨#[61]⟩ = true
   ·rw [if_pos k3] at h2 ⊢
    rcases h2.parts with ⟨l, e2, rfl⟩ | ⟨p, e2, rfl⟩
    ·have e' : mExpr ws F (j + 2) = .ok y l := e2
     rw [e']; exact SR.mk_ok _ _ _
    ·have e' : mExpr ws F (j + 2) = .no p := e2
     rw [e']; exact SR.mk_no _ _ _
   ·rw [if_neg k3] at h2 ⊢
    rw [h2.bad]; exact SR.mk_no _ _ _
  ·rw [if_neg k2, nd_bad] at h2
   rw [if_neg k2, h2.bad]; exact SR.mk_no _ _ _
 ·rw [nd_bad, nd_bad] at h2
  rw [e, h2.bad]; exact SR.mk_no _ _ _
end Go.Proofs.YtedfnadgmhjojaaGreatDoor
namespace Go.Proofs.YtedfnadgmhjojaaGreatDoor
open Go.RowKit
open Pl

theorem foot_leaf (k m : Int) (s : ByteArray) (a : Option Addr) (c : Nat) : (A.node k s m a c []).foot = [] := by simp [A.foot, feet]
section
variable {rb : Nat} {a : Option Addr} {cap : Nat} {ws : List W3} {w : World} {w' : World} {st : St2} {L : List (Nat × A)}
/-- The result's variable and the statement's variable, both still zero. -/
theorem SGrown.zero {w1 : World} (hrb : rb < w.heap.size) (s : Step rb ((w.alloc (.cells #[.int .i64 0, .string ⟨#[]⟩, .int .i64 0, .slice none 0 0] 38)).alloc (.cells #[.int .i64 0, .string ⟨#[]⟩, .int .i64 0, .slice none 0 0] 38)) w1) (r : Sd w1 rb a cap ws st) :
    SGrown rb a cap ws w (w.heap.size + 1) w1 (.node 0 ⟨#[]⟩ 0 none 0 []) st := by
 have hX := heap_alloc_new (w.alloc (.cells #[.int .i64 0, .string ⟨#[]⟩, .int .i64 0, .slice none 0 0] 38)) (.cells #[.int .i64 0, .string ⟨#[]⟩, .int .i64 0, .slice none 0 0] 38)
 rw [show (w.alloc (.cells #[.int .i64 0, .string ⟨#[]⟩, .int .i64 0, .slice none 0 0] 38)).heap.size = w.heap.size + 1 by simp] at hX
 have hP := (Lib.alloc_old (w.alloc (.cells #[.int .i64 0, .string ⟨#[]⟩, .int .i64 0, .slice none 0 0] 38)) (.cells #[.int .i64 0, .string ⟨#[]⟩, .int .i64 0, .slice none 0 0] 38) w.heap.size (by simp)).trans (heap_alloc_new w _)
 exact ⟨s.at hX (by omega), s.at hP (by omega), Sits.leaf _ _ _ (by decide), New.leaf _ _ _ _ _ _, by rw [foot_leaf]; simp, r, (((Step.refl rb w).alloc _).alloc _).trans s, by omega, hrb⟩
structure Hold (rb : Nat) (a : Option Addr) (cap : Nat) (ws : List W3) (w w' : World) (st : St2) (L : List (Nat × A)) : Prop where
 g : SGrown rb a cap ws w (w.heap.size + 1) w' (.node 0 ⟨#[]⟩ 0 none 0 []) st
 here : ∀ q ∈ L, w.heap.size + 1 < q.1 ∧ w'.heap[q.1]? = some (.cells q.2.cells.toArray 38 (0, 0))
 sits : SitsL w' (L.map Prod.snd)
 new : NewL (w.heap.size + 2) (L.map Prod.snd)
theorem Hold.nil (g : SGrown rb a cap ws w (w.heap.size + 1) w' (.node 0 ⟨#[]⟩ 0 none 0 []) st) : Hold rb a cap ws w w' st [] :=
 ⟨g, fun q hq => (by cases hq), trivial, ⟨List.nodup_nil, fun b hb => (by cases hb)⟩⟩
theorem Hold.on {w2 : World} {st2 : St2} (h : Hold rb a cap ws w w' st L) (s : Step rb w' w2) (r : Sd w2 rb a cap ws st2) : Hold rb a cap ws w w2 st2 L := by
 have hr := h.g.rlt
 exact ⟨h.g.on s r, fun q hq => ⟨(h.here q hq).1, s.at (h.here q hq).2 (by have := (h.here q hq).1; omega)⟩, s.sitsL h.sits (fun q hq => by have := h.new.2 q hq; omega), h.new⟩
theorem Hold.below {w2 : World} (h : Hold rb a cap ws w w' st L) (b : Below w'.heap.size w' w2) : Hold rb a cap ws w w2 st L := h.on (Step.of_below b) (h.g.sd.keep (b.mono h.g.sd.lt))
theorem Hold.room (h : Hold rb a cap ws w w' st L) : w.heap.size + 2 ≤ w'.heap.size := h.g.plt
/-- One tree more. -/
theorem Hold.add {w1 : World} {x : A} {st1 : St2} (h : Hold rb a cap ws w w' st L) (hx : Sits w1 x) (hn : New w'.heap.size x) (r : Sd w1 rb a cap ws st1) (s : Step rb w' w1) (cs : Array Value) (hcs : x.cells.toArray = cs) :
    Hold rb a cap ws w (w1.alloc (.cells cs 38)) st1 (L ++ [(w1.heap.size, x)]) := by
 have h1 := h.on s r
 have hm := h.room
 have hm1 := h1.room
 have lx := Sits.lt x hx
 have hl := SitsL.lt h.sits
 have hl1 := SitsL.lt h1.sits
 refine ⟨h1.g.on ((Step.refl rb w1).alloc _) (r.alloc _), fun q hq => ?_, ?_, ?_⟩
 ·rcases List.mem_append.1 hq with hq | hq
  ·exact ⟨(h1.here q hq).1, (Lib.alloc_old _ _ _ (Array.getElem?_eq_some_iff.1 (h1.here q hq).2).1).trans (h1.here q hq).2⟩
  ·rw [List.mem_singleton] at hq
   subst hq
   exact ⟨by simp only; omega, by simp only; rw [hcs]; exact heap_alloc_new w1 _⟩
 ·rw [List.map_append]
  exact sitsL_snoc (h1.sits.stay fun q hq => Lib.alloc_old _ _ _ (hl1 q hq)) (Sits.stay x (fun q hq => Lib.alloc_old _ _ _ (lx q hq)) hx)
 ·rw [List.map_append]
  exact NewL.snoc h.new hl hn hm
/-- A place of its own is written. -/
theorem Hold.put (h : Hold rb a cap ws w w' st L) {r : Nat} (hr : w.heap.size + 1 < r) (hne : ∀ q ∈ L, q.1 ≠ r) (ho : r ∉ feet (L.map Prod.snd)) (v0 v1 v2 v3 : Value) : Hold rb a cap ws w (put4 w' r v0 v1 v2 v3) st L := by
 have hrl := h.g.rlt
 refine ⟨⟨(put4_other _ _ _ _ (by omega)).trans h.g.here, (put4_other _ _ _ _ (by omega)).trans h.g.res, Sits.leaf _ _ _ (by decide), h.g.new, h.g.off, put4_sd h.g.sd (by omega) _ _ _ _, put4_step h.g.step (by omega) _ _ _ _, h.g.lt, hrl⟩, fun q hq => ⟨(h.here q hq).1, (put4_other _ _ _ _ (hne q hq)).trans (h.here q hq).2⟩, h.sits.stay (fun q hq => put4_other _ _ _ _ (fun e => ho (e ▸ hq))), h.new⟩
end
theorem put_sits {w9 : World} {p n : Nat} {xs : List A} (hs : SitsL w9 xs) (hn : NewL n xs) (hp : p < n) (v0 v1 v2 v3 : Value) : SitsL (put4 w9 p v0 v1 v2 v3) xs :=
 hs.stay fun q hq => put4_other _ _ _ _ (by have := hn.2 q hq; omega)
theorem alloc_sits {w9 : World} {xs : List A} (hs : SitsL w9 xs) (o : Obj) : SitsL (w9.alloc o) xs := hs.stay fun q hq => Lib.alloc_old _ _ _ (SitsL.lt hs q hq)
theorem sp_any {rb : Nat} {a : Option Addr} {cap : Nat} {ws : List W3} {w W : World} {r : Res} {st st' : St2} {n : Nat} (x : A) (hd : Sd W rb a cap ws st') (hst : Step rb w W) (hx : Sits W x ∧ New n x) (hn : w.heap.size ≤ n) (hr : SR r st x.erase st') :
    SPost rb a cap ws w r st (.returned x.val) W := ⟨x, st', rfl, hx.1, hx.2.mono hn, hd, hst, hr⟩
/-- A row of trees is laid behind a world: the tree over it. -/
theorem made_row {w0 : World} {n b c : Nat} {xs : List A} {cs : Array Value} {k m : Int} {s : ByteArray} (hcs : (cellsL xs).toArray = cs) (hb : w0.heap.size = b) (hs : SitsL w0 xs) (hn : NewL n xs) (hle : n ≤ b) (hz : s.size ≤ maxLen) (hl : xs.length ≤ maxLen) :
    Sits (w0.alloc (.cells cs 38)) (.node k s m (some ⟨b, 0, none⟩) c xs) ∧ New n (.node k s m (some ⟨b, 0, none⟩) c xs) := by
 subst hb
 exact made hs ((Below.refl _ _).alloc (Nat.le_refl _) _) (by rw [hcs]; exact heap_alloc_new w0 _) (Nat.le_refl _) hn hle hz hl
theorem cells3 (xk : Int) (xs : ByteArray) (xm : Int) (xa : Option Addr) (xc : Nat) (xkk : List A) (yk : Int) (ys : ByteArray) (ym : Int) (ya : Option Addr) (yc : Nat) (ykk : List A) (zk : Int) (zs : ByteArray) (zm : Int) (za : Option Addr) (zc : Nat) (zkk : List A) :
    (cellsL [A.node xk xs xm xa xc xkk, A.node yk ys ym ya yc ykk, A.node zk zs zm za zc zkk]).toArray = #[.int .i64 xk, .string xs, .int .i64 xm, .slice xa xkk.length xc, .int .i64 yk, .string ys, .int .i64 ym, .slice ya ykk.length yc, .int .i64 zk, .string zs, .int .i64 zm, .slice za zkk.length zc] := rfl
theorem sr_cond_pos {ws : List W3} {F i : Nat} {x : T} {st1 : St2} (h : SR (mCond ws F i) (i, false) x st1) : i ≤ st1.1 := by
 rcases h.parts with ⟨j, e, rfl⟩ | ⟨p, e, rfl⟩
 ·have := adv_cond e; simp only; omega
 ·exact advN_cond e
theorem sr_expr_pos {ws : List W3} {F : Nat} {st : St2} {x : T} {st1 : St2} (h : SR (mExpr ws F st.1) st x st1) : st.1 ≤ st1.1 := by
 obtain ⟨i, b⟩ := st
 cases b with
 | true => rw [h.bad]; exact Nat.le_refl _
 | false =>
   rcases h.parts with ⟨j, e, rfl⟩ | ⟨p, e, rfl⟩
   ·have := (adv ws F).2.2.2.1 _ _ _ e; simp only at this ⊢; omega
   ·exact (advN ws F).2.2.2.1 _ _ e
theorem sr_block_pos {ws : List W3} {F f : Nat} {st : St2} {x : T} {st1 : St2} (h : SR (mBlock ws F f st.1) st x st1) : st.1 ≤ st1.1 := by
 obtain ⟨i, b⟩ := st
 cases b with
 | true => rw [h.bad]; exact Nat.le_refl _
 | false =>
   rcases h.parts with ⟨j, e, rfl⟩ | ⟨p, e, rfl⟩
   ·have := (advS ws F f).2.1 _ _ _ e; simp only at this ⊢; omega
   ·exact (advNS ws F f).2.1 _ _ e
theorem nd_pos (ws : List W3) (st : St2) (s : ByteArray) : st.1 ≤ (nd ws st s).1 := by unfold nd; split <;> simp
theorem nmS_pos (ws : List W3) (st : St2) : st.1 ≤ (nmS ws st).1 := by unfold nmS; split <;> simp
end Go.Proofs.YtedfnadgmhjojaaGreatDoor
namespace Go.Proofs.YtedfnadgmhjojaaGreatDoor
open Go.RowKit
open Pl

set_option maxRecDepth 100000 in
set_option maxHeartbeats 4000000 in
theorem sstmt_if {rb : Nat} {a : Option Addr} {cap : Nat} {ws : List W3} {F f : Nat} (hC : SCond rb a cap ws F) (hB : SBlock rb a cap ws F f) (i : Nat) (w : World) (hf : 3 * (ws.length - i) + 1 ≤ f + 1) (h : Sd w rb a cap ws (i, false)) (h1 : isW ws i ⟨#[105, 102]⟩ = true) :
    Calls Tryz.prog 116 #[.pointer (some ⟨rb, 0, none⟩)] w (SPost rb a cap ws w (mStmt ws F (f + 1) i) (i, false)) := by
 have hil := isW_lt h1
 have HC := mkHid (fun w h => hC (i + 1, false) w h)
 have HB := mkHid hB
 have H1 := mkHid h1
 have HA := mkHid h
 have hrb := h.lt
 have C0 := mkHid (fun w h => sTake_yes rb a cap ws (i, false) ⟨#[105, 102]⟩ (by decide) w h (by rw [tk_good]; exact h1))
 clear h hC hB h1
 go_enter Tryz.func116, Tryz.ntmps116
 go_wp2_with fail
 refine (C0.out _ ((HA.out.alloc _).alloc _)).mono ?_
 rintro e w1 ⟨rfl, r, s⟩
 have G1 := mkHid (SGrown.zero hrb s r)
 clear r s
 have K1 := mkHid (Hold.nil G1.out)
 clear G1
 go_wp2_with fail
 refine (HC.out _ K1.out.g.sd).mono ?_
 rintro e w2 ⟨x, st1, rfl, hsx, hnx, r, s, hr⟩
 have K2 := mkHid (K1.out.add hsx hnx r s _ rfl)
 have D := K1.out.on s r
 have zP := D.room
 have H_hr := mkHid hr
 obtain ⟨xk, xs, xm, xa, xc, xkk⟩ := x
 clear D hsx hnx r s hr K1
 have H2 := mkHid (fun w h => HB.out st1 w (by have := sr_cond_pos H_hr.out; omega) h)
 clear HC C0
 simp only [A.val]
 go_wp2_with fail
 refine (H2.out _ K2.out.g.sd).mono ?_
 rintro e w3 ⟨y, st2, rfl, hsx, hnx, r, s, hr2⟩
 have K3 := mkHid (K2.out.add hsx hnx r s _ rfl)
 have D := K2.out.on s r
 have zP := D.room
 have H_hr2 := mkHid hr2
 obtain ⟨yk, ys, ym, ya, yc, ykk⟩ := y
 clear hsx hnx r s hr2 K2
 have HZ23 := mkHid (show w2.heap.size < w3.heap.size from (Array.getElem?_eq_some_iff.1 (D.here (w2.heap.size, (A.node xk xs xm xa xc xkk)) (by simp)).2).1)
 have HF := mkHid (show ∀ q ∈ feet [(A.node xk xs xm xa xc xkk), (A.node yk ys ym ya yc ykk)], q < w3.heap.size + 1 from fun q hq => by have := SitsL.lt K3.out.sits q hq; simp at this; omega)
 clear D
 have KD := mkHid (K3.out.on ((Step.refl rb _).alloc (.cells #[.int .i64 30, .string ⟨#[]⟩, .int .i64 0, .slice none 0 0] 38)) (K3.out.g.sd.alloc _))
 have HD := mkHid (heap_alloc_new (w3.alloc (.cells #[.int .i64 yk, .string ys, .int .i64 ym, .slice ya ykk.length yc] 38)) (.cells #[.int .i64 30, .string ⟨#[]⟩, .int .i64 0, .slice none 0 0] 38))
 have hsz : (w3.alloc (.cells #[.int .i64 yk, .string ys, .int .i64 ym, .slice ya ykk.length yc] 38)).heap.size = w3.heap.size + 1 := by simp
 rw [hsz] at HD
 clear H2 K3 hsz
 simp only [A.val]
 by_cases ht : tk ws st2 ⟨#[101, 108, 115, 101]⟩ = true
 ·have CE := mkHid (fun w h => sTake_yes rb a cap ws st2 ⟨#[101, 108, 115, 101]⟩ (by decide) w h ht)
  have HT0 := mkHid ht
  clear ht
  go_wp2_with fail
  refine (CE.out _ KD.out.g.sd).mono ?_
  rintro e w4 ⟨rfl, r, s⟩
  have K4 := mkHid (KD.out.on s r)
  have D4 := mkHid (s.at HD.out (by have := KD.out.g.rlt; have := KD.out.room; omega))
  clear r s KD HD CE
  have H3 := mkHid (fun w h => HB.out (st2.1 + 1, false) w (by have := sr_cond_pos H_hr.out; have := sr_block_pos H_hr2.out; simp only; omega) h)
  clear HB
  go_wp2_with fail
  refine (H3.out _ K4.out.g.sd).mono ?_
  rintro e w5 ⟨z, st3, rfl, hsz, hnz, r, s, hr3⟩
  obtain ⟨zk, zs, zm, za, zc, zkk⟩ := z
  have K5 := K4.out.on s r
  have lx := SitsL.lt K4.out.sits
  have lz := fun q hq => hnz.2 q hq
  have hdl : w3.heap.size + 1 < w4.heap.size := (Array.getElem?_eq_some_iff.1 D4.out).1
  have h23 := (K4.out.here (w2.heap.size, (A.node xk xs xm xa xc xkk)) (by simp)).1
  have D5 := s.at D4.out (by have := K4.out.g.rlt; have := K4.out.room; omega)
  have hq2 : w2.heap.size < w3.heap.size := HZ23.out
  have hx5 := (K5.here (w2.heap.size, (A.node xk xs xm xa xc xkk)) (by simp)).2
  have hy5 := (K5.here (w3.heap.size, (A.node yk ys ym ya yc ykk)) (by simp)).2
  have hrm := K5.room
  have h0 := K4.out.room
  have hw3 : w.heap.size + 1 < w3.heap.size := (K4.out.here (w3.heap.size, (A.node yk ys ym ya yc ykk)) (by simp)).1
  have ho : w3.heap.size + 1 ∉ feet [(A.node xk xs xm xa xc xkk), (A.node yk ys ym ya yc ykk)] := fun q => by have := HF.out _ q; omega
  have HK := K5.put (r := w3.heap.size + 1) (by omega) (fun q hq => by simp at hq; rcases hq with rfl | rfl <;> simp only <;> omega) ho (.int .i64 zk) (.string zs) (.int .i64 zm) (.slice za zkk.length zc)
  have HN := mkHid (NewL.snoc K4.out.new lx hnz h0)
  have HT := mkHid (made_row (w0 := put4 (put4 w5 (w3.heap.size + 1) (.int .i64 zk) (.string zs) (.int .i64 zm) (.slice za zkk.length zc)) w.heap.size (.int .i64 24) (.string ⟨#[]⟩) (.int .i64 0) (.slice (some ⟨w5.heap.size, 0, none⟩) 3 3)) (b := w5.heap.size) (n := w.heap.size + 2) (k := 24) (m := 0) (s := ⟨#[]⟩) (c := 3) (xs := [(A.node xk xs xm xa xc xkk), (A.node yk ys ym ya yc ykk), (A.node zk zs zm za zc zkk)]) (cells3 _ _ _ _ _ _ _ _ _ _ _ _ _ _ _ _ _ _) (by rw [put4_size, put4_size]) (put_sits (sitsL_snoc (xs := [(A.node xk xs xm xa xc xkk), (A.node yk ys ym ya yc ykk)]) HK.sits (Sits.stay _ (fun q hq => put4_other _ _ _ _ (by have := hnz.2 q hq; omega)) hsz)) HN.out (by omega) _ _ _ _) HN.out hrm (by decide) (by simp [maxLen]))
  have HQ := mkHid ((Lib.alloc_old (put4 (put4 w5 (w3.heap.size + 1) (.int .i64 zk) (.string zs) (.int .i64 zm) (.slice za zkk.length zc)) w.heap.size (.int .i64 24) (.string ⟨#[]⟩) (.int .i64 0) (.slice (some ⟨w5.heap.size, 0, none⟩) 3 3)) (.cells #[.int .i64 xk, .string xs, .int .i64 xm, .slice xa xkk.length xc, .int .i64 yk, .string ys, .int .i64 ym, .slice ya ykk.length yc, .int .i64 zk, .string zs, .int .i64 zm, .slice za zkk.length zc] 38) w.heap.size (by rw [put4_size, put4_size]; omega)).trans (put4_at HK.g.res (.int .i64 24) (.string ⟨#[]⟩) (.int .i64 0) (.slice (some ⟨w5.heap.size, 0, none⟩) 3 3)))
  have HSD := mkHid ((put4_sd HK.g.sd hrb (.int .i64 24) (.string ⟨#[]⟩) (.int .i64 0) (.slice (some ⟨w5.heap.size, 0, none⟩) 3 3)).alloc (.cells #[.int .i64 xk, .string xs, .int .i64 xm, .slice xa xkk.length xc, .int .i64 yk, .string ys, .int .i64 ym, .slice ya ykk.length yc, .int .i64 zk, .string zs, .int .i64 zm, .slice za zkk.length zc] 38))
  have HST := mkHid ((put4_step HK.g.step (Nat.le_refl _) (.int .i64 24) (.string ⟨#[]⟩) (.int .i64 0) (.slice (some ⟨w5.heap.size, 0, none⟩) 3 3)).alloc (.cells #[.int .i64 xk, .string xs, .int .i64 xm, .slice xa xkk.length xc, .int .i64 yk, .string ys, .int .i64 ym, .slice ya ykk.length yc, .int .i64 zk, .string zs, .int .i64 zm, .slice za zkk.length zc] 38))
  obtain ⟨x0, x1, x2, x3, _⟩ := four_of (show w5.heap[w2.heap.size]? = some (.cells #[.int .i64 xk, .string xs, .int .i64 xm, .slice xa xkk.length xc] 38 (0, 0)) from hx5)
  obtain ⟨y0, y1, y2, y3, _⟩ := four_of (show w5.heap[w3.heap.size]? = some (.cells #[.int .i64 yk, .string ys, .int .i64 ym, .slice ya ykk.length yc] 38 (0, 0)) from hy5)
  obtain ⟨e0, e1, e2, e3, g0, g1, g2, g3⟩ := four_of D5
  obtain ⟨c0, c1, c2, c3, f0, f1, f2, f3⟩ := four_of K5.g.res
  have ne1 : ¬ (w3.heap.size + 1 = w2.heap.size) := by omega
  have ne2 : ¬ (w2.heap.size = w3.heap.size + 1) := by omega
  have ne3 : ¬ (w3.heap.size + 1 = w.heap.size) := by omega
  have ne4 : ¬ (w.heap.size = w3.heap.size + 1) := by omega
  have zx : w2.heap.size < w5.heap.size := (Array.getElem?_eq_some_iff.1 hx5).1
  have zy : w3.heap.size < w5.heap.size := (Array.getElem?_eq_some_iff.1 hy5).1
  have zd : w3.heap.size + 1 < w5.heap.size := (Array.getElem?_eq_some_iff.1 D5).1
  have zp : w.heap.size < w5.heap.size := by omega
  have H_hr3 := mkHid hr3
  clear HK K5 lx lz hx5 hy5 D5 ho hsz hnz r s hr3 K4 D4 H3 HN hdl h23 hq2 hrm h0 hw3
  simp only [A.val]
  go_wp2
  obtain ⟨q0, q1, q2, q3, _⟩ := four_of HQ.out
  exact bodyPost_ret (v := (A.node 24 ⟨#[]⟩ 0 (some ⟨w5.heap.size, 0, none⟩) 3 [(A.node xk xs xm xa xc xkk), (A.node yk ys ym ya yc ykk), (A.node zk zs zm za zc zkk)]).val) (by simp [results, Tryz.results116, go_sem, q0, q1, q2, q3, A.val]) rfl (sp_any _ HSD.out HST.out HT.out (by omega) (by rw [erase3]; exact sr_else H1.out H_hr.out H_hr2.out HT0.out H_hr3.out))
 ·simp only [Bool.not_eq_true] at ht
  have CE := mkHid (fun w h => sTake_no rb a cap ws st2 ⟨#[101, 108, 115, 101]⟩ (by decide) w h ht)
  have HT0 := mkHid ht
  clear ht HB
  go_wp2_with fail
  refine (CE.out _ KD.out.g.sd).mono ?_
  rintro e w4 ⟨rfl, r, s⟩
  have K4 := KD.out.on s r
  have D4 := s.at HD.out (by have := KD.out.g.rlt; have := KD.out.room; omega)
  have hx4 := (K4.here (w2.heap.size, (A.node xk xs xm xa xc xkk)) (by simp)).2
  have hy4 := (K4.here (w3.heap.size, (A.node yk ys ym ya yc ykk)) (by simp)).2
  have HN := mkHid (NewL.snoc K4.new (SitsL.lt K4.sits) (New.leaf w4.heap.size 30 0 ⟨#[]⟩ none 0) K4.room)
  have HT := mkHid (made_row (cs := #[.int .i64 xk, .string xs, .int .i64 xm, .slice xa xkk.length xc, .int .i64 yk, .string ys, .int .i64 ym, .slice ya ykk.length yc, .int .i64 30, .string ⟨#[]⟩, .int .i64 0, .slice none 0 0]) (w0 := put4 w4 w.heap.size (.int .i64 24) (.string ⟨#[]⟩) (.int .i64 0) (.slice (some ⟨w4.heap.size, 0, none⟩) 3 3)) (b := w4.heap.size) (n := w.heap.size + 2) (k := 24) (m := 0) (s := ⟨#[]⟩) (c := 3) (xs := [(A.node xk xs xm xa xc xkk), (A.node yk ys ym ya yc ykk), (A.node 30 ⟨#[]⟩ 0 none 0 [])]) rfl (by rw [put4_size]) (put_sits (sitsL_snoc (xs := [(A.node xk xs xm xa xc xkk), (A.node yk ys ym ya yc ykk)]) K4.sits (Sits.leaf _ _ _ (by decide))) HN.out (by omega) _ _ _ _) HN.out K4.room (by decide) (by simp [maxLen]))
  have HQ := mkHid ((Lib.alloc_old (put4 w4 w.heap.size (.int .i64 24) (.string ⟨#[]⟩) (.int .i64 0) (.slice (some ⟨w4.heap.size, 0, none⟩) 3 3)) (.cells #[.int .i64 xk, .string xs, .int .i64 xm, .slice xa xkk.length xc, .int .i64 yk, .string ys, .int .i64 ym, .slice ya ykk.length yc, .int .i64 30, .string ⟨#[]⟩, .int .i64 0, .slice none 0 0] 38) w.heap.size (by rw [put4_size]; have := K4.room; omega)).trans (put4_at K4.g.res (.int .i64 24) (.string ⟨#[]⟩) (.int .i64 0) (.slice (some ⟨w4.heap.size, 0, none⟩) 3 3)))
  have HSD := mkHid ((put4_sd K4.g.sd hrb (.int .i64 24) (.string ⟨#[]⟩) (.int .i64 0) (.slice (some ⟨w4.heap.size, 0, none⟩) 3 3)).alloc (.cells #[.int .i64 xk, .string xs, .int .i64 xm, .slice xa xkk.length xc, .int .i64 yk, .string ys, .int .i64 ym, .slice ya ykk.length yc, .int .i64 30, .string ⟨#[]⟩, .int .i64 0, .slice none 0 0] 38))
  have HST := mkHid ((put4_step K4.g.step (Nat.le_refl _) (.int .i64 24) (.string ⟨#[]⟩) (.int .i64 0) (.slice (some ⟨w4.heap.size, 0, none⟩) 3 3)).alloc (.cells #[.int .i64 xk, .string xs, .int .i64 xm, .slice xa xkk.length xc, .int .i64 yk, .string ys, .int .i64 ym, .slice ya ykk.length yc, .int .i64 30, .string ⟨#[]⟩, .int .i64 0, .slice none 0 0] 38))
  obtain ⟨x0, x1, x2, x3, _⟩ := four_of (show w4.heap[w2.heap.size]? = some (.cells #[.int .i64 xk, .string xs, .int .i64 xm, .slice xa xkk.length xc] 38 (0, 0)) from hx4)
  obtain ⟨y0, y1, y2, y3, _⟩ := four_of (show w4.heap[w3.heap.size]? = some (.cells #[.int .i64 yk, .string ys, .int .i64 ym, .slice ya ykk.length yc] 38 (0, 0)) from hy4)
  obtain ⟨e0, e1, e2, e3, _⟩ := four_of D4
  obtain ⟨c0, c1, c2, c3, f0, f1, f2, f3⟩ := four_of K4.g.res
  have zp : w.heap.size < w4.heap.size := by have := K4.room; omega
  clear K4 hx4 hy4 D4 r s KD HD CE HN HZ23 HF
  go_wp2
  obtain ⟨q0, q1, q2, q3, _⟩ := four_of HQ.out
  exact bodyPost_ret (v := (A.node 24 ⟨#[]⟩ 0 (some ⟨w4.heap.size, 0, none⟩) 3 [(A.node xk xs xm xa xc xkk), (A.node yk ys ym ya yc ykk), (A.node 30 ⟨#[]⟩ 0 none 0 [])]).val) (by simp [results, Tryz.results116, go_sem, q0, q1, q2, q3, A.val]) rfl (sp_any _ HSD.out HST.out HT.out (by omega) (by rw [erase3, erase0]; exact sr_noelse H1.out H_hr.out H_hr2.out HT0.out))
end Go.Proofs.YtedfnadgmhjojaaGreatDoor
namespace Go.Proofs.YtedfnadgmhjojaaGreatDoor
open Go.RowKit
open Pl

set_option maxRecDepth 100000 in
set_option maxHeartbeats 4000000 in
theorem sstmt_while {rb : Nat} {a : Option Addr} {cap : Nat} {ws : List W3} {F f : Nat} (hC : SCond rb a cap ws F) (hB : SBlock rb a cap ws F f) (i : Nat) (w : World) (hf : 3 * (ws.length - i) + 1 ≤ f + 1) (h : Sd w rb a cap ws (i, false)) (n0 : isW ws i ⟨#[105, 102]⟩ = false) (h1 : isW ws i ⟨#[119, 104, 105, 108, 101]⟩ = true) :
    Calls Tryz.prog 116 #[.pointer (some ⟨rb, 0, none⟩)] w (SPost rb a cap ws w (mStmt ws F (f + 1) i) (i, false)) := by
 have hil := isW_lt h1
 have HC := mkHid (fun w h => hC (i + 1, false) w h)
 have HB := mkHid hB
 have H1 := mkHid h1
 have HA := mkHid h
 have hrb := h.lt
 have C0 := mkHid (fun w h => sTake_no rb a cap ws (i, false) ⟨#[105, 102]⟩ (by decide) w h (by rw [tk_good]; exact n0))
 have C1 := mkHid (fun w h => sTake_yes rb a cap ws (i, false) ⟨#[119, 104, 105, 108, 101]⟩ (by decide) w h (by rw [tk_good]; exact h1))
 clear h hC hB h1 n0
 go_enter Tryz.func116, Tryz.ntmps116
 go_wp2_with fail
 refine (C0.out _ ((HA.out.alloc _).alloc _)).mono ?_
 rintro e w1 ⟨rfl, r, s⟩
 have G1 := mkHid (SGrown.zero hrb s r)
 clear r s
 go_wp2_with fail
 refine (C1.out _ G1.out.sd).mono ?_
 rintro e w2 ⟨rfl, r, s⟩
 have G2 := mkHid (G1.out.on s r)
 clear r s G1
 have K2 := mkHid (Hold.nil G2.out)
 clear G2
 go_wp2_with fail
 refine (HC.out _ K2.out.g.sd).mono ?_
 rintro e w3 ⟨x, st1, rfl, hsx, hnx, r, s, hr⟩
 have K3 := mkHid (K2.out.add hsx hnx r s _ rfl)
 have D := K2.out.on s r
 have zP := D.room
 have H_hr := mkHid hr
 obtain ⟨xk, xs, xm, xa, xc, xkk⟩ := x
 clear D hsx hnx r s hr K2
 have H2 := mkHid (fun w h => HB.out st1 w (by have := sr_cond_pos H_hr.out; omega) h)
 clear HB HC C0 C1
 simp only [A.val]
 go_wp2_with fail
 refine (H2.out _ K3.out.g.sd).mono ?_
 rintro e w4 ⟨y, st2, rfl, hsx, hnx, r, s, hr2⟩
 have K4 := mkHid (K3.out.add hsx hnx r s _ rfl)
 have D := K3.out.on s r
 have zP := D.room
 obtain ⟨d0, d1, d2, d3, _⟩ := four_of (show w4.heap[w3.heap.size]? = some (.cells #[.int .i64 xk, .string xs, .int .i64 xm, .slice xa xkk.length xc] 38 (0, 0)) from (D.here (w3.heap.size, (A.node xk xs xm xa xc xkk)) (by simp)).2)
 have zx := (Array.getElem?_eq_some_iff.1 (D.here (w3.heap.size, (A.node xk xs xm xa xc xkk)) (by simp)).2).1
 simp only at zx
 have H_hr2 := mkHid hr2
 obtain ⟨yk, ys, ym, ya, yc, ykk⟩ := y
 clear D hsx hnx r s hr2 K3
 clear H2
 simp only [A.val]
 go_wp2_with fail
 refine (two_new 25 (A.node xk xs xm xa xc xkk) (A.node yk ys ym ya yc ykk) _).mono ?_
 rintro e w5 ⟨bb, rfl, hB, hge, hb⟩
 obtain ⟨t1, t2⟩ := made (n := w.heap.size + 2) (k := 25) (m := 0) (s := ⟨#[]⟩) (c := 2) (xs := [(A.node xk xs xm xa xc xkk), (A.node yk ys ym ya yc ykk)]) K4.out.sits hb hB hge K4.out.new K4.out.room (by decide) (by simp [maxLen])
 have K5 := mkHid (K4.out.below hb)
 have HT1 := mkHid t1
 have HT2 := mkHid t2
 clear hB hge hb t1 t2 d0 d1 d2 d3 K4
 obtain ⟨c0, c1, c2, c3, f0, f1, f2, f3⟩ := four_of K5.out.g.res
 simp only [A.val]
 go_wp2
 obtain ⟨q0, q1, q2, q3⟩ := put4_cells0 K5.out.g.res (.int .i64 25) (.string ⟨#[]⟩) (.int .i64 0) (.slice (some ⟨bb, 0, none⟩) 2 2)
 exact bodyPost_ret (v := (A.node 25 ⟨#[]⟩ 0 (some ⟨bb, 0, none⟩) 2 [(A.node xk xs xm xa xc xkk), (A.node yk ys ym ya yc ykk)]).val) (by simp [results, Tryz.results116, go_sem, q0, q1, q2, q3, A.val]) rfl (sp_tree _ _ _ _ _ K5.out.g.sd hrb K5.out.g.step HT1.out HT2.out (by omega) (by rw [erase2]; exact sr_while H1.out H_hr.out H_hr2.out))
end Go.Proofs.YtedfnadgmhjojaaGreatDoor
namespace Go.Proofs.YtedfnadgmhjojaaGreatDoor
open Go.RowKit
open Pl

set_option maxRecDepth 100000 in
set_option maxHeartbeats 4000000 in
theorem sstmt_for {rb : Nat} {a : Option Addr} {cap : Nat} {ws : List W3} {F f : Nat} (he : Env ws) (hF : 5 * ws.length + 3 ≤ F) (hE : SExpr rb a cap ws F) (hB : SBlock rb a cap ws F f) (i : Nat) (w : World) (hf : 3 * (ws.length - i) + 1 ≤ f + 1) (h : Sd w rb a cap ws (i, false)) (n0 : isW ws i ⟨#[105, 102]⟩ = false) (n1 : isW ws i ⟨#[119, 104, 105, 108, 101]⟩ = false) (h1 : isW ws i ⟨#[102, 111, 114]⟩ = true) :
    Calls Tryz.prog 116 #[.pointer (some ⟨rb, 0, none⟩)] w (SPost rb a cap ws w (mStmt ws F (f + 1) i) (i, false)) := by
 have hil := isW_lt h1
 have hnm := name_len he (i + 1, false)
 have HSR := mkHid (fun (x y z : T) (st2 st4 st5 : St2) h h2 h3 => sr_for (F := F) (f := f) (x := x) (y := y) (z := z) (st2 := st2) (st4 := st4) (st5 := st5) h1 h h2 h3)
 have C3 := mkHid (fun w h => sNm_any rb a cap ws (i + 1, false) w h)
 have p0 := nmS_pos ws (i + 1, false)
 generalize nmT ws (i + 1, false) = nm at C3 HSR hnm
 generalize nmS ws (i + 1, false) = sA at C3 HSR p0
 have C4 := mkHid (fun w h => sNeed_any rb a cap ws sA ⟨#[102, 114, 111, 109]⟩ (by decide) w h)
 have p1 := nd_pos ws sA ⟨#[102, 114, 111, 109]⟩
 generalize nd ws sA ⟨#[102, 114, 111, 109]⟩ = sB at C4 HSR p1
 have C6 := mkHid (fun st w h => sNeed_any rb a cap ws st ⟨#[116, 111]⟩ (by decide) w h)
 have HE := mkHid (fun st w h => hE st w (by omega) h)
 have HB := mkHid hB
 have HA := mkHid h
 have hrb := h.lt
 have C0 := mkHid (fun w h => sTake_no rb a cap ws (i, false) ⟨#[105, 102]⟩ (by decide) w h (by rw [tk_good]; exact n0))
 have C1 := mkHid (fun w h => sTake_no rb a cap ws (i, false) ⟨#[119, 104, 105, 108, 101]⟩ (by decide) w h (by rw [tk_good]; exact n1))
 have C2 := mkHid (fun w h => sTake_yes rb a cap ws (i, false) ⟨#[102, 111, 114]⟩ (by decide) w h (by rw [tk_good]; exact h1))
 clear h hE hB h1 n0 n1 he
 simp only at p0
 go_enter Tryz.func116, Tryz.ntmps116
 go_wp2_with fail
 refine (C0.out _ ((HA.out.alloc _).alloc _)).mono ?_
 rintro e w1 ⟨rfl, r, s⟩
 have G1 := mkHid (SGrown.zero hrb s r)
 clear r s
 go_wp2_with fail
 refine (C1.out _ G1.out.sd).mono ?_
 rintro e w2 ⟨rfl, r, s⟩
 have G2 := mkHid (G1.out.on s r)
 clear r s G1
 go_wp2_with fail
 refine (C2.out _ G2.out.sd).mono ?_
 rintro e w3 ⟨rfl, r, s⟩
 have G3 := mkHid (G2.out.on s r)
 clear r s G2
 go_wp2_with fail
 refine (C3.out _ G3.out.sd).mono ?_
 rintro e w4 ⟨rfl, r, s⟩
 have G4 := mkHid (G3.out.on s r)
 clear r s G3
 go_wp2_with fail
 refine (C4.out _ G4.out.sd).mono ?_
 rintro e w5 ⟨rfl, r, s⟩
 have G5 := mkHid (G4.out.on s r)
 clear r s G4
 have K5 := mkHid (Hold.nil G5.out)
 clear G5
 go_wp2_with fail
 refine (HE.out sB _ K5.out.g.sd).mono ?_
 rintro e w6 ⟨x, st2, rfl, hsx, hnx, r, s, hr⟩
 have K6 := mkHid (K5.out.add hsx hnx r s _ rfl)
 have D := K5.out.on s r
 have zP := D.room
 have H_hr := mkHid hr
 obtain ⟨xk, xs, xm, xa, xc, xkk⟩ := x
 clear D hsx hnx r s hr K5
 clear C0 C1 C2 C3 C4
 simp only [A.val]
 go_wp2_with fail
 refine (C6.out st2 _ K6.out.g.sd).mono ?_
 rintro e w7 ⟨rfl, r, s⟩
 have K7 := mkHid (K6.out.on s r)
 clear r s K6
 have p2 := nd_pos ws st2 ⟨#[116, 111]⟩
 go_wp2_with fail
 refine (HE.out (nd ws st2 ⟨#[116, 111]⟩) _ K7.out.g.sd).mono ?_
 rintro e w8 ⟨y, st4, rfl, hsx, hnx, r, s, hr2⟩
 have K8 := mkHid (K7.out.add hsx hnx r s _ rfl)
 have D := K7.out.on s r
 have zP := D.room
 have H_hr2 := mkHid hr2
 obtain ⟨yk, ys, ym, ya, yc, ykk⟩ := y
 clear D hsx hnx r s hr2 K7
 have H2 := mkHid (fun w h => HB.out st4 w (by have := sr_expr_pos H_hr.out; have := sr_expr_pos H_hr2.out; omega) h)
 clear HB HE C6
 simp only [A.val]
 go_wp2_with fail
 refine (H2.out _ K8.out.g.sd).mono ?_
 rintro e w9 ⟨z, st5, rfl, hsx, hnx, r, s, hr3⟩
 have K9 := mkHid (K8.out.add hsx hnx r s _ rfl)
 have D := K8.out.on s r
 have zP := D.room
 obtain ⟨d0, d1, d2, d3, _⟩ := four_of (show w9.heap[w6.heap.size]? = some (.cells #[.int .i64 xk, .string xs, .int .i64 xm, .slice xa xkk.length xc] 38 (0, 0)) from (D.here (w6.heap.size, (A.node xk xs xm xa xc xkk)) (by simp)).2)
 have zx := (Array.getElem?_eq_some_iff.1 (D.here (w6.heap.size, (A.node xk xs xm xa xc xkk)) (by simp)).2).1
 simp only at zx
 obtain ⟨e0, e1, e2, e3, _⟩ := four_of (show w9.heap[w8.heap.size]? = some (.cells #[.int .i64 yk, .string ys, .int .i64 ym, .slice ya ykk.length yc] 38 (0, 0)) from (D.here (w8.heap.size, (A.node yk ys ym ya yc ykk)) (by simp)).2)
 have zy := (Array.getElem?_eq_some_iff.1 (D.here (w8.heap.size, (A.node yk ys ym ya yc ykk)) (by simp)).2).1
 simp only at zy
 have HS9 := mkHid (sitsL_snoc D.sits hsx)
 have HP9 := mkHid D.g.res
 have HSD9 := mkHid r
 have HST9 := mkHid D.g.step
 obtain ⟨c0, c1, c2, c3, f0, f1, f2, f3⟩ := four_of D.g.res
 have zp : w.heap.size < w9.heap.size := by omega
 have H_hr3 := mkHid hr3
 obtain ⟨zk, zs, zm, za, zc, zkk⟩ := z
 clear D hsx hnx r s hr3 K8
 have HT := mkHid (made_row (w0 := ((put4 w9 w.heap.size (.int .i64 26) (.string nm) (.int .i64 0) (.slice (some ⟨w9.heap.size + 1, 0, none⟩) 3 3)).alloc (.cells #[.int .i64 zk, .string zs, .int .i64 zm, .slice za zkk.length zc] 38))) (b := w9.heap.size + 1) (n := w.heap.size + 2) (k := 26) (m := 0) (s := nm) (c := 3) (xs := [(A.node xk xs xm xa xc xkk), (A.node yk ys ym ya yc ykk), (A.node zk zs zm za zc zkk)]) (cells3 _ _ _ _ _ _ _ _ _ _ _ _ _ _ _ _ _ _) (by simp [World.setCell]) (alloc_sits (put_sits HS9.out K9.out.new (by omega) _ _ _ _) _) K9.out.new (by omega) hnm (by simp [maxLen]))
 have HQ := mkHid ((Lib.alloc_old ((put4 w9 w.heap.size (.int .i64 26) (.string nm) (.int .i64 0) (.slice (some ⟨w9.heap.size + 1, 0, none⟩) 3 3)).alloc (.cells #[.int .i64 zk, .string zs, .int .i64 zm, .slice za zkk.length zc] 38)) (.cells #[.int .i64 xk, .string xs, .int .i64 xm, .slice xa xkk.length xc, .int .i64 yk, .string ys, .int .i64 ym, .slice ya ykk.length yc, .int .i64 zk, .string zs, .int .i64 zm, .slice za zkk.length zc] 38) w.heap.size (by simp [World.setCell]; omega)).trans ((Lib.alloc_old (put4 w9 w.heap.size (.int .i64 26) (.string nm) (.int .i64 0) (.slice (some ⟨w9.heap.size + 1, 0, none⟩) 3 3)) (.cells #[.int .i64 zk, .string zs, .int .i64 zm, .slice za zkk.length zc] 38) w.heap.size (by rw [put4_size]; exact zp)).trans (put4_at HP9.out (.int .i64 26) (.string nm) (.int .i64 0) (.slice (some ⟨w9.heap.size + 1, 0, none⟩) 3 3))))
 have HSD := mkHid (((put4_sd HSD9.out hrb (.int .i64 26) (.string nm) (.int .i64 0) (.slice (some ⟨w9.heap.size + 1, 0, none⟩) 3 3)).alloc (.cells #[.int .i64 zk, .string zs, .int .i64 zm, .slice za zkk.length zc] 38)).alloc (.cells #[.int .i64 xk, .string xs, .int .i64 xm, .slice xa xkk.length xc, .int .i64 yk, .string ys, .int .i64 ym, .slice ya ykk.length yc, .int .i64 zk, .string zs, .int .i64 zm, .slice za zkk.length zc] 38))
 have HST := mkHid (((put4_step HST9.out (Nat.le_refl _) (.int .i64 26) (.string nm) (.int .i64 0) (.slice (some ⟨w9.heap.size + 1, 0, none⟩) 3 3)).alloc (.cells #[.int .i64 zk, .string zs, .int .i64 zm, .slice za zkk.length zc] 38)).alloc (.cells #[.int .i64 xk, .string xs, .int .i64 xm, .slice xa xkk.length xc, .int .i64 yk, .string ys, .int .i64 ym, .slice ya ykk.length yc, .int .i64 zk, .string zs, .int .i64 zm, .slice za zkk.length zc] 38))
 clear H2 K9 HS9 HP9 HSD9 HST9
 simp only [A.val]
 go_wp2
 obtain ⟨q0, q1, q2, q3, _⟩ := four_of HQ.out
 exact bodyPost_ret (v := (A.node 26 nm 0 (some ⟨w9.heap.size + 1, 0, none⟩) 3 [(A.node xk xs xm xa xc xkk), (A.node yk ys ym ya yc ykk), (A.node zk zs zm za zc zkk)]).val) (by simp [results, Tryz.results116, go_sem, q0, q1, q2, q3, A.val]) rfl (sp_any _ HSD.out HST.out HT.out (by omega) (by rw [erase3]; exact HSR.out _ _ _ _ _ _ H_hr.out H_hr2.out H_hr3.out))
end Go.Proofs.YtedfnadgmhjojaaGreatDoor
