/-
  PLAIN FACTS: statements one behind another, against the reading of a block.
  CONTRACT of the specification's reader's block.
  PLAIN FACTS: the specification's reader against the plain reading, at statements.
  PLAIN FACTS: the specification's reader against the plain reading, at for and at short statements.
  PLAIN FACTS: the specification's reader against the plain reading, at short statements.
  PLAIN FACTS: the specification's reader against the plain reading, at declarations and at programs.
  WHAT THE READING OF A STATEMENT HOLDS ON TO.
-/
import Derived.Test.YthccohemcagkcaaGreatDoorZSlist
namespace Go.Proofs.YthccohemcagkcaaGreatDoor
open Go.RowKit
open Pl

theorem short_end {ws : List W3} {F i : Nat} (h : ws.length ≤ i) : mShort ws F i = .no i := by
  unfold mShort wantK
  simp only [isW_end _ h, kindW_end h]
  simp
theorem stmt_end {ws : List W3} {F g i : Nat} (h : ws.length ≤ i) : mStmt ws F (g + 1) i = .no i := by
  simp only [mStmt, isW_end _ h, short_end h]
  simp [Res.then_]
theorem seq_list {ws : List W3} {F : Nat} (g : Nat) : ∀ (acc : List T) (i : Nat), 3 * (ws.length - i) + 2 ≤ g →
    mList ws F g acc i = if (seqM ws (mStmt ws F) g acc i).2.2 = true then .no (seqM ws (mStmt ws F) g acc i).2.1 else
      if isW ws (seqM ws (mStmt ws F) g acc i).2.1 ⟨#[125]⟩ then .ok (.node 30 nil_ 0 (seqM ws (mStmt ws F) g acc i).1) ((seqM ws (mStmt ws F) g acc i).2.1 + 1) else .no (seqM ws (mStmt ws F) g acc i).2.1 := by
  induction g with
  | zero => intro acc i h; omega
  | succ g ih =>
    intro acc i h
    by_cases hb : isW ws i ⟨#[125]⟩ = true
    · rw [seq_stop (fun q => by rw [hb] at q; cases q.2)]
      simp only [mList]
      rw [if_pos hb, if_neg (by decide), if_pos hb]
    · have hb' : isW ws i ⟨#[125]⟩ = false := by simpa using hb
      by_cases hl : i < ws.length
      · rw [seq_go ⟨hl, hb'⟩]
        simp only [mList]
        rw [if_neg hb]
        have ha := (advS ws F g).1 i
        generalize mStmt ws F g i = r at ha ⊢
        cases r with
        | no p => simp [Res.then_]
        | ok t j =>
          have := ha t j rfl
          simp only [Res.then_]
          exact ih _ _ (by omega)
      · rw [seq_stop (fun q => hl q.1)]
        simp only [mList]
        rw [if_neg hb, if_neg (by decide), if_neg hb]
        obtain ⟨g1, rfl⟩ : ∃ g1, g = g1 + 1 := ⟨g - 1, by omega⟩
        rw [stmt_end (by omega)]
        rfl
/-- A block, out of what need and list say. -/
theorem sr_block {ws : List W3} {F f i : Nat} {x : T} {st1 : St2} (hf : 3 * (ws.length - i) + 2 ≤ f + 1)
    (h : (nd ws (i, false) ⟨#[123]⟩).2 = true → st1 = nd ws (i, false) ⟨#[123]⟩)
    (h2 : (nd ws (i, false) ⟨#[123]⟩).2 = false → st1 = (seqM ws (mStmt ws F) f [] (nd ws (i, false) ⟨#[123]⟩).1).2 ∧ ((seqM ws (mStmt ws F) f [] (nd ws (i, false) ⟨#[123]⟩).1).2.2 = false → x = .node 30 nil_ 0 (seqM ws (mStmt ws F) f [] (nd ws (i, false) ⟨#[123]⟩).1).1)) :
    SR (mBlock ws F (f + 1) i) (i, false) x (nd ws st1 ⟨#[125]⟩) := by
  simp only [mBlock, want]
  rw [nd_good] at h h2
  by_cases hw : isW ws i ⟨#[123]⟩ = true
  · have hl := isW_lt hw
    rw [if_pos hw] at h h2 ⊢
    simp only at h2
    obtain ⟨e1, e2⟩ := h2 trivial
    rw [seq_list f [] (i + 1) (by omega)]
    generalize seqM ws (mStmt ws F) f [] (i + 1) = R at e1 e2 ⊢
    obtain ⟨els, j, c⟩ := R
    simp only at e1 e2 ⊢
    subst e1
    cases c with
    | true => rw [nd_bad, if_pos rfl]; exact SR.mk_no _ _ _
    | false =>
      rw [nd_good, if_neg (by decide), e2 rfl]
      split
      · exact SR.mk_ok _ _ _
      · exact SR.mk_no _ _ _
  · rw [if_neg hw] at h h2 ⊢
    rw [h rfl, nd_bad]; exact SR.mk_no _ _ _
end Go.Proofs.YthccohemcagkcaaGreatDoor
namespace Go.Proofs.YthccohemcagkcaaGreatDoor
open Go.RowKit
open Pl

def SStmt (rb : Nat) (a : Option Addr) (cap : Nat) (ws : List W3) (F f : Nat) : Prop := ∀ (st : St2) (w : World), 3 * (ws.length - st.1) + 1 ≤ f → Sd w rb a cap ws st → Calls Tryz.prog 139 #[.pointer (some ⟨rb, 0, none⟩)] w (SPost rb a cap ws w (mStmt ws F f st.1) st)
def SBlock (rb : Nat) (a : Option Addr) (cap : Nat) (ws : List W3) (F f : Nat) : Prop := ∀ (st : St2) (w : World), 3 * (ws.length - st.1) + 2 ≤ f → Sd w rb a cap ws st → Calls Tryz.prog 149 #[.pointer (some ⟨rb, 0, none⟩)] w (SPost rb a cap ws w (mBlock ws F f st.1) st)

set_option maxRecDepth 100000 in
set_option maxHeartbeats 4000000 in
theorem sblock_step {rb : Nat} {a : Option Addr} {cap : Nat} {ws : List W3} {F f : Nat} (hfew : ws.length ≤ 1500) (hS : ∀ g, g ≤ f → SStmt rb a cap ws F g) : SBlock rb a cap ws F (f + 1) := by
  rintro ⟨i, b⟩ w hf h
  simp only at hf
  have C0 := mkHid (fun w h => sNeed_any rb a cap ws (i, b) ⟨#[123]⟩ (by decide) w h)
  have hnf : (nd ws (i, b) ⟨#[123]⟩).2 = false → 3 * (ws.length - (nd ws (i, b) ⟨#[123]⟩).1) + 2 ≤ f := by
    cases b with
    | true => rw [nd_bad]; intro q; cases q
    | false =>
      rw [nd_good]
      split
      · rename_i hw; have := isW_lt hw; intro _; simp only; omega
      · intro q; cases q
  have hL := fun w h => slist_any (rb := rb) (a := a) (cap := cap) hfew (mStmt ws F) f (fun g j w hg hgf hd => hS g hgf (j, false) w hg hd) (fun g j t k e => (advS ws F g).1 j t k e) (fun g j p e => (advNS ws F g).1 j p e) (nd ws (i, b) ⟨#[123]⟩) hnf w h
  have HSR : Hid (∀ (x : T) (st1 : St2), ((nd ws (i, b) ⟨#[123]⟩).2 = true → st1 = nd ws (i, b) ⟨#[123]⟩) → ((nd ws (i, b) ⟨#[123]⟩).2 = false → st1 = (seqM ws (mStmt ws F) f [] (nd ws (i, b) ⟨#[123]⟩).1).2 ∧ ((seqM ws (mStmt ws F) f [] (nd ws (i, b) ⟨#[123]⟩).1).2.2 = false → x = .node 30 nil_ 0 (seqM ws (mStmt ws F) f [] (nd ws (i, b) ⟨#[123]⟩).1).1)) → SR (mBlock ws F (f + 1) i) (i, b) x (nd ws st1 ⟨#[125]⟩)) := fun x st1 h1 h2 => by
    cases b with
    | true => rw [nd_bad] at h1; rw [h1 rfl, nd_bad]; exact SR.mk_bad _ _ _
    | false => exact sr_block hf h1 h2
  have HA := mkHid h
  have hrb := h.lt
  generalize seqM ws (mStmt ws F) f [] (nd ws (i, b) ⟨#[123]⟩).1 = R at hL HSR
  generalize nd ws (i, b) ⟨#[123]⟩ = st0 at hL HSR C0
  have HL := mkHid hL
  have C2 := mkHid (fun st1 w h => sNeed_any rb a cap ws st1 ⟨#[125]⟩ (by decide) w h)
  clear h hnf hL hS
  show Calls _ _ _ _ (SPost rb a cap ws w (mBlock ws F (f + 1) i) (i, b))
  generalize mBlock ws F (f + 1) i = M at HSR ⊢
  go_enter Tryz.func149, Tryz.ntmps149
  go_wp2_with fail
  refine (C0.out _ (HA.out.alloc _)).mono ?_
  rintro e w1 ⟨rfl, r, s⟩
  have R1 := mkHid r
  have S1 := mkHid (((Step.refl rb w).alloc _).trans s)
  have P1 := mkHid (s.at (heap_alloc_new w _) (by omega))
  clear r s
  go_wp2_with fail
  refine (HL.out _ R1.out).mono ?_
  rintro e w2 ⟨x, st1, rfl, hsx, hnx, r, s, h1, h2⟩
  have R2 := mkHid r
  have S2 := mkHid (S1.out.trans s)
  have P2 := mkHid (s.at P1.out (by omega))
  have z1 : w.heap.size < w1.heap.size := (Array.getElem?_eq_some_iff.1 P1.out).1
  have z2 : w.heap.size < w2.heap.size := (Array.getElem?_eq_some_iff.1 P2.out).1
  have HX := mkHid (HSR.out x.erase st1 h1 h2)
  have hsx' := ((Step.refl rb w2).alloc (.cells x.cells.toArray 26)).sits hsx (fun q hq => by have := hnx.2 q hq; have := R1.out.lt; omega)
  obtain ⟨xk, xs, xm, xa, xc, xkk⟩ := x
  simp only [A.cells] at hsx'
  have HS := mkHid hsx'
  have HN := mkHid hnx
  clear hsx' hsx hnx r s h1 h2 HSR
  simp only [A.val]
  go_wp2_with fail
  refine (C2.out st1 _ (R2.out.alloc _)).mono ?_
  rintro e w3 ⟨rfl, r, s⟩
  have P3 := mkHid (s.at ((Lib.alloc_old w2 _ _ z2).trans P2.out) (by omega))
  have L3 := s.at (heap_alloc_new w2 _) (by have := R2.out.lt; omega)
  have HS3 := mkHid (s.sits HS.out (fun q hq => by have := HN.out.2 q hq; have := R1.out.lt; omega))
  have S3 := mkHid ((S2.out.alloc _).trans s)
  have R3 := mkHid r
  clear r s
  obtain ⟨d0, d1, d2, d3, _⟩ := four_of L3
  obtain ⟨c0, c1, c2, c3, f0, f1, f2, f3⟩ := four_of P3.out
  clear L3
  go_wp2
  obtain ⟨q0, q1, q2, q3⟩ := put4_cells0 P3.out (.int .i64 xk) (.string xs) (.int .i64 xm) (.slice xa xkk.length xc)
  exact bodyPost_ret (v := (A.node xk xs xm xa xc xkk).val) (by simp [results, Tryz.results149, go_sem, q0, q1, q2, q3, A.val]) rfl (sp_tree _ _ _ _ _ R3.out hrb S3.out HS3.out HN.out z1 HX.out)
end Go.Proofs.YthccohemcagkcaaGreatDoor
namespace Go.Proofs.YthccohemcagkcaaGreatDoor
open Go.RowKit
open Pl

theorem SR.parts {r : Res} {i : Nat} {t : T} {st' : St2} (h : SR r (i, false) t st') : (∃ j, r = .ok t j ∧ st' = (j, false)) ∨ (∃ p, r = .no p ∧ st' = (p, true)) := by
  cases r with
  | no p => exact .inr ⟨p, rfl, h.no⟩
  | ok t' j => exact .inl ⟨j, by rw [h.ok.1], h.ok.2⟩
theorem sr_while {ws : List W3} {F f i : Nat} {x y : T} {st1 st2 : St2} (h1 : isW ws i ⟨#[119, 104, 105, 108, 101]⟩ = true) (h : SR (mCond ws F (i + 1)) (i + 1, false) x st1) (h2 : SR (mBlock ws F f st1.1) st1 y st2) : SR (mStmt ws F (f + 1) i) (i, false) (.node 25 nil_ 0 [x, y]) st2 := by
  simp only [mStmt]
  rw [if_neg (by rw [isW_other h1 (by decide)]; decide), if_pos h1]
  rcases h.parts with ⟨j, e, rfl⟩ | ⟨p, e, rfl⟩
  · rw [e]
    rcases h2.parts with ⟨k, e2, rfl⟩ | ⟨p, e2, rfl⟩
    · simp only [Res.then_]; rw [e2]; exact SR.mk_ok _ _ _
    · simp only [Res.then_]; rw [e2]; exact SR.mk_no _ _ _
  · rw [e, h2.bad]; exact SR.mk_no _ _ _
theorem sr_else {ws : List W3} {F f i : Nat} {x y z : T} {st1 st2 st3 : St2} (h1 : isW ws i ⟨#[105, 102]⟩ = true) (h : SR (mCond ws F (i + 1)) (i + 1, false) x st1) (h2 : SR (mBlock ws F f st1.1) st1 y st2) (ht : tk ws st2 ⟨#[101, 108, 115, 101]⟩ = true)
    (h3 : SR (mBlock ws F f (st2.1 + 1)) (st2.1 + 1, false) z st3) : SR (mStmt ws F (f + 1) i) (i, false) (.node 24 nil_ 0 [x, y, z]) st3 := by
  simp only [mStmt]
  rw [if_pos h1]
  obtain ⟨b2, w2⟩ := tk_yes ht
  rcases h.parts with ⟨j, e, rfl⟩ | ⟨p, e, rfl⟩
  · rw [e]
    rcases h2.parts with ⟨k, e2, rfl⟩ | ⟨p, e2, rfl⟩
    · simp only [Res.then_]; rw [e2]
      simp only at w2 h3 ⊢
      rw [if_pos w2]
      rcases h3.parts with ⟨l, e3, rfl⟩ | ⟨p, e3, rfl⟩
      · rw [e3]; exact SR.mk_ok _ _ _
      · rw [e3]; exact SR.mk_no _ _ _
    · cases b2
  · rw [h2.bad] at b2; cases b2
theorem sr_noelse {ws : List W3} {F f i : Nat} {x y : T} {st1 st2 : St2} (h1 : isW ws i ⟨#[105, 102]⟩ = true) (h : SR (mCond ws F (i + 1)) (i + 1, false) x st1) (h2 : SR (mBlock ws F f st1.1) st1 y st2) (ht : tk ws st2 ⟨#[101, 108, 115, 101]⟩ = false) :
    SR (mStmt ws F (f + 1) i) (i, false) (.node 24 nil_ 0 [x, y, .node 30 nil_ 0 []]) st2 := by
  simp only [mStmt]
  rw [if_pos h1]
  rcases h.parts with ⟨j, e, rfl⟩ | ⟨p, e, rfl⟩
  · rw [e]
    rcases h2.parts with ⟨k, e2, rfl⟩ | ⟨p, e2, rfl⟩
    · simp only [Res.then_]; rw [e2]
      rw [tk_good] at ht
      simp only
      rw [if_neg (by rw [ht]; decide)]
      exact SR.mk_ok _ _ _
    · simp only [Res.then_]; rw [e2]; exact SR.mk_no _ _ _
  · rw [e, h2.bad]; exact SR.mk_no _ _ _
/-- What stands behind the tests for if, while, for. -/
theorem stmt_short_eq {ws : List W3} {F f i : Nat} (n0 : isW ws i ⟨#[105, 102]⟩ = false) (n1 : isW ws i ⟨#[119, 104, 105, 108, 101]⟩ = false) (n2 : isW ws i ⟨#[102, 111, 114]⟩ = false) :
    mStmt ws F (f + 1) i = (mShort ws F i).then_ fun x j => want ws j ⟨#[59]⟩ (.ok x (j + 1)) := by
  simp only [mStmt]
  rw [if_neg (by rw [n0]; decide), if_neg (by rw [n1]; decide), if_neg (by rw [n2]; decide)]
theorem sr_semi {ws : List W3} {F f i : Nat} {x : T} {st1 : St2} (n0 : isW ws i ⟨#[105, 102]⟩ = false) (n1 : isW ws i ⟨#[119, 104, 105, 108, 101]⟩ = false) (n2 : isW ws i ⟨#[102, 111, 114]⟩ = false) (h : SR (mShort ws F i) (i, false) x st1) :
    SR (mStmt ws F (f + 1) i) (i, false) x (nd ws st1 ⟨#[59]⟩) := by
  rw [stmt_short_eq n0 n1 n2]
  rcases h.parts with ⟨j, e, rfl⟩ | ⟨p, e, rfl⟩
  · rw [e, nd_good]
    simp only [Res.then_, want]
    split
    · exact SR.mk_ok _ _ _
    · exact SR.mk_no _ _ _
  · rw [e, nd_bad]; exact SR.mk_no _ _ _
end Go.Proofs.YthccohemcagkcaaGreatDoor
namespace Go.Proofs.YthccohemcagkcaaGreatDoor
open Go.RowKit
open Pl

theorem nm_good {ws : List W3} {i : Nat} (h : kindW ws i = 1) : nmS ws (i, false) = (i + 1, false) ∧ nmT ws (i, false) = textW ws i := by simp [nmS, nmT, nmB, h]
theorem nm_none {ws : List W3} {i : Nat} (h : kindW ws i ≠ 1) : nmS ws (i, false) = (i, true) := by simp [nmS, nmB, h]
theorem sr_for {ws : List W3} {F f i : Nat} {x y z : T} {st2 st4 st5 : St2} (h1 : isW ws i ⟨#[102, 111, 114]⟩ = true)
    (h : SR (mExpr ws F (nd ws (nmS ws (i + 1, false)) ⟨#[102, 114, 111, 109]⟩).1) (nd ws (nmS ws (i + 1, false)) ⟨#[102, 114, 111, 109]⟩) x st2)
    (h2 : SR (mExpr ws F (nd ws st2 ⟨#[116, 111]⟩).1) (nd ws st2 ⟨#[116, 111]⟩) y st4) (h3 : SR (mBlock ws F f st4.1) st4 z st5) :
    SR (mStmt ws F (f + 1) i) (i, false) (.node 26 (nmT ws (i + 1, false)) 0 [x, y, z]) st5 := by
  simp only [mStmt]
  rw [if_neg (by rw [isW_other h1 (by decide)]; decide), if_neg (by rw [isW_other h1 (by decide)]; decide), if_pos h1]
  simp only [wantK, want]
  have bad : ∀ p, st2 = (p, true) → st5 = (p, true) := fun p e => by
    subst e
    rw [nd_bad] at h2
    have e4 := h2.bad
    subst e4
    exact h3.bad
  by_cases k1 : kindW ws (i + 1) = 1
  · obtain ⟨e1, e2⟩ := nm_good k1
    rw [e1, nd_good] at h
    rw [if_pos k1, e2]
    by_cases k2 : isW ws (i + 1 + 1) ⟨#[102, 114, 111, 109]⟩ = true
    · rw [if_pos k2] at h
      have k2' : isW ws (i + 2) ⟨#[102, 114, 111, 109]⟩ = true := k2
      rw [if_pos k2']
      rcases h.parts with ⟨j, e, rfl⟩ | ⟨p, e, rfl⟩
      · have e' : mExpr ws F (i + 3) = .ok x j := e
        rw [e']
        rw [nd_good] at h2
        simp only [Res.then_]
        by_cases k3 : isW ws j ⟨#[116, 111]⟩ = true
        · rw [if_pos k3] at h2 ⊢
          rcases h2.parts with ⟨k, e3, rfl⟩ | ⟨p, e3, rfl⟩
          · have e3' : mExpr ws F (j + 1) = .ok y k := e3
            rw [e3']
            rcases h3.parts with ⟨l, e4, rfl⟩ | ⟨p, e4, rfl⟩
            · simp only; rw [e4]; exact SR.mk_ok _ _ _
            · simp only; rw [e4]; exact SR.mk_no _ _ _
          · have e3' : mExpr ws F (j + 1) = .no p := e3
            rw [e3', h3.bad]; exact SR.mk_no _ _ _
        · rw [if_neg k3] at h2 ⊢
          have e4 := h2.bad
          subst e4
          rw [h3.bad]; exact SR.mk_no _ _ _
      · have e' : mExpr ws F (i + 3) = .no p := e
        rw [e', bad p rfl]; exact SR.mk_no _ _ _
    · rw [if_neg k2] at h
      have k2' : ¬ isW ws (i + 2) ⟨#[102, 114, 111, 109]⟩ = true := k2
      rw [if_neg k2', bad _ h.bad]; exact SR.mk_no _ _ _
  · rw [nm_none k1, nd_bad] at h
    rw [if_neg k1, bad _ h.bad]; exact SR.mk_no _ _ _
end Go.Proofs.YthccohemcagkcaaGreatDoor
namespace Go.Proofs.YthccohemcagkcaaGreatDoor
open Go.RowKit
open Pl

theorem sr_check {ws : List W3} {F i : Nat} {x : T} {st1 : St2} (h1 : isW ws i ⟨#[99, 104, 101, 99, 107]⟩ = true) (h : SR (mCond ws F (i + 1)) (i + 1, false) x st1) : SR (mShort ws F i) (i, false) (.node 27 nil_ 0 [x]) st1 := by
  unfold mShort
  rw [if_neg (by rw [isW_other h1 (by decide)]; decide), if_pos h1]
  rcases h.parts with ⟨j, e, rfl⟩ | ⟨p, e, rfl⟩
  · rw [e]; exact SR.mk_ok _ _ _
  · rw [e]; exact SR.mk_no _ _ _
theorem sr_read {ws : List W3} {F i : Nat} (h1 : isW ws i ⟨#[114, 101, 97, 100]⟩ = true) : SR (mShort ws F i) (i, false) (.node 23 (nmT ws (i + 1, false)) 0 []) (nmS ws (i + 1, false)) := by
  unfold mShort wantK
  rw [if_pos h1]
  by_cases k : kindW ws (i + 1) = 1
  · rw [if_pos k, (nm_good k).1, (nm_good k).2]; exact SR.mk_ok _ _ _
  · rw [if_neg k, nm_none k]; exact SR.mk_no _ _ _
theorem sr_skip {ws : List W3} {F i : Nat} (h1 : isW ws i ⟨#[115, 107, 105, 112]⟩ = true) : SR (mShort ws F i) (i, false) (.node 28 nil_ 0 []) (i + 1, false) := by
  unfold mShort
  rw [if_neg (by rw [isW_other h1 (by decide)]; decide), if_neg (by rw [isW_other h1 (by decide)]; decide), if_pos h1]; exact SR.mk_ok _ _ _
theorem sr_stop {ws : List W3} {F i : Nat} (h1 : isW ws i ⟨#[115, 116, 111, 112]⟩ = true) : SR (mShort ws F i) (i, false) (.node 29 nil_ 0 []) (i + 1, false) := by
  unfold mShort
  rw [if_neg (by rw [isW_other h1 (by decide)]; decide), if_neg (by rw [isW_other h1 (by decide)]; decide), if_neg (by rw [isW_other h1 (by decide)]; decide), if_pos h1]; exact SR.mk_ok _ _ _
theorem sr_set {ws : List W3} {F i : Nat} {y : T} {st3 : St2} (n0 : isW ws i ⟨#[114, 101, 97, 100]⟩ = false) (n1 : isW ws i ⟨#[99, 104, 101, 99, 107]⟩ = false) (n2 : isW ws i ⟨#[115, 107, 105, 112]⟩ = false) (n3 : isW ws i ⟨#[115, 116, 111, 112]⟩ = false)
    (ht : tk ws (nmS ws (i, false)) ⟨#[91]⟩ = false) (h : SR (mExpr ws F (nd ws (nmS ws (i, false)) ⟨#[61]⟩).1) (nd ws (nmS ws (i, false)) ⟨#[61]⟩) y st3) : SR (mShort ws F i) (i, false) (.node 21 (nmT ws (i, false)) 0 [y]) st3 := by
  unfold mShort wantK want
  rw [if_neg (by rw [n0]; decide), if_neg (by rw [n1]; decide), if_neg (by rw [n2]; decide), if_neg (by rw [n3]; decide)]
  by_cases k : kindW ws i = 1
  · obtain ⟨e1, e2⟩ := nm_good k
    rw [e1, tk_good] at ht
    rw [e1, nd_good] at h
    rw [if_pos k, if_neg (by rw [ht]; decide), e2]
    by_cases k2 : isW ws (i + 1) ⟨#[61]⟩ = true
    · rw [if_pos k2] at h ⊢
      rcases h.parts with ⟨j, e, rfl⟩ | ⟨p, e, rfl⟩
      · have e' : mExpr ws F (i + 2) = .ok y j := e
        rw [e']; exact SR.mk_ok _ _ _
      · have e' : mExpr ws F (i + 2) = .no p := e
        rw [e']; exact SR.mk_no _ _ _
    · rw [if_neg k2] at h ⊢
      rw [h.bad]; exact SR.mk_no _ _ _
  · rw [nm_none k, nd_bad] at h
    rw [if_neg k, h.bad]; exact SR.mk_no _ _ _
theorem sr_put {ws : List W3} {F i : Nat} {x y : T} {st2 st4 : St2} (n0 : isW ws i ⟨#[114, 101, 97, 100]⟩ = false) (n1 : isW ws i ⟨#[99, 104, 101, 99, 107]⟩ = false) (n2 : isW ws i ⟨#[115, 107, 105, 112]⟩ = false) (n3 : isW ws i ⟨#[115, 116, 111, 112]⟩ = false)
    (k : kindW ws i = 1) (k1 : isW ws (i + 1) ⟨#[91]⟩ = true) (h : SR (mExpr ws F (i + 2)) (i + 2, false) x st2) (h2 : SR (mExpr ws F (nd ws (nd ws st2 ⟨#[93]⟩) ⟨#[61]⟩).1) (nd ws (nd ws st2 ⟨#[93]⟩) ⟨#[61]⟩) y st4) :
    SR (mShort ws F i) (i, false) (.node 22 (textW ws i) 0 [x, y]) st4 := by

  unfold mShort wantK want
  rw [if_neg (by rw [n0]; decide), if_neg (by rw [n1]; decide), if_neg (by rw [n2]; decide), if_neg (by rw [n3]; decide), if_pos k, if_pos k1]
  rcases h.parts with ⟨j, e, rfl⟩ | ⟨p, e, rfl⟩
  · rw [e]
    simp only [Res.then_]
    rw [nd_good] at h2
    by_cases k2 : isW ws j ⟨#[93]⟩ = true
    · rw [if_pos k2, nd_good] at h2
      rw [if_pos k2]
      by_cases k3 : isW ws (j + 1) ⟨#[61]⟩ = true
      · rw [if_pos k3] at h2 ⊢
        rcases h2.parts with ⟨l, e2, rfl⟩ | ⟨p, e2, rfl⟩
        · have e' : mExpr ws F (j + 2) = .ok y l := e2
          rw [e']; exact SR.mk_ok _ _ _
        · have e' : mExpr ws F (j + 2) = .no p := e2
          rw [e']; exact SR.mk_no _ _ _
      · rw [if_neg k3] at h2 ⊢
        rw [h2.bad]; exact SR.mk_no _ _ _
    · rw [if_neg k2, nd_bad] at h2
      rw [if_neg k2, h2.bad]; exact SR.mk_no _ _ _
  · rw [nd_bad, nd_bad] at h2
    rw [e, h2.bad]; exact SR.mk_no _ _ _
end Go.Proofs.YthccohemcagkcaaGreatDoor
namespace Go.Proofs.YthccohemcagkcaaGreatDoor
open Go.RowKit
open Pl

theorem brace_no {ws : List W3} (hw : WsOk ws) {F f j : Nat} (h : isW ws j ⟨#[125]⟩ = true) : mStmt ws F (f + 1) j = .no j := by
  have hk : kindW ws j ≠ 1 := by rw [isW_kind hw h]; exact not_name (by decide)
  have e1 := isW_other (t := ⟨#[105, 102]⟩) h (by decide)
  have e2 := isW_other (t := ⟨#[119, 104, 105, 108, 101]⟩) h (by decide)
  have e3 := isW_other (t := ⟨#[102, 111, 114]⟩) h (by decide)
  have e4 := isW_other (t := ⟨#[114, 101, 97, 100]⟩) h (by decide)
  have e5 := isW_other (t := ⟨#[99, 104, 101, 99, 107]⟩) h (by decide)
  have e6 := isW_other (t := ⟨#[115, 107, 105, 112]⟩) h (by decide)
  have e7 := isW_other (t := ⟨#[115, 116, 111, 112]⟩) h (by decide)
  rw [stmt_short_eq e1 e2 e3]
  unfold mShort wantK
  rw [e4, e5, e6, e7, if_neg hk]
  rfl
/-- Statements one behind another, against the rest of a program. -/
theorem seq_all {ws : List W3} (hw : WsOk ws) {F : Nat} (hF : 1 ≤ F) (ds : List T) (g : Nat) : ∀ (acc : List T) (i : Nat), 3 * (ws.length - i) + 2 ≤ g →
    mAll ws F ds g acc i = if (seqM ws (fun _ => mStmt ws F F) g acc i).2.2 = true then .no (seqM ws (fun _ => mStmt ws F F) g acc i).2.1 else
      if (seqM ws (fun _ => mStmt ws F F) g acc i).2.1 < ws.length then .no (seqM ws (fun _ => mStmt ws F F) g acc i).2.1 else .ok (.node 40 nil_ 0 (ds ++ [.node 30 nil_ 0 (seqM ws (fun _ => mStmt ws F F) g acc i).1])) (seqM ws (fun _ => mStmt ws F F) g acc i).2.1 := by
  induction g with
  | zero => intro acc i h; omega
  | succ g ih =>
    intro acc i h
    by_cases hl : i < ws.length
    · by_cases hb : isW ws i ⟨#[125]⟩ = true
      · rw [seq_stop (fun q => by rw [hb] at q; cases q.2)]
        obtain ⟨F1, rfl⟩ : ∃ F1, F = F1 + 1 := ⟨F - 1, by omega⟩
        simp only [mAll]
        rw [if_pos hl, brace_no hw hb, if_neg (by decide), if_pos hl]
        rfl
      · have hb' : isW ws i ⟨#[125]⟩ = false := by simpa using hb
        rw [seq_go ⟨hl, hb'⟩]
        simp only [mAll]
        rw [if_pos hl]
        have ha := (advS ws F F).1 i
        generalize mStmt ws F F i = r at ha ⊢
        cases r with
        | no p => simp [Res.then_]
        | ok t j =>
          have := ha t j rfl
          simp only [Res.then_]
          exact ih _ _ (by omega)
    · rw [seq_stop (fun q => hl q.1)]
      simp only [mAll]
      rw [if_neg hl, if_neg (by decide), if_neg hl]
theorem sr_dvar {ws : List W3} {i : Nat} (h1 : isW ws i ⟨#[118, 97, 114]⟩ = true) : SR (mDecl ws i) (i, false) (.node 31 (nmT ws (i + 1, false)) 0 []) (nd ws (nmS ws (i + 1, false)) ⟨#[59]⟩) := by
  unfold mDecl wantK want
  rw [if_pos h1]
  by_cases k : kindW ws (i + 1) = 1
  · rw [if_pos k, (nm_good k).1, (nm_good k).2, nd_good]
    by_cases k2 : isW ws (i + 2) ⟨#[59]⟩ = true
    · rw [if_pos k2, if_pos k2]; exact SR.mk_ok _ _ _
    · rw [if_neg k2, if_neg k2]; exact SR.mk_no _ _ _
  · rw [if_neg k, nm_none k, nd_bad]; exact SR.mk_no _ _ _
theorem sr_dnum {ws : List W3} (hw : WsOk ws) {i j : Nat} (h1 : isW ws i ⟨#[97, 114, 114, 97, 121]⟩ = true) (hb : nd ws (nmS ws (i + 1, false)) ⟨#[91]⟩ = (j, false)) (k2 : kindW ws j = 2) :
    SR (mDecl ws i) (i, false) (.node 32 (nmT ws (i + 1, false)) (numV (textW ws j)) []) (nd ws (nd ws (j + 1, false) ⟨#[93]⟩) ⟨#[59]⟩) := by
  unfold mDecl wantK want
  rw [if_neg (by rw [isW_other h1 (by decide)]; decide), if_pos h1]
  by_cases k : kindW ws (i + 1) = 1
  · rw [(nm_good k).1, nd_good] at hb
    by_cases k1 : isW ws (i + 1 + 1) ⟨#[91]⟩ = true
    · rw [if_pos k1] at hb
      have hj : j = i + 3 := by injection hb with q; omega
      subst hj
      have k1' : isW ws (i + 2) ⟨#[91]⟩ = true := k1
      rw [if_pos k, if_pos k1', if_neg (by rw [num_words hw k2 (by decide)]; decide), if_pos k2, (nm_good k).2, nd_good]
      by_cases k3 : isW ws (i + 3 + 1) ⟨#[93]⟩ = true
      · have k3' : isW ws (i + 4) ⟨#[93]⟩ = true := k3
        rw [if_pos k3, if_pos k3', nd_good]
        by_cases k4 : isW ws (i + 3 + 1 + 1) ⟨#[59]⟩ = true
        · have k4' : isW ws (i + 5) ⟨#[59]⟩ = true := k4
          rw [if_pos k4, if_pos k4']; exact SR.mk_ok _ _ _
        · have k4' : ¬ isW ws (i + 5) ⟨#[59]⟩ = true := k4
          rw [if_neg k4, if_neg k4']; exact SR.mk_no _ _ _
      · have k3' : ¬ isW ws (i + 4) ⟨#[93]⟩ = true := k3
        rw [if_neg k3, if_neg k3', nd_bad]; exact SR.mk_no _ _ _
    · rw [if_neg k1] at hb; injection hb with _ q; cases q
  · rw [nm_none k, nd_bad] at hb; injection hb with _ q; cases q
theorem sr_dany {ws : List W3} {i : Nat} (h1 : isW ws i ⟨#[97, 114, 114, 97, 121]⟩ = true) (hk : ∀ j, nd ws (nmS ws (i + 1, false)) ⟨#[91]⟩ = (j, false) → kindW ws j ≠ 2) :
    SR (mDecl ws i) (i, false) (.node 32 (nmT ws (i + 1, false)) (-1) []) (nd ws (nd ws (nd ws (nd ws (nmS ws (i + 1, false)) ⟨#[91]⟩) ⟨#[63]⟩) ⟨#[93]⟩) ⟨#[59]⟩) := by
  unfold mDecl wantK want
  rw [if_neg (by rw [isW_other h1 (by decide)]; decide), if_pos h1]
  by_cases k : kindW ws (i + 1) = 1
  · rw [(nm_good k).1, nd_good] at hk ⊢
    rw [if_pos k, (nm_good k).2]
    by_cases k1 : isW ws (i + 1 + 1) ⟨#[91]⟩ = true
    · have k1' : isW ws (i + 2) ⟨#[91]⟩ = true := k1
      rw [if_pos k1] at hk ⊢
      have hk' : kindW ws (i + 3) ≠ 2 := hk _ rfl
      rw [if_pos k1', nd_good]
      by_cases k2 : isW ws (i + 1 + 1 + 1) ⟨#[63]⟩ = true
      · have k2' : isW ws (i + 3) ⟨#[63]⟩ = true := k2
        rw [if_pos k2, if_pos k2', nd_good]
        by_cases k3 : isW ws (i + 1 + 1 + 1 + 1) ⟨#[93]⟩ = true
        · have k3' : isW ws (i + 4) ⟨#[93]⟩ = true := k3
          rw [if_pos k3, if_pos k3', nd_good]
          by_cases k4 : isW ws (i + 1 + 1 + 1 + 1 + 1) ⟨#[59]⟩ = true
          · have k4' : isW ws (i + 5) ⟨#[59]⟩ = true := k4
            rw [if_pos k4, if_pos k4']; exact SR.mk_ok _ _ _
          · have k4' : ¬ isW ws (i + 5) ⟨#[59]⟩ = true := k4
            rw [if_neg k4, if_neg k4']; exact SR.mk_no _ _ _
        · have k3' : ¬ isW ws (i + 4) ⟨#[93]⟩ = true := k3
          rw [if_neg k3, if_neg k3', nd_bad]; exact SR.mk_no _ _ _
      · have k2' : ¬ isW ws (i + 3) ⟨#[63]⟩ = true := k2
        rw [if_neg k2, if_neg k2', if_neg hk', nd_bad, nd_bad]; exact SR.mk_no _ _ _
    · have k1' : ¬ isW ws (i + 2) ⟨#[91]⟩ = true := k1
      rw [if_neg k1, if_neg k1', nd_bad, nd_bad, nd_bad]; exact SR.mk_no _ _ _
  · rw [if_neg k, nm_none k, nd_bad, nd_bad, nd_bad, nd_bad]; exact SR.mk_no _ _ _
/-- What the loop over declarations holds on to. -/
def DInv (ws : List W3) (F : Nat) (R : Res) (els : List T) (st : St2) : Prop :=
  (st.2 = true ∧ R = .no st.1) ∨ (st.2 = false ∧ ∃ g, ws.length - st.1 < g ∧ mProg ws F g els st.1 = R)
theorem advN_decl {ws : List W3} {i p : Nat} (h : mDecl ws i = .no p) : i ≤ p := by
  unfold mDecl at h
  split at h
  · rcases wantK_no h with h | h
    · omega
    · rcases want_no h with h | h
      · omega
      · cases h
  · rcases want_no h with h | h
    · omega
    · rcases wantK_no h with h | h
      · omega
      · rcases want_no h with h | h
        · omega
        · split at h
          · rcases want_no h with h | h
            · omega
            · rcases want_no h with h | h
              · omega
              · cases h
          · rcases wantK_no h with h | h
            · omega
            · rcases want_no h with h | h
              · omega
              · rcases want_no h with h | h
                · omega
                · cases h
theorem dinv_step {ws : List W3} {F : Nat} {R : Res} {els : List T} {j : Nat} {d : T} {st' : St2} (h : DInv ws F R els (j, false)) (hj : isW ws j ⟨#[118, 97, 114]⟩ = true ∨ isW ws j ⟨#[97, 114, 114, 97, 121]⟩ = true) (hs : SR (mDecl ws j) (j, false) d st') :
    DInv ws F R (els ++ [d]) st' ∧ (j ≤ st'.1 ∧ (st'.2 = false → j < st'.1 ∧ st'.1 ≤ ws.length)) := by
  rcases h with ⟨h1, _⟩ | ⟨_, g, h2, h3⟩
  · cases h1
  obtain ⟨g1, rfl⟩ : ∃ g1, g = g1 + 1 := ⟨g - 1, by omega⟩
  simp only [mProg] at h3
  rw [if_pos (by rcases hj with q | q <;> simp [q])] at h3
  rcases hs.parts with ⟨k, e, rfl⟩ | ⟨p, e, rfl⟩
  · have := adv_decl e
    rw [e] at h3
    exact ⟨.inr ⟨rfl, g1, by simp only at h2 ⊢; omega, h3⟩, by simp only; omega, fun _ => by simp only; omega⟩
  · have := advN_decl e
    rw [e] at h3
    exact ⟨.inl ⟨rfl, h3.symm⟩, this, fun q => by cases q⟩
theorem dinv_end {ws : List W3} (hw : WsOk ws) {F : Nat} (hF : 3 * ws.length + 2 ≤ F) {R : Res} {els : List T} {st : St2} {x : T} {st1 : St2} (h : DInv ws F R els st)
    (hn : st.2 = false → isW ws st.1 ⟨#[118, 97, 114]⟩ = false ∧ isW ws st.1 ⟨#[97, 114, 114, 97, 121]⟩ = false)
    (h1 : st.2 = true → st1 = st) (h2 : st.2 = false → st1 = (seqM ws (fun _ => mStmt ws F F) F [] st.1).2 ∧ ((seqM ws (fun _ => mStmt ws F F) F [] st.1).2.2 = false → x = .node 30 nil_ 0 (seqM ws (fun _ => mStmt ws F F) F [] st.1).1)) :
    SR R (0, false) (.node 40 nil_ 0 (els ++ [x])) (if st1.1 < ws.length then (st1.1, true) else st1) := by
  rcases h with ⟨hb, hR⟩ | ⟨hb, g, hg, hR⟩
  · rw [h1 hb, hR]
    have : (if st.1 < ws.length then (st.1, true) else st) = (st.1, true) := by
      split
      · rfl
      · obtain ⟨i, b⟩ := st; simp only at hb; rw [hb]
    rw [this]; exact SR.mk_no _ _ _
  · obtain ⟨n1, n2⟩ := hn hb
    obtain ⟨e1, e2⟩ := h2 hb
    obtain ⟨g1, rfl⟩ : ∃ g1, g = g1 + 1 := ⟨g - 1, by omega⟩
    simp only [mProg] at hR
    rw [if_neg (by rw [n1, n2]; decide), seq_all hw (by omega) els F [] st.1 (by omega)] at hR
    generalize seqM ws (fun _ => mStmt ws F F) F [] st.1 = S at e1 e2 hR
    obtain ⟨els2, j, c⟩ := S
    simp only at e1 e2 hR
    subst e1
    subst hR
    cases c with
    | true =>
      simp only [if_true]
      rw [show (if j < ws.length then (j, true) else (j, true)) = (j, true) by split <;> rfl]
      exact SR.mk_no _ _ _
    | false =>
      rw [e2 rfl, if_neg (by decide)]
      simp only
      by_cases hj : j < ws.length
      · rw [if_pos hj, if_pos hj]; exact SR.mk_no _ _ _
      · rw [if_neg hj, if_neg hj]; exact SR.mk_ok _ _ _
end Go.Proofs.YthccohemcagkcaaGreatDoor
namespace Go.Proofs.YthccohemcagkcaaGreatDoor
open Go.RowKit
open Pl

theorem foot_leaf (k m : Int) (s : ByteArray) (a : Option Addr) (c : Nat) : (A.node k s m a c []).foot = [] := by simp [A.foot, feet]
section
variable {rb : Nat} {a : Option Addr} {cap : Nat} {ws : List W3} {w : World} {w' : World} {st : St2} {L : List (Nat × A)}
/-- The result's variable and the statement's variable, both still zero. -/
theorem SGrown.zero {w1 : World} (hrb : rb < w.heap.size) (s : Step rb ((w.alloc (.cells #[.int .i64 0, .string ⟨#[]⟩, .int .i64 0, .slice none 0 0] 26)).alloc (.cells #[.int .i64 0, .string ⟨#[]⟩, .int .i64 0, .slice none 0 0] 26)) w1) (r : Sd w1 rb a cap ws st) :
    SGrown rb a cap ws w (w.heap.size + 1) w1 (.node 0 ⟨#[]⟩ 0 none 0 []) st := by
  have hX := heap_alloc_new (w.alloc (.cells #[.int .i64 0, .string ⟨#[]⟩, .int .i64 0, .slice none 0 0] 26)) (.cells #[.int .i64 0, .string ⟨#[]⟩, .int .i64 0, .slice none 0 0] 26)
  rw [show (w.alloc (.cells #[.int .i64 0, .string ⟨#[]⟩, .int .i64 0, .slice none 0 0] 26)).heap.size = w.heap.size + 1 by simp] at hX
  have hP := (Lib.alloc_old (w.alloc (.cells #[.int .i64 0, .string ⟨#[]⟩, .int .i64 0, .slice none 0 0] 26)) (.cells #[.int .i64 0, .string ⟨#[]⟩, .int .i64 0, .slice none 0 0] 26) w.heap.size (by simp)).trans (heap_alloc_new w _)
  exact ⟨s.at hX (by omega), s.at hP (by omega), Sits.leaf _ _ _ (by decide), New.leaf _ _ _ _ _ _, by rw [foot_leaf]; simp, r, (((Step.refl rb w).alloc _).alloc _).trans s, by omega, hrb⟩
structure Hold (rb : Nat) (a : Option Addr) (cap : Nat) (ws : List W3) (w w' : World) (st : St2) (L : List (Nat × A)) : Prop where
  g : SGrown rb a cap ws w (w.heap.size + 1) w' (.node 0 ⟨#[]⟩ 0 none 0 []) st
  here : ∀ q ∈ L, w.heap.size + 1 < q.1 ∧ w'.heap[q.1]? = some (.cells q.2.cells.toArray 26 (0, 0))
  sits : SitsL w' (L.map Prod.snd)
  new : NewL (w.heap.size + 2) (L.map Prod.snd)
theorem Hold.nil (g : SGrown rb a cap ws w (w.heap.size + 1) w' (.node 0 ⟨#[]⟩ 0 none 0 []) st) : Hold rb a cap ws w w' st [] :=
  ⟨g, fun q hq => (by cases hq), trivial, ⟨List.nodup_nil, fun b hb => (by cases hb)⟩⟩
theorem Hold.on {w2 : World} {st2 : St2} (h : Hold rb a cap ws w w' st L) (s : Step rb w' w2) (r : Sd w2 rb a cap ws st2) : Hold rb a cap ws w w2 st2 L := by
  have hr := h.g.rlt
  exact ⟨h.g.on s r, fun q hq => ⟨(h.here q hq).1, s.at (h.here q hq).2 (by have := (h.here q hq).1; omega)⟩, s.sitsL h.sits (fun q hq => by have := h.new.2 q hq; omega), h.new⟩
theorem Hold.below {w2 : World} (h : Hold rb a cap ws w w' st L) (b : Below w'.heap.size w' w2) : Hold rb a cap ws w w2 st L := h.on (Step.of_below b) (h.g.sd.keep (b.mono h.g.sd.lt))
theorem Hold.room (h : Hold rb a cap ws w w' st L) : w.heap.size + 2 ≤ w'.heap.size := h.g.plt
/-- One tree more. -/
theorem Hold.add {w1 : World} {x : A} {st1 : St2} (h : Hold rb a cap ws w w' st L) (hx : Sits w1 x) (hn : New w'.heap.size x) (r : Sd w1 rb a cap ws st1) (s : Step rb w' w1) (cs : Array Value) (hcs : x.cells.toArray = cs) :
    Hold rb a cap ws w (w1.alloc (.cells cs 26)) st1 (L ++ [(w1.heap.size, x)]) := by
  have h1 := h.on s r
  have hm := h.room
  have hm1 := h1.room
  have lx := Sits.lt x hx
  have hl := SitsL.lt h.sits
  have hl1 := SitsL.lt h1.sits
  refine ⟨h1.g.on ((Step.refl rb w1).alloc _) (r.alloc _), fun q hq => ?_, ?_, ?_⟩
  · rcases List.mem_append.1 hq with hq | hq
    · exact ⟨(h1.here q hq).1, (Lib.alloc_old _ _ _ (Array.getElem?_eq_some_iff.1 (h1.here q hq).2).1).trans (h1.here q hq).2⟩
    · rw [List.mem_singleton] at hq
      subst hq
      exact ⟨by simp only; omega, by simp only; rw [hcs]; exact heap_alloc_new w1 _⟩
  · rw [List.map_append]
    exact sitsL_snoc (h1.sits.stay fun q hq => Lib.alloc_old _ _ _ (hl1 q hq)) (Sits.stay x (fun q hq => Lib.alloc_old _ _ _ (lx q hq)) hx)
  · rw [List.map_append]
    exact NewL.snoc h.new hl hn hm
/-- A place of its own is written. -/
theorem Hold.put (h : Hold rb a cap ws w w' st L) {r : Nat} (hr : w.heap.size + 1 < r) (hne : ∀ q ∈ L, q.1 ≠ r) (ho : r ∉ feet (L.map Prod.snd)) (v0 v1 v2 v3 : Value) : Hold rb a cap ws w (put4 w' r v0 v1 v2 v3) st L := by
  have hrl := h.g.rlt
  refine ⟨⟨(put4_other _ _ _ _ (by omega)).trans h.g.here, (put4_other _ _ _ _ (by omega)).trans h.g.res, Sits.leaf _ _ _ (by decide), h.g.new, h.g.off, put4_sd h.g.sd (by omega) _ _ _ _, put4_step h.g.step (by omega) _ _ _ _, h.g.lt, hrl⟩, fun q hq => ⟨(h.here q hq).1, (put4_other _ _ _ _ (hne q hq)).trans (h.here q hq).2⟩, h.sits.stay (fun q hq => put4_other _ _ _ _ (fun e => ho (e ▸ hq))), h.new⟩
end
theorem put_sits {w9 : World} {p n : Nat} {xs : List A} (hs : SitsL w9 xs) (hn : NewL n xs) (hp : p < n) (v0 v1 v2 v3 : Value) : SitsL (put4 w9 p v0 v1 v2 v3) xs :=
  hs.stay fun q hq => put4_other _ _ _ _ (by have := hn.2 q hq; omega)
theorem alloc_sits {w9 : World} {xs : List A} (hs : SitsL w9 xs) (o : Obj) : SitsL (w9.alloc o) xs := hs.stay fun q hq => Lib.alloc_old _ _ _ (SitsL.lt hs q hq)
theorem sp_any {rb : Nat} {a : Option Addr} {cap : Nat} {ws : List W3} {w W : World} {r : Res} {st st' : St2} {n : Nat} (x : A) (hd : Sd W rb a cap ws st') (hst : Step rb w W) (hx : Sits W x ∧ New n x) (hn : w.heap.size ≤ n) (hr : SR r st x.erase st') :
    SPost rb a cap ws w r st (.returned x.val) W := ⟨x, st', rfl, hx.1, hx.2.mono hn, hd, hst, hr⟩
/-- A row of trees is laid behind a world: the tree over it. -/
theorem made_row {w0 : World} {n b c : Nat} {xs : List A} {cs : Array Value} {k m : Int} {s : ByteArray} (hcs : (cellsL xs).toArray = cs) (hb : w0.heap.size = b) (hs : SitsL w0 xs) (hn : NewL n xs) (hle : n ≤ b) (hz : s.size ≤ maxLen) (hl : xs.length ≤ maxLen) :
    Sits (w0.alloc (.cells cs 26)) (.node k s m (some ⟨b, 0, none⟩) c xs) ∧ New n (.node k s m (some ⟨b, 0, none⟩) c xs) := by
  subst hb
  exact made hs ((Below.refl _ _).alloc (Nat.le_refl _) _) (by rw [hcs]; exact heap_alloc_new w0 _) (Nat.le_refl _) hn hle hz hl
theorem cells3 (xk : Int) (xs : ByteArray) (xm : Int) (xa : Option Addr) (xc : Nat) (xkk : List A) (yk : Int) (ys : ByteArray) (ym : Int) (ya : Option Addr) (yc : Nat) (ykk : List A) (zk : Int) (zs : ByteArray) (zm : Int) (za : Option Addr) (zc : Nat) (zkk : List A) :
    (cellsL [A.node xk xs xm xa xc xkk, A.node yk ys ym ya yc ykk, A.node zk zs zm za zc zkk]).toArray = #[.int .i64 xk, .string xs, .int .i64 xm, .slice xa xkk.length xc, .int .i64 yk, .string ys, .int .i64 ym, .slice ya ykk.length yc, .int .i64 zk, .string zs, .int .i64 zm, .slice za zkk.length zc] := rfl
theorem sr_cond_pos {ws : List W3} {F i : Nat} {x : T} {st1 : St2} (h : SR (mCond ws F i) (i, false) x st1) : i ≤ st1.1 := by
  rcases h.parts with ⟨j, e, rfl⟩ | ⟨p, e, rfl⟩
  · have := adv_cond e; simp only; omega
  · exact advN_cond e
theorem sr_expr_pos {ws : List W3} {F : Nat} {st : St2} {x : T} {st1 : St2} (h : SR (mExpr ws F st.1) st x st1) : st.1 ≤ st1.1 := by
  obtain ⟨i, b⟩ := st
  cases b with
  | true => rw [h.bad]; exact Nat.le_refl _
  | false =>
    rcases h.parts with ⟨j, e, rfl⟩ | ⟨p, e, rfl⟩
    · have := (adv ws F).2.2.2.1 _ _ _ e; simp only at this ⊢; omega
    · exact (advN ws F).2.2.2.1 _ _ e
theorem sr_block_pos {ws : List W3} {F f : Nat} {st : St2} {x : T} {st1 : St2} (h : SR (mBlock ws F f st.1) st x st1) : st.1 ≤ st1.1 := by
  obtain ⟨i, b⟩ := st
  cases b with
  | true => rw [h.bad]; exact Nat.le_refl _
  | false =>
    rcases h.parts with ⟨j, e, rfl⟩ | ⟨p, e, rfl⟩
    · have := (advS ws F f).2.1 _ _ _ e; simp only at this ⊢; omega
    · exact (advNS ws F f).2.1 _ _ e
theorem nd_pos (ws : List W3) (st : St2) (s : ByteArray) : st.1 ≤ (nd ws st s).1 := by unfold nd; split <;> simp
theorem nmS_pos (ws : List W3) (st : St2) : st.1 ≤ (nmS ws st).1 := by unfold nmS; split <;> simp
end Go.Proofs.YthccohemcagkcaaGreatDoor
