/-
  THE READING OF A PROGRAM'S WORDS, as plain functions: from a word on, what is read and where it ends, or the word with which it cannot go on.
  PLAIN FACTS on the reading of words: it goes on.
  PLAIN FACTS on the reading of words: where it ends, it has not gone back.
  PLAIN FACTS: a tree that was read has no more nodes than words were read, and a few.
-/
import Derived.Test.YthccohemcagkcaaGreatDoorGe
import Derived.Test.YthccohemcagkcaaGreatDoorGb
namespace Go.Proofs.YthccohemcagkcaaGreatDoor
open Go.RowKit
open Pl

/-- What was read and the place behind it, or the place where it ends. -/
inductive Res where
  | ok (t : T) (j : Nat)
  | no (p : Nat)

def isW (ws : List W3) (i : Nat) (s : ByteArray) : Bool := match ws[i]? with
  | some x => decide (x.s = s)
  | none => false
def kindW (ws : List W3) (i : Nat) : Int := match ws[i]? with
  | some x => x.k
  | none => 0
def textW (ws : List W3) (i : Nat) : ByteArray := match ws[i]? with
  | some x => x.s
  | none => ⟨#[]⟩

/-- The comparing signs. -/
def relI (s : ByteArray) : Int := if s = ⟨#[60]⟩ then 11 else if s = ⟨#[60, 61]⟩ then 12 else if s = ⟨#[62]⟩ then 13 else if s = ⟨#[62, 61]⟩ then 14 else if s = ⟨#[61, 61]⟩ then 15 else if s = ⟨#[33, 61]⟩ then 16 else 0

def nil_ : ByteArray := ⟨#[]⟩
def Res.then_ (r : Res) (f : T → Nat → Res) : Res := match r with
  | .ok t j => f t j
  | .no p => .no p
/-- A word that must stand there. -/
def want (ws : List W3) (j : Nat) (s : ByteArray) (r : Res) : Res := if isW ws j s then r else .no j
def wantK (ws : List W3) (j : Nat) (k : Int) (r : Res) : Res := if kindW ws j = k then r else .no j

mutual
def mOne (ws : List W3) : Nat → Nat → Res
  | 0, i => .no i
  | f + 1, i =>
    if isW ws i ⟨#[45]⟩ then (mOne ws f (i + 1)).then_ fun x j => .ok (.node 5 nil_ 0 [x]) j else
    if isW ws i ⟨#[40]⟩ then (mExpr ws f (i + 1)).then_ fun x j => want ws j ⟨#[41]⟩ (.ok x (j + 1)) else
    if isW ws i ⟨#[108, 101, 110]⟩ then want ws (i + 1) ⟨#[40]⟩ (wantK ws (i + 2) 1 (want ws (i + 3) ⟨#[41]⟩ (.ok (.node 4 (textW ws (i + 2)) 0 []) (i + 4)))) else
    if kindW ws i = 2 then .ok (.node 1 nil_ (numV (textW ws i)) []) (i + 1) else
    wantK ws i 1 (if isW ws (i + 1) ⟨#[91]⟩ then (mExpr ws f (i + 2)).then_ fun x j => want ws j ⟨#[93]⟩ (.ok (.node 3 (textW ws i) 0 [x]) (j + 1)) else
      .ok (.node 2 (textW ws i) 0 []) (i + 1))
def mTerm (ws : List W3) : Nat → Nat → Res
  | 0, i => .no i
  | f + 1, i => (mOne ws f i).then_ fun x j => mTermL ws f x j
def mTermL (ws : List W3) : Nat → T → Nat → Res
  | 0, _, i => .no i
  | f + 1, x, i => if isW ws i ⟨#[42]⟩ then (mOne ws f (i + 1)).then_ fun y j => mTermL ws f (.node 8 nil_ 0 [x, y]) j else .ok x i
def mExpr (ws : List W3) : Nat → Nat → Res
  | 0, i => .no i
  | f + 1, i => (mTerm ws f i).then_ fun x j => mExprL ws f x j
def mExprL (ws : List W3) : Nat → T → Nat → Res
  | 0, _, i => .no i
  | f + 1, x, i => if isW ws i ⟨#[43]⟩ then (mTerm ws f (i + 1)).then_ fun y j => mExprL ws f (.node 6 nil_ 0 [x, y]) j else
    if isW ws i ⟨#[45]⟩ then (mTerm ws f (i + 1)).then_ fun y j => mExprL ws f (.node 7 nil_ 0 [x, y]) j else .ok x i
end
def mCond (ws : List W3) (f i : Nat) : Res := (mExpr ws f i).then_ fun x j =>
  if relI (textW ws j) = 0 then .no j else (mExpr ws f (j + 1)).then_ fun y j2 => .ok (.node (relI (textW ws j)) nil_ 0 [x, y]) j2
def mShort (ws : List W3) (f i : Nat) : Res :=
  if isW ws i ⟨#[114, 101, 97, 100]⟩ then wantK ws (i + 1) 1 (.ok (.node 23 (textW ws (i + 1)) 0 []) (i + 2)) else
  if isW ws i ⟨#[99, 104, 101, 99, 107]⟩ then (mCond ws f (i + 1)).then_ fun x j => .ok (.node 27 nil_ 0 [x]) j else
  if isW ws i ⟨#[115, 107, 105, 112]⟩ then .ok (.node 28 nil_ 0 []) (i + 1) else
  if isW ws i ⟨#[115, 116, 111, 112]⟩ then .ok (.node 29 nil_ 0 []) (i + 1) else
  wantK ws i 1 (if isW ws (i + 1) ⟨#[91]⟩ then (mExpr ws f (i + 2)).then_ fun x j => want ws j ⟨#[93]⟩ (want ws (j + 1) ⟨#[61]⟩ ((mExpr ws f (j + 2)).then_ fun y j2 => .ok (.node 22 (textW ws i) 0 [x, y]) j2)) else
    want ws (i + 1) ⟨#[61]⟩ ((mExpr ws f (i + 2)).then_ fun y j => .ok (.node 21 (textW ws i) 0 [y]) j))
mutual
def mStmt (ws : List W3) (F : Nat) : Nat → Nat → Res
  | 0, i => .no i
  | f + 1, i =>
    if isW ws i ⟨#[105, 102]⟩ then (mCond ws F (i + 1)).then_ fun x j => (mBlock ws F f j).then_ fun y j2 =>
      if isW ws j2 ⟨#[101, 108, 115, 101]⟩ then (mBlock ws F f (j2 + 1)).then_ fun z j3 => .ok (.node 24 nil_ 0 [x, y, z]) j3 else .ok (.node 24 nil_ 0 [x, y, .node 30 nil_ 0 []]) j2 else
    if isW ws i ⟨#[119, 104, 105, 108, 101]⟩ then (mCond ws F (i + 1)).then_ fun x j => (mBlock ws F f j).then_ fun y j2 => .ok (.node 25 nil_ 0 [x, y]) j2 else
    if isW ws i ⟨#[102, 111, 114]⟩ then wantK ws (i + 1) 1 (want ws (i + 2) ⟨#[102, 114, 111, 109]⟩ ((mExpr ws F (i + 3)).then_ fun x j => want ws j ⟨#[116, 111]⟩
      ((mExpr ws F (j + 1)).then_ fun y j2 => (mBlock ws F f j2).then_ fun z j3 => .ok (.node 26 (textW ws (i + 1)) 0 [x, y, z]) j3))) else
    (mShort ws F i).then_ fun x j => want ws j ⟨#[59]⟩ (.ok x (j + 1))
def mBlock (ws : List W3) (F : Nat) : Nat → Nat → Res
  | 0, i => .no i
  | f + 1, i => want ws i ⟨#[123]⟩ (mList ws F f [] (i + 1))
def mList (ws : List W3) (F : Nat) : Nat → List T → Nat → Res
  | 0, _, i => .no i
  | f + 1, acc, i => if isW ws i ⟨#[125]⟩ then .ok (.node 30 nil_ 0 acc) (i + 1) else (mStmt ws F f i).then_ fun x j => mList ws F f (acc ++ [x]) j
end
def mDecl (ws : List W3) (i : Nat) : Res :=
  if isW ws i ⟨#[118, 97, 114]⟩ then wantK ws (i + 1) 1 (want ws (i + 2) ⟨#[59]⟩ (.ok (.node 31 (textW ws (i + 1)) 0 []) (i + 3))) else
  want ws i ⟨#[97, 114, 114, 97, 121]⟩ (wantK ws (i + 1) 1 (want ws (i + 2) ⟨#[91]⟩ (
    if isW ws (i + 3) ⟨#[63]⟩ then want ws (i + 4) ⟨#[93]⟩ (want ws (i + 5) ⟨#[59]⟩ (.ok (.node 32 (textW ws (i + 1)) (-1) []) (i + 6))) else
    wantK ws (i + 3) 2 (want ws (i + 4) ⟨#[93]⟩ (want ws (i + 5) ⟨#[59]⟩ (.ok (.node 32 (textW ws (i + 1)) (numV (textW ws (i + 3))) []) (i + 6)))))))
def mAll (ws : List W3) (F : Nat) (ds : List T) : Nat → List T → Nat → Res
  | 0, _, i => .no i
  | f + 1, acc, i => if i < ws.length then (mStmt ws F F i).then_ fun x j => mAll ws F ds f (acc ++ [x]) j else .ok (.node 40 nil_ 0 (ds ++ [.node 30 nil_ 0 acc])) i
def mProg (ws : List W3) (F : Nat) : Nat → List T → Nat → Res
  | 0, _, i => .no i
  | f + 1, ds, i => if isW ws i ⟨#[118, 97, 114]⟩ || isW ws i ⟨#[97, 114, 114, 97, 121]⟩ then (mDecl ws i).then_ fun x j => mProg ws F f (ds ++ [x]) j else mAll ws F ds F [] i

/-- Words as they come out of a text. -/
def WsOk (ws : List W3) : Prop := ∀ x ∈ ws, kindI x.s = x.k ∧ x.k ≠ 0
end Go.Proofs.YthccohemcagkcaaGreatDoor
namespace Go.Proofs.YthccohemcagkcaaGreatDoor
open Go.RowKit
open Pl

theorem isW_lt {ws : List W3} {i : Nat} {s : ByteArray} (h : isW ws i s = true) : i < ws.length := by
  unfold isW at h
  by_cases q : i < ws.length
  · exact q
  · rw [List.getElem?_eq_none (by omega)] at h; cases h
theorem kindW_lt {ws : List W3} {i : Nat} {k : Int} (h : kindW ws i = k) (hk : k ≠ 0) : i < ws.length := by
  unfold kindW at h
  by_cases q : i < ws.length
  · exact q
  · rw [List.getElem?_eq_none (by omega)] at h; exact absurd h.symm hk
theorem isW_end {ws : List W3} {i : Nat} (s : ByteArray) (h : ws.length ≤ i) : isW ws i s = false := by
  unfold isW; rw [List.getElem?_eq_none h]
theorem kindW_end {ws : List W3} {i : Nat} (h : ws.length ≤ i) : kindW ws i = 0 := by
  unfold kindW; rw [List.getElem?_eq_none h]
theorem textW_end {ws : List W3} {i : Nat} (h : ws.length ≤ i) : textW ws i = ⟨#[]⟩ := by
  unfold textW; rw [List.getElem?_eq_none h]
theorem isW_text {ws : List W3} {i : Nat} {s : ByteArray} (h : isW ws i s = true) : textW ws i = s := by
  unfold isW at h; unfold textW
  split at h
  · rename_i x hx
    simpa using h
  · cases h
theorem isW_of_text {ws : List W3} {i : Nat} {s : ByteArray} (hi : i < ws.length) : isW ws i s = decide (textW ws i = s) := by
  unfold isW textW
  rw [List.getElem?_eq_getElem hi]
theorem isW_kind {ws : List W3} {i : Nat} {s : ByteArray} (hw : WsOk ws) (h : isW ws i s = true) : kindW ws i = kindI s := by
  have hi := isW_lt h
  have ht := isW_text h
  unfold kindW
  unfold textW at ht
  rw [List.getElem?_eq_getElem hi] at ht ⊢
  simp only at ht ⊢
  rw [← ht]
  exact ((hw _ (List.getElem_mem hi)).1).symm
theorem then_ok {r : Res} {f : T → Nat → Res} {t : T} {j : Nat} (h : r.then_ f = .ok t j) : ∃ x i, r = .ok x i ∧ f x i = .ok t j := by
  cases r with
  | ok x i => exact ⟨x, i, rfl, h⟩
  | no p => cases h
theorem want_ok {ws : List W3} {i : Nat} {s : ByteArray} {r : Res} {t : T} {j : Nat} (h : want ws i s r = .ok t j) : isW ws i s = true ∧ r = .ok t j := by
  unfold want at h
  split at h
  · rename_i q; exact ⟨q, h⟩
  · cases h
theorem wantK_ok {ws : List W3} {i : Nat} {k : Int} {r : Res} {t : T} {j : Nat} (h : wantK ws i k r = .ok t j) : kindW ws i = k ∧ r = .ok t j := by
  unfold wantK at h
  split at h
  · rename_i q; exact ⟨q, h⟩
  · cases h
theorem ok_inj {t t' : T} {j j' : Nat} (h : Res.ok t j = .ok t' j') : t = t' ∧ j = j' := by cases h; exact ⟨rfl, rfl⟩

/-- Each part goes on at least by a word, and not past the end. -/
def Adv (ws : List W3) (f : Nat) : Prop := (∀ i t j, mOne ws f i = .ok t j → i < j ∧ j ≤ ws.length) ∧ (∀ i t j, mTerm ws f i = .ok t j → i < j ∧ j ≤ ws.length) ∧
  (∀ x i t j, i ≤ ws.length → mTermL ws f x i = .ok t j → i ≤ j ∧ j ≤ ws.length) ∧ (∀ i t j, mExpr ws f i = .ok t j → i < j ∧ j ≤ ws.length) ∧ (∀ x i t j, i ≤ ws.length → mExprL ws f x i = .ok t j → i ≤ j ∧ j ≤ ws.length)
theorem adv_one {ws : List W3} {f : Nat} (ih : Adv ws f) {i : Nat} {t : T} {j : Nat} (h : mOne ws (f + 1) i = .ok t j) : i < j ∧ j ≤ ws.length := by
  obtain ⟨a1, a2, a3, a4, a5⟩ := ih
  simp only [mOne] at h
  split at h
  · obtain ⟨x, k, h1, h2⟩ := then_ok h
    have := a1 _ _ _ h1
    have := (ok_inj h2).2
    omega
  · split at h
    · obtain ⟨x, k, h1, h2⟩ := then_ok h
      obtain ⟨h3, h4⟩ := want_ok h2
      have := a4 _ _ _ h1
      have := isW_lt h3
      have := (ok_inj h4).2
      omega
    · split at h
      · obtain ⟨g1, h⟩ := want_ok h
        obtain ⟨g2, h⟩ := wantK_ok h
        obtain ⟨g3, h⟩ := want_ok h
        have := isW_lt g3
        have := (ok_inj h).2
        omega
      · split at h
        · rename_i g
          have := kindW_lt g (by decide)
          have := (ok_inj h).2
          omega
        · obtain ⟨g, h⟩ := wantK_ok h
          have := kindW_lt g (by decide)
          split at h
          · obtain ⟨x, k, h1, h2⟩ := then_ok h
            obtain ⟨h3, h4⟩ := want_ok h2
            have := a4 _ _ _ h1
            have := isW_lt h3
            have := (ok_inj h4).2
            omega
          · have := (ok_inj h).2
            omega
theorem adv (ws : List W3) (f : Nat) : Adv ws f := by
  induction f with
  | zero => exact ⟨fun _ _ _ h => by simp [mOne] at h, fun _ _ _ h => by simp [mTerm] at h, fun _ _ _ _ _ h => by simp [mTermL] at h, fun _ _ _ h => by simp [mExpr] at h, fun _ _ _ _ _ h => by simp [mExprL] at h⟩
  | succ f ih =>
    have ih' := ih
    obtain ⟨a1, a2, a3, a4, a5⟩ := ih
    refine ⟨fun i t j h => adv_one ih' h, fun i t j h => ?_, fun x i t j hi h => ?_, fun i t j h => ?_, fun x i t j hi h => ?_⟩
    · simp only [mTerm] at h
      obtain ⟨x, k, h1, h2⟩ := then_ok h
      have q := a1 _ _ _ h1
      have := a3 _ _ _ _ q.2 h2
      omega
    · simp only [mTermL] at h
      split at h
      · obtain ⟨y, k, h1, h2⟩ := then_ok h
        have q := a1 _ _ _ h1
        have := a3 _ _ _ _ q.2 h2
        omega
      · have := (ok_inj h).2
        omega
    · simp only [mExpr] at h
      obtain ⟨x, k, h1, h2⟩ := then_ok h
      have q := a2 _ _ _ h1
      have := a5 _ _ _ _ q.2 h2
      omega
    · simp only [mExprL] at h
      split at h
      · obtain ⟨y, k, h1, h2⟩ := then_ok h
        have q := a2 _ _ _ h1
        have := a5 _ _ _ _ q.2 h2
        omega
      · split at h
        · obtain ⟨y, k, h1, h2⟩ := then_ok h
          have q := a2 _ _ _ h1
          have := a5 _ _ _ _ q.2 h2
          omega
        · have := (ok_inj h).2
          omega
theorem adv_cond {ws : List W3} {f i : Nat} {t : T} {j : Nat} (h : mCond ws f i = .ok t j) : i < j ∧ j ≤ ws.length := by
  unfold mCond at h
  obtain ⟨x, k, h1, h2⟩ := then_ok h
  have q := (adv ws f).2.2.2.1 _ _ _ h1
  split at h2
  · cases h2
  · obtain ⟨y, k2, h3, h4⟩ := then_ok h2
    have q2 := (adv ws f).2.2.2.1 _ _ _ h3
    have := (ok_inj h4).2
    omega
theorem adv_short {ws : List W3} {f i : Nat} {t : T} {j : Nat} (h : mShort ws f i = .ok t j) : i < j ∧ j ≤ ws.length := by
  unfold mShort at h
  have ax := (adv ws f).2.2.2.1
  split at h
  · obtain ⟨g, h⟩ := wantK_ok h
    have := kindW_lt g (by decide)
    have := (ok_inj h).2
    omega
  · split at h
    · obtain ⟨x, k, h1, h2⟩ := then_ok h
      have := adv_cond h1
      have := (ok_inj h2).2
      omega
    · split at h
      · rename_i g
        have := isW_lt g
        have := (ok_inj h).2
        omega
      · split at h
        · rename_i g
          have := isW_lt g
          have := (ok_inj h).2
          omega
        · obtain ⟨g, h⟩ := wantK_ok h
          split at h
          · obtain ⟨x, k, h1, h2⟩ := then_ok h
            obtain ⟨h3, h4⟩ := want_ok h2
            obtain ⟨h5, h6⟩ := want_ok h4
            obtain ⟨y, k2, h7, h8⟩ := then_ok h6
            have := ax _ _ _ h1
            have := ax _ _ _ h7
            have := (ok_inj h8).2
            omega
          · obtain ⟨h5, h6⟩ := want_ok h
            obtain ⟨y, k2, h7, h8⟩ := then_ok h6
            have := ax _ _ _ h7
            have := (ok_inj h8).2
            omega
def AdvS (ws : List W3) (F f : Nat) : Prop := (∀ i t j, mStmt ws F f i = .ok t j → i < j ∧ j ≤ ws.length) ∧ (∀ i t j, mBlock ws F f i = .ok t j → i < j ∧ j ≤ ws.length) ∧ (∀ acc i t j, mList ws F f acc i = .ok t j → i < j ∧ j ≤ ws.length)
theorem advS (ws : List W3) (F f : Nat) : AdvS ws F f := by
  induction f with
  | zero => exact ⟨fun _ _ _ h => by simp [mStmt] at h, fun _ _ _ h => by simp [mBlock] at h, fun _ _ _ _ h => by simp [mList] at h⟩
  | succ f ih =>
    obtain ⟨a1, a2, a3⟩ := ih
    have ax := (adv ws F).2.2.2.1
    refine ⟨fun i t j h => ?_, fun i t j h => ?_, fun acc i t j h => ?_⟩
    · simp only [mStmt] at h
      split at h
      · obtain ⟨x, k, h1, h2⟩ := then_ok h
        obtain ⟨y, k2, h3, h4⟩ := then_ok h2
        have := adv_cond h1
        have := a2 _ _ _ h3
        split at h4
        · obtain ⟨z, k3, h5, h6⟩ := then_ok h4
          have := a2 _ _ _ h5
          have := (ok_inj h6).2
          omega
        · have := (ok_inj h4).2
          omega
      · split at h
        · obtain ⟨x, k, h1, h2⟩ := then_ok h
          obtain ⟨y, k2, h3, h4⟩ := then_ok h2
          have := adv_cond h1
          have := a2 _ _ _ h3
          have := (ok_inj h4).2
          omega
        · split at h
          · obtain ⟨_, h⟩ := wantK_ok h
            obtain ⟨_, h⟩ := want_ok h
            obtain ⟨x, k, h1, h2⟩ := then_ok h
            obtain ⟨_, h2⟩ := want_ok h2
            obtain ⟨y, k2, h3, h4⟩ := then_ok h2
            obtain ⟨z, k3, h5, h6⟩ := then_ok h4
            have := ax _ _ _ h1
            have := ax _ _ _ h3
            have := a2 _ _ _ h5
            have := (ok_inj h6).2
            omega
          · obtain ⟨x, k, h1, h2⟩ := then_ok h
            obtain ⟨h3, h4⟩ := want_ok h2
            have := adv_short h1
            have := isW_lt h3
            have := (ok_inj h4).2
            omega
    · simp only [mBlock] at h
      obtain ⟨g, h⟩ := want_ok h
      have := a3 _ _ _ _ h
      omega
    · simp only [mList] at h
      split at h
      · rename_i g
        have := isW_lt g
        have := (ok_inj h).2
        omega
      · obtain ⟨x, k, h1, h2⟩ := then_ok h
        have := a1 _ _ _ h1
        have := a3 _ _ _ _ h2
        omega
theorem adv_decl {ws : List W3} {i : Nat} {t : T} {j : Nat} (h : mDecl ws i = .ok t j) : i < j ∧ j ≤ ws.length := by
  unfold mDecl at h
  split at h
  · obtain ⟨_, h⟩ := wantK_ok h
    obtain ⟨g, h⟩ := want_ok h
    have := isW_lt g
    have := (ok_inj h).2
    omega
  · obtain ⟨_, h⟩ := want_ok h
    obtain ⟨_, h⟩ := wantK_ok h
    obtain ⟨_, h⟩ := want_ok h
    split at h
    · obtain ⟨_, h⟩ := want_ok h
      obtain ⟨g, h⟩ := want_ok h
      have := isW_lt g
      have := (ok_inj h).2
      omega
    · obtain ⟨_, h⟩ := wantK_ok h
      obtain ⟨_, h⟩ := want_ok h
      obtain ⟨g, h⟩ := want_ok h
      have := isW_lt g
      have := (ok_inj h).2
      omega
end Go.Proofs.YthccohemcagkcaaGreatDoor
namespace Go.Proofs.YthccohemcagkcaaGreatDoor
open Go.RowKit
open Pl

theorem then_no {r : Res} {f : T → Nat → Res} {p : Nat} (h : r.then_ f = .no p) : r = .no p ∨ ∃ x i, r = .ok x i ∧ f x i = .no p := by
  cases r with
  | ok x i => exact .inr ⟨x, i, rfl, h⟩
  | no q => exact .inl h
theorem want_no {ws : List W3} {i : Nat} {s : ByteArray} {r : Res} {p : Nat} (h : want ws i s r = .no p) : p = i ∨ r = .no p := by
  unfold want at h
  split at h
  · exact .inr h
  · cases h; exact .inl rfl
theorem wantK_no {ws : List W3} {i : Nat} {k : Int} {r : Res} {p : Nat} (h : wantK ws i k r = .no p) : p = i ∨ r = .no p := by
  unfold wantK at h
  split at h
  · exact .inr h
  · cases h; exact .inl rfl
theorem no_inj {p q : Nat} (h : Res.no p = .no q) : p = q := by cases h; rfl
def AdvN (ws : List W3) (f : Nat) : Prop := (∀ i p, mOne ws f i = .no p → i ≤ p) ∧ (∀ i p, mTerm ws f i = .no p → i ≤ p) ∧ (∀ x i p, mTermL ws f x i = .no p → i ≤ p) ∧ (∀ i p, mExpr ws f i = .no p → i ≤ p) ∧ (∀ x i p, mExprL ws f x i = .no p → i ≤ p)
theorem advN_one {ws : List W3} {f : Nat} (ih : AdvN ws f) {i p : Nat} (h : mOne ws (f + 1) i = .no p) : i ≤ p := by
  obtain ⟨a1, a2, a3, a4, a5⟩ := ih
  have e4 := (adv ws f).2.2.2.1
  simp only [mOne] at h
  split at h
  · rcases then_no h with h | ⟨x, k, h1, h2⟩
    · have := a1 _ _ h; omega
    · cases h2
  · split at h
    · rcases then_no h with h | ⟨x, k, h1, h2⟩
      · have := a4 _ _ h; omega
      · have := e4 _ _ _ h1
        rcases want_no h2 with h2 | h2
        · omega
        · cases h2
    · split at h
      · rcases want_no h with h | h
        · omega
        · rcases wantK_no h with h | h
          · omega
          · rcases want_no h with h | h
            · omega
            · cases h
      · split at h
        · cases h
        · rcases wantK_no h with h | h
          · omega
          · split at h
            · rcases then_no h with h | ⟨x, k, h1, h2⟩
              · have := a4 _ _ h; omega
              · have := e4 _ _ _ h1
                rcases want_no h2 with h2 | h2
                · omega
                · cases h2
            · cases h
theorem advN (ws : List W3) (f : Nat) : AdvN ws f := by
  induction f with
  | zero => exact ⟨(fun _ _ h => by simp only [mOne] at h; exact Nat.le_of_eq (no_inj h)), (fun _ _ h => by simp only [mTerm] at h; exact Nat.le_of_eq (no_inj h)), (fun _ _ _ h => by simp only [mTermL] at h; exact Nat.le_of_eq (no_inj h)), (fun _ _ h => by simp only [mExpr] at h; exact Nat.le_of_eq (no_inj h)), (fun _ _ _ h => by simp only [mExprL] at h; exact Nat.le_of_eq (no_inj h))⟩
  | succ f ih =>
    have ih' := ih
    obtain ⟨a1, a2, a3, a4, a5⟩ := ih
    have e1 := (adv ws f).1
    have e2 := (adv ws f).2.1
    refine ⟨fun i p h => advN_one ih' h, fun i p h => ?_, fun x i p h => ?_, fun i p h => ?_, fun x i p h => ?_⟩
    · simp only [mTerm] at h
      rcases then_no h with h | ⟨x, k, h1, h2⟩
      · exact a1 _ _ h
      · have := e1 _ _ _ h1; have := a3 _ _ _ h2; omega
    · simp only [mTermL] at h
      split at h
      · rcases then_no h with h | ⟨x, k, h1, h2⟩
        · have := a1 _ _ h; omega
        · have := e1 _ _ _ h1; have := a3 _ _ _ h2; omega
      · cases h
    · simp only [mExpr] at h
      rcases then_no h with h | ⟨x, k, h1, h2⟩
      · exact a2 _ _ h
      · have := e2 _ _ _ h1; have := a5 _ _ _ h2; omega
    · simp only [mExprL] at h
      split at h
      · rcases then_no h with h | ⟨x, k, h1, h2⟩
        · have := a2 _ _ h; omega
        · have := e2 _ _ _ h1; have := a5 _ _ _ h2; omega
      · split at h
        · rcases then_no h with h | ⟨x, k, h1, h2⟩
          · have := a2 _ _ h; omega
          · have := e2 _ _ _ h1; have := a5 _ _ _ h2; omega
        · cases h
theorem advN_cond {ws : List W3} {f i p : Nat} (h : mCond ws f i = .no p) : i ≤ p := by
  unfold mCond at h
  have e4 := (adv ws f).2.2.2.1
  have n4 := (advN ws f).2.2.2.1
  rcases then_no h with h | ⟨x, k, h1, h2⟩
  · exact n4 _ _ h
  · have := e4 _ _ _ h1
    split at h2
    · cases h2; omega
    · rcases then_no h2 with h2 | ⟨y, k2, h3, h4⟩
      · have := n4 _ _ h2; omega
      · cases h4
theorem advN_short {ws : List W3} {f i p : Nat} (h : mShort ws f i = .no p) : i ≤ p := by
  unfold mShort at h
  have e4 := (adv ws f).2.2.2.1
  have n4 := (advN ws f).2.2.2.1
  split at h
  · rcases wantK_no h with h | h
    · omega
    · cases h
  · split at h
    · rcases then_no h with h | ⟨x, k, h1, h2⟩
      · have := advN_cond h; omega
      · cases h2
    · split at h
      · cases h
      · split at h
        · cases h
        · rcases wantK_no h with h | h
          · omega
          · split at h
            · rcases then_no h with h | ⟨x, k, h1, h2⟩
              · have := n4 _ _ h; omega
              · have := e4 _ _ _ h1
                rcases want_no h2 with h2 | h2
                · omega
                · rcases want_no h2 with h2 | h2
                  · omega
                  · rcases then_no h2 with h2 | ⟨y, k2, h3, h4⟩
                    · have := n4 _ _ h2; omega
                    · cases h4
            · rcases want_no h with h | h
              · omega
              · rcases then_no h with h | ⟨y, k2, h3, h4⟩
                · have := n4 _ _ h; omega
                · cases h4
def AdvNS (ws : List W3) (F f : Nat) : Prop := (∀ i p, mStmt ws F f i = .no p → i ≤ p) ∧ (∀ i p, mBlock ws F f i = .no p → i ≤ p) ∧ (∀ acc i p, mList ws F f acc i = .no p → i ≤ p)
theorem advNS (ws : List W3) (F f : Nat) : AdvNS ws F f := by
  induction f with
  | zero => exact ⟨(fun _ _ h => by simp only [mStmt] at h; exact Nat.le_of_eq (no_inj h)), (fun _ _ h => by simp only [mBlock] at h; exact Nat.le_of_eq (no_inj h)), (fun _ _ _ h => by simp only [mList] at h; exact Nat.le_of_eq (no_inj h))⟩
  | succ f ih =>
    obtain ⟨a1, a2, a3⟩ := ih
    have b1 := (advS ws F f).1
    have b2 := (advS ws F f).2.1
    have e4 := (adv ws F).2.2.2.1
    have n4 := (advN ws F).2.2.2.1
    refine ⟨fun i p h => ?_, fun i p h => ?_, fun acc i p h => ?_⟩
    · simp only [mStmt] at h
      split at h
      · rcases then_no h with h | ⟨x, k, h1, h2⟩
        · have := advN_cond h; omega
        · have := adv_cond h1
          rcases then_no h2 with h2 | ⟨y, k2, h3, h4⟩
          · have := a2 _ _ h2; omega
          · have := b2 _ _ _ h3
            split at h4
            · rcases then_no h4 with h4 | ⟨z, k3, h5, h6⟩
              · have := a2 _ _ h4; omega
              · cases h6
            · cases h4
      · split at h
        · rcases then_no h with h | ⟨x, k, h1, h2⟩
          · have := advN_cond h; omega
          · have := adv_cond h1
            rcases then_no h2 with h2 | ⟨y, k2, h3, h4⟩
            · have := a2 _ _ h2; omega
            · cases h4
        · split at h
          · rcases wantK_no h with h | h
            · omega
            · rcases want_no h with h | h
              · omega
              · rcases then_no h with h | ⟨x, k, h1, h2⟩
                · have := n4 _ _ h; omega
                · have := e4 _ _ _ h1
                  rcases want_no h2 with h2 | h2
                  · omega
                  · rcases then_no h2 with h2 | ⟨y, k2, h3, h4⟩
                    · have := n4 _ _ h2; omega
                    · have := e4 _ _ _ h3
                      rcases then_no h4 with h4 | ⟨z, k3, h5, h6⟩
                      · have := a2 _ _ h4; omega
                      · cases h6
          · rcases then_no h with h | ⟨x, k, h1, h2⟩
            · exact advN_short h
            · have := adv_short h1
              rcases want_no h2 with h2 | h2
              · omega
              · cases h2
    · simp only [mBlock] at h
      rcases want_no h with h | h
      · omega
      · have := a3 _ _ _ h; omega
    · simp only [mList] at h
      split at h
      · cases h
      · rcases then_no h with h | ⟨x, k, h1, h2⟩
        · exact a1 _ _ h
        · have := b1 _ _ _ h1; have := a3 _ _ _ h2; omega

/-- Where the specification's reader stands: at a word, or at the word that cannot stand. -/
abbrev St2 := Nat × Bool
/-- What a part of the specification's reader answers, against the plain reading. -/
def SR (r : Res) (st : St2) (t : T) (st' : St2) : Prop := if st.2 = true then st' = st else match r with
  | .ok t' j => t = t' ∧ st' = (j, false)
  | .no p => st' = (p, true)
def tk (ws : List W3) (st : St2) (s : ByteArray) : Bool := !st.2 && isW ws st.1 s
def tkS (ws : List W3) (st : St2) (s : ByteArray) : St2 := if tk ws st s then (st.1 + 1, false) else st
def nd (ws : List W3) (st : St2) (s : ByteArray) : St2 := if tk ws st s then (st.1 + 1, false) else (st.1, true)
def nmB (ws : List W3) (st : St2) : Bool := !st.2 && decide (kindW ws st.1 = 1)
def nmT (ws : List W3) (st : St2) : ByteArray := if nmB ws st then textW ws st.1 else ⟨#[]⟩
def nmS (ws : List W3) (st : St2) : St2 := if nmB ws st then (st.1 + 1, false) else (st.1, true)
theorem tk_yes {ws : List W3} {st : St2} {s : ByteArray} (h : tk ws st s = true) : st.2 = false ∧ isW ws st.1 s = true := by
  unfold tk at h; simpa using h
theorem SR.bad {r : Res} {i : Nat} {t : T} {st' : St2} (h : SR r (i, true) t st') : st' = (i, true) := by simpa [SR] using h
theorem SR.ok {i j : Nat} {t t' : T} {st' : St2} (h : SR (.ok t' j) (i, false) t st') : t = t' ∧ st' = (j, false) := by simpa [SR] using h
theorem SR.no {i p : Nat} {t : T} {st' : St2} (h : SR (.no p) (i, false) t st') : st' = (p, true) := by simpa [SR] using h
theorem SR.mk_bad (r : Res) (i : Nat) (t : T) : SR r (i, true) t (i, true) := by simp [SR]
theorem SR.mk_ok (i : Nat) (t : T) (j : Nat) : SR (.ok t j) (i, false) t (j, false) := by simp [SR]
theorem SR.mk_no (i : Nat) (t : T) (p : Nat) : SR (.no p) (i, false) t (p, true) := by simp [SR]
theorem nd_bad (ws : List W3) (i : Nat) (s : ByteArray) : nd ws (i, true) s = (i, true) := by simp [nd, tk]
theorem nd_good (ws : List W3) (i : Nat) (s : ByteArray) : nd ws (i, false) s = if isW ws i s then (i + 1, false) else (i, true) := by simp [nd, tk]
end Go.Proofs.YthccohemcagkcaaGreatDoor
namespace Go.Proofs.YthccohemcagkcaaGreatDoor
open Go.RowKit
open Pl

theorem cnts_app (p q : List T) : cnts (p ++ q) = cnts p + cnts q := by
  induction p with
  | nil => simp [cnts]
  | cons x r ih => simp only [List.cons_append, cnts, ih]; omega
def Cn (ws : List W3) (f : Nat) : Prop := (∀ i t j, mOne ws f i = .ok t j → cnt t + i ≤ j) ∧ (∀ i t j, mTerm ws f i = .ok t j → cnt t + i ≤ j) ∧
  (∀ x i t j, mTermL ws f x i = .ok t j → cnt t + i ≤ cnt x + j) ∧ (∀ i t j, mExpr ws f i = .ok t j → cnt t + i ≤ j) ∧ (∀ x i t j, mExprL ws f x i = .ok t j → cnt t + i ≤ cnt x + j)
theorem cn_one {ws : List W3} {f : Nat} (ih : Cn ws f) {i : Nat} {t : T} {j : Nat} (h : mOne ws (f + 1) i = .ok t j) : cnt t + i ≤ j := by
  obtain ⟨a1, a2, a3, a4, a5⟩ := ih
  simp only [mOne] at h
  split at h
  · obtain ⟨x, k, h1, h2⟩ := then_ok h
    have := a1 _ _ _ h1
    obtain ⟨rfl, rfl⟩ := ok_inj h2
    simp only [cnt, cnts]; omega
  · split at h
    · obtain ⟨x, k, h1, h2⟩ := then_ok h
      obtain ⟨h3, h4⟩ := want_ok h2
      have := a4 _ _ _ h1
      obtain ⟨rfl, rfl⟩ := ok_inj h4
      omega
    · split at h
      · obtain ⟨g1, h⟩ := want_ok h
        obtain ⟨g2, h⟩ := wantK_ok h
        obtain ⟨g3, h⟩ := want_ok h
        obtain ⟨rfl, rfl⟩ := ok_inj h
        simp only [cnt, cnts]; omega
      · split at h
        · obtain ⟨rfl, rfl⟩ := ok_inj h
          simp only [cnt, cnts]; omega
        · obtain ⟨g, h⟩ := wantK_ok h
          split at h
          · obtain ⟨x, k, h1, h2⟩ := then_ok h
            obtain ⟨h3, h4⟩ := want_ok h2
            have := a4 _ _ _ h1
            obtain ⟨rfl, rfl⟩ := ok_inj h4
            simp only [cnt, cnts]; omega
          · obtain ⟨rfl, rfl⟩ := ok_inj h
            simp only [cnt, cnts]; omega
theorem cn (ws : List W3) (f : Nat) : Cn ws f := by
  induction f with
  | zero => exact ⟨fun _ _ _ h => by simp [mOne] at h, fun _ _ _ h => by simp [mTerm] at h, fun _ _ _ _ h => by simp [mTermL] at h, fun _ _ _ h => by simp [mExpr] at h, fun _ _ _ _ h => by simp [mExprL] at h⟩
  | succ f ih =>
    have ih' := ih
    obtain ⟨a1, a2, a3, a4, a5⟩ := ih
    refine ⟨fun i t j h => cn_one ih' h, fun i t j h => ?_, fun x i t j h => ?_, fun i t j h => ?_, fun x i t j h => ?_⟩
    · simp only [mTerm] at h
      obtain ⟨x, k, h1, h2⟩ := then_ok h
      have q := a1 _ _ _ h1
      have := a3 _ _ _ _ h2
      omega
    · simp only [mTermL] at h
      split at h
      · obtain ⟨y, k, h1, h2⟩ := then_ok h
        have q := a1 _ _ _ h1
        have := a3 _ _ _ _ h2
        simp only [cnt, cnts] at this; omega
      · obtain ⟨rfl, rfl⟩ := ok_inj h
        omega
    · simp only [mExpr] at h
      obtain ⟨x, k, h1, h2⟩ := then_ok h
      have q := a2 _ _ _ h1
      have := a5 _ _ _ _ h2
      omega
    · simp only [mExprL] at h
      split at h
      · obtain ⟨y, k, h1, h2⟩ := then_ok h
        have q := a2 _ _ _ h1
        have := a5 _ _ _ _ h2
        simp only [cnt, cnts] at this; omega
      · split at h
        · obtain ⟨y, k, h1, h2⟩ := then_ok h
          have q := a2 _ _ _ h1
          have := a5 _ _ _ _ h2
          simp only [cnt, cnts] at this; omega
        · obtain ⟨rfl, rfl⟩ := ok_inj h
          omega
theorem cn_cond {ws : List W3} {f i : Nat} {t : T} {j : Nat} (h : mCond ws f i = .ok t j) : cnt t + i ≤ j := by
  unfold mCond at h
  obtain ⟨x, k, h1, h2⟩ := then_ok h
  have q := (cn ws f).2.2.2.1 _ _ _ h1
  split at h2
  · cases h2
  · obtain ⟨y, k2, h3, h4⟩ := then_ok h2
    have q2 := (cn ws f).2.2.2.1 _ _ _ h3
    obtain ⟨rfl, rfl⟩ := ok_inj h4
    simp only [cnt, cnts]; omega
theorem cn_short {ws : List W3} {f i : Nat} {t : T} {j : Nat} (h : mShort ws f i = .ok t j) : cnt t + i ≤ j := by
  unfold mShort at h
  have ax := (cn ws f).2.2.2.1
  split at h
  · obtain ⟨g, h⟩ := wantK_ok h
    obtain ⟨rfl, rfl⟩ := ok_inj h
    simp only [cnt, cnts]; omega
  · split at h
    · obtain ⟨x, k, h1, h2⟩ := then_ok h
      have := cn_cond h1
      obtain ⟨rfl, rfl⟩ := ok_inj h2
      simp only [cnt, cnts]; omega
    · split at h
      · obtain ⟨rfl, rfl⟩ := ok_inj h
        simp only [cnt, cnts]; omega
      · split at h
        · obtain ⟨rfl, rfl⟩ := ok_inj h
          simp only [cnt, cnts]; omega
        · obtain ⟨g, h⟩ := wantK_ok h
          split at h
          · obtain ⟨x, k, h1, h2⟩ := then_ok h
            obtain ⟨h3, h4⟩ := want_ok h2
            obtain ⟨h5, h6⟩ := want_ok h4
            obtain ⟨y, k2, h7, h8⟩ := then_ok h6
            have := ax _ _ _ h1
            have := ax _ _ _ h7
            obtain ⟨rfl, rfl⟩ := ok_inj h8
            simp only [cnt, cnts]; omega
          · obtain ⟨h5, h6⟩ := want_ok h
            obtain ⟨y, k2, h7, h8⟩ := then_ok h6
            have := ax _ _ _ h7
            obtain ⟨rfl, rfl⟩ := ok_inj h8
            simp only [cnt, cnts]; omega
def CnS (ws : List W3) (F f : Nat) : Prop := (∀ i t j, mStmt ws F f i = .ok t j → cnt t + i ≤ j) ∧ (∀ i t j, mBlock ws F f i = .ok t j → cnt t + i + 1 ≤ j) ∧ (∀ acc i t j, mList ws F f acc i = .ok t j → cnt t + i ≤ cnts acc + j)
theorem cnS (ws : List W3) (F f : Nat) : CnS ws F f := by
  induction f with
  | zero => exact ⟨fun _ _ _ h => by simp [mStmt] at h, fun _ _ _ h => by simp [mBlock] at h, fun _ _ _ _ h => by simp [mList] at h⟩
  | succ f ih =>
    obtain ⟨a1, a2, a3⟩ := ih
    have ax := (cn ws F).2.2.2.1
    refine ⟨fun i t j h => ?_, fun i t j h => ?_, fun acc i t j h => ?_⟩
    · simp only [mStmt] at h
      split at h
      · obtain ⟨x, k, h1, h2⟩ := then_ok h
        obtain ⟨y, k2, h3, h4⟩ := then_ok h2
        have := cn_cond h1
        have := a2 _ _ _ h3
        split at h4
        · obtain ⟨z, k3, h5, h6⟩ := then_ok h4
          have := a2 _ _ _ h5
          obtain ⟨rfl, rfl⟩ := ok_inj h6
          simp only [cnt, cnts]; omega
        · obtain ⟨rfl, rfl⟩ := ok_inj h4
          simp only [cnt, cnts]; omega
      · split at h
        · obtain ⟨x, k, h1, h2⟩ := then_ok h
          obtain ⟨y, k2, h3, h4⟩ := then_ok h2
          have := cn_cond h1
          have := a2 _ _ _ h3
          obtain ⟨rfl, rfl⟩ := ok_inj h4
          simp only [cnt, cnts]; omega
        · split at h
          · obtain ⟨_, h⟩ := wantK_ok h
            obtain ⟨_, h⟩ := want_ok h
            obtain ⟨x, k, h1, h2⟩ := then_ok h
            obtain ⟨_, h2⟩ := want_ok h2
            obtain ⟨y, k2, h3, h4⟩ := then_ok h2
            obtain ⟨z, k3, h5, h6⟩ := then_ok h4
            have := ax _ _ _ h1
            have := ax _ _ _ h3
            have := a2 _ _ _ h5
            obtain ⟨rfl, rfl⟩ := ok_inj h6
            simp only [cnt, cnts]; omega
          · obtain ⟨x, k, h1, h2⟩ := then_ok h
            obtain ⟨h3, h4⟩ := want_ok h2
            have := cn_short h1
            obtain ⟨rfl, rfl⟩ := ok_inj h4
            omega
    · simp only [mBlock] at h
      obtain ⟨g, h⟩ := want_ok h
      have := a3 _ _ _ _ h
      simp only [cnts] at this; omega
    · simp only [mList] at h
      split at h
      · obtain ⟨rfl, rfl⟩ := ok_inj h
        simp only [cnt]; omega
      · obtain ⟨x, k, h1, h2⟩ := then_ok h
        have := a1 _ _ _ h1
        have := a3 _ _ _ _ h2
        rw [cnts_app] at this
        simp only [cnts] at this; omega
theorem cn_decl {ws : List W3} {i : Nat} {t : T} {j : Nat} (h : mDecl ws i = .ok t j) : cnt t + i ≤ j := by
  unfold mDecl at h
  split at h
  · obtain ⟨_, h⟩ := wantK_ok h
    obtain ⟨g, h⟩ := want_ok h
    obtain ⟨rfl, rfl⟩ := ok_inj h
    simp only [cnt, cnts]; omega
  · obtain ⟨_, h⟩ := want_ok h
    obtain ⟨_, h⟩ := wantK_ok h
    obtain ⟨_, h⟩ := want_ok h
    split at h
    · obtain ⟨_, h⟩ := want_ok h
      obtain ⟨g, h⟩ := want_ok h
      obtain ⟨rfl, rfl⟩ := ok_inj h
      simp only [cnt, cnts]; omega
    · obtain ⟨_, h⟩ := wantK_ok h
      obtain ⟨_, h⟩ := want_ok h
      obtain ⟨g, h⟩ := want_ok h
      obtain ⟨rfl, rfl⟩ := ok_inj h
      simp only [cnt, cnts]; omega
theorem cn_all {ws : List W3} {F : Nat} {ds : List T} (f : Nat) : ∀ (acc : List T) (i : Nat) (t : T) (j : Nat), i ≤ ws.length → mAll ws F ds f acc i = .ok t j → cnt t + i ≤ 2 + cnts ds + cnts acc + ws.length := by
  induction f with
  | zero => intro acc i t j hi h; simp [mAll] at h
  | succ f ih =>
    intro acc i t j hi h
    simp only [mAll] at h
    split at h
    · obtain ⟨x, k, h1, h2⟩ := then_ok h
      have := (cnS ws F F).1 _ _ _ h1
      have q := (advS ws F F).1 _ _ _ h1
      have := ih _ _ _ _ q.2 h2
      rw [cnts_app] at this
      simp only [cnts] at this
      omega
    · obtain ⟨rfl, rfl⟩ := ok_inj h
      simp only [cnt, cnts_app, cnts]
      omega
theorem cn_prog {ws : List W3} {F : Nat} (f : Nat) : ∀ (ds : List T) (i : Nat) (t : T) (j : Nat), i ≤ ws.length → mProg ws F f ds i = .ok t j → cnt t + i ≤ 2 + cnts ds + ws.length := by
  induction f with
  | zero => intro ds i t j hi h; simp [mProg] at h
  | succ f ih =>
    intro ds i t j hi h
    simp only [mProg] at h
    split at h
    · obtain ⟨x, k, h1, h2⟩ := then_ok h
      have := cn_decl h1
      have q := adv_decl h1
      have := ih _ _ _ _ q.2 h2
      rw [cnts_app] at this
      simp only [cnts] at this
      omega
    · have := cn_all F _ _ _ _ hi h
      simp only [cnts] at this
      omega
end Go.Proofs.YthccohemcagkcaaGreatDoor
