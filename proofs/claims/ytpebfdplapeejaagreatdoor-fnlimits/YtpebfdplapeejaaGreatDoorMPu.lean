/-
  THE READING OF A PROGRAM'S WORDS, as plain functions: from a word on, what is read and where it ends, or the word with which it cannot go on.
  PURE: texts just at a limit and one past it: blanks, signs, an array, a chain of minus signs, many statements.
-/
import Derived.Test.YtpebfdplapeejaaGreatDoorMMeet
import Derived.Test.YtpebfdplapeejaaGreatDoorMCount
import Derived.Test.YtpebfdplapeejaaGreatDoorMChn
namespace Go.Proofs.YtpebfdplapeejaaGreatDoor
open Go.RowKit
open Pl

/-- What was read and the place behind it, or the place where it ends. -/
inductive Res where
  | ok (t : T) (j : Nat)
  | no (p : Nat)

def isW (ws : List W3) (i : Nat) (s : ByteArray) : Bool := match ws[i]? with
  | some x => decide (x.s = s)
  | none => false
def kindW (ws : List W3) (i : Nat) : Int := match ws[i]? with
  | some x => x.k
  | none => 0
def textW (ws : List W3) (i : Nat) : ByteArray := match ws[i]? with
  | some x => x.s
  | none => ⟨#[]⟩

/-- The comparing signs. -/
def relI (s : ByteArray) : Int := if s = ⟨#[60]⟩ then 11 else if s = ⟨#[60, 61]⟩ then 12 else if s = ⟨#[62]⟩ then 13 else if s = ⟨#[62, 61]⟩ then 14 else if s = ⟨#[61, 61]⟩ then 15 else if s = ⟨#[33, 61]⟩ then 16 else 0

def nil_ : ByteArray := ⟨#[]⟩
def Res.then_ (r : Res) (f : T → Nat → Res) : Res := match r with
  | .ok t j => f t j
  | .no p => .no p
/-- A word that must stand there. -/
def want (ws : List W3) (j : Nat) (s : ByteArray) (r : Res) : Res := if isW ws j s then r else .no j
def wantK (ws : List W3) (j : Nat) (k : Int) (r : Res) : Res := if kindW ws j = k then r else .no j

mutual
def mOne (ws : List W3) : Nat → Nat → Res
  | 0, i => .no i
  | f + 1, i =>
    if isW ws i ⟨#[45]⟩ then (mOne ws f (i + 1)).then_ fun x j => .ok (.node 5 nil_ 0 [x]) j else
    if isW ws i ⟨#[40]⟩ then (mExpr ws f (i + 1)).then_ fun x j => want ws j ⟨#[41]⟩ (.ok x (j + 1)) else
    if isW ws i ⟨#[108, 101, 110]⟩ then want ws (i + 1) ⟨#[40]⟩ (wantK ws (i + 2) 1 (want ws (i + 3) ⟨#[41]⟩ (.ok (.node 4 (textW ws (i + 2)) 0 []) (i + 4)))) else
    if kindW ws i = 2 then .ok (.node 1 nil_ (numV (textW ws i)) []) (i + 1) else
    wantK ws i 1 (if isW ws (i + 1) ⟨#[91]⟩ then (mExpr ws f (i + 2)).then_ fun x j => want ws j ⟨#[93]⟩ (.ok (.node 3 (textW ws i) 0 [x]) (j + 1)) else
      .ok (.node 2 (textW ws i) 0 []) (i + 1))
def mTerm (ws : List W3) : Nat → Nat → Res
  | 0, i => .no i
  | f + 1, i => (mOne ws f i).then_ fun x j => mTermL ws f x j
def mTermL (ws : List W3) : Nat → T → Nat → Res
  | 0, _, i => .no i
  | f + 1, x, i => if isW ws i ⟨#[42]⟩ then (mOne ws f (i + 1)).then_ fun y j => mTermL ws f (.node 8 nil_ 0 [x, y]) j else .ok x i
def mExpr (ws : List W3) : Nat → Nat → Res
  | 0, i => .no i
  | f + 1, i => (mTerm ws f i).then_ fun x j => mExprL ws f x j
def mExprL (ws : List W3) : Nat → T → Nat → Res
  | 0, _, i => .no i
  | f + 1, x, i => if isW ws i ⟨#[43]⟩ then (mTerm ws f (i + 1)).then_ fun y j => mExprL ws f (.node 6 nil_ 0 [x, y]) j else
    if isW ws i ⟨#[45]⟩ then (mTerm ws f (i + 1)).then_ fun y j => mExprL ws f (.node 7 nil_ 0 [x, y]) j else .ok x i
end
def mCond (ws : List W3) (f i : Nat) : Res := (mExpr ws f i).then_ fun x j =>
  if relI (textW ws j) = 0 then .no j else (mExpr ws f (j + 1)).then_ fun y j2 => .ok (.node (relI (textW ws j)) nil_ 0 [x, y]) j2
def mShort (ws : List W3) (f i : Nat) : Res :=
  if isW ws i ⟨#[114, 101, 97, 100]⟩ then wantK ws (i + 1) 1 (.ok (.node 23 (textW ws (i + 1)) 0 []) (i + 2)) else
  if isW ws i ⟨#[99, 104, 101, 99, 107]⟩ then (mCond ws f (i + 1)).then_ fun x j => .ok (.node 27 nil_ 0 [x]) j else
  if isW ws i ⟨#[115, 107, 105, 112]⟩ then .ok (.node 28 nil_ 0 []) (i + 1) else
  if isW ws i ⟨#[115, 116, 111, 112]⟩ then .ok (.node 29 nil_ 0 []) (i + 1) else
  wantK ws i 1 (if isW ws (i + 1) ⟨#[91]⟩ then (mExpr ws f (i + 2)).then_ fun x j => want ws j ⟨#[93]⟩ (want ws (j + 1) ⟨#[61]⟩ ((mExpr ws f (j + 2)).then_ fun y j2 => .ok (.node 22 (textW ws i) 0 [x, y]) j2)) else
    want ws (i + 1) ⟨#[61]⟩ ((mExpr ws f (i + 2)).then_ fun y j => .ok (.node 21 (textW ws i) 0 [y]) j))
mutual
def mStmt (ws : List W3) (F : Nat) : Nat → Nat → Res
  | 0, i => .no i
  | f + 1, i =>
    if isW ws i ⟨#[105, 102]⟩ then (mCond ws F (i + 1)).then_ fun x j => (mBlock ws F f j).then_ fun y j2 =>
      if isW ws j2 ⟨#[101, 108, 115, 101]⟩ then (mBlock ws F f (j2 + 1)).then_ fun z j3 => .ok (.node 24 nil_ 0 [x, y, z]) j3 else .ok (.node 24 nil_ 0 [x, y, .node 30 nil_ 0 []]) j2 else
    if isW ws i ⟨#[119, 104, 105, 108, 101]⟩ then (mCond ws F (i + 1)).then_ fun x j => (mBlock ws F f j).then_ fun y j2 => .ok (.node 25 nil_ 0 [x, y]) j2 else
    if isW ws i ⟨#[102, 111, 114]⟩ then wantK ws (i + 1) 1 (want ws (i + 2) ⟨#[102, 114, 111, 109]⟩ ((mExpr ws F (i + 3)).then_ fun x j => want ws j ⟨#[116, 111]⟩
      ((mExpr ws F (j + 1)).then_ fun y j2 => (mBlock ws F f j2).then_ fun z j3 => .ok (.node 26 (textW ws (i + 1)) 0 [x, y, z]) j3))) else
    (mShort ws F i).then_ fun x j => want ws j ⟨#[59]⟩ (.ok x (j + 1))
def mBlock (ws : List W3) (F : Nat) : Nat → Nat → Res
  | 0, i => .no i
  | f + 1, i => want ws i ⟨#[123]⟩ (mList ws F f [] (i + 1))
def mList (ws : List W3) (F : Nat) : Nat → List T → Nat → Res
  | 0, _, i => .no i
  | f + 1, acc, i => if isW ws i ⟨#[125]⟩ then .ok (.node 30 nil_ 0 acc) (i + 1) else (mStmt ws F f i).then_ fun x j => mList ws F f (acc ++ [x]) j
end
def mDecl (ws : List W3) (i : Nat) : Res :=
  if isW ws i ⟨#[118, 97, 114]⟩ then wantK ws (i + 1) 1 (want ws (i + 2) ⟨#[59]⟩ (.ok (.node 31 (textW ws (i + 1)) 0 []) (i + 3))) else
  want ws i ⟨#[97, 114, 114, 97, 121]⟩ (wantK ws (i + 1) 1 (want ws (i + 2) ⟨#[91]⟩ (
    if isW ws (i + 3) ⟨#[63]⟩ then want ws (i + 4) ⟨#[93]⟩ (want ws (i + 5) ⟨#[59]⟩ (.ok (.node 32 (textW ws (i + 1)) (-1) []) (i + 6))) else
    wantK ws (i + 3) 2 (want ws (i + 4) ⟨#[93]⟩ (want ws (i + 5) ⟨#[59]⟩ (.ok (.node 32 (textW ws (i + 1)) (numV (textW ws (i + 3))) []) (i + 6)))))))
def mAll (ws : List W3) (F : Nat) (ds : List T) : Nat → List T → Nat → Res
  | 0, _, i => .no i
  | f + 1, acc, i => if i < ws.length then (mStmt ws F F i).then_ fun x j => mAll ws F ds f (acc ++ [x]) j else .ok (.node 40 nil_ 0 (ds ++ [.node 30 nil_ 0 acc])) i
def mProg (ws : List W3) (F : Nat) : Nat → List T → Nat → Res
  | 0, _, i => .no i
  | f + 1, ds, i => if isW ws i ⟨#[118, 97, 114]⟩ || isW ws i ⟨#[97, 114, 114, 97, 121]⟩ then (mDecl ws i).then_ fun x j => mProg ws F f (ds ++ [x]) j else mAll ws F ds F [] i

/-- Words as they come out of a text. -/
def WsOk (ws : List W3) : Prop := ∀ x ∈ ws, kindI x.s = x.k ∧ x.k ≠ 0
end Go.Proofs.YtpebfdplapeejaaGreatDoor
namespace Go.Proofs.YtpebfdplapeejaaGreatDoor
open Go.RowKit
open Pl

/-- A stretch again and again. -/
def rep : Nat → List UInt8 → List UInt8
  | 0, _ => []
  | n + 1, l => l ++ rep n l
theorem rep_len (n : Nat) (l : List UInt8) : (rep n l).length = n * l.length := by
  induction n with
  | zero => simp [rep]
  | succ n ih => simp only [rep, List.length_append, ih, Nat.succ_mul]; omega
theorem rep_snoc (n : Nat) (l : List UInt8) : rep n l ++ l = rep (n + 1) l := by
  induction n with
  | zero => simp [rep]
  | succ n ih => rw [show rep (n + 1) l = l ++ rep n l from rfl, List.append_assoc, ih]; rfl
theorem rep_split (k n : Nat) (l : List UInt8) : rep (k + n) l = rep k l ++ rep n l := by
  induction k with
  | zero => simp [rep]
  | succ k ih => rw [show k + 1 + n = (k + n) + 1 by omega]; simp only [rep]; rw [ih, List.append_assoc]
theorem mk_size (l : List UInt8) : (ByteArray.mk l.toArray).size = l.length := by simp [ByteArray.size]
theorem mk_list (l : List UInt8) : (ByteArray.mk l.toArray).data.toList = l := by simp
/-- A text that is too long. -/
theorem words_long' {s : ByteArray} (h : 4000 < s.size) : wordsI s = ([], 1, 0) := by unfold wordsI; rw [if_pos h]
theorem byt_blank (n j : Nat) (h : j < n) : byt ⟨(rep n [32]).toArray⟩ j = 32 := by
  obtain ⟨m, rfl⟩ : ∃ m, n = j + (m + 1) := ⟨n - j - 1, by omega⟩
  have hl := rep_len j [32]
  simp only [List.length_singleton, Nat.mul_one] at hl
  rw [byt_list, mk_list, rep_split, List.getD_eq_getElem?_getD, List.getElem?_append_right (by omega), hl, Nat.sub_self]
  rfl
theorem skip_blanks (n d j : Nat) (h : j + d = n) : skipI ⟨(rep n [32]).toArray⟩ j = n := by
  have hz : (ByteArray.mk (rep n [32]).toArray).size = n := by rw [mk_size, rep_len]; simp
  induction d generalizing j with
  | zero => rw [skip_end (by omega)]; omega
  | succ d ih =>
    rw [skip_blank (by omega) (by unfold blankB; rw [byt_blank n j (by omega)]; rfl)]
    exact ih (j + 1) (by omega)
theorem words_blank {n : Nat} (h : n ≤ 4000) : wordsI ⟨(rep n [32]).toArray⟩ = ([], 0, 0) := by
  have hz : (ByteArray.mk (rep n [32]).toArray).size = n := by rw [mk_size, rep_len]; simp
  unfold wordsI
  rw [if_neg (by omega), skip_blanks n n 0 (by omega), scan_end (by omega)]

/-- Signs with a blank behind each. -/
theorem minus_step (n k : Nat) (h : k < n) : (2 * k < (ByteArray.mk (rep n [45, 32]).toArray).size) ∧ kindI ((ByteArray.mk (rep n [45, 32]).toArray).extract (2 * k) (endI ⟨(rep n [45, 32]).toArray⟩ (2 * k))) ≠ 0 ∧ skipI ⟨(rep n [45, 32]).toArray⟩ (2 * k) = 2 * k ∧ skipI ⟨(rep n [45, 32]).toArray⟩ (endI ⟨(rep n [45, 32]).toArray⟩ (2 * k)) = skipI ⟨(rep n [45, 32]).toArray⟩ (2 * (k + 1)) := by
  obtain ⟨m, rfl⟩ : ∃ m, n = k + (m + 1) := ⟨n - k - 1, by omega⟩
  have hT : (ByteArray.mk (rep (k + (m + 1)) [45, 32]).toArray).data.toList = rep k [45, 32] ++ ((ByteArray.mk #[45]).data.toList ++ (32 :: rep m [45, 32])) := by
    rw [mk_list, rep_split]; rfl
  have hl : (rep k [45, 32]).length = 2 * k := by rw [rep_len]; simp; omega
  have hk : kindI ⟨#[45]⟩ ≠ 0 := by decide +kernel
  obtain ⟨p1, p2, p3, p4⟩ := end_of hT hk (fun _ => .inr ⟨32, _, rfl, by decide +kernel⟩) (fun _ => .inr (.inr ⟨32, _, rfl, by decide +kernel⟩))
  rw [hl] at p1 p2 p3 p4
  refine ⟨p1, by rw [p3]; exact hk, p4, ?_⟩
  rw [p2, show (ByteArray.mk #[45]).size = 1 from rfl]
  have hz : (ByteArray.mk (rep (k + (m + 1)) [45, 32]).toArray).size = 2 * (k + (m + 1)) := by rw [mk_size, rep_len]; simp; omega
  have hb : byt ⟨(rep (k + (m + 1)) [45, 32]).toArray⟩ (2 * k + 1) = 32 := by
    rw [byt_list, hT, List.getD_eq_getElem?_getD, List.getElem?_append_right (by omega), hl, show 2 * k + 1 - 2 * k = 1 by omega]
    rfl
  rw [skip_blank (by omega) (by unfold blankB; rw [hb]; rfl), show 2 * (k + 1) = 2 * k + 1 + 1 by omega]
theorem minus_scan (n d k : Nat) (h : k + d = n) (acc : List W3) (ha : acc.length = k) (hk : k ≤ 1500) :
    (scanI ⟨(rep n [45, 32]).toArray⟩ (skipI ⟨(rep n [45, 32]).toArray⟩ (2 * k)) acc).1.length = (if n ≤ 1500 then n else 0) ∧ (scanI ⟨(rep n [45, 32]).toArray⟩ (skipI ⟨(rep n [45, 32]).toArray⟩ (2 * k)) acc).2.1 = if n ≤ 1500 then 0 else 3 := by
  have hz : (ByteArray.mk (rep n [45, 32]).toArray).size = 2 * n := by rw [mk_size, rep_len]; simp; omega
  induction d generalizing k acc with
  | zero =>
    rw [skip_end (by omega), scan_end (by omega), if_pos (by omega), if_pos (by omega)]
    exact ⟨by show acc.length = n; omega, rfl⟩
  | succ d ih =>
    obtain ⟨p1, p2, p3, p4⟩ := minus_step n k (by omega)
    rw [p3]
    by_cases hm : acc.length = 1500
    · rw [scan_many p1 p2 hm, if_neg (by omega), if_neg (by omega)]
      exact ⟨rfl, rfl⟩
    · rw [scan_go p1 p2 hm, p4]
      exact ih (k + 1) (by omega) _ (by simp; omega) (by omega)
theorem words_minus {n : Nat} (h : n ≤ 2000) : (wordsI ⟨(rep n [45, 32]).toArray⟩).1.length = (if n ≤ 1500 then n else 0) ∧ (wordsI ⟨(rep n [45, 32]).toArray⟩).2.1 = if n ≤ 1500 then 0 else 3 := by
  have hz : (ByteArray.mk (rep n [45, 32]).toArray).size = 2 * n := by rw [mk_size, rep_len]; simp; omega
  unfold wordsI
  rw [if_neg (by omega)]
  exact minus_scan n n 0 (by omega) [] rfl (by omega)
/-- A declaration and statements that do nothing. -/
def txS (n : Nat) : List UInt8 := [118, 97, 114, 32, 105, 59, 32] ++ rep n [115, 107, 105, 112, 59, 32]
def toS : Nat → List ByteArray
  | 0 => []
  | n + 1 => toS n ++ [⟨#[115, 107, 105, 112]⟩, ⟨#[59]⟩]
theorem toS_len (n : Nat) : (toS n).length = 2 * n := by
  induction n with
  | zero => rfl
  | succ n ih => simp only [toS, List.length_append, ih, List.length_cons, List.length_nil]; omega
theorem toS_get (n j : Nat) (h : j < n) : (toS n)[2 * j]? = some ⟨#[115, 107, 105, 112]⟩ ∧ (toS n)[2 * j + 1]? = some ⟨#[59]⟩ := by
  induction n with
  | zero => omega
  | succ n ih =>
    have hl := toS_len n
    simp only [toS]
    by_cases e : j < n
    · rw [List.getElem?_append_left (by omega), List.getElem?_append_left (by omega)]
      exact ih e
    · obtain rfl : j = n := by omega
      rw [List.getElem?_append_right (by omega), List.getElem?_append_right (by omega), hl, Nat.sub_self, show 2 * j + 1 - 2 * j = 1 by omega]
      exact ⟨rfl, rfl⟩
def hdS : List ByteArray := [⟨#[118, 97, 114]⟩, ⟨#[105]⟩, ⟨#[59]⟩]
theorem txS_size (n : Nat) : (ByteArray.mk (txS n).toArray).size = 7 + 6 * n := by
  rw [mk_size]; unfold txS; rw [List.length_append, rep_len]; simp; omega
/-- One word within a text, a sign or a blank behind it. -/
theorem scan_one {T : ByteArray} {pre suf : List UInt8} {s : ByteArray} {c : UInt8} (h : T.data.toList = pre ++ (s.data.toList ++ (c :: suf))) (hk : kindI s ≠ 0) (hc : (lowI c.toNat || digI c.toNat) = false ∧ c.toNat ≠ 61) {acc : List W3} (hm : acc.length < 1500) :
    scanI T (skipI T pre.length) acc = scanI T (skipI T (pre.length + s.size)) (acc ++ [⟨kindI s, s, pre.length⟩]) := by
  obtain ⟨p1, p2, p3, p4⟩ := end_of h hk (fun _ => .inr ⟨c, _, rfl, hc.1⟩) (fun _ => .inr (.inr ⟨c, _, rfl, hc.2⟩))
  rw [p4, scan_go p1 (by rw [p3]; exact hk) (by omega), p3, p2]
theorem skip_32 {T : ByteArray} {pre suf : List UInt8} (h : T.data.toList = pre ++ (32 :: suf)) : skipI T pre.length = skipI T (pre.length + 1) := by
  have hl : T.size = pre.length + (1 + suf.length) := by rw [Lib.size_eq, h]; simp; omega
  have hb : byt T pre.length = 32 := by
    rw [byt_list, h, List.getD_eq_getElem?_getD, List.getElem?_append_right (Nat.le_refl _), Nat.sub_self]; rfl
  rw [skip_blank (by omega) (by unfold blankB; rw [hb]; rfl)]
structure AccS (k : Nat) (acc : List W3) : Prop where
  txt : acc.map W3.s = hdS ++ toS k
  kin : ∀ x ∈ acc, kindI x.s = x.k
theorem AccS.len {k : Nat} {acc : List W3} (h : AccS k acc) : acc.length = 3 + 2 * k := by
  have := congrArg List.length h.txt
  rw [List.length_map, List.length_append, toS_len] at this
  exact this
theorem skips_scan (n d k : Nat) (h : k + d = n) (hn : n ≤ 600) (acc : List W3) (ha : AccS k acc) :
    (scanI ⟨(txS n).toArray⟩ (skipI ⟨(txS n).toArray⟩ (7 + 6 * k)) acc).2.1 = 0 ∧ AccS n (scanI ⟨(txS n).toArray⟩ (skipI ⟨(txS n).toArray⟩ (7 + 6 * k)) acc).1 := by
  have hz := txS_size n
  induction d generalizing k acc with
  | zero =>
    obtain rfl : k = n := by omega
    rw [skip_end (by omega), scan_end (by omega)]
    exact ⟨rfl, ha⟩
  | succ d ih =>
    obtain rfl : n = k + (d + 1) := by omega
    have hal := ha.len
    have hT : (ByteArray.mk (txS (k + (d + 1))).toArray).data.toList = txS k ++ ((ByteArray.mk #[115, 107, 105, 112]).data.toList ++ (59 :: 32 :: rep d [115, 107, 105, 112, 59, 32])) := by
      rw [mk_list]; unfold txS; rw [rep_split, List.append_assoc]; rfl
    have hl : (txS k).length = 7 + 6 * k := by have := txS_size k; rw [mk_size] at this; exact this
    have hl2 : (txS k ++ [115, 107, 105, 112]).length = 7 + 6 * k + 4 := by rw [List.length_append, hl]; rfl
    have hl3 : (txS k ++ [115, 107, 105, 112, 59]).length = 7 + 6 * k + 5 := by rw [List.length_append, hl]; rfl
    have e1 := scan_one hT (by decide +kernel) ⟨by decide +kernel, by decide +kernel⟩ (acc := acc) (by omega)
    rw [hl, show (ByteArray.mk #[115, 107, 105, 112]).size = 4 from rfl] at e1
    have hT2 : (ByteArray.mk (txS (k + (d + 1))).toArray).data.toList = (txS k ++ [115, 107, 105, 112]) ++ ((ByteArray.mk #[59]).data.toList ++ (32 :: rep d [115, 107, 105, 112, 59, 32])) := by
      rw [hT, List.append_assoc]; rfl
    have e2 := scan_one hT2 (by decide +kernel) ⟨by decide +kernel, by decide +kernel⟩ (acc := acc ++ [⟨kindI ⟨#[115, 107, 105, 112]⟩, ⟨#[115, 107, 105, 112]⟩, ((7 + 6 * k : Nat) : Int)⟩]) (by simp; omega)
    rw [hl2, show (ByteArray.mk #[59]).size = 1 from rfl] at e2
    have hT3 : (ByteArray.mk (txS (k + (d + 1))).toArray).data.toList = (txS k ++ [115, 107, 105, 112, 59]) ++ (32 :: rep d [115, 107, 105, 112, 59, 32]) := by
      rw [hT, List.append_assoc]; rfl
    have e3 := skip_32 hT3
    rw [hl3] at e3
    rw [e1, e2, show 7 + 6 * k + 4 + 1 = 7 + 6 * k + 5 by omega, e3, show 7 + 6 * k + 5 + 1 = 7 + 6 * (k + 1) by omega]
    refine ih (k + 1) (by omega) _ ⟨?_, fun x hx => ?_⟩
    · rw [List.map_append, List.map_append, ha.txt]
      simp only [toS, List.map_cons, List.map_nil, List.append_assoc]
      rfl
    · simp only [List.mem_append, List.mem_singleton] at hx
      rcases hx with (hx | rfl) | rfl
      · exact ha.kin x hx
      · rfl
      · rfl
theorem words_skips {n : Nat} (hn : n ≤ 600) : (wordsI ⟨(txS n).toArray⟩).2.1 = 0 ∧ AccS n (wordsI ⟨(txS n).toArray⟩).1 := by
  have hz := txS_size n
  have hT : (ByteArray.mk (txS n).toArray).data.toList = [] ++ ((ByteArray.mk #[118, 97, 114]).data.toList ++ (32 :: 105 :: 59 :: 32 :: rep n [115, 107, 105, 112, 59, 32])) := by
    rw [mk_list]; rfl
  have e1 := scan_one hT (by decide +kernel) ⟨by decide +kernel, by decide +kernel⟩ (acc := []) (by simp)
  have hT2 : (ByteArray.mk (txS n).toArray).data.toList = [118, 97, 114] ++ (32 :: 105 :: 59 :: 32 :: rep n [115, 107, 105, 112, 59, 32]) := by rw [mk_list]; rfl
  have e2 := skip_32 hT2
  have hT3 : (ByteArray.mk (txS n).toArray).data.toList = [118, 97, 114, 32] ++ ((ByteArray.mk #[105]).data.toList ++ (59 :: 32 :: rep n [115, 107, 105, 112, 59, 32])) := by rw [mk_list]; rfl
  have e3 := scan_one hT3 (by decide +kernel) ⟨by decide +kernel, by decide +kernel⟩ (acc := [⟨kindI ⟨#[118, 97, 114]⟩, ⟨#[118, 97, 114]⟩, ((0 : Nat) : Int)⟩]) (by simp)
  have hT4 : (ByteArray.mk (txS n).toArray).data.toList = [118, 97, 114, 32, 105] ++ ((ByteArray.mk #[59]).data.toList ++ (32 :: rep n [115, 107, 105, 112, 59, 32])) := by rw [mk_list]; rfl
  have e4 := scan_one hT4 (by decide +kernel) ⟨by decide +kernel, by decide +kernel⟩ (acc := [⟨kindI ⟨#[118, 97, 114]⟩, ⟨#[118, 97, 114]⟩, ((0 : Nat) : Int)⟩] ++ [⟨kindI ⟨#[105]⟩, ⟨#[105]⟩, ((4 : Nat) : Int)⟩]) (by simp)
  have hT5 : (ByteArray.mk (txS n).toArray).data.toList = [118, 97, 114, 32, 105, 59] ++ (32 :: rep n [115, 107, 105, 112, 59, 32]) := by rw [mk_list]; rfl
  have e5 := skip_32 hT5
  have g := skips_scan n n 0 (by omega) hn ([⟨kindI ⟨#[118, 97, 114]⟩, ⟨#[118, 97, 114]⟩, ((0 : Nat) : Int)⟩] ++ [⟨kindI ⟨#[105]⟩, ⟨#[105]⟩, ((4 : Nat) : Int)⟩] ++ [⟨kindI ⟨#[59]⟩, ⟨#[59]⟩, ((5 : Nat) : Int)⟩]) ⟨rfl, fun x hx => by
    simp only [List.mem_append, List.mem_singleton] at hx
    rcases hx with (rfl | rfl) | rfl <;> rfl⟩
  have e : scanI ⟨(txS n).toArray⟩ (skipI ⟨(txS n).toArray⟩ 0) [] = scanI ⟨(txS n).toArray⟩ (skipI ⟨(txS n).toArray⟩ (7 + 6 * 0)) ([⟨kindI ⟨#[118, 97, 114]⟩, ⟨#[118, 97, 114]⟩, ((0 : Nat) : Int)⟩] ++ [⟨kindI ⟨#[105]⟩, ⟨#[105]⟩, ((4 : Nat) : Int)⟩] ++ [⟨kindI ⟨#[59]⟩, ⟨#[59]⟩, ((5 : Nat) : Int)⟩]) := by
    refine e1.trans ?_
    refine (congrArg (fun q => scanI _ q _) e2).trans ?_
    refine e3.trans ?_
    refine e4.trans ?_
    exact congrArg (fun q => scanI _ q _) e5
  unfold wordsI
  rw [if_neg (by omega), e]
  exact g
theorem isW_txt {ws : List W3} {L : List ByteArray} (h : ws.map W3.s = L) (i : Nat) (s : ByteArray) : isW ws i s = (match L[i]? with | some x => decide (x = s) | none => false) := by
  subst h
  unfold isW
  rw [List.getElem?_map]
  cases ws[i]? <;> rfl
def skT : T := .node 28 nil_ 0 []
theorem skip_stmt {n : Nat} {ws : List W3} (h : AccS n ws) (F j : Nat) (hj : j < n) : mStmt ws (F + 1) (F + 1) (3 + 2 * j) = .ok skT (3 + 2 * (j + 1)) := by
  have g0 : ∀ s, isW ws (3 + 2 * j) s = decide ((⟨#[115, 107, 105, 112]⟩ : ByteArray) = s) := fun s => by
    rw [isW_txt h.txt, show 3 + 2 * j = hdS.length + 2 * j from rfl, List.getElem?_append_right (by omega), Nat.add_sub_cancel_left, (toS_get n j hj).1]
  have g1 : isW ws (3 + 2 * j + 1) ⟨#[59]⟩ = true := by
    rw [isW_txt h.txt, show 3 + 2 * j + 1 = hdS.length + (2 * j + 1) from by show 3 + 2 * j + 1 = 3 + (2 * j + 1); omega, List.getElem?_append_right (by omega), Nat.add_sub_cancel_left, (toS_get n j hj).2]
    decide +kernel
  simp only [mStmt, mShort, g0]
  rw [if_neg (by decide +kernel), if_neg (by decide +kernel), if_neg (by decide +kernel), if_neg (by decide +kernel), if_neg (by decide +kernel), if_pos (by decide +kernel)]
  simp only [Res.then_, want, g1, if_true]
  rfl
theorem skips_all {n : Nat} {ws : List W3} (h : AccS n ws) (F d : Nat) (ds acc : List T) (f j : Nat) (hj : j + d = n) (hf : d < f) :
    mAll ws (F + 1) ds f acc (3 + 2 * j) = .ok (.node 40 nil_ 0 (ds ++ [.node 30 nil_ 0 (acc ++ List.replicate d skT)])) (3 + 2 * n) := by
  have hl := h.len
  induction d generalizing j acc f with
  | zero =>
    obtain rfl : j = n := by omega
    obtain ⟨g, rfl⟩ : ∃ g, f = g + 1 := ⟨f - 1, by omega⟩
    simp only [mAll]
    rw [if_neg (by omega), List.replicate_zero, List.append_nil]
  | succ d ih =>
    obtain ⟨g, rfl⟩ : ∃ g, f = g + 1 := ⟨f - 1, by omega⟩
    simp only [mAll]
    rw [if_pos (by omega), skip_stmt h F j (by omega)]
    simp only [Res.then_]
    rw [ih (acc ++ [skT]) g (j + 1) (by omega) (by omega)]
    rw [List.replicate_succ, List.append_assoc]; rfl
def progS (n : Nat) : T := .node 40 nil_ 0 [.node 31 ⟨#[105]⟩ 0 [], .node 30 nil_ 0 (List.replicate n skT)]
theorem skips_prog {n : Nat} {ws : List W3} (h : AccS n ws) (F f : Nat) (hF : n < F + 1) : mProg ws (F + 1) (f + 2) [] 0 = .ok (progS n) (3 + 2 * n) := by
  have g : ∀ i s, i < 3 → isW ws i s = (match hdS[i]? with | some x => decide (x = s) | none => false) := fun i s hi => by
    rw [isW_txt h.txt, List.getElem?_append_left (by exact hi)]
  have k1 : kindW ws 1 = 1 := by
    have hg : (ws.map W3.s)[1]? = some ⟨#[105]⟩ := by rw [h.txt]; rfl
    rw [List.getElem?_map] at hg
    obtain ⟨x, hx, e⟩ := Option.map_eq_some_iff.1 hg
    unfold kindW
    rw [hx]
    show x.k = 1
    rw [← h.kin x (List.mem_of_getElem? hx), e]
    decide +kernel
  have t1 : textW ws 1 = ⟨#[105]⟩ := by
    have hg : (ws.map W3.s)[1]? = some ⟨#[105]⟩ := by rw [h.txt]; rfl
    rw [List.getElem?_map] at hg
    obtain ⟨x, hx, e⟩ := Option.map_eq_some_iff.1 hg
    unfold textW
    rw [hx]
    exact e
  have h3 : isW ws 3 ⟨#[118, 97, 114]⟩ = false ∧ isW ws 3 ⟨#[97, 114, 114, 97, 121]⟩ = false := by
    rw [isW_txt h.txt, isW_txt h.txt, List.getElem?_append_right (by show 3 ≤ 3; omega), show 3 - hdS.length = 0 from rfl]
    cases n with
    | zero => exact ⟨rfl, rfl⟩
    | succ n =>
      rw [(toS_get (n + 1) 0 (by omega)).1]
      exact ⟨by decide +kernel, by decide +kernel⟩
  have g00 : isW ws 0 ⟨#[118, 97, 114]⟩ = true := by rw [g 0 _ (by omega)]; decide +kernel
  simp only [mProg]
  rw [g00, Bool.true_or, if_pos rfl]
  simp only [mDecl]
  rw [g00, if_pos rfl]
  simp only [wantK, k1, if_true, want, t1]
  rw [g 2 _ (by omega), if_pos (by decide +kernel)]
  simp only [Res.then_]
  rw [h3.1, h3.2, Bool.or_self, if_neg (by simp)]
  exact skips_all h F n _ [] (F + 1) 0 (by omega) (by omega)
theorem cnts_skips (n : Nat) : cnts (List.replicate n skT) = n ∧ deps (List.replicate n skT) ≤ 1 := by
  induction n with
  | zero => exact ⟨rfl, Nat.zero_le _⟩
  | succ n ih =>
    rw [List.replicate_succ]
    simp only [cnts, deps, ih.1]
    have h1 : cnt skT = 1 := rfl
    have h2 : dep skT = 1 := rfl
    rw [h1, h2]
    have := ih.2
    exact ⟨by omega, by omega⟩
theorem progS_size (n : Nat) : cnt (progS n) = n + 3 ∧ dep (progS n) ≤ 24 := by
  obtain ⟨h1, h2⟩ := cnts_skips n
  simp only [progS, cnt, cnts, dep, deps, h1]
  omega
end Go.Proofs.YtpebfdplapeejaaGreatDoor
