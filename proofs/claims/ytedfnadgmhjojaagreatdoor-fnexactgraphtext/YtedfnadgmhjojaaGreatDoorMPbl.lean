/-
  CONTRACTS of the specification's ProgOk and Print.
  CONTRACTS of the printer's indent; a printer that goes further in.
  CONTRACTS of the printer's lines and block.
-/
import Derived.Test.YtedfnadgmhjojaaGreatDoorMSlnc
import Derived.Test.YtedfnadgmhjojaaGreatDoorMPback
import Derived.Test.YtedfnadgmhjojaaGreatDoorMSpars
import Derived.Test.YtedfnadgmhjojaaGreatDoorMPexd
import Derived.Test.YtedfnadgmhjojaaGreatDoorMGroveb
namespace Go.Proofs.YtedfnadgmhjojaaGreatDoor
open Go.RowKit
open Pl

theorem sEx_ok (t : T) : SEx t := by
 refine T.induct ?_ t
 intro k s m kk IH a c w hg
 obtain ⟨hs, sh⟩ := good_shape hg
 have go : SEx (.node k s m kk) := by
  cases sh with
  | num h hk h0 h1 =>
    subst h hk
    obtain ⟨n, hn⟩ : ∃ n : Nat, m = n := ⟨m.toNat, by omega⟩
    subst hn
    exact sEx_num s n (by omega)
  | var h hk => subst h hk; exact sEx_var s m
  | len h hk => subst h hk; exact sEx_len s m
  | cell h x hk hx => subst h hk; exact sEx_cell s m x (IH x (by simp)) hx
  | neg h x hk hx => subst h hk; exact sEx_neg s m x (IH x (by simp)) hx
  | pair h x y hk hx hy =>
    subst hk
    rcases h with rfl | rfl | rfl
    ·exact sEx_pair6 s m x y (IH x (by simp)) (IH y (by simp)) hx hy
    ·exact sEx_pair7 s m x y (IH x (by simp)) (IH y (by simp)) hx hy
    ·exact sEx_pair8 s m x y (IH x (by simp)) (IH y (by simp)) hx hy
  | cond h x y hk hx hy => subst hk; exact sEx_cond k (k - 11).toNat (by omega) (by omega) s m x y (IH x (by simp)) (IH y (by simp)) hx hy
 exact go a c w hg

def textP (t : T) : ByteArray := lnS t ⟨#[]⟩
/-- A tree that is a program. -/
def okP (t : T) : Bool := decide (kindT t = 40) && fitsS t && decide (textP t ≠ ⟨#[]⟩) && decide ((wordsI (textP t)).2.1 = 0)
def printP (t : T) : ByteArray := if okP t then textP t else ⟨#[]⟩
theorem words_long {s : ByteArray} (h : 4000 < s.size) : (wordsI s).2.1 ≠ 0 := by unfold wordsI; rw [if_pos h]; decide
theorem parse_words {s : ByteArray} (h : (wordsI s).2.1 ≠ 0) : (parseI s).2.1 ≠ 0 := by unfold parseI; rw [if_pos h]; exact h
theorem fits_parts {t : T} (h : fitsS t = true) : cnt t ≤ 500 ∧ dep t ≤ 24 ∧ formedT t = true := by
 unfold fitsS at h
 simp at h
 exact ⟨h.1.1, h.1.2, h.2⟩
theorem parse_code {t : T} (hk : kindT t = 40) (hf : fitsS t = true) : (decide ((parseI (textP t)).2.1 = 0)) = decide ((wordsI (textP t)).2.1 = 0) := by
 obtain ⟨f1, f2, f3⟩ := fits_parts hf
 obtain ⟨k, s, m, kk⟩ := t
 have hk' : k = 40 := hk
 subst hk'
 by_cases hw : (wordsI (textP (.node 40 s m kk))).2.1 = 0
 ·rw [decide_eq_true hw]
  unfold textP at hw ⊢
  rw [print_parse f3 f1 f2 hw]
  rfl
 ·rw [decide_eq_false hw, decide_eq_false (parse_words hw)]
set_option maxRecDepth 100000 in
set_option maxHeartbeats 4000000 in
theorem sProgOk_any (k : Int) (s : ByteArray) (m : Int) (kk : List T) (a : Option Addr) (c : Nat) (w : World) (hs : s.size ≤ maxLen) (hn : kk.length ≤ maxLen) (hc : cnt (.node k s m kk) ≤ 2097152) (hk : Kids w 0 a kk) :
    Calls Tryz.prog 27 #[.agg #[.int .i64 k, .string s, .int .i64 m, .slice a kk.length c]] w fun e w' => e = .returned (.bool (okP (.node k s m kk))) ∧ Below w.heap.size w w' := by
 have HF := mkHid (fun W (hW : Below w.heap.size w W) => sFits_ok k s m kk a c W hs hn hc (hk.below hW))
 have HK := mkHid hk
 have B0 := mkHid ((Below.refl w.heap.size w).alloc (Nat.le_refl _) (.cells #[.int .i64 k, .string s, .int .i64 m, .slice a kk.length c] 38))
 have F0 := mkHid (Four.new w k s m a kk.length c 38)
 by_cases hk0 : k = 40
 ·subst hk0
  have HP := mkHid (show okP (.node 40 s m kk) = (fitsS (.node 40 s m kk) && decide (textP (.node 40 s m kk) ≠ ⟨#[]⟩) && decide ((wordsI (textP (.node 40 s m kk))).2.1 = 0)) from by unfold okP; rw [show kindT (.node 40 s m kk) = 40 from rfl]; simp)
  have HC := mkHid (fun h => parse_code (t := .node 40 s m kk) rfl h)
  have HL := mkHid (fun (h : fitsS (.node 40 s m kk) = true) W (hW : Below w.heap.size w W) => sLn_all (.node 40 s m kk) (.inr (.inr (.inr ⟨(fits_parts h).2.2, rfl⟩))) (fun e _ => sEx_ok e) ⟨#[]⟩ a c W (.inr (.inr (.inr ⟨(fits_parts h).2.2, rfl⟩))) (fits_parts h).1 (by have := (fits_parts h).2.1; show 0 + _ ≤ 1000; omega) (hk.below hW))
  have HZ := mkHid (fun (h : fitsS (.node 40 s m kk) = true) => show (textP (.node 40 s m kk)).size ≤ 1500000000 from by
   have h1 := ln_size (.node 40 s m kk) (.inr (.inr (.inr ⟨(fits_parts h).2.2, rfl⟩))) ⟨#[]⟩ (by have := (fits_parts h).2.1; show 0 + _ ≤ 1000; omega)
   have := (fits_parts h).1
   unfold textP
   omega)
  change Hid (∀ (h : fitsS (.node 40 s m kk) = true) W (hW : Below w.heap.size w W), Calls Tryz.prog 30 #[.agg #[.int .i64 40, .string s, .int .i64 m, .slice a kk.length c], .string ⟨#[]⟩] W fun e w' => e = .returned (.string (textP (.node 40 s m kk))) ∧ Below W.heap.size W w') at HL
  generalize textP (.node 40 s m kk) = t at HP HC HL HZ
  generalize fitsS (.node 40 s m kk) = f at HF HP HC HL HZ
  generalize okP (.node 40 s m kk) = R at HP ⊢
  clear hs hn hc hk
  obtain ⟨p0, p1, p2, p3⟩ := F0.out
  go_enter Tryz.func27, Tryz.ntmps27
  go_wp2_with fail
  refine (HF.out _ B0.out).mono ?_
  rintro e w1 ⟨rfl, hb1⟩
  have B1 := mkHid (below_step B0.out hb1)
  have F1 := mkHid (F0.out.below hb1)
  clear hb1 B0 F0 p0 p1 p2 p3
  cases f with
  | false =>
    have HR := mkHid (show R = false by rw [HP.out]; rfl)
    go_wp2
    go_ret
    exact ⟨ret_bool HR.out.symm, B1.out⟩
  | true =>
    obtain ⟨p0, p1, p2, p3⟩ := F1.out
    have hz := HZ.out rfl
    have HR := mkHid (show R = (decide (t ≠ ⟨#[]⟩) && decide ((wordsI t).2.1 = 0)) by rw [HP.out]; simp)
    have HQ := mkHid (HC.out rfl)
    have H1 := mkHid (HL.out rfl)
    clear HP HC HL HZ
    go_wp2_with fail
    refine (H1.out _ B1.out).mono ?_
    rintro e w2 ⟨rfl, hb2⟩
    have B2 := mkHid (below_step B1.out hb2)
    clear hb2 B1 F1 p0 p1 p2 p3 H1
    by_cases he : t = ⟨#[]⟩
    ·subst he
     have HR2 := mkHid (show R = false by rw [HR.out]; rfl)
     go_wp2
     go_ret
     exact ⟨ret_bool HR2.out.symm, B2.out⟩
    ·have he2 : (t.toList == []) = false := by rw [str_is]; exact decide_eq_false he
     have HE := mkHid he
     clear he
     by_cases hl : 4000 < t.size
     ·have hl2 : decide ((4000 : Int) < (t.size : Int)) = true := by simp; omega
      have HR2 := mkHid (show R = false by rw [HR.out, decide_eq_false (words_long hl)]; simp)
      go_wp2
      go_ret
      exact ⟨ret_bool HR2.out.symm, B2.out⟩
     ·have hl2 : decide ((4000 : Int) < (t.size : Int)) = false := by simp; omega
      have HS := mkHid (fun W => sParse_any t W (by unfold maxLen; omega))
      have HR2 := mkHid (show R = decide ((parseI t).2.1 = 0) by rw [HR.out, HQ.out, decide_eq_true (show t ≠ ⟨#[]⟩ from HE.out)]; simp)
      clear hl HR HQ
      go_wp2_with fail
      refine (HS.out _).mono ?_
      rintro e w3 ⟨x, rfl, _, _, _, hb3⟩
      have B3 := mkHid (below_step B2.out hb3)
      have B4 := mkHid ((B3.out.alloc B3.out.size (.cells x.cells.toArray 38)).alloc (Nat.le_trans B3.out.size (by simp)) (.cells #[.int .i64 (parseI t).2.1, .int .i64 (parseI t).2.2] 75))
      obtain ⟨xk, xs, xm, xa, xc, xkk⟩ := x
      generalize (parseI t).2.1 = cd at HR2 B4 ⊢
      generalize (parseI t).2.2 = ct at B4 ⊢
      simp only [A.val]
      simp only [A.cells] at B4
      clear hb3 B3 HS
      go_wp2
      go_ret
      exact ⟨ret_bool (by rw [HR2.out]; rfl), B4.out⟩
 ·have HP := mkHid (show okP (.node k s m kk) = false from by unfold okP; rw [show kindT (.node k s m kk) = k from rfl]; simp [hk0])
  generalize okP (.node k s m kk) = R at HP ⊢
  have hk1 : (k != 40) = true := by simpa using hk0
  clear hs hn hc hk hk0
  obtain ⟨p0, p1, p2, p3⟩ := F0.out
  go_enter Tryz.func27, Tryz.ntmps27
  go_wp2
  go_ret
  exact ⟨ret_bool HP.out.symm, B0.out⟩
end Go.Proofs.YtedfnadgmhjojaaGreatDoor
namespace Go.Proofs.YtedfnadgmhjojaaGreatDoor
open Go.RowKit
open Pl

def padL (n : Nat) : List UInt8 := List.replicate (2 * n) 32
def padB (n : Nat) : ByteArray := ⟨(padL n).toArray⟩
theorem padL_succ (n : Nat) : padL (n + 1) = padL n ++ [32, 32] := by
 unfold padL
 rw [show 2 * (n + 1) = 2 * n + 2 by omega, ← List.replicate_append_replicate]
 rfl
theorem padL_len (n : Nat) : (padL n).length = 2 * n := by unfold padL; simp
theorem padB_list (n : Nat) : (padB n).data.toList = padL n := by unfold padB; simp
theorem padB_succ (n : Nat) : padB (n + 1) = padB n ++ ⟨#[32, 32]⟩ := by
 apply ByteArray.ext
 apply Array.ext'
 rw [padB_list, padL_succ, toL_app, padB_list]
theorem padB_zero : padB 0 = ⟨#[]⟩ := rfl
theorem padB_size (n : Nat) : (padB n).size = 2 * n := by rw [Lib.size_eq, padB_list, padL_len]
theorem IsPr.deep {dp : Int} {B b : Nat} {bs : List Value} {w : World} (h : IsPr dp B b bs w) : w.cell? ⟨b, 2, none⟩ = some (.int .i64 dp) ∧ w.frozen? ⟨b, 2, none⟩ = false := by
 rcases h with ⟨_, v, hb, _⟩ | ⟨_, v, hb, _⟩
 ·exact ⟨by rw [Lib.cell_of_heap hb]; rfl, Lib.frozen_of_heap hb 2⟩
 ·exact ⟨by rw [Lib.cell_of_heap hb]; rfl, Lib.frozen_of_heap hb 2⟩
theorem PrAt.setDeep {dp : Int} {B b : Nat} {p : Value} {bs : List Value} {w : World} (h : PrAt dp B b p bs w) (d2 : Int) : PrAt d2 B b p bs (w.setCell ⟨b, 2, none⟩ (.int .i64 d2)) := by
 obtain ⟨hB, v, hb, hown, hne⟩ := h
 refine ⟨hB, v, ?_, ?_, hne⟩
 ·simp [World.setCell, Array.getElem?_modify, hb]
 ·exact hown.kept (row := some b) ⟨rfl, rfl, rfl, by simp [World.setCell], fun k _ hk => Below.heap_setCell _ _ _ _ (fun e => hk (by simp [e]))⟩ (Or.inr hne)
theorem IsPr.setDeep {dp : Int} {B b : Nat} {bs : List Value} {w : World} (h : IsPr dp B b bs w) (d2 : Int) : IsPr d2 B b bs (w.setCell ⟨b, 2, none⟩ (.int .i64 d2)) := h.elim (fun x => .inl (x.setDeep d2)) (fun x => .inr (x.setDeep d2))
theorem IsPr.ge {dp : Int} {B b : Nat} {bs : List Value} {w : World} (h : IsPr dp B b bs w) : B ≤ b := h.elim (fun x => x.1) (fun x => x.1)
theorem Around.setDeep {W0 : World} {dp : Int} {B b : Nat} {l : List UInt8} {w : World} (h : Around W0 dp B b l w) (d2 : Int) : Around W0 d2 B b l (w.setCell ⟨b, 2, none⟩ (.int .i64 d2)) :=
 ⟨h.pr.setDeep d2, h.old.setCell (p := ⟨b, 2, none⟩) (Nat.le_trans h.lo h.pr.ge) _, h.lo, Nat.le_trans h.hi (by simp [World.setCell]), h.tab⟩
set_option maxRecDepth 100000 in
set_option maxHeartbeats 2000000 in
theorem indent_any (W0 : World) (n : Nat) (B b : Nat) (l : List UInt8) (w : World) (h : Around W0 (n : Int) B b l w) (hn : n ≤ 1000) (hl : l.length + 2 * n ≤ 100000000000000) : Calls Tryz.prog 99 #[.pointer (some ⟨b, 0, none⟩)] w (Wrote (n : Int) B b (l ++ padL n) w) := by
 obtain ⟨d0, _⟩ := h.pr.deep
 have H := mkHid h
 clear h
 go_enter Tryz.func99, Tryz.ntmps99
 go_wp2
 go_loopw [6] (fun i w' => ∃ (j : Nat), j ≤ n ∧ i = .int .i64 j ∧ Around W0 (n : Int) B b (l ++ padL j) w' ∧ Below B w w' ∧ Lib.OthersKept 5 (some b) w w') (fun i _ => n - (intOf i).toNat)
 case atStart => exact ⟨0, Nat.zero_le _, rfl, by simpa [padL] using H.out, Below.refl _ _, Lib.OthersKept.refl _ _ _⟩
 case round =>
  obtain ⟨j, hj, rfl, h1, h2, h3⟩ := hrel
  have H1 := mkHid h1
  have H2 := mkHid h2
  have H3 := mkHid h3
  clear h1 h2 h3
  by_cases hlt : j < n
  ·go_wp2_with fail
   refine (put_new W0 _ B b _ [⟨#[32, 32]⟩] #[.string ⟨#[32, 32]⟩] _ _ rfl H1.out (by rw [List.length_append, padL_len]; simp [cat]; omega) (by simp) rfl).mono ?_
   rintro e w2 ⟨rfl, hp, hb, hk⟩
   have A2 := mkHid (show Around W0 (n : Int) B b (l ++ padL (j + 1)) w2 from by
    rw [padL_succ, ← List.append_assoc]
    exact H1.out.step hp hb)
   have K2 := mkHid (H2.out.trans hb)
   have O2 := mkHid (H3.out.trans hk)
   clear hp hb hk
   go_wp2
   go_roundw
   case rel => exact ⟨j + 1, by omega, by go_num, A2.out, K2.out, O2.out⟩
   case measure => simp [intOf]; omega
  ·have e : j = n := by omega
   subst e
   go_wp2
   go_end0
   exact ⟨rfl, H1.out.pr, H2.out, H3.out⟩
/-- A line without what stands ahead of it and behind it. -/
def inT (t : T) (n : Nat) : List UInt8 := ((lnS t (padB n)).data.toList.drop (2 * n)).dropLast
theorem inT_of {t : T} {n : Nat} {l : List UInt8} (h : (lnS t (padB n)).data.toList = padL n ++ l ++ [10]) : inT t n = l := by
 unfold inT
 rw [h, List.append_assoc, List.drop_append_of_le_length (by rw [padL_len]; exact Nat.le_refl _), List.drop_of_length_le (by rw [padL_len]; exact Nat.le_refl _), List.nil_append, List.dropLast_concat]
def PLn (t : T) : Prop := match t with
 | .node k s m kk => ∀ (W0 : World) (n : Nat) (B b : Nat) (l : List UInt8) (a : Option Addr) (c : Nat) (w : World), cnt t ≤ 500 → 2 * n + 2 * dep t ≤ 1000 → Kids W0 0 a kk → Around W0 (n : Int) B b l w → l.length + (inT t n).length ≤ 100000000000000 →
   Calls Tryz.prog 100 #[.pointer (some ⟨b, 0, none⟩), .agg #[.int .i64 k, .string s, .int .i64 m, .slice a kk.length c]] w (Wrote (n : Int) B b (l ++ inT t n) w)
end Go.Proofs.YtedfnadgmhjojaaGreatDoor
namespace Go.Proofs.YtedfnadgmhjojaaGreatDoor
open Go.RowKit
open Pl

/-- What has one line, or more, of its own. -/
def GoodI (t : T) : Prop := GoodS t ∨ GoodD t
/-- The text of such a thing, taken apart. -/
def Apart (t : T) : Prop := ∀ n : Nat, (lnS t (padB n)).data.toList = padL n ++ inT t n ++ [10]
theorem Apart.size {t : T} (h : Apart t) (n : Nat) : (lnS t (padB n)).size = 2 * n + (inT t n).length + 1 := by
 rw [Lib.size_eq, h n]
 simp [padL_len]
 omega
theorem cat_len (kk : List T) (p : ByteArray) (j : Nat) : (catS ((lnSs kk p).take j)).size ≤ (catS (lnSs kk p)).size := by
 have : lnSs kk p = (lnSs kk p).take j ++ (lnSs kk p).drop j := (List.take_append_drop _ _).symm
 conv => rhs; rw [this]
 rw [catS_app, ByteArray.size_append]
 omega
set_option maxRecDepth 100000 in
set_option maxHeartbeats 4000000 in
theorem lines_of (kk : List T) (b0 o c : Nat) (IH : ∀ t ∈ kk, PLn t ∧ Apart t) (W0 : World) (n : Nat) (B b : Nat) (l : List UInt8) (w : World) (hc : ∀ t ∈ kk, cnt t ≤ 500) (hd : ∀ t ∈ kk, 2 * n + 2 * dep t ≤ 1000) (hn : n ≤ 1000) (hm : kk.length ≤ 1000000) (hk : LiesL W0 0 kk b0 o) (har : Around W0 (n : Int) B b l w)
    (hl : l.length + (catS (lnSs kk (padB n))).size ≤ 100000000000000) : Calls Tryz.prog 70 #[.pointer (some ⟨b, 0, none⟩), .slice (some ⟨b0, o, none⟩) kk.length c] w (Wrote (n : Int) B b (l ++ (catS (lnSs kk (padB n))).data.toList) w) := by
 have HI := mkHid IH
 have HC := mkHid hc
 have HD := mkHid hd
 have HK := mkHid hk
 have HA := mkHid har
 have HL := mkHid hl
 have HG := mkHid (show catS (lnSs kk (padB n)) = catS ((lnSs kk (padB n)).take kk.length) from by rw [List.take_of_length_le (by rw [lnSs_len]; exact Nat.le_refl _)])
 clear IH hc hd hk har hl
 go_enter Tryz.func70, Tryz.ntmps70
 go_wp2
 go_loopw [8] (fun i w' => ∃ (j : Nat), j ≤ kk.length ∧ i = .int .i64 j ∧ Around W0 (n : Int) B b (l ++ (catS ((lnSs kk (padB n)).take j)).data.toList) w' ∧ Below B w w' ∧ Lib.OthersKept 5 (some b) w w') (fun i _ => kk.length - (intOf i).toNat)
 case atStart => exact ⟨0, Nat.zero_le _, rfl, by simpa [catS] using HA.out, Below.refl _ _, Lib.OthersKept.refl _ _ _⟩
 case round =>
  obtain ⟨j, hj, rfl, h1, h2, h3⟩ := hrel
  have H1 := mkHid h1
  have H2 := mkHid h2
  have H3 := mkHid h3
  clear h1 h2 h3 HA
  by_cases hlt : j < kk.length
  ·obtain ⟨x, hx⟩ : ∃ x, kk[j]? = some x := ⟨_, List.getElem?_eq_getElem hlt⟩
   have hxm := List.mem_of_getElem? hx
   have HST := mkHid (cat_step hx (padB n))
   have hap := (HI.out x hxm).2
   have HAP := mkHid (hap n)
   have hsz := hap.size n
   have hbnd : l.length + (catS ((lnSs kk (padB n)).take j)).size + (2 * n + (inT x n).length + 1) ≤ 100000000000000 := by
    have e1 := cat_len kk (padB n) (j + 1)
    rw [HST.out, ByteArray.size_append, hsz] at e1
    have e2 := HL.out
    omega
   have hq : (catS ((lnSs kk (padB n)).take j)).data.toList.length = (catS ((lnSs kk (padB n)).take j)).size := (Lib.size_eq _).symm
   have HX := mkHid (And.intro (HI.out x hxm).1 (And.intro (HC.out x hxm) (HD.out x hxm)))
   obtain ⟨xk, xs, xm, xkk⟩ := x
   obtain ⟨xa, xc, hc0, hc1, hc2, hc3, hs, hkn, hkids⟩ := HK.out.at hx
   have hbw : b0 < W0.heap.size := World.block_lt_of_cell? W0 _ hc0
   have q0 := (H1.out.old.cell (p := ⟨b0, _, none⟩) hbw).trans hc0
   have q1 := (H1.out.old.cell (p := ⟨b0, _, none⟩) hbw).trans hc1
   have q2 := (H1.out.old.cell (p := ⟨b0, _, none⟩) hbw).trans hc2
   have q3 := (H1.out.old.cell (p := ⟨b0, _, none⟩) hbw).trans hc3
   have HKX := mkHid hkids
   have i0 : (0 : Int) ≤ (j : Int) := by omega
   have i1 : (j : Int) < (kk.length : Int) := by omega
   have A1 := mkHid (H1.out.alloc (.cells #[.int .i64 xk, .string xs, .int .i64 xm, .slice xa xkk.length xc] 38))
   have X1 := mkHid (World.heap_alloc_new wr #[.int .i64 xk, .string xs, .int .i64 xm, .slice xa xkk.length xc] 38)
   have hnb : wr.heap.size ≠ b := by have := H1.out.pr.lt; omega
   have K1 := mkHid (H2.out.trans ((Below.refl B wr).alloc H1.out.hi (.cells #[.int .i64 xk, .string xs, .int .i64 xm, .slice xa xkk.length xc] 38)))
   have O1 := mkHid (H3.out.trans ((Lib.OthersKept.refl 5 (some b) wr).alloc (.cells #[.int .i64 xk, .string xs, .int .i64 xm, .slice xa xkk.length xc] 38)))
   clear hx hxm hap hs hkn hkids hc0 hc1 hc2 hc3 hbw H1 H2 H3
   generalize catS ((lnSs kk (padB n)).take j) = Q at HST hbnd hq A1
   go_wp2_with fail
   refine (indent_any W0 n B b _ _ A1.out hn (by rw [List.length_append]; omega)).mono ?_
   rintro e w2 ⟨rfl, hp, hb, hk2⟩
   have A2 := mkHid (A1.out.step hp hb)
   have X2 := mkHid (node_kept X1.out hnb hk2)
   have K2 := mkHid (K1.out.trans hb)
   have O2 := mkHid (O1.out.trans hk2)
   clear hp hb hk2 A1 X1 K1 O1 q0 q1 q2 q3
   obtain ⟨x0, x1, x2, x3, _⟩ := four_of X2.out
   go_wp2_with fail
   refine (HX.out.1 W0 n B b _ xa xc _ HX.out.2.1 HX.out.2.2 HKX.out A2.out (by rw [List.length_append, List.length_append, padL_len]; omega)).mono ?_
   rintro e w3 ⟨rfl, hp, hb, hk2⟩
   have A3 := mkHid (A2.out.step hp hb)
   have K3 := mkHid (K2.out.trans hb)
   have O3 := mkHid (O2.out.trans hk2)
   clear hp hb hk2 A2 X2 K2 O2 x0 x1 x2 x3
   go_wp2_with fail
   refine (put_new W0 _ B b _ [⟨#[10]⟩] #[.string ⟨#[10]⟩] _ _ rfl A3.out (by rw [show (cat [(⟨#[10]⟩ : ByteArray)]).length = 1 from rfl, List.length_append, List.length_append, List.length_append, padL_len]; omega) (by simp) rfl).mono ?_
   rintro e w4 ⟨rfl, hp, hb, hk2⟩
   have A4 := mkHid (show Around W0 (n : Int) B b (l ++ (catS ((lnSs kk (padB n)).take (j + 1))).data.toList) w4 from by
    have := A3.out.step hp hb
    rw [HST.out, toL_app, HAP.out]
    simp only [cat, List.flatMap_cons, List.flatMap_nil, List.append_nil, List.append_assoc] at this ⊢
    exact this)
   have K4 := mkHid (K3.out.trans hb)
   have O4 := mkHid (O3.out.trans hk2)
   clear hp hb hk2 A3 K3 O3
   go_wp2
   go_roundw
   case rel => exact ⟨j + 1, by omega, by go_num, A4.out, K4.out, O4.out⟩
   case measure => simp [intOf]; omega
  ·have e : j = kk.length := by omega
   subst e
   have hp := H1.out.pr
   rw [← HG.out] at hp
   have HP := mkHid hp
   clear hp
   go_wp2
   go_end0
   exact ⟨rfl, HP.out, H2.out, H3.out⟩
set_option maxRecDepth 100000 in
set_option maxHeartbeats 2000000 in
theorem lines_nil (a : Option Addr) (c : Nat) (W0 : World) (n : Nat) (B b : Nat) (l : List UInt8) (w : World) (har : Around W0 (n : Int) B b l w) : Calls Tryz.prog 70 #[.pointer (some ⟨b, 0, none⟩), .slice a 0 c] w (Wrote (n : Int) B b l w) := by
 have HP := mkHid har.pr
 clear har
 go_enter Tryz.func70, Tryz.ntmps70
 go_wp2
 go_loopw [8] (fun i w' => i = .int .i64 0 ∧ w' = w) (fun i _ => 0)
 case atStart => exact ⟨rfl, rfl⟩
 case round =>
  obtain ⟨rfl, rfl⟩ := hrel
  go_wp2
  go_end0
  exact ⟨rfl, HP.out, Below.refl _ _, Lib.OthersKept.refl _ _ _⟩
theorem lines_any (kk : List T) (a : Option Addr) (c : Nat) (IH : ∀ t ∈ kk, PLn t ∧ Apart t) (W0 : World) (n : Nat) (B b : Nat) (l : List UInt8) (w : World) (hc : ∀ t ∈ kk, cnt t ≤ 500) (hd : ∀ t ∈ kk, 2 * n + 2 * dep t ≤ 1000) (hn : n ≤ 1000) (hm : kk.length ≤ 1000000) (hk : Kids W0 0 a kk) (har : Around W0 (n : Int) B b l w)
    (hl : l.length + (catS (lnSs kk (padB n))).size ≤ 100000000000000) : Calls Tryz.prog 70 #[.pointer (some ⟨b, 0, none⟩), .slice a kk.length c] w (Wrote (n : Int) B b (l ++ (catS (lnSs kk (padB n))).data.toList) w) := by
 rcases hk with rfl | ⟨b0, o, rfl, _, hl2⟩
 ·have := lines_nil a c W0 n B b l w har
  simpa [lnSs, catS] using this
 ·exact lines_of kk b0 o c IH W0 n B b l w hc hd hn hm hl2 har hl
set_option maxRecDepth 100000 in
set_option maxHeartbeats 4000000 in
theorem block_any (s : ByteArray) (m : Int) (kk : List T) (a : Option Addr) (c : Nat) (IH : ∀ t ∈ kk, PLn t ∧ Apart t) (W0 : World) (n : Nat) (B b : Nat) (l : List UInt8) (w : World) (hc : ∀ t ∈ kk, cnt t ≤ 500) (hd : ∀ t ∈ kk, 2 * (n + 1) + 2 * dep t ≤ 1000) (hn : n ≤ 900) (hm : kk.length ≤ 1000000) (hk : Kids W0 0 a kk) (har : Around W0 (n : Int) B b l w)
    (hl : l.length + (catS (lnSs kk (padB (n + 1)))).size + 2 * n + 4 ≤ 100000000000000) : Calls Tryz.prog 120 #[.pointer (some ⟨b, 0, none⟩), .agg #[.int .i64 30, .string s, .int .i64 m, .slice a kk.length c]] w (Wrote (n : Int) B b (l ++ ([32, 123, 10] ++ (catS (lnSs kk (padB (n + 1)))).data.toList ++ padL n ++ [125])) w) := by
 have hq : (catS (lnSs kk (padB (n + 1)))).data.toList.length = (catS (lnSs kk (padB (n + 1)))).size := (Lib.size_eq _).symm
 have HLS := mkHid (fun l w har hl => lines_any kk a c IH W0 (n + 1) B b l w hc hd (by omega) hm hk har hl)
 generalize catS (lnSs kk (padB (n + 1))) = Q at hq hl HLS ⊢
 have A1 := mkHid (har.alloc (.cells #[.int .i64 30, .string s, .int .i64 m, .slice a kk.length c] 38))
 have X1 := mkHid (World.heap_alloc_new w #[.int .i64 30, .string s, .int .i64 m, .slice a kk.length c] 38)
 have hnb : w.heap.size ≠ b := by have := har.pr.lt; omega
 have K1 := mkHid ((Below.refl B w).alloc har.hi (.cells #[.int .i64 30, .string s, .int .i64 m, .slice a kk.length c] 38))
 have O1 := mkHid ((Lib.OthersKept.refl 5 (some b) w).alloc (.cells #[.int .i64 30, .string s, .int .i64 m, .slice a kk.length c] 38))
 clear har hk IH hc hd
 go_enter Tryz.func120, Tryz.ntmps120
 go_wp2_with fail
 refine (put_new W0 _ B b _ [⟨#[32, 123, 10]⟩] #[.string ⟨#[32, 123, 10]⟩] _ _ (by simp) A1.out (by simp [cat]; omega) (by simp) rfl).mono ?_
 rintro e w2 ⟨rfl, hp, hb, hk2⟩
 have A2 := mkHid (A1.out.step hp hb)
 have X2 := mkHid (node_kept X1.out hnb hk2)
 have K2 := mkHid (K1.out.trans hb)
 have O2 := mkHid (O1.out.trans hk2)
 obtain ⟨d2, f2⟩ := A2.out.pr.deep
 have B3 := A2.out.setDeep ((n + 1 : Nat) : Int)
 have hcast : ((n + 1 : Nat) : Int) = (n : Int) + 1 := by omega
 have A3 := mkHid B3
 have X3 := mkHid ((Below.heap_setCell w2 ⟨b, 2, none⟩ (.int .i64 ((n + 1 : Nat) : Int)) w.heap.size hnb).trans X2.out)
 have K3 := mkHid (K2.out.setCell (p := ⟨b, 2, none⟩) A2.out.pr.ge (.int .i64 ((n + 1 : Nat) : Int)))
 have O3 := mkHid (O2.out.setCell ⟨b, 2, none⟩ rfl (.int .i64 ((n + 1 : Nat) : Int)))
 obtain ⟨x0, x1, x2, x3, _⟩ := four_of X2.out
 have ne1 : ¬ (b = w.heap.size) := fun e => hnb e.symm
 clear hp hb hk2 A1 X1 K1 O1 B3
 go_wp2_with fail
 rw [← hcast]
 refine (HLS.out _ _ A3.out (by rw [List.length_append]; simp [cat]; omega)).mono ?_
 rintro e w4 ⟨rfl, hp, hb, hk2⟩
 have A4 := mkHid (A3.out.step hp hb)
 have K4 := mkHid (K3.out.trans hb)
 have O4 := mkHid (O3.out.trans hk2)
 obtain ⟨d4, f4⟩ := A4.out.pr.deep
 have A5 := mkHid (A4.out.setDeep (n : Int))
 have K5 := mkHid (K4.out.setCell (p := ⟨b, 2, none⟩) A4.out.pr.ge (.int .i64 (n : Int)))
 have O5 := mkHid (O4.out.setCell ⟨b, 2, none⟩ rfl (.int .i64 (n : Int)))
 have hw1 : IntKind.i64.wrap (((n + 1 : Nat) : Int) - 1) = (n : Int) := by rw [IntKind.wrap_i64]; omega
 clear hp hb hk2 A2 X2 K2 O2 A3 X3 K3 O3 A4 K4 O4 x0 x1 x2 x3 d2 f2 hcast
 go_wp2_with fail
 refine (indent_any W0 n B b _ _ A5.out (by omega) (by rw [List.length_append, List.length_append]; simp [cat]; omega)).mono ?_
 rintro e w6 ⟨rfl, hp, hb, hk2⟩
 have A6 := mkHid (A5.out.step hp hb)
 have K6 := mkHid (K5.out.trans hb)
 have O6 := mkHid (O5.out.trans hk2)
 clear hp hb hk2 A5 K5 O5 d4 f4
 go_wp2_with fail
 refine (put_new W0 _ B b _ [⟨#[125]⟩] #[.string ⟨#[125]⟩] _ _ rfl A6.out (by rw [List.length_append, List.length_append, List.length_append, padL_len]; simp [cat]; omega) (by simp) rfl).mono ?_
 rintro e w7 ⟨rfl, hp, hb, hk2⟩
 have M1 := mkHid (show IsPr (n : Int) B b (Lib.byteCells (l ++ ([32, 123, 10] ++ Q.data.toList ++ padL n ++ [125]))) w7 from by
  have := hp
  simp only [cat, List.flatMap_cons, List.flatMap_nil, List.append_nil, List.append_assoc] at this ⊢
  exact this)
 have M2 := mkHid (K6.out.trans hb)
 have M3 := mkHid (O6.out.trans hk2)
 clear hp hb hk2 A6 K6 O6
 go_wp2
 go_end0
 exact ⟨rfl, M1.out, M2.out, M3.out⟩
end Go.Proofs.YtedfnadgmhjojaaGreatDoor
