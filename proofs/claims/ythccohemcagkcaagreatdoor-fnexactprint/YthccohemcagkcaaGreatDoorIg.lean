/-
  CONTRACTS of the specification's ProgOk and Print.
-/
import Derived.Test.YthccohemcagkcaaGreatDoorHr
import Derived.Test.YthccohemcagkcaaGreatDoorIj
import Derived.Test.YthccohemcagkcaaGreatDoorIf
namespace Go.Proofs.YthccohemcagkcaaGreatDoor
open Go.RowKit
open Pl

theorem sEx_ok (t : T) : SEx t := by
  refine T.induct ?_ t
  intro k s m kk IH a c w hg
  obtain ⟨hs, sh⟩ := good_shape hg
  have go : SEx (.node k s m kk) := by
    cases sh with
    | num h hk h0 h1 =>
      subst h hk
      obtain ⟨n, hn⟩ : ∃ n : Nat, m = n := ⟨m.toNat, by omega⟩
      subst hn
      exact sEx_num s n (by omega)
    | var h hk => subst h hk; exact sEx_var s m
    | len h hk => subst h hk; exact sEx_len s m
    | cell h x hk hx => subst h hk; exact sEx_cell s m x (IH x (by simp)) hx
    | neg h x hk hx => subst h hk; exact sEx_neg s m x (IH x (by simp)) hx
    | pair h x y hk hx hy =>
      subst hk
      rcases h with rfl | rfl | rfl
      · exact sEx_pair6 s m x y (IH x (by simp)) (IH y (by simp)) hx hy
      · exact sEx_pair7 s m x y (IH x (by simp)) (IH y (by simp)) hx hy
      · exact sEx_pair8 s m x y (IH x (by simp)) (IH y (by simp)) hx hy
    | cond h x y hk hx hy => subst hk; exact sEx_cond k (k - 11).toNat (by omega) (by omega) s m x y (IH x (by simp)) (IH y (by simp)) hx hy
  exact go a c w hg

def textP (t : T) : ByteArray := lnS t ⟨#[]⟩
/-- A tree that is a program. -/
def okP (t : T) : Bool := decide (kindT t = 40) && fitsS t && decide (textP t ≠ ⟨#[]⟩) && decide ((wordsI (textP t)).2.1 = 0)
def printP (t : T) : ByteArray := if okP t then textP t else ⟨#[]⟩
theorem words_long {s : ByteArray} (h : 4000 < s.size) : (wordsI s).2.1 ≠ 0 := by unfold wordsI; rw [if_pos h]; decide
theorem parse_words {s : ByteArray} (h : (wordsI s).2.1 ≠ 0) : (parseI s).2.1 ≠ 0 := by unfold parseI; rw [if_pos h]; exact h
theorem fits_parts {t : T} (h : fitsS t = true) : cnt t ≤ 500 ∧ dep t ≤ 24 ∧ formedT t = true := by
  unfold fitsS at h
  simp at h
  exact ⟨h.1.1, h.1.2, h.2⟩
theorem parse_code {t : T} (hk : kindT t = 40) (hf : fitsS t = true) : (decide ((parseI (textP t)).2.1 = 0)) = decide ((wordsI (textP t)).2.1 = 0) := by
  obtain ⟨f1, f2, f3⟩ := fits_parts hf
  obtain ⟨k, s, m, kk⟩ := t
  have hk' : k = 40 := hk
  subst hk'
  by_cases hw : (wordsI (textP (.node 40 s m kk))).2.1 = 0
  · rw [decide_eq_true hw]
    unfold textP at hw ⊢
    rw [print_parse f3 f1 f2 hw]
    rfl
  · rw [decide_eq_false hw, decide_eq_false (parse_words hw)]
set_option maxRecDepth 100000 in
set_option maxHeartbeats 4000000 in
theorem sProgOk_any (k : Int) (s : ByteArray) (m : Int) (kk : List T) (a : Option Addr) (c : Nat) (w : World) (hs : s.size ≤ maxLen) (hn : kk.length ≤ maxLen) (hc : cnt (.node k s m kk) ≤ 1048577) (hk : Kids w 0 a kk) :
    Calls Tryz.prog 13 #[.agg #[.int .i64 k, .string s, .int .i64 m, .slice a kk.length c]] w fun e w' => e = .returned (.bool (okP (.node k s m kk))) ∧ Below w.heap.size w w' := by
  have HF := mkHid (fun W (hW : Below w.heap.size w W) => sFits_ok k s m kk a c W hs hn hc (hk.below hW))
  have HK := mkHid hk
  have B0 := mkHid ((Below.refl w.heap.size w).alloc (Nat.le_refl _) (.cells #[.int .i64 k, .string s, .int .i64 m, .slice a kk.length c] 26))
  have F0 := mkHid (Four.new w k s m a kk.length c 26)
  by_cases hk0 : k = 40
  · subst hk0
    have HP := mkHid (show okP (.node 40 s m kk) = (fitsS (.node 40 s m kk) && decide (textP (.node 40 s m kk) ≠ ⟨#[]⟩) && decide ((wordsI (textP (.node 40 s m kk))).2.1 = 0)) from by unfold okP; rw [show kindT (.node 40 s m kk) = 40 from rfl]; simp)
    have HC := mkHid (fun h => parse_code (t := .node 40 s m kk) rfl h)
    have HL := mkHid (fun (h : fitsS (.node 40 s m kk) = true) W (hW : Below w.heap.size w W) => sLn_all (.node 40 s m kk) (.inr (.inr (.inr ⟨(fits_parts h).2.2, rfl⟩))) (fun e _ => sEx_ok e) ⟨#[]⟩ a c W (.inr (.inr (.inr ⟨(fits_parts h).2.2, rfl⟩))) (fits_parts h).1 (by have := (fits_parts h).2.1; show 0 + _ ≤ 1000; omega) (hk.below hW))
    have HZ := mkHid (fun (h : fitsS (.node 40 s m kk) = true) => show (textP (.node 40 s m kk)).size ≤ 1500000000 from by
      have h1 := ln_size (.node 40 s m kk) (.inr (.inr (.inr ⟨(fits_parts h).2.2, rfl⟩))) ⟨#[]⟩ (by have := (fits_parts h).2.1; show 0 + _ ≤ 1000; omega)
      have := (fits_parts h).1
      unfold textP
      omega)
    change Hid (∀ (h : fitsS (.node 40 s m kk) = true) W (hW : Below w.heap.size w W), Calls Tryz.prog 36 #[.agg #[.int .i64 40, .string s, .int .i64 m, .slice a kk.length c], .string ⟨#[]⟩] W fun e w' => e = .returned (.string (textP (.node 40 s m kk))) ∧ Below W.heap.size W w') at HL
    generalize textP (.node 40 s m kk) = t at HP HC HL HZ
    generalize fitsS (.node 40 s m kk) = f at HF HP HC HL HZ
    generalize okP (.node 40 s m kk) = R at HP ⊢
    clear hs hn hc hk
    obtain ⟨p0, p1, p2, p3⟩ := F0.out
    go_enter Tryz.func13, Tryz.ntmps13
    go_wp2_with fail
    refine (HF.out _ B0.out).mono ?_
    rintro e w1 ⟨rfl, hb1⟩
    have B1 := mkHid (below_step B0.out hb1)
    have F1 := mkHid (F0.out.below hb1)
    clear hb1 B0 F0 p0 p1 p2 p3
    cases f with
    | false =>
      have HR := mkHid (show R = false by rw [HP.out]; rfl)
      go_wp2
      go_ret
      exact ⟨ret_bool HR.out.symm, B1.out⟩
    | true =>
      obtain ⟨p0, p1, p2, p3⟩ := F1.out
      have hz := HZ.out rfl
      have HR := mkHid (show R = (decide (t ≠ ⟨#[]⟩) && decide ((wordsI t).2.1 = 0)) by rw [HP.out]; simp)
      have HQ := mkHid (HC.out rfl)
      have H1 := mkHid (HL.out rfl)
      clear HP HC HL HZ
      go_wp2_with fail
      refine (H1.out _ B1.out).mono ?_
      rintro e w2 ⟨rfl, hb2⟩
      have B2 := mkHid (below_step B1.out hb2)
      clear hb2 B1 F1 p0 p1 p2 p3 H1
      by_cases he : t = ⟨#[]⟩
      · subst he
        have HR2 := mkHid (show R = false by rw [HR.out]; rfl)
        go_wp2
        go_ret
        exact ⟨ret_bool HR2.out.symm, B2.out⟩
      · have he2 : (t.toList == []) = false := by rw [str_is]; exact decide_eq_false he
        have HE := mkHid he
        clear he
        by_cases hl : 4000 < t.size
        · have hl2 : decide ((4000 : Int) < (t.size : Int)) = true := by simp; omega
          have HR2 := mkHid (show R = false by rw [HR.out, decide_eq_false (words_long hl)]; simp)
          go_wp2
          go_ret
          exact ⟨ret_bool HR2.out.symm, B2.out⟩
        · have hl2 : decide ((4000 : Int) < (t.size : Int)) = false := by simp; omega
          have HS := mkHid (fun W => sParse_any t W (by unfold maxLen; omega))
          have HR2 := mkHid (show R = decide ((parseI t).2.1 = 0) by rw [HR.out, HQ.out, decide_eq_true (show t ≠ ⟨#[]⟩ from HE.out)]; simp)
          clear hl HR HQ
          go_wp2_with fail
          refine (HS.out _).mono ?_
          rintro e w3 ⟨x, rfl, _, _, _, hb3⟩
          have B3 := mkHid (below_step B2.out hb3)
          have B4 := mkHid ((B3.out.alloc B3.out.size (.cells x.cells.toArray 26)).alloc (Nat.le_trans B3.out.size (by simp)) (.cells #[.int .i64 (parseI t).2.1, .int .i64 (parseI t).2.2] 31))
          obtain ⟨xk, xs, xm, xa, xc, xkk⟩ := x
          generalize (parseI t).2.1 = cd at HR2 B4 ⊢
          generalize (parseI t).2.2 = ct at B4 ⊢
          simp only [A.val]
          simp only [A.cells] at B4
          clear hb3 B3 HS
          go_wp2
          go_ret
          exact ⟨ret_bool (by rw [HR2.out]; rfl), B4.out⟩
  · have HP := mkHid (show okP (.node k s m kk) = false from by unfold okP; rw [show kindT (.node k s m kk) = k from rfl]; simp [hk0])
    generalize okP (.node k s m kk) = R at HP ⊢
    have hk1 : (k != 40) = true := by simpa using hk0
    clear hs hn hc hk hk0
    obtain ⟨p0, p1, p2, p3⟩ := F0.out
    go_enter Tryz.func13, Tryz.ntmps13
    go_wp2
    go_ret
    exact ⟨ret_bool HP.out.symm, B0.out⟩
set_option maxRecDepth 100000 in
set_option maxHeartbeats 4000000 in
theorem sPrint_any (k : Int) (s : ByteArray) (m : Int) (kk : List T) (a : Option Addr) (c : Nat) (w : World) (hs : s.size ≤ maxLen) (hn : kk.length ≤ maxLen) (hc : cnt (.node k s m kk) ≤ 1048577) (hk : Kids w 0 a kk) :
    Calls Tryz.prog 11 #[.agg #[.int .i64 k, .string s, .int .i64 m, .slice a kk.length c]] w fun e w' => e = .returned (.string (printP (.node k s m kk))) ∧ Below w.heap.size w w' := by
  have HF := mkHid (fun W (hW : Below w.heap.size w W) => sProgOk_any k s m kk a c W hs hn hc (hk.below hW))
  have B0 := mkHid ((Below.refl w.heap.size w).alloc (Nat.le_refl _) (.cells #[.int .i64 k, .string s, .int .i64 m, .slice a kk.length c] 26))
  have F0 := mkHid (Four.new w k s m a kk.length c 26)
  have HP := mkHid (show printP (.node k s m kk) = if okP (.node k s m kk) then textP (.node k s m kk) else ⟨#[]⟩ from rfl)
  have HL := mkHid (fun (h : okP (.node k s m kk) = true) W (hW : Below w.heap.size w W) => show Calls Tryz.prog 36 #[.agg #[.int .i64 k, .string s, .int .i64 m, .slice a kk.length c], .string ⟨#[]⟩] W fun e w' => e = .returned (.string (textP (.node k s m kk))) ∧ Below W.heap.size W w' from by
    have h1 : k = 40 ∧ fitsS (.node k s m kk) = true := by
      unfold okP at h
      rw [show kindT (.node k s m kk) = k from rfl] at h
      simp at h
      exact ⟨h.1.1.1, h.1.1.2⟩
    obtain ⟨rfl, h2⟩ := h1
    exact sLn_all (.node 40 s m kk) (.inr (.inr (.inr ⟨(fits_parts h2).2.2, rfl⟩))) (fun e _ => sEx_ok e) ⟨#[]⟩ a c W (.inr (.inr (.inr ⟨(fits_parts h2).2.2, rfl⟩))) (fits_parts h2).1 (by have := (fits_parts h2).2.1; show 0 + _ ≤ 1000; omega) (hk.below hW))
  generalize printP (.node k s m kk) = R at HP ⊢
  generalize textP (.node k s m kk) = t at HP HL
  generalize okP (.node k s m kk) = f at HF HP HL
  clear hs hn hc hk
  obtain ⟨p0, p1, p2, p3⟩ := F0.out
  go_enter Tryz.func11, Tryz.ntmps11
  go_wp2_with fail
  refine (HF.out _ B0.out).mono ?_
  rintro e w1 ⟨rfl, hb1⟩
  have B1 := mkHid (below_step B0.out hb1)
  have F1 := mkHid (F0.out.below hb1)
  clear hb1 B0 F0 p0 p1 p2 p3
  cases f with
  | false =>
    have HR := mkHid (show R = ⟨#[]⟩ by rw [HP.out]; rfl)
    go_wp2
    go_ret
    exact ⟨ret_str HR.out.symm, B1.out⟩
  | true =>
    obtain ⟨p0, p1, p2, p3⟩ := F1.out
    have HR := mkHid (show R = t by rw [HP.out]; rfl)
    have H1 := mkHid (HL.out rfl)
    clear HL HP
    go_wp2_with fail
    refine (H1.out _ B1.out).mono ?_
    rintro e w2 ⟨rfl, hb2⟩
    have B2 := mkHid (below_step B1.out hb2)
    clear hb2
    go_wp2
    go_ret
    exact ⟨ret_str HR.out.symm, B2.out⟩
end Go.Proofs.YthccohemcagkcaaGreatDoor
