/-
  CONTRACTS of the specification's l02Expr, whole, and ExprText.
-/
import Derived.Test.YtncdhmogkgefaabDoorSexc
import Derived.Test.YtncdhmogkgefaabDoorTxt
namespace Go.Proofs.YtncdhmogkgefaabDoor
open Go.RowKit
open Pl

theorem sEx_ok (t : T) : SEx t := by
  refine T.induct ?_ t
  intro k s m kk IH a c w hg
  obtain ⟨hs, sh⟩ := good_shape hg
  have go : SEx (.node k s m kk) := by
    cases sh with
    | num h hk h0 h1 =>
      subst h hk
      obtain ⟨n, hn⟩ : ∃ n : Nat, m = n := ⟨m.toNat, by omega⟩
      subst hn
      exact sEx_num s n (by omega)
    | var h hk => subst h hk; exact sEx_var s m
    | len h hk => subst h hk; exact sEx_len s m
    | cell h x hk hx => subst h hk; exact sEx_cell s m x (IH x (by simp)) hx
    | neg h x hk hx => subst h hk; exact sEx_neg s m x (IH x (by simp)) hx
    | pair h x y hk hx hy =>
      subst hk
      rcases h with rfl | rfl | rfl
      · exact sEx_pair6 s m x y (IH x (by simp)) (IH y (by simp)) hx hy
      · exact sEx_pair7 s m x y (IH x (by simp)) (IH y (by simp)) hx hy
      · exact sEx_pair8 s m x y (IH x (by simp)) (IH y (by simp)) hx hy
    | cond h x y hk hx hy => subst hk; exact sEx_cond k (k - 11).toNat (by omega) (by omega) s m x y (IH x (by simp)) (IH y (by simp)) hx hy
  exact go a c w hg

set_option maxRecDepth 100000 in
set_option maxHeartbeats 1600000 in
theorem sText_ok (k : Int) (s : ByteArray) (m : Int) (kk : List T) (a : Option Addr) (c : Nat) (w : World) (hs : s.size ≤ maxLen) (hn : kk.length ≤ maxLen) (hcn : cnt (.node k s m kk) ≤ 1048577) (hk : Kids w 0 a kk) :
    Calls Tryd.prog 5 #[.agg #[.int .i64 k, .string s, .int .i64 m, .slice a kk.length c]] w fun e w' => e = .returned (.string (textT (.node k s m kk))) ∧ Below w.heap.size w w' := by
  have HE := mkHid (fun W (hW : Below w.heap.size w W) => sExpr_ok k s m kk a c W hs hn hcn (hk.below hW))
  have HC := mkHid (fun W (hW : Below w.heap.size w W) => sCond_ok k s m kk a c W hs hn hcn (hk.below hW))
  have HS := mkHid (fun W (hW : Below w.heap.size w W) (h1 : Good (.node k s m kk)) (h2 : cnt (.node k s m kk) ≤ 500) => sEx_ok (.node k s m kk) a c W h1 h2 (hk.below hW))
  have B0 := mkHid ((Below.refl w.heap.size w).alloc (Nat.le_refl _) (.cells #[.int .i64 k, .string s, .int .i64 m, .slice a kk.length c] 29))
  have F0 := mkHid (Four.new w k s m a kk.length c 29)
  have HX := mkHid (show textT (.node k s m kk) = if (betw k 1 8 || betw k 11 16) && fitsS (.node k s m kk) then (if 4000 < (exS (.node k s m kk)).size then ⟨#[]⟩ else exS (.node k s m kk)) else ⟨#[]⟩ from rfl)
  have HG := mkHid (good_of (t := .node k s m kk))
  generalize textT (.node k s m kk) = R at HX ⊢
  clear hs hn hk hcn
  simp only [kindT] at HG
  generalize hq1 : betw k 1 8 = q1 at HE HX HG
  generalize hq2 : betw k 11 16 = q2 at HC HX HG
  generalize hf : fitsS (.node k s m kk) = f at HE HC HX HG
  clear hq1 hq2 hf
  go_enter Tryd.func5, Tryd.ntmps5
  go_wp2_with fail
  refine (HE.out _ B0.out).mono ?_
  rintro e w1 ⟨rfl, hb1⟩
  have B1 := mkHid (below_step B0.out hb1)
  have F1 := mkHid (F0.out.below hb1)
  clear hb1 B0 F0
  obtain ⟨p0, p1, p2, p3⟩ := F1.out
  cases f
  · have HR : Hid (R = ⟨#[]⟩) := mkHid (by rw [HX.out]; simp)
    simp only [Bool.and_false]
    go_wp2_with fail
    refine (HC.out _ B1.out).mono ?_
    rintro e w2 ⟨rfl, hb2⟩
    have B2 := mkHid (below_step B1.out hb2)
    clear hb2
    simp only [Bool.and_false]
    go_wp2
    go_ret
    exact ⟨by rw [HR.out]; rfl, B2.out⟩
  · simp only [Bool.and_true] at HX HG ⊢
    cases q1
    · go_wp2_with fail
      refine (HC.out _ B1.out).mono ?_
      rintro e w2 ⟨rfl, hb2⟩
      have B2 := mkHid (below_step B1.out hb2)
      have F2 := mkHid (F1.out.below hb2)
      clear hb2 p0 p1 p2 p3 B1 F1
      simp only [Bool.and_true, Bool.false_or] at HX HG ⊢
      obtain ⟨p0, p1, p2, p3⟩ := F2.out
      cases q2
      · have HR : Hid (R = ⟨#[]⟩) := mkHid (by rw [HX.out]; simp)
        go_wp2
        go_ret
        exact ⟨by rw [HR.out]; rfl, B2.out⟩
      · have hgood := HG.out (by simp)
        have hRR : R = if 4000 < (exS (.node k s m kk)).size then ⟨#[]⟩ else exS (.node k s m kk) := by rw [HX.out]; simp
        have H4 := mkHid hRR
        have HP := mkHid (HS.out w2 B2.out hgood.1 hgood.2)
        have hsz := exS_size _ hgood.1
        have hsz2 : (exS (.node k s m kk)).size ≤ 1000000000 := by omega
        generalize exS (.node k s m kk) = A at H4 HP hsz2
        clear hgood hsz hRR HX HG HS
        go_wp2_with fail
        refine HP.out.mono ?_
        rintro e w3 ⟨rfl, hb3⟩
        have B3 := mkHid (below_step B2.out hb3)
        clear hb3 HP
        by_cases h4 : (4000 : Int) < (A.size : Int)
        · have HR : Hid (R = ⟨#[]⟩) := mkHid (by rw [H4.out, if_pos (by omega)])
          go_wp2
          go_ret
          exact ⟨by rw [HR.out]; rfl, B3.out⟩
        · have HR : Hid (R = A) := mkHid (by rw [H4.out, if_neg (by omega)])
          go_wp2
          go_ret
          exact ⟨by rw [HR.out]; rfl, B3.out⟩
    · have hgood := HG.out (by simp)
      have hRR : R = if 4000 < (exS (.node k s m kk)).size then ⟨#[]⟩ else exS (.node k s m kk) := by rw [HX.out]; simp
      have H4 := mkHid hRR
      have HP := mkHid (HS.out w1 B1.out hgood.1 hgood.2)
      have hsz := exS_size _ hgood.1
      have hsz2 : (exS (.node k s m kk)).size ≤ 1000000000 := by omega
      generalize exS (.node k s m kk) = A at H4 HP hsz2
      clear hgood hsz hRR HX HG HS
      go_wp2_with fail
      refine HP.out.mono ?_
      rintro e w3 ⟨rfl, hb3⟩
      have B3 := mkHid (below_step B1.out hb3)
      clear hb3 HP
      by_cases h4 : (4000 : Int) < (A.size : Int)
      · have HR : Hid (R = ⟨#[]⟩) := mkHid (by rw [H4.out, if_pos (by omega)])
        go_wp2
        go_ret
        exact ⟨by rw [HR.out]; rfl, B3.out⟩
      · have HR : Hid (R = A) := mkHid (by rw [H4.out, if_neg (by omega)])
        go_wp2
        go_ret
        exact ⟨by rw [HR.out]; rfl, B3.out⟩
end Go.Proofs.YtncdhmogkgefaabDoor
