/-
  CONTRACT of the program's ExprText.
  CONTRACTS of the specification's l02Expr, whole, and ExprText.
-/
import Derived.Test.YtedfnadgmhjojaaGreatDoorMPexd
import Derived.Test.YtedfnadgmhjojaaGreatDoorMPbl
import Derived.Test.YtedfnadgmhjojaaGreatDoorMSexc
namespace Go.Proofs.YtedfnadgmhjojaaGreatDoor
open Go.RowKit
open Pl

theorem dec_pos (n : Nat) : 1 ≤ (dec n).size := by
 by_cases h : n < 10
 ·rw [dec_small h]; exact Nat.le_refl _
 ·rw [dec_more h, ByteArray.size_append]
  have e : (ByteArray.mk #[UInt8.ofNat (48 + n % 10)]).size = 1 := rfl
  omega
theorem exS_pos (t : T) (hg : Good t) : 1 ≤ (exS t).size := by
 obtain ⟨k, s, m, kk⟩ := t
 obtain ⟨hs, sh⟩ := good_shape hg
 have e32 : (ByteArray.mk #[32]).size = 1 := rfl
 cases sh with
 | num h hk h0 h1 => subst h hk; rw [exS0, show lay 1 s m 0 ⟨#[]⟩ 0 ⟨#[]⟩ = dec m.toNat by simp [lay]]; exact dec_pos _
 | var h hk =>
   subst h hk
   rw [exS0, show lay 2 s m 0 ⟨#[]⟩ 0 ⟨#[]⟩ = s by simp [lay]]
   have hh := (formed_parts hg.1).1
   unfold formHead at hh
   rw [show shapeI 2 = (0, true, true) from rfl] at hh
   simp at hh
   have := nameB_size s hh.2
   omega
 | len h hk => subst h hk; rw [exS0, show lay 4 s m 0 ⟨#[]⟩ 0 ⟨#[]⟩ = ⟨#[108, 101, 110, 40]⟩ ++ s ++ ⟨#[41]⟩ by simp [lay], ByteArray.size_append]; have e : (ByteArray.mk #[41]).size = 1 := rfl; omega
 | cell h x hk hx => subst h hk; rw [exS1, show lay 3 s m (kindT x) (exS x) 0 ⟨#[]⟩ = s ++ ⟨#[91]⟩ ++ exS x ++ ⟨#[93]⟩ by simp [lay], ByteArray.size_append]; have e : (ByteArray.mk #[93]).size = 1 := rfl; omega
 | neg h x hk hx => subst h hk; rw [exS1, show lay 5 s m (kindT x) (exS x) 0 ⟨#[]⟩ = ⟨#[45]⟩ ++ par (kindT x) (exS x) 3 by simp [lay], ByteArray.size_append]; have e : (ByteArray.mk #[45]).size = 1 := rfl; omega
 | pair h x y hk hx hy =>
   subst hk
   rcases h with rfl | rfl | rfl
   ·rw [exS2, show lay 6 s m (kindT x) (exS x) (kindT y) (exS y) = par (kindT x) (exS x) 1 ++ ⟨#[32, 43, 32]⟩ ++ par (kindT y) (exS y) 2 by simp [lay], ByteArray.size_append, ByteArray.size_append]; have e : (ByteArray.mk #[32, 43, 32]).size = 3 := rfl; omega
   ·rw [exS2, show lay 7 s m (kindT x) (exS x) (kindT y) (exS y) = par (kindT x) (exS x) 1 ++ ⟨#[32, 45, 32]⟩ ++ par (kindT y) (exS y) 2 by simp [lay], ByteArray.size_append, ByteArray.size_append]; have e : (ByteArray.mk #[32, 45, 32]).size = 3 := rfl; omega
   ·rw [exS2, show lay 8 s m (kindT x) (exS x) (kindT y) (exS y) = par (kindT x) (exS x) 2 ++ ⟨#[32, 42, 32]⟩ ++ par (kindT y) (exS y) 3 by simp [lay], ByteArray.size_append, ByteArray.size_append]; have e : (ByteArray.mk #[32, 42, 32]).size = 3 := rfl; omega
 | cond h x y hk hx hy =>
   subst hk
   have hlay : lay k s m (kindT x) (exS x) (kindT y) (exS y) = exS x ++ ⟨#[32]⟩ ++ signI k ++ ⟨#[32]⟩ ++ exS y := by
    unfold lay
    rw [if_neg (by omega), if_neg (by omega), if_neg (by omega), if_neg (by omega), if_neg (by omega), if_neg (by omega), if_neg (by omega), if_neg (by omega)]
   rw [exS2, hlay, ByteArray.size_append, ByteArray.size_append, ByteArray.size_append, ByteArray.size_append]
   omega

/-- What ExprText answers. -/
def textT (t : T) : ByteArray := if (betw (kindT t) 1 8 || betw (kindT t) 11 16) && fitsS t then (if 4000 < (exS t).size then ⟨#[]⟩ else exS t) else ⟨#[]⟩
theorem good_of {t : T} (h : ((betw (kindT t) 1 8 || betw (kindT t) 11 16) && fitsS t) = true) : Good t ∧ cnt t ≤ 500 := by
 simp only [Bool.and_eq_true, Bool.or_eq_true, fitsS, decide_eq_true_eq] at h
 refine ⟨⟨h.2.2, ?_⟩, h.2.1.1⟩
 rcases h.1 with h1 | h1
 ·exact .inl (betw_iff h1)
 ·exact .inr (betw_iff h1)

set_option maxRecDepth 100000 in
set_option maxHeartbeats 1600000 in
theorem iText_ok (k : Int) (s : ByteArray) (m : Int) (kk : List T) (a : Option Addr) (c : Nat) (w : World) (hs : s.size ≤ maxLen) (hn : kk.length ≤ maxLen) (hk : Kids w 0 a kk) (htab : Lib.TabIs Tryz.prog w "internal/strconv.uint64pow10" .u64 Lib.pow10Tab) :
    Calls Tryz.prog 37 #[.agg #[.int .i64 k, .string s, .int .i64 m, .slice a kk.length c]] w fun e w' => e = .returned (.string (textT (.node k s m kk))) ∧ Below w.heap.size w w' := by
 have HE := mkHid (fun W (hW : Below w.heap.size w W) => iExpr_ok k s m kk a c W hs hn (hk.below hW))
 have HC := mkHid (fun W (hW : Below w.heap.size w W) => iCond_ok k s m kk a c W hs hn (hk.below hW))
 have B0 := mkHid ((Below.refl w.heap.size w).alloc (Nat.le_refl _) (.cells #[.int .i64 k, .string s, .int .i64 m, .slice a kk.length c] 38))
 have F0 := mkHid (Four.new w k s m a kk.length c 38)
 have HK := mkHid hk
 have HT := mkHid htab
 have HX := mkHid (show textT (.node k s m kk) = if (betw k 1 8 || betw k 11 16) && fitsS (.node k s m kk) then (if 4000 < (exS (.node k s m kk)).size then ⟨#[]⟩ else exS (.node k s m kk)) else ⟨#[]⟩ from rfl)
 have HG := mkHid (good_of (t := .node k s m kk))
 generalize textT (.node k s m kk) = R at HX ⊢
 clear hs hn hk htab
 simp only [kindT] at HG
 generalize hq1 : betw k 1 8 = q1 at HE HX HG
 generalize hq2 : betw k 11 16 = q2 at HC HX HG
 generalize hf : fitsS (.node k s m kk) = f at HE HC HX HG
 clear hq1 hq2 hf
 go_enter Tryz.func37, Tryz.ntmps37
 go_wp2_with fail
 refine (HE.out _ B0.out).mono ?_
 rintro e w1 ⟨rfl, hb1⟩
 have B1 := mkHid (below_step B0.out hb1)
 have F1 := mkHid (F0.out.below hb1)
 clear hb1 B0 F0
 obtain ⟨p0, p1, p2, p3⟩ := F1.out
 cases f
 ·have HR : Hid (R = ⟨#[]⟩) := mkHid (by rw [HX.out]; simp)
  simp only [Bool.and_false]
  go_wp2_with fail
  refine (HC.out _ B1.out).mono ?_
  rintro e w2 ⟨rfl, hb2⟩
  have B2 := mkHid (below_step B1.out hb2)
  clear hb2
  simp only [Bool.and_false]
  go_wp2
  go_ret
  exact ⟨by rw [HR.out]; rfl, B2.out⟩
 ·simp only [Bool.and_true] at HX HG ⊢
  cases q1
  ·go_wp2_with fail
   refine (HC.out _ B1.out).mono ?_
   rintro e w2 ⟨rfl, hb2⟩
   have B2 := mkHid (below_step B1.out hb2)
   have F2 := mkHid (F1.out.below hb2)
   clear hb2 p0 p1 p2 p3 B1 F1
   simp only [Bool.and_true, Bool.false_or] at HX HG ⊢
   obtain ⟨p0, p1, p2, p3⟩ := F2.out
   cases q2
   ·have HR : Hid (R = ⟨#[]⟩) := mkHid (by rw [HX.out]; simp)
    go_wp2
    go_ret
    exact ⟨by rw [HR.out]; rfl, B2.out⟩
   ·have lW : w.heap.size < w2.heap.size := World.block_lt_of_cell? w2 _ p0
    have hgood := HG.out (by simp)
    have hsz := exS_size _ hgood.1
    have hps := exS_pos _ hgood.1
    have hRR : R = if 4000 < (exS (.node k s m kk)).size then ⟨#[]⟩ else exS (.node k s m kk) := by rw [HX.out]; simp
    have AR := mkHid (show Around w 0 w2.heap.size w2.heap.size [] (w2.alloc (.cells #[.pointer none, .slice none 0 0, .int .i64 0] 85)) from ⟨.inl ⟨Nat.le_refl _, _, World.heap_alloc_new w2 _ 85, ⟨rfl, .inl ⟨rfl, rfl⟩⟩, by simp [Value.ownBlock]⟩, B2.out.alloc (Nat.le_of_lt lW) _, Nat.le_of_lt lW, by simp, HT.out⟩)
    have HP := mkHid (pEx_ok (.node k s m kk) w 0 w2.heap.size w2.heap.size [] a c _ hgood.1 hgood.2 HK.out AR.out (by simp; omega))
    have hlen : (exT (.node k s m kk)).length = (exS (.node k s m kk)).size := (Lib.size_eq _).symm
    have hstr : (ByteArray.mk (exT (.node k s m kk)).toArray) = exS (.node k s m kk) := by unfold exT; simp
    have H4 := mkHid (And.intro hlen (And.intro hstr (And.intro hps hRR)))
    have hsz2 : (exS (.node k s m kk)).size ≤ 1000000000 := by omega
    generalize exS (.node k s m kk) = A at H4 hsz2
    generalize exT (.node k s m kk) = X at H4 HP
    clear hgood hsz hps hRR hlen hstr HX HG
    go_wp2_with fail
    refine HP.out.mono ?_
    rintro e w3 ⟨rfl, hp, hb3, hk3⟩
    rw [List.nil_append] at hp
    have P3 := mkHid hp
    have B3 := mkHid ((B2.out.alloc (Nat.le_of_lt lW) _).trans (hb3.mono (Nat.le_of_lt lW)))
    have hXl : X.length = A.size := H4.out.1
    clear hp hb3 hk3 AR HP
    go_wp2_with fail
    refine (len_any 0 w2.heap.size w2.heap.size _ _ P3.out).mono ?_
    rintro e w4 ⟨rfl, rfl⟩
    rw [Lib.byteCells_length, hXl]
    by_cases h4 : (4000 : Int) < (A.size : Int)
    ·have HR : Hid (R = ⟨#[]⟩) := mkHid (by rw [H4.out.2.2.2, if_pos (by omega)])
     go_wp2
     go_ret
     exact ⟨by rw [HR.out]; rfl, B3.out⟩
    ·have HR : Hid (R = A) := mkHid (by rw [H4.out.2.2.2, if_neg (by omega)])
     have hX0 : X ≠ [] := fun e => by have h8 := H4.out.2.2.1; rw [e] at hXl; simp at hXl; rw [← hXl] at h8; simp at h8
     go_wp2_with fail
     refine (string_any 0 w2.heap.size w2.heap.size X _ P3.out hX0).mono ?_
     rintro e w5 ⟨rfl, hb5⟩
     rw [H4.out.2.1]
     have B5 := mkHid (B3.out.trans (hb5.mono (Nat.le_of_lt lW)))
     clear hb5
     go_wp2
     go_ret
     exact ⟨by rw [HR.out]; rfl, B5.out⟩
  ·have lW : w.heap.size < w1.heap.size := World.block_lt_of_cell? w1 _ p0
   have hgood := HG.out (by simp)
   have hsz := exS_size _ hgood.1
   have hps := exS_pos _ hgood.1
   have hRR : R = if 4000 < (exS (.node k s m kk)).size then ⟨#[]⟩ else exS (.node k s m kk) := by rw [HX.out]; simp
   have AR := mkHid (show Around w 0 w1.heap.size w1.heap.size [] (w1.alloc (.cells #[.pointer none, .slice none 0 0, .int .i64 0] 85)) from ⟨.inl ⟨Nat.le_refl _, _, World.heap_alloc_new w1 _ 85, ⟨rfl, .inl ⟨rfl, rfl⟩⟩, by simp [Value.ownBlock]⟩, B1.out.alloc (Nat.le_of_lt lW) _, Nat.le_of_lt lW, by simp, HT.out⟩)
   have HP := mkHid (pEx_ok (.node k s m kk) w 0 w1.heap.size w1.heap.size [] a c _ hgood.1 hgood.2 HK.out AR.out (by simp; omega))
   have hlen : (exT (.node k s m kk)).length = (exS (.node k s m kk)).size := (Lib.size_eq _).symm
   have hstr : (ByteArray.mk (exT (.node k s m kk)).toArray) = exS (.node k s m kk) := by unfold exT; simp
   have H4 := mkHid (And.intro hlen (And.intro hstr (And.intro hps hRR)))
   have hsz2 : (exS (.node k s m kk)).size ≤ 1000000000 := by omega
   generalize exS (.node k s m kk) = A at H4 hsz2
   generalize exT (.node k s m kk) = X at H4 HP
   clear hgood hsz hps hRR hlen hstr HX HG
   go_wp2_with fail
   refine HP.out.mono ?_
   rintro e w3 ⟨rfl, hp, hb3, hk3⟩
   rw [List.nil_append] at hp
   have P3 := mkHid hp
   have B3 := mkHid ((B1.out.alloc (Nat.le_of_lt lW) _).trans (hb3.mono (Nat.le_of_lt lW)))
   have hXl : X.length = A.size := H4.out.1
   clear hp hb3 hk3 AR HP
   go_wp2_with fail
   refine (len_any 0 w1.heap.size w1.heap.size _ _ P3.out).mono ?_
   rintro e w4 ⟨rfl, rfl⟩
   rw [Lib.byteCells_length, hXl]
   by_cases h4 : (4000 : Int) < (A.size : Int)
   ·have HR : Hid (R = ⟨#[]⟩) := mkHid (by rw [H4.out.2.2.2, if_pos (by omega)])
    go_wp2
    go_ret
    exact ⟨by rw [HR.out]; rfl, B3.out⟩
   ·have HR : Hid (R = A) := mkHid (by rw [H4.out.2.2.2, if_neg (by omega)])
    have hX0 : X ≠ [] := fun e => by have h8 := H4.out.2.2.1; rw [e] at hXl; simp at hXl; rw [← hXl] at h8; simp at h8
    go_wp2_with fail
    refine (string_any 0 w1.heap.size w1.heap.size X _ P3.out hX0).mono ?_
    rintro e w5 ⟨rfl, hb5⟩
    rw [H4.out.2.1]
    have B5 := mkHid (B3.out.trans (hb5.mono (Nat.le_of_lt lW)))
    clear hb5
    go_wp2
    go_ret
    exact ⟨by rw [HR.out]; rfl, B5.out⟩
end Go.Proofs.YtedfnadgmhjojaaGreatDoor
namespace Go.Proofs.YtedfnadgmhjojaaGreatDoor
open Go.RowKit
open Pl

set_option maxRecDepth 100000 in
set_option maxHeartbeats 1600000 in
theorem sText_ok (k : Int) (s : ByteArray) (m : Int) (kk : List T) (a : Option Addr) (c : Nat) (w : World) (hs : s.size ≤ maxLen) (hn : kk.length ≤ maxLen) (hcn : cnt (.node k s m kk) ≤ 2097152) (hk : Kids w 0 a kk) :
    Calls Tryz.prog 26 #[.agg #[.int .i64 k, .string s, .int .i64 m, .slice a kk.length c]] w fun e w' => e = .returned (.string (textT (.node k s m kk))) ∧ Below w.heap.size w w' := by
 have HE := mkHid (fun W (hW : Below w.heap.size w W) => sExpr_ok k s m kk a c W hs hn hcn (hk.below hW))
 have HC := mkHid (fun W (hW : Below w.heap.size w W) => sCond_ok k s m kk a c W hs hn hcn (hk.below hW))
 have HS := mkHid (fun W (hW : Below w.heap.size w W) (h1 : Good (.node k s m kk)) (h2 : cnt (.node k s m kk) ≤ 500) => sEx_ok (.node k s m kk) a c W h1 h2 (hk.below hW))
 have B0 := mkHid ((Below.refl w.heap.size w).alloc (Nat.le_refl _) (.cells #[.int .i64 k, .string s, .int .i64 m, .slice a kk.length c] 38))
 have F0 := mkHid (Four.new w k s m a kk.length c 38)
 have HX := mkHid (show textT (.node k s m kk) = if (betw k 1 8 || betw k 11 16) && fitsS (.node k s m kk) then (if 4000 < (exS (.node k s m kk)).size then ⟨#[]⟩ else exS (.node k s m kk)) else ⟨#[]⟩ from rfl)
 have HG := mkHid (good_of (t := .node k s m kk))
 generalize textT (.node k s m kk) = R at HX ⊢
 clear hs hn hk hcn
 simp only [kindT] at HG
 generalize hq1 : betw k 1 8 = q1 at HE HX HG
 generalize hq2 : betw k 11 16 = q2 at HC HX HG
 generalize hf : fitsS (.node k s m kk) = f at HE HC HX HG
 clear hq1 hq2 hf
 go_enter Tryz.func26, Tryz.ntmps26
 go_wp2_with fail
 refine (HE.out _ B0.out).mono ?_
 rintro e w1 ⟨rfl, hb1⟩
 have B1 := mkHid (below_step B0.out hb1)
 have F1 := mkHid (F0.out.below hb1)
 clear hb1 B0 F0
 obtain ⟨p0, p1, p2, p3⟩ := F1.out
 cases f
 ·have HR : Hid (R = ⟨#[]⟩) := mkHid (by rw [HX.out]; simp)
  simp only [Bool.and_false]
  go_wp2_with fail
  refine (HC.out _ B1.out).mono ?_
  rintro e w2 ⟨rfl, hb2⟩
  have B2 := mkHid (below_step B1.out hb2)
  clear hb2
  simp only [Bool.and_false]
  go_wp2
  go_ret
  exact ⟨by rw [HR.out]; rfl, B2.out⟩
 ·simp only [Bool.and_true] at HX HG ⊢
  cases q1
  ·go_wp2_with fail
   refine (HC.out _ B1.out).mono ?_
   rintro e w2 ⟨rfl, hb2⟩
   have B2 := mkHid (below_step B1.out hb2)
   have F2 := mkHid (F1.out.below hb2)
   clear hb2 p0 p1 p2 p3 B1 F1
   simp only [Bool.and_true, Bool.false_or] at HX HG ⊢
   obtain ⟨p0, p1, p2, p3⟩ := F2.out
   cases q2
   ·have HR : Hid (R = ⟨#[]⟩) := mkHid (by rw [HX.out]; simp)
    go_wp2
    go_ret
    exact ⟨by rw [HR.out]; rfl, B2.out⟩
   ·have hgood := HG.out (by simp)
    have hRR : R = if 4000 < (exS (.node k s m kk)).size then ⟨#[]⟩ else exS (.node k s m kk) := by rw [HX.out]; simp
    have H4 := mkHid hRR
    have HP := mkHid (HS.out w2 B2.out hgood.1 hgood.2)
    have hsz := exS_size _ hgood.1
    have hsz2 : (exS (.node k s m kk)).size ≤ 1000000000 := by omega
    generalize exS (.node k s m kk) = A at H4 HP hsz2
    clear hgood hsz hRR HX HG HS
    go_wp2_with fail
    refine HP.out.mono ?_
    rintro e w3 ⟨rfl, hb3⟩
    have B3 := mkHid (below_step B2.out hb3)
    clear hb3 HP
    by_cases h4 : (4000 : Int) < (A.size : Int)
    ·have HR : Hid (R = ⟨#[]⟩) := mkHid (by rw [H4.out, if_pos (by omega)])
     go_wp2
     go_ret
     exact ⟨by rw [HR.out]; rfl, B3.out⟩
    ·have HR : Hid (R = A) := mkHid (by rw [H4.out, if_neg (by omega)])
     go_wp2
     go_ret
     exact ⟨by rw [HR.out]; rfl, B3.out⟩
  ·have hgood := HG.out (by simp)
   have hRR : R = if 4000 < (exS (.node k s m kk)).size then ⟨#[]⟩ else exS (.node k s m kk) := by rw [HX.out]; simp
   have H4 := mkHid hRR
   have HP := mkHid (HS.out w1 B1.out hgood.1 hgood.2)
   have hsz := exS_size _ hgood.1
   have hsz2 : (exS (.node k s m kk)).size ≤ 1000000000 := by omega
   generalize exS (.node k s m kk) = A at H4 HP hsz2
   clear hgood hsz hRR HX HG HS
   go_wp2_with fail
   refine HP.out.mono ?_
   rintro e w3 ⟨rfl, hb3⟩
   have B3 := mkHid (below_step B1.out hb3)
   clear hb3 HP
   by_cases h4 : (4000 : Int) < (A.size : Int)
   ·have HR : Hid (R = ⟨#[]⟩) := mkHid (by rw [H4.out, if_pos (by omega)])
    go_wp2
    go_ret
    exact ⟨by rw [HR.out]; rfl, B3.out⟩
   ·have HR : Hid (R = A) := mkHid (by rw [H4.out, if_neg (by omega)])
    go_wp2
    go_ret
    exact ⟨by rw [HR.out]; rfl, B3.out⟩
end Go.Proofs.YtedfnadgmhjojaaGreatDoor
