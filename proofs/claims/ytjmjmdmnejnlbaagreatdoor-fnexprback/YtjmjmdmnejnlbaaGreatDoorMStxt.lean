/-
  CONTRACTS of the printer's expr at conditions and numbers; of the whole.
  CONTRACT of the program's ExprText.
  CONTRACTS of the specification's l02Expr, whole, and ExprText.
-/
import Derived.Test.YtjmjmdmnejnlbaaGreatDoorMPexc
import Derived.Lib.AppendIntMem
import Derived.Test.YtjmjmdmnejnlbaaGreatDoorMSexc
namespace Go.Proofs.YtjmjmdmnejnlbaaGreatDoor
open Go.RowKit
open Pl

theorem heap_new (w : World) (cs : Array Value) (e : TypeId) (tb : Nat) (h : tb = w.heap.size) : (w.alloc (.cells cs e)).heap[tb]? = some (.cells cs e (0, 0)) := by
 subst h
 exact World.heap_alloc_new w cs e
theorem Around.below {W0 : World} {dp : Int} {B b : Nat} {l : List UInt8} {w w' : World} (h : Around W0 dp B b l w) (hb : Below w.heap.size w w') : Around W0 dp B b l w' :=
 ⟨h.pr.below hb, h.old.trans (hb.mono (Nat.le_trans h.lo h.hi)), h.lo, Nat.le_trans h.hi hb.size, h.tab⟩
theorem others_below {b : Nat} {a w w' : World} (h : Lib.OthersKept 5 (some b) a w) (hb : Below w.heap.size w w') : Lib.OthersKept 5 (some b) a w' := fun k o hk h1 h2 => by
 have h3 := h k o hk h1 h2
 obtain ⟨hlt, _⟩ := Array.getElem?_eq_some_iff.1 h3
 exact (hb.block k hlt).trans h3
theorem typ_cond {k : Int} (h : 11 ≤ k ∧ k ≤ 16) : typI k = 88 := by
 rcases (by omega : k = 11 ∨ k = 12 ∨ k = 13 ∨ k = 14 ∨ k = 15 ∨ k = 16) with rfl | rfl | rfl | rfl | rfl | rfl <;> rfl
theorem val_cond {k : Int} (h : 11 ≤ k ∧ k ≤ 16) : formVal k = .agg #[.string (signI k)] := by
 unfold formVal
 rw [if_neg (by omega), if_neg (by omega), if_neg (by omega), if_pos h]

set_option maxRecDepth 100000 in
set_option maxHeartbeats 3200000 in
theorem pEx_cond (k : Int) (s : ByteArray) (m : Int) (x y : T) (hkk : 11 ≤ k ∧ k ≤ 16) (IX : PEx x) (IY : PEx y) (hx : Good1 x) (hy : Good1 y) : PEx (.node k s m [x, y]) := by
 intro W0 dp B b l a c w hg hc hk har hl
 have hcx : cnt x + cnt y ≤ 499 := by simp only [cnt, cnts] at hc; omega
 have hlay : lay k s m (kindT x) (exS x) (kindT y) (exS y) = exS x ++ ⟨#[32]⟩ ++ signI k ++ ⟨#[32]⟩ ++ exS y := by
  unfold lay
  rw [if_neg (by omega), if_neg (by omega), if_neg (by omega), if_neg (by omega), if_neg (by omega), if_neg (by omega), if_neg (by omega), if_neg (by omega)]
 have hT : exT (.node k s m [x, y]) = exT x ++ cat [⟨#[32]⟩, signI k, ⟨#[32]⟩] ++ exT y := by unfold exT; rw [exS2, hlay]; simp [cat]
 rw [hT]
 have hsz : (exS (.node k s m [x, y])).size = (exS x).size + 1 + (signI k).size + 1 + (exS y).size := by
  rw [exS2, hlay, ByteArray.size_append, ByteArray.size_append, ByteArray.size_append, ByteArray.size_append]
  rfl
 rw [hsz] at hl
 have htyp := typ_cond hkk
 have hval := val_cond hkk
 have hF := fun W => formOf_val k W (.inr hkk)
 rw [htyp, hval] at hF
 have HF := mkHid hF
 clear hF htyp hval hlay hT hsz
 generalize signI k = G at HF hl ⊢
 have hG : (cat [ByteArray.mk #[32], G, ByteArray.mk #[32]]).length = 1 + G.size + 1 := by have := Lib.size_eq G; simp [cat]; omega
 rcases hk with h0 | ⟨kb, o, rfl, _, hll⟩
 ·cases h0
 obtain ⟨xk, xs, xm, xkk⟩ := x
 obtain ⟨xa, xc, xc0, xc1, xc2, xc3, _, _, xkids⟩ := hll.at (i := 0) (show _ = some (T.node xk xs xm xkk) from rfl)
 simp only [Nat.zero_mul, Nat.add_zero] at xc0 xc1 xc2 xc3
 have xH := mkHid (And.intro xc0 (And.intro xc1 (And.intro xc2 xc3)))
 obtain ⟨yk, ys, ym, ykk⟩ := y
 obtain ⟨ya, yc, yc0, yc1, yc2, yc3, _, _, ykids⟩ := hll.at (i := 1) (show _ = some (T.node yk ys ym ykk) from rfl)
 simp only [Nat.one_mul] at yc0 yc1 yc2 yc3
 have yH := mkHid (And.intro yc0 (And.intro yc1 (And.intro yc2 yc3)))
 have hAx : (exT (.node xk xs xm xkk)).length = (exS (.node xk xs xm xkk)).size := (Lib.size_eq _).symm
 have hbw := World.block_lt_of_cell? W0 _ xc0
 have t56 := ta66_56 G
 have t58 := ta66_58 G
 have t59 := ta66_59 G
 have t60 := ta66_60 G
 have t61 := ta66_61 G
 have t64 := ta66_64 G
 have t66 := ta66_66 G
 have A0 := har.alloc (.cells #[.int .i64 k, .string s, .int .i64 m, .slice (some ⟨kb, o, none⟩) 2 c] 26)
 have H0 := World.heap_alloc_new w #[.int .i64 k, .string s, .int .i64 m, .slice (some ⟨kb, o, none⟩) 2 c] 26
 have hnb : w.heap.size ≠ b := by have := har.pr.lt; omega
 have hfb : w.heap.size + 1 ≠ b := by have := har.pr.lt; omega
 show Calls Tryz.prog 21 #[.pointer (some ⟨b, 0, none⟩), .agg #[.int .i64 k, .string s, .int .i64 m, .slice (some ⟨kb, o, none⟩) 2 c]] w _
 have A1 := A0.alloc (.cells #[.string G] 88)
 have H1 : ((w.alloc (.cells #[.int .i64 k, .string s, .int .i64 m, .slice (some ⟨kb, o, none⟩) 2 c] 26)).alloc (.cells #[.string G] 88)).heap[w.heap.size]? = some (.cells #[.int .i64 k, .string s, .int .i64 m, .slice (some ⟨kb, o, none⟩) 2 c] 26 (0, 0)) := (Lib.alloc_old _ _ _ (by simp)).trans H0
 have K1 := mkHid ((((Below.refl B w).alloc har.hi (.cells #[.int .i64 k, .string s, .int .i64 m, .slice (some ⟨kb, o, none⟩) 2 c] 26)).alloc (Nat.le_trans har.hi (by simp)) (.cells #[.string G] 88)))
 have O1 := mkHid ((((Lib.OthersKept.refl 5 (some b) w).alloc (.cells #[.int .i64 k, .string s, .int .i64 m, .slice (some ⟨kb, o, none⟩) 2 c] 26)).alloc (.cells #[.string G] 88)))
 have FF := mkHid (heap_new (w.alloc (.cells #[.int .i64 k, .string s, .int .i64 m, .slice (some ⟨kb, o, none⟩) 2 c] 26)) #[.string G] 88 (w.heap.size + 1) (by simp))
 have AA := mkHid A1
 have HH := mkHid H1
 clear A0 H0 A1 H1 har
 go_enter Tryz.func21, Tryz.ntmps21
 go_wp2_with fail
 refine (HF.out _).mono ?_
 rintro e w1 ⟨rfl, rfl⟩
 have xq0 := (AA.out.old.cell (p := ⟨kb, _, none⟩) hbw).trans xH.out.1
 have xq1 := (AA.out.old.cell (p := ⟨kb, _, none⟩) hbw).trans xH.out.2.1
 have xq2 := (AA.out.old.cell (p := ⟨kb, _, none⟩) hbw).trans xH.out.2.2.1
 have xq3 := (AA.out.old.cell (p := ⟨kb, _, none⟩) hbw).trans xH.out.2.2.2
 go_wp2_with fail
 refine (IX W0 dp B b l xa xc _ hx.good (by omega) xkids AA.out (by have hl9 : l.length + ((exS (.node xk xs xm xkk)).size + 1 + G.size + 1 + (exS (.node yk ys ym ykk)).size) ≤ 100000000000000 := hl; omega)).mono ?_
 rintro e w2 ⟨rfl, hp, hb, hk2⟩
 have A2 := mkHid (AA.out.step hp hb)
 have H2 := mkHid (node_kept HH.out hnb hk2)
 have K2 := mkHid (K1.out.trans hb)
 have O2 := mkHid (O1.out.trans hk2)
 have F2 := mkHid (show w2.heap[w.heap.size + 1]? = some (.cells #[.string G] 88 (0, 0)) from hk2 _ _ FF.out (by simpa using hfb) (by simp))
 clear hp hb hk2 AA HH K1 O1 FF xq0 xq1 xq2 xq3
 have f0 : w2.cell? ⟨w.heap.size + 1, 0, none⟩ = some (.string G) := by rw [Lib.cell_of_heap F2.out]; rfl
 go_wp2_with fail
 refine (put_new W0 dp B b _ [⟨#[32]⟩, G, ⟨#[32]⟩] #[.string ⟨#[32]⟩, .string G, .string ⟨#[32]⟩] _ _ rfl A2.out (by have hl9 : l.length + ((exS (.node xk xs xm xkk)).size + 1 + G.size + 1 + (exS (.node yk ys ym ykk)).size) ≤ 100000000000000 := hl; rw [List.length_append, hG]; omega) (by simp) rfl).mono ?_
 rintro e w3 ⟨rfl, hp, hb, hk2⟩
 have A3 := mkHid (A2.out.step hp hb)
 have H3 := mkHid (node_kept H2.out hnb hk2)
 have K3 := mkHid (K2.out.trans hb)
 have O3 := mkHid (O2.out.trans hk2)
 clear hp hb hk2 A2 H2 K2 O2 F2 f0
 have c0 : w3.cell? ⟨w.heap.size, 0, none⟩ = some (.int .i64 k) := by rw [Lib.cell_of_heap H3.out]; rfl
 have c1 : w3.cell? ⟨w.heap.size, 1, none⟩ = some (.string s) := by rw [Lib.cell_of_heap H3.out]; rfl
 have c2 : w3.cell? ⟨w.heap.size, 2, none⟩ = some (.int .i64 m) := by rw [Lib.cell_of_heap H3.out]; rfl
 have c3 : w3.cell? ⟨w.heap.size, 3, none⟩ = some (.slice (some ⟨kb, o, none⟩) 2 c) := by rw [Lib.cell_of_heap H3.out]; rfl
 have yq0 := (A3.out.old.cell (p := ⟨kb, _, none⟩) hbw).trans yH.out.1
 have yq1 := (A3.out.old.cell (p := ⟨kb, _, none⟩) hbw).trans yH.out.2.1
 have yq2 := (A3.out.old.cell (p := ⟨kb, _, none⟩) hbw).trans yH.out.2.2.1
 have yq3 := (A3.out.old.cell (p := ⟨kb, _, none⟩) hbw).trans yH.out.2.2.2
 go_wp2_with fail
 refine (IY W0 dp B b _ ya yc _ hy.good (by omega) ykids A3.out (by have hl9 : l.length + ((exS (.node xk xs xm xkk)).size + 1 + G.size + 1 + (exS (.node yk ys ym ykk)).size) ≤ 100000000000000 := hl; rw [List.length_append, List.length_append, hG]; omega)).mono ?_
 rintro e w4 ⟨rfl, hp, hb, hk2⟩
 rw [List.append_assoc, List.append_assoc, ← List.append_assoc (exT (.node xk xs xm xkk))] at hp
 have M1 := mkHid hp
 have M2 := mkHid (K3.out.trans hb)
 have M3 := mkHid (O3.out.trans hk2)
 clear hp hb hk2 A3 H3 K3 O3 c0 c1 c2 c3 yq0 yq1 yq2 yq3
 go_wp2
 go_end0
 exact ⟨rfl, M1.out, M2.out, M3.out⟩

set_option maxRecDepth 100000 in
set_option maxHeartbeats 1600000 in
theorem pEx_num (s : ByteArray) (n : Nat) (hn : n ≤ 1000000) : PEx (.node 1 s n []) := by
 intro W0 dp B b l a c w hg hc hk har hl
 have hT : exT (.node 1 s n []) = cat [dec n] := by unfold exT; rw [exS0]; simp [lay, cat]
 rw [hT]
 have hsz : (exS (.node 1 s n [])).size = (dec n).size := by rw [exS0]; simp [lay]
 have HF := mkHid (fun W => formOf_val 1 W (by omega))
 have t56 := ta56_56
 have A0 := har.alloc (.cells #[.int .i64 1, .string s, .int .i64 n, .slice a 0 c] 26)
 have A1 := A0.alloc (.cells #[] 78)
 obtain ⟨g, hgn⟩ := Option.isSome_iff_exists.1 (show (Tryz.prog.globalNamed "internal/strconv.uint64pow10").isSome = true by kernel_rfl)
 have HI := mkHid (fun W (hW : Below W0.heap.size W0 W) => Tryz.strconv_Itoa n (by omega) (by omega) W (Joins.tab_stays hgn har.tab hW (Nat.le_refl _)))
 have hit : (ByteArray.mk (Lib.itoa (n : Int)).toArray) = dec n := by unfold dec Lib.itoa; rw [if_neg (by omega)]; simp
 rw [hit] at HI
 show Calls Tryz.prog 21 #[.pointer (some ⟨b, 0, none⟩), .agg #[.int .i64 1, .string s, .int .i64 n, .slice a 0 c]] w _
 have K1 := mkHid ((((Below.refl B w).alloc har.hi (.cells #[.int .i64 1, .string s, .int .i64 n, .slice a 0 c] 26)).alloc (Nat.le_trans har.hi (by simp)) (.cells #[] 78)))
 have O1 := mkHid ((((Lib.OthersKept.refl 5 (some b) w).alloc (.cells #[.int .i64 1, .string s, .int .i64 n, .slice a 0 c] 26)).alloc (.cells #[] 78)))
 have AA := mkHid A1
 clear A0 A1 hit hgn
 go_enter Tryz.func21, Tryz.ntmps21
 go_wp2_with fail
 refine (HF.out _).mono ?_
 rintro e w1 ⟨rfl, rfl⟩
 rw [show typI 1 = 78 from rfl, show formVal 1 = .agg #[] from rfl]
 go_wp2_with fail
 refine (HI.out _ AA.out.old).mono ?_
 rintro e w2 ⟨rfl, kd, os, hw2⟩
 have hb2 := Lib.below_grow _ ((w.alloc (.cells #[.int .i64 1, .string s, .int .i64 n, .slice a 0 c] 26)).alloc (.cells #[] 78)) (Nat.le_refl _) kd os
 rw [← hw2] at hb2
 have A2 := mkHid (AA.out.below hb2)
 have K2 := mkHid (K1.out.trans (hb2.mono AA.out.hi))
 have O2 := mkHid (others_below O1.out hb2)
 clear hb2 hw2 AA K1 O1
 go_wp2_with fail
 refine (put_new W0 dp B b l [dec n] #[.string (dec n)] _ _ rfl A2.out (by rw [← hT]; unfold exT; rw [← Lib.size_eq]; omega) (by simp) rfl).mono ?_
 rintro e w3 ⟨rfl, hp, hb, hk2⟩
 have M1 := mkHid hp
 have M2 := mkHid (K2.out.trans hb)
 have M3 := mkHid (O2.out.trans hk2)
 clear hp hb hk2 A2 K2 O2
 go_wp2
 go_end0
 exact ⟨rfl, M1.out, M2.out, M3.out⟩

theorem pEx_ok (t : T) : PEx t := by
 refine T.induct ?_ t
 intro k s m kk IH W0 dp B b l a c w hg
 obtain ⟨hs, sh⟩ := good_shape hg
 have go : PEx (.node k s m kk) := by
  cases sh with
  | num h hk h0 h1 =>
    subst h hk
    obtain ⟨n, hn⟩ : ∃ n : Nat, m = n := ⟨m.toNat, by omega⟩
    subst hn
    exact pEx_num s n (by omega)
  | var h hk => subst h hk; exact pEx_var s m
  | len h hk => subst h hk; exact pEx_len s m
  | cell h x hk hx => subst h hk; exact pEx_cell s m x (IH x (by simp)) hx
  | neg h x hk hx => subst h hk; exact pEx_neg s m x (IH x (by simp)) hx
  | pair h x y hk hx hy =>
    subst hk
    rcases h with rfl | rfl | rfl
    ·exact pEx_pair6 s m x y (IH x (by simp)) (IH y (by simp)) hx hy
    ·exact pEx_pair7 s m x y (IH x (by simp)) (IH y (by simp)) hx hy
    ·exact pEx_pair8 s m x y (IH x (by simp)) (IH y (by simp)) hx hy
  | cond h x y hk hx hy => subst hk; exact pEx_cond k s m x y h (IH x (by simp)) (IH y (by simp)) hx hy
 exact go W0 dp B b l a c w hg
end Go.Proofs.YtjmjmdmnejnlbaaGreatDoor
namespace Go.Proofs.YtjmjmdmnejnlbaaGreatDoor
open Go.RowKit
open Pl

theorem dec_pos (n : Nat) : 1 ≤ (dec n).size := by
 by_cases h : n < 10
 ·rw [dec_small h]; exact Nat.le_refl _
 ·rw [dec_more h, ByteArray.size_append]
  have e : (ByteArray.mk #[UInt8.ofNat (48 + n % 10)]).size = 1 := rfl
  omega
theorem exS_pos (t : T) (hg : Good t) : 1 ≤ (exS t).size := by
 obtain ⟨k, s, m, kk⟩ := t
 obtain ⟨hs, sh⟩ := good_shape hg
 have e32 : (ByteArray.mk #[32]).size = 1 := rfl
 cases sh with
 | num h hk h0 h1 => subst h hk; rw [exS0, show lay 1 s m 0 ⟨#[]⟩ 0 ⟨#[]⟩ = dec m.toNat by simp [lay]]; exact dec_pos _
 | var h hk =>
   subst h hk
   rw [exS0, show lay 2 s m 0 ⟨#[]⟩ 0 ⟨#[]⟩ = s by simp [lay]]
   have hh := (formed_parts hg.1).1
   unfold formHead at hh
   rw [show shapeI 2 = (0, true, true) from rfl] at hh
   simp at hh
   have := nameB_size s hh.2
   omega
 | len h hk => subst h hk; rw [exS0, show lay 4 s m 0 ⟨#[]⟩ 0 ⟨#[]⟩ = ⟨#[108, 101, 110, 40]⟩ ++ s ++ ⟨#[41]⟩ by simp [lay], ByteArray.size_append]; have e : (ByteArray.mk #[41]).size = 1 := rfl; omega
 | cell h x hk hx => subst h hk; rw [exS1, show lay 3 s m (kindT x) (exS x) 0 ⟨#[]⟩ = s ++ ⟨#[91]⟩ ++ exS x ++ ⟨#[93]⟩ by simp [lay], ByteArray.size_append]; have e : (ByteArray.mk #[93]).size = 1 := rfl; omega
 | neg h x hk hx => subst h hk; rw [exS1, show lay 5 s m (kindT x) (exS x) 0 ⟨#[]⟩ = ⟨#[45]⟩ ++ par (kindT x) (exS x) 3 by simp [lay], ByteArray.size_append]; have e : (ByteArray.mk #[45]).size = 1 := rfl; omega
 | pair h x y hk hx hy =>
   subst hk
   rcases h with rfl | rfl | rfl
   ·rw [exS2, show lay 6 s m (kindT x) (exS x) (kindT y) (exS y) = par (kindT x) (exS x) 1 ++ ⟨#[32, 43, 32]⟩ ++ par (kindT y) (exS y) 2 by simp [lay], ByteArray.size_append, ByteArray.size_append]; have e : (ByteArray.mk #[32, 43, 32]).size = 3 := rfl; omega
   ·rw [exS2, show lay 7 s m (kindT x) (exS x) (kindT y) (exS y) = par (kindT x) (exS x) 1 ++ ⟨#[32, 45, 32]⟩ ++ par (kindT y) (exS y) 2 by simp [lay], ByteArray.size_append, ByteArray.size_append]; have e : (ByteArray.mk #[32, 45, 32]).size = 3 := rfl; omega
   ·rw [exS2, show lay 8 s m (kindT x) (exS x) (kindT y) (exS y) = par (kindT x) (exS x) 2 ++ ⟨#[32, 42, 32]⟩ ++ par (kindT y) (exS y) 3 by simp [lay], ByteArray.size_append, ByteArray.size_append]; have e : (ByteArray.mk #[32, 42, 32]).size = 3 := rfl; omega
 | cond h x y hk hx hy =>
   subst hk
   have hlay : lay k s m (kindT x) (exS x) (kindT y) (exS y) = exS x ++ ⟨#[32]⟩ ++ signI k ++ ⟨#[32]⟩ ++ exS y := by
    unfold lay
    rw [if_neg (by omega), if_neg (by omega), if_neg (by omega), if_neg (by omega), if_neg (by omega), if_neg (by omega), if_neg (by omega), if_neg (by omega)]
   rw [exS2, hlay, ByteArray.size_append, ByteArray.size_append, ByteArray.size_append, ByteArray.size_append]
   omega

/-- What ExprText answers. -/
def textT (t : T) : ByteArray := if (betw (kindT t) 1 8 || betw (kindT t) 11 16) && fitsS t then (if 4000 < (exS t).size then ⟨#[]⟩ else exS t) else ⟨#[]⟩
theorem good_of {t : T} (h : ((betw (kindT t) 1 8 || betw (kindT t) 11 16) && fitsS t) = true) : Good t ∧ cnt t ≤ 500 := by
 simp only [Bool.and_eq_true, Bool.or_eq_true, fitsS, decide_eq_true_eq] at h
 refine ⟨⟨h.2.2, ?_⟩, h.2.1.1⟩
 rcases h.1 with h1 | h1
 ·exact .inl (betw_iff h1)
 ·exact .inr (betw_iff h1)

set_option maxRecDepth 100000 in
set_option maxHeartbeats 1600000 in
theorem iText_ok (k : Int) (s : ByteArray) (m : Int) (kk : List T) (a : Option Addr) (c : Nat) (w : World) (hs : s.size ≤ maxLen) (hn : kk.length ≤ maxLen) (hk : Kids w 0 a kk) (htab : Lib.TabIs Tryz.prog w "internal/strconv.uint64pow10" .u64 Lib.pow10Tab) :
    Calls Tryz.prog 6 #[.agg #[.int .i64 k, .string s, .int .i64 m, .slice a kk.length c]] w fun e w' => e = .returned (.string (textT (.node k s m kk))) ∧ Below w.heap.size w w' := by
 have HE := mkHid (fun W (hW : Below w.heap.size w W) => iExpr_ok k s m kk a c W hs hn (hk.below hW))
 have HC := mkHid (fun W (hW : Below w.heap.size w W) => iCond_ok k s m kk a c W hs hn (hk.below hW))
 have B0 := mkHid ((Below.refl w.heap.size w).alloc (Nat.le_refl _) (.cells #[.int .i64 k, .string s, .int .i64 m, .slice a kk.length c] 26))
 have F0 := mkHid (Four.new w k s m a kk.length c 26)
 have HK := mkHid hk
 have HT := mkHid htab
 have HX := mkHid (show textT (.node k s m kk) = if (betw k 1 8 || betw k 11 16) && fitsS (.node k s m kk) then (if 4000 < (exS (.node k s m kk)).size then ⟨#[]⟩ else exS (.node k s m kk)) else ⟨#[]⟩ from rfl)
 have HG := mkHid (good_of (t := .node k s m kk))
 generalize textT (.node k s m kk) = R at HX ⊢
 clear hs hn hk htab
 simp only [kindT] at HG
 generalize hq1 : betw k 1 8 = q1 at HE HX HG
 generalize hq2 : betw k 11 16 = q2 at HC HX HG
 generalize hf : fitsS (.node k s m kk) = f at HE HC HX HG
 clear hq1 hq2 hf
 go_enter Tryz.func6, Tryz.ntmps6
 go_wp2_with fail
 refine (HE.out _ B0.out).mono ?_
 rintro e w1 ⟨rfl, hb1⟩
 have B1 := mkHid (below_step B0.out hb1)
 have F1 := mkHid (F0.out.below hb1)
 clear hb1 B0 F0
 obtain ⟨p0, p1, p2, p3⟩ := F1.out
 cases f
 ·have HR : Hid (R = ⟨#[]⟩) := mkHid (by rw [HX.out]; simp)
  simp only [Bool.and_false]
  go_wp2_with fail
  refine (HC.out _ B1.out).mono ?_
  rintro e w2 ⟨rfl, hb2⟩
  have B2 := mkHid (below_step B1.out hb2)
  clear hb2
  simp only [Bool.and_false]
  go_wp2
  go_ret
  exact ⟨by rw [HR.out]; rfl, B2.out⟩
 ·simp only [Bool.and_true] at HX HG ⊢
  cases q1
  ·go_wp2_with fail
   refine (HC.out _ B1.out).mono ?_
   rintro e w2 ⟨rfl, hb2⟩
   have B2 := mkHid (below_step B1.out hb2)
   have F2 := mkHid (F1.out.below hb2)
   clear hb2 p0 p1 p2 p3 B1 F1
   simp only [Bool.and_true, Bool.false_or] at HX HG ⊢
   obtain ⟨p0, p1, p2, p3⟩ := F2.out
   cases q2
   ·have HR : Hid (R = ⟨#[]⟩) := mkHid (by rw [HX.out]; simp)
    go_wp2
    go_ret
    exact ⟨by rw [HR.out]; rfl, B2.out⟩
   ·have lW : w.heap.size < w2.heap.size := World.block_lt_of_cell? w2 _ p0
    have hgood := HG.out (by simp)
    have hsz := exS_size _ hgood.1
    have hps := exS_pos _ hgood.1
    have hRR : R = if 4000 < (exS (.node k s m kk)).size then ⟨#[]⟩ else exS (.node k s m kk) := by rw [HX.out]; simp
    have AR := mkHid (show Around w 0 w2.heap.size w2.heap.size [] (w2.alloc (.cells #[.pointer none, .slice none 0 0, .int .i64 0] 46)) from ⟨.inl ⟨Nat.le_refl _, _, World.heap_alloc_new w2 _ 46, ⟨rfl, .inl ⟨rfl, rfl⟩⟩, by simp [Value.ownBlock]⟩, B2.out.alloc (Nat.le_of_lt lW) _, Nat.le_of_lt lW, by simp, HT.out⟩)
    have HP := mkHid (pEx_ok (.node k s m kk) w 0 w2.heap.size w2.heap.size [] a c _ hgood.1 hgood.2 HK.out AR.out (by simp; omega))
    have hlen : (exT (.node k s m kk)).length = (exS (.node k s m kk)).size := (Lib.size_eq _).symm
    have hstr : (ByteArray.mk (exT (.node k s m kk)).toArray) = exS (.node k s m kk) := by unfold exT; simp
    have H4 := mkHid (And.intro hlen (And.intro hstr (And.intro hps hRR)))
    have hsz2 : (exS (.node k s m kk)).size ≤ 1000000000 := by omega
    generalize exS (.node k s m kk) = A at H4 hsz2
    generalize exT (.node k s m kk) = X at H4 HP
    clear hgood hsz hps hRR hlen hstr HX HG
    go_wp2_with fail
    refine HP.out.mono ?_
    rintro e w3 ⟨rfl, hp, hb3, hk3⟩
    rw [List.nil_append] at hp
    have P3 := mkHid hp
    have B3 := mkHid ((B2.out.alloc (Nat.le_of_lt lW) _).trans (hb3.mono (Nat.le_of_lt lW)))
    have hXl : X.length = A.size := H4.out.1
    clear hp hb3 hk3 AR HP
    go_wp2_with fail
    refine (len_any 0 w2.heap.size w2.heap.size _ _ P3.out).mono ?_
    rintro e w4 ⟨rfl, rfl⟩
    rw [Lib.byteCells_length, hXl]
    by_cases h4 : (4000 : Int) < (A.size : Int)
    ·have HR : Hid (R = ⟨#[]⟩) := mkHid (by rw [H4.out.2.2.2, if_pos (by omega)])
     go_wp2
     go_ret
     exact ⟨by rw [HR.out]; rfl, B3.out⟩
    ·have HR : Hid (R = A) := mkHid (by rw [H4.out.2.2.2, if_neg (by omega)])
     have hX0 : X ≠ [] := fun e => by have h8 := H4.out.2.2.1; rw [e] at hXl; simp at hXl; rw [← hXl] at h8; simp at h8
     go_wp2_with fail
     refine (string_any 0 w2.heap.size w2.heap.size X _ P3.out hX0).mono ?_
     rintro e w5 ⟨rfl, hb5⟩
     rw [H4.out.2.1]
     have B5 := mkHid (B3.out.trans (hb5.mono (Nat.le_of_lt lW)))
     clear hb5
     go_wp2
     go_ret
     exact ⟨by rw [HR.out]; rfl, B5.out⟩
  ·have lW : w.heap.size < w1.heap.size := World.block_lt_of_cell? w1 _ p0
   have hgood := HG.out (by simp)
   have hsz := exS_size _ hgood.1
   have hps := exS_pos _ hgood.1
   have hRR : R = if 4000 < (exS (.node k s m kk)).size then ⟨#[]⟩ else exS (.node k s m kk) := by rw [HX.out]; simp
   have AR := mkHid (show Around w 0 w1.heap.size w1.heap.size [] (w1.alloc (.cells #[.pointer none, .slice none 0 0, .int .i64 0] 46)) from ⟨.inl ⟨Nat.le_refl _, _, World.heap_alloc_new w1 _ 46, ⟨rfl, .inl ⟨rfl, rfl⟩⟩, by simp [Value.ownBlock]⟩, B1.out.alloc (Nat.le_of_lt lW) _, Nat.le_of_lt lW, by simp, HT.out⟩)
   have HP := mkHid (pEx_ok (.node k s m kk) w 0 w1.heap.size w1.heap.size [] a c _ hgood.1 hgood.2 HK.out AR.out (by simp; omega))
   have hlen : (exT (.node k s m kk)).length = (exS (.node k s m kk)).size := (Lib.size_eq _).symm
   have hstr : (ByteArray.mk (exT (.node k s m kk)).toArray) = exS (.node k s m kk) := by unfold exT; simp
   have H4 := mkHid (And.intro hlen (And.intro hstr (And.intro hps hRR)))
   have hsz2 : (exS (.node k s m kk)).size ≤ 1000000000 := by omega
   generalize exS (.node k s m kk) = A at H4 hsz2
   generalize exT (.node k s m kk) = X at H4 HP
   clear hgood hsz hps hRR hlen hstr HX HG
   go_wp2_with fail
   refine HP.out.mono ?_
   rintro e w3 ⟨rfl, hp, hb3, hk3⟩
   rw [List.nil_append] at hp
   have P3 := mkHid hp
   have B3 := mkHid ((B1.out.alloc (Nat.le_of_lt lW) _).trans (hb3.mono (Nat.le_of_lt lW)))
   have hXl : X.length = A.size := H4.out.1
   clear hp hb3 hk3 AR HP
   go_wp2_with fail
   refine (len_any 0 w1.heap.size w1.heap.size _ _ P3.out).mono ?_
   rintro e w4 ⟨rfl, rfl⟩
   rw [Lib.byteCells_length, hXl]
   by_cases h4 : (4000 : Int) < (A.size : Int)
   ·have HR : Hid (R = ⟨#[]⟩) := mkHid (by rw [H4.out.2.2.2, if_pos (by omega)])
    go_wp2
    go_ret
    exact ⟨by rw [HR.out]; rfl, B3.out⟩
   ·have HR : Hid (R = A) := mkHid (by rw [H4.out.2.2.2, if_neg (by omega)])
    have hX0 : X ≠ [] := fun e => by have h8 := H4.out.2.2.1; rw [e] at hXl; simp at hXl; rw [← hXl] at h8; simp at h8
    go_wp2_with fail
    refine (string_any 0 w1.heap.size w1.heap.size X _ P3.out hX0).mono ?_
    rintro e w5 ⟨rfl, hb5⟩
    rw [H4.out.2.1]
    have B5 := mkHid (B3.out.trans (hb5.mono (Nat.le_of_lt lW)))
    clear hb5
    go_wp2
    go_ret
    exact ⟨by rw [HR.out]; rfl, B5.out⟩
end Go.Proofs.YtjmjmdmnejnlbaaGreatDoor
namespace Go.Proofs.YtjmjmdmnejnlbaaGreatDoor
open Go.RowKit
open Pl

theorem sEx_ok (t : T) : SEx t := by
 refine T.induct ?_ t
 intro k s m kk IH a c w hg
 obtain ⟨hs, sh⟩ := good_shape hg
 have go : SEx (.node k s m kk) := by
  cases sh with
  | num h hk h0 h1 =>
    subst h hk
    obtain ⟨n, hn⟩ : ∃ n : Nat, m = n := ⟨m.toNat, by omega⟩
    subst hn
    exact sEx_num s n (by omega)
  | var h hk => subst h hk; exact sEx_var s m
  | len h hk => subst h hk; exact sEx_len s m
  | cell h x hk hx => subst h hk; exact sEx_cell s m x (IH x (by simp)) hx
  | neg h x hk hx => subst h hk; exact sEx_neg s m x (IH x (by simp)) hx
  | pair h x y hk hx hy =>
    subst hk
    rcases h with rfl | rfl | rfl
    ·exact sEx_pair6 s m x y (IH x (by simp)) (IH y (by simp)) hx hy
    ·exact sEx_pair7 s m x y (IH x (by simp)) (IH y (by simp)) hx hy
    ·exact sEx_pair8 s m x y (IH x (by simp)) (IH y (by simp)) hx hy
  | cond h x y hk hx hy => subst hk; exact sEx_cond k (k - 11).toNat (by omega) (by omega) s m x y (IH x (by simp)) (IH y (by simp)) hx hy
 exact go a c w hg

set_option maxRecDepth 100000 in
set_option maxHeartbeats 1600000 in
theorem sText_ok (k : Int) (s : ByteArray) (m : Int) (kk : List T) (a : Option Addr) (c : Nat) (w : World) (hs : s.size ≤ maxLen) (hn : kk.length ≤ maxLen) (hcn : cnt (.node k s m kk) ≤ 1048577) (hk : Kids w 0 a kk) :
    Calls Tryz.prog 7 #[.agg #[.int .i64 k, .string s, .int .i64 m, .slice a kk.length c]] w fun e w' => e = .returned (.string (textT (.node k s m kk))) ∧ Below w.heap.size w w' := by
 have HE := mkHid (fun W (hW : Below w.heap.size w W) => sExpr_ok k s m kk a c W hs hn hcn (hk.below hW))
 have HC := mkHid (fun W (hW : Below w.heap.size w W) => sCond_ok k s m kk a c W hs hn hcn (hk.below hW))
 have HS := mkHid (fun W (hW : Below w.heap.size w W) (h1 : Good (.node k s m kk)) (h2 : cnt (.node k s m kk) ≤ 500) => sEx_ok (.node k s m kk) a c W h1 h2 (hk.below hW))
 have B0 := mkHid ((Below.refl w.heap.size w).alloc (Nat.le_refl _) (.cells #[.int .i64 k, .string s, .int .i64 m, .slice a kk.length c] 26))
 have F0 := mkHid (Four.new w k s m a kk.length c 26)
 have HX := mkHid (show textT (.node k s m kk) = if (betw k 1 8 || betw k 11 16) && fitsS (.node k s m kk) then (if 4000 < (exS (.node k s m kk)).size then ⟨#[]⟩ else exS (.node k s m kk)) else ⟨#[]⟩ from rfl)
 have HG := mkHid (good_of (t := .node k s m kk))
 generalize textT (.node k s m kk) = R at HX ⊢
 clear hs hn hk hcn
 simp only [kindT] at HG
 generalize hq1 : betw k 1 8 = q1 at HE HX HG
 generalize hq2 : betw k 11 16 = q2 at HC HX HG
 generalize hf : fitsS (.node k s m kk) = f at HE HC HX HG
 clear hq1 hq2 hf
 go_enter Tryz.func7, Tryz.ntmps7
 go_wp2_with fail
 refine (HE.out _ B0.out).mono ?_
 rintro e w1 ⟨rfl, hb1⟩
 have B1 := mkHid (below_step B0.out hb1)
 have F1 := mkHid (F0.out.below hb1)
 clear hb1 B0 F0
 obtain ⟨p0, p1, p2, p3⟩ := F1.out
 cases f
 ·have HR : Hid (R = ⟨#[]⟩) := mkHid (by rw [HX.out]; simp)
  simp only [Bool.and_false]
  go_wp2_with fail
  refine (HC.out _ B1.out).mono ?_
  rintro e w2 ⟨rfl, hb2⟩
  have B2 := mkHid (below_step B1.out hb2)
  clear hb2
  simp only [Bool.and_false]
  go_wp2
  go_ret
  exact ⟨by rw [HR.out]; rfl, B2.out⟩
 ·simp only [Bool.and_true] at HX HG ⊢
  cases q1
  ·go_wp2_with fail
   refine (HC.out _ B1.out).mono ?_
   rintro e w2 ⟨rfl, hb2⟩
   have B2 := mkHid (below_step B1.out hb2)
   have F2 := mkHid (F1.out.below hb2)
   clear hb2 p0 p1 p2 p3 B1 F1
   simp only [Bool.and_true, Bool.false_or] at HX HG ⊢
   obtain ⟨p0, p1, p2, p3⟩ := F2.out
   cases q2
   ·have HR : Hid (R = ⟨#[]⟩) := mkHid (by rw [HX.out]; simp)
    go_wp2
    go_ret
    exact ⟨by rw [HR.out]; rfl, B2.out⟩
   ·have hgood := HG.out (by simp)
    have hRR : R = if 4000 < (exS (.node k s m kk)).size then ⟨#[]⟩ else exS (.node k s m kk) := by rw [HX.out]; simp
    have H4 := mkHid hRR
    have HP := mkHid (HS.out w2 B2.out hgood.1 hgood.2)
    have hsz := exS_size _ hgood.1
    have hsz2 : (exS (.node k s m kk)).size ≤ 1000000000 := by omega
    generalize exS (.node k s m kk) = A at H4 HP hsz2
    clear hgood hsz hRR HX HG HS
    go_wp2_with fail
    refine HP.out.mono ?_
    rintro e w3 ⟨rfl, hb3⟩
    have B3 := mkHid (below_step B2.out hb3)
    clear hb3 HP
    by_cases h4 : (4000 : Int) < (A.size : Int)
    ·have HR : Hid (R = ⟨#[]⟩) := mkHid (by rw [H4.out, if_pos (by omega)])
     go_wp2
     go_ret
     exact ⟨by rw [HR.out]; rfl, B3.out⟩
    ·have HR : Hid (R = A) := mkHid (by rw [H4.out, if_neg (by omega)])
     go_wp2
     go_ret
     exact ⟨by rw [HR.out]; rfl, B3.out⟩
  ·have hgood := HG.out (by simp)
   have hRR : R = if 4000 < (exS (.node k s m kk)).size then ⟨#[]⟩ else exS (.node k s m kk) := by rw [HX.out]; simp
   have H4 := mkHid hRR
   have HP := mkHid (HS.out w1 B1.out hgood.1 hgood.2)
   have hsz := exS_size _ hgood.1
   have hsz2 : (exS (.node k s m kk)).size ≤ 1000000000 := by omega
   generalize exS (.node k s m kk) = A at H4 HP hsz2
   clear hgood hsz hRR HX HG HS
   go_wp2_with fail
   refine HP.out.mono ?_
   rintro e w3 ⟨rfl, hb3⟩
   have B3 := mkHid (below_step B1.out hb3)
   clear hb3 HP
   by_cases h4 : (4000 : Int) < (A.size : Int)
   ·have HR : Hid (R = ⟨#[]⟩) := mkHid (by rw [H4.out, if_pos (by omega)])
    go_wp2
    go_ret
    exact ⟨by rw [HR.out]; rfl, B3.out⟩
   ·have HR : Hid (R = A) := mkHid (by rw [H4.out, if_neg (by omega)])
    go_wp2
    go_ret
    exact ⟨by rw [HR.out]; rfl, B3.out⟩
end Go.Proofs.YtjmjmdmnejnlbaaGreatDoor
