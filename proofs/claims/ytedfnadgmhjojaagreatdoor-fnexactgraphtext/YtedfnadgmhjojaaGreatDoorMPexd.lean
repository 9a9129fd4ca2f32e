/-
  CONTRACTS of the printer's expr at conditions and numbers; of the whole.
-/
import Derived.Test.YtedfnadgmhjojaaGreatDoorMPexc
import Derived.Lib.AppendIntMem
namespace Go.Proofs.YtedfnadgmhjojaaGreatDoor
open Go.RowKit
open Pl

theorem heap_new (w : World) (cs : Array Value) (e : TypeId) (tb : Nat) (h : tb = w.heap.size) : (w.alloc (.cells cs e)).heap[tb]? = some (.cells cs e (0, 0)) := by
 subst h
 exact World.heap_alloc_new w cs e
theorem Around.below {W0 : World} {dp : Int} {B b : Nat} {l : List UInt8} {w w' : World} (h : Around W0 dp B b l w) (hb : Below w.heap.size w w') : Around W0 dp B b l w' :=
 ⟨h.pr.below hb, h.old.trans (hb.mono (Nat.le_trans h.lo h.hi)), h.lo, Nat.le_trans h.hi hb.size, h.tab⟩
theorem others_below {b : Nat} {a w w' : World} (h : Lib.OthersKept 5 (some b) a w) (hb : Below w.heap.size w w') : Lib.OthersKept 5 (some b) a w' := fun k o hk h1 h2 => by
 have h3 := h k o hk h1 h2
 obtain ⟨hlt, _⟩ := Array.getElem?_eq_some_iff.1 h3
 exact (hb.block k hlt).trans h3
theorem typ_cond {k : Int} (h : 11 ≤ k ∧ k ≤ 16) : typI k = 130 := by
 rcases (by omega : k = 11 ∨ k = 12 ∨ k = 13 ∨ k = 14 ∨ k = 15 ∨ k = 16) with rfl | rfl | rfl | rfl | rfl | rfl <;> rfl
theorem val_cond {k : Int} (h : 11 ≤ k ∧ k ≤ 16) : formVal k = .agg #[.string (signI k)] := by
 unfold formVal
 rw [if_neg (by omega), if_neg (by omega), if_neg (by omega), if_pos h]

set_option maxRecDepth 100000 in
set_option maxHeartbeats 3200000 in
theorem pEx_cond (k : Int) (s : ByteArray) (m : Int) (x y : T) (hkk : 11 ≤ k ∧ k ≤ 16) (IX : PEx x) (IY : PEx y) (hx : Good1 x) (hy : Good1 y) : PEx (.node k s m [x, y]) := by
 intro W0 dp B b l a c w hg hc hk har hl
 have hcx : cnt x + cnt y ≤ 499 := by simp only [cnt, cnts] at hc; omega
 have hlay : lay k s m (kindT x) (exS x) (kindT y) (exS y) = exS x ++ ⟨#[32]⟩ ++ signI k ++ ⟨#[32]⟩ ++ exS y := by
  unfold lay
  rw [if_neg (by omega), if_neg (by omega), if_neg (by omega), if_neg (by omega), if_neg (by omega), if_neg (by omega), if_neg (by omega), if_neg (by omega)]
 have hT : exT (.node k s m [x, y]) = exT x ++ cat [⟨#[32]⟩, signI k, ⟨#[32]⟩] ++ exT y := by unfold exT; rw [exS2, hlay]; simp [cat]
 rw [hT]
 have hsz : (exS (.node k s m [x, y])).size = (exS x).size + 1 + (signI k).size + 1 + (exS y).size := by
  rw [exS2, hlay, ByteArray.size_append, ByteArray.size_append, ByteArray.size_append, ByteArray.size_append]
  rfl
 rw [hsz] at hl
 have htyp := typ_cond hkk
 have hval := val_cond hkk
 have hF := fun W => formOf_val k W (.inr hkk)
 rw [htyp, hval] at hF
 have HF := mkHid hF
 clear hF htyp hval hlay hT hsz
 generalize signI k = G at HF hl ⊢
 have hG : (cat [ByteArray.mk #[32], G, ByteArray.mk #[32]]).length = 1 + G.size + 1 := by have := Lib.size_eq G; simp [cat]; omega
 rcases hk with h0 | ⟨kb, o, rfl, _, hll⟩
 ·cases h0
 obtain ⟨xk, xs, xm, xkk⟩ := x
 obtain ⟨xa, xc, xc0, xc1, xc2, xc3, _, _, xkids⟩ := hll.at (i := 0) (show _ = some (T.node xk xs xm xkk) from rfl)
 simp only [Nat.zero_mul, Nat.add_zero] at xc0 xc1 xc2 xc3
 have xH := mkHid (And.intro xc0 (And.intro xc1 (And.intro xc2 xc3)))
 obtain ⟨yk, ys, ym, ykk⟩ := y
 obtain ⟨ya, yc, yc0, yc1, yc2, yc3, _, _, ykids⟩ := hll.at (i := 1) (show _ = some (T.node yk ys ym ykk) from rfl)
 simp only [Nat.one_mul] at yc0 yc1 yc2 yc3
 have yH := mkHid (And.intro yc0 (And.intro yc1 (And.intro yc2 yc3)))
 have hAx : (exT (.node xk xs xm xkk)).length = (exS (.node xk xs xm xkk)).size := (Lib.size_eq _).symm
 have hbw := World.block_lt_of_cell? W0 _ xc0
 have t56 := ta66_56 G
 have t58 := ta66_58 G
 have t59 := ta66_59 G
 have t60 := ta66_60 G
 have t61 := ta66_61 G
 have t64 := ta66_64 G
 have t66 := ta66_66 G
 have A0 := har.alloc (.cells #[.int .i64 k, .string s, .int .i64 m, .slice (some ⟨kb, o, none⟩) 2 c] 38)
 have H0 := World.heap_alloc_new w #[.int .i64 k, .string s, .int .i64 m, .slice (some ⟨kb, o, none⟩) 2 c] 38
 have hnb : w.heap.size ≠ b := by have := har.pr.lt; omega
 have hfb : w.heap.size + 1 ≠ b := by have := har.pr.lt; omega
 show Calls Tryz.prog 53 #[.pointer (some ⟨b, 0, none⟩), .agg #[.int .i64 k, .string s, .int .i64 m, .slice (some ⟨kb, o, none⟩) 2 c]] w _
 have A1 := A0.alloc (.cells #[.string G] 130)
 have H1 : ((w.alloc (.cells #[.int .i64 k, .string s, .int .i64 m, .slice (some ⟨kb, o, none⟩) 2 c] 38)).alloc (.cells #[.string G] 130)).heap[w.heap.size]? = some (.cells #[.int .i64 k, .string s, .int .i64 m, .slice (some ⟨kb, o, none⟩) 2 c] 38 (0, 0)) := (Lib.alloc_old _ _ _ (by simp)).trans H0
 have K1 := mkHid ((((Below.refl B w).alloc har.hi (.cells #[.int .i64 k, .string s, .int .i64 m, .slice (some ⟨kb, o, none⟩) 2 c] 38)).alloc (Nat.le_trans har.hi (by simp)) (.cells #[.string G] 130)))
 have O1 := mkHid ((((Lib.OthersKept.refl 5 (some b) w).alloc (.cells #[.int .i64 k, .string s, .int .i64 m, .slice (some ⟨kb, o, none⟩) 2 c] 38)).alloc (.cells #[.string G] 130)))
 have FF := mkHid (heap_new (w.alloc (.cells #[.int .i64 k, .string s, .int .i64 m, .slice (some ⟨kb, o, none⟩) 2 c] 38)) #[.string G] 130 (w.heap.size + 1) (by simp))
 have AA := mkHid A1
 have HH := mkHid H1
 clear A0 H0 A1 H1 har
 go_enter Tryz.func53, Tryz.ntmps53
 go_wp2_with fail
 refine (HF.out _).mono ?_
 rintro e w1 ⟨rfl, rfl⟩
 have xq0 := (AA.out.old.cell (p := ⟨kb, _, none⟩) hbw).trans xH.out.1
 have xq1 := (AA.out.old.cell (p := ⟨kb, _, none⟩) hbw).trans xH.out.2.1
 have xq2 := (AA.out.old.cell (p := ⟨kb, _, none⟩) hbw).trans xH.out.2.2.1
 have xq3 := (AA.out.old.cell (p := ⟨kb, _, none⟩) hbw).trans xH.out.2.2.2
 go_wp2_with fail
 refine (IX W0 dp B b l xa xc _ hx.good (by omega) xkids AA.out (by have hl9 : l.length + ((exS (.node xk xs xm xkk)).size + 1 + G.size + 1 + (exS (.node yk ys ym ykk)).size) ≤ 100000000000000 := hl; omega)).mono ?_
 rintro e w2 ⟨rfl, hp, hb, hk2⟩
 have A2 := mkHid (AA.out.step hp hb)
 have H2 := mkHid (node_kept HH.out hnb hk2)
 have K2 := mkHid (K1.out.trans hb)
 have O2 := mkHid (O1.out.trans hk2)
 have F2 := mkHid (show w2.heap[w.heap.size + 1]? = some (.cells #[.string G] 130 (0, 0)) from hk2 _ _ FF.out (by simpa using hfb) (by simp))
 clear hp hb hk2 AA HH K1 O1 FF xq0 xq1 xq2 xq3
 have f0 : w2.cell? ⟨w.heap.size + 1, 0, none⟩ = some (.string G) := by rw [Lib.cell_of_heap F2.out]; rfl
 go_wp2_with fail
 refine (put_new W0 dp B b _ [⟨#[32]⟩, G, ⟨#[32]⟩] #[.string ⟨#[32]⟩, .string G, .string ⟨#[32]⟩] _ _ rfl A2.out (by have hl9 : l.length + ((exS (.node xk xs xm xkk)).size + 1 + G.size + 1 + (exS (.node yk ys ym ykk)).size) ≤ 100000000000000 := hl; rw [List.length_append, hG]; omega) (by simp) rfl).mono ?_
 rintro e w3 ⟨rfl, hp, hb, hk2⟩
 have A3 := mkHid (A2.out.step hp hb)
 have H3 := mkHid (node_kept H2.out hnb hk2)
 have K3 := mkHid (K2.out.trans hb)
 have O3 := mkHid (O2.out.trans hk2)
 clear hp hb hk2 A2 H2 K2 O2 F2 f0
 have c0 : w3.cell? ⟨w.heap.size, 0, none⟩ = some (.int .i64 k) := by rw [Lib.cell_of_heap H3.out]; rfl
 have c1 : w3.cell? ⟨w.heap.size, 1, none⟩ = some (.string s) := by rw [Lib.cell_of_heap H3.out]; rfl
 have c2 : w3.cell? ⟨w.heap.size, 2, none⟩ = some (.int .i64 m) := by rw [Lib.cell_of_heap H3.out]; rfl
 have c3 : w3.cell? ⟨w.heap.size, 3, none⟩ = some (.slice (some ⟨kb, o, none⟩) 2 c) := by rw [Lib.cell_of_heap H3.out]; rfl
 have yq0 := (A3.out.old.cell (p := ⟨kb, _, none⟩) hbw).trans yH.out.1
 have yq1 := (A3.out.old.cell (p := ⟨kb, _, none⟩) hbw).trans yH.out.2.1
 have yq2 := (A3.out.old.cell (p := ⟨kb, _, none⟩) hbw).trans yH.out.2.2.1
 have yq3 := (A3.out.old.cell (p := ⟨kb, _, none⟩) hbw).trans yH.out.2.2.2
 go_wp2_with fail
 refine (IY W0 dp B b _ ya yc _ hy.good (by omega) ykids A3.out (by have hl9 : l.length + ((exS (.node xk xs xm xkk)).size + 1 + G.size + 1 + (exS (.node yk ys ym ykk)).size) ≤ 100000000000000 := hl; rw [List.length_append, List.length_append, hG]; omega)).mono ?_
 rintro e w4 ⟨rfl, hp, hb, hk2⟩
 rw [List.append_assoc, List.append_assoc, ← List.append_assoc (exT (.node xk xs xm xkk))] at hp
 have M1 := mkHid hp
 have M2 := mkHid (K3.out.trans hb)
 have M3 := mkHid (O3.out.trans hk2)
 clear hp hb hk2 A3 H3 K3 O3 c0 c1 c2 c3 yq0 yq1 yq2 yq3
 go_wp2
 go_end0
 exact ⟨rfl, M1.out, M2.out, M3.out⟩

set_option maxRecDepth 100000 in
set_option maxHeartbeats 1600000 in
theorem pEx_num (s : ByteArray) (n : Nat) (hn : n ≤ 1000000) : PEx (.node 1 s n []) := by
 intro W0 dp B b l a c w hg hc hk har hl
 have hT : exT (.node 1 s n []) = cat [dec n] := by unfold exT; rw [exS0]; simp [lay, cat]
 rw [hT]
 have hsz : (exS (.node 1 s n [])).size = (dec n).size := by rw [exS0]; simp [lay]
 have HF := mkHid (fun W => formOf_val 1 W (by omega))
 have t56 := ta56_56
 have A0 := har.alloc (.cells #[.int .i64 1, .string s, .int .i64 n, .slice a 0 c] 38)
 have A1 := A0.alloc (.cells #[] 120)
 obtain ⟨g, hgn⟩ := Option.isSome_iff_exists.1 (show (Tryz.prog.globalNamed "internal/strconv.uint64pow10").isSome = true by kernel_rfl)
 have HI := mkHid (fun W (hW : Below W0.heap.size W0 W) => Tryz.strconv_Itoa n (by omega) (by omega) W (Joins.tab_stays hgn har.tab hW (Nat.le_refl _)))
 have hit : (ByteArray.mk (Lib.itoa (n : Int)).toArray) = dec n := by unfold dec Lib.itoa; rw [if_neg (by omega)]; simp
 rw [hit] at HI
 show Calls Tryz.prog 53 #[.pointer (some ⟨b, 0, none⟩), .agg #[.int .i64 1, .string s, .int .i64 n, .slice a 0 c]] w _
 have K1 := mkHid ((((Below.refl B w).alloc har.hi (.cells #[.int .i64 1, .string s, .int .i64 n, .slice a 0 c] 38)).alloc (Nat.le_trans har.hi (by simp)) (.cells #[] 120)))
 have O1 := mkHid ((((Lib.OthersKept.refl 5 (some b) w).alloc (.cells #[.int .i64 1, .string s, .int .i64 n, .slice a 0 c] 38)).alloc (.cells #[] 120)))
 have AA := mkHid A1
 clear A0 A1 hit hgn
 go_enter Tryz.func53, Tryz.ntmps53
 go_wp2_with fail
 refine (HF.out _).mono ?_
 rintro e w1 ⟨rfl, rfl⟩
 rw [show typI 1 = 120 from rfl, show formVal 1 = .agg #[] from rfl]
 go_wp2_with fail
 refine (HI.out _ AA.out.old).mono ?_
 rintro e w2 ⟨rfl, kd, os, hw2⟩
 have hb2 := Lib.below_grow _ ((w.alloc (.cells #[.int .i64 1, .string s, .int .i64 n, .slice a 0 c] 38)).alloc (.cells #[] 120)) (Nat.le_refl _) kd os
 rw [← hw2] at hb2
 have A2 := mkHid (AA.out.below hb2)
 have K2 := mkHid (K1.out.trans (hb2.mono AA.out.hi))
 have O2 := mkHid (others_below O1.out hb2)
 clear hb2 hw2 AA K1 O1
 go_wp2_with fail
 refine (put_new W0 dp B b l [dec n] #[.string (dec n)] _ _ rfl A2.out (by rw [← hT]; unfold exT; rw [← Lib.size_eq]; omega) (by simp) rfl).mono ?_
 rintro e w3 ⟨rfl, hp, hb, hk2⟩
 have M1 := mkHid hp
 have M2 := mkHid (K2.out.trans hb)
 have M3 := mkHid (O2.out.trans hk2)
 clear hp hb hk2 A2 K2 O2
 go_wp2
 go_end0
 exact ⟨rfl, M1.out, M2.out, M3.out⟩

theorem pEx_ok (t : T) : PEx t := by
 refine T.induct ?_ t
 intro k s m kk IH W0 dp B b l a c w hg
 obtain ⟨hs, sh⟩ := good_shape hg
 have go : PEx (.node k s m kk) := by
  cases sh with
  | num h hk h0 h1 =>
    subst h hk
    obtain ⟨n, hn⟩ : ∃ n : Nat, m = n := ⟨m.toNat, by omega⟩
    subst hn
    exact pEx_num s n (by omega)
  | var h hk => subst h hk; exact pEx_var s m
  | len h hk => subst h hk; exact pEx_len s m
  | cell h x hk hx => subst h hk; exact pEx_cell s m x (IH x (by simp)) hx
  | neg h x hk hx => subst h hk; exact pEx_neg s m x (IH x (by simp)) hx
  | pair h x y hk hx hy =>
    subst hk
    rcases h with rfl | rfl | rfl
    ·exact pEx_pair6 s m x y (IH x (by simp)) (IH y (by simp)) hx hy
    ·exact pEx_pair7 s m x y (IH x (by simp)) (IH y (by simp)) hx hy
    ·exact pEx_pair8 s m x y (IH x (by simp)) (IH y (by simp)) hx hy
  | cond h x y hk hx hy => subst hk; exact pEx_cond k s m x y h (IH x (by simp)) (IH y (by simp)) hx hy
 exact go W0 dp B b l a c w hg
end Go.Proofs.YtedfnadgmhjojaaGreatDoor
