/-
  CONTRACTS of the printer's expr at nodes with kids, and at numbers.
-/
import Derived.Test.YtedfnadgmhjojaaGreatDoorMPexb
namespace Go.Proofs.YtedfnadgmhjojaaGreatDoor
open Go.RowKit
open Pl

theorem Around.drew {W0 : World} {dp : Int} {B b : Nat} {l : List UInt8} {w : World} (h : Around W0 dp B b l w) : Around W0 dp B b l w.drew := ⟨h.pr, h.old.drew, h.lo, h.hi, h.tab⟩
set_option maxRecDepth 100000 in
set_option maxHeartbeats 3200000 in
theorem pEx_cell (s : ByteArray) (m : Int) (x : T) (IX : PEx x) (hx : Good1 x) : PEx (.node 3 s m [x]) := by
 intro W0 dp B b l a c w hg hc hk har hl
 have hcx : cnt x ≤ 499 := by simp only [cnt, cnts] at hc; omega
 obtain ⟨hs, _⟩ := good_shape hg
 have hT : exT (.node 3 s m [x]) = cat [s, ⟨#[91]⟩] ++ exT x ++ cat [⟨#[93]⟩] := by unfold exT; rw [exS1]; simp [lay, cat]
 rw [hT]
 have hsz : (exS (.node 3 s m [x])).size = s.size + 1 + (exS x).size + 1 := by rw [exS1]; simp [lay]; rfl
 rw [hsz] at hl
 have hA : (exT x).length = (exS x).size := (Lib.size_eq _).symm
 rcases hk with h0 | ⟨kb, o, rfl, _, hll⟩
 ·cases h0
 obtain ⟨xk, xs, xm, xkk⟩ := x
 obtain ⟨xa, xc, xc0, xc1, xc2, xc3, _, _, xkids⟩ := hll.at (i := 0) (show _ = some (T.node xk xs xm xkk) from rfl)
 simp only [Nat.zero_mul, Nat.add_zero] at xc0 xc1 xc2 xc3
 have xH := mkHid (And.intro xc0 (And.intro xc1 (And.intro xc2 xc3)))
 have hbw := World.block_lt_of_cell? W0 _ xc0
 have HF := mkHid (fun W => formOf_val 3 W (by omega))
 have t56 := ta60_56
 have t58 := ta60_58
 have t59 := ta60_59
 have t60 := ta60_60
 have A0 := har.alloc (.cells #[.int .i64 3, .string s, .int .i64 m, .slice (some ⟨kb, o, none⟩) 1 c] 38)
 have H0 := World.heap_alloc_new w #[.int .i64 3, .string s, .int .i64 m, .slice (some ⟨kb, o, none⟩) 1 c] 38
 have hnb : w.heap.size ≠ b := by have := har.pr.lt; omega
 have hfb : w.heap.size + 1 ≠ b := by have := har.pr.lt; omega
 show Calls Tryz.prog 53 #[.pointer (some ⟨b, 0, none⟩), .agg #[.int .i64 3, .string s, .int .i64 m, .slice (some ⟨kb, o, none⟩) 1 c]] w _
 have A1 := A0.alloc (.cells #[] 124)
 have H1 : ((w.alloc (.cells #[.int .i64 3, .string s, .int .i64 m, .slice (some ⟨kb, o, none⟩) 1 c] 38)).alloc (.cells #[] 124)).heap[w.heap.size]? = some (.cells #[.int .i64 3, .string s, .int .i64 m, .slice (some ⟨kb, o, none⟩) 1 c] 38 (0, 0)) := (Lib.alloc_old _ _ _ (by simp)).trans H0
 have K1 := mkHid ((((Below.refl B w).alloc har.hi (.cells #[.int .i64 3, .string s, .int .i64 m, .slice (some ⟨kb, o, none⟩) 1 c] 38)).alloc (Nat.le_trans har.hi (by simp)) (.cells #[] 124)))
 have O1 := mkHid ((((Lib.OthersKept.refl 5 (some b) w).alloc (.cells #[.int .i64 3, .string s, .int .i64 m, .slice (some ⟨kb, o, none⟩) 1 c] 38)).alloc (.cells #[] 124)))
 have AA := mkHid A1
 have HH := mkHid H1
 clear A0 H0 A1 H1 har
 go_enter Tryz.func53, Tryz.ntmps53
 go_wp2_with fail
 refine (HF.out _).mono ?_
 rintro e w1 ⟨rfl, rfl⟩
 rw [show typI 3 = 124 from rfl, show formVal 3 = .agg #[] from rfl]
 go_wp2_with fail
 refine (put_new W0 dp B b l [s, ⟨#[91]⟩] #[.string s, .string ⟨#[91]⟩] _ _ (by simp) AA.out (by have := (Lib.size_eq s); simp [cat]; omega) (by simp) rfl).mono ?_
 rintro e w2 ⟨rfl, hp, hb, hk2⟩
 have A2 := mkHid (AA.out.step hp hb)
 have H2 := mkHid (node_kept HH.out hnb hk2)
 have K2 := mkHid (K1.out.trans hb)
 have O2 := mkHid (O1.out.trans hk2)
 clear hp hb hk2 AA HH K1 O1
 have c0 : w2.cell? ⟨w.heap.size, 0, none⟩ = some (.int .i64 3) := by rw [Lib.cell_of_heap H2.out]; rfl
 have c1 : w2.cell? ⟨w.heap.size, 1, none⟩ = some (.string s) := by rw [Lib.cell_of_heap H2.out]; rfl
 have c2 : w2.cell? ⟨w.heap.size, 2, none⟩ = some (.int .i64 m) := by rw [Lib.cell_of_heap H2.out]; rfl
 have c3 : w2.cell? ⟨w.heap.size, 3, none⟩ = some (.slice (some ⟨kb, o, none⟩) 1 c) := by rw [Lib.cell_of_heap H2.out]; rfl
 have xq0 := (A2.out.old.cell (p := ⟨kb, _, none⟩) hbw).trans xH.out.1
 have xq1 := (A2.out.old.cell (p := ⟨kb, _, none⟩) hbw).trans xH.out.2.1
 have xq2 := (A2.out.old.cell (p := ⟨kb, _, none⟩) hbw).trans xH.out.2.2.1
 have xq3 := (A2.out.old.cell (p := ⟨kb, _, none⟩) hbw).trans xH.out.2.2.2
 go_wp2_with fail
 refine (IX W0 dp B b _ xa xc _ hx.good (by omega) xkids A2.out (by have := (Lib.size_eq s); simp [cat]; omega)).mono ?_
 rintro e w3 ⟨rfl, hp, hb, hk2⟩
 have A3 := mkHid (A2.out.step hp hb)
 have H3 := mkHid (node_kept H2.out hnb hk2)
 have K3 := mkHid (K2.out.trans hb)
 have O3 := mkHid (O2.out.trans hk2)
 clear hp hb hk2 A2 H2 K2 O2
 clear c0 c1 c2 c3 xq0 xq1 xq2 xq3
 go_wp2_with fail
 refine (put_new W0 dp B b _ [⟨#[93]⟩] #[.string ⟨#[93]⟩] _ _ rfl A3.out (by have := (Lib.size_eq s); simp [cat]; omega) (by simp) rfl).mono ?_
 rintro e w4 ⟨rfl, hp, hb, hk2⟩
 rw [List.append_assoc, List.append_assoc, ← List.append_assoc (cat _)] at hp
 have M1 := mkHid hp
 have M2 := mkHid (K3.out.trans hb)
 have M3 := mkHid (O3.out.trans hk2)
 clear hp hb hk2 A3 H3 K3 O3
 go_wp2
 go_end0
 exact ⟨rfl, M1.out, M2.out, M3.out⟩

set_option maxRecDepth 100000 in
set_option maxHeartbeats 3200000 in
theorem pEx_neg (s : ByteArray) (m : Int) (x : T) (IX : PEx x) (hx : Good1 x) : PEx (.node 5 s m [x]) := by
 intro W0 dp B b l a c w hg hc hk har hl
 have hcx : cnt x ≤ 499 := by simp only [cnt, cnts] at hc; omega
 have hT : exT (.node 5 s m [x]) = cat [⟨#[45]⟩] ++ (par (kindT x) (exS x) (2 + 1)).data.toList := by unfold exT; rw [exS1]; simp [lay, cat]
 rw [hT]
 have hsz : (exS (.node 5 s m [x])).size = 1 + (par (kindT x) (exS x) (2 + 1)).size := by
  rw [exS1, show lay 5 s m (kindT x) (exS x) 0 ⟨#[]⟩ = ⟨#[45]⟩ ++ par (kindT x) (exS x) (2 + 1) by simp [lay], ByteArray.size_append]
  rfl
 rw [hsz] at hl
 have hl0 : l.length + 1 ≤ 100000000000000 := by omega
 rcases hk with h0 | ⟨kb, o, rfl, _, hll⟩
 ·cases h0
 obtain ⟨xk, xs, xm, xkk⟩ := x
 obtain ⟨xa, xc, xc0, xc1, xc2, xc3, _, _, xkids⟩ := hll.at (i := 0) (show _ = some (T.node xk xs xm xkk) from rfl)
 simp only [Nat.zero_mul, Nat.add_zero] at xc0 xc1 xc2 xc3
 have xH := mkHid (And.intro xc0 (And.intro xc1 (And.intro xc2 xc3)))
 have hbw := World.block_lt_of_cell? W0 _ xc0
 have HF := mkHid (fun W => formOf_val 5 W (by omega))
 have t56 := ta61_56
 have t58 := ta61_58
 have t59 := ta61_59
 have t60 := ta61_60
 have t61 := ta61_61
 have A0 := har.alloc (.cells #[.int .i64 5, .string s, .int .i64 m, .slice (some ⟨kb, o, none⟩) 1 c] 38)
 have H0 := World.heap_alloc_new w #[.int .i64 5, .string s, .int .i64 m, .slice (some ⟨kb, o, none⟩) 1 c] 38
 have hnb : w.heap.size ≠ b := by have := har.pr.lt; omega
 have hfb : w.heap.size + 1 ≠ b := by have := har.pr.lt; omega
 show Calls Tryz.prog 53 #[.pointer (some ⟨b, 0, none⟩), .agg #[.int .i64 5, .string s, .int .i64 m, .slice (some ⟨kb, o, none⟩) 1 c]] w _
 have A1 := A0.alloc (.cells #[] 125)
 have H1 : ((w.alloc (.cells #[.int .i64 5, .string s, .int .i64 m, .slice (some ⟨kb, o, none⟩) 1 c] 38)).alloc (.cells #[] 125)).heap[w.heap.size]? = some (.cells #[.int .i64 5, .string s, .int .i64 m, .slice (some ⟨kb, o, none⟩) 1 c] 38 (0, 0)) := (Lib.alloc_old _ _ _ (by simp)).trans H0
 have K1 := mkHid ((((Below.refl B w).alloc har.hi (.cells #[.int .i64 5, .string s, .int .i64 m, .slice (some ⟨kb, o, none⟩) 1 c] 38)).alloc (Nat.le_trans har.hi (by simp)) (.cells #[] 125)))
 have O1 := mkHid ((((Lib.OthersKept.refl 5 (some b) w).alloc (.cells #[.int .i64 5, .string s, .int .i64 m, .slice (some ⟨kb, o, none⟩) 1 c] 38)).alloc (.cells #[] 125)))
 have AA := mkHid A1
 have HH := mkHid H1
 clear A0 H0 A1 H1 har
 go_enter Tryz.func53, Tryz.ntmps53
 go_wp2_with fail
 refine (HF.out _).mono ?_
 rintro e w1 ⟨rfl, rfl⟩
 rw [show typI 5 = 125 from rfl, show formVal 5 = .agg #[] from rfl]
 go_wp2_with fail
 refine (put_new W0 dp B b l [⟨#[45]⟩] #[.string ⟨#[45]⟩] _ _ (by simp) AA.out (by simp [cat]; omega) (by simp) rfl).mono ?_
 rintro e w2 ⟨rfl, hp, hb, hk2⟩
 have A2 := mkHid (AA.out.step hp hb)
 have H2 := mkHid (node_kept HH.out hnb hk2)
 have K2 := mkHid (K1.out.trans hb)
 have O2 := mkHid (O1.out.trans hk2)
 clear hp hb hk2 AA HH K1 O1
 have c0 : w2.cell? ⟨w.heap.size, 0, none⟩ = some (.int .i64 5) := by rw [Lib.cell_of_heap H2.out]; rfl
 have c1 : w2.cell? ⟨w.heap.size, 1, none⟩ = some (.string s) := by rw [Lib.cell_of_heap H2.out]; rfl
 have c2 : w2.cell? ⟨w.heap.size, 2, none⟩ = some (.int .i64 m) := by rw [Lib.cell_of_heap H2.out]; rfl
 have c3 : w2.cell? ⟨w.heap.size, 3, none⟩ = some (.slice (some ⟨kb, o, none⟩) 1 c) := by rw [Lib.cell_of_heap H2.out]; rfl
 have xq0 := (A2.out.old.cell (p := ⟨kb, _, none⟩) hbw).trans xH.out.1
 have xq1 := (A2.out.old.cell (p := ⟨kb, _, none⟩) hbw).trans xH.out.2.1
 have xq2 := (A2.out.old.cell (p := ⟨kb, _, none⟩) hbw).trans xH.out.2.2.1
 have xq3 := (A2.out.old.cell (p := ⟨kb, _, none⟩) hbw).trans xH.out.2.2.2
 go_wp2_with fail
 refine (part_of xk xm xs xkk IX W0 dp B b _ xa xc 2 _ hx.good (by omega) xkids A2.out (by have hl9 : l.length + (1 + (par xk (exS (.node xk xs xm xkk)) (2 + 1)).size) ≤ 100000000000000 := hl; simp only [List.length_append, show (cat [ByteArray.mk #[45]]).length = 1 from rfl]; omega)).mono ?_
 rintro e w4 ⟨rfl, hp, hb, hk2⟩
 rw [List.append_assoc] at hp
 have M1 := mkHid hp
 have M2 := mkHid (K2.out.trans hb)
 have M3 := mkHid (O2.out.trans hk2)
 clear hp hb hk2 A2 H2 K2 O2 c0 c1 c2 c3 xq0 xq1 xq2 xq3
 go_wp2
 go_end0
 exact ⟨rfl, M1.out, M2.out, M3.out⟩

set_option maxRecDepth 100000 in
set_option maxHeartbeats 3200000 in
theorem pEx_pair6 (s : ByteArray) (m : Int) (x y : T) (IX : PEx x) (IY : PEx y) (hx : Good1 x) (hy : Good1 y) : PEx (.node 6 s m [x, y]) := by
 intro W0 dp B b l a c w hg hc hk har hl
 have hcx : cnt x + cnt y ≤ 499 := by simp only [cnt, cnts] at hc; omega
 have hT : exT (.node 6 s m [x, y]) = (par (kindT x) (exS x) (0 + 1)).data.toList ++ cat [⟨#[32]⟩, ⟨#[43]⟩, ⟨#[32]⟩] ++ (par (kindT y) (exS y) (1 + 1)).data.toList := by unfold exT; rw [exS2]; simp [lay, cat]
 rw [hT]
 have hsz : (exS (.node 6 s m [x, y])).size = (par (kindT x) (exS x) (0 + 1)).size + 3 + (par (kindT y) (exS y) (1 + 1)).size := by
  rw [exS2, show lay 6 s m (kindT x) (exS x) (kindT y) (exS y) = par (kindT x) (exS x) (0 + 1) ++ ⟨#[32, 43, 32]⟩ ++ par (kindT y) (exS y) (1 + 1) by simp [lay], ByteArray.size_append, ByteArray.size_append]
  rfl
 rw [hsz] at hl
 have TI := mkHid (fun W => show Calls Tryz.prog 77 #[.int .i64 6] W (fun e w' => e = .returned (.int .i64 0) ∧ W = w') from ties_any 6 W)
 rcases hk with h0 | ⟨kb, o, rfl, _, hll⟩
 ·cases h0
 obtain ⟨xk, xs, xm, xkk⟩ := x
 obtain ⟨xa, xc, xc0, xc1, xc2, xc3, _, _, xkids⟩ := hll.at (i := 0) (show _ = some (T.node xk xs xm xkk) from rfl)
 simp only [Nat.zero_mul, Nat.add_zero] at xc0 xc1 xc2 xc3
 have xH := mkHid (And.intro xc0 (And.intro xc1 (And.intro xc2 xc3)))
 obtain ⟨yk, ys, ym, ykk⟩ := y
 obtain ⟨ya, yc, yc0, yc1, yc2, yc3, _, _, ykids⟩ := hll.at (i := 1) (show _ = some (T.node yk ys ym ykk) from rfl)
 simp only [Nat.one_mul] at yc0 yc1 yc2 yc3
 have yH := mkHid (And.intro yc0 (And.intro yc1 (And.intro yc2 yc3)))
 have hbw := World.block_lt_of_cell? W0 _ xc0
 have HF := mkHid (fun W => formOf_val 6 W (by omega))
 have t56 := ta64_56 ⟨#[43]⟩
 have t58 := ta64_58 ⟨#[43]⟩
 have t59 := ta64_59 ⟨#[43]⟩
 have t60 := ta64_60 ⟨#[43]⟩
 have t61 := ta64_61 ⟨#[43]⟩
 have t64 := ta64_64 ⟨#[43]⟩
 have A0 := har.alloc (.cells #[.int .i64 6, .string s, .int .i64 m, .slice (some ⟨kb, o, none⟩) 2 c] 38)
 have H0 := World.heap_alloc_new w #[.int .i64 6, .string s, .int .i64 m, .slice (some ⟨kb, o, none⟩) 2 c] 38
 have hnb : w.heap.size ≠ b := by have := har.pr.lt; omega
 have hfb : w.heap.size + 1 ≠ b := by have := har.pr.lt; omega
 show Calls Tryz.prog 53 #[.pointer (some ⟨b, 0, none⟩), .agg #[.int .i64 6, .string s, .int .i64 m, .slice (some ⟨kb, o, none⟩) 2 c]] w _
 have A1 := A0.alloc (.cells #[.string ⟨#[43]⟩] 128)
 have H1 : ((w.alloc (.cells #[.int .i64 6, .string s, .int .i64 m, .slice (some ⟨kb, o, none⟩) 2 c] 38)).alloc (.cells #[.string ⟨#[43]⟩] 128)).heap[w.heap.size]? = some (.cells #[.int .i64 6, .string s, .int .i64 m, .slice (some ⟨kb, o, none⟩) 2 c] 38 (0, 0)) := (Lib.alloc_old _ _ _ (by simp)).trans H0
 have K1 := mkHid ((((Below.refl B w).alloc har.hi (.cells #[.int .i64 6, .string s, .int .i64 m, .slice (some ⟨kb, o, none⟩) 2 c] 38)).alloc (Nat.le_trans har.hi (by simp)) (.cells #[.string ⟨#[43]⟩] 128)))
 have O1 := mkHid ((((Lib.OthersKept.refl 5 (some b) w).alloc (.cells #[.int .i64 6, .string s, .int .i64 m, .slice (some ⟨kb, o, none⟩) 2 c] 38)).alloc (.cells #[.string ⟨#[43]⟩] 128)))
 have FF := mkHid (World.heap_alloc_new (w.alloc (.cells #[.int .i64 6, .string s, .int .i64 m, .slice (some ⟨kb, o, none⟩) 2 c] 38)) #[.string ⟨#[43]⟩] 128)
 have AA := mkHid A1
 have HH := mkHid H1
 clear A0 H0 A1 H1 har
 go_enter Tryz.func53, Tryz.ntmps53
 go_wp2_with fail
 refine (HF.out _).mono ?_
 rintro e w1 ⟨rfl, rfl⟩
 rw [show typI 6 = 128 from rfl, show formVal 6 = .agg #[.string ⟨#[43]⟩] from rfl]
 go_wp2_with fail
 generalize (w.alloc (.cells #[.int .i64 6, .string s, .int .i64 m, .slice (some ⟨kb, o, none⟩) 2 c] 38)).alloc (.cells #[.string ⟨#[43]⟩] 128) = w1 at *
 have FF' : Hid (w1.heap[w.heap.size + 1]? = some (.cells #[.string ⟨#[43]⟩] 128 (0, 0))) := mkHid (by have := FF.out; simpa using this)
 clear FF
 have c0 : w1.cell? ⟨w.heap.size, 0, none⟩ = some (.int .i64 6) := by rw [Lib.cell_of_heap HH.out]; rfl
 have c1 : w1.cell? ⟨w.heap.size, 1, none⟩ = some (.string s) := by rw [Lib.cell_of_heap HH.out]; rfl
 have c2 : w1.cell? ⟨w.heap.size, 2, none⟩ = some (.int .i64 m) := by rw [Lib.cell_of_heap HH.out]; rfl
 have c3 : w1.cell? ⟨w.heap.size, 3, none⟩ = some (.slice (some ⟨kb, o, none⟩) 2 c) := by rw [Lib.cell_of_heap HH.out]; rfl
 have xq0 := (AA.out.old.cell (p := ⟨kb, _, none⟩) hbw).trans xH.out.1
 have xq1 := (AA.out.old.cell (p := ⟨kb, _, none⟩) hbw).trans xH.out.2.1
 have xq2 := (AA.out.old.cell (p := ⟨kb, _, none⟩) hbw).trans xH.out.2.2.1
 have xq3 := (AA.out.old.cell (p := ⟨kb, _, none⟩) hbw).trans xH.out.2.2.2
 go_region_held3 (fun w' => w'.cell? ⟨w.heap.size, 0, none⟩ = some (.int .i64 6) ∧ w'.cell? ⟨w.heap.size, 1, none⟩ = some (.string s) ∧ w'.cell? ⟨w.heap.size, 2, none⟩ = some (.int .i64 m) ∧ w'.cell? ⟨w.heap.size, 3, none⟩ = some (.slice (some ⟨kb, o, none⟩) 2 c) ∧ w'.cell? ⟨kb, o, none⟩ = some (.int .i64 xk) ∧ w'.cell? ⟨kb, o + 1, none⟩ = some (.string xs) ∧ w'.cell? ⟨kb, o + 2, none⟩ = some (.int .i64 xm) ∧ w'.cell? ⟨kb, o + 3, none⟩ = some (.slice xa xkk.length xc)) (first | exact ⟨c0, c1, c2, c3, xq0, xq1, xq2, xq3⟩ | exact ⟨d0, d1, d2, d3, e0, e1, e2, e3⟩) (first | (go_at_call 77; refine (TI.out _).mono ?_; rintro e w9 ⟨rfl, rfl⟩) | (go_at_call 76; refine (part_of xk xm xs xkk IX W0 dp B b _ xa xc 0 _ hx.good (by omega) xkids AA.out.drew (by have hl9 : l.length + ((par xk (exS (.node xk xs xm xkk)) (0 + 1)).size + 3 + (par yk (exS (.node yk ys ym ykk)) (1 + 1)).size) ≤ 100000000000000 := hl; omega)).mono ?_; rintro e w2 ⟨rfl, hp, hb, hk2⟩; have Hn := node_kept (w := w1.drew) HH.out hnb hk2; have d0 : w2.cell? ⟨w.heap.size, 0, none⟩ = some (.int .i64 6) := (by rw [Lib.cell_of_heap Hn]; rfl); have d1 : w2.cell? ⟨w.heap.size, 1, none⟩ = some (.string s) := (by rw [Lib.cell_of_heap Hn]; rfl); have d2 : w2.cell? ⟨w.heap.size, 2, none⟩ = some (.int .i64 m) := (by rw [Lib.cell_of_heap Hn]; rfl); have d3 : w2.cell? ⟨w.heap.size, 3, none⟩ = some (.slice (some ⟨kb, o, none⟩) 2 c) := (by rw [Lib.cell_of_heap Hn]; rfl); have An := AA.out.drew.step hp hb; have e0 := (An.old.cell (p := ⟨kb, _, none⟩) hbw).trans xH.out.1; have e1 := (An.old.cell (p := ⟨kb, _, none⟩) hbw).trans xH.out.2.1; have e2 := (An.old.cell (p := ⟨kb, _, none⟩) hbw).trans xH.out.2.2.1; have e3 := (An.old.cell (p := ⟨kb, _, none⟩) hbw).trans xH.out.2.2.2))
 have A2 := mkHid An
 have H2 := mkHid Hn
 have F2 := mkHid (hk2 _ _ FF'.out (by simpa using hfb) (by simp))
 have K2 := mkHid (K1.out.drew.trans hb)
 have O2 := mkHid (O1.out.drew.trans hk2)
 clear hp hb hk2 Hn An d0 d1 d2 d3 e0 e1 e2 e3 c0 c1 c2 c3 xq0 xq1 xq2 xq3 AA HH FF' K1 O1
 have f0 : w2.cell? ⟨w.heap.size + 1, 0, none⟩ = some (.string ⟨#[43]⟩) := by rw [Lib.cell_of_heap F2.out]; rfl
 go_wp2_with fail
 refine (put_new W0 dp B b _ [⟨#[32]⟩, ⟨#[43]⟩, ⟨#[32]⟩] #[.string ⟨#[32]⟩, .string ⟨#[43]⟩, .string ⟨#[32]⟩] _ _ rfl A2.out (by have hq := Lib.size_eq (par xk (exS (.node xk xs xm xkk)) (0 + 1)); have hl9 : l.length + ((par xk (exS (.node xk xs xm xkk)) (0 + 1)).size + 3 + (par yk (exS (.node yk ys ym ykk)) (1 + 1)).size) ≤ 100000000000000 := hl;  simp only [List.length_append, show (cat [ByteArray.mk #[32], ByteArray.mk #[43], ByteArray.mk #[32]]).length = 3 from rfl]; omega) (by simp) rfl).mono ?_
 rintro e w3 ⟨rfl, hp, hb, hk2⟩
 have A3 := mkHid (A2.out.step hp hb)
 have H3 := mkHid (node_kept H2.out hnb hk2)
 have K3 := mkHid (K2.out.trans hb)
 have O3 := mkHid (O2.out.trans hk2)
 clear hp hb hk2 A2 H2 K2 O2
 clear f0 F2
 have c0 : w3.cell? ⟨w.heap.size, 0, none⟩ = some (.int .i64 6) := by rw [Lib.cell_of_heap H3.out]; rfl
 have c1 : w3.cell? ⟨w.heap.size, 1, none⟩ = some (.string s) := by rw [Lib.cell_of_heap H3.out]; rfl
 have c2 : w3.cell? ⟨w.heap.size, 2, none⟩ = some (.int .i64 m) := by rw [Lib.cell_of_heap H3.out]; rfl
 have c3 : w3.cell? ⟨w.heap.size, 3, none⟩ = some (.slice (some ⟨kb, o, none⟩) 2 c) := by rw [Lib.cell_of_heap H3.out]; rfl
 have yq0 := (A3.out.old.cell (p := ⟨kb, _, none⟩) hbw).trans yH.out.1
 have yq1 := (A3.out.old.cell (p := ⟨kb, _, none⟩) hbw).trans yH.out.2.1
 have yq2 := (A3.out.old.cell (p := ⟨kb, _, none⟩) hbw).trans yH.out.2.2.1
 have yq3 := (A3.out.old.cell (p := ⟨kb, _, none⟩) hbw).trans yH.out.2.2.2
 go_wp2_with fail
 go_region_held3 (fun w' => w'.cell? ⟨w.heap.size, 0, none⟩ = some (.int .i64 6) ∧ w'.cell? ⟨w.heap.size, 1, none⟩ = some (.string s) ∧ w'.cell? ⟨w.heap.size, 2, none⟩ = some (.int .i64 m) ∧ w'.cell? ⟨w.heap.size, 3, none⟩ = some (.slice (some ⟨kb, o, none⟩) 2 c) ∧ w'.cell? ⟨kb, o + 4, none⟩ = some (.int .i64 yk) ∧ w'.cell? ⟨kb, o + 4 + 1, none⟩ = some (.string ys) ∧ w'.cell? ⟨kb, o + 4 + 2, none⟩ = some (.int .i64 ym) ∧ w'.cell? ⟨kb, o + 4 + 3, none⟩ = some (.slice ya ykk.length yc)) (first | exact ⟨c0, c1, c2, c3, yq0, yq1, yq2, yq3⟩ | exact ⟨d0, d1, d2, d3, e0, e1, e2, e3⟩) (first | (go_at_call 77; refine (TI.out _).mono ?_; rintro e w9 ⟨rfl, rfl⟩) | (go_at_call 76; refine (part_of yk ym ys ykk IY W0 dp B b _ ya yc 1 _ hy.good (by omega) ykids A3.out.drew (by have hq := Lib.size_eq (par xk (exS (.node xk xs xm xkk)) (0 + 1)); have hl9 : l.length + ((par xk (exS (.node xk xs xm xkk)) (0 + 1)).size + 3 + (par yk (exS (.node yk ys ym ykk)) (1 + 1)).size) ≤ 100000000000000 := hl; simp only [List.length_append, show (cat [ByteArray.mk #[32], ByteArray.mk #[43], ByteArray.mk #[32]]).length = 3 from rfl]; omega)).mono ?_; rintro e w4 ⟨rfl, hp, hb, hk2⟩; have Hn := node_kept (w := w3.drew) H3.out hnb hk2; have d0 : w4.cell? ⟨w.heap.size, 0, none⟩ = some (.int .i64 6) := (by rw [Lib.cell_of_heap Hn]; rfl); have d1 : w4.cell? ⟨w.heap.size, 1, none⟩ = some (.string s) := (by rw [Lib.cell_of_heap Hn]; rfl); have d2 : w4.cell? ⟨w.heap.size, 2, none⟩ = some (.int .i64 m) := (by rw [Lib.cell_of_heap Hn]; rfl); have d3 : w4.cell? ⟨w.heap.size, 3, none⟩ = some (.slice (some ⟨kb, o, none⟩) 2 c) := (by rw [Lib.cell_of_heap Hn]; rfl); have An := A3.out.drew.step hp hb; have e0 := (An.old.cell (p := ⟨kb, _, none⟩) hbw).trans yH.out.1; have e1 := (An.old.cell (p := ⟨kb, _, none⟩) hbw).trans yH.out.2.1; have e2 := (An.old.cell (p := ⟨kb, _, none⟩) hbw).trans yH.out.2.2.1; have e3 := (An.old.cell (p := ⟨kb, _, none⟩) hbw).trans yH.out.2.2.2))
 rw [List.append_assoc, List.append_assoc, ← List.append_assoc (par xk _ _).data.toList] at hp
 have M1 := mkHid hp
 have M2 := mkHid (K3.out.drew.trans hb)
 have M3 := mkHid (O3.out.drew.trans hk2)
 clear hp hb hk2 Hn An d0 d1 d2 d3 e0 e1 e2 e3 c0 c1 c2 c3 yq0 yq1 yq2 yq3 A3 H3 K3 O3
 go_wp2
 go_end0
 exact ⟨rfl, M1.out, M2.out, M3.out⟩

set_option maxRecDepth 100000 in
set_option maxHeartbeats 3200000 in
theorem pEx_pair7 (s : ByteArray) (m : Int) (x y : T) (IX : PEx x) (IY : PEx y) (hx : Good1 x) (hy : Good1 y) : PEx (.node 7 s m [x, y]) := by
 intro W0 dp B b l a c w hg hc hk har hl
 have hcx : cnt x + cnt y ≤ 499 := by simp only [cnt, cnts] at hc; omega
 have hT : exT (.node 7 s m [x, y]) = (par (kindT x) (exS x) (0 + 1)).data.toList ++ cat [⟨#[32]⟩, ⟨#[45]⟩, ⟨#[32]⟩] ++ (par (kindT y) (exS y) (1 + 1)).data.toList := by unfold exT; rw [exS2]; simp [lay, cat]
 rw [hT]
 have hsz : (exS (.node 7 s m [x, y])).size = (par (kindT x) (exS x) (0 + 1)).size + 3 + (par (kindT y) (exS y) (1 + 1)).size := by
  rw [exS2, show lay 7 s m (kindT x) (exS x) (kindT y) (exS y) = par (kindT x) (exS x) (0 + 1) ++ ⟨#[32, 45, 32]⟩ ++ par (kindT y) (exS y) (1 + 1) by simp [lay], ByteArray.size_append, ByteArray.size_append]
  rfl
 rw [hsz] at hl
 have TI := mkHid (fun W => show Calls Tryz.prog 77 #[.int .i64 7] W (fun e w' => e = .returned (.int .i64 0) ∧ W = w') from ties_any 7 W)
 rcases hk with h0 | ⟨kb, o, rfl, _, hll⟩
 ·cases h0
 obtain ⟨xk, xs, xm, xkk⟩ := x
 obtain ⟨xa, xc, xc0, xc1, xc2, xc3, _, _, xkids⟩ := hll.at (i := 0) (show _ = some (T.node xk xs xm xkk) from rfl)
 simp only [Nat.zero_mul, Nat.add_zero] at xc0 xc1 xc2 xc3
 have xH := mkHid (And.intro xc0 (And.intro xc1 (And.intro xc2 xc3)))
 obtain ⟨yk, ys, ym, ykk⟩ := y
 obtain ⟨ya, yc, yc0, yc1, yc2, yc3, _, _, ykids⟩ := hll.at (i := 1) (show _ = some (T.node yk ys ym ykk) from rfl)
 simp only [Nat.one_mul] at yc0 yc1 yc2 yc3
 have yH := mkHid (And.intro yc0 (And.intro yc1 (And.intro yc2 yc3)))
 have hbw := World.block_lt_of_cell? W0 _ xc0
 have HF := mkHid (fun W => formOf_val 7 W (by omega))
 have t56 := ta64_56 ⟨#[45]⟩
 have t58 := ta64_58 ⟨#[45]⟩
 have t59 := ta64_59 ⟨#[45]⟩
 have t60 := ta64_60 ⟨#[45]⟩
 have t61 := ta64_61 ⟨#[45]⟩
 have t64 := ta64_64 ⟨#[45]⟩
 have A0 := har.alloc (.cells #[.int .i64 7, .string s, .int .i64 m, .slice (some ⟨kb, o, none⟩) 2 c] 38)
 have H0 := World.heap_alloc_new w #[.int .i64 7, .string s, .int .i64 m, .slice (some ⟨kb, o, none⟩) 2 c] 38
 have hnb : w.heap.size ≠ b := by have := har.pr.lt; omega
 have hfb : w.heap.size + 1 ≠ b := by have := har.pr.lt; omega
 show Calls Tryz.prog 53 #[.pointer (some ⟨b, 0, none⟩), .agg #[.int .i64 7, .string s, .int .i64 m, .slice (some ⟨kb, o, none⟩) 2 c]] w _
 have A1 := A0.alloc (.cells #[.string ⟨#[45]⟩] 128)
 have H1 : ((w.alloc (.cells #[.int .i64 7, .string s, .int .i64 m, .slice (some ⟨kb, o, none⟩) 2 c] 38)).alloc (.cells #[.string ⟨#[45]⟩] 128)).heap[w.heap.size]? = some (.cells #[.int .i64 7, .string s, .int .i64 m, .slice (some ⟨kb, o, none⟩) 2 c] 38 (0, 0)) := (Lib.alloc_old _ _ _ (by simp)).trans H0
 have K1 := mkHid ((((Below.refl B w).alloc har.hi (.cells #[.int .i64 7, .string s, .int .i64 m, .slice (some ⟨kb, o, none⟩) 2 c] 38)).alloc (Nat.le_trans har.hi (by simp)) (.cells #[.string ⟨#[45]⟩] 128)))
 have O1 := mkHid ((((Lib.OthersKept.refl 5 (some b) w).alloc (.cells #[.int .i64 7, .string s, .int .i64 m, .slice (some ⟨kb, o, none⟩) 2 c] 38)).alloc (.cells #[.string ⟨#[45]⟩] 128)))
 have FF := mkHid (World.heap_alloc_new (w.alloc (.cells #[.int .i64 7, .string s, .int .i64 m, .slice (some ⟨kb, o, none⟩) 2 c] 38)) #[.string ⟨#[45]⟩] 128)
 have AA := mkHid A1
 have HH := mkHid H1
 clear A0 H0 A1 H1 har
 go_enter Tryz.func53, Tryz.ntmps53
 go_wp2_with fail
 refine (HF.out _).mono ?_
 rintro e w1 ⟨rfl, rfl⟩
 rw [show typI 7 = 128 from rfl, show formVal 7 = .agg #[.string ⟨#[45]⟩] from rfl]
 go_wp2_with fail
 generalize (w.alloc (.cells #[.int .i64 7, .string s, .int .i64 m, .slice (some ⟨kb, o, none⟩) 2 c] 38)).alloc (.cells #[.string ⟨#[45]⟩] 128) = w1 at *
 have FF' : Hid (w1.heap[w.heap.size + 1]? = some (.cells #[.string ⟨#[45]⟩] 128 (0, 0))) := mkHid (by have := FF.out; simpa using this)
 clear FF
 have c0 : w1.cell? ⟨w.heap.size, 0, none⟩ = some (.int .i64 7) := by rw [Lib.cell_of_heap HH.out]; rfl
 have c1 : w1.cell? ⟨w.heap.size, 1, none⟩ = some (.string s) := by rw [Lib.cell_of_heap HH.out]; rfl
 have c2 : w1.cell? ⟨w.heap.size, 2, none⟩ = some (.int .i64 m) := by rw [Lib.cell_of_heap HH.out]; rfl
 have c3 : w1.cell? ⟨w.heap.size, 3, none⟩ = some (.slice (some ⟨kb, o, none⟩) 2 c) := by rw [Lib.cell_of_heap HH.out]; rfl
 have xq0 := (AA.out.old.cell (p := ⟨kb, _, none⟩) hbw).trans xH.out.1
 have xq1 := (AA.out.old.cell (p := ⟨kb, _, none⟩) hbw).trans xH.out.2.1
 have xq2 := (AA.out.old.cell (p := ⟨kb, _, none⟩) hbw).trans xH.out.2.2.1
 have xq3 := (AA.out.old.cell (p := ⟨kb, _, none⟩) hbw).trans xH.out.2.2.2
 go_region_held3 (fun w' => w'.cell? ⟨w.heap.size, 0, none⟩ = some (.int .i64 7) ∧ w'.cell? ⟨w.heap.size, 1, none⟩ = some (.string s) ∧ w'.cell? ⟨w.heap.size, 2, none⟩ = some (.int .i64 m) ∧ w'.cell? ⟨w.heap.size, 3, none⟩ = some (.slice (some ⟨kb, o, none⟩) 2 c) ∧ w'.cell? ⟨kb, o, none⟩ = some (.int .i64 xk) ∧ w'.cell? ⟨kb, o + 1, none⟩ = some (.string xs) ∧ w'.cell? ⟨kb, o + 2, none⟩ = some (.int .i64 xm) ∧ w'.cell? ⟨kb, o + 3, none⟩ = some (.slice xa xkk.length xc)) (first | exact ⟨c0, c1, c2, c3, xq0, xq1, xq2, xq3⟩ | exact ⟨d0, d1, d2, d3, e0, e1, e2, e3⟩) (first | (go_at_call 77; refine (TI.out _).mono ?_; rintro e w9 ⟨rfl, rfl⟩) | (go_at_call 76; refine (part_of xk xm xs xkk IX W0 dp B b _ xa xc 0 _ hx.good (by omega) xkids AA.out.drew (by have hl9 : l.length + ((par xk (exS (.node xk xs xm xkk)) (0 + 1)).size + 3 + (par yk (exS (.node yk ys ym ykk)) (1 + 1)).size) ≤ 100000000000000 := hl; omega)).mono ?_; rintro e w2 ⟨rfl, hp, hb, hk2⟩; have Hn := node_kept (w := w1.drew) HH.out hnb hk2; have d0 : w2.cell? ⟨w.heap.size, 0, none⟩ = some (.int .i64 7) := (by rw [Lib.cell_of_heap Hn]; rfl); have d1 : w2.cell? ⟨w.heap.size, 1, none⟩ = some (.string s) := (by rw [Lib.cell_of_heap Hn]; rfl); have d2 : w2.cell? ⟨w.heap.size, 2, none⟩ = some (.int .i64 m) := (by rw [Lib.cell_of_heap Hn]; rfl); have d3 : w2.cell? ⟨w.heap.size, 3, none⟩ = some (.slice (some ⟨kb, o, none⟩) 2 c) := (by rw [Lib.cell_of_heap Hn]; rfl); have An := AA.out.drew.step hp hb; have e0 := (An.old.cell (p := ⟨kb, _, none⟩) hbw).trans xH.out.1; have e1 := (An.old.cell (p := ⟨kb, _, none⟩) hbw).trans xH.out.2.1; have e2 := (An.old.cell (p := ⟨kb, _, none⟩) hbw).trans xH.out.2.2.1; have e3 := (An.old.cell (p := ⟨kb, _, none⟩) hbw).trans xH.out.2.2.2))
 have A2 := mkHid An
 have H2 := mkHid Hn
 have F2 := mkHid (hk2 _ _ FF'.out (by simpa using hfb) (by simp))
 have K2 := mkHid (K1.out.drew.trans hb)
 have O2 := mkHid (O1.out.drew.trans hk2)
 clear hp hb hk2 Hn An d0 d1 d2 d3 e0 e1 e2 e3 c0 c1 c2 c3 xq0 xq1 xq2 xq3 AA HH FF' K1 O1
 have f0 : w2.cell? ⟨w.heap.size + 1, 0, none⟩ = some (.string ⟨#[45]⟩) := by rw [Lib.cell_of_heap F2.out]; rfl
 go_wp2_with fail
 refine (put_new W0 dp B b _ [⟨#[32]⟩, ⟨#[45]⟩, ⟨#[32]⟩] #[.string ⟨#[32]⟩, .string ⟨#[45]⟩, .string ⟨#[32]⟩] _ _ rfl A2.out (by have hq := Lib.size_eq (par xk (exS (.node xk xs xm xkk)) (0 + 1)); have hl9 : l.length + ((par xk (exS (.node xk xs xm xkk)) (0 + 1)).size + 3 + (par yk (exS (.node yk ys ym ykk)) (1 + 1)).size) ≤ 100000000000000 := hl;  simp only [List.length_append, show (cat [ByteArray.mk #[32], ByteArray.mk #[45], ByteArray.mk #[32]]).length = 3 from rfl]; omega) (by simp) rfl).mono ?_
 rintro e w3 ⟨rfl, hp, hb, hk2⟩
 have A3 := mkHid (A2.out.step hp hb)
 have H3 := mkHid (node_kept H2.out hnb hk2)
 have K3 := mkHid (K2.out.trans hb)
 have O3 := mkHid (O2.out.trans hk2)
 clear hp hb hk2 A2 H2 K2 O2
 clear f0 F2
 have c0 : w3.cell? ⟨w.heap.size, 0, none⟩ = some (.int .i64 7) := by rw [Lib.cell_of_heap H3.out]; rfl
 have c1 : w3.cell? ⟨w.heap.size, 1, none⟩ = some (.string s) := by rw [Lib.cell_of_heap H3.out]; rfl
 have c2 : w3.cell? ⟨w.heap.size, 2, none⟩ = some (.int .i64 m) := by rw [Lib.cell_of_heap H3.out]; rfl
 have c3 : w3.cell? ⟨w.heap.size, 3, none⟩ = some (.slice (some ⟨kb, o, none⟩) 2 c) := by rw [Lib.cell_of_heap H3.out]; rfl
 have yq0 := (A3.out.old.cell (p := ⟨kb, _, none⟩) hbw).trans yH.out.1
 have yq1 := (A3.out.old.cell (p := ⟨kb, _, none⟩) hbw).trans yH.out.2.1
 have yq2 := (A3.out.old.cell (p := ⟨kb, _, none⟩) hbw).trans yH.out.2.2.1
 have yq3 := (A3.out.old.cell (p := ⟨kb, _, none⟩) hbw).trans yH.out.2.2.2
 go_wp2_with fail
 go_region_held3 (fun w' => w'.cell? ⟨w.heap.size, 0, none⟩ = some (.int .i64 7) ∧ w'.cell? ⟨w.heap.size, 1, none⟩ = some (.string s) ∧ w'.cell? ⟨w.heap.size, 2, none⟩ = some (.int .i64 m) ∧ w'.cell? ⟨w.heap.size, 3, none⟩ = some (.slice (some ⟨kb, o, none⟩) 2 c) ∧ w'.cell? ⟨kb, o + 4, none⟩ = some (.int .i64 yk) ∧ w'.cell? ⟨kb, o + 4 + 1, none⟩ = some (.string ys) ∧ w'.cell? ⟨kb, o + 4 + 2, none⟩ = some (.int .i64 ym) ∧ w'.cell? ⟨kb, o + 4 + 3, none⟩ = some (.slice ya ykk.length yc)) (first | exact ⟨c0, c1, c2, c3, yq0, yq1, yq2, yq3⟩ | exact ⟨d0, d1, d2, d3, e0, e1, e2, e3⟩) (first | (go_at_call 77; refine (TI.out _).mono ?_; rintro e w9 ⟨rfl, rfl⟩) | (go_at_call 76; refine (part_of yk ym ys ykk IY W0 dp B b _ ya yc 1 _ hy.good (by omega) ykids A3.out.drew (by have hq := Lib.size_eq (par xk (exS (.node xk xs xm xkk)) (0 + 1)); have hl9 : l.length + ((par xk (exS (.node xk xs xm xkk)) (0 + 1)).size + 3 + (par yk (exS (.node yk ys ym ykk)) (1 + 1)).size) ≤ 100000000000000 := hl; simp only [List.length_append, show (cat [ByteArray.mk #[32], ByteArray.mk #[45], ByteArray.mk #[32]]).length = 3 from rfl]; omega)).mono ?_; rintro e w4 ⟨rfl, hp, hb, hk2⟩; have Hn := node_kept (w := w3.drew) H3.out hnb hk2; have d0 : w4.cell? ⟨w.heap.size, 0, none⟩ = some (.int .i64 7) := (by rw [Lib.cell_of_heap Hn]; rfl); have d1 : w4.cell? ⟨w.heap.size, 1, none⟩ = some (.string s) := (by rw [Lib.cell_of_heap Hn]; rfl); have d2 : w4.cell? ⟨w.heap.size, 2, none⟩ = some (.int .i64 m) := (by rw [Lib.cell_of_heap Hn]; rfl); have d3 : w4.cell? ⟨w.heap.size, 3, none⟩ = some (.slice (some ⟨kb, o, none⟩) 2 c) := (by rw [Lib.cell_of_heap Hn]; rfl); have An := A3.out.drew.step hp hb; have e0 := (An.old.cell (p := ⟨kb, _, none⟩) hbw).trans yH.out.1; have e1 := (An.old.cell (p := ⟨kb, _, none⟩) hbw).trans yH.out.2.1; have e2 := (An.old.cell (p := ⟨kb, _, none⟩) hbw).trans yH.out.2.2.1; have e3 := (An.old.cell (p := ⟨kb, _, none⟩) hbw).trans yH.out.2.2.2))
 rw [List.append_assoc, List.append_assoc, ← List.append_assoc (par xk _ _).data.toList] at hp
 have M1 := mkHid hp
 have M2 := mkHid (K3.out.drew.trans hb)
 have M3 := mkHid (O3.out.drew.trans hk2)
 clear hp hb hk2 Hn An d0 d1 d2 d3 e0 e1 e2 e3 c0 c1 c2 c3 yq0 yq1 yq2 yq3 A3 H3 K3 O3
 go_wp2
 go_end0
 exact ⟨rfl, M1.out, M2.out, M3.out⟩

set_option maxRecDepth 100000 in
set_option maxHeartbeats 3200000 in
theorem pEx_pair8 (s : ByteArray) (m : Int) (x y : T) (IX : PEx x) (IY : PEx y) (hx : Good1 x) (hy : Good1 y) : PEx (.node 8 s m [x, y]) := by
 intro W0 dp B b l a c w hg hc hk har hl
 have hcx : cnt x + cnt y ≤ 499 := by simp only [cnt, cnts] at hc; omega
 have hT : exT (.node 8 s m [x, y]) = (par (kindT x) (exS x) (1 + 1)).data.toList ++ cat [⟨#[32]⟩, ⟨#[42]⟩, ⟨#[32]⟩] ++ (par (kindT y) (exS y) (2 + 1)).data.toList := by unfold exT; rw [exS2]; simp [lay, cat]
 rw [hT]
 have hsz : (exS (.node 8 s m [x, y])).size = (par (kindT x) (exS x) (1 + 1)).size + 3 + (par (kindT y) (exS y) (2 + 1)).size := by
  rw [exS2, show lay 8 s m (kindT x) (exS x) (kindT y) (exS y) = par (kindT x) (exS x) (1 + 1) ++ ⟨#[32, 42, 32]⟩ ++ par (kindT y) (exS y) (2 + 1) by simp [lay], ByteArray.size_append, ByteArray.size_append]
  rfl
 rw [hsz] at hl
 have TI := mkHid (fun W => show Calls Tryz.prog 77 #[.int .i64 8] W (fun e w' => e = .returned (.int .i64 1) ∧ W = w') from ties_any 8 W)
 rcases hk with h0 | ⟨kb, o, rfl, _, hll⟩
 ·cases h0
 obtain ⟨xk, xs, xm, xkk⟩ := x
 obtain ⟨xa, xc, xc0, xc1, xc2, xc3, _, _, xkids⟩ := hll.at (i := 0) (show _ = some (T.node xk xs xm xkk) from rfl)
 simp only [Nat.zero_mul, Nat.add_zero] at xc0 xc1 xc2 xc3
 have xH := mkHid (And.intro xc0 (And.intro xc1 (And.intro xc2 xc3)))
 obtain ⟨yk, ys, ym, ykk⟩ := y
 obtain ⟨ya, yc, yc0, yc1, yc2, yc3, _, _, ykids⟩ := hll.at (i := 1) (show _ = some (T.node yk ys ym ykk) from rfl)
 simp only [Nat.one_mul] at yc0 yc1 yc2 yc3
 have yH := mkHid (And.intro yc0 (And.intro yc1 (And.intro yc2 yc3)))
 have hbw := World.block_lt_of_cell? W0 _ xc0
 have HF := mkHid (fun W => formOf_val 8 W (by omega))
 have t56 := ta64_56 ⟨#[42]⟩
 have t58 := ta64_58 ⟨#[42]⟩
 have t59 := ta64_59 ⟨#[42]⟩
 have t60 := ta64_60 ⟨#[42]⟩
 have t61 := ta64_61 ⟨#[42]⟩
 have t64 := ta64_64 ⟨#[42]⟩
 have A0 := har.alloc (.cells #[.int .i64 8, .string s, .int .i64 m, .slice (some ⟨kb, o, none⟩) 2 c] 38)
 have H0 := World.heap_alloc_new w #[.int .i64 8, .string s, .int .i64 m, .slice (some ⟨kb, o, none⟩) 2 c] 38
 have hnb : w.heap.size ≠ b := by have := har.pr.lt; omega
 have hfb : w.heap.size + 1 ≠ b := by have := har.pr.lt; omega
 show Calls Tryz.prog 53 #[.pointer (some ⟨b, 0, none⟩), .agg #[.int .i64 8, .string s, .int .i64 m, .slice (some ⟨kb, o, none⟩) 2 c]] w _
 have A1 := A0.alloc (.cells #[.string ⟨#[42]⟩] 128)
 have H1 : ((w.alloc (.cells #[.int .i64 8, .string s, .int .i64 m, .slice (some ⟨kb, o, none⟩) 2 c] 38)).alloc (.cells #[.string ⟨#[42]⟩] 128)).heap[w.heap.size]? = some (.cells #[.int .i64 8, .string s, .int .i64 m, .slice (some ⟨kb, o, none⟩) 2 c] 38 (0, 0)) := (Lib.alloc_old _ _ _ (by simp)).trans H0
 have K1 := mkHid ((((Below.refl B w).alloc har.hi (.cells #[.int .i64 8, .string s, .int .i64 m, .slice (some ⟨kb, o, none⟩) 2 c] 38)).alloc (Nat.le_trans har.hi (by simp)) (.cells #[.string ⟨#[42]⟩] 128)))
 have O1 := mkHid ((((Lib.OthersKept.refl 5 (some b) w).alloc (.cells #[.int .i64 8, .string s, .int .i64 m, .slice (some ⟨kb, o, none⟩) 2 c] 38)).alloc (.cells #[.string ⟨#[42]⟩] 128)))
 have FF := mkHid (World.heap_alloc_new (w.alloc (.cells #[.int .i64 8, .string s, .int .i64 m, .slice (some ⟨kb, o, none⟩) 2 c] 38)) #[.string ⟨#[42]⟩] 128)
 have AA := mkHid A1
 have HH := mkHid H1
 clear A0 H0 A1 H1 har
 go_enter Tryz.func53, Tryz.ntmps53
 go_wp2_with fail
 refine (HF.out _).mono ?_
 rintro e w1 ⟨rfl, rfl⟩
 rw [show typI 8 = 128 from rfl, show formVal 8 = .agg #[.string ⟨#[42]⟩] from rfl]
 go_wp2_with fail
 generalize (w.alloc (.cells #[.int .i64 8, .string s, .int .i64 m, .slice (some ⟨kb, o, none⟩) 2 c] 38)).alloc (.cells #[.string ⟨#[42]⟩] 128) = w1 at *
 have FF' : Hid (w1.heap[w.heap.size + 1]? = some (.cells #[.string ⟨#[42]⟩] 128 (0, 0))) := mkHid (by have := FF.out; simpa using this)
 clear FF
 have c0 : w1.cell? ⟨w.heap.size, 0, none⟩ = some (.int .i64 8) := by rw [Lib.cell_of_heap HH.out]; rfl
 have c1 : w1.cell? ⟨w.heap.size, 1, none⟩ = some (.string s) := by rw [Lib.cell_of_heap HH.out]; rfl
 have c2 : w1.cell? ⟨w.heap.size, 2, none⟩ = some (.int .i64 m) := by rw [Lib.cell_of_heap HH.out]; rfl
 have c3 : w1.cell? ⟨w.heap.size, 3, none⟩ = some (.slice (some ⟨kb, o, none⟩) 2 c) := by rw [Lib.cell_of_heap HH.out]; rfl
 have xq0 := (AA.out.old.cell (p := ⟨kb, _, none⟩) hbw).trans xH.out.1
 have xq1 := (AA.out.old.cell (p := ⟨kb, _, none⟩) hbw).trans xH.out.2.1
 have xq2 := (AA.out.old.cell (p := ⟨kb, _, none⟩) hbw).trans xH.out.2.2.1
 have xq3 := (AA.out.old.cell (p := ⟨kb, _, none⟩) hbw).trans xH.out.2.2.2
 go_region_held3 (fun w' => w'.cell? ⟨w.heap.size, 0, none⟩ = some (.int .i64 8) ∧ w'.cell? ⟨w.heap.size, 1, none⟩ = some (.string s) ∧ w'.cell? ⟨w.heap.size, 2, none⟩ = some (.int .i64 m) ∧ w'.cell? ⟨w.heap.size, 3, none⟩ = some (.slice (some ⟨kb, o, none⟩) 2 c) ∧ w'.cell? ⟨kb, o, none⟩ = some (.int .i64 xk) ∧ w'.cell? ⟨kb, o + 1, none⟩ = some (.string xs) ∧ w'.cell? ⟨kb, o + 2, none⟩ = some (.int .i64 xm) ∧ w'.cell? ⟨kb, o + 3, none⟩ = some (.slice xa xkk.length xc)) (first | exact ⟨c0, c1, c2, c3, xq0, xq1, xq2, xq3⟩ | exact ⟨d0, d1, d2, d3, e0, e1, e2, e3⟩) (first | (go_at_call 77; refine (TI.out _).mono ?_; rintro e w9 ⟨rfl, rfl⟩) | (go_at_call 76; refine (part_of xk xm xs xkk IX W0 dp B b _ xa xc 1 _ hx.good (by omega) xkids AA.out.drew (by have hl9 : l.length + ((par xk (exS (.node xk xs xm xkk)) (1 + 1)).size + 3 + (par yk (exS (.node yk ys ym ykk)) (2 + 1)).size) ≤ 100000000000000 := hl; omega)).mono ?_; rintro e w2 ⟨rfl, hp, hb, hk2⟩; have Hn := node_kept (w := w1.drew) HH.out hnb hk2; have d0 : w2.cell? ⟨w.heap.size, 0, none⟩ = some (.int .i64 8) := (by rw [Lib.cell_of_heap Hn]; rfl); have d1 : w2.cell? ⟨w.heap.size, 1, none⟩ = some (.string s) := (by rw [Lib.cell_of_heap Hn]; rfl); have d2 : w2.cell? ⟨w.heap.size, 2, none⟩ = some (.int .i64 m) := (by rw [Lib.cell_of_heap Hn]; rfl); have d3 : w2.cell? ⟨w.heap.size, 3, none⟩ = some (.slice (some ⟨kb, o, none⟩) 2 c) := (by rw [Lib.cell_of_heap Hn]; rfl); have An := AA.out.drew.step hp hb; have e0 := (An.old.cell (p := ⟨kb, _, none⟩) hbw).trans xH.out.1; have e1 := (An.old.cell (p := ⟨kb, _, none⟩) hbw).trans xH.out.2.1; have e2 := (An.old.cell (p := ⟨kb, _, none⟩) hbw).trans xH.out.2.2.1; have e3 := (An.old.cell (p := ⟨kb, _, none⟩) hbw).trans xH.out.2.2.2))
 have A2 := mkHid An
 have H2 := mkHid Hn
 have F2 := mkHid (hk2 _ _ FF'.out (by simpa using hfb) (by simp))
 have K2 := mkHid (K1.out.drew.trans hb)
 have O2 := mkHid (O1.out.drew.trans hk2)
 clear hp hb hk2 Hn An d0 d1 d2 d3 e0 e1 e2 e3 c0 c1 c2 c3 xq0 xq1 xq2 xq3 AA HH FF' K1 O1
 have f0 : w2.cell? ⟨w.heap.size + 1, 0, none⟩ = some (.string ⟨#[42]⟩) := by rw [Lib.cell_of_heap F2.out]; rfl
 go_wp2_with fail
 refine (put_new W0 dp B b _ [⟨#[32]⟩, ⟨#[42]⟩, ⟨#[32]⟩] #[.string ⟨#[32]⟩, .string ⟨#[42]⟩, .string ⟨#[32]⟩] _ _ rfl A2.out (by have hq := Lib.size_eq (par xk (exS (.node xk xs xm xkk)) (1 + 1)); have hl9 : l.length + ((par xk (exS (.node xk xs xm xkk)) (1 + 1)).size + 3 + (par yk (exS (.node yk ys ym ykk)) (2 + 1)).size) ≤ 100000000000000 := hl;  simp only [List.length_append, show (cat [ByteArray.mk #[32], ByteArray.mk #[42], ByteArray.mk #[32]]).length = 3 from rfl]; omega) (by simp) rfl).mono ?_
 rintro e w3 ⟨rfl, hp, hb, hk2⟩
 have A3 := mkHid (A2.out.step hp hb)
 have H3 := mkHid (node_kept H2.out hnb hk2)
 have K3 := mkHid (K2.out.trans hb)
 have O3 := mkHid (O2.out.trans hk2)
 clear hp hb hk2 A2 H2 K2 O2
 clear f0 F2
 have c0 : w3.cell? ⟨w.heap.size, 0, none⟩ = some (.int .i64 8) := by rw [Lib.cell_of_heap H3.out]; rfl
 have c1 : w3.cell? ⟨w.heap.size, 1, none⟩ = some (.string s) := by rw [Lib.cell_of_heap H3.out]; rfl
 have c2 : w3.cell? ⟨w.heap.size, 2, none⟩ = some (.int .i64 m) := by rw [Lib.cell_of_heap H3.out]; rfl
 have c3 : w3.cell? ⟨w.heap.size, 3, none⟩ = some (.slice (some ⟨kb, o, none⟩) 2 c) := by rw [Lib.cell_of_heap H3.out]; rfl
 have yq0 := (A3.out.old.cell (p := ⟨kb, _, none⟩) hbw).trans yH.out.1
 have yq1 := (A3.out.old.cell (p := ⟨kb, _, none⟩) hbw).trans yH.out.2.1
 have yq2 := (A3.out.old.cell (p := ⟨kb, _, none⟩) hbw).trans yH.out.2.2.1
 have yq3 := (A3.out.old.cell (p := ⟨kb, _, none⟩) hbw).trans yH.out.2.2.2
 go_wp2_with fail
 go_region_held3 (fun w' => w'.cell? ⟨w.heap.size, 0, none⟩ = some (.int .i64 8) ∧ w'.cell? ⟨w.heap.size, 1, none⟩ = some (.string s) ∧ w'.cell? ⟨w.heap.size, 2, none⟩ = some (.int .i64 m) ∧ w'.cell? ⟨w.heap.size, 3, none⟩ = some (.slice (some ⟨kb, o, none⟩) 2 c) ∧ w'.cell? ⟨kb, o + 4, none⟩ = some (.int .i64 yk) ∧ w'.cell? ⟨kb, o + 4 + 1, none⟩ = some (.string ys) ∧ w'.cell? ⟨kb, o + 4 + 2, none⟩ = some (.int .i64 ym) ∧ w'.cell? ⟨kb, o + 4 + 3, none⟩ = some (.slice ya ykk.length yc)) (first | exact ⟨c0, c1, c2, c3, yq0, yq1, yq2, yq3⟩ | exact ⟨d0, d1, d2, d3, e0, e1, e2, e3⟩) (first | (go_at_call 77; refine (TI.out _).mono ?_; rintro e w9 ⟨rfl, rfl⟩) | (go_at_call 76; refine (part_of yk ym ys ykk IY W0 dp B b _ ya yc 2 _ hy.good (by omega) ykids A3.out.drew (by have hq := Lib.size_eq (par xk (exS (.node xk xs xm xkk)) (1 + 1)); have hl9 : l.length + ((par xk (exS (.node xk xs xm xkk)) (1 + 1)).size + 3 + (par yk (exS (.node yk ys ym ykk)) (2 + 1)).size) ≤ 100000000000000 := hl; simp only [List.length_append, show (cat [ByteArray.mk #[32], ByteArray.mk #[42], ByteArray.mk #[32]]).length = 3 from rfl]; omega)).mono ?_; rintro e w4 ⟨rfl, hp, hb, hk2⟩; have Hn := node_kept (w := w3.drew) H3.out hnb hk2; have d0 : w4.cell? ⟨w.heap.size, 0, none⟩ = some (.int .i64 8) := (by rw [Lib.cell_of_heap Hn]; rfl); have d1 : w4.cell? ⟨w.heap.size, 1, none⟩ = some (.string s) := (by rw [Lib.cell_of_heap Hn]; rfl); have d2 : w4.cell? ⟨w.heap.size, 2, none⟩ = some (.int .i64 m) := (by rw [Lib.cell_of_heap Hn]; rfl); have d3 : w4.cell? ⟨w.heap.size, 3, none⟩ = some (.slice (some ⟨kb, o, none⟩) 2 c) := (by rw [Lib.cell_of_heap Hn]; rfl); have An := A3.out.drew.step hp hb; have e0 := (An.old.cell (p := ⟨kb, _, none⟩) hbw).trans yH.out.1; have e1 := (An.old.cell (p := ⟨kb, _, none⟩) hbw).trans yH.out.2.1; have e2 := (An.old.cell (p := ⟨kb, _, none⟩) hbw).trans yH.out.2.2.1; have e3 := (An.old.cell (p := ⟨kb, _, none⟩) hbw).trans yH.out.2.2.2))
 rw [List.append_assoc, List.append_assoc, ← List.append_assoc (par xk _ _).data.toList] at hp
 have M1 := mkHid hp
 have M2 := mkHid (K3.out.drew.trans hb)
 have M3 := mkHid (O3.out.drew.trans hk2)
 clear hp hb hk2 Hn An d0 d1 d2 d3 e0 e1 e2 e3 c0 c1 c2 c3 yq0 yq1 yq2 yq3 A3 H3 K3 O3
 go_wp2
 go_end0
 exact ⟨rfl, M1.out, M2.out, M3.out⟩
end Go.Proofs.YtedfnadgmhjojaaGreatDoor
