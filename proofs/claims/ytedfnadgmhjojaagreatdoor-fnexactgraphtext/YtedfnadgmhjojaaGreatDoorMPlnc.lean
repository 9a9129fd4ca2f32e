/-
  CONTRACTS of the printer's line: if.
  CONTRACTS of the printer's line: arrays; all lines.
-/
import Derived.Test.YtedfnadgmhjojaaGreatDoorMPln
namespace Go.Proofs.YtedfnadgmhjojaaGreatDoor
open Go.RowKit
open Pl

set_option linter.unusedSimpArgs false in
theorem ap_if (s : ByteArray) (x : T) (ykk : List T) (zkk : List T) (hz : kidsEmpty (.node 30 nil_ 0 zkk) = true) (n : Nat) : (lnS (.node 24 s 0 [x, (.node 30 nil_ 0 ykk), (.node 30 nil_ 0 zkk)]) (padB n)).data.toList = padL n ++ (cat [⟨#[105, 102, 32]⟩] ++ exT x ++ ([32, 123, 10] ++ (catS (lnSs ykk (padB (n + 1)))).data.toList ++ padL n ++ [125])) ++ [10] := by
 rw [lnS_eq]
 rw [exSs3, lnSs3]
 rw [show ((([x, .node 30 nil_ 0 ykk, .node 30 nil_ 0 zkk] : List T)[2]?).map kidsEmpty).getD true = true from hz]
 show (ByteArray.data (padB n ++ ⟨#[105, 102, 32]⟩ ++ exS x ++ ⟨#[32, 123, 10]⟩ ++ lnS (.node 30 nil_ 0 ykk) (padB n ++ ⟨#[32, 32]⟩) ++ padB n ++ ⟨#[125, 10]⟩)).toList = _
 rw [← padB_succ]
 simp only [lnS_block]
 simp only [toL_app, padB_list, cat, exT, List.flatMap_cons, List.flatMap_nil, List.append_nil, List.append_assoc]
 rfl
set_option linter.unusedSimpArgs false in
set_option maxRecDepth 100000 in
set_option maxHeartbeats 8000000 in
theorem pLn_if (s : ByteArray) (x : T) (ykk : List T) (zkk : List T) (hx : GoodC x) (Iy : ∀ t ∈ ykk, PLn t ∧ Apart t) (hz : kidsEmpty (.node 30 nil_ 0 zkk) = true) : PLn (.node 24 s 0 [x, (.node 30 nil_ 0 ykk), (.node 30 nil_ 0 zkk)]) := by
 intro W0 n B b l a c w hc hp hk har hl
 have hcx : cnt x + cnt (.node 30 nil_ 0 ykk) + cnt (.node 30 nil_ 0 zkk) ≤ 499 := by simp only [cnt, cnts] at hc ⊢; omega
 have hn9 : n ≤ 499 := by simp only [dep] at hp; omega
 have hcy : ∀ t ∈ ykk, cnt t ≤ 500 := fun t ht => by have := cnt_mem ht; simp only [cnt] at hcx; omega
 have hdy : ∀ t ∈ ykk, 2 * (n + 1) + 2 * dep t ≤ 1000 := fun t ht => by have := dep_mem ht; simp only [dep, deps] at hp; omega
 have hmy : ykk.length ≤ 1000000 := by have : ∀ q : List T, q.length ≤ cnts q := (fun q => by induction q with | nil => exact Nat.zero_le _ | cons x r ih => have : 1 ≤ cnt x := (by cases x; simp only [cnt]; omega); simp only [List.length_cons, cnts]; omega); have := this ykk; simp only [cnt] at hcx; omega
 have hcz : ∀ t ∈ zkk, cnt t ≤ 500 := fun t ht => by have := cnt_mem ht; simp only [cnt] at hcx; omega
 have hdz : ∀ t ∈ zkk, 2 * (n + 1) + 2 * dep t ≤ 1000 := fun t ht => by have := dep_mem ht; simp only [dep, deps] at hp; omega
 have hmz : zkk.length ≤ 1000000 := by have : ∀ q : List T, q.length ≤ cnts q := (fun q => by induction q with | nil => exact Nat.zero_le _ | cons x r ih => have : 1 ≤ cnt x := (by cases x; simp only [cnt]; omega); simp only [List.length_cons, cnts]; omega); have := this zkk; simp only [cnt] at hcx; omega
 rw [inT_of (ap_if s x ykk zkk hz n)] at hl ⊢
 simp only [List.length_append, cl_cons, cl_nil, bz, List.size_toArray, List.length_cons, List.length_nil, padL_len] at hl
 rcases hk with h0 | ⟨kb, o, rfl, _, hll⟩
 ·cases h0
 have hAx : (exT x).length = (exS x).size := (Lib.size_eq _).symm
 obtain ⟨xk, xs, xm, xkk⟩ := x
 obtain ⟨xa, xc, xc0, xc1, xc2, xc3, _, _, xkids⟩ := hll.at (i := 0) (show _ = some (T.node xk xs xm xkk) from rfl)
 simp only [Nat.zero_mul, Nat.add_zero] at xc0 xc1 xc2 xc3
 have xH := mkHid (And.intro xc0 (And.intro xc1 (And.intro xc2 xc3)))
 have hQy : (catS (lnSs ykk (padB (n + 1)))).data.toList.length = (catS (lnSs ykk (padB (n + 1)))).size := (Lib.size_eq _).symm
 obtain ⟨ya, yc, yc0, yc1, yc2, yc3, _, _, ykids⟩ := hll.at (i := 1) (show _ = some (T.node 30 nil_ 0 ykk) from rfl)
 simp only [Nat.one_mul] at yc0 yc1 yc2 yc3
 have yH := mkHid (And.intro yc0 (And.intro yc1 (And.intro yc2 yc3)))
 have hQz : (catS (lnSs zkk (padB (n + 1)))).data.toList.length = (catS (lnSs zkk (padB (n + 1)))).size := (Lib.size_eq _).symm
 obtain ⟨za, zc, zc0, zc1, zc2, zc3, _, _, zkids⟩ := hll.at (i := 2) (show _ = some (T.node 30 nil_ 0 zkk) from rfl)
 simp only [Nat.reduceMul] at zc0 zc1 zc2 zc3
 have zH := mkHid (And.intro zc0 (And.intro zc1 (And.intro zc2 zc3)))
 have hbw : kb < W0.heap.size := World.block_lt_of_cell? W0 _ xc0
 clear xc0 xc1 xc2 xc3 yc0 yc1 yc2 yc3 zc0 zc1 zc2 zc3
 have HF := mkHid (fun W => formOf_stmt 24 W (by omega))
 have t127 := tb136_127
 have t128 := tb136_128
 have t130 := tb136_130
 have t131 := tb136_131
 have t132 := tb136_132
 have t133 := tb136_133
 have t135 := tb136_135
 have t136 := tb136_136
 have A0 := har.alloc (.cells #[.int .i64 24, .string s, .int .i64 0, .slice (some ⟨kb, o, none⟩) 3 c] 38)
 have H0 := World.heap_alloc_new w #[.int .i64 24, .string s, .int .i64 0, .slice (some ⟨kb, o, none⟩) 3 c] 38
 have hnb : w.heap.size ≠ b := by have := har.pr.lt; omega
 have A1 := A0.alloc (.cells #[] 158)
 have H1 : ((w.alloc (.cells #[.int .i64 24, .string s, .int .i64 0, .slice (some ⟨kb, o, none⟩) 3 c] 38)).alloc (.cells #[] 158)).heap[w.heap.size]? = some (.cells #[.int .i64 24, .string s, .int .i64 0, .slice (some ⟨kb, o, none⟩) 3 c] 38 (0, 0)) := (Lib.alloc_old _ _ _ (by simp)).trans H0
 have K1 := mkHid ((((Below.refl B w).alloc har.hi (.cells #[.int .i64 24, .string s, .int .i64 0, .slice (some ⟨kb, o, none⟩) 3 c] 38)).alloc (Nat.le_trans har.hi (by simp)) (.cells #[] 158)))
 have O1 := mkHid ((((Lib.OthersKept.refl 5 (some b) w).alloc (.cells #[.int .i64 24, .string s, .int .i64 0, .slice (some ⟨kb, o, none⟩) 3 c] 38)).alloc (.cells #[] 158)))
 have AA := mkHid A1
 have HH := mkHid H1
 clear A0 H0 A1 H1 har
 show Calls Tryz.prog 100 #[.pointer (some ⟨b, 0, none⟩), .agg #[.int .i64 24, .string s, .int .i64 0, .slice (some ⟨kb, o, none⟩) 3 c]] w _
 go_enter Tryz.func100, Tryz.ntmps100
 go_wp2_with fail
 refine (HF.out _).mono ?_
 rintro e w1 ⟨rfl, rfl⟩
 rw [show typI 24 = 158 from rfl, show keyVal 24 = .agg #[] from rfl]
 go_wp2_with fail
 refine (put_new W0 _ B b _ [⟨#[105, 102, 32]⟩] #[.string ⟨#[105, 102, 32]⟩] _ _ (by simp) AA.out (by simp only [List.length_append, cl_cons, cl_nil, bz, List.size_toArray, List.length_cons, List.length_nil, padL_len]; omega) (by simp) rfl).mono ?_
 rintro e w2 ⟨rfl, hp9, hb9, hk9⟩
 have A2 := mkHid (AA.out.step hp9 hb9)
 have H2 := mkHid (node_kept HH.out hnb hk9)
 have K2 := mkHid (K1.out.trans hb9)
 have O2 := mkHid (O1.out.trans hk9)
 clear hp9 hb9 hk9 AA HH K1 O1 
 have c0 : w2.cell? ⟨w.heap.size, 0, none⟩ = some (.int .i64 24) := by rw [Lib.cell_of_heap H2.out]; rfl
 have c1 : w2.cell? ⟨w.heap.size, 1, none⟩ = some (.string s) := by rw [Lib.cell_of_heap H2.out]; rfl
 have c2 : w2.cell? ⟨w.heap.size, 2, none⟩ = some (.int .i64 0) := by rw [Lib.cell_of_heap H2.out]; rfl
 have c3 : w2.cell? ⟨w.heap.size, 3, none⟩ = some (.slice (some ⟨kb, o, none⟩) 3 c) := by rw [Lib.cell_of_heap H2.out]; rfl
 have xq0 := (A2.out.old.cell (p := ⟨kb, _, none⟩) hbw).trans xH.out.1
 have xq1 := (A2.out.old.cell (p := ⟨kb, _, none⟩) hbw).trans xH.out.2.1
 have xq2 := (A2.out.old.cell (p := ⟨kb, _, none⟩) hbw).trans xH.out.2.2.1
 have xq3 := (A2.out.old.cell (p := ⟨kb, _, none⟩) hbw).trans xH.out.2.2.2
 go_wp2_with fail
 refine (pEx_ok (.node xk xs xm xkk) W0 _ B b _ xa xc _ hx.good (by omega) xkids A2.out (by simp only [List.length_append, cl_cons, cl_nil, bz, List.size_toArray, List.length_cons, List.length_nil, padL_len]; omega)).mono ?_
 rintro e w3 ⟨rfl, hp9, hb9, hk9⟩
 have A3 := mkHid (A2.out.step hp9 hb9)
 have H3 := mkHid (node_kept H2.out hnb hk9)
 have K3 := mkHid (K2.out.trans hb9)
 have O3 := mkHid (O2.out.trans hk9)
 clear hp9 hb9 hk9 A2 H2 K2 O2 c0 c1 c2 c3 xq0 xq1 xq2 xq3
 have c0 : w3.cell? ⟨w.heap.size, 0, none⟩ = some (.int .i64 24) := by rw [Lib.cell_of_heap H3.out]; rfl
 have c1 : w3.cell? ⟨w.heap.size, 1, none⟩ = some (.string s) := by rw [Lib.cell_of_heap H3.out]; rfl
 have c2 : w3.cell? ⟨w.heap.size, 2, none⟩ = some (.int .i64 0) := by rw [Lib.cell_of_heap H3.out]; rfl
 have c3 : w3.cell? ⟨w.heap.size, 3, none⟩ = some (.slice (some ⟨kb, o, none⟩) 3 c) := by rw [Lib.cell_of_heap H3.out]; rfl
 have yq0 := (A3.out.old.cell (p := ⟨kb, _, none⟩) hbw).trans yH.out.1
 have yq1 := (A3.out.old.cell (p := ⟨kb, _, none⟩) hbw).trans yH.out.2.1
 have yq2 := (A3.out.old.cell (p := ⟨kb, _, none⟩) hbw).trans yH.out.2.2.1
 have yq3 := (A3.out.old.cell (p := ⟨kb, _, none⟩) hbw).trans yH.out.2.2.2
 go_wp2_with fail
 refine (block_any nil_ 0 ykk ya yc Iy W0 n B b _ _ hcy hdy (by omega) hmy ykids A3.out (by simp only [List.length_append, cl_cons, cl_nil, bz, List.size_toArray, List.length_cons, List.length_nil, padL_len]; omega)).mono ?_
 rintro e w4 ⟨rfl, hp9, hb9, hk9⟩
 have A9 := mkHid (A3.out.step hp9 hb9)
 have H9 := mkHid (node_kept H3.out hnb hk9)
 have c3 : w4.cell? ⟨w.heap.size, 3, none⟩ = some (.slice (some ⟨kb, o, none⟩) 3 c) := by rw [Lib.cell_of_heap H9.out]; rfl
 have zq3 := (A9.out.old.cell (p := ⟨kb, _, none⟩) hbw).trans zH.out.2.2.2
 have hz0 : zkk.length = 0 := by simpa [kidsEmpty, List.isEmpty_iff] using hz
 have hzz : ¬ 0 < zkk.length := by omega
 clear hz hz0
 have M1 := mkHid (show IsPr (n : Int) B b (Lib.byteCells (l ++ (cat [⟨#[105, 102, 32]⟩] ++ exT (.node xk xs xm xkk) ++ ([32, 123, 10] ++ (catS (lnSs ykk (padB (n + 1)))).data.toList ++ padL n ++ [125])))) w4 from by first | exact hp9 | (have := hp9; simp only [List.append_assoc] at this ⊢; exact this))
 have M2 := mkHid (K3.out.trans hb9)
 have M3 := mkHid (O3.out.trans hk9)
 clear hp9 hb9 hk9 A3 H3 K3 O3 c0 c1 c2 yq0 yq1 yq2 yq3
 go_wp2
 go_end0
 exact ⟨rfl, M1.out, M2.out, M3.out⟩
set_option linter.unusedSimpArgs false in
theorem ap_ife (s : ByteArray) (x : T) (ykk : List T) (zkk : List T) (hz : kidsEmpty (.node 30 nil_ 0 zkk) = false) (n : Nat) : (lnS (.node 24 s 0 [x, (.node 30 nil_ 0 ykk), (.node 30 nil_ 0 zkk)]) (padB n)).data.toList = padL n ++ (cat [⟨#[105, 102, 32]⟩] ++ exT x ++ ([32, 123, 10] ++ (catS (lnSs ykk (padB (n + 1)))).data.toList ++ padL n ++ [125]) ++ cat [⟨#[32, 101, 108, 115, 101]⟩] ++ ([32, 123, 10] ++ (catS (lnSs zkk (padB (n + 1)))).data.toList ++ padL n ++ [125])) ++ [10] := by
 rw [lnS_eq]
 rw [exSs3, lnSs3]
 rw [show ((([x, .node 30 nil_ 0 ykk, .node 30 nil_ 0 zkk] : List T)[2]?).map kidsEmpty).getD true = false from hz]
 show (ByteArray.data (padB n ++ ⟨#[105, 102, 32]⟩ ++ exS x ++ ⟨#[32, 123, 10]⟩ ++ lnS (.node 30 nil_ 0 ykk) (padB n ++ ⟨#[32, 32]⟩) ++ padB n ++ ⟨#[125, 32, 101, 108, 115, 101, 32, 123, 10]⟩ ++ lnS (.node 30 nil_ 0 zkk) (padB n ++ ⟨#[32, 32]⟩) ++ padB n ++ ⟨#[125, 10]⟩)).toList = _
 rw [← padB_succ]
 simp only [lnS_block]
 simp only [toL_app, padB_list, cat, exT, List.flatMap_cons, List.flatMap_nil, List.append_nil, List.append_assoc]
 rfl
set_option linter.unusedSimpArgs false in
set_option maxRecDepth 100000 in
set_option maxHeartbeats 8000000 in
theorem pLn_ife (s : ByteArray) (x : T) (ykk : List T) (zkk : List T) (hx : GoodC x) (Iy : ∀ t ∈ ykk, PLn t ∧ Apart t) (Iz : ∀ t ∈ zkk, PLn t ∧ Apart t) (hz : kidsEmpty (.node 30 nil_ 0 zkk) = false) : PLn (.node 24 s 0 [x, (.node 30 nil_ 0 ykk), (.node 30 nil_ 0 zkk)]) := by
 intro W0 n B b l a c w hc hp hk har hl
 have hcx : cnt x + cnt (.node 30 nil_ 0 ykk) + cnt (.node 30 nil_ 0 zkk) ≤ 499 := by simp only [cnt, cnts] at hc ⊢; omega
 have hn9 : n ≤ 499 := by simp only [dep] at hp; omega
 have hcy : ∀ t ∈ ykk, cnt t ≤ 500 := fun t ht => by have := cnt_mem ht; simp only [cnt] at hcx; omega
 have hdy : ∀ t ∈ ykk, 2 * (n + 1) + 2 * dep t ≤ 1000 := fun t ht => by have := dep_mem ht; simp only [dep, deps] at hp; omega
 have hmy : ykk.length ≤ 1000000 := by have : ∀ q : List T, q.length ≤ cnts q := (fun q => by induction q with | nil => exact Nat.zero_le _ | cons x r ih => have : 1 ≤ cnt x := (by cases x; simp only [cnt]; omega); simp only [List.length_cons, cnts]; omega); have := this ykk; simp only [cnt] at hcx; omega
 have hcz : ∀ t ∈ zkk, cnt t ≤ 500 := fun t ht => by have := cnt_mem ht; simp only [cnt] at hcx; omega
 have hdz : ∀ t ∈ zkk, 2 * (n + 1) + 2 * dep t ≤ 1000 := fun t ht => by have := dep_mem ht; simp only [dep, deps] at hp; omega
 have hmz : zkk.length ≤ 1000000 := by have : ∀ q : List T, q.length ≤ cnts q := (fun q => by induction q with | nil => exact Nat.zero_le _ | cons x r ih => have : 1 ≤ cnt x := (by cases x; simp only [cnt]; omega); simp only [List.length_cons, cnts]; omega); have := this zkk; simp only [cnt] at hcx; omega
 rw [inT_of (ap_ife s x ykk zkk hz n)] at hl ⊢
 simp only [List.length_append, cl_cons, cl_nil, bz, List.size_toArray, List.length_cons, List.length_nil, padL_len] at hl
 rcases hk with h0 | ⟨kb, o, rfl, _, hll⟩
 ·cases h0
 have hAx : (exT x).length = (exS x).size := (Lib.size_eq _).symm
 obtain ⟨xk, xs, xm, xkk⟩ := x
 obtain ⟨xa, xc, xc0, xc1, xc2, xc3, _, _, xkids⟩ := hll.at (i := 0) (show _ = some (T.node xk xs xm xkk) from rfl)
 simp only [Nat.zero_mul, Nat.add_zero] at xc0 xc1 xc2 xc3
 have xH := mkHid (And.intro xc0 (And.intro xc1 (And.intro xc2 xc3)))
 have hQy : (catS (lnSs ykk (padB (n + 1)))).data.toList.length = (catS (lnSs ykk (padB (n + 1)))).size := (Lib.size_eq _).symm
 obtain ⟨ya, yc, yc0, yc1, yc2, yc3, _, _, ykids⟩ := hll.at (i := 1) (show _ = some (T.node 30 nil_ 0 ykk) from rfl)
 simp only [Nat.one_mul] at yc0 yc1 yc2 yc3
 have yH := mkHid (And.intro yc0 (And.intro yc1 (And.intro yc2 yc3)))
 have hQz : (catS (lnSs zkk (padB (n + 1)))).data.toList.length = (catS (lnSs zkk (padB (n + 1)))).size := (Lib.size_eq _).symm
 obtain ⟨za, zc, zc0, zc1, zc2, zc3, _, _, zkids⟩ := hll.at (i := 2) (show _ = some (T.node 30 nil_ 0 zkk) from rfl)
 simp only [Nat.reduceMul] at zc0 zc1 zc2 zc3
 have zH := mkHid (And.intro zc0 (And.intro zc1 (And.intro zc2 zc3)))
 have hbw : kb < W0.heap.size := World.block_lt_of_cell? W0 _ xc0
 clear xc0 xc1 xc2 xc3 yc0 yc1 yc2 yc3 zc0 zc1 zc2 zc3
 have HF := mkHid (fun W => formOf_stmt 24 W (by omega))
 have t127 := tb136_127
 have t128 := tb136_128
 have t130 := tb136_130
 have t131 := tb136_131
 have t132 := tb136_132
 have t133 := tb136_133
 have t135 := tb136_135
 have t136 := tb136_136
 have A0 := har.alloc (.cells #[.int .i64 24, .string s, .int .i64 0, .slice (some ⟨kb, o, none⟩) 3 c] 38)
 have H0 := World.heap_alloc_new w #[.int .i64 24, .string s, .int .i64 0, .slice (some ⟨kb, o, none⟩) 3 c] 38
 have hnb : w.heap.size ≠ b := by have := har.pr.lt; omega
 have A1 := A0.alloc (.cells #[] 158)
 have H1 : ((w.alloc (.cells #[.int .i64 24, .string s, .int .i64 0, .slice (some ⟨kb, o, none⟩) 3 c] 38)).alloc (.cells #[] 158)).heap[w.heap.size]? = some (.cells #[.int .i64 24, .string s, .int .i64 0, .slice (some ⟨kb, o, none⟩) 3 c] 38 (0, 0)) := (Lib.alloc_old _ _ _ (by simp)).trans H0
 have K1 := mkHid ((((Below.refl B w).alloc har.hi (.cells #[.int .i64 24, .string s, .int .i64 0, .slice (some ⟨kb, o, none⟩) 3 c] 38)).alloc (Nat.le_trans har.hi (by simp)) (.cells #[] 158)))
 have O1 := mkHid ((((Lib.OthersKept.refl 5 (some b) w).alloc (.cells #[.int .i64 24, .string s, .int .i64 0, .slice (some ⟨kb, o, none⟩) 3 c] 38)).alloc (.cells #[] 158)))
 have AA := mkHid A1
 have HH := mkHid H1
 clear A0 H0 A1 H1 har
 show Calls Tryz.prog 100 #[.pointer (some ⟨b, 0, none⟩), .agg #[.int .i64 24, .string s, .int .i64 0, .slice (some ⟨kb, o, none⟩) 3 c]] w _
 go_enter Tryz.func100, Tryz.ntmps100
 go_wp2_with fail
 refine (HF.out _).mono ?_
 rintro e w1 ⟨rfl, rfl⟩
 rw [show typI 24 = 158 from rfl, show keyVal 24 = .agg #[] from rfl]
 go_wp2_with fail
 refine (put_new W0 _ B b _ [⟨#[105, 102, 32]⟩] #[.string ⟨#[105, 102, 32]⟩] _ _ (by simp) AA.out (by simp only [List.length_append, cl_cons, cl_nil, bz, List.size_toArray, List.length_cons, List.length_nil, padL_len]; omega) (by simp) rfl).mono ?_
 rintro e w2 ⟨rfl, hp9, hb9, hk9⟩
 have A2 := mkHid (AA.out.step hp9 hb9)
 have H2 := mkHid (node_kept HH.out hnb hk9)
 have K2 := mkHid (K1.out.trans hb9)
 have O2 := mkHid (O1.out.trans hk9)
 clear hp9 hb9 hk9 AA HH K1 O1 
 have c0 : w2.cell? ⟨w.heap.size, 0, none⟩ = some (.int .i64 24) := by rw [Lib.cell_of_heap H2.out]; rfl
 have c1 : w2.cell? ⟨w.heap.size, 1, none⟩ = some (.string s) := by rw [Lib.cell_of_heap H2.out]; rfl
 have c2 : w2.cell? ⟨w.heap.size, 2, none⟩ = some (.int .i64 0) := by rw [Lib.cell_of_heap H2.out]; rfl
 have c3 : w2.cell? ⟨w.heap.size, 3, none⟩ = some (.slice (some ⟨kb, o, none⟩) 3 c) := by rw [Lib.cell_of_heap H2.out]; rfl
 have xq0 := (A2.out.old.cell (p := ⟨kb, _, none⟩) hbw).trans xH.out.1
 have xq1 := (A2.out.old.cell (p := ⟨kb, _, none⟩) hbw).trans xH.out.2.1
 have xq2 := (A2.out.old.cell (p := ⟨kb, _, none⟩) hbw).trans xH.out.2.2.1
 have xq3 := (A2.out.old.cell (p := ⟨kb, _, none⟩) hbw).trans xH.out.2.2.2
 go_wp2_with fail
 refine (pEx_ok (.node xk xs xm xkk) W0 _ B b _ xa xc _ hx.good (by omega) xkids A2.out (by simp only [List.length_append, cl_cons, cl_nil, bz, List.size_toArray, List.length_cons, List.length_nil, padL_len]; omega)).mono ?_
 rintro e w3 ⟨rfl, hp9, hb9, hk9⟩
 have A3 := mkHid (A2.out.step hp9 hb9)
 have H3 := mkHid (node_kept H2.out hnb hk9)
 have K3 := mkHid (K2.out.trans hb9)
 have O3 := mkHid (O2.out.trans hk9)
 clear hp9 hb9 hk9 A2 H2 K2 O2 c0 c1 c2 c3 xq0 xq1 xq2 xq3
 have c0 : w3.cell? ⟨w.heap.size, 0, none⟩ = some (.int .i64 24) := by rw [Lib.cell_of_heap H3.out]; rfl
 have c1 : w3.cell? ⟨w.heap.size, 1, none⟩ = some (.string s) := by rw [Lib.cell_of_heap H3.out]; rfl
 have c2 : w3.cell? ⟨w.heap.size, 2, none⟩ = some (.int .i64 0) := by rw [Lib.cell_of_heap H3.out]; rfl
 have c3 : w3.cell? ⟨w.heap.size, 3, none⟩ = some (.slice (some ⟨kb, o, none⟩) 3 c) := by rw [Lib.cell_of_heap H3.out]; rfl
 have yq0 := (A3.out.old.cell (p := ⟨kb, _, none⟩) hbw).trans yH.out.1
 have yq1 := (A3.out.old.cell (p := ⟨kb, _, none⟩) hbw).trans yH.out.2.1
 have yq2 := (A3.out.old.cell (p := ⟨kb, _, none⟩) hbw).trans yH.out.2.2.1
 have yq3 := (A3.out.old.cell (p := ⟨kb, _, none⟩) hbw).trans yH.out.2.2.2
 go_wp2_with fail
 refine (block_any nil_ 0 ykk ya yc Iy W0 n B b _ _ hcy hdy (by omega) hmy ykids A3.out (by simp only [List.length_append, cl_cons, cl_nil, bz, List.size_toArray, List.length_cons, List.length_nil, padL_len]; omega)).mono ?_
 rintro e w4 ⟨rfl, hp9, hb9, hk9⟩
 have A4 := mkHid (A3.out.step hp9 hb9)
 have H4 := mkHid (node_kept H3.out hnb hk9)
 have K4 := mkHid (K3.out.trans hb9)
 have O4 := mkHid (O3.out.trans hk9)
 clear hp9 hb9 hk9 A3 H3 K3 O3 c0 c1 c2 c3 yq0 yq1 yq2 yq3
 have c3 : w4.cell? ⟨w.heap.size, 3, none⟩ = some (.slice (some ⟨kb, o, none⟩) 3 c) := by rw [Lib.cell_of_heap H4.out]; rfl
 have zq3 := (A4.out.old.cell (p := ⟨kb, _, none⟩) hbw).trans zH.out.2.2.2
 have hz0 : zkk.length ≠ 0 := by intro e; have : zkk = [] := List.length_eq_zero_iff.1 e; subst this; simp [kidsEmpty] at hz
 have hzz : 0 < zkk.length := by omega
 go_wp2_with fail
 refine (put_new W0 _ B b _ [⟨#[32, 101, 108, 115, 101]⟩] #[.string ⟨#[32, 101, 108, 115, 101]⟩] _ _ rfl A4.out (by simp only [List.length_append, cl_cons, cl_nil, bz, List.size_toArray, List.length_cons, List.length_nil, padL_len]; omega) (by simp) rfl).mono ?_
 rintro e w5 ⟨rfl, hp9, hb9, hk9⟩
 have A5 := mkHid (A4.out.step hp9 hb9)
 have H5 := mkHid (node_kept H4.out hnb hk9)
 have K5 := mkHid (K4.out.trans hb9)
 have O5 := mkHid (O4.out.trans hk9)
 clear hp9 hb9 hk9 A4 H4 K4 O4 c3 zq3
 have c0 : w5.cell? ⟨w.heap.size, 0, none⟩ = some (.int .i64 24) := by rw [Lib.cell_of_heap H5.out]; rfl
 have c1 : w5.cell? ⟨w.heap.size, 1, none⟩ = some (.string s) := by rw [Lib.cell_of_heap H5.out]; rfl
 have c2 : w5.cell? ⟨w.heap.size, 2, none⟩ = some (.int .i64 0) := by rw [Lib.cell_of_heap H5.out]; rfl
 have c3 : w5.cell? ⟨w.heap.size, 3, none⟩ = some (.slice (some ⟨kb, o, none⟩) 3 c) := by rw [Lib.cell_of_heap H5.out]; rfl
 have zq0 := (A5.out.old.cell (p := ⟨kb, _, none⟩) hbw).trans zH.out.1
 have zq1 := (A5.out.old.cell (p := ⟨kb, _, none⟩) hbw).trans zH.out.2.1
 have zq2 := (A5.out.old.cell (p := ⟨kb, _, none⟩) hbw).trans zH.out.2.2.1
 have zq3 := (A5.out.old.cell (p := ⟨kb, _, none⟩) hbw).trans zH.out.2.2.2
 go_wp2_with fail
 refine (block_any nil_ 0 zkk za zc Iz W0 n B b _ _ hcz hdz (by omega) hmz zkids A5.out (by simp only [List.length_append, cl_cons, cl_nil, bz, List.size_toArray, List.length_cons, List.length_nil, padL_len]; omega)).mono ?_
 rintro e w6 ⟨rfl, hp9, hb9, hk9⟩
 have M1 := mkHid (show IsPr (n : Int) B b (Lib.byteCells (l ++ (cat [⟨#[105, 102, 32]⟩] ++ exT (.node xk xs xm xkk) ++ ([32, 123, 10] ++ (catS (lnSs ykk (padB (n + 1)))).data.toList ++ padL n ++ [125]) ++ cat [⟨#[32, 101, 108, 115, 101]⟩] ++ ([32, 123, 10] ++ (catS (lnSs zkk (padB (n + 1)))).data.toList ++ padL n ++ [125])))) w6 from by first | exact hp9 | (have := hp9; simp only [List.append_assoc] at this ⊢; exact this))
 have M2 := mkHid (K5.out.trans hb9)
 have M3 := mkHid (O5.out.trans hk9)
 clear hp9 hb9 hk9 A5 H5 K5 O5 c0 c1 c2 c3 zq0 zq1 zq2 zq3
 go_wp2
 go_end0
 exact ⟨rfl, M1.out, M2.out, M3.out⟩
end Go.Proofs.YtedfnadgmhjojaaGreatDoor
namespace Go.Proofs.YtedfnadgmhjojaaGreatDoor
open Go.RowKit
open Pl

set_option maxRecDepth 100000 in
set_option maxHeartbeats 2000000 in
theorem sizeText_any (m : Int) (h1 : m ≤ 1000000) (w : World) (ht : Lib.TabIs Tryz.prog w "internal/strconv.uint64pow10" .u64 Lib.pow10Tab) : Calls Tryz.prog 119 #[.int .i64 m] w fun e w' => e = .returned (.string (numS m)) ∧ Below w.heap.size w w' := by
 have HN := mkHid (show numS m = if 0 ≤ m then dec m.toNat else ⟨#[63]⟩ from rfl)
 generalize numS m = A at HN ⊢
 by_cases hm : m < 0
 ·have HA := mkHid (show A = ⟨#[63]⟩ by rw [HN.out, if_neg (by omega)])
  clear HN ht
  go_enter Tryz.func119, Tryz.ntmps119
  go_wp2
  go_ret
  exact ⟨ret_str HA.out.symm, Below.refl _ _⟩
 ·obtain ⟨n, rfl⟩ : ∃ n : Nat, m = n := ⟨m.toNat, by omega⟩
  have hit : (ByteArray.mk (Lib.itoa (n : Int)).toArray) = dec n := by unfold dec Lib.itoa; rw [if_neg (by omega)]; simp
  have HA := mkHid (show A = dec n by rw [HN.out, if_pos (by omega)]; rfl)
  have HI := mkHid (Tryz.strconv_Itoa n (by omega) (by omega) w ht)
  rw [hit, ← HA.out] at HI
  clear HN ht hit
  go_enter Tryz.func119, Tryz.ntmps119
  go_wp2_with fail
  refine HI.out.mono ?_
  rintro e w2 ⟨rfl, kd, os, hw2⟩
  have hb2 := Lib.below_grow _ w (Nat.le_refl _) kd os
  rw [← hw2] at hb2
  have B2 := mkHid hb2
  clear hb2 hw2
  go_wp2
  go_ret
  exact ⟨rfl, B2.out⟩
theorem ap_arr (s : ByteArray) (m : Int) (n : Nat) : (lnS (.node 32 s m []) (padB n)).data.toList = padL n ++ (cat [⟨#[97, 114, 114, 97, 121, 32]⟩, s, ⟨#[91]⟩, numS m, ⟨#[93, 59]⟩]) ++ [10] := by
 rw [lnS_eq]
 show (ByteArray.data (padB n ++ ⟨#[97, 114, 114, 97, 121, 32]⟩ ++ s ++ ⟨#[91]⟩ ++ numS m ++ ⟨#[93, 59, 10]⟩)).toList = _
 simp only [toL_app, padB_list, cat, List.flatMap_cons, List.flatMap_nil, List.append_nil, List.append_assoc]
 rfl
set_option maxRecDepth 100000 in
set_option maxHeartbeats 8000000 in
theorem pLn_arr (s : ByteArray) (m : Int) (h1 : m ≤ 1000000) : PLn (.node 32 s m []) := by
 intro W0 n B b l a c w hc hp hk har hl
 rw [inT_of (ap_arr s m n)] at hl ⊢
 simp only [cl_cons, cl_nil, bz, List.size_toArray, List.length_cons, List.length_nil] at hl
 obtain ⟨g, hgn⟩ := Option.isSome_iff_exists.1 (show (Tryz.prog.globalNamed "internal/strconv.uint64pow10").isSome = true by kernel_rfl)
 have HSZ := mkHid (fun W (hW : Below W0.heap.size W0 W) => sizeText_any m h1 W (Joins.tab_stays hgn har.tab hW (Nat.le_refl _)))
 generalize numS m = N at hl HSZ ⊢
 have HF := mkHid (fun W => formOf_decl 32 W (by omega))
 have t127 := tb128_127
 have t128 := tb128_128
 have A0 := har.alloc (.cells #[.int .i64 32, .string s, .int .i64 m, .slice a 0 c] 38)
 have H0 := World.heap_alloc_new w #[.int .i64 32, .string s, .int .i64 m, .slice a 0 c] 38
 have A1 := A0.alloc (.cells #[] 148)
 have H1 : ((w.alloc (.cells #[.int .i64 32, .string s, .int .i64 m, .slice a 0 c] 38)).alloc (.cells #[] 148)).heap[w.heap.size]? = some (.cells #[.int .i64 32, .string s, .int .i64 m, .slice a 0 c] 38 (0, 0)) := (Lib.alloc_old _ _ _ (by simp)).trans H0
 have K1 := ((((Below.refl B w).alloc har.hi (.cells #[.int .i64 32, .string s, .int .i64 m, .slice a 0 c] 38)).alloc (Nat.le_trans har.hi (by simp)) (.cells #[] 148)))
 have O1 := ((((Lib.OthersKept.refl 5 (some b) w).alloc (.cells #[.int .i64 32, .string s, .int .i64 m, .slice a 0 c] 38)).alloc (.cells #[] 148)))
 clear A0 H0 har hgn hc hp hk
 show Calls Tryz.prog 100 #[.pointer (some ⟨b, 0, none⟩), .agg #[.int .i64 32, .string s, .int .i64 m, .slice a 0 c]] w _
 have HA1 := mkHid A1
 have HH1 := mkHid H1
 have HK1 := mkHid K1
 have HO1 := mkHid O1
 clear A1 H1 K1 O1
 go_enter Tryz.func100, Tryz.ntmps100
 go_wp2_with fail
 refine (HF.out _).mono ?_
 rintro e w1 ⟨rfl, rfl⟩
 rw [show typI 32 = 148 from rfl]
 go_wp2_with fail
 generalize (w.alloc (.cells #[.int .i64 32, .string s, .int .i64 m, .slice a 0 c] 38)).alloc (.cells #[] 148) = w1 at HA1 HH1 HK1 HO1 ⊢
 obtain ⟨p0, p1, p2, p3, _⟩ := four_of HH1.out
 have l1 : w.heap.size < w1.heap.size := (Array.getElem?_eq_some_iff.1 HH1.out).1
 go_region_with (first | (go_at_call 119; refine (HSZ.out _ HA1.out.drew.old).mono ?_; rintro e w2 ⟨rfl, hb2⟩; have q1 := ((bcell hb2).1 _ 1 l1).trans p1; have A2 := mkHid (HA1.out.drew.below hb2)) | (go_at_call 75; refine (put_new W0 _ B b l [⟨#[97, 114, 114, 97, 121, 32]⟩, s, ⟨#[91]⟩, N, ⟨#[93, 59]⟩] #[.string ⟨#[97, 114, 114, 97, 121, 32]⟩, .string s, .string ⟨#[91]⟩, .string N, .string ⟨#[93, 59]⟩] _ _ rfl A2.out (by simp only [cl_cons, cl_nil, bz, List.size_toArray, List.length_cons, List.length_nil]; omega) (by simp) rfl).mono ?_; rintro e w3 ⟨rfl, hp9, hb9, hk9⟩))
 all_goals
  have M1 := mkHid hp9
  have M2 := mkHid ((HK1.out.drew.trans (hb2.mono HA1.out.drew.hi)).trans hb9)
  have M3 := mkHid ((others_below (HO1.out) (show Below w1.heap.size w1 w2 from (Below.refl _ _).drew.trans hb2)).trans hk9)
  clear hp9 hb9 hk9 hb2 q1 p0 p1 p2 p3 A2
  go_wp2
  go_end0
  exact ⟨rfl, M1.out, M2.out, M3.out⟩
theorem block_node {b : T} (h : GoodB b) : b = .node 30 nil_ 0 (kidsOf b) := by
 obtain ⟨k, s, m, kk⟩ := b
 have h2 : k = 30 := h.2
 subst h2
 obtain ⟨r1, r2, _⟩ := block_shape h.1
 rw [r1, r2]
 rfl
theorem apart_of {t : T} (f : Nat → List UInt8) (h : ∀ n, (lnS t (padB n)).data.toList = padL n ++ f n ++ [10]) : Apart t := fun n => by rw [inT_of (h n)]; exact h n
theorem pLn_all (t : T) : (GoodI t → PLn t ∧ Apart t) ∧ (GoodB t → ∀ x ∈ kidsOf t, PLn x ∧ Apart x) := by
 refine T.induct (P := fun t => (GoodI t → PLn t ∧ Apart t) ∧ (GoodB t → ∀ x ∈ kidsOf t, PLn x ∧ Apart x)) ?_ t
 intro k s m kk ih
 refine ⟨fun hg => ?_, fun hg x hx => ?_⟩
 ·rcases hg with hg | hg
  ·cases stmt_shape hg with
   | set h x hk hx hn hm => subst h hk hm; exact ⟨pLn_set s x hx, apart_of _ (ap_set s x)⟩
   | put h x y hk hx hy hn hm => subst h hk hm; exact ⟨pLn_put s x y hx hy, apart_of _ (ap_put s x y)⟩
   | read h hk hn hm => subst h hk hm; exact ⟨pLn_read s, apart_of _ (ap_read s)⟩
   | chec h c hk hc hs hm => subst h hk hm; exact ⟨pLn_chec s c hc, apart_of _ (ap_chec s c)⟩
   | skip h hk hs hm => subst h hk hm; exact ⟨pLn_skip s, apart_of _ (ap_skip s)⟩
   | stop h hk hs hm => subst h hk hm; exact ⟨pLn_stop s, apart_of _ (ap_stop s)⟩
   | whil h c b hk hc hb hs hm =>
     subst h hk hm
     have hy := (ih b (by simp)).2 hb
     rw [block_node hb]
     exact ⟨pLn_while s c _ hc hy, apart_of _ (ap_while s c _)⟩
   | fors h x y b hk hx hy hb hn hm =>
     subst h hk hm
     have hz := (ih b (by simp)).2 hb
     rw [block_node hb]
     exact ⟨pLn_for s x y _ hx hy hz, apart_of _ (ap_for s x y _)⟩
   | ifs h c b d hk hc hb hd hs hm =>
     subst h hk hm
     have hy := (ih b (by simp)).2 hb
     have hz := (ih d (by simp)).2 hd
     cases he : kidsEmpty d with
     | true => rw [block_node hb]; rw [block_node hd] at he ⊢; exact ⟨pLn_if s c _ _ hc hy he, apart_of _ (ap_if s c _ _ he)⟩
     | false => rw [block_node hb]; rw [block_node hd] at he ⊢; exact ⟨pLn_ife s c _ _ hc hy hz he, apart_of _ (ap_ife s c _ _ he)⟩
  ·cases decl_shape hg with
   | var h hk hn hm => subst h hk hm; exact ⟨pLn_var s, apart_of _ (ap_var s)⟩
   | arr h hk hn h0 h1 => subst h hk; exact ⟨pLn_arr s m h1, apart_of _ (ap_arr s m)⟩
 ·have h2 : k = 30 := hg.2
  subst h2
  exact (ih x hx).1 (.inl ((block_shape hg.1).2.2 x hx))
end Go.Proofs.YtedfnadgmhjojaaGreatDoor
