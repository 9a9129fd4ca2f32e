/-
  CONTRACTS of the printer's line, kind by kind.
-/
import Derived.Test.YtedfnadgmhjojaaGreatDoorMPbl
namespace Go.Proofs.YtedfnadgmhjojaaGreatDoor
open Go.RowKit
open Pl

theorem cl_cons (a : ByteArray) (r : List ByteArray) : (cat (a :: r)).length = a.size + (cat r).length := by
 unfold cat
 rw [List.flatMap_cons, List.length_append, ← Lib.size_eq]
theorem cl_nil : (cat []).length = 0 := rfl
def keyVal (k : Int) : Value := if k = 28 then .agg #[.string ⟨#[115, 107, 105, 112]⟩] else if k = 29 then .agg #[.string ⟨#[115, 116, 111, 112]⟩] else .agg #[]
theorem lnS_block (kk : List T) (p : ByteArray) : lnS (.node 30 nil_ 0 kk) p = catS (lnSs kk p) := by rw [lnS_eq]; rfl
theorem tb127_127 (W : World) : (Instr.typeAssert (.iface 147 (.agg #[])) 114 147 true).run Tryz.prog W = .ok (.tuple #[(.agg #[]), .bool true]) W := by kernel_rfl
theorem tb128_127 (W : World) : (Instr.typeAssert (.iface 148 (.agg #[])) 114 147 true).run Tryz.prog W = .ok (.tuple #[.agg #[], .bool false]) W := by kernel_rfl
theorem tb128_128 (W : World) : (Instr.typeAssert (.iface 148 (.agg #[])) 114 148 true).run Tryz.prog W = .ok (.tuple #[(.agg #[]), .bool true]) W := by kernel_rfl
theorem tb130_127 (W : World) : (Instr.typeAssert (.iface 152 (.agg #[])) 114 147 true).run Tryz.prog W = .ok (.tuple #[.agg #[], .bool false]) W := by kernel_rfl
theorem tb130_128 (W : World) : (Instr.typeAssert (.iface 152 (.agg #[])) 114 148 true).run Tryz.prog W = .ok (.tuple #[.agg #[], .bool false]) W := by kernel_rfl
theorem tb130_130 (W : World) : (Instr.typeAssert (.iface 152 (.agg #[])) 114 152 true).run Tryz.prog W = .ok (.tuple #[(.agg #[]), .bool true]) W := by kernel_rfl
theorem tb131_127 (W : World) : (Instr.typeAssert (.iface 153 (.agg #[])) 114 147 true).run Tryz.prog W = .ok (.tuple #[.agg #[], .bool false]) W := by kernel_rfl
theorem tb131_128 (W : World) : (Instr.typeAssert (.iface 153 (.agg #[])) 114 148 true).run Tryz.prog W = .ok (.tuple #[.agg #[], .bool false]) W := by kernel_rfl
theorem tb131_130 (W : World) : (Instr.typeAssert (.iface 153 (.agg #[])) 114 152 true).run Tryz.prog W = .ok (.tuple #[.agg #[], .bool false]) W := by kernel_rfl
theorem tb131_131 (W : World) : (Instr.typeAssert (.iface 153 (.agg #[])) 114 153 true).run Tryz.prog W = .ok (.tuple #[(.agg #[]), .bool true]) W := by kernel_rfl
theorem tb132_127 (W : World) : (Instr.typeAssert (.iface 154 (.agg #[])) 114 147 true).run Tryz.prog W = .ok (.tuple #[.agg #[], .bool false]) W := by kernel_rfl
theorem tb132_128 (W : World) : (Instr.typeAssert (.iface 154 (.agg #[])) 114 148 true).run Tryz.prog W = .ok (.tuple #[.agg #[], .bool false]) W := by kernel_rfl
theorem tb132_130 (W : World) : (Instr.typeAssert (.iface 154 (.agg #[])) 114 152 true).run Tryz.prog W = .ok (.tuple #[.agg #[], .bool false]) W := by kernel_rfl
theorem tb132_131 (W : World) : (Instr.typeAssert (.iface 154 (.agg #[])) 114 153 true).run Tryz.prog W = .ok (.tuple #[.agg #[], .bool false]) W := by kernel_rfl
theorem tb132_132 (W : World) : (Instr.typeAssert (.iface 154 (.agg #[])) 114 154 true).run Tryz.prog W = .ok (.tuple #[(.agg #[]), .bool true]) W := by kernel_rfl
theorem tb133_127 (W : World) : (Instr.typeAssert (.iface 155 (.agg #[])) 114 147 true).run Tryz.prog W = .ok (.tuple #[.agg #[], .bool false]) W := by kernel_rfl
theorem tb133_128 (W : World) : (Instr.typeAssert (.iface 155 (.agg #[])) 114 148 true).run Tryz.prog W = .ok (.tuple #[.agg #[], .bool false]) W := by kernel_rfl
theorem tb133_130 (W : World) : (Instr.typeAssert (.iface 155 (.agg #[])) 114 152 true).run Tryz.prog W = .ok (.tuple #[.agg #[], .bool false]) W := by kernel_rfl
theorem tb133_131 (W : World) : (Instr.typeAssert (.iface 155 (.agg #[])) 114 153 true).run Tryz.prog W = .ok (.tuple #[.agg #[], .bool false]) W := by kernel_rfl
theorem tb133_132 (W : World) : (Instr.typeAssert (.iface 155 (.agg #[])) 114 154 true).run Tryz.prog W = .ok (.tuple #[.agg #[], .bool false]) W := by kernel_rfl
theorem tb133_133 (W : World) : (Instr.typeAssert (.iface 155 (.agg #[])) 114 155 true).run Tryz.prog W = .ok (.tuple #[(.agg #[]), .bool true]) W := by kernel_rfl
theorem tb135_127 (g : ByteArray) (W : World) : (Instr.typeAssert (.iface 157 (.agg #[.string g])) 114 147 true).run Tryz.prog W = .ok (.tuple #[.agg #[], .bool false]) W := by kernel_rfl
theorem tb135_128 (g : ByteArray) (W : World) : (Instr.typeAssert (.iface 157 (.agg #[.string g])) 114 148 true).run Tryz.prog W = .ok (.tuple #[.agg #[], .bool false]) W := by kernel_rfl
theorem tb135_130 (g : ByteArray) (W : World) : (Instr.typeAssert (.iface 157 (.agg #[.string g])) 114 152 true).run Tryz.prog W = .ok (.tuple #[.agg #[], .bool false]) W := by kernel_rfl
theorem tb135_131 (g : ByteArray) (W : World) : (Instr.typeAssert (.iface 157 (.agg #[.string g])) 114 153 true).run Tryz.prog W = .ok (.tuple #[.agg #[], .bool false]) W := by kernel_rfl
theorem tb135_132 (g : ByteArray) (W : World) : (Instr.typeAssert (.iface 157 (.agg #[.string g])) 114 154 true).run Tryz.prog W = .ok (.tuple #[.agg #[], .bool false]) W := by kernel_rfl
theorem tb135_133 (g : ByteArray) (W : World) : (Instr.typeAssert (.iface 157 (.agg #[.string g])) 114 155 true).run Tryz.prog W = .ok (.tuple #[.agg #[], .bool false]) W := by kernel_rfl
theorem tb135_135 (g : ByteArray) (W : World) : (Instr.typeAssert (.iface 157 (.agg #[.string g])) 114 157 true).run Tryz.prog W = .ok (.tuple #[(.agg #[.string g]), .bool true]) W := by kernel_rfl
theorem tb136_127 (W : World) : (Instr.typeAssert (.iface 158 (.agg #[])) 114 147 true).run Tryz.prog W = .ok (.tuple #[.agg #[], .bool false]) W := by kernel_rfl
theorem tb136_128 (W : World) : (Instr.typeAssert (.iface 158 (.agg #[])) 114 148 true).run Tryz.prog W = .ok (.tuple #[.agg #[], .bool false]) W := by kernel_rfl
theorem tb136_130 (W : World) : (Instr.typeAssert (.iface 158 (.agg #[])) 114 152 true).run Tryz.prog W = .ok (.tuple #[.agg #[], .bool false]) W := by kernel_rfl
theorem tb136_131 (W : World) : (Instr.typeAssert (.iface 158 (.agg #[])) 114 153 true).run Tryz.prog W = .ok (.tuple #[.agg #[], .bool false]) W := by kernel_rfl
theorem tb136_132 (W : World) : (Instr.typeAssert (.iface 158 (.agg #[])) 114 154 true).run Tryz.prog W = .ok (.tuple #[.agg #[], .bool false]) W := by kernel_rfl
theorem tb136_133 (W : World) : (Instr.typeAssert (.iface 158 (.agg #[])) 114 155 true).run Tryz.prog W = .ok (.tuple #[.agg #[], .bool false]) W := by kernel_rfl
theorem tb136_135 (W : World) : (Instr.typeAssert (.iface 158 (.agg #[])) 114 157 true).run Tryz.prog W = .ok (.tuple #[.agg #[.string ⟨#[]⟩], .bool false]) W := by kernel_rfl
theorem tb136_136 (W : World) : (Instr.typeAssert (.iface 158 (.agg #[])) 114 158 true).run Tryz.prog W = .ok (.tuple #[(.agg #[]), .bool true]) W := by kernel_rfl
theorem tb137_127 (W : World) : (Instr.typeAssert (.iface 159 (.agg #[])) 114 147 true).run Tryz.prog W = .ok (.tuple #[.agg #[], .bool false]) W := by kernel_rfl
theorem tb137_128 (W : World) : (Instr.typeAssert (.iface 159 (.agg #[])) 114 148 true).run Tryz.prog W = .ok (.tuple #[.agg #[], .bool false]) W := by kernel_rfl
theorem tb137_130 (W : World) : (Instr.typeAssert (.iface 159 (.agg #[])) 114 152 true).run Tryz.prog W = .ok (.tuple #[.agg #[], .bool false]) W := by kernel_rfl
theorem tb137_131 (W : World) : (Instr.typeAssert (.iface 159 (.agg #[])) 114 153 true).run Tryz.prog W = .ok (.tuple #[.agg #[], .bool false]) W := by kernel_rfl
theorem tb137_132 (W : World) : (Instr.typeAssert (.iface 159 (.agg #[])) 114 154 true).run Tryz.prog W = .ok (.tuple #[.agg #[], .bool false]) W := by kernel_rfl
theorem tb137_133 (W : World) : (Instr.typeAssert (.iface 159 (.agg #[])) 114 155 true).run Tryz.prog W = .ok (.tuple #[.agg #[], .bool false]) W := by kernel_rfl
theorem tb137_135 (W : World) : (Instr.typeAssert (.iface 159 (.agg #[])) 114 157 true).run Tryz.prog W = .ok (.tuple #[.agg #[.string ⟨#[]⟩], .bool false]) W := by kernel_rfl
theorem tb137_136 (W : World) : (Instr.typeAssert (.iface 159 (.agg #[])) 114 158 true).run Tryz.prog W = .ok (.tuple #[.agg #[], .bool false]) W := by kernel_rfl
theorem tb137_137 (W : World) : (Instr.typeAssert (.iface 159 (.agg #[])) 114 159 true).run Tryz.prog W = .ok (.tuple #[(.agg #[]), .bool true]) W := by kernel_rfl
theorem tb138_127 (W : World) : (Instr.typeAssert (.iface 160 (.agg #[])) 114 147 true).run Tryz.prog W = .ok (.tuple #[.agg #[], .bool false]) W := by kernel_rfl
theorem tb138_128 (W : World) : (Instr.typeAssert (.iface 160 (.agg #[])) 114 148 true).run Tryz.prog W = .ok (.tuple #[.agg #[], .bool false]) W := by kernel_rfl
theorem tb138_130 (W : World) : (Instr.typeAssert (.iface 160 (.agg #[])) 114 152 true).run Tryz.prog W = .ok (.tuple #[.agg #[], .bool false]) W := by kernel_rfl
theorem tb138_131 (W : World) : (Instr.typeAssert (.iface 160 (.agg #[])) 114 153 true).run Tryz.prog W = .ok (.tuple #[.agg #[], .bool false]) W := by kernel_rfl
theorem tb138_132 (W : World) : (Instr.typeAssert (.iface 160 (.agg #[])) 114 154 true).run Tryz.prog W = .ok (.tuple #[.agg #[], .bool false]) W := by kernel_rfl
theorem tb138_133 (W : World) : (Instr.typeAssert (.iface 160 (.agg #[])) 114 155 true).run Tryz.prog W = .ok (.tuple #[.agg #[], .bool false]) W := by kernel_rfl
theorem tb138_135 (W : World) : (Instr.typeAssert (.iface 160 (.agg #[])) 114 157 true).run Tryz.prog W = .ok (.tuple #[.agg #[.string ⟨#[]⟩], .bool false]) W := by kernel_rfl
theorem tb138_136 (W : World) : (Instr.typeAssert (.iface 160 (.agg #[])) 114 158 true).run Tryz.prog W = .ok (.tuple #[.agg #[], .bool false]) W := by kernel_rfl
theorem tb138_137 (W : World) : (Instr.typeAssert (.iface 160 (.agg #[])) 114 159 true).run Tryz.prog W = .ok (.tuple #[.agg #[], .bool false]) W := by kernel_rfl
theorem tb138_138 (W : World) : (Instr.typeAssert (.iface 160 (.agg #[])) 114 160 true).run Tryz.prog W = .ok (.tuple #[(.agg #[]), .bool true]) W := by kernel_rfl
set_option maxRecDepth 100000 in
set_option maxHeartbeats 2000000 in
theorem stmtForm_val (k : Int) (w : World) (h : 21 ≤ k ∧ k ≤ 29) : Calls Tryz.prog 107 #[.int .i64 k] w fun e w' => e = .returned (.iface (typI k) (keyVal k)) ∧ w = w' := by
 rcases (by omega : k = 21 ∨ k = 22 ∨ k = 23 ∨ k = 24 ∨ k = 25 ∨ k = 26 ∨ k = 27 ∨ k = 28 ∨ k = 29) with rfl | rfl | rfl | rfl | rfl | rfl | rfl | rfl | rfl
 all_goals (go_enter Tryz.func107, Tryz.ntmps107; go_wp2; go_ret; exact ⟨rfl, rfl⟩)
set_option maxRecDepth 100000 in
set_option maxHeartbeats 2000000 in
theorem formOf_stmt (k : Int) (w : World) (h : 21 ≤ k ∧ k ≤ 29) : Calls Tryz.prog 73 #[.int .i64 k] w fun e w' => e = .returned (.iface (typI k) (keyVal k)) ∧ w = w' := by
 have H := mkHid (fun W => stmtForm_val k W h)
 generalize typI k = t at H ⊢
 generalize keyVal k = v at H ⊢
 rcases (by omega : k = 21 ∨ k = 22 ∨ k = 23 ∨ k = 24 ∨ k = 25 ∨ k = 26 ∨ k = 27 ∨ k = 28 ∨ k = 29) with rfl | rfl | rfl | rfl | rfl | rfl | rfl | rfl | rfl
 ·go_enter Tryz.func73, Tryz.ntmps73
  go_wp2_with fail
  refine (condSign_any 21 _).mono ?_
  rintro e w1 ⟨rfl, rfl⟩
  rw [show signI 21 = ⟨#[]⟩ from rfl]
  go_wp2_with fail
  refine (H.out _).mono ?_
  rintro e w1 ⟨rfl, rfl⟩
  go_wp2
  go_ret
  exact ⟨rfl, rfl⟩
 ·go_enter Tryz.func73, Tryz.ntmps73
  go_wp2_with fail
  refine (condSign_any 22 _).mono ?_
  rintro e w1 ⟨rfl, rfl⟩
  rw [show signI 22 = ⟨#[]⟩ from rfl]
  go_wp2_with fail
  refine (H.out _).mono ?_
  rintro e w1 ⟨rfl, rfl⟩
  go_wp2
  go_ret
  exact ⟨rfl, rfl⟩
 ·go_enter Tryz.func73, Tryz.ntmps73
  go_wp2_with fail
  refine (condSign_any 23 _).mono ?_
  rintro e w1 ⟨rfl, rfl⟩
  rw [show signI 23 = ⟨#[]⟩ from rfl]
  go_wp2_with fail
  refine (H.out _).mono ?_
  rintro e w1 ⟨rfl, rfl⟩
  go_wp2
  go_ret
  exact ⟨rfl, rfl⟩
 ·go_enter Tryz.func73, Tryz.ntmps73
  go_wp2_with fail
  refine (condSign_any 24 _).mono ?_
  rintro e w1 ⟨rfl, rfl⟩
  rw [show signI 24 = ⟨#[]⟩ from rfl]
  go_wp2_with fail
  refine (H.out _).mono ?_
  rintro e w1 ⟨rfl, rfl⟩
  go_wp2
  go_ret
  exact ⟨rfl, rfl⟩
 ·go_enter Tryz.func73, Tryz.ntmps73
  go_wp2_with fail
  refine (condSign_any 25 _).mono ?_
  rintro e w1 ⟨rfl, rfl⟩
  rw [show signI 25 = ⟨#[]⟩ from rfl]
  go_wp2_with fail
  refine (H.out _).mono ?_
  rintro e w1 ⟨rfl, rfl⟩
  go_wp2
  go_ret
  exact ⟨rfl, rfl⟩
 ·go_enter Tryz.func73, Tryz.ntmps73
  go_wp2_with fail
  refine (condSign_any 26 _).mono ?_
  rintro e w1 ⟨rfl, rfl⟩
  rw [show signI 26 = ⟨#[]⟩ from rfl]
  go_wp2_with fail
  refine (H.out _).mono ?_
  rintro e w1 ⟨rfl, rfl⟩
  go_wp2
  go_ret
  exact ⟨rfl, rfl⟩
 ·go_enter Tryz.func73, Tryz.ntmps73
  go_wp2_with fail
  refine (condSign_any 27 _).mono ?_
  rintro e w1 ⟨rfl, rfl⟩
  rw [show signI 27 = ⟨#[]⟩ from rfl]
  go_wp2_with fail
  refine (H.out _).mono ?_
  rintro e w1 ⟨rfl, rfl⟩
  go_wp2
  go_ret
  exact ⟨rfl, rfl⟩
 ·go_enter Tryz.func73, Tryz.ntmps73
  go_wp2_with fail
  refine (condSign_any 28 _).mono ?_
  rintro e w1 ⟨rfl, rfl⟩
  rw [show signI 28 = ⟨#[]⟩ from rfl]
  go_wp2_with fail
  refine (H.out _).mono ?_
  rintro e w1 ⟨rfl, rfl⟩
  go_wp2
  go_ret
  exact ⟨rfl, rfl⟩
 ·go_enter Tryz.func73, Tryz.ntmps73
  go_wp2_with fail
  refine (condSign_any 29 _).mono ?_
  rintro e w1 ⟨rfl, rfl⟩
  rw [show signI 29 = ⟨#[]⟩ from rfl]
  go_wp2_with fail
  refine (H.out _).mono ?_
  rintro e w1 ⟨rfl, rfl⟩
  go_wp2
  go_ret
  exact ⟨rfl, rfl⟩
set_option maxRecDepth 100000 in
set_option maxHeartbeats 2000000 in
theorem formOf_decl (k : Int) (w : World) (h : k = 31 ∨ k = 32) : Calls Tryz.prog 73 #[.int .i64 k] w fun e w' => e = .returned (.iface (typI k) (.agg #[])) ∧ w = w' := by
 rcases h with rfl | rfl
 all_goals (go_enter Tryz.func73, Tryz.ntmps73; go_wp2; go_ret; exact ⟨rfl, rfl⟩)
set_option linter.unusedSimpArgs false in
theorem ap_var (s : ByteArray) (n : Nat) : (lnS (.node 31 s 0 []) (padB n)).data.toList = padL n ++ (cat [⟨#[118, 97, 114, 32]⟩, s, ⟨#[59]⟩]) ++ [10] := by
 rw [lnS_eq]
 show (ByteArray.data (padB n ++ ⟨#[118, 97, 114, 32]⟩ ++ s ++ ⟨#[59, 10]⟩)).toList = _
 simp only [toL_app, padB_list, cat, exT, List.flatMap_cons, List.flatMap_nil, List.append_nil, List.append_assoc]
 rfl
set_option linter.unusedSimpArgs false in
set_option maxRecDepth 100000 in
set_option maxHeartbeats 8000000 in
theorem pLn_var (s : ByteArray) : PLn (.node 31 s 0 []) := by
 intro W0 n B b l a c w hc hp hk har hl
 have hn9 : n ≤ 499 := by simp only [dep] at hp; omega
 rw [inT_of (ap_var s n)] at hl ⊢
 simp only [List.length_append, cl_cons, cl_nil, bz, List.size_toArray, List.length_cons, List.length_nil, padL_len] at hl
 have HF := mkHid (fun W => formOf_decl 31 W (by omega))
 have t127 := tb127_127
 have A0 := har.alloc (.cells #[.int .i64 31, .string s, .int .i64 0, .slice a 0 c] 38)
 have H0 := World.heap_alloc_new w #[.int .i64 31, .string s, .int .i64 0, .slice a 0 c] 38
 have hnb : w.heap.size ≠ b := by have := har.pr.lt; omega
 have A1 := A0.alloc (.cells #[] 147)
 have H1 : ((w.alloc (.cells #[.int .i64 31, .string s, .int .i64 0, .slice a 0 c] 38)).alloc (.cells #[] 147)).heap[w.heap.size]? = some (.cells #[.int .i64 31, .string s, .int .i64 0, .slice a 0 c] 38 (0, 0)) := (Lib.alloc_old _ _ _ (by simp)).trans H0
 have K1 := mkHid ((((Below.refl B w).alloc har.hi (.cells #[.int .i64 31, .string s, .int .i64 0, .slice a 0 c] 38)).alloc (Nat.le_trans har.hi (by simp)) (.cells #[] 147)))
 have O1 := mkHid ((((Lib.OthersKept.refl 5 (some b) w).alloc (.cells #[.int .i64 31, .string s, .int .i64 0, .slice a 0 c] 38)).alloc (.cells #[] 147)))
 have AA := mkHid A1
 have HH := mkHid H1
 clear A0 H0 A1 H1 har
 show Calls Tryz.prog 100 #[.pointer (some ⟨b, 0, none⟩), .agg #[.int .i64 31, .string s, .int .i64 0, .slice a 0 c]] w _
 go_enter Tryz.func100, Tryz.ntmps100
 go_wp2_with fail
 refine (HF.out _).mono ?_
 rintro e w1 ⟨rfl, rfl⟩
 rw [show typI 31 = 147 from rfl]
 go_wp2_with fail
 refine (put_new W0 _ B b _ [⟨#[118, 97, 114, 32]⟩, s, ⟨#[59]⟩] #[.string ⟨#[118, 97, 114, 32]⟩, .string s, .string ⟨#[59]⟩] _ _ (by simp) AA.out (by simp only [List.length_append, cl_cons, cl_nil, bz, List.size_toArray, List.length_cons, List.length_nil, padL_len]; omega) (by simp) rfl).mono ?_
 rintro e w2 ⟨rfl, hp9, hb9, hk9⟩
 have M1 := mkHid (show IsPr (n : Int) B b (Lib.byteCells (l ++ (cat [⟨#[118, 97, 114, 32]⟩, s, ⟨#[59]⟩]))) w2 from by first | exact hp9 | (have := hp9; simp only [List.append_assoc] at this ⊢; exact this))
 have M2 := mkHid (K1.out.trans hb9)
 have M3 := mkHid (O1.out.trans hk9)
 clear hp9 hb9 hk9 AA HH K1 O1 
 go_wp2
 go_end0
 exact ⟨rfl, M1.out, M2.out, M3.out⟩
set_option linter.unusedSimpArgs false in
theorem ap_read (s : ByteArray) (n : Nat) : (lnS (.node 23 s 0 []) (padB n)).data.toList = padL n ++ (cat [⟨#[114, 101, 97, 100, 32]⟩, s, ⟨#[59]⟩]) ++ [10] := by
 rw [lnS_eq]
 show (ByteArray.data (padB n ++ ⟨#[114, 101, 97, 100, 32]⟩ ++ s ++ ⟨#[59, 10]⟩)).toList = _
 simp only [toL_app, padB_list, cat, exT, List.flatMap_cons, List.flatMap_nil, List.append_nil, List.append_assoc]
 rfl
set_option linter.unusedSimpArgs false in
set_option maxRecDepth 100000 in
set_option maxHeartbeats 8000000 in
theorem pLn_read (s : ByteArray) : PLn (.node 23 s 0 []) := by
 intro W0 n B b l a c w hc hp hk har hl
 have hn9 : n ≤ 499 := by simp only [dep] at hp; omega
 rw [inT_of (ap_read s n)] at hl ⊢
 simp only [List.length_append, cl_cons, cl_nil, bz, List.size_toArray, List.length_cons, List.length_nil, padL_len] at hl
 have HF := mkHid (fun W => formOf_stmt 23 W (by omega))
 have t127 := tb132_127
 have t128 := tb132_128
 have t130 := tb132_130
 have t131 := tb132_131
 have t132 := tb132_132
 have A0 := har.alloc (.cells #[.int .i64 23, .string s, .int .i64 0, .slice a 0 c] 38)
 have H0 := World.heap_alloc_new w #[.int .i64 23, .string s, .int .i64 0, .slice a 0 c] 38
 have hnb : w.heap.size ≠ b := by have := har.pr.lt; omega
 have A1 := A0.alloc (.cells #[] 154)
 have H1 : ((w.alloc (.cells #[.int .i64 23, .string s, .int .i64 0, .slice a 0 c] 38)).alloc (.cells #[] 154)).heap[w.heap.size]? = some (.cells #[.int .i64 23, .string s, .int .i64 0, .slice a 0 c] 38 (0, 0)) := (Lib.alloc_old _ _ _ (by simp)).trans H0
 have K1 := mkHid ((((Below.refl B w).alloc har.hi (.cells #[.int .i64 23, .string s, .int .i64 0, .slice a 0 c] 38)).alloc (Nat.le_trans har.hi (by simp)) (.cells #[] 154)))
 have O1 := mkHid ((((Lib.OthersKept.refl 5 (some b) w).alloc (.cells #[.int .i64 23, .string s, .int .i64 0, .slice a 0 c] 38)).alloc (.cells #[] 154)))
 have AA := mkHid A1
 have HH := mkHid H1
 clear A0 H0 A1 H1 har
 show Calls Tryz.prog 100 #[.pointer (some ⟨b, 0, none⟩), .agg #[.int .i64 23, .string s, .int .i64 0, .slice a 0 c]] w _
 go_enter Tryz.func100, Tryz.ntmps100
 go_wp2_with fail
 refine (HF.out _).mono ?_
 rintro e w1 ⟨rfl, rfl⟩
 rw [show typI 23 = 154 from rfl, show keyVal 23 = .agg #[] from rfl]
 go_wp2_with fail
 refine (put_new W0 _ B b _ [⟨#[114, 101, 97, 100, 32]⟩, s, ⟨#[59]⟩] #[.string ⟨#[114, 101, 97, 100, 32]⟩, .string s, .string ⟨#[59]⟩] _ _ (by simp) AA.out (by simp only [List.length_append, cl_cons, cl_nil, bz, List.size_toArray, List.length_cons, List.length_nil, padL_len]; omega) (by simp) rfl).mono ?_
 rintro e w2 ⟨rfl, hp9, hb9, hk9⟩
 have M1 := mkHid (show IsPr (n : Int) B b (Lib.byteCells (l ++ (cat [⟨#[114, 101, 97, 100, 32]⟩, s, ⟨#[59]⟩]))) w2 from by first | exact hp9 | (have := hp9; simp only [List.append_assoc] at this ⊢; exact this))
 have M2 := mkHid (K1.out.trans hb9)
 have M3 := mkHid (O1.out.trans hk9)
 clear hp9 hb9 hk9 AA HH K1 O1 
 go_wp2
 go_end0
 exact ⟨rfl, M1.out, M2.out, M3.out⟩
set_option linter.unusedSimpArgs false in
theorem ap_set (s : ByteArray) (x : T) (n : Nat) : (lnS (.node 21 s 0 [x]) (padB n)).data.toList = padL n ++ (cat [s, ⟨#[32, 61, 32]⟩] ++ exT x ++ cat [⟨#[59]⟩]) ++ [10] := by
 rw [lnS_eq]
 rw [exSs1]
 show (ByteArray.data (padB n ++ s ++ ⟨#[32, 61, 32]⟩ ++ exS x ++ ⟨#[59, 10]⟩)).toList = _
 simp only [toL_app, padB_list, cat, exT, List.flatMap_cons, List.flatMap_nil, List.append_nil, List.append_assoc]
 rfl
set_option linter.unusedSimpArgs false in
set_option maxRecDepth 100000 in
set_option maxHeartbeats 8000000 in
theorem pLn_set (s : ByteArray) (x : T) (hx : Good1 x) : PLn (.node 21 s 0 [x]) := by
 intro W0 n B b l a c w hc hp hk har hl
 have hcx : cnt x ≤ 499 := by simp only [cnt, cnts] at hc ⊢; omega
 have hn9 : n ≤ 499 := by simp only [dep] at hp; omega
 rw [inT_of (ap_set s x n)] at hl ⊢
 simp only [List.length_append, cl_cons, cl_nil, bz, List.size_toArray, List.length_cons, List.length_nil, padL_len] at hl
 rcases hk with h0 | ⟨kb, o, rfl, _, hll⟩
 ·cases h0
 have hAx : (exT x).length = (exS x).size := (Lib.size_eq _).symm
 obtain ⟨xk, xs, xm, xkk⟩ := x
 obtain ⟨xa, xc, xc0, xc1, xc2, xc3, _, _, xkids⟩ := hll.at (i := 0) (show _ = some (T.node xk xs xm xkk) from rfl)
 simp only [Nat.zero_mul, Nat.add_zero] at xc0 xc1 xc2 xc3
 have xH := mkHid (And.intro xc0 (And.intro xc1 (And.intro xc2 xc3)))
 have hbw : kb < W0.heap.size := World.block_lt_of_cell? W0 _ xc0
 clear xc0 xc1 xc2 xc3
 have HF := mkHid (fun W => formOf_stmt 21 W (by omega))
 have t127 := tb130_127
 have t128 := tb130_128
 have t130 := tb130_130
 have A0 := har.alloc (.cells #[.int .i64 21, .string s, .int .i64 0, .slice (some ⟨kb, o, none⟩) 1 c] 38)
 have H0 := World.heap_alloc_new w #[.int .i64 21, .string s, .int .i64 0, .slice (some ⟨kb, o, none⟩) 1 c] 38
 have hnb : w.heap.size ≠ b := by have := har.pr.lt; omega
 have A1 := A0.alloc (.cells #[] 152)
 have H1 : ((w.alloc (.cells #[.int .i64 21, .string s, .int .i64 0, .slice (some ⟨kb, o, none⟩) 1 c] 38)).alloc (.cells #[] 152)).heap[w.heap.size]? = some (.cells #[.int .i64 21, .string s, .int .i64 0, .slice (some ⟨kb, o, none⟩) 1 c] 38 (0, 0)) := (Lib.alloc_old _ _ _ (by simp)).trans H0
 have K1 := mkHid ((((Below.refl B w).alloc har.hi (.cells #[.int .i64 21, .string s, .int .i64 0, .slice (some ⟨kb, o, none⟩) 1 c] 38)).alloc (Nat.le_trans har.hi (by simp)) (.cells #[] 152)))
 have O1 := mkHid ((((Lib.OthersKept.refl 5 (some b) w).alloc (.cells #[.int .i64 21, .string s, .int .i64 0, .slice (some ⟨kb, o, none⟩) 1 c] 38)).alloc (.cells #[] 152)))
 have AA := mkHid A1
 have HH := mkHid H1
 clear A0 H0 A1 H1 har
 show Calls Tryz.prog 100 #[.pointer (some ⟨b, 0, none⟩), .agg #[.int .i64 21, .string s, .int .i64 0, .slice (some ⟨kb, o, none⟩) 1 c]] w _
 go_enter Tryz.func100, Tryz.ntmps100
 go_wp2_with fail
 refine (HF.out _).mono ?_
 rintro e w1 ⟨rfl, rfl⟩
 rw [show typI 21 = 152 from rfl, show keyVal 21 = .agg #[] from rfl]
 go_wp2_with fail
 refine (put_new W0 _ B b _ [s, ⟨#[32, 61, 32]⟩] #[.string s, .string ⟨#[32, 61, 32]⟩] _ _ (by simp) AA.out (by simp only [List.length_append, cl_cons, cl_nil, bz, List.size_toArray, List.length_cons, List.length_nil, padL_len]; omega) (by simp) rfl).mono ?_
 rintro e w2 ⟨rfl, hp9, hb9, hk9⟩
 have A2 := mkHid (AA.out.step hp9 hb9)
 have H2 := mkHid (node_kept HH.out hnb hk9)
 have K2 := mkHid (K1.out.trans hb9)
 have O2 := mkHid (O1.out.trans hk9)
 clear hp9 hb9 hk9 AA HH K1 O1 
 have c0 : w2.cell? ⟨w.heap.size, 0, none⟩ = some (.int .i64 21) := by rw [Lib.cell_of_heap H2.out]; rfl
 have c1 : w2.cell? ⟨w.heap.size, 1, none⟩ = some (.string s) := by rw [Lib.cell_of_heap H2.out]; rfl
 have c2 : w2.cell? ⟨w.heap.size, 2, none⟩ = some (.int .i64 0) := by rw [Lib.cell_of_heap H2.out]; rfl
 have c3 : w2.cell? ⟨w.heap.size, 3, none⟩ = some (.slice (some ⟨kb, o, none⟩) 1 c) := by rw [Lib.cell_of_heap H2.out]; rfl
 have xq0 := (A2.out.old.cell (p := ⟨kb, _, none⟩) hbw).trans xH.out.1
 have xq1 := (A2.out.old.cell (p := ⟨kb, _, none⟩) hbw).trans xH.out.2.1
 have xq2 := (A2.out.old.cell (p := ⟨kb, _, none⟩) hbw).trans xH.out.2.2.1
 have xq3 := (A2.out.old.cell (p := ⟨kb, _, none⟩) hbw).trans xH.out.2.2.2
 go_wp2_with fail
 refine (pEx_ok (.node xk xs xm xkk) W0 _ B b _ xa xc _ hx.good (by omega) xkids A2.out (by simp only [List.length_append, cl_cons, cl_nil, bz, List.size_toArray, List.length_cons, List.length_nil, padL_len]; omega)).mono ?_
 rintro e w3 ⟨rfl, hp9, hb9, hk9⟩
 have A3 := mkHid (A2.out.step hp9 hb9)
 have H3 := mkHid (node_kept H2.out hnb hk9)
 have K3 := mkHid (K2.out.trans hb9)
 have O3 := mkHid (O2.out.trans hk9)
 clear hp9 hb9 hk9 A2 H2 K2 O2 c0 c1 c2 c3 xq0 xq1 xq2 xq3
 go_wp2_with fail
 refine (put_new W0 _ B b _ [⟨#[59]⟩] #[.string ⟨#[59]⟩] _ _ rfl A3.out (by simp only [List.length_append, cl_cons, cl_nil, bz, List.size_toArray, List.length_cons, List.length_nil, padL_len]; omega) (by simp) rfl).mono ?_
 rintro e w4 ⟨rfl, hp9, hb9, hk9⟩
 have M1 := mkHid (show IsPr (n : Int) B b (Lib.byteCells (l ++ (cat [s, ⟨#[32, 61, 32]⟩] ++ exT (.node xk xs xm xkk) ++ cat [⟨#[59]⟩]))) w4 from by first | exact hp9 | (have := hp9; simp only [List.append_assoc] at this ⊢; exact this))
 have M2 := mkHid (K3.out.trans hb9)
 have M3 := mkHid (O3.out.trans hk9)
 clear hp9 hb9 hk9 A3 H3 K3 O3 
 go_wp2
 go_end0
 exact ⟨rfl, M1.out, M2.out, M3.out⟩
set_option linter.unusedSimpArgs false in
theorem ap_put (s : ByteArray) (x : T) (y : T) (n : Nat) : (lnS (.node 22 s 0 [x, y]) (padB n)).data.toList = padL n ++ (cat [s, ⟨#[91]⟩] ++ exT x ++ cat [⟨#[93, 32, 61, 32]⟩] ++ exT y ++ cat [⟨#[59]⟩]) ++ [10] := by
 rw [lnS_eq]
 rw [exSs2]
 show (ByteArray.data (padB n ++ s ++ ⟨#[91]⟩ ++ exS x ++ ⟨#[93, 32, 61, 32]⟩ ++ exS y ++ ⟨#[59, 10]⟩)).toList = _
 simp only [toL_app, padB_list, cat, exT, List.flatMap_cons, List.flatMap_nil, List.append_nil, List.append_assoc]
 rfl
set_option linter.unusedSimpArgs false in
set_option maxRecDepth 100000 in
set_option maxHeartbeats 8000000 in
theorem pLn_put (s : ByteArray) (x : T) (y : T) (hx : Good1 x) (hy : Good1 y) : PLn (.node 22 s 0 [x, y]) := by
 intro W0 n B b l a c w hc hp hk har hl
 have hcx : cnt x + cnt y ≤ 499 := by simp only [cnt, cnts] at hc ⊢; omega
 have hn9 : n ≤ 499 := by simp only [dep] at hp; omega
 rw [inT_of (ap_put s x y n)] at hl ⊢
 simp only [List.length_append, cl_cons, cl_nil, bz, List.size_toArray, List.length_cons, List.length_nil, padL_len] at hl
 rcases hk with h0 | ⟨kb, o, rfl, _, hll⟩
 ·cases h0
 have hAx : (exT x).length = (exS x).size := (Lib.size_eq _).symm
 obtain ⟨xk, xs, xm, xkk⟩ := x
 obtain ⟨xa, xc, xc0, xc1, xc2, xc3, _, _, xkids⟩ := hll.at (i := 0) (show _ = some (T.node xk xs xm xkk) from rfl)
 simp only [Nat.zero_mul, Nat.add_zero] at xc0 xc1 xc2 xc3
 have xH := mkHid (And.intro xc0 (And.intro xc1 (And.intro xc2 xc3)))
 have hAy : (exT y).length = (exS y).size := (Lib.size_eq _).symm
 obtain ⟨yk, ys, ym, ykk⟩ := y
 obtain ⟨ya, yc, yc0, yc1, yc2, yc3, _, _, ykids⟩ := hll.at (i := 1) (show _ = some (T.node yk ys ym ykk) from rfl)
 simp only [Nat.one_mul] at yc0 yc1 yc2 yc3
 have yH := mkHid (And.intro yc0 (And.intro yc1 (And.intro yc2 yc3)))
 have hbw : kb < W0.heap.size := World.block_lt_of_cell? W0 _ xc0
 clear xc0 xc1 xc2 xc3 yc0 yc1 yc2 yc3
 have HF := mkHid (fun W => formOf_stmt 22 W (by omega))
 have t127 := tb131_127
 have t128 := tb131_128
 have t130 := tb131_130
 have t131 := tb131_131
 have A0 := har.alloc (.cells #[.int .i64 22, .string s, .int .i64 0, .slice (some ⟨kb, o, none⟩) 2 c] 38)
 have H0 := World.heap_alloc_new w #[.int .i64 22, .string s, .int .i64 0, .slice (some ⟨kb, o, none⟩) 2 c] 38
 have hnb : w.heap.size ≠ b := by have := har.pr.lt; omega
 have A1 := A0.alloc (.cells #[] 153)
 have H1 : ((w.alloc (.cells #[.int .i64 22, .string s, .int .i64 0, .slice (some ⟨kb, o, none⟩) 2 c] 38)).alloc (.cells #[] 153)).heap[w.heap.size]? = some (.cells #[.int .i64 22, .string s, .int .i64 0, .slice (some ⟨kb, o, none⟩) 2 c] 38 (0, 0)) := (Lib.alloc_old _ _ _ (by simp)).trans H0
 have K1 := mkHid ((((Below.refl B w).alloc har.hi (.cells #[.int .i64 22, .string s, .int .i64 0, .slice (some ⟨kb, o, none⟩) 2 c] 38)).alloc (Nat.le_trans har.hi (by simp)) (.cells #[] 153)))
 have O1 := mkHid ((((Lib.OthersKept.refl 5 (some b) w).alloc (.cells #[.int .i64 22, .string s, .int .i64 0, .slice (some ⟨kb, o, none⟩) 2 c] 38)).alloc (.cells #[] 153)))
 have AA := mkHid A1
 have HH := mkHid H1
 clear A0 H0 A1 H1 har
 show Calls Tryz.prog 100 #[.pointer (some ⟨b, 0, none⟩), .agg #[.int .i64 22, .string s, .int .i64 0, .slice (some ⟨kb, o, none⟩) 2 c]] w _
 go_enter Tryz.func100, Tryz.ntmps100
 go_wp2_with fail
 refine (HF.out _).mono ?_
 rintro e w1 ⟨rfl, rfl⟩
 rw [show typI 22 = 153 from rfl, show keyVal 22 = .agg #[] from rfl]
 go_wp2_with fail
 refine (put_new W0 _ B b _ [s, ⟨#[91]⟩] #[.string s, .string ⟨#[91]⟩] _ _ (by simp) AA.out (by simp only [List.length_append, cl_cons, cl_nil, bz, List.size_toArray, List.length_cons, List.length_nil, padL_len]; omega) (by simp) rfl).mono ?_
 rintro e w2 ⟨rfl, hp9, hb9, hk9⟩
 have A2 := mkHid (AA.out.step hp9 hb9)
 have H2 := mkHid (node_kept HH.out hnb hk9)
 have K2 := mkHid (K1.out.trans hb9)
 have O2 := mkHid (O1.out.trans hk9)
 clear hp9 hb9 hk9 AA HH K1 O1 
 have c0 : w2.cell? ⟨w.heap.size, 0, none⟩ = some (.int .i64 22) := by rw [Lib.cell_of_heap H2.out]; rfl
 have c1 : w2.cell? ⟨w.heap.size, 1, none⟩ = some (.string s) := by rw [Lib.cell_of_heap H2.out]; rfl
 have c2 : w2.cell? ⟨w.heap.size, 2, none⟩ = some (.int .i64 0) := by rw [Lib.cell_of_heap H2.out]; rfl
 have c3 : w2.cell? ⟨w.heap.size, 3, none⟩ = some (.slice (some ⟨kb, o, none⟩) 2 c) := by rw [Lib.cell_of_heap H2.out]; rfl
 have xq0 := (A2.out.old.cell (p := ⟨kb, _, none⟩) hbw).trans xH.out.1
 have xq1 := (A2.out.old.cell (p := ⟨kb, _, none⟩) hbw).trans xH.out.2.1
 have xq2 := (A2.out.old.cell (p := ⟨kb, _, none⟩) hbw).trans xH.out.2.2.1
 have xq3 := (A2.out.old.cell (p := ⟨kb, _, none⟩) hbw).trans xH.out.2.2.2
 go_wp2_with fail
 refine (pEx_ok (.node xk xs xm xkk) W0 _ B b _ xa xc _ hx.good (by omega) xkids A2.out (by simp only [List.length_append, cl_cons, cl_nil, bz, List.size_toArray, List.length_cons, List.length_nil, padL_len]; omega)).mono ?_
 rintro e w3 ⟨rfl, hp9, hb9, hk9⟩
 have A3 := mkHid (A2.out.step hp9 hb9)
 have H3 := mkHid (node_kept H2.out hnb hk9)
 have K3 := mkHid (K2.out.trans hb9)
 have O3 := mkHid (O2.out.trans hk9)
 clear hp9 hb9 hk9 A2 H2 K2 O2 c0 c1 c2 c3 xq0 xq1 xq2 xq3
 go_wp2_with fail
 refine (put_new W0 _ B b _ [⟨#[93, 32, 61, 32]⟩] #[.string ⟨#[93, 32, 61, 32]⟩] _ _ rfl A3.out (by simp only [List.length_append, cl_cons, cl_nil, bz, List.size_toArray, List.length_cons, List.length_nil, padL_len]; omega) (by simp) rfl).mono ?_
 rintro e w4 ⟨rfl, hp9, hb9, hk9⟩
 have A4 := mkHid (A3.out.step hp9 hb9)
 have H4 := mkHid (node_kept H3.out hnb hk9)
 have K4 := mkHid (K3.out.trans hb9)
 have O4 := mkHid (O3.out.trans hk9)
 clear hp9 hb9 hk9 A3 H3 K3 O3 
 have c0 : w4.cell? ⟨w.heap.size, 0, none⟩ = some (.int .i64 22) := by rw [Lib.cell_of_heap H4.out]; rfl
 have c1 : w4.cell? ⟨w.heap.size, 1, none⟩ = some (.string s) := by rw [Lib.cell_of_heap H4.out]; rfl
 have c2 : w4.cell? ⟨w.heap.size, 2, none⟩ = some (.int .i64 0) := by rw [Lib.cell_of_heap H4.out]; rfl
 have c3 : w4.cell? ⟨w.heap.size, 3, none⟩ = some (.slice (some ⟨kb, o, none⟩) 2 c) := by rw [Lib.cell_of_heap H4.out]; rfl
 have yq0 := (A4.out.old.cell (p := ⟨kb, _, none⟩) hbw).trans yH.out.1
 have yq1 := (A4.out.old.cell (p := ⟨kb, _, none⟩) hbw).trans yH.out.2.1
 have yq2 := (A4.out.old.cell (p := ⟨kb, _, none⟩) hbw).trans yH.out.2.2.1
 have yq3 := (A4.out.old.cell (p := ⟨kb, _, none⟩) hbw).trans yH.out.2.2.2
 go_wp2_with fail
 refine (pEx_ok (.node yk ys ym ykk) W0 _ B b _ ya yc _ hy.good (by omega) ykids A4.out (by simp only [List.length_append, cl_cons, cl_nil, bz, List.size_toArray, List.length_cons, List.length_nil, padL_len]; omega)).mono ?_
 rintro e w5 ⟨rfl, hp9, hb9, hk9⟩
 have A5 := mkHid (A4.out.step hp9 hb9)
 have H5 := mkHid (node_kept H4.out hnb hk9)
 have K5 := mkHid (K4.out.trans hb9)
 have O5 := mkHid (O4.out.trans hk9)
 clear hp9 hb9 hk9 A4 H4 K4 O4 c0 c1 c2 c3 yq0 yq1 yq2 yq3
 go_wp2_with fail
 refine (put_new W0 _ B b _ [⟨#[59]⟩] #[.string ⟨#[59]⟩] _ _ rfl A5.out (by simp only [List.length_append, cl_cons, cl_nil, bz, List.size_toArray, List.length_cons, List.length_nil, padL_len]; omega) (by simp) rfl).mono ?_
 rintro e w6 ⟨rfl, hp9, hb9, hk9⟩
 have M1 := mkHid (show IsPr (n : Int) B b (Lib.byteCells (l ++ (cat [s, ⟨#[91]⟩] ++ exT (.node xk xs xm xkk) ++ cat [⟨#[93, 32, 61, 32]⟩] ++ exT (.node yk ys ym ykk) ++ cat [⟨#[59]⟩]))) w6 from by first | exact hp9 | (have := hp9; simp only [List.append_assoc] at this ⊢; exact this))
 have M2 := mkHid (K5.out.trans hb9)
 have M3 := mkHid (O5.out.trans hk9)
 clear hp9 hb9 hk9 A5 H5 K5 O5 
 go_wp2
 go_end0
 exact ⟨rfl, M1.out, M2.out, M3.out⟩
set_option linter.unusedSimpArgs false in
theorem ap_chec (s : ByteArray) (x : T) (n : Nat) : (lnS (.node 27 s 0 [x]) (padB n)).data.toList = padL n ++ (cat [⟨#[99, 104, 101, 99, 107, 32]⟩] ++ exT x ++ cat [⟨#[59]⟩]) ++ [10] := by
 rw [lnS_eq]
 rw [exSs1]
 show (ByteArray.data (padB n ++ ⟨#[99, 104, 101, 99, 107, 32]⟩ ++ exS x ++ ⟨#[59, 10]⟩)).toList = _
 simp only [toL_app, padB_list, cat, exT, List.flatMap_cons, List.flatMap_nil, List.append_nil, List.append_assoc]
 rfl
set_option linter.unusedSimpArgs false in
set_option maxRecDepth 100000 in
set_option maxHeartbeats 8000000 in
theorem pLn_chec (s : ByteArray) (x : T) (hx : GoodC x) : PLn (.node 27 s 0 [x]) := by
 intro W0 n B b l a c w hc hp hk har hl
 have hcx : cnt x ≤ 499 := by simp only [cnt, cnts] at hc ⊢; omega
 have hn9 : n ≤ 499 := by simp only [dep] at hp; omega
 rw [inT_of (ap_chec s x n)] at hl ⊢
 simp only [List.length_append, cl_cons, cl_nil, bz, List.size_toArray, List.length_cons, List.length_nil, padL_len] at hl
 rcases hk with h0 | ⟨kb, o, rfl, _, hll⟩
 ·cases h0
 have hAx : (exT x).length = (exS x).size := (Lib.size_eq _).symm
 obtain ⟨xk, xs, xm, xkk⟩ := x
 obtain ⟨xa, xc, xc0, xc1, xc2, xc3, _, _, xkids⟩ := hll.at (i := 0) (show _ = some (T.node xk xs xm xkk) from rfl)
 simp only [Nat.zero_mul, Nat.add_zero] at xc0 xc1 xc2 xc3
 have xH := mkHid (And.intro xc0 (And.intro xc1 (And.intro xc2 xc3)))
 have hbw : kb < W0.heap.size := World.block_lt_of_cell? W0 _ xc0
 clear xc0 xc1 xc2 xc3
 have HF := mkHid (fun W => formOf_stmt 27 W (by omega))
 have t127 := tb133_127
 have t128 := tb133_128
 have t130 := tb133_130
 have t131 := tb133_131
 have t132 := tb133_132
 have t133 := tb133_133
 have A0 := har.alloc (.cells #[.int .i64 27, .string s, .int .i64 0, .slice (some ⟨kb, o, none⟩) 1 c] 38)
 have H0 := World.heap_alloc_new w #[.int .i64 27, .string s, .int .i64 0, .slice (some ⟨kb, o, none⟩) 1 c] 38
 have hnb : w.heap.size ≠ b := by have := har.pr.lt; omega
 have A1 := A0.alloc (.cells #[] 155)
 have H1 : ((w.alloc (.cells #[.int .i64 27, .string s, .int .i64 0, .slice (some ⟨kb, o, none⟩) 1 c] 38)).alloc (.cells #[] 155)).heap[w.heap.size]? = some (.cells #[.int .i64 27, .string s, .int .i64 0, .slice (some ⟨kb, o, none⟩) 1 c] 38 (0, 0)) := (Lib.alloc_old _ _ _ (by simp)).trans H0
 have K1 := mkHid ((((Below.refl B w).alloc har.hi (.cells #[.int .i64 27, .string s, .int .i64 0, .slice (some ⟨kb, o, none⟩) 1 c] 38)).alloc (Nat.le_trans har.hi (by simp)) (.cells #[] 155)))
 have O1 := mkHid ((((Lib.OthersKept.refl 5 (some b) w).alloc (.cells #[.int .i64 27, .string s, .int .i64 0, .slice (some ⟨kb, o, none⟩) 1 c] 38)).alloc (.cells #[] 155)))
 have AA := mkHid A1
 have HH := mkHid H1
 clear A0 H0 A1 H1 har
 show Calls Tryz.prog 100 #[.pointer (some ⟨b, 0, none⟩), .agg #[.int .i64 27, .string s, .int .i64 0, .slice (some ⟨kb, o, none⟩) 1 c]] w _
 go_enter Tryz.func100, Tryz.ntmps100
 go_wp2_with fail
 refine (HF.out _).mono ?_
 rintro e w1 ⟨rfl, rfl⟩
 rw [show typI 27 = 155 from rfl, show keyVal 27 = .agg #[] from rfl]
 go_wp2_with fail
 refine (put_new W0 _ B b _ [⟨#[99, 104, 101, 99, 107, 32]⟩] #[.string ⟨#[99, 104, 101, 99, 107, 32]⟩] _ _ (by simp) AA.out (by simp only [List.length_append, cl_cons, cl_nil, bz, List.size_toArray, List.length_cons, List.length_nil, padL_len]; omega) (by simp) rfl).mono ?_
 rintro e w2 ⟨rfl, hp9, hb9, hk9⟩
 have A2 := mkHid (AA.out.step hp9 hb9)
 have H2 := mkHid (node_kept HH.out hnb hk9)
 have K2 := mkHid (K1.out.trans hb9)
 have O2 := mkHid (O1.out.trans hk9)
 clear hp9 hb9 hk9 AA HH K1 O1 
 have c0 : w2.cell? ⟨w.heap.size, 0, none⟩ = some (.int .i64 27) := by rw [Lib.cell_of_heap H2.out]; rfl
 have c1 : w2.cell? ⟨w.heap.size, 1, none⟩ = some (.string s) := by rw [Lib.cell_of_heap H2.out]; rfl
 have c2 : w2.cell? ⟨w.heap.size, 2, none⟩ = some (.int .i64 0) := by rw [Lib.cell_of_heap H2.out]; rfl
 have c3 : w2.cell? ⟨w.heap.size, 3, none⟩ = some (.slice (some ⟨kb, o, none⟩) 1 c) := by rw [Lib.cell_of_heap H2.out]; rfl
 have xq0 := (A2.out.old.cell (p := ⟨kb, _, none⟩) hbw).trans xH.out.1
 have xq1 := (A2.out.old.cell (p := ⟨kb, _, none⟩) hbw).trans xH.out.2.1
 have xq2 := (A2.out.old.cell (p := ⟨kb, _, none⟩) hbw).trans xH.out.2.2.1
 have xq3 := (A2.out.old.cell (p := ⟨kb, _, none⟩) hbw).trans xH.out.2.2.2
 go_wp2_with fail
 refine (pEx_ok (.node xk xs xm xkk) W0 _ B b _ xa xc _ hx.good (by omega) xkids A2.out (by simp only [List.length_append, cl_cons, cl_nil, bz, List.size_toArray, List.length_cons, List.length_nil, padL_len]; omega)).mono ?_
 rintro e w3 ⟨rfl, hp9, hb9, hk9⟩
 have A3 := mkHid (A2.out.step hp9 hb9)
 have H3 := mkHid (node_kept H2.out hnb hk9)
 have K3 := mkHid (K2.out.trans hb9)
 have O3 := mkHid (O2.out.trans hk9)
 clear hp9 hb9 hk9 A2 H2 K2 O2 c0 c1 c2 c3 xq0 xq1 xq2 xq3
 go_wp2_with fail
 refine (put_new W0 _ B b _ [⟨#[59]⟩] #[.string ⟨#[59]⟩] _ _ rfl A3.out (by simp only [List.length_append, cl_cons, cl_nil, bz, List.size_toArray, List.length_cons, List.length_nil, padL_len]; omega) (by simp) rfl).mono ?_
 rintro e w4 ⟨rfl, hp9, hb9, hk9⟩
 have M1 := mkHid (show IsPr (n : Int) B b (Lib.byteCells (l ++ (cat [⟨#[99, 104, 101, 99, 107, 32]⟩] ++ exT (.node xk xs xm xkk) ++ cat [⟨#[59]⟩]))) w4 from by first | exact hp9 | (have := hp9; simp only [List.append_assoc] at this ⊢; exact this))
 have M2 := mkHid (K3.out.trans hb9)
 have M3 := mkHid (O3.out.trans hk9)
 clear hp9 hb9 hk9 A3 H3 K3 O3 
 go_wp2
 go_end0
 exact ⟨rfl, M1.out, M2.out, M3.out⟩
set_option linter.unusedSimpArgs false in
theorem ap_skip (s : ByteArray) (n : Nat) : (lnS (.node 28 s 0 []) (padB n)).data.toList = padL n ++ (cat [⟨#[115, 107, 105, 112]⟩, ⟨#[59]⟩]) ++ [10] := by
 rw [lnS_eq]
 show (ByteArray.data (padB n ++ ⟨#[115, 107, 105, 112, 59, 10]⟩)).toList = _
 simp only [toL_app, padB_list, cat, exT, List.flatMap_cons, List.flatMap_nil, List.append_nil, List.append_assoc]
 rfl
set_option linter.unusedSimpArgs false in
set_option maxRecDepth 100000 in
set_option maxHeartbeats 8000000 in
theorem pLn_skip (s : ByteArray) : PLn (.node 28 s 0 []) := by
 intro W0 n B b l a c w hc hp hk har hl
 have hn9 : n ≤ 499 := by simp only [dep] at hp; omega
 rw [inT_of (ap_skip s n)] at hl ⊢
 simp only [List.length_append, cl_cons, cl_nil, bz, List.size_toArray, List.length_cons, List.length_nil, padL_len] at hl
 have HF := mkHid (fun W => formOf_stmt 28 W (by omega))
 have t127 := tb135_127
 have t128 := tb135_128
 have t130 := tb135_130
 have t131 := tb135_131
 have t132 := tb135_132
 have t133 := tb135_133
 have t135 := tb135_135
 have A0 := har.alloc (.cells #[.int .i64 28, .string s, .int .i64 0, .slice a 0 c] 38)
 have H0 := World.heap_alloc_new w #[.int .i64 28, .string s, .int .i64 0, .slice a 0 c] 38
 have hnb : w.heap.size ≠ b := by have := har.pr.lt; omega
 have A1 := A0.alloc (.cells #[.string ⟨#[115, 107, 105, 112]⟩] 157)
 have H1 : ((w.alloc (.cells #[.int .i64 28, .string s, .int .i64 0, .slice a 0 c] 38)).alloc (.cells #[.string ⟨#[115, 107, 105, 112]⟩] 157)).heap[w.heap.size]? = some (.cells #[.int .i64 28, .string s, .int .i64 0, .slice a 0 c] 38 (0, 0)) := (Lib.alloc_old _ _ _ (by simp)).trans H0
 have K1 := mkHid ((((Below.refl B w).alloc har.hi (.cells #[.int .i64 28, .string s, .int .i64 0, .slice a 0 c] 38)).alloc (Nat.le_trans har.hi (by simp)) (.cells #[.string ⟨#[115, 107, 105, 112]⟩] 157)))
 have O1 := mkHid ((((Lib.OthersKept.refl 5 (some b) w).alloc (.cells #[.int .i64 28, .string s, .int .i64 0, .slice a 0 c] 38)).alloc (.cells #[.string ⟨#[115, 107, 105, 112]⟩] 157)))
 have AA := mkHid A1
 have HH := mkHid H1
 clear A0 H0 A1 H1 har
 show Calls Tryz.prog 100 #[.pointer (some ⟨b, 0, none⟩), .agg #[.int .i64 28, .string s, .int .i64 0, .slice a 0 c]] w _
 go_enter Tryz.func100, Tryz.ntmps100
 go_wp2_with fail
 refine (HF.out _).mono ?_
 rintro e w1 ⟨rfl, rfl⟩
 rw [show typI 28 = 157 from rfl, show keyVal 28 = .agg #[.string ⟨#[115, 107, 105, 112]⟩] from rfl]
 go_wp2_with fail
 refine (put_new W0 _ B b _ [⟨#[115, 107, 105, 112]⟩, ⟨#[59]⟩] #[.string ⟨#[115, 107, 105, 112]⟩, .string ⟨#[59]⟩] _ _ (by simp) AA.out (by simp only [List.length_append, cl_cons, cl_nil, bz, List.size_toArray, List.length_cons, List.length_nil, padL_len]; omega) (by simp) rfl).mono ?_
 rintro e w2 ⟨rfl, hp9, hb9, hk9⟩
 have M1 := mkHid (show IsPr (n : Int) B b (Lib.byteCells (l ++ (cat [⟨#[115, 107, 105, 112]⟩, ⟨#[59]⟩]))) w2 from by first | exact hp9 | (have := hp9; simp only [List.append_assoc] at this ⊢; exact this))
 have M2 := mkHid (K1.out.trans hb9)
 have M3 := mkHid (O1.out.trans hk9)
 clear hp9 hb9 hk9 AA HH K1 O1 
 go_wp2
 go_end0
 exact ⟨rfl, M1.out, M2.out, M3.out⟩
set_option linter.unusedSimpArgs false in
theorem ap_stop (s : ByteArray) (n : Nat) : (lnS (.node 29 s 0 []) (padB n)).data.toList = padL n ++ (cat [⟨#[115, 116, 111, 112]⟩, ⟨#[59]⟩]) ++ [10] := by
 rw [lnS_eq]
 show (ByteArray.data (padB n ++ ⟨#[115, 116, 111, 112, 59, 10]⟩)).toList = _
 simp only [toL_app, padB_list, cat, exT, List.flatMap_cons, List.flatMap_nil, List.append_nil, List.append_assoc]
 rfl
set_option linter.unusedSimpArgs false in
set_option maxRecDepth 100000 in
set_option maxHeartbeats 8000000 in
theorem pLn_stop (s : ByteArray) : PLn (.node 29 s 0 []) := by
 intro W0 n B b l a c w hc hp hk har hl
 have hn9 : n ≤ 499 := by simp only [dep] at hp; omega
 rw [inT_of (ap_stop s n)] at hl ⊢
 simp only [List.length_append, cl_cons, cl_nil, bz, List.size_toArray, List.length_cons, List.length_nil, padL_len] at hl
 have HF := mkHid (fun W => formOf_stmt 29 W (by omega))
 have t127 := tb135_127
 have t128 := tb135_128
 have t130 := tb135_130
 have t131 := tb135_131
 have t132 := tb135_132
 have t133 := tb135_133
 have t135 := tb135_135
 have A0 := har.alloc (.cells #[.int .i64 29, .string s, .int .i64 0, .slice a 0 c] 38)
 have H0 := World.heap_alloc_new w #[.int .i64 29, .string s, .int .i64 0, .slice a 0 c] 38
 have hnb : w.heap.size ≠ b := by have := har.pr.lt; omega
 have A1 := A0.alloc (.cells #[.string ⟨#[115, 116, 111, 112]⟩] 157)
 have H1 : ((w.alloc (.cells #[.int .i64 29, .string s, .int .i64 0, .slice a 0 c] 38)).alloc (.cells #[.string ⟨#[115, 116, 111, 112]⟩] 157)).heap[w.heap.size]? = some (.cells #[.int .i64 29, .string s, .int .i64 0, .slice a 0 c] 38 (0, 0)) := (Lib.alloc_old _ _ _ (by simp)).trans H0
 have K1 := mkHid ((((Below.refl B w).alloc har.hi (.cells #[.int .i64 29, .string s, .int .i64 0, .slice a 0 c] 38)).alloc (Nat.le_trans har.hi (by simp)) (.cells #[.string ⟨#[115, 116, 111, 112]⟩] 157)))
 have O1 := mkHid ((((Lib.OthersKept.refl 5 (some b) w).alloc (.cells #[.int .i64 29, .string s, .int .i64 0, .slice a 0 c] 38)).alloc (.cells #[.string ⟨#[115, 116, 111, 112]⟩] 157)))
 have AA := mkHid A1
 have HH := mkHid H1
 clear A0 H0 A1 H1 har
 show Calls Tryz.prog 100 #[.pointer (some ⟨b, 0, none⟩), .agg #[.int .i64 29, .string s, .int .i64 0, .slice a 0 c]] w _
 go_enter Tryz.func100, Tryz.ntmps100
 go_wp2_with fail
 refine (HF.out _).mono ?_
 rintro e w1 ⟨rfl, rfl⟩
 rw [show typI 29 = 157 from rfl, show keyVal 29 = .agg #[.string ⟨#[115, 116, 111, 112]⟩] from rfl]
 go_wp2_with fail
 refine (put_new W0 _ B b _ [⟨#[115, 116, 111, 112]⟩, ⟨#[59]⟩] #[.string ⟨#[115, 116, 111, 112]⟩, .string ⟨#[59]⟩] _ _ (by simp) AA.out (by simp only [List.length_append, cl_cons, cl_nil, bz, List.size_toArray, List.length_cons, List.length_nil, padL_len]; omega) (by simp) rfl).mono ?_
 rintro e w2 ⟨rfl, hp9, hb9, hk9⟩
 have M1 := mkHid (show IsPr (n : Int) B b (Lib.byteCells (l ++ (cat [⟨#[115, 116, 111, 112]⟩, ⟨#[59]⟩]))) w2 from by first | exact hp9 | (have := hp9; simp only [List.append_assoc] at this ⊢; exact this))
 have M2 := mkHid (K1.out.trans hb9)
 have M3 := mkHid (O1.out.trans hk9)
 clear hp9 hb9 hk9 AA HH K1 O1 
 go_wp2
 go_end0
 exact ⟨rfl, M1.out, M2.out, M3.out⟩
set_option linter.unusedSimpArgs false in
theorem ap_while (s : ByteArray) (x : T) (ykk : List T) (n : Nat) : (lnS (.node 25 s 0 [x, (.node 30 nil_ 0 ykk)]) (padB n)).data.toList = padL n ++ (cat [⟨#[119, 104, 105, 108, 101, 32]⟩] ++ exT x ++ ([32, 123, 10] ++ (catS (lnSs ykk (padB (n + 1)))).data.toList ++ padL n ++ [125])) ++ [10] := by
 rw [lnS_eq]
 rw [exSs2, lnSs2]
 show (ByteArray.data (padB n ++ ⟨#[119, 104, 105, 108, 101, 32]⟩ ++ exS x ++ ⟨#[32, 123, 10]⟩ ++ lnS (.node 30 nil_ 0 ykk) (padB n ++ ⟨#[32, 32]⟩) ++ padB n ++ ⟨#[125, 10]⟩)).toList = _
 rw [← padB_succ]
 simp only [lnS_block]
 simp only [toL_app, padB_list, cat, exT, List.flatMap_cons, List.flatMap_nil, List.append_nil, List.append_assoc]
 rfl
set_option linter.unusedSimpArgs false in
set_option maxRecDepth 100000 in
set_option maxHeartbeats 8000000 in
theorem pLn_while (s : ByteArray) (x : T) (ykk : List T) (hx : GoodC x) (Iy : ∀ t ∈ ykk, PLn t ∧ Apart t) : PLn (.node 25 s 0 [x, (.node 30 nil_ 0 ykk)]) := by
 intro W0 n B b l a c w hc hp hk har hl
 have hcx : cnt x + cnt (.node 30 nil_ 0 ykk) ≤ 499 := by simp only [cnt, cnts] at hc ⊢; omega
 have hn9 : n ≤ 499 := by simp only [dep] at hp; omega
 have hcy : ∀ t ∈ ykk, cnt t ≤ 500 := fun t ht => by have := cnt_mem ht; simp only [cnt] at hcx; omega
 have hdy : ∀ t ∈ ykk, 2 * (n + 1) + 2 * dep t ≤ 1000 := fun t ht => by have := dep_mem ht; simp only [dep, deps] at hp; omega
 have hmy : ykk.length ≤ 1000000 := by have : ∀ q : List T, q.length ≤ cnts q := (fun q => by induction q with | nil => exact Nat.zero_le _ | cons x r ih => have : 1 ≤ cnt x := (by cases x; simp only [cnt]; omega); simp only [List.length_cons, cnts]; omega); have := this ykk; simp only [cnt] at hcx; omega
 rw [inT_of (ap_while s x ykk n)] at hl ⊢
 simp only [List.length_append, cl_cons, cl_nil, bz, List.size_toArray, List.length_cons, List.length_nil, padL_len] at hl
 rcases hk with h0 | ⟨kb, o, rfl, _, hll⟩
 ·cases h0
 have hAx : (exT x).length = (exS x).size := (Lib.size_eq _).symm
 obtain ⟨xk, xs, xm, xkk⟩ := x
 obtain ⟨xa, xc, xc0, xc1, xc2, xc3, _, _, xkids⟩ := hll.at (i := 0) (show _ = some (T.node xk xs xm xkk) from rfl)
 simp only [Nat.zero_mul, Nat.add_zero] at xc0 xc1 xc2 xc3
 have xH := mkHid (And.intro xc0 (And.intro xc1 (And.intro xc2 xc3)))
 have hQy : (catS (lnSs ykk (padB (n + 1)))).data.toList.length = (catS (lnSs ykk (padB (n + 1)))).size := (Lib.size_eq _).symm
 obtain ⟨ya, yc, yc0, yc1, yc2, yc3, _, _, ykids⟩ := hll.at (i := 1) (show _ = some (T.node 30 nil_ 0 ykk) from rfl)
 simp only [Nat.one_mul] at yc0 yc1 yc2 yc3
 have yH := mkHid (And.intro yc0 (And.intro yc1 (And.intro yc2 yc3)))
 have hbw : kb < W0.heap.size := World.block_lt_of_cell? W0 _ xc0
 clear xc0 xc1 xc2 xc3 yc0 yc1 yc2 yc3
 have HF := mkHid (fun W => formOf_stmt 25 W (by omega))
 have t127 := tb137_127
 have t128 := tb137_128
 have t130 := tb137_130
 have t131 := tb137_131
 have t132 := tb137_132
 have t133 := tb137_133
 have t135 := tb137_135
 have t136 := tb137_136
 have t137 := tb137_137
 have A0 := har.alloc (.cells #[.int .i64 25, .string s, .int .i64 0, .slice (some ⟨kb, o, none⟩) 2 c] 38)
 have H0 := World.heap_alloc_new w #[.int .i64 25, .string s, .int .i64 0, .slice (some ⟨kb, o, none⟩) 2 c] 38
 have hnb : w.heap.size ≠ b := by have := har.pr.lt; omega
 have A1 := A0.alloc (.cells #[] 159)
 have H1 : ((w.alloc (.cells #[.int .i64 25, .string s, .int .i64 0, .slice (some ⟨kb, o, none⟩) 2 c] 38)).alloc (.cells #[] 159)).heap[w.heap.size]? = some (.cells #[.int .i64 25, .string s, .int .i64 0, .slice (some ⟨kb, o, none⟩) 2 c] 38 (0, 0)) := (Lib.alloc_old _ _ _ (by simp)).trans H0
 have K1 := mkHid ((((Below.refl B w).alloc har.hi (.cells #[.int .i64 25, .string s, .int .i64 0, .slice (some ⟨kb, o, none⟩) 2 c] 38)).alloc (Nat.le_trans har.hi (by simp)) (.cells #[] 159)))
 have O1 := mkHid ((((Lib.OthersKept.refl 5 (some b) w).alloc (.cells #[.int .i64 25, .string s, .int .i64 0, .slice (some ⟨kb, o, none⟩) 2 c] 38)).alloc (.cells #[] 159)))
 have AA := mkHid A1
 have HH := mkHid H1
 clear A0 H0 A1 H1 har
 show Calls Tryz.prog 100 #[.pointer (some ⟨b, 0, none⟩), .agg #[.int .i64 25, .string s, .int .i64 0, .slice (some ⟨kb, o, none⟩) 2 c]] w _
 go_enter Tryz.func100, Tryz.ntmps100
 go_wp2_with fail
 refine (HF.out _).mono ?_
 rintro e w1 ⟨rfl, rfl⟩
 rw [show typI 25 = 159 from rfl, show keyVal 25 = .agg #[] from rfl]
 go_wp2_with fail
 refine (put_new W0 _ B b _ [⟨#[119, 104, 105, 108, 101, 32]⟩] #[.string ⟨#[119, 104, 105, 108, 101, 32]⟩] _ _ (by simp) AA.out (by simp only [List.length_append, cl_cons, cl_nil, bz, List.size_toArray, List.length_cons, List.length_nil, padL_len]; omega) (by simp) rfl).mono ?_
 rintro e w2 ⟨rfl, hp9, hb9, hk9⟩
 have A2 := mkHid (AA.out.step hp9 hb9)
 have H2 := mkHid (node_kept HH.out hnb hk9)
 have K2 := mkHid (K1.out.trans hb9)
 have O2 := mkHid (O1.out.trans hk9)
 clear hp9 hb9 hk9 AA HH K1 O1 
 have c0 : w2.cell? ⟨w.heap.size, 0, none⟩ = some (.int .i64 25) := by rw [Lib.cell_of_heap H2.out]; rfl
 have c1 : w2.cell? ⟨w.heap.size, 1, none⟩ = some (.string s) := by rw [Lib.cell_of_heap H2.out]; rfl
 have c2 : w2.cell? ⟨w.heap.size, 2, none⟩ = some (.int .i64 0) := by rw [Lib.cell_of_heap H2.out]; rfl
 have c3 : w2.cell? ⟨w.heap.size, 3, none⟩ = some (.slice (some ⟨kb, o, none⟩) 2 c) := by rw [Lib.cell_of_heap H2.out]; rfl
 have xq0 := (A2.out.old.cell (p := ⟨kb, _, none⟩) hbw).trans xH.out.1
 have xq1 := (A2.out.old.cell (p := ⟨kb, _, none⟩) hbw).trans xH.out.2.1
 have xq2 := (A2.out.old.cell (p := ⟨kb, _, none⟩) hbw).trans xH.out.2.2.1
 have xq3 := (A2.out.old.cell (p := ⟨kb, _, none⟩) hbw).trans xH.out.2.2.2
 go_wp2_with fail
 refine (pEx_ok (.node xk xs xm xkk) W0 _ B b _ xa xc _ hx.good (by omega) xkids A2.out (by simp only [List.length_append, cl_cons, cl_nil, bz, List.size_toArray, List.length_cons, List.length_nil, padL_len]; omega)).mono ?_
 rintro e w3 ⟨rfl, hp9, hb9, hk9⟩
 have A3 := mkHid (A2.out.step hp9 hb9)
 have H3 := mkHid (node_kept H2.out hnb hk9)
 have K3 := mkHid (K2.out.trans hb9)
 have O3 := mkHid (O2.out.trans hk9)
 clear hp9 hb9 hk9 A2 H2 K2 O2 c0 c1 c2 c3 xq0 xq1 xq2 xq3
 have c0 : w3.cell? ⟨w.heap.size, 0, none⟩ = some (.int .i64 25) := by rw [Lib.cell_of_heap H3.out]; rfl
 have c1 : w3.cell? ⟨w.heap.size, 1, none⟩ = some (.string s) := by rw [Lib.cell_of_heap H3.out]; rfl
 have c2 : w3.cell? ⟨w.heap.size, 2, none⟩ = some (.int .i64 0) := by rw [Lib.cell_of_heap H3.out]; rfl
 have c3 : w3.cell? ⟨w.heap.size, 3, none⟩ = some (.slice (some ⟨kb, o, none⟩) 2 c) := by rw [Lib.cell_of_heap H3.out]; rfl
 have yq0 := (A3.out.old.cell (p := ⟨kb, _, none⟩) hbw).trans yH.out.1
 have yq1 := (A3.out.old.cell (p := ⟨kb, _, none⟩) hbw).trans yH.out.2.1
 have yq2 := (A3.out.old.cell (p := ⟨kb, _, none⟩) hbw).trans yH.out.2.2.1
 have yq3 := (A3.out.old.cell (p := ⟨kb, _, none⟩) hbw).trans yH.out.2.2.2
 go_wp2_with fail
 refine (block_any nil_ 0 ykk ya yc Iy W0 n B b _ _ hcy hdy (by omega) hmy ykids A3.out (by simp only [List.length_append, cl_cons, cl_nil, bz, List.size_toArray, List.length_cons, List.length_nil, padL_len]; omega)).mono ?_
 rintro e w4 ⟨rfl, hp9, hb9, hk9⟩
 have M1 := mkHid (show IsPr (n : Int) B b (Lib.byteCells (l ++ (cat [⟨#[119, 104, 105, 108, 101, 32]⟩] ++ exT (.node xk xs xm xkk) ++ ([32, 123, 10] ++ (catS (lnSs ykk (padB (n + 1)))).data.toList ++ padL n ++ [125])))) w4 from by first | exact hp9 | (have := hp9; simp only [List.append_assoc] at this ⊢; exact this))
 have M2 := mkHid (K3.out.trans hb9)
 have M3 := mkHid (O3.out.trans hk9)
 clear hp9 hb9 hk9 A3 H3 K3 O3 c0 c1 c2 c3 yq0 yq1 yq2 yq3
 go_wp2
 go_end0
 exact ⟨rfl, M1.out, M2.out, M3.out⟩
set_option linter.unusedSimpArgs false in
theorem ap_for (s : ByteArray) (x : T) (y : T) (zkk : List T) (n : Nat) : (lnS (.node 26 s 0 [x, y, (.node 30 nil_ 0 zkk)]) (padB n)).data.toList = padL n ++ (cat [⟨#[102, 111, 114, 32]⟩, s, ⟨#[32, 102, 114, 111, 109, 32]⟩] ++ exT x ++ cat [⟨#[32, 116, 111, 32]⟩] ++ exT y ++ ([32, 123, 10] ++ (catS (lnSs zkk (padB (n + 1)))).data.toList ++ padL n ++ [125])) ++ [10] := by
 rw [lnS_eq]
 rw [exSs3, lnSs3]
 show (ByteArray.data (padB n ++ ⟨#[102, 111, 114, 32]⟩ ++ s ++ ⟨#[32, 102, 114, 111, 109, 32]⟩ ++ exS x ++ ⟨#[32, 116, 111, 32]⟩ ++ exS y ++ ⟨#[32, 123, 10]⟩ ++ lnS (.node 30 nil_ 0 zkk) (padB n ++ ⟨#[32, 32]⟩) ++ padB n ++ ⟨#[125, 10]⟩)).toList = _
 rw [← padB_succ]
 simp only [lnS_block]
 simp only [toL_app, padB_list, cat, exT, List.flatMap_cons, List.flatMap_nil, List.append_nil, List.append_assoc]
 rfl
set_option linter.unusedSimpArgs false in
set_option maxRecDepth 100000 in
set_option maxHeartbeats 8000000 in
theorem pLn_for (s : ByteArray) (x : T) (y : T) (zkk : List T) (hx : Good1 x) (hy : Good1 y) (Iz : ∀ t ∈ zkk, PLn t ∧ Apart t) : PLn (.node 26 s 0 [x, y, (.node 30 nil_ 0 zkk)]) := by
 intro W0 n B b l a c w hc hp hk har hl
 have hcx : cnt x + cnt y + cnt (.node 30 nil_ 0 zkk) ≤ 499 := by simp only [cnt, cnts] at hc ⊢; omega
 have hn9 : n ≤ 499 := by simp only [dep] at hp; omega
 have hcz : ∀ t ∈ zkk, cnt t ≤ 500 := fun t ht => by have := cnt_mem ht; simp only [cnt] at hcx; omega
 have hdz : ∀ t ∈ zkk, 2 * (n + 1) + 2 * dep t ≤ 1000 := fun t ht => by have := dep_mem ht; simp only [dep, deps] at hp; omega
 have hmz : zkk.length ≤ 1000000 := by have : ∀ q : List T, q.length ≤ cnts q := (fun q => by induction q with | nil => exact Nat.zero_le _ | cons x r ih => have : 1 ≤ cnt x := (by cases x; simp only [cnt]; omega); simp only [List.length_cons, cnts]; omega); have := this zkk; simp only [cnt] at hcx; omega
 rw [inT_of (ap_for s x y zkk n)] at hl ⊢
 simp only [List.length_append, cl_cons, cl_nil, bz, List.size_toArray, List.length_cons, List.length_nil, padL_len] at hl
 rcases hk with h0 | ⟨kb, o, rfl, _, hll⟩
 ·cases h0
 have hAx : (exT x).length = (exS x).size := (Lib.size_eq _).symm
 obtain ⟨xk, xs, xm, xkk⟩ := x
 obtain ⟨xa, xc, xc0, xc1, xc2, xc3, _, _, xkids⟩ := hll.at (i := 0) (show _ = some (T.node xk xs xm xkk) from rfl)
 simp only [Nat.zero_mul, Nat.add_zero] at xc0 xc1 xc2 xc3
 have xH := mkHid (And.intro xc0 (And.intro xc1 (And.intro xc2 xc3)))
 have hAy : (exT y).length = (exS y).size := (Lib.size_eq _).symm
 obtain ⟨yk, ys, ym, ykk⟩ := y
 obtain ⟨ya, yc, yc0, yc1, yc2, yc3, _, _, ykids⟩ := hll.at (i := 1) (show _ = some (T.node yk ys ym ykk) from rfl)
 simp only [Nat.one_mul] at yc0 yc1 yc2 yc3
 have yH := mkHid (And.intro yc0 (And.intro yc1 (And.intro yc2 yc3)))
 have hQz : (catS (lnSs zkk (padB (n + 1)))).data.toList.length = (catS (lnSs zkk (padB (n + 1)))).size := (Lib.size_eq _).symm
 obtain ⟨za, zc, zc0, zc1, zc2, zc3, _, _, zkids⟩ := hll.at (i := 2) (show _ = some (T.node 30 nil_ 0 zkk) from rfl)
 simp only [Nat.reduceMul] at zc0 zc1 zc2 zc3
 have zH := mkHid (And.intro zc0 (And.intro zc1 (And.intro zc2 zc3)))
 have hbw : kb < W0.heap.size := World.block_lt_of_cell? W0 _ xc0
 clear xc0 xc1 xc2 xc3 yc0 yc1 yc2 yc3 zc0 zc1 zc2 zc3
 have HF := mkHid (fun W => formOf_stmt 26 W (by omega))
 have t127 := tb138_127
 have t128 := tb138_128
 have t130 := tb138_130
 have t131 := tb138_131
 have t132 := tb138_132
 have t133 := tb138_133
 have t135 := tb138_135
 have t136 := tb138_136
 have t137 := tb138_137
 have t138 := tb138_138
 have A0 := har.alloc (.cells #[.int .i64 26, .string s, .int .i64 0, .slice (some ⟨kb, o, none⟩) 3 c] 38)
 have H0 := World.heap_alloc_new w #[.int .i64 26, .string s, .int .i64 0, .slice (some ⟨kb, o, none⟩) 3 c] 38
 have hnb : w.heap.size ≠ b := by have := har.pr.lt; omega
 have A1 := A0.alloc (.cells #[] 160)
 have H1 : ((w.alloc (.cells #[.int .i64 26, .string s, .int .i64 0, .slice (some ⟨kb, o, none⟩) 3 c] 38)).alloc (.cells #[] 160)).heap[w.heap.size]? = some (.cells #[.int .i64 26, .string s, .int .i64 0, .slice (some ⟨kb, o, none⟩) 3 c] 38 (0, 0)) := (Lib.alloc_old _ _ _ (by simp)).trans H0
 have K1 := mkHid ((((Below.refl B w).alloc har.hi (.cells #[.int .i64 26, .string s, .int .i64 0, .slice (some ⟨kb, o, none⟩) 3 c] 38)).alloc (Nat.le_trans har.hi (by simp)) (.cells #[] 160)))
 have O1 := mkHid ((((Lib.OthersKept.refl 5 (some b) w).alloc (.cells #[.int .i64 26, .string s, .int .i64 0, .slice (some ⟨kb, o, none⟩) 3 c] 38)).alloc (.cells #[] 160)))
 have AA := mkHid A1
 have HH := mkHid H1
 clear A0 H0 A1 H1 har
 show Calls Tryz.prog 100 #[.pointer (some ⟨b, 0, none⟩), .agg #[.int .i64 26, .string s, .int .i64 0, .slice (some ⟨kb, o, none⟩) 3 c]] w _
 go_enter Tryz.func100, Tryz.ntmps100
 go_wp2_with fail
 refine (HF.out _).mono ?_
 rintro e w1 ⟨rfl, rfl⟩
 rw [show typI 26 = 160 from rfl, show keyVal 26 = .agg #[] from rfl]
 go_wp2_with fail
 refine (put_new W0 _ B b _ [⟨#[102, 111, 114, 32]⟩, s, ⟨#[32, 102, 114, 111, 109, 32]⟩] #[.string ⟨#[102, 111, 114, 32]⟩, .string s, .string ⟨#[32, 102, 114, 111, 109, 32]⟩] _ _ (by simp) AA.out (by simp only [List.length_append, cl_cons, cl_nil, bz, List.size_toArray, List.length_cons, List.length_nil, padL_len]; omega) (by simp) rfl).mono ?_
 rintro e w2 ⟨rfl, hp9, hb9, hk9⟩
 have A2 := mkHid (AA.out.step hp9 hb9)
 have H2 := mkHid (node_kept HH.out hnb hk9)
 have K2 := mkHid (K1.out.trans hb9)
 have O2 := mkHid (O1.out.trans hk9)
 clear hp9 hb9 hk9 AA HH K1 O1 
 have c0 : w2.cell? ⟨w.heap.size, 0, none⟩ = some (.int .i64 26) := by rw [Lib.cell_of_heap H2.out]; rfl
 have c1 : w2.cell? ⟨w.heap.size, 1, none⟩ = some (.string s) := by rw [Lib.cell_of_heap H2.out]; rfl
 have c2 : w2.cell? ⟨w.heap.size, 2, none⟩ = some (.int .i64 0) := by rw [Lib.cell_of_heap H2.out]; rfl
 have c3 : w2.cell? ⟨w.heap.size, 3, none⟩ = some (.slice (some ⟨kb, o, none⟩) 3 c) := by rw [Lib.cell_of_heap H2.out]; rfl
 have xq0 := (A2.out.old.cell (p := ⟨kb, _, none⟩) hbw).trans xH.out.1
 have xq1 := (A2.out.old.cell (p := ⟨kb, _, none⟩) hbw).trans xH.out.2.1
 have xq2 := (A2.out.old.cell (p := ⟨kb, _, none⟩) hbw).trans xH.out.2.2.1
 have xq3 := (A2.out.old.cell (p := ⟨kb, _, none⟩) hbw).trans xH.out.2.2.2
 go_wp2_with fail
 refine (pEx_ok (.node xk xs xm xkk) W0 _ B b _ xa xc _ hx.good (by omega) xkids A2.out (by simp only [List.length_append, cl_cons, cl_nil, bz, List.size_toArray, List.length_cons, List.length_nil, padL_len]; omega)).mono ?_
 rintro e w3 ⟨rfl, hp9, hb9, hk9⟩
 have A3 := mkHid (A2.out.step hp9 hb9)
 have H3 := mkHid (node_kept H2.out hnb hk9)
 have K3 := mkHid (K2.out.trans hb9)
 have O3 := mkHid (O2.out.trans hk9)
 clear hp9 hb9 hk9 A2 H2 K2 O2 c0 c1 c2 c3 xq0 xq1 xq2 xq3
 go_wp2_with fail
 refine (put_new W0 _ B b _ [⟨#[32, 116, 111, 32]⟩] #[.string ⟨#[32, 116, 111, 32]⟩] _ _ rfl A3.out (by simp only [List.length_append, cl_cons, cl_nil, bz, List.size_toArray, List.length_cons, List.length_nil, padL_len]; omega) (by simp) rfl).mono ?_
 rintro e w4 ⟨rfl, hp9, hb9, hk9⟩
 have A4 := mkHid (A3.out.step hp9 hb9)
 have H4 := mkHid (node_kept H3.out hnb hk9)
 have K4 := mkHid (K3.out.trans hb9)
 have O4 := mkHid (O3.out.trans hk9)
 clear hp9 hb9 hk9 A3 H3 K3 O3 
 have c0 : w4.cell? ⟨w.heap.size, 0, none⟩ = some (.int .i64 26) := by rw [Lib.cell_of_heap H4.out]; rfl
 have c1 : w4.cell? ⟨w.heap.size, 1, none⟩ = some (.string s) := by rw [Lib.cell_of_heap H4.out]; rfl
 have c2 : w4.cell? ⟨w.heap.size, 2, none⟩ = some (.int .i64 0) := by rw [Lib.cell_of_heap H4.out]; rfl
 have c3 : w4.cell? ⟨w.heap.size, 3, none⟩ = some (.slice (some ⟨kb, o, none⟩) 3 c) := by rw [Lib.cell_of_heap H4.out]; rfl
 have yq0 := (A4.out.old.cell (p := ⟨kb, _, none⟩) hbw).trans yH.out.1
 have yq1 := (A4.out.old.cell (p := ⟨kb, _, none⟩) hbw).trans yH.out.2.1
 have yq2 := (A4.out.old.cell (p := ⟨kb, _, none⟩) hbw).trans yH.out.2.2.1
 have yq3 := (A4.out.old.cell (p := ⟨kb, _, none⟩) hbw).trans yH.out.2.2.2
 go_wp2_with fail
 refine (pEx_ok (.node yk ys ym ykk) W0 _ B b _ ya yc _ hy.good (by omega) ykids A4.out (by simp only [List.length_append, cl_cons, cl_nil, bz, List.size_toArray, List.length_cons, List.length_nil, padL_len]; omega)).mono ?_
 rintro e w5 ⟨rfl, hp9, hb9, hk9⟩
 have A5 := mkHid (A4.out.step hp9 hb9)
 have H5 := mkHid (node_kept H4.out hnb hk9)
 have K5 := mkHid (K4.out.trans hb9)
 have O5 := mkHid (O4.out.trans hk9)
 clear hp9 hb9 hk9 A4 H4 K4 O4 c0 c1 c2 c3 yq0 yq1 yq2 yq3
 have c0 : w5.cell? ⟨w.heap.size, 0, none⟩ = some (.int .i64 26) := by rw [Lib.cell_of_heap H5.out]; rfl
 have c1 : w5.cell? ⟨w.heap.size, 1, none⟩ = some (.string s) := by rw [Lib.cell_of_heap H5.out]; rfl
 have c2 : w5.cell? ⟨w.heap.size, 2, none⟩ = some (.int .i64 0) := by rw [Lib.cell_of_heap H5.out]; rfl
 have c3 : w5.cell? ⟨w.heap.size, 3, none⟩ = some (.slice (some ⟨kb, o, none⟩) 3 c) := by rw [Lib.cell_of_heap H5.out]; rfl
 have zq0 := (A5.out.old.cell (p := ⟨kb, _, none⟩) hbw).trans zH.out.1
 have zq1 := (A5.out.old.cell (p := ⟨kb, _, none⟩) hbw).trans zH.out.2.1
 have zq2 := (A5.out.old.cell (p := ⟨kb, _, none⟩) hbw).trans zH.out.2.2.1
 have zq3 := (A5.out.old.cell (p := ⟨kb, _, none⟩) hbw).trans zH.out.2.2.2
 go_wp2_with fail
 refine (block_any nil_ 0 zkk za zc Iz W0 n B b _ _ hcz hdz (by omega) hmz zkids A5.out (by simp only [List.length_append, cl_cons, cl_nil, bz, List.size_toArray, List.length_cons, List.length_nil, padL_len]; omega)).mono ?_
 rintro e w6 ⟨rfl, hp9, hb9, hk9⟩
 have M1 := mkHid (show IsPr (n : Int) B b (Lib.byteCells (l ++ (cat [⟨#[102, 111, 114, 32]⟩, s, ⟨#[32, 102, 114, 111, 109, 32]⟩] ++ exT (.node xk xs xm xkk) ++ cat [⟨#[32, 116, 111, 32]⟩] ++ exT (.node yk ys ym ykk) ++ ([32, 123, 10] ++ (catS (lnSs zkk (padB (n + 1)))).data.toList ++ padL n ++ [125])))) w6 from by first | exact hp9 | (have := hp9; simp only [List.append_assoc] at this ⊢; exact this))
 have M2 := mkHid (K5.out.trans hb9)
 have M3 := mkHid (O5.out.trans hk9)
 clear hp9 hb9 hk9 A5 H5 K5 O5 c0 c1 c2 c3 zq0 zq1 zq2 zq3
 go_wp2
 go_end0
 exact ⟨rfl, M1.out, M2.out, M3.out⟩
end Go.Proofs.YtedfnadgmhjojaaGreatDoor
