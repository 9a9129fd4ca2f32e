/-
  CONTRACTS of the program's rows.
-/
import Derived.Test.YtncdhmogkgefaabDoorSmall
namespace Go.Proofs.YtncdhmogkgefaabDoor
open Go.RowKit

structure Rw where
  grp : Int
  named : Bool
  least : Int
  most : Int
  many : Int
  kids : List Int

/-- The groups of the kids lie in memory. -/
def Grps (w : World) (a : Option Addr) (l : List Int) : Prop := l = [] ∨ ∃ b, a = some ⟨b, 0, none⟩ ∧ ∀ (i : Nat) (x : Int), l[i]? = some x → w.cell? ⟨b, i, none⟩ = some (.int .i64 x)
def RowOk (r : Rw) (t : TypeId) (v : Value) (f : FuncId) : Prop :=
  (∀ W, (method 231 t v "loop.example/g00093/impl.row").run Tryd.prog W = .ok (f, v) W) ∧ (∀ W, (callFunc f #[v]).run Tryd.prog W = .ok (.enter f #[v]) W) ∧
  ∀ W, Calls Tryd.prog f #[v] W fun e w' => (∃ (a : Option Addr) (c : Nat), e = .returned (.agg #[.int .i64 r.grp, .bool r.named, .int .i64 r.least, .int .i64 r.most, .int .i64 r.many, .slice a r.kids.length c]) ∧ Grps w' a r.kids) ∧ Below W.heap.size W w'
def rw0 (t : Nat) : Rw := match t with
  | 56 => ⟨1, false, 0, 1000000, 0, []⟩
  | 58 => ⟨1, true, 0, 0, 0, []⟩
  | 60 => ⟨1, true, 0, 0, 0, [1]⟩
  | 59 => ⟨1, true, 0, 0, 0, []⟩
  | 61 => ⟨1, false, 0, 0, 0, [1]⟩
  | 64 => ⟨1, false, 0, 0, 0, [1, 1]⟩
  | 77 => ⟨5, true, 0, 0, 0, []⟩
  | 78 => ⟨5, true, -1, 1000000, 0, []⟩
  | 79 => ⟨6, false, 0, 0, 5, [4]⟩
  | 66 => ⟨2, false, 0, 0, 0, [1, 1]⟩
  | 88 => ⟨3, true, 0, 0, 0, [1]⟩
  | 89 => ⟨3, true, 0, 0, 0, [1, 1]⟩
  | 90 => ⟨3, true, 0, 0, 0, []⟩
  | 91 => ⟨3, false, 0, 0, 0, [2, 4, 4]⟩
  | 92 => ⟨3, false, 0, 0, 0, [2, 4]⟩
  | 93 => ⟨3, true, 0, 0, 0, [1, 1, 4]⟩
  | 94 => ⟨3, false, 0, 0, 0, [2]⟩
  | 96 => ⟨3, false, 0, 0, 0, []⟩
  | 97 => ⟨4, false, 0, 0, 3, []⟩
  | _ => ⟨0, false, 0, 0, 0, []⟩

set_option maxHeartbeats 800000 in
theorem num_row : RowOk (rw0 56) 56 (.agg #[]) 85 := by
  refine ⟨fun W => by kernel_rfl, fun W => by kernel_rfl, fun W => ?_⟩
  go_enter Tryd.func85, Tryd.ntmps85
  go_wp2
  refine bodyPost_ret (v := .agg #[.int .i64 1, .bool false, .int .i64 (0), .int .i64 1000000, .int .i64 0, .slice none 0 0]) (by simp [results, Tryd.results85, go_sem]) rfl ⟨⟨_, _, rfl, ?_⟩, ?_⟩
  · exact .inl rfl
  · exact ((Below.refl _ _).alloc (Nat.le_refl _) _).alloc (by simp) _
set_option maxHeartbeats 800000 in
theorem var_row : RowOk (rw0 58) 58 (.agg #[]) 86 := by
  refine ⟨fun W => by kernel_rfl, fun W => by kernel_rfl, fun W => ?_⟩
  go_enter Tryd.func86, Tryd.ntmps86
  go_wp2
  refine bodyPost_ret (v := .agg #[.int .i64 1, .bool true, .int .i64 (0), .int .i64 0, .int .i64 0, .slice none 0 0]) (by simp [results, Tryd.results86, go_sem]) rfl ⟨⟨_, _, rfl, ?_⟩, ?_⟩
  · exact .inl rfl
  · exact ((Below.refl _ _).alloc (Nat.le_refl _) _).alloc (by simp) _
set_option maxHeartbeats 800000 in
theorem cell_row : RowOk (rw0 60) 60 (.agg #[]) 88 := by
  refine ⟨fun W => by kernel_rfl, fun W => by kernel_rfl, fun W => ?_⟩
  go_enter Tryd.func88, Tryd.ntmps88
  go_wp2
  refine bodyPost_ret (v := .agg #[.int .i64 1, .bool true, .int .i64 (0), .int .i64 0, .int .i64 0, .slice (some ⟨W.heap.size + 1 + 1, 0, none⟩) 1 1]) (by simp [results, Tryd.results88, go_sem]) rfl ⟨⟨_, _, rfl, ?_⟩, ?_⟩
  · refine .inr ⟨_, rfl, fun i x hx => ?_⟩
    match i with
    | 0 => simp [rw0] at hx; subst hx; simp [go_sem]
    | i + 1 => simp [rw0] at hx
  · exact (((Below.refl _ _).alloc (Nat.le_refl _) _).alloc (by simp) _).alloc (by simp; omega) _
set_option maxHeartbeats 800000 in
theorem len_row : RowOk (rw0 59) 59 (.agg #[]) 87 := by
  refine ⟨fun W => by kernel_rfl, fun W => by kernel_rfl, fun W => ?_⟩
  go_enter Tryd.func87, Tryd.ntmps87
  go_wp2
  refine bodyPost_ret (v := .agg #[.int .i64 1, .bool true, .int .i64 (0), .int .i64 0, .int .i64 0, .slice none 0 0]) (by simp [results, Tryd.results87, go_sem]) rfl ⟨⟨_, _, rfl, ?_⟩, ?_⟩
  · exact .inl rfl
  · exact ((Below.refl _ _).alloc (Nat.le_refl _) _).alloc (by simp) _
set_option maxHeartbeats 800000 in
theorem neg_row : RowOk (rw0 61) 61 (.agg #[]) 89 := by
  refine ⟨fun W => by kernel_rfl, fun W => by kernel_rfl, fun W => ?_⟩
  go_enter Tryd.func89, Tryd.ntmps89
  go_wp2
  refine bodyPost_ret (v := .agg #[.int .i64 1, .bool false, .int .i64 (0), .int .i64 0, .int .i64 0, .slice (some ⟨W.heap.size + 1 + 1, 0, none⟩) 1 1]) (by simp [results, Tryd.results89, go_sem]) rfl ⟨⟨_, _, rfl, ?_⟩, ?_⟩
  · refine .inr ⟨_, rfl, fun i x hx => ?_⟩
    match i with
    | 0 => simp [rw0] at hx; subst hx; simp [go_sem]
    | i + 1 => simp [rw0] at hx
  · exact (((Below.refl _ _).alloc (Nat.le_refl _) _).alloc (by simp) _).alloc (by simp; omega) _
set_option maxHeartbeats 800000 in
theorem pair_row (s : ByteArray) : RowOk (rw0 64) 64 (.agg #[.string s]) 90 := by
  refine ⟨fun W => by kernel_rfl, fun W => by kernel_rfl, fun W => ?_⟩
  go_enter Tryd.func90, Tryd.ntmps90
  go_wp2
  refine bodyPost_ret (v := .agg #[.int .i64 1, .bool false, .int .i64 (0), .int .i64 0, .int .i64 0, .slice (some ⟨W.heap.size + 1 + 1, 0, none⟩) 2 2]) (by simp [results, Tryd.results90, go_sem]) rfl ⟨⟨_, _, rfl, ?_⟩, ?_⟩
  · refine .inr ⟨_, rfl, fun i x hx => ?_⟩
    match i with
    | 0 => simp [rw0] at hx; subst hx; simp [go_sem]
    | 1 => simp [rw0] at hx; subst hx; simp [go_sem]
    | i + 2 => simp [rw0] at hx
  · exact (((Below.refl _ _).alloc (Nat.le_refl _) _).alloc (by simp) _).alloc (by simp; omega) _
set_option maxHeartbeats 800000 in
theorem name_row : RowOk (rw0 77) 77 (.agg #[]) 92 := by
  refine ⟨fun W => by kernel_rfl, fun W => by kernel_rfl, fun W => ?_⟩
  go_enter Tryd.func92, Tryd.ntmps92
  go_wp2
  refine bodyPost_ret (v := .agg #[.int .i64 5, .bool true, .int .i64 (0), .int .i64 0, .int .i64 0, .slice none 0 0]) (by simp [results, Tryd.results92, go_sem]) rfl ⟨⟨_, _, rfl, ?_⟩, ?_⟩
  · exact .inl rfl
  · exact ((Below.refl _ _).alloc (Nat.le_refl _) _).alloc (by simp) _
set_option maxHeartbeats 800000 in
theorem array_row : RowOk (rw0 78) 78 (.agg #[]) 93 := by
  refine ⟨fun W => by kernel_rfl, fun W => by kernel_rfl, fun W => ?_⟩
  go_enter Tryd.func93, Tryd.ntmps93
  go_wp2
  refine bodyPost_ret (v := .agg #[.int .i64 5, .bool true, .int .i64 (-1), .int .i64 1000000, .int .i64 0, .slice none 0 0]) (by simp [results, Tryd.results93, go_sem]) rfl ⟨⟨_, _, rfl, ?_⟩, ?_⟩
  · exact .inl rfl
  · exact ((Below.refl _ _).alloc (Nat.le_refl _) _).alloc (by simp) _
set_option maxHeartbeats 800000 in
theorem prog_row : RowOk (rw0 79) 79 (.agg #[]) 94 := by
  refine ⟨fun W => by kernel_rfl, fun W => by kernel_rfl, fun W => ?_⟩
  go_enter Tryd.func94, Tryd.ntmps94
  go_wp2
  refine bodyPost_ret (v := .agg #[.int .i64 6, .bool false, .int .i64 (0), .int .i64 0, .int .i64 5, .slice (some ⟨W.heap.size + 1 + 1, 0, none⟩) 1 1]) (by simp [results, Tryd.results94, go_sem]) rfl ⟨⟨_, _, rfl, ?_⟩, ?_⟩
  · refine .inr ⟨_, rfl, fun i x hx => ?_⟩
    match i with
    | 0 => simp [rw0] at hx; subst hx; simp [go_sem]
    | i + 1 => simp [rw0] at hx
  · exact (((Below.refl _ _).alloc (Nat.le_refl _) _).alloc (by simp) _).alloc (by simp; omega) _
set_option maxHeartbeats 800000 in
theorem cond_row (s : ByteArray) : RowOk (rw0 66) 66 (.agg #[.string s]) 91 := by
  refine ⟨fun W => by kernel_rfl, fun W => by kernel_rfl, fun W => ?_⟩
  go_enter Tryd.func91, Tryd.ntmps91
  go_wp2
  refine bodyPost_ret (v := .agg #[.int .i64 2, .bool false, .int .i64 (0), .int .i64 0, .int .i64 0, .slice (some ⟨W.heap.size + 1 + 1, 0, none⟩) 2 2]) (by simp [results, Tryd.results91, go_sem]) rfl ⟨⟨_, _, rfl, ?_⟩, ?_⟩
  · refine .inr ⟨_, rfl, fun i x hx => ?_⟩
    match i with
    | 0 => simp [rw0] at hx; subst hx; simp [go_sem]
    | 1 => simp [rw0] at hx; subst hx; simp [go_sem]
    | i + 2 => simp [rw0] at hx
  · exact (((Below.refl _ _).alloc (Nat.le_refl _) _).alloc (by simp) _).alloc (by simp; omega) _
set_option maxHeartbeats 800000 in
theorem set_row : RowOk (rw0 88) 88 (.agg #[]) 95 := by
  refine ⟨fun W => by kernel_rfl, fun W => by kernel_rfl, fun W => ?_⟩
  go_enter Tryd.func95, Tryd.ntmps95
  go_wp2
  refine bodyPost_ret (v := .agg #[.int .i64 3, .bool true, .int .i64 (0), .int .i64 0, .int .i64 0, .slice (some ⟨W.heap.size + 1 + 1, 0, none⟩) 1 1]) (by simp [results, Tryd.results95, go_sem]) rfl ⟨⟨_, _, rfl, ?_⟩, ?_⟩
  · refine .inr ⟨_, rfl, fun i x hx => ?_⟩
    match i with
    | 0 => simp [rw0] at hx; subst hx; simp [go_sem]
    | i + 1 => simp [rw0] at hx
  · exact (((Below.refl _ _).alloc (Nat.le_refl _) _).alloc (by simp) _).alloc (by simp; omega) _
set_option maxHeartbeats 800000 in
theorem put_row : RowOk (rw0 89) 89 (.agg #[]) 96 := by
  refine ⟨fun W => by kernel_rfl, fun W => by kernel_rfl, fun W => ?_⟩
  go_enter Tryd.func96, Tryd.ntmps96
  go_wp2
  refine bodyPost_ret (v := .agg #[.int .i64 3, .bool true, .int .i64 (0), .int .i64 0, .int .i64 0, .slice (some ⟨W.heap.size + 1 + 1, 0, none⟩) 2 2]) (by simp [results, Tryd.results96, go_sem]) rfl ⟨⟨_, _, rfl, ?_⟩, ?_⟩
  · refine .inr ⟨_, rfl, fun i x hx => ?_⟩
    match i with
    | 0 => simp [rw0] at hx; subst hx; simp [go_sem]
    | 1 => simp [rw0] at hx; subst hx; simp [go_sem]
    | i + 2 => simp [rw0] at hx
  · exact (((Below.refl _ _).alloc (Nat.le_refl _) _).alloc (by simp) _).alloc (by simp; omega) _
set_option maxHeartbeats 800000 in
theorem read_row : RowOk (rw0 90) 90 (.agg #[]) 97 := by
  refine ⟨fun W => by kernel_rfl, fun W => by kernel_rfl, fun W => ?_⟩
  go_enter Tryd.func97, Tryd.ntmps97
  go_wp2
  refine bodyPost_ret (v := .agg #[.int .i64 3, .bool true, .int .i64 (0), .int .i64 0, .int .i64 0, .slice none 0 0]) (by simp [results, Tryd.results97, go_sem]) rfl ⟨⟨_, _, rfl, ?_⟩, ?_⟩
  · exact .inl rfl
  · exact ((Below.refl _ _).alloc (Nat.le_refl _) _).alloc (by simp) _
set_option maxHeartbeats 800000 in
theorem ifs_row : RowOk (rw0 91) 91 (.agg #[]) 98 := by
  refine ⟨fun W => by kernel_rfl, fun W => by kernel_rfl, fun W => ?_⟩
  go_enter Tryd.func98, Tryd.ntmps98
  go_wp2
  refine bodyPost_ret (v := .agg #[.int .i64 3, .bool false, .int .i64 (0), .int .i64 0, .int .i64 0, .slice (some ⟨W.heap.size + 1 + 1, 0, none⟩) 3 3]) (by simp [results, Tryd.results98, go_sem]) rfl ⟨⟨_, _, rfl, ?_⟩, ?_⟩
  · refine .inr ⟨_, rfl, fun i x hx => ?_⟩
    match i with
    | 0 => simp [rw0] at hx; subst hx; simp [go_sem]
    | 1 => simp [rw0] at hx; subst hx; simp [go_sem]
    | 2 => simp [rw0] at hx; subst hx; simp [go_sem]
    | i + 3 => simp [rw0] at hx
  · exact (((Below.refl _ _).alloc (Nat.le_refl _) _).alloc (by simp) _).alloc (by simp; omega) _
set_option maxHeartbeats 800000 in
theorem while_row : RowOk (rw0 92) 92 (.agg #[]) 99 := by
  refine ⟨fun W => by kernel_rfl, fun W => by kernel_rfl, fun W => ?_⟩
  go_enter Tryd.func99, Tryd.ntmps99
  go_wp2
  refine bodyPost_ret (v := .agg #[.int .i64 3, .bool false, .int .i64 (0), .int .i64 0, .int .i64 0, .slice (some ⟨W.heap.size + 1 + 1, 0, none⟩) 2 2]) (by simp [results, Tryd.results99, go_sem]) rfl ⟨⟨_, _, rfl, ?_⟩, ?_⟩
  · refine .inr ⟨_, rfl, fun i x hx => ?_⟩
    match i with
    | 0 => simp [rw0] at hx; subst hx; simp [go_sem]
    | 1 => simp [rw0] at hx; subst hx; simp [go_sem]
    | i + 2 => simp [rw0] at hx
  · exact (((Below.refl _ _).alloc (Nat.le_refl _) _).alloc (by simp) _).alloc (by simp; omega) _
set_option maxHeartbeats 800000 in
theorem fors_row : RowOk (rw0 93) 93 (.agg #[]) 100 := by
  refine ⟨fun W => by kernel_rfl, fun W => by kernel_rfl, fun W => ?_⟩
  go_enter Tryd.func100, Tryd.ntmps100
  go_wp2
  refine bodyPost_ret (v := .agg #[.int .i64 3, .bool true, .int .i64 (0), .int .i64 0, .int .i64 0, .slice (some ⟨W.heap.size + 1 + 1, 0, none⟩) 3 3]) (by simp [results, Tryd.results100, go_sem]) rfl ⟨⟨_, _, rfl, ?_⟩, ?_⟩
  · refine .inr ⟨_, rfl, fun i x hx => ?_⟩
    match i with
    | 0 => simp [rw0] at hx; subst hx; simp [go_sem]
    | 1 => simp [rw0] at hx; subst hx; simp [go_sem]
    | 2 => simp [rw0] at hx; subst hx; simp [go_sem]
    | i + 3 => simp [rw0] at hx
  · exact (((Below.refl _ _).alloc (Nat.le_refl _) _).alloc (by simp) _).alloc (by simp; omega) _
set_option maxHeartbeats 800000 in
theorem check_row : RowOk (rw0 94) 94 (.agg #[]) 101 := by
  refine ⟨fun W => by kernel_rfl, fun W => by kernel_rfl, fun W => ?_⟩
  go_enter Tryd.func101, Tryd.ntmps101
  go_wp2
  refine bodyPost_ret (v := .agg #[.int .i64 3, .bool false, .int .i64 (0), .int .i64 0, .int .i64 0, .slice (some ⟨W.heap.size + 1 + 1, 0, none⟩) 1 1]) (by simp [results, Tryd.results101, go_sem]) rfl ⟨⟨_, _, rfl, ?_⟩, ?_⟩
  · refine .inr ⟨_, rfl, fun i x hx => ?_⟩
    match i with
    | 0 => simp [rw0] at hx; subst hx; simp [go_sem]
    | i + 1 => simp [rw0] at hx
  · exact (((Below.refl _ _).alloc (Nat.le_refl _) _).alloc (by simp) _).alloc (by simp; omega) _
set_option maxHeartbeats 800000 in
theorem word_row (s : ByteArray) : RowOk (rw0 96) 96 (.agg #[.string s]) 102 := by
  refine ⟨fun W => by kernel_rfl, fun W => by kernel_rfl, fun W => ?_⟩
  go_enter Tryd.func102, Tryd.ntmps102
  go_wp2
  refine bodyPost_ret (v := .agg #[.int .i64 3, .bool false, .int .i64 (0), .int .i64 0, .int .i64 0, .slice none 0 0]) (by simp [results, Tryd.results102, go_sem]) rfl ⟨⟨_, _, rfl, ?_⟩, ?_⟩
  · exact .inl rfl
  · exact ((Below.refl _ _).alloc (Nat.le_refl _) _).alloc (by simp) _
set_option maxHeartbeats 800000 in
theorem block_row : RowOk (rw0 97) 97 (.agg #[]) 103 := by
  refine ⟨fun W => by kernel_rfl, fun W => by kernel_rfl, fun W => ?_⟩
  go_enter Tryd.func103, Tryd.ntmps103
  go_wp2
  refine bodyPost_ret (v := .agg #[.int .i64 4, .bool false, .int .i64 (0), .int .i64 0, .int .i64 3, .slice none 0 0]) (by simp [results, Tryd.results103, go_sem]) rfl ⟨⟨_, _, rfl, ?_⟩, ?_⟩
  · exact .inl rfl
  · exact ((Below.refl _ _).alloc (Nat.le_refl _) _).alloc (by simp) _
set_option maxHeartbeats 800000 in
theorem no_row : RowOk (rw0 98) 98 (.agg #[]) 104 := by
  refine ⟨fun W => by kernel_rfl, fun W => by kernel_rfl, fun W => ?_⟩
  go_enter Tryd.func104, Tryd.ntmps104
  go_wp2
  refine bodyPost_ret (v := .agg #[.int .i64 0, .bool false, .int .i64 (0), .int .i64 0, .int .i64 0, .slice none 0 0]) (by simp [results, Tryd.results104, go_sem]) rfl ⟨⟨_, _, rfl, ?_⟩, ?_⟩
  · exact .inl rfl
  · exact ((Below.refl _ _).alloc (Nat.le_refl _) _).alloc (by simp) _
end Go.Proofs.YtncdhmogkgefaabDoor
