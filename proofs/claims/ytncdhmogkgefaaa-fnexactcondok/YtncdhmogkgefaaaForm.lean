/-
  CONTRACTS of the program's rows.
-/
import Derived.Test.YtncdhmogkgefaaaSmall
namespace Go.Proofs.Ytncdhmogkgefaaa
open Go.RowKit

structure Rw where
  grp : Int
  named : Bool
  least : Int
  most : Int
  many : Int
  kids : List Int

/-- The groups of the kids lie in memory. -/
def Grps (w : World) (a : Option Addr) (l : List Int) : Prop := l = [] ∨ ∃ b, a = some ⟨b, 0, none⟩ ∧ ∀ (i : Nat) (x : Int), l[i]? = some x → w.cell? ⟨b, i, none⟩ = some (.int .i64 x)
def RowOk (r : Rw) (t : TypeId) (v : Value) (f : FuncId) : Prop :=
  (∀ W, (method 198 t v "loop.example/g00093/impl.row").run Try.prog W = .ok (f, v) W) ∧ (∀ W, (callFunc f #[v]).run Try.prog W = .ok (.enter f #[v]) W) ∧
  ∀ W, Calls Try.prog f #[v] W fun e w' => (∃ (a : Option Addr) (c : Nat), e = .returned (.agg #[.int .i64 r.grp, .bool r.named, .int .i64 r.least, .int .i64 r.most, .int .i64 r.many, .slice a r.kids.length c]) ∧ Grps w' a r.kids) ∧ Below W.heap.size W w'
def rw0 (t : Nat) : Rw := match t with
  | 54 => ⟨1, false, 0, 1000000, 0, []⟩
  | 55 => ⟨1, true, 0, 0, 0, []⟩
  | 56 => ⟨1, true, 0, 0, 0, [1]⟩
  | 57 => ⟨1, true, 0, 0, 0, []⟩
  | 58 => ⟨1, false, 0, 0, 0, [1]⟩
  | 60 => ⟨1, false, 0, 0, 0, [1, 1]⟩
  | 61 => ⟨5, true, 0, 0, 0, []⟩
  | 62 => ⟨5, true, -1, 1000000, 0, []⟩
  | 63 => ⟨6, false, 0, 0, 5, [4]⟩
  | 65 => ⟨2, false, 0, 0, 0, [1, 1]⟩
  | 68 => ⟨3, true, 0, 0, 0, [1]⟩
  | 69 => ⟨3, true, 0, 0, 0, [1, 1]⟩
  | 70 => ⟨3, true, 0, 0, 0, []⟩
  | 71 => ⟨3, false, 0, 0, 0, [2, 4, 4]⟩
  | 72 => ⟨3, false, 0, 0, 0, [2, 4]⟩
  | 73 => ⟨3, true, 0, 0, 0, [1, 1, 4]⟩
  | 74 => ⟨3, false, 0, 0, 0, [2]⟩
  | 76 => ⟨3, false, 0, 0, 0, []⟩
  | 77 => ⟨4, false, 0, 0, 3, []⟩
  | _ => ⟨0, false, 0, 0, 0, []⟩

set_option maxHeartbeats 800000 in
theorem num_row : RowOk (rw0 54) 54 (.agg #[]) 55 := by
  refine ⟨fun W => by kernel_rfl, fun W => by kernel_rfl, fun W => ?_⟩
  go_enter Try.func55, Try.ntmps55
  go_wp2
  refine bodyPost_ret (v := .agg #[.int .i64 1, .bool false, .int .i64 (0), .int .i64 1000000, .int .i64 0, .slice none 0 0]) (by simp [results, Try.results55, go_sem]) rfl ⟨⟨_, _, rfl, ?_⟩, ?_⟩
  · exact .inl rfl
  · exact ((Below.refl _ _).alloc (Nat.le_refl _) _).alloc (by simp) _
set_option maxHeartbeats 800000 in
theorem var_row : RowOk (rw0 55) 55 (.agg #[]) 56 := by
  refine ⟨fun W => by kernel_rfl, fun W => by kernel_rfl, fun W => ?_⟩
  go_enter Try.func56, Try.ntmps56
  go_wp2
  refine bodyPost_ret (v := .agg #[.int .i64 1, .bool true, .int .i64 (0), .int .i64 0, .int .i64 0, .slice none 0 0]) (by simp [results, Try.results56, go_sem]) rfl ⟨⟨_, _, rfl, ?_⟩, ?_⟩
  · exact .inl rfl
  · exact ((Below.refl _ _).alloc (Nat.le_refl _) _).alloc (by simp) _
set_option maxHeartbeats 800000 in
theorem cell_row : RowOk (rw0 56) 56 (.agg #[]) 57 := by
  refine ⟨fun W => by kernel_rfl, fun W => by kernel_rfl, fun W => ?_⟩
  go_enter Try.func57, Try.ntmps57
  go_wp2
  refine bodyPost_ret (v := .agg #[.int .i64 1, .bool true, .int .i64 (0), .int .i64 0, .int .i64 0, .slice (some ⟨W.heap.size + 1 + 1, 0, none⟩) 1 1]) (by simp [results, Try.results57, go_sem]) rfl ⟨⟨_, _, rfl, ?_⟩, ?_⟩
  · refine .inr ⟨_, rfl, fun i x hx => ?_⟩
    match i with
    | 0 => simp [rw0] at hx; subst hx; simp [go_sem]
    | i + 1 => simp [rw0] at hx
  · exact (((Below.refl _ _).alloc (Nat.le_refl _) _).alloc (by simp) _).alloc (by simp; omega) _
set_option maxHeartbeats 800000 in
theorem len_row : RowOk (rw0 57) 57 (.agg #[]) 58 := by
  refine ⟨fun W => by kernel_rfl, fun W => by kernel_rfl, fun W => ?_⟩
  go_enter Try.func58, Try.ntmps58
  go_wp2
  refine bodyPost_ret (v := .agg #[.int .i64 1, .bool true, .int .i64 (0), .int .i64 0, .int .i64 0, .slice none 0 0]) (by simp [results, Try.results58, go_sem]) rfl ⟨⟨_, _, rfl, ?_⟩, ?_⟩
  · exact .inl rfl
  · exact ((Below.refl _ _).alloc (Nat.le_refl _) _).alloc (by simp) _
set_option maxHeartbeats 800000 in
theorem neg_row : RowOk (rw0 58) 58 (.agg #[]) 59 := by
  refine ⟨fun W => by kernel_rfl, fun W => by kernel_rfl, fun W => ?_⟩
  go_enter Try.func59, Try.ntmps59
  go_wp2
  refine bodyPost_ret (v := .agg #[.int .i64 1, .bool false, .int .i64 (0), .int .i64 0, .int .i64 0, .slice (some ⟨W.heap.size + 1 + 1, 0, none⟩) 1 1]) (by simp [results, Try.results59, go_sem]) rfl ⟨⟨_, _, rfl, ?_⟩, ?_⟩
  · refine .inr ⟨_, rfl, fun i x hx => ?_⟩
    match i with
    | 0 => simp [rw0] at hx; subst hx; simp [go_sem]
    | i + 1 => simp [rw0] at hx
  · exact (((Below.refl _ _).alloc (Nat.le_refl _) _).alloc (by simp) _).alloc (by simp; omega) _
set_option maxHeartbeats 800000 in
theorem pair_row (s : ByteArray) : RowOk (rw0 60) 60 (.agg #[.string s]) 60 := by
  refine ⟨fun W => by kernel_rfl, fun W => by kernel_rfl, fun W => ?_⟩
  go_enter Try.func60, Try.ntmps60
  go_wp2
  refine bodyPost_ret (v := .agg #[.int .i64 1, .bool false, .int .i64 (0), .int .i64 0, .int .i64 0, .slice (some ⟨W.heap.size + 1 + 1, 0, none⟩) 2 2]) (by simp [results, Try.results60, go_sem]) rfl ⟨⟨_, _, rfl, ?_⟩, ?_⟩
  · refine .inr ⟨_, rfl, fun i x hx => ?_⟩
    match i with
    | 0 => simp [rw0] at hx; subst hx; simp [go_sem]
    | 1 => simp [rw0] at hx; subst hx; simp [go_sem]
    | i + 2 => simp [rw0] at hx
  · exact (((Below.refl _ _).alloc (Nat.le_refl _) _).alloc (by simp) _).alloc (by simp; omega) _
set_option maxHeartbeats 800000 in
theorem name_row : RowOk (rw0 61) 61 (.agg #[]) 61 := by
  refine ⟨fun W => by kernel_rfl, fun W => by kernel_rfl, fun W => ?_⟩
  go_enter Try.func61, Try.ntmps61
  go_wp2
  refine bodyPost_ret (v := .agg #[.int .i64 5, .bool true, .int .i64 (0), .int .i64 0, .int .i64 0, .slice none 0 0]) (by simp [results, Try.results61, go_sem]) rfl ⟨⟨_, _, rfl, ?_⟩, ?_⟩
  · exact .inl rfl
  · exact ((Below.refl _ _).alloc (Nat.le_refl _) _).alloc (by simp) _
set_option maxHeartbeats 800000 in
theorem array_row : RowOk (rw0 62) 62 (.agg #[]) 62 := by
  refine ⟨fun W => by kernel_rfl, fun W => by kernel_rfl, fun W => ?_⟩
  go_enter Try.func62, Try.ntmps62
  go_wp2
  refine bodyPost_ret (v := .agg #[.int .i64 5, .bool true, .int .i64 (-1), .int .i64 1000000, .int .i64 0, .slice none 0 0]) (by simp [results, Try.results62, go_sem]) rfl ⟨⟨_, _, rfl, ?_⟩, ?_⟩
  · exact .inl rfl
  · exact ((Below.refl _ _).alloc (Nat.le_refl _) _).alloc (by simp) _
set_option maxHeartbeats 800000 in
theorem prog_row : RowOk (rw0 63) 63 (.agg #[]) 63 := by
  refine ⟨fun W => by kernel_rfl, fun W => by kernel_rfl, fun W => ?_⟩
  go_enter Try.func63, Try.ntmps63
  go_wp2
  refine bodyPost_ret (v := .agg #[.int .i64 6, .bool false, .int .i64 (0), .int .i64 0, .int .i64 5, .slice (some ⟨W.heap.size + 1 + 1, 0, none⟩) 1 1]) (by simp [results, Try.results63, go_sem]) rfl ⟨⟨_, _, rfl, ?_⟩, ?_⟩
  · refine .inr ⟨_, rfl, fun i x hx => ?_⟩
    match i with
    | 0 => simp [rw0] at hx; subst hx; simp [go_sem]
    | i + 1 => simp [rw0] at hx
  · exact (((Below.refl _ _).alloc (Nat.le_refl _) _).alloc (by simp) _).alloc (by simp; omega) _
set_option maxHeartbeats 800000 in
theorem cond_row (s : ByteArray) : RowOk (rw0 65) 65 (.agg #[.string s]) 64 := by
  refine ⟨fun W => by kernel_rfl, fun W => by kernel_rfl, fun W => ?_⟩
  go_enter Try.func64, Try.ntmps64
  go_wp2
  refine bodyPost_ret (v := .agg #[.int .i64 2, .bool false, .int .i64 (0), .int .i64 0, .int .i64 0, .slice (some ⟨W.heap.size + 1 + 1, 0, none⟩) 2 2]) (by simp [results, Try.results64, go_sem]) rfl ⟨⟨_, _, rfl, ?_⟩, ?_⟩
  · refine .inr ⟨_, rfl, fun i x hx => ?_⟩
    match i with
    | 0 => simp [rw0] at hx; subst hx; simp [go_sem]
    | 1 => simp [rw0] at hx; subst hx; simp [go_sem]
    | i + 2 => simp [rw0] at hx
  · exact (((Below.refl _ _).alloc (Nat.le_refl _) _).alloc (by simp) _).alloc (by simp; omega) _
set_option maxHeartbeats 800000 in
theorem set_row : RowOk (rw0 68) 68 (.agg #[]) 65 := by
  refine ⟨fun W => by kernel_rfl, fun W => by kernel_rfl, fun W => ?_⟩
  go_enter Try.func65, Try.ntmps65
  go_wp2
  refine bodyPost_ret (v := .agg #[.int .i64 3, .bool true, .int .i64 (0), .int .i64 0, .int .i64 0, .slice (some ⟨W.heap.size + 1 + 1, 0, none⟩) 1 1]) (by simp [results, Try.results65, go_sem]) rfl ⟨⟨_, _, rfl, ?_⟩, ?_⟩
  · refine .inr ⟨_, rfl, fun i x hx => ?_⟩
    match i with
    | 0 => simp [rw0] at hx; subst hx; simp [go_sem]
    | i + 1 => simp [rw0] at hx
  · exact (((Below.refl _ _).alloc (Nat.le_refl _) _).alloc (by simp) _).alloc (by simp; omega) _
set_option maxHeartbeats 800000 in
theorem put_row : RowOk (rw0 69) 69 (.agg #[]) 66 := by
  refine ⟨fun W => by kernel_rfl, fun W => by kernel_rfl, fun W => ?_⟩
  go_enter Try.func66, Try.ntmps66
  go_wp2
  refine bodyPost_ret (v := .agg #[.int .i64 3, .bool true, .int .i64 (0), .int .i64 0, .int .i64 0, .slice (some ⟨W.heap.size + 1 + 1, 0, none⟩) 2 2]) (by simp [results, Try.results66, go_sem]) rfl ⟨⟨_, _, rfl, ?_⟩, ?_⟩
  · refine .inr ⟨_, rfl, fun i x hx => ?_⟩
    match i with
    | 0 => simp [rw0] at hx; subst hx; simp [go_sem]
    | 1 => simp [rw0] at hx; subst hx; simp [go_sem]
    | i + 2 => simp [rw0] at hx
  · exact (((Below.refl _ _).alloc (Nat.le_refl _) _).alloc (by simp) _).alloc (by simp; omega) _
set_option maxHeartbeats 800000 in
theorem read_row : RowOk (rw0 70) 70 (.agg #[]) 67 := by
  refine ⟨fun W => by kernel_rfl, fun W => by kernel_rfl, fun W => ?_⟩
  go_enter Try.func67, Try.ntmps67
  go_wp2
  refine bodyPost_ret (v := .agg #[.int .i64 3, .bool true, .int .i64 (0), .int .i64 0, .int .i64 0, .slice none 0 0]) (by simp [results, Try.results67, go_sem]) rfl ⟨⟨_, _, rfl, ?_⟩, ?_⟩
  · exact .inl rfl
  · exact ((Below.refl _ _).alloc (Nat.le_refl _) _).alloc (by simp) _
set_option maxHeartbeats 800000 in
theorem ifs_row : RowOk (rw0 71) 71 (.agg #[]) 68 := by
  refine ⟨fun W => by kernel_rfl, fun W => by kernel_rfl, fun W => ?_⟩
  go_enter Try.func68, Try.ntmps68
  go_wp2
  refine bodyPost_ret (v := .agg #[.int .i64 3, .bool false, .int .i64 (0), .int .i64 0, .int .i64 0, .slice (some ⟨W.heap.size + 1 + 1, 0, none⟩) 3 3]) (by simp [results, Try.results68, go_sem]) rfl ⟨⟨_, _, rfl, ?_⟩, ?_⟩
  · refine .inr ⟨_, rfl, fun i x hx => ?_⟩
    match i with
    | 0 => simp [rw0] at hx; subst hx; simp [go_sem]
    | 1 => simp [rw0] at hx; subst hx; simp [go_sem]
    | 2 => simp [rw0] at hx; subst hx; simp [go_sem]
    | i + 3 => simp [rw0] at hx
  · exact (((Below.refl _ _).alloc (Nat.le_refl _) _).alloc (by simp) _).alloc (by simp; omega) _
set_option maxHeartbeats 800000 in
theorem while_row : RowOk (rw0 72) 72 (.agg #[]) 69 := by
  refine ⟨fun W => by kernel_rfl, fun W => by kernel_rfl, fun W => ?_⟩
  go_enter Try.func69, Try.ntmps69
  go_wp2
  refine bodyPost_ret (v := .agg #[.int .i64 3, .bool false, .int .i64 (0), .int .i64 0, .int .i64 0, .slice (some ⟨W.heap.size + 1 + 1, 0, none⟩) 2 2]) (by simp [results, Try.results69, go_sem]) rfl ⟨⟨_, _, rfl, ?_⟩, ?_⟩
  · refine .inr ⟨_, rfl, fun i x hx => ?_⟩
    match i with
    | 0 => simp [rw0] at hx; subst hx; simp [go_sem]
    | 1 => simp [rw0] at hx; subst hx; simp [go_sem]
    | i + 2 => simp [rw0] at hx
  · exact (((Below.refl _ _).alloc (Nat.le_refl _) _).alloc (by simp) _).alloc (by simp; omega) _
set_option maxHeartbeats 800000 in
theorem fors_row : RowOk (rw0 73) 73 (.agg #[]) 70 := by
  refine ⟨fun W => by kernel_rfl, fun W => by kernel_rfl, fun W => ?_⟩
  go_enter Try.func70, Try.ntmps70
  go_wp2
  refine bodyPost_ret (v := .agg #[.int .i64 3, .bool true, .int .i64 (0), .int .i64 0, .int .i64 0, .slice (some ⟨W.heap.size + 1 + 1, 0, none⟩) 3 3]) (by simp [results, Try.results70, go_sem]) rfl ⟨⟨_, _, rfl, ?_⟩, ?_⟩
  · refine .inr ⟨_, rfl, fun i x hx => ?_⟩
    match i with
    | 0 => simp [rw0] at hx; subst hx; simp [go_sem]
    | 1 => simp [rw0] at hx; subst hx; simp [go_sem]
    | 2 => simp [rw0] at hx; subst hx; simp [go_sem]
    | i + 3 => simp [rw0] at hx
  · exact (((Below.refl _ _).alloc (Nat.le_refl _) _).alloc (by simp) _).alloc (by simp; omega) _
set_option maxHeartbeats 800000 in
theorem check_row : RowOk (rw0 74) 74 (.agg #[]) 71 := by
  refine ⟨fun W => by kernel_rfl, fun W => by kernel_rfl, fun W => ?_⟩
  go_enter Try.func71, Try.ntmps71
  go_wp2
  refine bodyPost_ret (v := .agg #[.int .i64 3, .bool false, .int .i64 (0), .int .i64 0, .int .i64 0, .slice (some ⟨W.heap.size + 1 + 1, 0, none⟩) 1 1]) (by simp [results, Try.results71, go_sem]) rfl ⟨⟨_, _, rfl, ?_⟩, ?_⟩
  · refine .inr ⟨_, rfl, fun i x hx => ?_⟩
    match i with
    | 0 => simp [rw0] at hx; subst hx; simp [go_sem]
    | i + 1 => simp [rw0] at hx
  · exact (((Below.refl _ _).alloc (Nat.le_refl _) _).alloc (by simp) _).alloc (by simp; omega) _
set_option maxHeartbeats 800000 in
theorem word_row (s : ByteArray) : RowOk (rw0 76) 76 (.agg #[.string s]) 72 := by
  refine ⟨fun W => by kernel_rfl, fun W => by kernel_rfl, fun W => ?_⟩
  go_enter Try.func72, Try.ntmps72
  go_wp2
  refine bodyPost_ret (v := .agg #[.int .i64 3, .bool false, .int .i64 (0), .int .i64 0, .int .i64 0, .slice none 0 0]) (by simp [results, Try.results72, go_sem]) rfl ⟨⟨_, _, rfl, ?_⟩, ?_⟩
  · exact .inl rfl
  · exact ((Below.refl _ _).alloc (Nat.le_refl _) _).alloc (by simp) _
set_option maxHeartbeats 800000 in
theorem block_row : RowOk (rw0 77) 77 (.agg #[]) 73 := by
  refine ⟨fun W => by kernel_rfl, fun W => by kernel_rfl, fun W => ?_⟩
  go_enter Try.func73, Try.ntmps73
  go_wp2
  refine bodyPost_ret (v := .agg #[.int .i64 4, .bool false, .int .i64 (0), .int .i64 0, .int .i64 3, .slice none 0 0]) (by simp [results, Try.results73, go_sem]) rfl ⟨⟨_, _, rfl, ?_⟩, ?_⟩
  · exact .inl rfl
  · exact ((Below.refl _ _).alloc (Nat.le_refl _) _).alloc (by simp) _
set_option maxHeartbeats 800000 in
theorem no_row : RowOk (rw0 78) 78 (.agg #[]) 74 := by
  refine ⟨fun W => by kernel_rfl, fun W => by kernel_rfl, fun W => ?_⟩
  go_enter Try.func74, Try.ntmps74
  go_wp2
  refine bodyPost_ret (v := .agg #[.int .i64 0, .bool false, .int .i64 (0), .int .i64 0, .int .i64 0, .slice none 0 0]) (by simp [results, Try.results74, go_sem]) rfl ⟨⟨_, _, rfl, ?_⟩, ?_⟩
  · exact .inl rfl
  · exact ((Below.refl _ _).alloc (Nat.le_refl _) _).alloc (by simp) _
end Go.Proofs.Ytncdhmogkgefaaa
