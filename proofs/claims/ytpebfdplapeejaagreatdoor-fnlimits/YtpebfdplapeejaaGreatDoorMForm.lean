/-
  CONTRACTS of the program's rows.
-/
import Derived.Test.YtpebfdplapeejaaGreatDoorMWrow
namespace Go.Proofs.YtpebfdplapeejaaGreatDoor
open Go.RowKit

structure Rw where
  grp : Int
  named : Bool
  least : Int
  most : Int
  many : Int
  kids : List Int

/-- The groups of the kids lie in memory. -/
def Grps (w : World) (a : Option Addr) (l : List Int) : Prop := l = [] ∨ ∃ b, a = some ⟨b, 0, none⟩ ∧ ∀ (i : Nat) (x : Int), l[i]? = some x → w.cell? ⟨b, i, none⟩ = some (.int .i64 x)
def RowOk (r : Rw) (t : TypeId) (v : Value) (f : FuncId) : Prop :=
  (∀ W, (method 310 t v "loop.example/g00093/impl.row").run Tryz.prog W = .ok (f, v) W) ∧ (∀ W, (callFunc f #[v]).run Tryz.prog W = .ok (.enter f #[v]) W) ∧
  ∀ W, Calls Tryz.prog f #[v] W fun e w' => (∃ (a : Option Addr) (c : Nat), e = .returned (.agg #[.int .i64 r.grp, .bool r.named, .int .i64 r.least, .int .i64 r.most, .int .i64 r.many, .slice a r.kids.length c]) ∧ Grps w' a r.kids) ∧ Below W.heap.size W w'
def rw0 (t : Nat) : Rw := match t with
  | 134 => ⟨1, false, 0, 1000000, 0, []⟩
  | 135 => ⟨1, true, 0, 0, 0, []⟩
  | 136 => ⟨1, true, 0, 0, 0, [1]⟩
  | 137 => ⟨1, true, 0, 0, 0, []⟩
  | 138 => ⟨1, false, 0, 0, 0, [1]⟩
  | 140 => ⟨1, false, 0, 0, 0, [1, 1]⟩
  | 141 => ⟨5, true, 0, 0, 0, []⟩
  | 142 => ⟨5, true, -1, 1000000, 0, []⟩
  | 143 => ⟨6, false, 0, 0, 5, [4]⟩
  | 144 => ⟨2, false, 0, 0, 0, [1, 1]⟩
  | 145 => ⟨3, true, 0, 0, 0, [1]⟩
  | 146 => ⟨3, true, 0, 0, 0, [1, 1]⟩
  | 147 => ⟨3, true, 0, 0, 0, []⟩
  | 151 => ⟨3, false, 0, 0, 0, [2, 4, 4]⟩
  | 152 => ⟨3, false, 0, 0, 0, [2, 4]⟩
  | 153 => ⟨3, true, 0, 0, 0, [1, 1, 4]⟩
  | 148 => ⟨3, false, 0, 0, 0, [2]⟩
  | 150 => ⟨3, false, 0, 0, 0, []⟩
  | 162 => ⟨4, false, 0, 0, 3, []⟩
  | _ => ⟨0, false, 0, 0, 0, []⟩

set_option maxHeartbeats 800000 in
theorem num_row : RowOk (rw0 134) 134 (.agg #[]) 148 := by
  refine ⟨fun W => by kernel_rfl, fun W => by kernel_rfl, fun W => ?_⟩
  go_enter Tryz.func148, Tryz.ntmps148
  go_wp2
  refine bodyPost_ret (v := .agg #[.int .i64 1, .bool false, .int .i64 (0), .int .i64 1000000, .int .i64 0, .slice none 0 0]) (by simp [results, Tryz.results148, go_sem]) rfl ⟨⟨_, _, rfl, ?_⟩, ?_⟩
  · exact .inl rfl
  · exact ((Below.refl _ _).alloc (Nat.le_refl _) _).alloc (by simp) _
set_option maxHeartbeats 800000 in
theorem var_row : RowOk (rw0 135) 135 (.agg #[]) 149 := by
  refine ⟨fun W => by kernel_rfl, fun W => by kernel_rfl, fun W => ?_⟩
  go_enter Tryz.func149, Tryz.ntmps149
  go_wp2
  refine bodyPost_ret (v := .agg #[.int .i64 1, .bool true, .int .i64 (0), .int .i64 0, .int .i64 0, .slice none 0 0]) (by simp [results, Tryz.results149, go_sem]) rfl ⟨⟨_, _, rfl, ?_⟩, ?_⟩
  · exact .inl rfl
  · exact ((Below.refl _ _).alloc (Nat.le_refl _) _).alloc (by simp) _
set_option maxHeartbeats 800000 in
theorem cell_row : RowOk (rw0 136) 136 (.agg #[]) 150 := by
  refine ⟨fun W => by kernel_rfl, fun W => by kernel_rfl, fun W => ?_⟩
  go_enter Tryz.func150, Tryz.ntmps150
  go_wp2
  refine bodyPost_ret (v := .agg #[.int .i64 1, .bool true, .int .i64 (0), .int .i64 0, .int .i64 0, .slice (some ⟨W.heap.size + 1 + 1, 0, none⟩) 1 1]) (by simp [results, Tryz.results150, go_sem]) rfl ⟨⟨_, _, rfl, ?_⟩, ?_⟩
  · refine .inr ⟨_, rfl, fun i x hx => ?_⟩
    match i with
    | 0 => simp [rw0] at hx; subst hx; simp [go_sem]
    | i + 1 => simp [rw0] at hx
  · exact (((Below.refl _ _).alloc (Nat.le_refl _) _).alloc (by simp) _).alloc (by simp; omega) _
set_option maxHeartbeats 800000 in
theorem len_row : RowOk (rw0 137) 137 (.agg #[]) 151 := by
  refine ⟨fun W => by kernel_rfl, fun W => by kernel_rfl, fun W => ?_⟩
  go_enter Tryz.func151, Tryz.ntmps151
  go_wp2
  refine bodyPost_ret (v := .agg #[.int .i64 1, .bool true, .int .i64 (0), .int .i64 0, .int .i64 0, .slice none 0 0]) (by simp [results, Tryz.results151, go_sem]) rfl ⟨⟨_, _, rfl, ?_⟩, ?_⟩
  · exact .inl rfl
  · exact ((Below.refl _ _).alloc (Nat.le_refl _) _).alloc (by simp) _
set_option maxHeartbeats 800000 in
theorem neg_row : RowOk (rw0 138) 138 (.agg #[]) 152 := by
  refine ⟨fun W => by kernel_rfl, fun W => by kernel_rfl, fun W => ?_⟩
  go_enter Tryz.func152, Tryz.ntmps152
  go_wp2
  refine bodyPost_ret (v := .agg #[.int .i64 1, .bool false, .int .i64 (0), .int .i64 0, .int .i64 0, .slice (some ⟨W.heap.size + 1 + 1, 0, none⟩) 1 1]) (by simp [results, Tryz.results152, go_sem]) rfl ⟨⟨_, _, rfl, ?_⟩, ?_⟩
  · refine .inr ⟨_, rfl, fun i x hx => ?_⟩
    match i with
    | 0 => simp [rw0] at hx; subst hx; simp [go_sem]
    | i + 1 => simp [rw0] at hx
  · exact (((Below.refl _ _).alloc (Nat.le_refl _) _).alloc (by simp) _).alloc (by simp; omega) _
set_option maxHeartbeats 800000 in
theorem pair_row (s : ByteArray) : RowOk (rw0 140) 140 (.agg #[.string s]) 153 := by
  refine ⟨fun W => by kernel_rfl, fun W => by kernel_rfl, fun W => ?_⟩
  go_enter Tryz.func153, Tryz.ntmps153
  go_wp2
  refine bodyPost_ret (v := .agg #[.int .i64 1, .bool false, .int .i64 (0), .int .i64 0, .int .i64 0, .slice (some ⟨W.heap.size + 1 + 1, 0, none⟩) 2 2]) (by simp [results, Tryz.results153, go_sem]) rfl ⟨⟨_, _, rfl, ?_⟩, ?_⟩
  · refine .inr ⟨_, rfl, fun i x hx => ?_⟩
    match i with
    | 0 => simp [rw0] at hx; subst hx; simp [go_sem]
    | 1 => simp [rw0] at hx; subst hx; simp [go_sem]
    | i + 2 => simp [rw0] at hx
  · exact (((Below.refl _ _).alloc (Nat.le_refl _) _).alloc (by simp) _).alloc (by simp; omega) _
set_option maxHeartbeats 800000 in
theorem name_row : RowOk (rw0 141) 141 (.agg #[]) 154 := by
  refine ⟨fun W => by kernel_rfl, fun W => by kernel_rfl, fun W => ?_⟩
  go_enter Tryz.func154, Tryz.ntmps154
  go_wp2
  refine bodyPost_ret (v := .agg #[.int .i64 5, .bool true, .int .i64 (0), .int .i64 0, .int .i64 0, .slice none 0 0]) (by simp [results, Tryz.results154, go_sem]) rfl ⟨⟨_, _, rfl, ?_⟩, ?_⟩
  · exact .inl rfl
  · exact ((Below.refl _ _).alloc (Nat.le_refl _) _).alloc (by simp) _
set_option maxHeartbeats 800000 in
theorem array_row : RowOk (rw0 142) 142 (.agg #[]) 155 := by
  refine ⟨fun W => by kernel_rfl, fun W => by kernel_rfl, fun W => ?_⟩
  go_enter Tryz.func155, Tryz.ntmps155
  go_wp2
  refine bodyPost_ret (v := .agg #[.int .i64 5, .bool true, .int .i64 (-1), .int .i64 1000000, .int .i64 0, .slice none 0 0]) (by simp [results, Tryz.results155, go_sem]) rfl ⟨⟨_, _, rfl, ?_⟩, ?_⟩
  · exact .inl rfl
  · exact ((Below.refl _ _).alloc (Nat.le_refl _) _).alloc (by simp) _
set_option maxHeartbeats 800000 in
theorem prog_row : RowOk (rw0 143) 143 (.agg #[]) 156 := by
  refine ⟨fun W => by kernel_rfl, fun W => by kernel_rfl, fun W => ?_⟩
  go_enter Tryz.func156, Tryz.ntmps156
  go_wp2
  refine bodyPost_ret (v := .agg #[.int .i64 6, .bool false, .int .i64 (0), .int .i64 0, .int .i64 5, .slice (some ⟨W.heap.size + 1 + 1, 0, none⟩) 1 1]) (by simp [results, Tryz.results156, go_sem]) rfl ⟨⟨_, _, rfl, ?_⟩, ?_⟩
  · refine .inr ⟨_, rfl, fun i x hx => ?_⟩
    match i with
    | 0 => simp [rw0] at hx; subst hx; simp [go_sem]
    | i + 1 => simp [rw0] at hx
  · exact (((Below.refl _ _).alloc (Nat.le_refl _) _).alloc (by simp) _).alloc (by simp; omega) _
set_option maxHeartbeats 800000 in
theorem cond_row (s : ByteArray) : RowOk (rw0 144) 144 (.agg #[.string s]) 157 := by
  refine ⟨fun W => by kernel_rfl, fun W => by kernel_rfl, fun W => ?_⟩
  go_enter Tryz.func157, Tryz.ntmps157
  go_wp2
  refine bodyPost_ret (v := .agg #[.int .i64 2, .bool false, .int .i64 (0), .int .i64 0, .int .i64 0, .slice (some ⟨W.heap.size + 1 + 1, 0, none⟩) 2 2]) (by simp [results, Tryz.results157, go_sem]) rfl ⟨⟨_, _, rfl, ?_⟩, ?_⟩
  · refine .inr ⟨_, rfl, fun i x hx => ?_⟩
    match i with
    | 0 => simp [rw0] at hx; subst hx; simp [go_sem]
    | 1 => simp [rw0] at hx; subst hx; simp [go_sem]
    | i + 2 => simp [rw0] at hx
  · exact (((Below.refl _ _).alloc (Nat.le_refl _) _).alloc (by simp) _).alloc (by simp; omega) _
set_option maxHeartbeats 800000 in
theorem set_row : RowOk (rw0 145) 145 (.agg #[]) 158 := by
  refine ⟨fun W => by kernel_rfl, fun W => by kernel_rfl, fun W => ?_⟩
  go_enter Tryz.func158, Tryz.ntmps158
  go_wp2
  refine bodyPost_ret (v := .agg #[.int .i64 3, .bool true, .int .i64 (0), .int .i64 0, .int .i64 0, .slice (some ⟨W.heap.size + 1 + 1, 0, none⟩) 1 1]) (by simp [results, Tryz.results158, go_sem]) rfl ⟨⟨_, _, rfl, ?_⟩, ?_⟩
  · refine .inr ⟨_, rfl, fun i x hx => ?_⟩
    match i with
    | 0 => simp [rw0] at hx; subst hx; simp [go_sem]
    | i + 1 => simp [rw0] at hx
  · exact (((Below.refl _ _).alloc (Nat.le_refl _) _).alloc (by simp) _).alloc (by simp; omega) _
set_option maxHeartbeats 800000 in
theorem put_row : RowOk (rw0 146) 146 (.agg #[]) 159 := by
  refine ⟨fun W => by kernel_rfl, fun W => by kernel_rfl, fun W => ?_⟩
  go_enter Tryz.func159, Tryz.ntmps159
  go_wp2
  refine bodyPost_ret (v := .agg #[.int .i64 3, .bool true, .int .i64 (0), .int .i64 0, .int .i64 0, .slice (some ⟨W.heap.size + 1 + 1, 0, none⟩) 2 2]) (by simp [results, Tryz.results159, go_sem]) rfl ⟨⟨_, _, rfl, ?_⟩, ?_⟩
  · refine .inr ⟨_, rfl, fun i x hx => ?_⟩
    match i with
    | 0 => simp [rw0] at hx; subst hx; simp [go_sem]
    | 1 => simp [rw0] at hx; subst hx; simp [go_sem]
    | i + 2 => simp [rw0] at hx
  · exact (((Below.refl _ _).alloc (Nat.le_refl _) _).alloc (by simp) _).alloc (by simp; omega) _
set_option maxHeartbeats 800000 in
theorem read_row : RowOk (rw0 147) 147 (.agg #[]) 160 := by
  refine ⟨fun W => by kernel_rfl, fun W => by kernel_rfl, fun W => ?_⟩
  go_enter Tryz.func160, Tryz.ntmps160
  go_wp2
  refine bodyPost_ret (v := .agg #[.int .i64 3, .bool true, .int .i64 (0), .int .i64 0, .int .i64 0, .slice none 0 0]) (by simp [results, Tryz.results160, go_sem]) rfl ⟨⟨_, _, rfl, ?_⟩, ?_⟩
  · exact .inl rfl
  · exact ((Below.refl _ _).alloc (Nat.le_refl _) _).alloc (by simp) _
set_option maxHeartbeats 800000 in
theorem ifs_row : RowOk (rw0 151) 151 (.agg #[]) 163 := by
  refine ⟨fun W => by kernel_rfl, fun W => by kernel_rfl, fun W => ?_⟩
  go_enter Tryz.func163, Tryz.ntmps163
  go_wp2
  refine bodyPost_ret (v := .agg #[.int .i64 3, .bool false, .int .i64 (0), .int .i64 0, .int .i64 0, .slice (some ⟨W.heap.size + 1 + 1, 0, none⟩) 3 3]) (by simp [results, Tryz.results163, go_sem]) rfl ⟨⟨_, _, rfl, ?_⟩, ?_⟩
  · refine .inr ⟨_, rfl, fun i x hx => ?_⟩
    match i with
    | 0 => simp [rw0] at hx; subst hx; simp [go_sem]
    | 1 => simp [rw0] at hx; subst hx; simp [go_sem]
    | 2 => simp [rw0] at hx; subst hx; simp [go_sem]
    | i + 3 => simp [rw0] at hx
  · exact (((Below.refl _ _).alloc (Nat.le_refl _) _).alloc (by simp) _).alloc (by simp; omega) _
set_option maxHeartbeats 800000 in
theorem while_row : RowOk (rw0 152) 152 (.agg #[]) 164 := by
  refine ⟨fun W => by kernel_rfl, fun W => by kernel_rfl, fun W => ?_⟩
  go_enter Tryz.func164, Tryz.ntmps164
  go_wp2
  refine bodyPost_ret (v := .agg #[.int .i64 3, .bool false, .int .i64 (0), .int .i64 0, .int .i64 0, .slice (some ⟨W.heap.size + 1 + 1, 0, none⟩) 2 2]) (by simp [results, Tryz.results164, go_sem]) rfl ⟨⟨_, _, rfl, ?_⟩, ?_⟩
  · refine .inr ⟨_, rfl, fun i x hx => ?_⟩
    match i with
    | 0 => simp [rw0] at hx; subst hx; simp [go_sem]
    | 1 => simp [rw0] at hx; subst hx; simp [go_sem]
    | i + 2 => simp [rw0] at hx
  · exact (((Below.refl _ _).alloc (Nat.le_refl _) _).alloc (by simp) _).alloc (by simp; omega) _
set_option maxHeartbeats 800000 in
theorem fors_row : RowOk (rw0 153) 153 (.agg #[]) 165 := by
  refine ⟨fun W => by kernel_rfl, fun W => by kernel_rfl, fun W => ?_⟩
  go_enter Tryz.func165, Tryz.ntmps165
  go_wp2
  refine bodyPost_ret (v := .agg #[.int .i64 3, .bool true, .int .i64 (0), .int .i64 0, .int .i64 0, .slice (some ⟨W.heap.size + 1 + 1, 0, none⟩) 3 3]) (by simp [results, Tryz.results165, go_sem]) rfl ⟨⟨_, _, rfl, ?_⟩, ?_⟩
  · refine .inr ⟨_, rfl, fun i x hx => ?_⟩
    match i with
    | 0 => simp [rw0] at hx; subst hx; simp [go_sem]
    | 1 => simp [rw0] at hx; subst hx; simp [go_sem]
    | 2 => simp [rw0] at hx; subst hx; simp [go_sem]
    | i + 3 => simp [rw0] at hx
  · exact (((Below.refl _ _).alloc (Nat.le_refl _) _).alloc (by simp) _).alloc (by simp; omega) _
set_option maxHeartbeats 800000 in
theorem check_row : RowOk (rw0 148) 148 (.agg #[]) 161 := by
  refine ⟨fun W => by kernel_rfl, fun W => by kernel_rfl, fun W => ?_⟩
  go_enter Tryz.func161, Tryz.ntmps161
  go_wp2
  refine bodyPost_ret (v := .agg #[.int .i64 3, .bool false, .int .i64 (0), .int .i64 0, .int .i64 0, .slice (some ⟨W.heap.size + 1 + 1, 0, none⟩) 1 1]) (by simp [results, Tryz.results161, go_sem]) rfl ⟨⟨_, _, rfl, ?_⟩, ?_⟩
  · refine .inr ⟨_, rfl, fun i x hx => ?_⟩
    match i with
    | 0 => simp [rw0] at hx; subst hx; simp [go_sem]
    | i + 1 => simp [rw0] at hx
  · exact (((Below.refl _ _).alloc (Nat.le_refl _) _).alloc (by simp) _).alloc (by simp; omega) _
set_option maxHeartbeats 800000 in
theorem word_row (s : ByteArray) : RowOk (rw0 150) 150 (.agg #[.string s]) 162 := by
  refine ⟨fun W => by kernel_rfl, fun W => by kernel_rfl, fun W => ?_⟩
  go_enter Tryz.func162, Tryz.ntmps162
  go_wp2
  refine bodyPost_ret (v := .agg #[.int .i64 3, .bool false, .int .i64 (0), .int .i64 0, .int .i64 0, .slice none 0 0]) (by simp [results, Tryz.results162, go_sem]) rfl ⟨⟨_, _, rfl, ?_⟩, ?_⟩
  · exact .inl rfl
  · exact ((Below.refl _ _).alloc (Nat.le_refl _) _).alloc (by simp) _
set_option maxHeartbeats 800000 in
theorem block_row : RowOk (rw0 162) 162 (.agg #[]) 166 := by
  refine ⟨fun W => by kernel_rfl, fun W => by kernel_rfl, fun W => ?_⟩
  go_enter Tryz.func166, Tryz.ntmps166
  go_wp2
  refine bodyPost_ret (v := .agg #[.int .i64 4, .bool false, .int .i64 (0), .int .i64 0, .int .i64 3, .slice none 0 0]) (by simp [results, Tryz.results166, go_sem]) rfl ⟨⟨_, _, rfl, ?_⟩, ?_⟩
  · exact .inl rfl
  · exact ((Below.refl _ _).alloc (Nat.le_refl _) _).alloc (by simp) _
set_option maxHeartbeats 800000 in
theorem no_row : RowOk (rw0 163) 163 (.agg #[]) 167 := by
  refine ⟨fun W => by kernel_rfl, fun W => by kernel_rfl, fun W => ?_⟩
  go_enter Tryz.func167, Tryz.ntmps167
  go_wp2
  refine bodyPost_ret (v := .agg #[.int .i64 0, .bool false, .int .i64 (0), .int .i64 0, .int .i64 0, .slice none 0 0]) (by simp [results, Tryz.results167, go_sem]) rfl ⟨⟨_, _, rfl, ?_⟩, ?_⟩
  · exact .inl rfl
  · exact ((Below.refl _ _).alloc (Nat.le_refl _) _).alloc (by simp) _
end Go.Proofs.YtpebfdplapeejaaGreatDoor
