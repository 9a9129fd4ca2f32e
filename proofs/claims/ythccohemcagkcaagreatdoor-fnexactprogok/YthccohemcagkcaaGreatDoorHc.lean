/-
  CONTRACTS of the program's rows.
  CONTRACTS of the program's condSign, stmtForm, formOf.
-/
import Derived.Test.YthccohemcagkcaaGreatDoorHb
namespace Go.Proofs.YthccohemcagkcaaGreatDoor
open Go.RowKit

structure Rw where
  grp : Int
  named : Bool
  least : Int
  most : Int
  many : Int
  kids : List Int

/-- The groups of the kids lie in memory. -/
def Grps (w : World) (a : Option Addr) (l : List Int) : Prop := l = [] ∨ ∃ b, a = some ⟨b, 0, none⟩ ∧ ∀ (i : Nat) (x : Int), l[i]? = some x → w.cell? ⟨b, i, none⟩ = some (.int .i64 x)
def RowOk (r : Rw) (t : TypeId) (v : Value) (f : FuncId) : Prop :=
  (∀ W, (method 295 t v "loop.example/g00093/impl.row").run Tryz.prog W = .ok (f, v) W) ∧ (∀ W, (callFunc f #[v]).run Tryz.prog W = .ok (.enter f #[v]) W) ∧
  ∀ W, Calls Tryz.prog f #[v] W fun e w' => (∃ (a : Option Addr) (c : Nat), e = .returned (.agg #[.int .i64 r.grp, .bool r.named, .int .i64 r.least, .int .i64 r.most, .int .i64 r.many, .slice a r.kids.length c]) ∧ Grps w' a r.kids) ∧ Below W.heap.size W w'
def rw0 (t : Nat) : Rw := match t with
  | 117 => ⟨1, false, 0, 1000000, 0, []⟩
  | 118 => ⟨1, true, 0, 0, 0, []⟩
  | 120 => ⟨1, true, 0, 0, 0, [1]⟩
  | 119 => ⟨1, true, 0, 0, 0, []⟩
  | 121 => ⟨1, false, 0, 0, 0, [1]⟩
  | 124 => ⟨1, false, 0, 0, 0, [1, 1]⟩
  | 127 => ⟨5, true, 0, 0, 0, []⟩
  | 128 => ⟨5, true, -1, 1000000, 0, []⟩
  | 129 => ⟨6, false, 0, 0, 5, [4]⟩
  | 125 => ⟨2, false, 0, 0, 0, [1, 1]⟩
  | 130 => ⟨3, true, 0, 0, 0, [1]⟩
  | 131 => ⟨3, true, 0, 0, 0, [1, 1]⟩
  | 132 => ⟨3, true, 0, 0, 0, []⟩
  | 136 => ⟨3, false, 0, 0, 0, [2, 4, 4]⟩
  | 137 => ⟨3, false, 0, 0, 0, [2, 4]⟩
  | 138 => ⟨3, true, 0, 0, 0, [1, 1, 4]⟩
  | 133 => ⟨3, false, 0, 0, 0, [2]⟩
  | 135 => ⟨3, false, 0, 0, 0, []⟩
  | 146 => ⟨4, false, 0, 0, 3, []⟩
  | _ => ⟨0, false, 0, 0, 0, []⟩

set_option maxHeartbeats 800000 in
theorem num_row : RowOk (rw0 117) 117 (.agg #[]) 198 := by
  refine ⟨fun W => by kernel_rfl, fun W => by kernel_rfl, fun W => ?_⟩
  go_enter Tryz.func198, Tryz.ntmps198
  go_wp2
  refine bodyPost_ret (v := .agg #[.int .i64 1, .bool false, .int .i64 (0), .int .i64 1000000, .int .i64 0, .slice none 0 0]) (by simp [results, Tryz.results198, go_sem]) rfl ⟨⟨_, _, rfl, ?_⟩, ?_⟩
  · exact .inl rfl
  · exact ((Below.refl _ _).alloc (Nat.le_refl _) _).alloc (by simp) _
set_option maxHeartbeats 800000 in
theorem var_row : RowOk (rw0 118) 118 (.agg #[]) 199 := by
  refine ⟨fun W => by kernel_rfl, fun W => by kernel_rfl, fun W => ?_⟩
  go_enter Tryz.func199, Tryz.ntmps199
  go_wp2
  refine bodyPost_ret (v := .agg #[.int .i64 1, .bool true, .int .i64 (0), .int .i64 0, .int .i64 0, .slice none 0 0]) (by simp [results, Tryz.results199, go_sem]) rfl ⟨⟨_, _, rfl, ?_⟩, ?_⟩
  · exact .inl rfl
  · exact ((Below.refl _ _).alloc (Nat.le_refl _) _).alloc (by simp) _
set_option maxHeartbeats 800000 in
theorem cell_row : RowOk (rw0 120) 120 (.agg #[]) 201 := by
  refine ⟨fun W => by kernel_rfl, fun W => by kernel_rfl, fun W => ?_⟩
  go_enter Tryz.func201, Tryz.ntmps201
  go_wp2
  refine bodyPost_ret (v := .agg #[.int .i64 1, .bool true, .int .i64 (0), .int .i64 0, .int .i64 0, .slice (some ⟨W.heap.size + 1 + 1, 0, none⟩) 1 1]) (by simp [results, Tryz.results201, go_sem]) rfl ⟨⟨_, _, rfl, ?_⟩, ?_⟩
  · refine .inr ⟨_, rfl, fun i x hx => ?_⟩
    match i with
    | 0 => simp [rw0] at hx; subst hx; simp [go_sem]
    | i + 1 => simp [rw0] at hx
  · exact (((Below.refl _ _).alloc (Nat.le_refl _) _).alloc (by simp) _).alloc (by simp; omega) _
set_option maxHeartbeats 800000 in
theorem len_row : RowOk (rw0 119) 119 (.agg #[]) 200 := by
  refine ⟨fun W => by kernel_rfl, fun W => by kernel_rfl, fun W => ?_⟩
  go_enter Tryz.func200, Tryz.ntmps200
  go_wp2
  refine bodyPost_ret (v := .agg #[.int .i64 1, .bool true, .int .i64 (0), .int .i64 0, .int .i64 0, .slice none 0 0]) (by simp [results, Tryz.results200, go_sem]) rfl ⟨⟨_, _, rfl, ?_⟩, ?_⟩
  · exact .inl rfl
  · exact ((Below.refl _ _).alloc (Nat.le_refl _) _).alloc (by simp) _
set_option maxHeartbeats 800000 in
theorem neg_row : RowOk (rw0 121) 121 (.agg #[]) 202 := by
  refine ⟨fun W => by kernel_rfl, fun W => by kernel_rfl, fun W => ?_⟩
  go_enter Tryz.func202, Tryz.ntmps202
  go_wp2
  refine bodyPost_ret (v := .agg #[.int .i64 1, .bool false, .int .i64 (0), .int .i64 0, .int .i64 0, .slice (some ⟨W.heap.size + 1 + 1, 0, none⟩) 1 1]) (by simp [results, Tryz.results202, go_sem]) rfl ⟨⟨_, _, rfl, ?_⟩, ?_⟩
  · refine .inr ⟨_, rfl, fun i x hx => ?_⟩
    match i with
    | 0 => simp [rw0] at hx; subst hx; simp [go_sem]
    | i + 1 => simp [rw0] at hx
  · exact (((Below.refl _ _).alloc (Nat.le_refl _) _).alloc (by simp) _).alloc (by simp; omega) _
set_option maxHeartbeats 800000 in
theorem pair_row (s : ByteArray) : RowOk (rw0 124) 124 (.agg #[.string s]) 203 := by
  refine ⟨fun W => by kernel_rfl, fun W => by kernel_rfl, fun W => ?_⟩
  go_enter Tryz.func203, Tryz.ntmps203
  go_wp2
  refine bodyPost_ret (v := .agg #[.int .i64 1, .bool false, .int .i64 (0), .int .i64 0, .int .i64 0, .slice (some ⟨W.heap.size + 1 + 1, 0, none⟩) 2 2]) (by simp [results, Tryz.results203, go_sem]) rfl ⟨⟨_, _, rfl, ?_⟩, ?_⟩
  · refine .inr ⟨_, rfl, fun i x hx => ?_⟩
    match i with
    | 0 => simp [rw0] at hx; subst hx; simp [go_sem]
    | 1 => simp [rw0] at hx; subst hx; simp [go_sem]
    | i + 2 => simp [rw0] at hx
  · exact (((Below.refl _ _).alloc (Nat.le_refl _) _).alloc (by simp) _).alloc (by simp; omega) _
set_option maxHeartbeats 800000 in
theorem name_row : RowOk (rw0 127) 127 (.agg #[]) 205 := by
  refine ⟨fun W => by kernel_rfl, fun W => by kernel_rfl, fun W => ?_⟩
  go_enter Tryz.func205, Tryz.ntmps205
  go_wp2
  refine bodyPost_ret (v := .agg #[.int .i64 5, .bool true, .int .i64 (0), .int .i64 0, .int .i64 0, .slice none 0 0]) (by simp [results, Tryz.results205, go_sem]) rfl ⟨⟨_, _, rfl, ?_⟩, ?_⟩
  · exact .inl rfl
  · exact ((Below.refl _ _).alloc (Nat.le_refl _) _).alloc (by simp) _
set_option maxHeartbeats 800000 in
theorem array_row : RowOk (rw0 128) 128 (.agg #[]) 206 := by
  refine ⟨fun W => by kernel_rfl, fun W => by kernel_rfl, fun W => ?_⟩
  go_enter Tryz.func206, Tryz.ntmps206
  go_wp2
  refine bodyPost_ret (v := .agg #[.int .i64 5, .bool true, .int .i64 (-1), .int .i64 1000000, .int .i64 0, .slice none 0 0]) (by simp [results, Tryz.results206, go_sem]) rfl ⟨⟨_, _, rfl, ?_⟩, ?_⟩
  · exact .inl rfl
  · exact ((Below.refl _ _).alloc (Nat.le_refl _) _).alloc (by simp) _
set_option maxHeartbeats 800000 in
theorem prog_row : RowOk (rw0 129) 129 (.agg #[]) 207 := by
  refine ⟨fun W => by kernel_rfl, fun W => by kernel_rfl, fun W => ?_⟩
  go_enter Tryz.func207, Tryz.ntmps207
  go_wp2
  refine bodyPost_ret (v := .agg #[.int .i64 6, .bool false, .int .i64 (0), .int .i64 0, .int .i64 5, .slice (some ⟨W.heap.size + 1 + 1, 0, none⟩) 1 1]) (by simp [results, Tryz.results207, go_sem]) rfl ⟨⟨_, _, rfl, ?_⟩, ?_⟩
  · refine .inr ⟨_, rfl, fun i x hx => ?_⟩
    match i with
    | 0 => simp [rw0] at hx; subst hx; simp [go_sem]
    | i + 1 => simp [rw0] at hx
  · exact (((Below.refl _ _).alloc (Nat.le_refl _) _).alloc (by simp) _).alloc (by simp; omega) _
set_option maxHeartbeats 800000 in
theorem cond_row (s : ByteArray) : RowOk (rw0 125) 125 (.agg #[.string s]) 204 := by
  refine ⟨fun W => by kernel_rfl, fun W => by kernel_rfl, fun W => ?_⟩
  go_enter Tryz.func204, Tryz.ntmps204
  go_wp2
  refine bodyPost_ret (v := .agg #[.int .i64 2, .bool false, .int .i64 (0), .int .i64 0, .int .i64 0, .slice (some ⟨W.heap.size + 1 + 1, 0, none⟩) 2 2]) (by simp [results, Tryz.results204, go_sem]) rfl ⟨⟨_, _, rfl, ?_⟩, ?_⟩
  · refine .inr ⟨_, rfl, fun i x hx => ?_⟩
    match i with
    | 0 => simp [rw0] at hx; subst hx; simp [go_sem]
    | 1 => simp [rw0] at hx; subst hx; simp [go_sem]
    | i + 2 => simp [rw0] at hx
  · exact (((Below.refl _ _).alloc (Nat.le_refl _) _).alloc (by simp) _).alloc (by simp; omega) _
set_option maxHeartbeats 800000 in
theorem set_row : RowOk (rw0 130) 130 (.agg #[]) 208 := by
  refine ⟨fun W => by kernel_rfl, fun W => by kernel_rfl, fun W => ?_⟩
  go_enter Tryz.func208, Tryz.ntmps208
  go_wp2
  refine bodyPost_ret (v := .agg #[.int .i64 3, .bool true, .int .i64 (0), .int .i64 0, .int .i64 0, .slice (some ⟨W.heap.size + 1 + 1, 0, none⟩) 1 1]) (by simp [results, Tryz.results208, go_sem]) rfl ⟨⟨_, _, rfl, ?_⟩, ?_⟩
  · refine .inr ⟨_, rfl, fun i x hx => ?_⟩
    match i with
    | 0 => simp [rw0] at hx; subst hx; simp [go_sem]
    | i + 1 => simp [rw0] at hx
  · exact (((Below.refl _ _).alloc (Nat.le_refl _) _).alloc (by simp) _).alloc (by simp; omega) _
set_option maxHeartbeats 800000 in
theorem put_row : RowOk (rw0 131) 131 (.agg #[]) 209 := by
  refine ⟨fun W => by kernel_rfl, fun W => by kernel_rfl, fun W => ?_⟩
  go_enter Tryz.func209, Tryz.ntmps209
  go_wp2
  refine bodyPost_ret (v := .agg #[.int .i64 3, .bool true, .int .i64 (0), .int .i64 0, .int .i64 0, .slice (some ⟨W.heap.size + 1 + 1, 0, none⟩) 2 2]) (by simp [results, Tryz.results209, go_sem]) rfl ⟨⟨_, _, rfl, ?_⟩, ?_⟩
  · refine .inr ⟨_, rfl, fun i x hx => ?_⟩
    match i with
    | 0 => simp [rw0] at hx; subst hx; simp [go_sem]
    | 1 => simp [rw0] at hx; subst hx; simp [go_sem]
    | i + 2 => simp [rw0] at hx
  · exact (((Below.refl _ _).alloc (Nat.le_refl _) _).alloc (by simp) _).alloc (by simp; omega) _
set_option maxHeartbeats 800000 in
theorem read_row : RowOk (rw0 132) 132 (.agg #[]) 210 := by
  refine ⟨fun W => by kernel_rfl, fun W => by kernel_rfl, fun W => ?_⟩
  go_enter Tryz.func210, Tryz.ntmps210
  go_wp2
  refine bodyPost_ret (v := .agg #[.int .i64 3, .bool true, .int .i64 (0), .int .i64 0, .int .i64 0, .slice none 0 0]) (by simp [results, Tryz.results210, go_sem]) rfl ⟨⟨_, _, rfl, ?_⟩, ?_⟩
  · exact .inl rfl
  · exact ((Below.refl _ _).alloc (Nat.le_refl _) _).alloc (by simp) _
set_option maxHeartbeats 800000 in
theorem ifs_row : RowOk (rw0 136) 136 (.agg #[]) 213 := by
  refine ⟨fun W => by kernel_rfl, fun W => by kernel_rfl, fun W => ?_⟩
  go_enter Tryz.func213, Tryz.ntmps213
  go_wp2
  refine bodyPost_ret (v := .agg #[.int .i64 3, .bool false, .int .i64 (0), .int .i64 0, .int .i64 0, .slice (some ⟨W.heap.size + 1 + 1, 0, none⟩) 3 3]) (by simp [results, Tryz.results213, go_sem]) rfl ⟨⟨_, _, rfl, ?_⟩, ?_⟩
  · refine .inr ⟨_, rfl, fun i x hx => ?_⟩
    match i with
    | 0 => simp [rw0] at hx; subst hx; simp [go_sem]
    | 1 => simp [rw0] at hx; subst hx; simp [go_sem]
    | 2 => simp [rw0] at hx; subst hx; simp [go_sem]
    | i + 3 => simp [rw0] at hx
  · exact (((Below.refl _ _).alloc (Nat.le_refl _) _).alloc (by simp) _).alloc (by simp; omega) _
set_option maxHeartbeats 800000 in
theorem while_row : RowOk (rw0 137) 137 (.agg #[]) 214 := by
  refine ⟨fun W => by kernel_rfl, fun W => by kernel_rfl, fun W => ?_⟩
  go_enter Tryz.func214, Tryz.ntmps214
  go_wp2
  refine bodyPost_ret (v := .agg #[.int .i64 3, .bool false, .int .i64 (0), .int .i64 0, .int .i64 0, .slice (some ⟨W.heap.size + 1 + 1, 0, none⟩) 2 2]) (by simp [results, Tryz.results214, go_sem]) rfl ⟨⟨_, _, rfl, ?_⟩, ?_⟩
  · refine .inr ⟨_, rfl, fun i x hx => ?_⟩
    match i with
    | 0 => simp [rw0] at hx; subst hx; simp [go_sem]
    | 1 => simp [rw0] at hx; subst hx; simp [go_sem]
    | i + 2 => simp [rw0] at hx
  · exact (((Below.refl _ _).alloc (Nat.le_refl _) _).alloc (by simp) _).alloc (by simp; omega) _
set_option maxHeartbeats 800000 in
theorem fors_row : RowOk (rw0 138) 138 (.agg #[]) 215 := by
  refine ⟨fun W => by kernel_rfl, fun W => by kernel_rfl, fun W => ?_⟩
  go_enter Tryz.func215, Tryz.ntmps215
  go_wp2
  refine bodyPost_ret (v := .agg #[.int .i64 3, .bool true, .int .i64 (0), .int .i64 0, .int .i64 0, .slice (some ⟨W.heap.size + 1 + 1, 0, none⟩) 3 3]) (by simp [results, Tryz.results215, go_sem]) rfl ⟨⟨_, _, rfl, ?_⟩, ?_⟩
  · refine .inr ⟨_, rfl, fun i x hx => ?_⟩
    match i with
    | 0 => simp [rw0] at hx; subst hx; simp [go_sem]
    | 1 => simp [rw0] at hx; subst hx; simp [go_sem]
    | 2 => simp [rw0] at hx; subst hx; simp [go_sem]
    | i + 3 => simp [rw0] at hx
  · exact (((Below.refl _ _).alloc (Nat.le_refl _) _).alloc (by simp) _).alloc (by simp; omega) _
set_option maxHeartbeats 800000 in
theorem check_row : RowOk (rw0 133) 133 (.agg #[]) 211 := by
  refine ⟨fun W => by kernel_rfl, fun W => by kernel_rfl, fun W => ?_⟩
  go_enter Tryz.func211, Tryz.ntmps211
  go_wp2
  refine bodyPost_ret (v := .agg #[.int .i64 3, .bool false, .int .i64 (0), .int .i64 0, .int .i64 0, .slice (some ⟨W.heap.size + 1 + 1, 0, none⟩) 1 1]) (by simp [results, Tryz.results211, go_sem]) rfl ⟨⟨_, _, rfl, ?_⟩, ?_⟩
  · refine .inr ⟨_, rfl, fun i x hx => ?_⟩
    match i with
    | 0 => simp [rw0] at hx; subst hx; simp [go_sem]
    | i + 1 => simp [rw0] at hx
  · exact (((Below.refl _ _).alloc (Nat.le_refl _) _).alloc (by simp) _).alloc (by simp; omega) _
set_option maxHeartbeats 800000 in
theorem word_row (s : ByteArray) : RowOk (rw0 135) 135 (.agg #[.string s]) 212 := by
  refine ⟨fun W => by kernel_rfl, fun W => by kernel_rfl, fun W => ?_⟩
  go_enter Tryz.func212, Tryz.ntmps212
  go_wp2
  refine bodyPost_ret (v := .agg #[.int .i64 3, .bool false, .int .i64 (0), .int .i64 0, .int .i64 0, .slice none 0 0]) (by simp [results, Tryz.results212, go_sem]) rfl ⟨⟨_, _, rfl, ?_⟩, ?_⟩
  · exact .inl rfl
  · exact ((Below.refl _ _).alloc (Nat.le_refl _) _).alloc (by simp) _
set_option maxHeartbeats 800000 in
theorem block_row : RowOk (rw0 146) 146 (.agg #[]) 216 := by
  refine ⟨fun W => by kernel_rfl, fun W => by kernel_rfl, fun W => ?_⟩
  go_enter Tryz.func216, Tryz.ntmps216
  go_wp2
  refine bodyPost_ret (v := .agg #[.int .i64 4, .bool false, .int .i64 (0), .int .i64 0, .int .i64 3, .slice none 0 0]) (by simp [results, Tryz.results216, go_sem]) rfl ⟨⟨_, _, rfl, ?_⟩, ?_⟩
  · exact .inl rfl
  · exact ((Below.refl _ _).alloc (Nat.le_refl _) _).alloc (by simp) _
set_option maxHeartbeats 800000 in
theorem no_row : RowOk (rw0 147) 147 (.agg #[]) 217 := by
  refine ⟨fun W => by kernel_rfl, fun W => by kernel_rfl, fun W => ?_⟩
  go_enter Tryz.func217, Tryz.ntmps217
  go_wp2
  refine bodyPost_ret (v := .agg #[.int .i64 0, .bool false, .int .i64 (0), .int .i64 0, .int .i64 0, .slice none 0 0]) (by simp [results, Tryz.results217, go_sem]) rfl ⟨⟨_, _, rfl, ?_⟩, ?_⟩
  · exact .inl rfl
  · exact ((Below.refl _ _).alloc (Nat.le_refl _) _).alloc (by simp) _
end Go.Proofs.YthccohemcagkcaaGreatDoor
namespace Go.Proofs.YthccohemcagkcaaGreatDoor
open Go.RowKit

def typI (kind : Int) : Nat :=
  if kind = 1 then 117 else
  if kind = 2 then 118 else
  if kind = 3 then 120 else
  if kind = 4 then 119 else
  if kind = 5 then 121 else
  if kind = 6 then 124 else
  if kind = 7 then 124 else
  if kind = 8 then 124 else
  if kind = 31 then 127 else
  if kind = 32 then 128 else
  if kind = 40 then 129 else
  if kind = 11 then 125 else
  if kind = 12 then 125 else
  if kind = 13 then 125 else
  if kind = 14 then 125 else
  if kind = 15 then 125 else
  if kind = 16 then 125 else
  if kind = 21 then 130 else
  if kind = 22 then 131 else
  if kind = 23 then 132 else
  if kind = 24 then 136 else
  if kind = 25 then 137 else
  if kind = 26 then 138 else
  if kind = 27 then 133 else
  if kind = 28 then 135 else
  if kind = 29 then 135 else
  if kind = 30 then 146 else
  147
def rowI (kind : Int) : Rw := rw0 (typI kind)
def signI (kind : Int) : ByteArray :=
  if kind = 11 then ⟨#[60]⟩ else
  if kind = 12 then ⟨#[60, 61]⟩ else
  if kind = 13 then ⟨#[62]⟩ else
  if kind = 14 then ⟨#[62, 61]⟩ else
  if kind = 15 then ⟨#[61, 61]⟩ else
  if kind = 16 then ⟨#[33, 61]⟩ else
  ⟨#[]⟩

set_option maxHeartbeats 800000 in
theorem condSign_any (kind : Int) (w : World) : Calls Tryz.prog 112 #[.int .i64 kind] w fun e w' => e = .returned (.string (signI kind)) ∧ w = w' := by
  by_cases h11 : kind = 11
  · subst h11
    go_enter Tryz.func112, Tryz.ntmps112
    go_wp2
    go_ret
    exact ⟨rfl, rfl⟩
  by_cases h12 : kind = 12
  · subst h12
    go_enter Tryz.func112, Tryz.ntmps112
    go_wp2
    go_ret
    exact ⟨rfl, rfl⟩
  by_cases h13 : kind = 13
  · subst h13
    go_enter Tryz.func112, Tryz.ntmps112
    go_wp2
    go_ret
    exact ⟨rfl, rfl⟩
  by_cases h14 : kind = 14
  · subst h14
    go_enter Tryz.func112, Tryz.ntmps112
    go_wp2
    go_ret
    exact ⟨rfl, rfl⟩
  by_cases h15 : kind = 15
  · subst h15
    go_enter Tryz.func112, Tryz.ntmps112
    go_wp2
    go_ret
    exact ⟨rfl, rfl⟩
  by_cases h16 : kind = 16
  · subst h16
    go_enter Tryz.func112, Tryz.ntmps112
    go_wp2
    go_ret
    exact ⟨rfl, rfl⟩
  have e : signI kind = ⟨#[]⟩ := by simp [signI, h11, h12, h13, h14, h15, h16]
  rw [e]
  go_enter Tryz.func112, Tryz.ntmps112
  go_wp2
  go_ret
  exact ⟨rfl, rfl⟩

set_option maxHeartbeats 1600000 in
theorem stmtForm_any (kind : Int) (w : World) (h1 : ∀ k ∈ [1, 2, 3, 4, 5, 6, 7, 8, 31, 32, 40, 11, 12, 13, 14, 15, 16], kind ≠ k) : Calls Tryz.prog 113 #[.int .i64 kind] w fun e w' => (∃ t v f, e = .returned (.iface t v) ∧ RowOk (rowI kind) t v f) ∧ w = w' := by
  by_cases h21 : kind = 21
  · subst h21
    clear h1
    go_enter Tryz.func113, Tryz.ntmps113
    go_wp2
    go_ret
    exact ⟨⟨_, _, _, rfl, set_row⟩, rfl⟩
  by_cases h22 : kind = 22
  · subst h22
    clear h1
    go_enter Tryz.func113, Tryz.ntmps113
    go_wp2
    go_ret
    exact ⟨⟨_, _, _, rfl, put_row⟩, rfl⟩
  by_cases h23 : kind = 23
  · subst h23
    clear h1
    go_enter Tryz.func113, Tryz.ntmps113
    go_wp2
    go_ret
    exact ⟨⟨_, _, _, rfl, read_row⟩, rfl⟩
  by_cases h24 : kind = 24
  · subst h24
    clear h1
    go_enter Tryz.func113, Tryz.ntmps113
    go_wp2
    go_ret
    exact ⟨⟨_, _, _, rfl, ifs_row⟩, rfl⟩
  by_cases h25 : kind = 25
  · subst h25
    clear h1
    go_enter Tryz.func113, Tryz.ntmps113
    go_wp2
    go_ret
    exact ⟨⟨_, _, _, rfl, while_row⟩, rfl⟩
  by_cases h26 : kind = 26
  · subst h26
    clear h1
    go_enter Tryz.func113, Tryz.ntmps113
    go_wp2
    go_ret
    exact ⟨⟨_, _, _, rfl, fors_row⟩, rfl⟩
  by_cases h27 : kind = 27
  · subst h27
    clear h1
    go_enter Tryz.func113, Tryz.ntmps113
    go_wp2
    go_ret
    exact ⟨⟨_, _, _, rfl, check_row⟩, rfl⟩
  by_cases h28 : kind = 28
  · subst h28
    clear h1
    go_enter Tryz.func113, Tryz.ntmps113
    go_wp2
    go_ret
    exact ⟨⟨_, _, _, rfl, word_row _⟩, rfl⟩
  by_cases h29 : kind = 29
  · subst h29
    clear h1
    go_enter Tryz.func113, Tryz.ntmps113
    go_wp2
    go_ret
    exact ⟨⟨_, _, _, rfl, word_row _⟩, rfl⟩
  by_cases h30 : kind = 30
  · subst h30
    clear h1
    go_enter Tryz.func113, Tryz.ntmps113
    go_wp2
    go_ret
    exact ⟨⟨_, _, _, rfl, block_row⟩, rfl⟩
  have e : rowI kind = rw0 147 := by
    simp at h1
    simp [rowI, typI, h1, h21, h22, h23, h24, h25, h26, h27, h28, h29, h30]
  rw [e]
  clear h1 e
  go_enter Tryz.func113, Tryz.ntmps113
  go_wp2
  go_ret
  exact ⟨⟨_, _, _, rfl, no_row⟩, rfl⟩

set_option maxHeartbeats 1600000 in
theorem formOf_any (kind : Int) (w : World) : Calls Tryz.prog 67 #[.int .i64 kind] w fun e w' => (∃ t v f, e = .returned (.iface t v) ∧ RowOk (rowI kind) t v f) ∧ w = w' := by
  by_cases h1 : kind = 1
  · subst h1
    go_enter Tryz.func67, Tryz.ntmps67
    go_wp2
    go_ret
    exact ⟨⟨_, _, _, rfl, num_row⟩, rfl⟩
  by_cases h2 : kind = 2
  · subst h2
    go_enter Tryz.func67, Tryz.ntmps67
    go_wp2
    go_ret
    exact ⟨⟨_, _, _, rfl, var_row⟩, rfl⟩
  by_cases h3 : kind = 3
  · subst h3
    go_enter Tryz.func67, Tryz.ntmps67
    go_wp2
    go_ret
    exact ⟨⟨_, _, _, rfl, cell_row⟩, rfl⟩
  by_cases h4 : kind = 4
  · subst h4
    go_enter Tryz.func67, Tryz.ntmps67
    go_wp2
    go_ret
    exact ⟨⟨_, _, _, rfl, len_row⟩, rfl⟩
  by_cases h5 : kind = 5
  · subst h5
    go_enter Tryz.func67, Tryz.ntmps67
    go_wp2
    go_ret
    exact ⟨⟨_, _, _, rfl, neg_row⟩, rfl⟩
  by_cases h6 : kind = 6
  · subst h6
    go_enter Tryz.func67, Tryz.ntmps67
    go_wp2
    go_ret
    exact ⟨⟨_, _, _, rfl, pair_row _⟩, rfl⟩
  by_cases h7 : kind = 7
  · subst h7
    go_enter Tryz.func67, Tryz.ntmps67
    go_wp2
    go_ret
    exact ⟨⟨_, _, _, rfl, pair_row _⟩, rfl⟩
  by_cases h8 : kind = 8
  · subst h8
    go_enter Tryz.func67, Tryz.ntmps67
    go_wp2
    go_ret
    exact ⟨⟨_, _, _, rfl, pair_row _⟩, rfl⟩
  by_cases h31 : kind = 31
  · subst h31
    go_enter Tryz.func67, Tryz.ntmps67
    go_wp2
    go_ret
    exact ⟨⟨_, _, _, rfl, name_row⟩, rfl⟩
  by_cases h32 : kind = 32
  · subst h32
    go_enter Tryz.func67, Tryz.ntmps67
    go_wp2
    go_ret
    exact ⟨⟨_, _, _, rfl, array_row⟩, rfl⟩
  by_cases h40 : kind = 40
  · subst h40
    go_enter Tryz.func67, Tryz.ntmps67
    go_wp2
    go_ret
    exact ⟨⟨_, _, _, rfl, prog_row⟩, rfl⟩
  by_cases h11 : kind = 11
  · subst h11
    go_enter Tryz.func67, Tryz.ntmps67
    go_wp2_with fail
    refine (condSign_any 11 _).mono ?_
    rintro e w1 ⟨rfl, rfl⟩
    rw [show signI 11 = ⟨#[60]⟩ from rfl]
    go_wp2
    go_ret
    exact ⟨⟨_, _, _, rfl, cond_row _⟩, rfl⟩
  by_cases h12 : kind = 12
  · subst h12
    go_enter Tryz.func67, Tryz.ntmps67
    go_wp2_with fail
    refine (condSign_any 12 _).mono ?_
    rintro e w1 ⟨rfl, rfl⟩
    rw [show signI 12 = ⟨#[60, 61]⟩ from rfl]
    go_wp2
    go_ret
    exact ⟨⟨_, _, _, rfl, cond_row _⟩, rfl⟩
  by_cases h13 : kind = 13
  · subst h13
    go_enter Tryz.func67, Tryz.ntmps67
    go_wp2_with fail
    refine (condSign_any 13 _).mono ?_
    rintro e w1 ⟨rfl, rfl⟩
    rw [show signI 13 = ⟨#[62]⟩ from rfl]
    go_wp2
    go_ret
    exact ⟨⟨_, _, _, rfl, cond_row _⟩, rfl⟩
  by_cases h14 : kind = 14
  · subst h14
    go_enter Tryz.func67, Tryz.ntmps67
    go_wp2_with fail
    refine (condSign_any 14 _).mono ?_
    rintro e w1 ⟨rfl, rfl⟩
    rw [show signI 14 = ⟨#[62, 61]⟩ from rfl]
    go_wp2
    go_ret
    exact ⟨⟨_, _, _, rfl, cond_row _⟩, rfl⟩
  by_cases h15 : kind = 15
  · subst h15
    go_enter Tryz.func67, Tryz.ntmps67
    go_wp2_with fail
    refine (condSign_any 15 _).mono ?_
    rintro e w1 ⟨rfl, rfl⟩
    rw [show signI 15 = ⟨#[61, 61]⟩ from rfl]
    go_wp2
    go_ret
    exact ⟨⟨_, _, _, rfl, cond_row _⟩, rfl⟩
  by_cases h16 : kind = 16
  · subst h16
    go_enter Tryz.func67, Tryz.ntmps67
    go_wp2_with fail
    refine (condSign_any 16 _).mono ?_
    rintro e w1 ⟨rfl, rfl⟩
    rw [show signI 16 = ⟨#[33, 61]⟩ from rfl]
    go_wp2
    go_ret
    exact ⟨⟨_, _, _, rfl, cond_row _⟩, rfl⟩
  have e : signI kind = ⟨#[]⟩ := by simp [signI, h11, h12, h13, h14, h15, h16]
  have HA := mkHid (show ∀ k ∈ [1, 2, 3, 4, 5, 6, 7, 8, 31, 32, 40, 11, 12, 13, 14, 15, 16], kind ≠ k by intro k hk; simp at hk; omega)
  go_enter Tryz.func67, Tryz.ntmps67
  go_wp2_with fail
  refine (condSign_any kind _).mono ?_
  rintro e1 w1 ⟨rfl, rfl⟩
  rw [e]
  go_wp2_with fail
  refine (stmtForm_any kind _ HA.out).mono ?_
  rintro e w1 ⟨⟨t, v, f, rfl, hf⟩, rfl⟩
  have HF := mkHid hf
  clear hf
  go_wp2
  go_ret
  exact ⟨⟨_, _, _, rfl, HF.out⟩, rfl⟩
end Go.Proofs.YthccohemcagkcaaGreatDoor
