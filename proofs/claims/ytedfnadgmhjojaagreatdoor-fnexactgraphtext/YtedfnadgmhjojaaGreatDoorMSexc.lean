/-
  CONTRACT of the specification's l02Expr at conditions; of l02Expr whole.
-/
import Derived.Test.YtedfnadgmhjojaaGreatDoorMSex
namespace Go.Proofs.YtedfnadgmhjojaaGreatDoor
open Go.RowKit
open Pl

theorem six_at (i : Nat) (hi : i < 6) (W : World) : (W.alloc (.cells #[.string ⟨#[60]⟩, .string ⟨#[60, 61]⟩, .string ⟨#[62]⟩, .string ⟨#[62, 61]⟩, .string ⟨#[61, 61]⟩, .string ⟨#[33, 61]⟩] 9)).cell? ⟨W.heap.size, i, none⟩ = some (.string (signI (11 + i))) := by
 rw [World.cell?_alloc_new]
 match i, hi with
 | 0, _ => rfl
 | 1, _ => rfl
 | 2, _ => rfl
 | 3, _ => rfl
 | 4, _ => rfl
 | 5, _ => rfl

set_option maxRecDepth 100000 in
set_option maxHeartbeats 8000000 in
theorem sEx_cond (k : Int) (i : Nat) (hi : i < 6) (hki : k = 11 + (i : Int)) (s : ByteArray) (m : Int) (x y : T) (IX : SEx x) (IY : SEx y) (hx : Good1 x) (hy : Good1 y) : SEx (.node k s m [x, y]) := by
 intro a c w hg hc hk
 obtain ⟨hs, _⟩ := good_shape hg
 have hA := exS_size _ hx.good
 have hB := exS_size _ hy.good
 have hcx : cnt x + cnt y ≤ 499 := by simp only [cnt, cnts] at hc; omega
 have hlay : lay k s m (kindT x) (exS x) (kindT y) (exS y) = exS x ++ ⟨#[32]⟩ ++ signI k ++ ⟨#[32]⟩ ++ exS y := by
  unfold lay
  rw [if_neg (by omega), if_neg (by omega), if_neg (by omega), if_neg (by omega), if_neg (by omega), if_neg (by omega), if_neg (by omega), if_neg (by omega)]
 rw [exS2, hlay]
 have hGs := sign_size k
 have hsix := six_at i hi
 rw [← hki] at hsix
 rcases hk with h0 | ⟨b, o, rfl, _, hll⟩
 ·cases h0
 obtain ⟨xk, xs, xm, xkk⟩ := x
 obtain ⟨xa, xc, xc0, xc1, xc2, xc3, _, _, xkids⟩ := hll.at (i := 0) (show _ = some (T.node xk xs xm xkk) from rfl)
 simp only [Nat.zero_mul, Nat.add_zero] at xc0 xc1 xc2 xc3
 obtain ⟨yk, ys, ym, ykk⟩ := y
 obtain ⟨ya, yc, yc0, yc1, yc2, yc3, _, _, ykids⟩ := hll.at (i := 1) (show _ = some (T.node yk ys ym ykk) from rfl)
 simp only [Nat.one_mul] at yc0 yc1 yc2 yc3
 have HX := mkHid (fun W (hW : Below w.heap.size w W) => IX xa xc W hx.good (by omega) (xkids.below hW))
 have HY := mkHid (fun W (hW : Below w.heap.size w W) => IY ya yc W hy.good (by omega) (ykids.below hW))
 have hA' : (exS (.node xk xs xm xkk)).size ≤ 1000000000 := by omega
 have hB' : (exS (.node yk ys ym ykk)).size ≤ 1000000000 := by omega
 generalize exS (.node xk xs xm xkk) = A at HX hA' ⊢
 generalize exS (.node yk ys ym ykk) = R at HY hB' ⊢
 generalize signI k = G at hsix hGs ⊢
 have H6 := mkHid hsix
 have hsub : IntKind.i64.wrap (k - 11) = (i : Int) := by rw [IntKind.wrap_i64]; omega
 have i0 : (0 : Int) ≤ (i : Int) := by omega
 have i1 : (i : Int) < 6 := by omega
 have n1 : k ≠ 1 := by omega
 have n2 : k ≠ 2 := by omega
 have n3 : k ≠ 3 := by omega
 have n4 : k ≠ 4 := by omega
 have n5 : k ≠ 5 := by omega
 have n6 : k ≠ 6 := by omega
 have n7 : k ≠ 7 := by omega
 have n8 : k ≠ 8 := by omega
 clear hg hc hll hx hy hA hB hcx IX IY xkids ykids hlay hsix hki
 have z1 : (A ++ (ByteArray.mk #[32])).size = A.size + 1 := by rw [ByteArray.size_append]; rfl
 have k1 : ¬ 9223372036854775807 < A.size + 1 := by omega
 have k2 : ¬ 9223372036854775807 < A.size + 1 + G.size := by omega
 have k3 : ¬ 9223372036854775807 < A.size + 1 + G.size + 1 := by omega
 have k4 : ¬ 9223372036854775807 < A.size + 1 + G.size + 1 + R.size := by omega
 have B0 := mkHid ((Below.refl w.heap.size w).alloc (Nat.le_refl _) (.cells #[.int .i64 k, .string s, .int .i64 m, .slice (some ⟨b, o, none⟩) 2 c] 38))
 have F0 := mkHid (Four.new w k s m (some ⟨b, o, none⟩) 2 c 38)
 have hbw := World.block_lt_of_cell? w _ xc0
 have A0 := B0.out
 have nd : ∀ q, (w.alloc (.cells #[.int .i64 k, .string s, .int .i64 m, .slice (some ⟨b, o, none⟩) 2 c] 38)).cell? ⟨b, q, none⟩ = w.cell? ⟨b, q, none⟩ := fun q => A0.cell (p := ⟨b, q, none⟩) hbw
 obtain ⟨p0, p1, p2, p3⟩ := F0.out
 have xq0 := (nd _).trans xc0
 have xq1 := (nd _).trans xc1
 have xq2 := (nd _).trans xc2
 have xq3 := (nd _).trans xc3
 have yq0 := (nd _).trans yc0
 have yq1 := (nd _).trans yc1
 have yq2 := (nd _).trans yc2
 have yq3 := (nd _).trans yc3
 clear nd A0 xc0 xc1 xc2 xc3 yc0 yc1 yc2 yc3 hbw
 show Calls Tryz.prog 43 #[.agg #[.int .i64 k, .string s, .int .i64 m, .slice (some ⟨b, o, none⟩) 2 c]] w _
 go_enter Tryz.func43, Tryz.ntmps43
 go_wp2_with fail
 generalize w.alloc (.cells #[.int .i64 k, .string s, .int .i64 m, .slice (some ⟨b, o, none⟩) 2 c] 38) = w1 at *
 have l1 : w.heap.size < w1.heap.size := World.block_lt_of_cell? w1 _ p0
 have l2 : b < w1.heap.size := World.block_lt_of_cell? w1 _ xq0
 have hli : ∀ (h : i < ([Value.string ⟨#[60]⟩, Value.string ⟨#[60, 61]⟩, Value.string ⟨#[62]⟩, Value.string ⟨#[62, 61]⟩, Value.string ⟨#[61, 61]⟩, Value.string ⟨#[33, 61]⟩] : List Value).length), ([Value.string ⟨#[60]⟩, Value.string ⟨#[60, 61]⟩, Value.string ⟨#[62]⟩, Value.string ⟨#[62, 61]⟩, Value.string ⟨#[61, 61]⟩, Value.string ⟨#[33, 61]⟩] : List Value)[i] = Value.string G := fun h => by
  have h6 := H6.out w1
  rw [World.cell?_alloc_new] at h6
  have h7 : ([Value.string ⟨#[60]⟩, Value.string ⟨#[60, 61]⟩, Value.string ⟨#[62]⟩, Value.string ⟨#[62, 61]⟩, Value.string ⟨#[61, 61]⟩, Value.string ⟨#[33, 61]⟩] : List Value)[i]? = some (Value.string G) := by simpa using h6
  exact (List.getElem?_eq_some_iff.1 h7).2
 refine wp_region_held_drew (S := (fun w' => w'.cell? ⟨w.heap.size, 0, none⟩ = some (.int .i64 k) ∧ w'.cell? ⟨w.heap.size, 1, none⟩ = some (.string s) ∧ w'.cell? ⟨w.heap.size, 2, none⟩ = some (.int .i64 m) ∧ w'.cell? ⟨w.heap.size, 3, none⟩ = some (.slice (some ⟨b, o, none⟩) 2 c) ∧ w'.cell? ⟨b, o, none⟩ = some (.int .i64 xk) ∧ w'.cell? ⟨b, o + 1, none⟩ = some (.string xs) ∧ w'.cell? ⟨b, o + 2, none⟩ = some (.int .i64 xm) ∧ w'.cell? ⟨b, o + 3, none⟩ = some (.slice xa xkk.length xc) ∧ w'.cell? ⟨b, o + 4, none⟩ = some (.int .i64 yk) ∧ w'.cell? ⟨b, o + 4 + 1, none⟩ = some (.string ys) ∧ w'.cell? ⟨b, o + 4 + 2, none⟩ = some (.int .i64 ym) ∧ w'.cell? ⟨b, o + 4 + 3, none⟩ = some (.slice ya ykk.length yc))) (by kernel_rfl) ?_ (fun _ => ?_)
 ·exact ⟨p0, p1, p2, p3, xq0, xq1, xq2, xq3, yq0, yq1, yq2, yq3⟩
 have Bl0 := Below.refl w1.drew.heap.size w1.drew
 refine wpAnyH_take (i := 0) (oi := { dst := some 82, op := Op.fieldAddr 38 (Operand.tmp 1) 3, type := 0, pos := "l02_lang.go:419", after := #[], guard := none }) (v := ?v1) rfl (by kernel_rfl) (by kernel_rfl) (by kernel_rfl) (fun _ _ _ h => h) (Or.inl ⟨by rfl, ?hy1⟩) (by assumption) ?rest1
 case hy1 => (intro w' hSw; (try dsimp only at hSw); go_simp; try with_reducible rfl)
 try simp only [Act.put, List.setIfInBounds_toArray, List.set_cons_zero, List.set_cons_succ]
 refine wpAnyH_take (i := 1) (oi := { dst := some 83, op := Op.load 36 (Operand.tmp 82), type := 36, pos := "l02_lang.go:419", after := #[{ on := 0, ground := Ground.data }], guard := none }) (v := ?v2) rfl (by kernel_rfl) (by kernel_rfl) (by kernel_rfl) (fun _ _ _ h => h) (Or.inl ⟨by rfl, ?hy2⟩) (by assumption) ?rest2
 case hy2 => (intro w' hSw; (try dsimp only at hSw); go_simp; try with_reducible rfl)
 try simp only [Act.put, List.setIfInBounds_toArray, List.set_cons_zero, List.set_cons_succ]
 refine wpAnyH_take (i := 2) (oi := { dst := some 84, op := Op.indexAddr 36 (Operand.tmp 83) (Operand.const (Value.int IntKind.i64 0)), type := 0, pos := "l02_lang.go:419", after := #[{ on := 1, ground := Ground.data }], guard := none }) (v := ?v3) rfl (by kernel_rfl) (by kernel_rfl) (by kernel_rfl) (fun _ _ _ h => h) (Or.inl ⟨by rfl, ?hy3⟩) (by assumption) ?rest3
 case hy3 => (intro w' hSw; (try dsimp only at hSw); go_simp; try with_reducible rfl)
 try simp only [Act.put, List.setIfInBounds_toArray, List.set_cons_zero, List.set_cons_succ]
 refine wpAnyH_take (i := 3) (oi := { dst := some 85, op := Op.load 38 (Operand.tmp 84), type := 38, pos := "l02_lang.go:419", after := #[{ on := 2, ground := Ground.data }], guard := none }) (v := ?v4) rfl (by kernel_rfl) (by kernel_rfl) (by kernel_rfl) (fun _ _ _ h => h) (Or.inl ⟨by rfl, ?hy4⟩) (by assumption) ?rest4
 case hy4 => (intro w' hSw; (try dsimp only at hSw); go_simp; try with_reducible rfl)
 try simp only [Act.put, List.setIfInBounds_toArray, List.set_cons_zero, List.set_cons_succ]
 refine wpAnyH_take (i := 7) (oi := { dst := some 89, op := Op.fieldAddr 38 (Operand.tmp 1) 0, type := 0, pos := "l02_lang.go:419", after := #[], guard := none }) (v := ?v5) rfl (by kernel_rfl) (by kernel_rfl) (by kernel_rfl) (fun _ _ _ h => h) (Or.inl ⟨by rfl, ?hy5⟩) (by assumption) ?rest5
 case hy5 => (intro w' hSw; (try dsimp only at hSw); go_simp; try with_reducible rfl)
 try simp only [Act.put, List.setIfInBounds_toArray, List.set_cons_zero, List.set_cons_succ]
 refine wpAnyH_take (i := 8) (oi := { dst := some 90, op := Op.load 3 (Operand.tmp 89), type := 3, pos := "l02_lang.go:419", after := #[{ on := 7, ground := Ground.data }], guard := none }) (v := ?v6) rfl (by kernel_rfl) (by kernel_rfl) (by kernel_rfl) (fun _ _ _ h => h) (Or.inl ⟨by rfl, ?hy6⟩) (by assumption) ?rest6
 case hy6 => (intro w' hSw; (try dsimp only at hSw); go_simp; try with_reducible rfl)
 try simp only [Act.put, List.setIfInBounds_toArray, List.set_cons_zero, List.set_cons_succ]
 refine wpAnyH_take (i := 9) (oi := { dst := some 91, op := Op.binOp BinOp.sub 3 (Operand.tmp 90) (Operand.const (Value.int IntKind.i64 11)) 3, type := 3, pos := "l02_lang.go:419", after := #[{ on := 8, ground := Ground.data }], guard := none }) (v := ?v7) rfl (by kernel_rfl) (by kernel_rfl) (by kernel_rfl) (fun _ _ _ h => h) (Or.inl ⟨by rfl, ?hy7⟩) (by assumption) ?rest7
 case hy7 => (intro w' hSw; (try dsimp only at hSw); go_simp; try with_reducible rfl)
 try simp only [Act.put, List.setIfInBounds_toArray, List.set_cons_zero, List.set_cons_succ]
 refine wpAnyH_take (i := 14) (oi := { dst := some 96, op := Op.fieldAddr 38 (Operand.tmp 1) 3, type := 0, pos := "l02_lang.go:419", after := #[], guard := none }) (v := ?v8) rfl (by kernel_rfl) (by kernel_rfl) (by kernel_rfl) (fun _ _ _ h => h) (Or.inl ⟨by rfl, ?hy8⟩) (by assumption) ?rest8
 case hy8 => (intro w' hSw; (try dsimp only at hSw); go_simp; try with_reducible rfl)
 try simp only [Act.put, List.setIfInBounds_toArray, List.set_cons_zero, List.set_cons_succ]
 refine wpAnyH_take (i := 15) (oi := { dst := some 97, op := Op.load 36 (Operand.tmp 96), type := 36, pos := "l02_lang.go:419", after := #[{ on := 14, ground := Ground.data }], guard := none }) (v := ?v9) rfl (by kernel_rfl) (by kernel_rfl) (by kernel_rfl) (fun _ _ _ h => h) (Or.inl ⟨by rfl, ?hy9⟩) (by assumption) ?rest9
 case hy9 => (intro w' hSw; (try dsimp only at hSw); go_simp; try with_reducible rfl)
 try simp only [Act.put, List.setIfInBounds_toArray, List.set_cons_zero, List.set_cons_succ]
 refine wpAnyH_take (i := 16) (oi := { dst := some 98, op := Op.indexAddr 36 (Operand.tmp 97) (Operand.const (Value.int IntKind.i64 1)), type := 0, pos := "l02_lang.go:419", after := #[{ on := 15, ground := Ground.data }], guard := none }) (v := ?v10) rfl (by kernel_rfl) (by kernel_rfl) (by kernel_rfl) (fun _ _ _ h => h) (Or.inl ⟨by rfl, ?hy10⟩) (by assumption) ?rest10
 case hy10 => (intro w' hSw; (try dsimp only at hSw); go_simp; try with_reducible rfl)
 try simp only [Act.put, List.setIfInBounds_toArray, List.set_cons_zero, List.set_cons_succ]
 refine wpAnyH_take (i := 17) (oi := { dst := some 99, op := Op.load 38 (Operand.tmp 98), type := 38, pos := "l02_lang.go:419", after := #[{ on := 16, ground := Ground.data }], guard := none }) (v := ?v11) rfl (by kernel_rfl) (by kernel_rfl) (by kernel_rfl) (fun _ _ _ h => h) (Or.inl ⟨by rfl, ?hy11⟩) (by assumption) ?rest11
 case hy11 => (intro w' hSw; (try dsimp only at hSw); go_simp; try with_reducible rfl)
 try simp only [Act.put, List.setIfInBounds_toArray, List.set_cons_zero, List.set_cons_succ]
 refine wpAnyH_ready (rs := [4, 6]) (by kernel_rfl) (by simp) ?_
 refine AllReadyH.cons (o := { dst := some 86, op := Op.call { callee := Callee.value (Operand.func 43), args := #[Operand.tmp 85], argTypes := #[38] }, type := 9, pos := "l02_lang.go:419", after := #[{ on := 3, ground := Ground.data }], guard := none }) rfl (fun K hK => ?_) ?_
 ·go_simp
  refine (HX.out _ (below_step B0.out.drew Bl0)).mono ?_
  rintro e v1 ⟨rfl, hb1⟩
  have Bl1 := below_step Bl0 hb1
  clear hb1
  go_wp2_with fail
  refine hK.out _ _ ?_ (fun _ => ?_)
  ·exact ⟨(Bl1.cell (p := ⟨w.heap.size, 0, none⟩) l1).trans p0, (Bl1.cell (p := ⟨w.heap.size, 1, none⟩) l1).trans p1, (Bl1.cell (p := ⟨w.heap.size, 2, none⟩) l1).trans p2, (Bl1.cell (p := ⟨w.heap.size, 3, none⟩) l1).trans p3, (Bl1.cell (p := ⟨b, o, none⟩) l2).trans xq0, (Bl1.cell (p := ⟨b, o + 1, none⟩) l2).trans xq1, (Bl1.cell (p := ⟨b, o + 2, none⟩) l2).trans xq2, (Bl1.cell (p := ⟨b, o + 3, none⟩) l2).trans xq3, (Bl1.cell (p := ⟨b, o + 4, none⟩) l2).trans yq0, (Bl1.cell (p := ⟨b, o + 4 + 1, none⟩) l2).trans yq1, (Bl1.cell (p := ⟨b, o + 4 + 2, none⟩) l2).trans yq2, (Bl1.cell (p := ⟨b, o + 4 + 3, none⟩) l2).trans yq3⟩
  clear hK K
  try simp only [Act.put, List.setIfInBounds_toArray, List.set_cons_zero, List.set_cons_succ]
  refine wpAnyH_take (i := 5) (oi := { dst := some 87, op := Op.binOp BinOp.add 9 (Operand.tmp 86) (Operand.const (Value.string { data := #[32] })) 9, type := 9, pos := "l02_lang.go:419", after := #[{ on := 4, ground := Ground.data }], guard := none }) (v := ?v12) rfl (by kernel_rfl) (by kernel_rfl) (by kernel_rfl) (fun _ _ _ h => h) (Or.inl ⟨by rfl, ?hy12⟩) (by assumption) ?rest12
  case hy12 => (intro w' hSw; (try dsimp only at hSw); go_simp; try with_reducible rfl)
  try simp only [Act.put, List.setIfInBounds_toArray, List.set_cons_zero, List.set_cons_succ]
  refine wpAnyH_ready (rs := [6, 18]) (by kernel_rfl) (by simp) ?_
  refine AllReadyH.cons (o := { dst := some 88, op := Op.buildSlice 61 6 #[(0, Operand.const (Value.string { data := #[60] })), (1, Operand.const (Value.string { data := #[60, 61] })), (2, Operand.const (Value.string { data := #[62] })), (3, Operand.const (Value.string { data := #[62, 61] })), (4, Operand.const (Value.string { data := #[61, 61] })), (5, Operand.const (Value.string { data := #[33, 61] }))], type := 61, pos := "l02_lang.go:419", after := #[], guard := none }) rfl (fun K hK => ?_) ?_
  ·go_simp
   have Bl2 := Bl1.alloc Bl1.size (.cells #[.string ⟨#[60]⟩, .string ⟨#[60, 61]⟩, .string ⟨#[62]⟩, .string ⟨#[62, 61]⟩, .string ⟨#[61, 61]⟩, .string ⟨#[33, 61]⟩] 9)
   have hc2 : (v1.alloc (.cells #[.string ⟨#[60]⟩, .string ⟨#[60, 61]⟩, .string ⟨#[62]⟩, .string ⟨#[62, 61]⟩, .string ⟨#[61, 61]⟩, .string ⟨#[33, 61]⟩] 9)).cell? ⟨v1.heap.size, i, none⟩ = some (.string G) := H6.out v1
   refine hK.out _ _ ?_ (fun _ => ?_)
   ·exact ⟨(Bl2.cell (p := ⟨w.heap.size, 0, none⟩) l1).trans p0, (Bl2.cell (p := ⟨w.heap.size, 1, none⟩) l1).trans p1, (Bl2.cell (p := ⟨w.heap.size, 2, none⟩) l1).trans p2, (Bl2.cell (p := ⟨w.heap.size, 3, none⟩) l1).trans p3, (Bl2.cell (p := ⟨b, o, none⟩) l2).trans xq0, (Bl2.cell (p := ⟨b, o + 1, none⟩) l2).trans xq1, (Bl2.cell (p := ⟨b, o + 2, none⟩) l2).trans xq2, (Bl2.cell (p := ⟨b, o + 3, none⟩) l2).trans xq3, (Bl2.cell (p := ⟨b, o + 4, none⟩) l2).trans yq0, (Bl2.cell (p := ⟨b, o + 4 + 1, none⟩) l2).trans yq1, (Bl2.cell (p := ⟨b, o + 4 + 2, none⟩) l2).trans yq2, (Bl2.cell (p := ⟨b, o + 4 + 3, none⟩) l2).trans yq3⟩
   clear hK K
   try simp only [Act.put, List.setIfInBounds_toArray, List.set_cons_zero, List.set_cons_succ]
   refine wpAnyH_take (i := 10) (oi := { dst := some 92, op := Op.indexAddr 61 (Operand.tmp 88) (Operand.tmp 91), type := 0, pos := "l02_lang.go:419", after := #[{ on := 6, ground := Ground.data }, { on := 9, ground := Ground.data }], guard := none }) (v := ?v13) rfl (by kernel_rfl) (by kernel_rfl) (by kernel_rfl) (fun _ _ _ h => h) (Or.inl ⟨by rfl, ?hy13⟩) (by assumption) ?rest13
   case hy13 => (intro w' hSw; (try dsimp only at hSw); go_simp; try with_reducible rfl)
   try simp only [Act.put, List.setIfInBounds_toArray, List.set_cons_zero, List.set_cons_succ]
   refine wpAnyH_ready (rs := [11, 18]) (by kernel_rfl) (by simp) ?_
   refine AllReadyH.cons (o := { dst := some 93, op := Op.load 9 (Operand.tmp 92), type := 9, pos := "l02_lang.go:419", after := #[{ on := 10, ground := Ground.data }], guard := none }) rfl (fun K hK => ?_) ?_
   ·go_simp
    refine hK.out _ _ ?_ (fun _ => ?_)
    ·exact ⟨(Bl2.cell (p := ⟨w.heap.size, 0, none⟩) l1).trans p0, (Bl2.cell (p := ⟨w.heap.size, 1, none⟩) l1).trans p1, (Bl2.cell (p := ⟨w.heap.size, 2, none⟩) l1).trans p2, (Bl2.cell (p := ⟨w.heap.size, 3, none⟩) l1).trans p3, (Bl2.cell (p := ⟨b, o, none⟩) l2).trans xq0, (Bl2.cell (p := ⟨b, o + 1, none⟩) l2).trans xq1, (Bl2.cell (p := ⟨b, o + 2, none⟩) l2).trans xq2, (Bl2.cell (p := ⟨b, o + 3, none⟩) l2).trans xq3, (Bl2.cell (p := ⟨b, o + 4, none⟩) l2).trans yq0, (Bl2.cell (p := ⟨b, o + 4 + 1, none⟩) l2).trans yq1, (Bl2.cell (p := ⟨b, o + 4 + 2, none⟩) l2).trans yq2, (Bl2.cell (p := ⟨b, o + 4 + 3, none⟩) l2).trans yq3⟩
    clear hK K
    try simp only [Act.put, List.setIfInBounds_toArray, List.set_cons_zero, List.set_cons_succ]
    refine wpAnyH_take (i := 12) (oi := { dst := some 94, op := Op.binOp BinOp.add 9 (Operand.tmp 87) (Operand.tmp 93) 9, type := 9, pos := "l02_lang.go:419", after := #[{ on := 5, ground := Ground.data }, { on := 11, ground := Ground.data }], guard := none }) (v := ?v14) rfl (by kernel_rfl) (by kernel_rfl) (by kernel_rfl) (fun _ _ _ h => h) (Or.inl ⟨by rfl, ?hy14⟩) (by assumption) ?rest14
    case hy14 => (intro w' hSw; (try dsimp only at hSw); go_simp; try with_reducible rfl)
    try simp only [Act.put, List.setIfInBounds_toArray, List.set_cons_zero, List.set_cons_succ]
    refine wpAnyH_take (i := 13) (oi := { dst := some 95, op := Op.binOp BinOp.add 9 (Operand.tmp 94) (Operand.const (Value.string { data := #[32] })) 9, type := 9, pos := "l02_lang.go:419", after := #[{ on := 12, ground := Ground.data }], guard := none }) (v := ?v15) rfl (by kernel_rfl) (by kernel_rfl) (by kernel_rfl) (fun _ _ _ h => h) (Or.inl ⟨by rfl, ?hy15⟩) (by assumption) ?rest15
    case hy15 => (intro w' hSw; (try dsimp only at hSw); go_simp; try with_reducible rfl)
    try simp only [Act.put, List.setIfInBounds_toArray, List.set_cons_zero, List.set_cons_succ]
    refine wpAnyH_ready (rs := [18]) (by kernel_rfl) (by simp) ?_
    refine AllReadyH.cons (o := { dst := some 100, op := Op.call { callee := Callee.value (Operand.func 43), args := #[Operand.tmp 99], argTypes := #[38] }, type := 9, pos := "l02_lang.go:419", after := #[{ on := 17, ground := Ground.data }, { on := 4, ground := Ground.chain }], guard := none }) rfl (fun K hK => ?_) ?_
    ·go_simp
     refine (HY.out _ (below_step B0.out.drew Bl2)).mono ?_
     rintro e v4 ⟨rfl, hb4⟩
     have Bl4 := below_step Bl2 hb4
     have hc4 := (hb4.cell (p := ⟨v1.heap.size, i, none⟩) (World.block_lt_of_cell? _ _ hc2)).trans hc2
     clear hb4
     go_wp2_with fail
     refine hK.out _ _ ?_ (fun _ => ?_)
     ·exact ⟨(Bl4.cell (p := ⟨w.heap.size, 0, none⟩) l1).trans p0, (Bl4.cell (p := ⟨w.heap.size, 1, none⟩) l1).trans p1, (Bl4.cell (p := ⟨w.heap.size, 2, none⟩) l1).trans p2, (Bl4.cell (p := ⟨w.heap.size, 3, none⟩) l1).trans p3, (Bl4.cell (p := ⟨b, o, none⟩) l2).trans xq0, (Bl4.cell (p := ⟨b, o + 1, none⟩) l2).trans xq1, (Bl4.cell (p := ⟨b, o + 2, none⟩) l2).trans xq2, (Bl4.cell (p := ⟨b, o + 3, none⟩) l2).trans xq3, (Bl4.cell (p := ⟨b, o + 4, none⟩) l2).trans yq0, (Bl4.cell (p := ⟨b, o + 4 + 1, none⟩) l2).trans yq1, (Bl4.cell (p := ⟨b, o + 4 + 2, none⟩) l2).trans yq2, (Bl4.cell (p := ⟨b, o + 4 + 3, none⟩) l2).trans yq3⟩
     clear hK K
     try simp only [Act.put, List.setIfInBounds_toArray, List.set_cons_zero, List.set_cons_succ]
     refine wpAnyH_take (i := 19) (oi := { dst := some 101, op := Op.binOp BinOp.add 9 (Operand.tmp 95) (Operand.tmp 100) 9, type := 9, pos := "l02_lang.go:419", after := #[{ on := 13, ground := Ground.data }, { on := 18, ground := Ground.data }], guard := none }) (v := ?v16) rfl (by kernel_rfl) (by kernel_rfl) (by kernel_rfl) (fun _ _ _ h => h) (Or.inl ⟨by rfl, ?hy16⟩) (by assumption) ?rest16
     case hy16 => (intro w' hSw; (try dsimp only at hSw); go_simp; try with_reducible rfl)
     try simp only [Act.put, List.setIfInBounds_toArray, List.set_cons_zero, List.set_cons_succ]
     refine wpAnyH_take (i := 20) (oi := { dst := some 2, op := Op.assign (Operand.tmp 101), type := 9, pos := "l02_lang.go:419", after := #[{ on := 19, ground := Ground.data }, { on := 18, ground := Ground.chain }, { on := 0, ground := Ground.phase }, { on := 1, ground := Ground.phase }, { on := 2, ground := Ground.phase }, { on := 3, ground := Ground.phase }, { on := 4, ground := Ground.phase }, { on := 5, ground := Ground.phase }, { on := 6, ground := Ground.phase }, { on := 7, ground := Ground.phase }, { on := 8, ground := Ground.phase }, { on := 9, ground := Ground.phase }, { on := 10, ground := Ground.phase }, { on := 11, ground := Ground.phase }, { on := 12, ground := Ground.phase }, { on := 13, ground := Ground.phase }, { on := 14, ground := Ground.phase }, { on := 15, ground := Ground.phase }, { on := 16, ground := Ground.phase }, { on := 17, ground := Ground.phase }, { on := 18, ground := Ground.phase }, { on := 19, ground := Ground.phase }], guard := none }) (v := ?v17) rfl (by kernel_rfl) (by kernel_rfl) (by kernel_rfl) (fun _ _ _ h => h) (Or.inl ⟨by rfl, ?hy17⟩) (by assumption) ?rest17
     case hy17 => (intro w' hSw; (try dsimp only at hSw); go_simp; try with_reducible rfl)
     try simp only [Act.put, List.setIfInBounds_toArray, List.set_cons_zero, List.set_cons_succ]
     refine wpAnyH_done (by kernel_rfl) ?_ _
     have BF := mkHid (below_step B0.out.drew Bl4)
     go_wp2
     go_ret
     exact ⟨rfl, BF.out⟩
    exact AllReadyH.nil
   refine AllReadyH.cons (o := { dst := some 100, op := Op.call { callee := Callee.value (Operand.func 43), args := #[Operand.tmp 99], argTypes := #[38] }, type := 9, pos := "l02_lang.go:419", after := #[{ on := 17, ground := Ground.data }, { on := 4, ground := Ground.chain }], guard := none }) rfl (fun K hK => ?_) ?_
   ·go_simp
    refine (HY.out _ (below_step B0.out.drew Bl2)).mono ?_
    rintro e v5 ⟨rfl, hb5⟩
    have Bl5 := below_step Bl2 hb5
    have hc5 := (hb5.cell (p := ⟨v1.heap.size, i, none⟩) (World.block_lt_of_cell? _ _ hc2)).trans hc2
    clear hb5
    go_wp2_with fail
    refine hK.out _ _ ?_ (fun _ => ?_)
    ·exact ⟨(Bl5.cell (p := ⟨w.heap.size, 0, none⟩) l1).trans p0, (Bl5.cell (p := ⟨w.heap.size, 1, none⟩) l1).trans p1, (Bl5.cell (p := ⟨w.heap.size, 2, none⟩) l1).trans p2, (Bl5.cell (p := ⟨w.heap.size, 3, none⟩) l1).trans p3, (Bl5.cell (p := ⟨b, o, none⟩) l2).trans xq0, (Bl5.cell (p := ⟨b, o + 1, none⟩) l2).trans xq1, (Bl5.cell (p := ⟨b, o + 2, none⟩) l2).trans xq2, (Bl5.cell (p := ⟨b, o + 3, none⟩) l2).trans xq3, (Bl5.cell (p := ⟨b, o + 4, none⟩) l2).trans yq0, (Bl5.cell (p := ⟨b, o + 4 + 1, none⟩) l2).trans yq1, (Bl5.cell (p := ⟨b, o + 4 + 2, none⟩) l2).trans yq2, (Bl5.cell (p := ⟨b, o + 4 + 3, none⟩) l2).trans yq3⟩
    clear hK K
    try simp only [Act.put, List.setIfInBounds_toArray, List.set_cons_zero, List.set_cons_succ]
    refine wpAnyH_ready (rs := [11]) (by kernel_rfl) (by simp) ?_
    refine AllReadyH.cons (o := { dst := some 93, op := Op.load 9 (Operand.tmp 92), type := 9, pos := "l02_lang.go:419", after := #[{ on := 10, ground := Ground.data }], guard := none }) rfl (fun K hK => ?_) ?_
    ·go_simp
     refine hK.out _ _ ?_ (fun _ => ?_)
     ·exact ⟨(Bl5.cell (p := ⟨w.heap.size, 0, none⟩) l1).trans p0, (Bl5.cell (p := ⟨w.heap.size, 1, none⟩) l1).trans p1, (Bl5.cell (p := ⟨w.heap.size, 2, none⟩) l1).trans p2, (Bl5.cell (p := ⟨w.heap.size, 3, none⟩) l1).trans p3, (Bl5.cell (p := ⟨b, o, none⟩) l2).trans xq0, (Bl5.cell (p := ⟨b, o + 1, none⟩) l2).trans xq1, (Bl5.cell (p := ⟨b, o + 2, none⟩) l2).trans xq2, (Bl5.cell (p := ⟨b, o + 3, none⟩) l2).trans xq3, (Bl5.cell (p := ⟨b, o + 4, none⟩) l2).trans yq0, (Bl5.cell (p := ⟨b, o + 4 + 1, none⟩) l2).trans yq1, (Bl5.cell (p := ⟨b, o + 4 + 2, none⟩) l2).trans yq2, (Bl5.cell (p := ⟨b, o + 4 + 3, none⟩) l2).trans yq3⟩
     clear hK K
     try simp only [Act.put, List.setIfInBounds_toArray, List.set_cons_zero, List.set_cons_succ]
     refine wpAnyH_take (i := 12) (oi := { dst := some 94, op := Op.binOp BinOp.add 9 (Operand.tmp 87) (Operand.tmp 93) 9, type := 9, pos := "l02_lang.go:419", after := #[{ on := 5, ground := Ground.data }, { on := 11, ground := Ground.data }], guard := none }) (v := ?v18) rfl (by kernel_rfl) (by kernel_rfl) (by kernel_rfl) (fun _ _ _ h => h) (Or.inl ⟨by rfl, ?hy18⟩) (by assumption) ?rest18
     case hy18 => (intro w' hSw; (try dsimp only at hSw); go_simp; try with_reducible rfl)
     try simp only [Act.put, List.setIfInBounds_toArray, List.set_cons_zero, List.set_cons_succ]
     refine wpAnyH_take (i := 13) (oi := { dst := some 95, op := Op.binOp BinOp.add 9 (Operand.tmp 94) (Operand.const (Value.string { data := #[32] })) 9, type := 9, pos := "l02_lang.go:419", after := #[{ on := 12, ground := Ground.data }], guard := none }) (v := ?v19) rfl (by kernel_rfl) (by kernel_rfl) (by kernel_rfl) (fun _ _ _ h => h) (Or.inl ⟨by rfl, ?hy19⟩) (by assumption) ?rest19
     case hy19 => (intro w' hSw; (try dsimp only at hSw); go_simp; try with_reducible rfl)
     try simp only [Act.put, List.setIfInBounds_toArray, List.set_cons_zero, List.set_cons_succ]
     refine wpAnyH_take (i := 19) (oi := { dst := some 101, op := Op.binOp BinOp.add 9 (Operand.tmp 95) (Operand.tmp 100) 9, type := 9, pos := "l02_lang.go:419", after := #[{ on := 13, ground := Ground.data }, { on := 18, ground := Ground.data }], guard := none }) (v := ?v20) rfl (by kernel_rfl) (by kernel_rfl) (by kernel_rfl) (fun _ _ _ h => h) (Or.inl ⟨by rfl, ?hy20⟩) (by assumption) ?rest20
     case hy20 => (intro w' hSw; (try dsimp only at hSw); go_simp; try with_reducible rfl)
     try simp only [Act.put, List.setIfInBounds_toArray, List.set_cons_zero, List.set_cons_succ]
     refine wpAnyH_take (i := 20) (oi := { dst := some 2, op := Op.assign (Operand.tmp 101), type := 9, pos := "l02_lang.go:419", after := #[{ on := 19, ground := Ground.data }, { on := 18, ground := Ground.chain }, { on := 0, ground := Ground.phase }, { on := 1, ground := Ground.phase }, { on := 2, ground := Ground.phase }, { on := 3, ground := Ground.phase }, { on := 4, ground := Ground.phase }, { on := 5, ground := Ground.phase }, { on := 6, ground := Ground.phase }, { on := 7, ground := Ground.phase }, { on := 8, ground := Ground.phase }, { on := 9, ground := Ground.phase }, { on := 10, ground := Ground.phase }, { on := 11, ground := Ground.phase }, { on := 12, ground := Ground.phase }, { on := 13, ground := Ground.phase }, { on := 14, ground := Ground.phase }, { on := 15, ground := Ground.phase }, { on := 16, ground := Ground.phase }, { on := 17, ground := Ground.phase }, { on := 18, ground := Ground.phase }, { on := 19, ground := Ground.phase }], guard := none }) (v := ?v21) rfl (by kernel_rfl) (by kernel_rfl) (by kernel_rfl) (fun _ _ _ h => h) (Or.inl ⟨by rfl, ?hy21⟩) (by assumption) ?rest21
     case hy21 => (intro w' hSw; (try dsimp only at hSw); go_simp; try with_reducible rfl)
     try simp only [Act.put, List.setIfInBounds_toArray, List.set_cons_zero, List.set_cons_succ]
     refine wpAnyH_done (by kernel_rfl) ?_ _
     have BF := mkHid (below_step B0.out.drew Bl5)
     go_wp2
     go_ret
     exact ⟨rfl, BF.out⟩
    exact AllReadyH.nil
   exact AllReadyH.nil
  refine AllReadyH.cons (o := { dst := some 100, op := Op.call { callee := Callee.value (Operand.func 43), args := #[Operand.tmp 99], argTypes := #[38] }, type := 9, pos := "l02_lang.go:419", after := #[{ on := 17, ground := Ground.data }, { on := 4, ground := Ground.chain }], guard := none }) rfl (fun K hK => ?_) ?_
  ·go_simp
   refine (HY.out _ (below_step B0.out.drew Bl1)).mono ?_
   rintro e v7 ⟨rfl, hb7⟩
   have Bl7 := below_step Bl1 hb7
   clear hb7
   go_wp2_with fail
   refine hK.out _ _ ?_ (fun _ => ?_)
   ·exact ⟨(Bl7.cell (p := ⟨w.heap.size, 0, none⟩) l1).trans p0, (Bl7.cell (p := ⟨w.heap.size, 1, none⟩) l1).trans p1, (Bl7.cell (p := ⟨w.heap.size, 2, none⟩) l1).trans p2, (Bl7.cell (p := ⟨w.heap.size, 3, none⟩) l1).trans p3, (Bl7.cell (p := ⟨b, o, none⟩) l2).trans xq0, (Bl7.cell (p := ⟨b, o + 1, none⟩) l2).trans xq1, (Bl7.cell (p := ⟨b, o + 2, none⟩) l2).trans xq2, (Bl7.cell (p := ⟨b, o + 3, none⟩) l2).trans xq3, (Bl7.cell (p := ⟨b, o + 4, none⟩) l2).trans yq0, (Bl7.cell (p := ⟨b, o + 4 + 1, none⟩) l2).trans yq1, (Bl7.cell (p := ⟨b, o + 4 + 2, none⟩) l2).trans yq2, (Bl7.cell (p := ⟨b, o + 4 + 3, none⟩) l2).trans yq3⟩
   clear hK K
   try simp only [Act.put, List.setIfInBounds_toArray, List.set_cons_zero, List.set_cons_succ]
   refine wpAnyH_ready (rs := [6]) (by kernel_rfl) (by simp) ?_
   refine AllReadyH.cons (o := { dst := some 88, op := Op.buildSlice 61 6 #[(0, Operand.const (Value.string { data := #[60] })), (1, Operand.const (Value.string { data := #[60, 61] })), (2, Operand.const (Value.string { data := #[62] })), (3, Operand.const (Value.string { data := #[62, 61] })), (4, Operand.const (Value.string { data := #[61, 61] })), (5, Operand.const (Value.string { data := #[33, 61] }))], type := 61, pos := "l02_lang.go:419", after := #[], guard := none }) rfl (fun K hK => ?_) ?_
   ·go_simp
    have Bl8 := Bl7.alloc Bl7.size (.cells #[.string ⟨#[60]⟩, .string ⟨#[60, 61]⟩, .string ⟨#[62]⟩, .string ⟨#[62, 61]⟩, .string ⟨#[61, 61]⟩, .string ⟨#[33, 61]⟩] 9)
    have hc8 : (v7.alloc (.cells #[.string ⟨#[60]⟩, .string ⟨#[60, 61]⟩, .string ⟨#[62]⟩, .string ⟨#[62, 61]⟩, .string ⟨#[61, 61]⟩, .string ⟨#[33, 61]⟩] 9)).cell? ⟨v7.heap.size, i, none⟩ = some (.string G) := H6.out v7
    refine hK.out _ _ ?_ (fun _ => ?_)
    ·exact ⟨(Bl8.cell (p := ⟨w.heap.size, 0, none⟩) l1).trans p0, (Bl8.cell (p := ⟨w.heap.size, 1, none⟩) l1).trans p1, (Bl8.cell (p := ⟨w.heap.size, 2, none⟩) l1).trans p2, (Bl8.cell (p := ⟨w.heap.size, 3, none⟩) l1).trans p3, (Bl8.cell (p := ⟨b, o, none⟩) l2).trans xq0, (Bl8.cell (p := ⟨b, o + 1, none⟩) l2).trans xq1, (Bl8.cell (p := ⟨b, o + 2, none⟩) l2).trans xq2, (Bl8.cell (p := ⟨b, o + 3, none⟩) l2).trans xq3, (Bl8.cell (p := ⟨b, o + 4, none⟩) l2).trans yq0, (Bl8.cell (p := ⟨b, o + 4 + 1, none⟩) l2).trans yq1, (Bl8.cell (p := ⟨b, o + 4 + 2, none⟩) l2).trans yq2, (Bl8.cell (p := ⟨b, o + 4 + 3, none⟩) l2).trans yq3⟩
    clear hK K
    try simp only [Act.put, List.setIfInBounds_toArray, List.set_cons_zero, List.set_cons_succ]
    refine wpAnyH_take (i := 10) (oi := { dst := some 92, op := Op.indexAddr 61 (Operand.tmp 88) (Operand.tmp 91), type := 0, pos := "l02_lang.go:419", after := #[{ on := 6, ground := Ground.data }, { on := 9, ground := Ground.data }], guard := none }) (v := ?v22) rfl (by kernel_rfl) (by kernel_rfl) (by kernel_rfl) (fun _ _ _ h => h) (Or.inl ⟨by rfl, ?hy22⟩) (by assumption) ?rest22
    case hy22 => (intro w' hSw; (try dsimp only at hSw); go_simp; try with_reducible rfl)
    try simp only [Act.put, List.setIfInBounds_toArray, List.set_cons_zero, List.set_cons_succ]
    refine wpAnyH_ready (rs := [11]) (by kernel_rfl) (by simp) ?_
    refine AllReadyH.cons (o := { dst := some 93, op := Op.load 9 (Operand.tmp 92), type := 9, pos := "l02_lang.go:419", after := #[{ on := 10, ground := Ground.data }], guard := none }) rfl (fun K hK => ?_) ?_
    ·go_simp
     refine hK.out _ _ ?_ (fun _ => ?_)
     ·exact ⟨(Bl8.cell (p := ⟨w.heap.size, 0, none⟩) l1).trans p0, (Bl8.cell (p := ⟨w.heap.size, 1, none⟩) l1).trans p1, (Bl8.cell (p := ⟨w.heap.size, 2, none⟩) l1).trans p2, (Bl8.cell (p := ⟨w.heap.size, 3, none⟩) l1).trans p3, (Bl8.cell (p := ⟨b, o, none⟩) l2).trans xq0, (Bl8.cell (p := ⟨b, o + 1, none⟩) l2).trans xq1, (Bl8.cell (p := ⟨b, o + 2, none⟩) l2).trans xq2, (Bl8.cell (p := ⟨b, o + 3, none⟩) l2).trans xq3, (Bl8.cell (p := ⟨b, o + 4, none⟩) l2).trans yq0, (Bl8.cell (p := ⟨b, o + 4 + 1, none⟩) l2).trans yq1, (Bl8.cell (p := ⟨b, o + 4 + 2, none⟩) l2).trans yq2, (Bl8.cell (p := ⟨b, o + 4 + 3, none⟩) l2).trans yq3⟩
     clear hK K
     try simp only [Act.put, List.setIfInBounds_toArray, List.set_cons_zero, List.set_cons_succ]
     refine wpAnyH_take (i := 12) (oi := { dst := some 94, op := Op.binOp BinOp.add 9 (Operand.tmp 87) (Operand.tmp 93) 9, type := 9, pos := "l02_lang.go:419", after := #[{ on := 5, ground := Ground.data }, { on := 11, ground := Ground.data }], guard := none }) (v := ?v23) rfl (by kernel_rfl) (by kernel_rfl) (by kernel_rfl) (fun _ _ _ h => h) (Or.inl ⟨by rfl, ?hy23⟩) (by assumption) ?rest23
     case hy23 => (intro w' hSw; (try dsimp only at hSw); go_simp; try with_reducible rfl)
     try simp only [Act.put, List.setIfInBounds_toArray, List.set_cons_zero, List.set_cons_succ]
     refine wpAnyH_take (i := 13) (oi := { dst := some 95, op := Op.binOp BinOp.add 9 (Operand.tmp 94) (Operand.const (Value.string { data := #[32] })) 9, type := 9, pos := "l02_lang.go:419", after := #[{ on := 12, ground := Ground.data }], guard := none }) (v := ?v24) rfl (by kernel_rfl) (by kernel_rfl) (by kernel_rfl) (fun _ _ _ h => h) (Or.inl ⟨by rfl, ?hy24⟩) (by assumption) ?rest24
     case hy24 => (intro w' hSw; (try dsimp only at hSw); go_simp; try with_reducible rfl)
     try simp only [Act.put, List.setIfInBounds_toArray, List.set_cons_zero, List.set_cons_succ]
     refine wpAnyH_take (i := 19) (oi := { dst := some 101, op := Op.binOp BinOp.add 9 (Operand.tmp 95) (Operand.tmp 100) 9, type := 9, pos := "l02_lang.go:419", after := #[{ on := 13, ground := Ground.data }, { on := 18, ground := Ground.data }], guard := none }) (v := ?v25) rfl (by kernel_rfl) (by kernel_rfl) (by kernel_rfl) (fun _ _ _ h => h) (Or.inl ⟨by rfl, ?hy25⟩) (by assumption) ?rest25
     case hy25 => (intro w' hSw; (try dsimp only at hSw); go_simp; try with_reducible rfl)
     try simp only [Act.put, List.setIfInBounds_toArray, List.set_cons_zero, List.set_cons_succ]
     refine wpAnyH_take (i := 20) (oi := { dst := some 2, op := Op.assign (Operand.tmp 101), type := 9, pos := "l02_lang.go:419", after := #[{ on := 19, ground := Ground.data }, { on := 18, ground := Ground.chain }, { on := 0, ground := Ground.phase }, { on := 1, ground := Ground.phase }, { on := 2, ground := Ground.phase }, { on := 3, ground := Ground.phase }, { on := 4, ground := Ground.phase }, { on := 5, ground := Ground.phase }, { on := 6, ground := Ground.phase }, { on := 7, ground := Ground.phase }, { on := 8, ground := Ground.phase }, { on := 9, ground := Ground.phase }, { on := 10, ground := Ground.phase }, { on := 11, ground := Ground.phase }, { on := 12, ground := Ground.phase }, { on := 13, ground := Ground.phase }, { on := 14, ground := Ground.phase }, { on := 15, ground := Ground.phase }, { on := 16, ground := Ground.phase }, { on := 17, ground := Ground.phase }, { on := 18, ground := Ground.phase }, { on := 19, ground := Ground.phase }], guard := none }) (v := ?v26) rfl (by kernel_rfl) (by kernel_rfl) (by kernel_rfl) (fun _ _ _ h => h) (Or.inl ⟨by rfl, ?hy26⟩) (by assumption) ?rest26
     case hy26 => (intro w' hSw; (try dsimp only at hSw); go_simp; try with_reducible rfl)
     try simp only [Act.put, List.setIfInBounds_toArray, List.set_cons_zero, List.set_cons_succ]
     refine wpAnyH_done (by kernel_rfl) ?_ _
     have BF := mkHid (below_step B0.out.drew Bl8)
     go_wp2
     go_ret
     exact ⟨rfl, BF.out⟩
    exact AllReadyH.nil
   exact AllReadyH.nil
  exact AllReadyH.nil
 refine AllReadyH.cons (o := { dst := some 88, op := Op.buildSlice 61 6 #[(0, Operand.const (Value.string { data := #[60] })), (1, Operand.const (Value.string { data := #[60, 61] })), (2, Operand.const (Value.string { data := #[62] })), (3, Operand.const (Value.string { data := #[62, 61] })), (4, Operand.const (Value.string { data := #[61, 61] })), (5, Operand.const (Value.string { data := #[33, 61] }))], type := 61, pos := "l02_lang.go:419", after := #[], guard := none }) rfl (fun K hK => ?_) ?_
 ·go_simp
  have Bl10 := Bl0.alloc Bl0.size (.cells #[.string ⟨#[60]⟩, .string ⟨#[60, 61]⟩, .string ⟨#[62]⟩, .string ⟨#[62, 61]⟩, .string ⟨#[61, 61]⟩, .string ⟨#[33, 61]⟩] 9)
  have hc10 : (w1.drew.alloc (.cells #[.string ⟨#[60]⟩, .string ⟨#[60, 61]⟩, .string ⟨#[62]⟩, .string ⟨#[62, 61]⟩, .string ⟨#[61, 61]⟩, .string ⟨#[33, 61]⟩] 9)).cell? ⟨w1.heap.size, i, none⟩ = some (.string G) := H6.out w1.drew
  refine hK.out _ _ ?_ (fun _ => ?_)
  ·exact ⟨(Bl10.cell (p := ⟨w.heap.size, 0, none⟩) l1).trans p0, (Bl10.cell (p := ⟨w.heap.size, 1, none⟩) l1).trans p1, (Bl10.cell (p := ⟨w.heap.size, 2, none⟩) l1).trans p2, (Bl10.cell (p := ⟨w.heap.size, 3, none⟩) l1).trans p3, (Bl10.cell (p := ⟨b, o, none⟩) l2).trans xq0, (Bl10.cell (p := ⟨b, o + 1, none⟩) l2).trans xq1, (Bl10.cell (p := ⟨b, o + 2, none⟩) l2).trans xq2, (Bl10.cell (p := ⟨b, o + 3, none⟩) l2).trans xq3, (Bl10.cell (p := ⟨b, o + 4, none⟩) l2).trans yq0, (Bl10.cell (p := ⟨b, o + 4 + 1, none⟩) l2).trans yq1, (Bl10.cell (p := ⟨b, o + 4 + 2, none⟩) l2).trans yq2, (Bl10.cell (p := ⟨b, o + 4 + 3, none⟩) l2).trans yq3⟩
  clear hK K
  try simp only [Act.put, List.setIfInBounds_toArray, List.set_cons_zero, List.set_cons_succ]
  refine wpAnyH_take (i := 10) (oi := { dst := some 92, op := Op.indexAddr 61 (Operand.tmp 88) (Operand.tmp 91), type := 0, pos := "l02_lang.go:419", after := #[{ on := 6, ground := Ground.data }, { on := 9, ground := Ground.data }], guard := none }) (v := ?v27) rfl (by kernel_rfl) (by kernel_rfl) (by kernel_rfl) (fun _ _ _ h => h) (Or.inl ⟨by rfl, ?hy27⟩) (by assumption) ?rest27
  case hy27 => (intro w' hSw; (try dsimp only at hSw); go_simp; try with_reducible rfl)
  try simp only [Act.put, List.setIfInBounds_toArray, List.set_cons_zero, List.set_cons_succ]
  refine wpAnyH_ready (rs := [4, 11]) (by kernel_rfl) (by simp) ?_
  refine AllReadyH.cons (o := { dst := some 86, op := Op.call { callee := Callee.value (Operand.func 43), args := #[Operand.tmp 85], argTypes := #[38] }, type := 9, pos := "l02_lang.go:419", after := #[{ on := 3, ground := Ground.data }], guard := none }) rfl (fun K hK => ?_) ?_
  ·go_simp
   refine (HX.out _ (below_step B0.out.drew Bl10)).mono ?_
   rintro e v11 ⟨rfl, hb11⟩
   have Bl11 := below_step Bl10 hb11
   have hc11 := (hb11.cell (p := ⟨w1.heap.size, i, none⟩) (World.block_lt_of_cell? _ _ hc10)).trans hc10
   clear hb11
   go_wp2_with fail
   refine hK.out _ _ ?_ (fun _ => ?_)
   ·exact ⟨(Bl11.cell (p := ⟨w.heap.size, 0, none⟩) l1).trans p0, (Bl11.cell (p := ⟨w.heap.size, 1, none⟩) l1).trans p1, (Bl11.cell (p := ⟨w.heap.size, 2, none⟩) l1).trans p2, (Bl11.cell (p := ⟨w.heap.size, 3, none⟩) l1).trans p3, (Bl11.cell (p := ⟨b, o, none⟩) l2).trans xq0, (Bl11.cell (p := ⟨b, o + 1, none⟩) l2).trans xq1, (Bl11.cell (p := ⟨b, o + 2, none⟩) l2).trans xq2, (Bl11.cell (p := ⟨b, o + 3, none⟩) l2).trans xq3, (Bl11.cell (p := ⟨b, o + 4, none⟩) l2).trans yq0, (Bl11.cell (p := ⟨b, o + 4 + 1, none⟩) l2).trans yq1, (Bl11.cell (p := ⟨b, o + 4 + 2, none⟩) l2).trans yq2, (Bl11.cell (p := ⟨b, o + 4 + 3, none⟩) l2).trans yq3⟩
   clear hK K
   try simp only [Act.put, List.setIfInBounds_toArray, List.set_cons_zero, List.set_cons_succ]
   refine wpAnyH_take (i := 5) (oi := { dst := some 87, op := Op.binOp BinOp.add 9 (Operand.tmp 86) (Operand.const (Value.string { data := #[32] })) 9, type := 9, pos := "l02_lang.go:419", after := #[{ on := 4, ground := Ground.data }], guard := none }) (v := ?v28) rfl (by kernel_rfl) (by kernel_rfl) (by kernel_rfl) (fun _ _ _ h => h) (Or.inl ⟨by rfl, ?hy28⟩) (by assumption) ?rest28
   case hy28 => (intro w' hSw; (try dsimp only at hSw); go_simp; try with_reducible rfl)
   try simp only [Act.put, List.setIfInBounds_toArray, List.set_cons_zero, List.set_cons_succ]
   refine wpAnyH_ready (rs := [11, 18]) (by kernel_rfl) (by simp) ?_
   refine AllReadyH.cons (o := { dst := some 93, op := Op.load 9 (Operand.tmp 92), type := 9, pos := "l02_lang.go:419", after := #[{ on := 10, ground := Ground.data }], guard := none }) rfl (fun K hK => ?_) ?_
   ·go_simp
    refine hK.out _ _ ?_ (fun _ => ?_)
    ·exact ⟨(Bl11.cell (p := ⟨w.heap.size, 0, none⟩) l1).trans p0, (Bl11.cell (p := ⟨w.heap.size, 1, none⟩) l1).trans p1, (Bl11.cell (p := ⟨w.heap.size, 2, none⟩) l1).trans p2, (Bl11.cell (p := ⟨w.heap.size, 3, none⟩) l1).trans p3, (Bl11.cell (p := ⟨b, o, none⟩) l2).trans xq0, (Bl11.cell (p := ⟨b, o + 1, none⟩) l2).trans xq1, (Bl11.cell (p := ⟨b, o + 2, none⟩) l2).trans xq2, (Bl11.cell (p := ⟨b, o + 3, none⟩) l2).trans xq3, (Bl11.cell (p := ⟨b, o + 4, none⟩) l2).trans yq0, (Bl11.cell (p := ⟨b, o + 4 + 1, none⟩) l2).trans yq1, (Bl11.cell (p := ⟨b, o + 4 + 2, none⟩) l2).trans yq2, (Bl11.cell (p := ⟨b, o + 4 + 3, none⟩) l2).trans yq3⟩
    clear hK K
    try simp only [Act.put, List.setIfInBounds_toArray, List.set_cons_zero, List.set_cons_succ]
    refine wpAnyH_take (i := 12) (oi := { dst := some 94, op := Op.binOp BinOp.add 9 (Operand.tmp 87) (Operand.tmp 93) 9, type := 9, pos := "l02_lang.go:419", after := #[{ on := 5, ground := Ground.data }, { on := 11, ground := Ground.data }], guard := none }) (v := ?v29) rfl (by kernel_rfl) (by kernel_rfl) (by kernel_rfl) (fun _ _ _ h => h) (Or.inl ⟨by rfl, ?hy29⟩) (by assumption) ?rest29
    case hy29 => (intro w' hSw; (try dsimp only at hSw); go_simp; try with_reducible rfl)
    try simp only [Act.put, List.setIfInBounds_toArray, List.set_cons_zero, List.set_cons_succ]
    refine wpAnyH_take (i := 13) (oi := { dst := some 95, op := Op.binOp BinOp.add 9 (Operand.tmp 94) (Operand.const (Value.string { data := #[32] })) 9, type := 9, pos := "l02_lang.go:419", after := #[{ on := 12, ground := Ground.data }], guard := none }) (v := ?v30) rfl (by kernel_rfl) (by kernel_rfl) (by kernel_rfl) (fun _ _ _ h => h) (Or.inl ⟨by rfl, ?hy30⟩) (by assumption) ?rest30
    case hy30 => (intro w' hSw; (try dsimp only at hSw); go_simp; try with_reducible rfl)
    try simp only [Act.put, List.setIfInBounds_toArray, List.set_cons_zero, List.set_cons_succ]
    refine wpAnyH_ready (rs := [18]) (by kernel_rfl) (by simp) ?_
    refine AllReadyH.cons (o := { dst := some 100, op := Op.call { callee := Callee.value (Operand.func 43), args := #[Operand.tmp 99], argTypes := #[38] }, type := 9, pos := "l02_lang.go:419", after := #[{ on := 17, ground := Ground.data }, { on := 4, ground := Ground.chain }], guard := none }) rfl (fun K hK => ?_) ?_
    ·go_simp
     refine (HY.out _ (below_step B0.out.drew Bl11)).mono ?_
     rintro e v13 ⟨rfl, hb13⟩
     have Bl13 := below_step Bl11 hb13
     have hc13 := (hb13.cell (p := ⟨w1.heap.size, i, none⟩) (World.block_lt_of_cell? _ _ hc11)).trans hc11
     clear hb13
     go_wp2_with fail
     refine hK.out _ _ ?_ (fun _ => ?_)
     ·exact ⟨(Bl13.cell (p := ⟨w.heap.size, 0, none⟩) l1).trans p0, (Bl13.cell (p := ⟨w.heap.size, 1, none⟩) l1).trans p1, (Bl13.cell (p := ⟨w.heap.size, 2, none⟩) l1).trans p2, (Bl13.cell (p := ⟨w.heap.size, 3, none⟩) l1).trans p3, (Bl13.cell (p := ⟨b, o, none⟩) l2).trans xq0, (Bl13.cell (p := ⟨b, o + 1, none⟩) l2).trans xq1, (Bl13.cell (p := ⟨b, o + 2, none⟩) l2).trans xq2, (Bl13.cell (p := ⟨b, o + 3, none⟩) l2).trans xq3, (Bl13.cell (p := ⟨b, o + 4, none⟩) l2).trans yq0, (Bl13.cell (p := ⟨b, o + 4 + 1, none⟩) l2).trans yq1, (Bl13.cell (p := ⟨b, o + 4 + 2, none⟩) l2).trans yq2, (Bl13.cell (p := ⟨b, o + 4 + 3, none⟩) l2).trans yq3⟩
     clear hK K
     try simp only [Act.put, List.setIfInBounds_toArray, List.set_cons_zero, List.set_cons_succ]
     refine wpAnyH_take (i := 19) (oi := { dst := some 101, op := Op.binOp BinOp.add 9 (Operand.tmp 95) (Operand.tmp 100) 9, type := 9, pos := "l02_lang.go:419", after := #[{ on := 13, ground := Ground.data }, { on := 18, ground := Ground.data }], guard := none }) (v := ?v31) rfl (by kernel_rfl) (by kernel_rfl) (by kernel_rfl) (fun _ _ _ h => h) (Or.inl ⟨by rfl, ?hy31⟩) (by assumption) ?rest31
     case hy31 => (intro w' hSw; (try dsimp only at hSw); go_simp; try with_reducible rfl)
     try simp only [Act.put, List.setIfInBounds_toArray, List.set_cons_zero, List.set_cons_succ]
     refine wpAnyH_take (i := 20) (oi := { dst := some 2, op := Op.assign (Operand.tmp 101), type := 9, pos := "l02_lang.go:419", after := #[{ on := 19, ground := Ground.data }, { on := 18, ground := Ground.chain }, { on := 0, ground := Ground.phase }, { on := 1, ground := Ground.phase }, { on := 2, ground := Ground.phase }, { on := 3, ground := Ground.phase }, { on := 4, ground := Ground.phase }, { on := 5, ground := Ground.phase }, { on := 6, ground := Ground.phase }, { on := 7, ground := Ground.phase }, { on := 8, ground := Ground.phase }, { on := 9, ground := Ground.phase }, { on := 10, ground := Ground.phase }, { on := 11, ground := Ground.phase }, { on := 12, ground := Ground.phase }, { on := 13, ground := Ground.phase }, { on := 14, ground := Ground.phase }, { on := 15, ground := Ground.phase }, { on := 16, ground := Ground.phase }, { on := 17, ground := Ground.phase }, { on := 18, ground := Ground.phase }, { on := 19, ground := Ground.phase }], guard := none }) (v := ?v32) rfl (by kernel_rfl) (by kernel_rfl) (by kernel_rfl) (fun _ _ _ h => h) (Or.inl ⟨by rfl, ?hy32⟩) (by assumption) ?rest32
     case hy32 => (intro w' hSw; (try dsimp only at hSw); go_simp; try with_reducible rfl)
     try simp only [Act.put, List.setIfInBounds_toArray, List.set_cons_zero, List.set_cons_succ]
     refine wpAnyH_done (by kernel_rfl) ?_ _
     have BF := mkHid (below_step B0.out.drew Bl13)
     go_wp2
     go_ret
     exact ⟨rfl, BF.out⟩
    exact AllReadyH.nil
   refine AllReadyH.cons (o := { dst := some 100, op := Op.call { callee := Callee.value (Operand.func 43), args := #[Operand.tmp 99], argTypes := #[38] }, type := 9, pos := "l02_lang.go:419", after := #[{ on := 17, ground := Ground.data }, { on := 4, ground := Ground.chain }], guard := none }) rfl (fun K hK => ?_) ?_
   ·go_simp
    refine (HY.out _ (below_step B0.out.drew Bl11)).mono ?_
    rintro e v14 ⟨rfl, hb14⟩
    have Bl14 := below_step Bl11 hb14
    have hc14 := (hb14.cell (p := ⟨w1.heap.size, i, none⟩) (World.block_lt_of_cell? _ _ hc11)).trans hc11
    clear hb14
    go_wp2_with fail
    refine hK.out _ _ ?_ (fun _ => ?_)
    ·exact ⟨(Bl14.cell (p := ⟨w.heap.size, 0, none⟩) l1).trans p0, (Bl14.cell (p := ⟨w.heap.size, 1, none⟩) l1).trans p1, (Bl14.cell (p := ⟨w.heap.size, 2, none⟩) l1).trans p2, (Bl14.cell (p := ⟨w.heap.size, 3, none⟩) l1).trans p3, (Bl14.cell (p := ⟨b, o, none⟩) l2).trans xq0, (Bl14.cell (p := ⟨b, o + 1, none⟩) l2).trans xq1, (Bl14.cell (p := ⟨b, o + 2, none⟩) l2).trans xq2, (Bl14.cell (p := ⟨b, o + 3, none⟩) l2).trans xq3, (Bl14.cell (p := ⟨b, o + 4, none⟩) l2).trans yq0, (Bl14.cell (p := ⟨b, o + 4 + 1, none⟩) l2).trans yq1, (Bl14.cell (p := ⟨b, o + 4 + 2, none⟩) l2).trans yq2, (Bl14.cell (p := ⟨b, o + 4 + 3, none⟩) l2).trans yq3⟩
    clear hK K
    try simp only [Act.put, List.setIfInBounds_toArray, List.set_cons_zero, List.set_cons_succ]
    refine wpAnyH_ready (rs := [11]) (by kernel_rfl) (by simp) ?_
    refine AllReadyH.cons (o := { dst := some 93, op := Op.load 9 (Operand.tmp 92), type := 9, pos := "l02_lang.go:419", after := #[{ on := 10, ground := Ground.data }], guard := none }) rfl (fun K hK => ?_) ?_
    ·go_simp
     refine hK.out _ _ ?_ (fun _ => ?_)
     ·exact ⟨(Bl14.cell (p := ⟨w.heap.size, 0, none⟩) l1).trans p0, (Bl14.cell (p := ⟨w.heap.size, 1, none⟩) l1).trans p1, (Bl14.cell (p := ⟨w.heap.size, 2, none⟩) l1).trans p2, (Bl14.cell (p := ⟨w.heap.size, 3, none⟩) l1).trans p3, (Bl14.cell (p := ⟨b, o, none⟩) l2).trans xq0, (Bl14.cell (p := ⟨b, o + 1, none⟩) l2).trans xq1, (Bl14.cell (p := ⟨b, o + 2, none⟩) l2).trans xq2, (Bl14.cell (p := ⟨b, o + 3, none⟩) l2).trans xq3, (Bl14.cell (p := ⟨b, o + 4, none⟩) l2).trans yq0, (Bl14.cell (p := ⟨b, o + 4 + 1, none⟩) l2).trans yq1, (Bl14.cell (p := ⟨b, o + 4 + 2, none⟩) l2).trans yq2, (Bl14.cell (p := ⟨b, o + 4 + 3, none⟩) l2).trans yq3⟩
     clear hK K
     try simp only [Act.put, List.setIfInBounds_toArray, List.set_cons_zero, List.set_cons_succ]
     refine wpAnyH_take (i := 12) (oi := { dst := some 94, op := Op.binOp BinOp.add 9 (Operand.tmp 87) (Operand.tmp 93) 9, type := 9, pos := "l02_lang.go:419", after := #[{ on := 5, ground := Ground.data }, { on := 11, ground := Ground.data }], guard := none }) (v := ?v33) rfl (by kernel_rfl) (by kernel_rfl) (by kernel_rfl) (fun _ _ _ h => h) (Or.inl ⟨by rfl, ?hy33⟩) (by assumption) ?rest33
     case hy33 => (intro w' hSw; (try dsimp only at hSw); go_simp; try with_reducible rfl)
     try simp only [Act.put, List.setIfInBounds_toArray, List.set_cons_zero, List.set_cons_succ]
     refine wpAnyH_take (i := 13) (oi := { dst := some 95, op := Op.binOp BinOp.add 9 (Operand.tmp 94) (Operand.const (Value.string { data := #[32] })) 9, type := 9, pos := "l02_lang.go:419", after := #[{ on := 12, ground := Ground.data }], guard := none }) (v := ?v34) rfl (by kernel_rfl) (by kernel_rfl) (by kernel_rfl) (fun _ _ _ h => h) (Or.inl ⟨by rfl, ?hy34⟩) (by assumption) ?rest34
     case hy34 => (intro w' hSw; (try dsimp only at hSw); go_simp; try with_reducible rfl)
     try simp only [Act.put, List.setIfInBounds_toArray, List.set_cons_zero, List.set_cons_succ]
     refine wpAnyH_take (i := 19) (oi := { dst := some 101, op := Op.binOp BinOp.add 9 (Operand.tmp 95) (Operand.tmp 100) 9, type := 9, pos := "l02_lang.go:419", after := #[{ on := 13, ground := Ground.data }, { on := 18, ground := Ground.data }], guard := none }) (v := ?v35) rfl (by kernel_rfl) (by kernel_rfl) (by kernel_rfl) (fun _ _ _ h => h) (Or.inl ⟨by rfl, ?hy35⟩) (by assumption) ?rest35
     case hy35 => (intro w' hSw; (try dsimp only at hSw); go_simp; try with_reducible rfl)
     try simp only [Act.put, List.setIfInBounds_toArray, List.set_cons_zero, List.set_cons_succ]
     refine wpAnyH_take (i := 20) (oi := { dst := some 2, op := Op.assign (Operand.tmp 101), type := 9, pos := "l02_lang.go:419", after := #[{ on := 19, ground := Ground.data }, { on := 18, ground := Ground.chain }, { on := 0, ground := Ground.phase }, { on := 1, ground := Ground.phase }, { on := 2, ground := Ground.phase }, { on := 3, ground := Ground.phase }, { on := 4, ground := Ground.phase }, { on := 5, ground := Ground.phase }, { on := 6, ground := Ground.phase }, { on := 7, ground := Ground.phase }, { on := 8, ground := Ground.phase }, { on := 9, ground := Ground.phase }, { on := 10, ground := Ground.phase }, { on := 11, ground := Ground.phase }, { on := 12, ground := Ground.phase }, { on := 13, ground := Ground.phase }, { on := 14, ground := Ground.phase }, { on := 15, ground := Ground.phase }, { on := 16, ground := Ground.phase }, { on := 17, ground := Ground.phase }, { on := 18, ground := Ground.phase }, { on := 19, ground := Ground.phase }], guard := none }) (v := ?v36) rfl (by kernel_rfl) (by kernel_rfl) (by kernel_rfl) (fun _ _ _ h => h) (Or.inl ⟨by rfl, ?hy36⟩) (by assumption) ?rest36
     case hy36 => (intro w' hSw; (try dsimp only at hSw); go_simp; try with_reducible rfl)
     try simp only [Act.put, List.setIfInBounds_toArray, List.set_cons_zero, List.set_cons_succ]
     refine wpAnyH_done (by kernel_rfl) ?_ _
     have BF := mkHid (below_step B0.out.drew Bl14)
     go_wp2
     go_ret
     exact ⟨rfl, BF.out⟩
    exact AllReadyH.nil
   exact AllReadyH.nil
  refine AllReadyH.cons (o := { dst := some 93, op := Op.load 9 (Operand.tmp 92), type := 9, pos := "l02_lang.go:419", after := #[{ on := 10, ground := Ground.data }], guard := none }) rfl (fun K hK => ?_) ?_
  ·go_simp
   refine hK.out _ _ ?_ (fun _ => ?_)
   ·exact ⟨(Bl10.cell (p := ⟨w.heap.size, 0, none⟩) l1).trans p0, (Bl10.cell (p := ⟨w.heap.size, 1, none⟩) l1).trans p1, (Bl10.cell (p := ⟨w.heap.size, 2, none⟩) l1).trans p2, (Bl10.cell (p := ⟨w.heap.size, 3, none⟩) l1).trans p3, (Bl10.cell (p := ⟨b, o, none⟩) l2).trans xq0, (Bl10.cell (p := ⟨b, o + 1, none⟩) l2).trans xq1, (Bl10.cell (p := ⟨b, o + 2, none⟩) l2).trans xq2, (Bl10.cell (p := ⟨b, o + 3, none⟩) l2).trans xq3, (Bl10.cell (p := ⟨b, o + 4, none⟩) l2).trans yq0, (Bl10.cell (p := ⟨b, o + 4 + 1, none⟩) l2).trans yq1, (Bl10.cell (p := ⟨b, o + 4 + 2, none⟩) l2).trans yq2, (Bl10.cell (p := ⟨b, o + 4 + 3, none⟩) l2).trans yq3⟩
   clear hK K
   try simp only [Act.put, List.setIfInBounds_toArray, List.set_cons_zero, List.set_cons_succ]
   refine wpAnyH_ready (rs := [4]) (by kernel_rfl) (by simp) ?_
   refine AllReadyH.cons (o := { dst := some 86, op := Op.call { callee := Callee.value (Operand.func 43), args := #[Operand.tmp 85], argTypes := #[38] }, type := 9, pos := "l02_lang.go:419", after := #[{ on := 3, ground := Ground.data }], guard := none }) rfl (fun K hK => ?_) ?_
   ·go_simp
    refine (HX.out _ (below_step B0.out.drew Bl10)).mono ?_
    rintro e v17 ⟨rfl, hb17⟩
    have Bl17 := below_step Bl10 hb17
    have hc17 := (hb17.cell (p := ⟨w1.heap.size, i, none⟩) (World.block_lt_of_cell? _ _ hc10)).trans hc10
    clear hb17
    go_wp2_with fail
    refine hK.out _ _ ?_ (fun _ => ?_)
    ·exact ⟨(Bl17.cell (p := ⟨w.heap.size, 0, none⟩) l1).trans p0, (Bl17.cell (p := ⟨w.heap.size, 1, none⟩) l1).trans p1, (Bl17.cell (p := ⟨w.heap.size, 2, none⟩) l1).trans p2, (Bl17.cell (p := ⟨w.heap.size, 3, none⟩) l1).trans p3, (Bl17.cell (p := ⟨b, o, none⟩) l2).trans xq0, (Bl17.cell (p := ⟨b, o + 1, none⟩) l2).trans xq1, (Bl17.cell (p := ⟨b, o + 2, none⟩) l2).trans xq2, (Bl17.cell (p := ⟨b, o + 3, none⟩) l2).trans xq3, (Bl17.cell (p := ⟨b, o + 4, none⟩) l2).trans yq0, (Bl17.cell (p := ⟨b, o + 4 + 1, none⟩) l2).trans yq1, (Bl17.cell (p := ⟨b, o + 4 + 2, none⟩) l2).trans yq2, (Bl17.cell (p := ⟨b, o + 4 + 3, none⟩) l2).trans yq3⟩
    clear hK K
    try simp only [Act.put, List.setIfInBounds_toArray, List.set_cons_zero, List.set_cons_succ]
    refine wpAnyH_take (i := 5) (oi := { dst := some 87, op := Op.binOp BinOp.add 9 (Operand.tmp 86) (Operand.const (Value.string { data := #[32] })) 9, type := 9, pos := "l02_lang.go:419", after := #[{ on := 4, ground := Ground.data }], guard := none }) (v := ?v37) rfl (by kernel_rfl) (by kernel_rfl) (by kernel_rfl) (fun _ _ _ h => h) (Or.inl ⟨by rfl, ?hy37⟩) (by assumption) ?rest37
    case hy37 => (intro w' hSw; (try dsimp only at hSw); go_simp; try with_reducible rfl)
    try simp only [Act.put, List.setIfInBounds_toArray, List.set_cons_zero, List.set_cons_succ]
    refine wpAnyH_take (i := 12) (oi := { dst := some 94, op := Op.binOp BinOp.add 9 (Operand.tmp 87) (Operand.tmp 93) 9, type := 9, pos := "l02_lang.go:419", after := #[{ on := 5, ground := Ground.data }, { on := 11, ground := Ground.data }], guard := none }) (v := ?v38) rfl (by kernel_rfl) (by kernel_rfl) (by kernel_rfl) (fun _ _ _ h => h) (Or.inl ⟨by rfl, ?hy38⟩) (by assumption) ?rest38
    case hy38 => (intro w' hSw; (try dsimp only at hSw); go_simp; try with_reducible rfl)
    try simp only [Act.put, List.setIfInBounds_toArray, List.set_cons_zero, List.set_cons_succ]
    refine wpAnyH_take (i := 13) (oi := { dst := some 95, op := Op.binOp BinOp.add 9 (Operand.tmp 94) (Operand.const (Value.string { data := #[32] })) 9, type := 9, pos := "l02_lang.go:419", after := #[{ on := 12, ground := Ground.data }], guard := none }) (v := ?v39) rfl (by kernel_rfl) (by kernel_rfl) (by kernel_rfl) (fun _ _ _ h => h) (Or.inl ⟨by rfl, ?hy39⟩) (by assumption) ?rest39
    case hy39 => (intro w' hSw; (try dsimp only at hSw); go_simp; try with_reducible rfl)
    try simp only [Act.put, List.setIfInBounds_toArray, List.set_cons_zero, List.set_cons_succ]
    refine wpAnyH_ready (rs := [18]) (by kernel_rfl) (by simp) ?_
    refine AllReadyH.cons (o := { dst := some 100, op := Op.call { callee := Callee.value (Operand.func 43), args := #[Operand.tmp 99], argTypes := #[38] }, type := 9, pos := "l02_lang.go:419", after := #[{ on := 17, ground := Ground.data }, { on := 4, ground := Ground.chain }], guard := none }) rfl (fun K hK => ?_) ?_
    ·go_simp
     refine (HY.out _ (below_step B0.out.drew Bl17)).mono ?_
     rintro e v18 ⟨rfl, hb18⟩
     have Bl18 := below_step Bl17 hb18
     have hc18 := (hb18.cell (p := ⟨w1.heap.size, i, none⟩) (World.block_lt_of_cell? _ _ hc17)).trans hc17
     clear hb18
     go_wp2_with fail
     refine hK.out _ _ ?_ (fun _ => ?_)
     ·exact ⟨(Bl18.cell (p := ⟨w.heap.size, 0, none⟩) l1).trans p0, (Bl18.cell (p := ⟨w.heap.size, 1, none⟩) l1).trans p1, (Bl18.cell (p := ⟨w.heap.size, 2, none⟩) l1).trans p2, (Bl18.cell (p := ⟨w.heap.size, 3, none⟩) l1).trans p3, (Bl18.cell (p := ⟨b, o, none⟩) l2).trans xq0, (Bl18.cell (p := ⟨b, o + 1, none⟩) l2).trans xq1, (Bl18.cell (p := ⟨b, o + 2, none⟩) l2).trans xq2, (Bl18.cell (p := ⟨b, o + 3, none⟩) l2).trans xq3, (Bl18.cell (p := ⟨b, o + 4, none⟩) l2).trans yq0, (Bl18.cell (p := ⟨b, o + 4 + 1, none⟩) l2).trans yq1, (Bl18.cell (p := ⟨b, o + 4 + 2, none⟩) l2).trans yq2, (Bl18.cell (p := ⟨b, o + 4 + 3, none⟩) l2).trans yq3⟩
     clear hK K
     try simp only [Act.put, List.setIfInBounds_toArray, List.set_cons_zero, List.set_cons_succ]
     refine wpAnyH_take (i := 19) (oi := { dst := some 101, op := Op.binOp BinOp.add 9 (Operand.tmp 95) (Operand.tmp 100) 9, type := 9, pos := "l02_lang.go:419", after := #[{ on := 13, ground := Ground.data }, { on := 18, ground := Ground.data }], guard := none }) (v := ?v40) rfl (by kernel_rfl) (by kernel_rfl) (by kernel_rfl) (fun _ _ _ h => h) (Or.inl ⟨by rfl, ?hy40⟩) (by assumption) ?rest40
     case hy40 => (intro w' hSw; (try dsimp only at hSw); go_simp; try with_reducible rfl)
     try simp only [Act.put, List.setIfInBounds_toArray, List.set_cons_zero, List.set_cons_succ]
     refine wpAnyH_take (i := 20) (oi := { dst := some 2, op := Op.assign (Operand.tmp 101), type := 9, pos := "l02_lang.go:419", after := #[{ on := 19, ground := Ground.data }, { on := 18, ground := Ground.chain }, { on := 0, ground := Ground.phase }, { on := 1, ground := Ground.phase }, { on := 2, ground := Ground.phase }, { on := 3, ground := Ground.phase }, { on := 4, ground := Ground.phase }, { on := 5, ground := Ground.phase }, { on := 6, ground := Ground.phase }, { on := 7, ground := Ground.phase }, { on := 8, ground := Ground.phase }, { on := 9, ground := Ground.phase }, { on := 10, ground := Ground.phase }, { on := 11, ground := Ground.phase }, { on := 12, ground := Ground.phase }, { on := 13, ground := Ground.phase }, { on := 14, ground := Ground.phase }, { on := 15, ground := Ground.phase }, { on := 16, ground := Ground.phase }, { on := 17, ground := Ground.phase }, { on := 18, ground := Ground.phase }, { on := 19, ground := Ground.phase }], guard := none }) (v := ?v41) rfl (by kernel_rfl) (by kernel_rfl) (by kernel_rfl) (fun _ _ _ h => h) (Or.inl ⟨by rfl, ?hy41⟩) (by assumption) ?rest41
     case hy41 => (intro w' hSw; (try dsimp only at hSw); go_simp; try with_reducible rfl)
     try simp only [Act.put, List.setIfInBounds_toArray, List.set_cons_zero, List.set_cons_succ]
     refine wpAnyH_done (by kernel_rfl) ?_ _
     have BF := mkHid (below_step B0.out.drew Bl18)
     go_wp2
     go_ret
     exact ⟨rfl, BF.out⟩
    exact AllReadyH.nil
   exact AllReadyH.nil
  exact AllReadyH.nil
 exact AllReadyH.nil

end Go.Proofs.YtedfnadgmhjojaaGreatDoor
