/-
  CONTRACTS of finding a term: l10Find, l10In, slices.Index, Contains, Equal.
  CONTRACTS of slices.Equal at terms and of l10In.
  CONTRACTS of isLength, l10Size and of both SegTops.
  CONTRACTS of the law's eqValS.
-/
import Derived.Test.YthfiblldccnjcaaGreatDoorSb
import Derived.Test.YthfiblldccnjcaaGreatDoorMm
namespace Go.Proofs.YthfiblldccnjcaaGreatDoor
open Go.RowKit

theorem eql_sym (w : World) (a b c d : Int) : (Go.binOp .eql 61 (.agg #[.int .i64 a, .int .i64 b]) (.agg #[.int .i64 c, .int .i64 d])).run Tryz.prog w = .ok (.bool (eqB a b c d)) w := by
  have u3 := Tryz.underlying3
  have a3 := Tryz.isAgg3
  have z3 := Tryz.sizeOf3
  have hS : Tryz.prog.underlying 61 = some (.struct (Tryz.prog.fieldsOf 61)) := by kernel_rfl
  have hp : Tryz.prog.stoodInHeld 61 = false := by kernel_rfl
  rw [run_eql_struct, show (10000 : Nat) = 9999 + 1 from rfl, run_equalIn_agg w 9999 61 _ _ hS hp]
  simp only [Program.fieldsOf, Tryz.underlying61]
  go_simp
  unfold eqB
  by_cases h1 : a = c <;> by_cases h2 : b = d <;> simp [h1, h2]
theorem eqB_y (x y : Y) : eqB x.1 x.2 y.1 y.2 = decide (x = y) := by
  unfold eqB
  obtain ⟨a, b⟩ := x
  obtain ⟨c, d⟩ := y
  rw [decide_eq_decide]
  simp
theorem mem_take_succ {l : List Y} {k : Nat} {x t : Y} (hx : l[k]? = some x) (h : t ∉ l.take k) (hn : x ≠ t) : t ∉ l.take (k + 1) := by
  rw [List.take_add_one, hx]
  simp [h]
  exact fun e => hn e.symm
set_option maxRecDepth 100000 in
set_option maxHeartbeats 1600000 in
theorem l10Find_any (l : List Y) (a : Option Addr) (c : Nat) (t : Y) (w : World) (hn : l.length ≤ maxLen) (hl : At eY w a l) :
    Calls Tryz.prog 55 #[.slice a l.length c, .agg #[.int .i64 t.1, .int .i64 t.2]] w fun e w' => Below w.heap.size w w' ∧ ∃ r : Int, e = .returned (.int .i64 r) ∧ (0 ≤ r ↔ t ∈ l) := by
  unfold maxLen at hn
  have hEq := eql_sym
  obtain ⟨w0, hw0⟩ : ∃ x : World, w.alloc (.cells #[.int .i64 t.1, .int .i64 t.2] 61) = x := ⟨_, rfl⟩
  obtain ⟨X, hX⟩ : ∃ x, w.heap.size = x := ⟨_, rfl⟩
  have HX := mkHid hX
  have HB : Hid (Below w.heap.size w w0) := mkHid (by rw [← hw0]; exact bl_alloc (Below.refl _ _) _)
  have P0 : Hid (Box w0 X t.1 t.2) := mkHid (by rw [← hw0, ← hX]; exact Box.new' _ _ _ _)
  have HL := mkHid (hl.below HB.out)
  clear hl
  go_enter Tryz.func55, Tryz.ntmps55
  go_wp2
  clear hw0 hX
  go_loopg [5] l.length (fun g s5 wr => ∃ (k : Nat), k ≤ l.length ∧ s5 = .int .i64 k ∧ l.length - k ≤ g ∧ t ∉ l.take k ∧ Below w0.heap.size w0 wr)
  case atStart => exact ⟨0, Nat.zero_le _, rfl, by omega, by simp, Below.refl _ _⟩
  case round =>
    obtain ⟨k, hk, rfl, hgk, hnot, hbel⟩ := hrel
    have HN := mkHid hnot
    have HB1 := mkHid hbel
    clear hnot
    by_cases hlt : k < l.length
    · obtain ⟨x, hx⟩ : ∃ x, l[k]? = some x := ⟨_, List.getElem?_eq_getElem hlt⟩
      obtain ⟨b, off, rfl, _, hq⟩ := (HL.out.below hbel).cons (by omega)
      obtain ⟨c0, c1⟩ := get_y hq hx
      obtain ⟨q0, q1, _, _⟩ := P0.out.below hbel
      have HX := mkHid hx
      clear hq hbel hx
      have i0 : (0 : Int) ≤ (k : Int) := by omega
      have i1 : (k : Int) < (l.length : Int) := by omega
      by_cases he : x = t
      · have he2 : eqB x.1 x.2 t.1 t.2 = true := by rw [eqB_y]; exact decide_eq_true he
        have HE := mkHid he
        clear he
        go_wp2
        go_quiet (fail)
        go_wp2
        go_ret
        refine ⟨below_step HB.out ⟨HB1.out.os, HB1.out.tape, HB1.out.output, HB1.out.size, HB1.out.block⟩, k, rfl, ⟨fun _ => ?_, fun _ => by omega⟩⟩
        rw [← HE.out]
        exact List.mem_of_getElem? HX.out
      · have he2 : eqB x.1 x.2 t.1 t.2 = false := by rw [eqB_y]; exact decide_eq_false he
        have HE := mkHid (mem_take_succ HX.out HN.out he)
        clear he
        go_wp2
        go_quiet (fail)
        go_wp2
        go_roundg (l.length - (k + 1))
        case measure => omega
        case rel => exact ⟨k + 1, by omega, by go_num, Nat.le_refl _, HE.out, ⟨HB1.out.os, HB1.out.tape, HB1.out.output, HB1.out.size, HB1.out.block⟩⟩
    · have e : k = l.length := by omega
      subst e
      have hnot := HN.out
      rw [List.take_length] at hnot
      have HN := mkHid hnot
      clear hnot hbel
      go_wp2
      go_ret
      exact ⟨below_step HB.out HB1.out, -1, rfl, ⟨fun h => absurd h (by omega), fun h => absurd h HN.out⟩⟩
set_option maxRecDepth 100000 in
set_option maxHeartbeats 1600000 in
theorem index_any (l : List Y) (a : Option Addr) (c : Nat) (t : Y) (w : World) (hn : l.length ≤ maxLen) (hl : At eY w a l) :
    Calls Tryz.prog 64 #[.slice a l.length c, .agg #[.int .i64 t.1, .int .i64 t.2]] w fun e w' => Below w.heap.size w w' ∧ ∃ r : Int, e = .returned (.int .i64 r) ∧ (0 ≤ r ↔ t ∈ l) := by
  unfold maxLen at hn
  have hEq := eql_sym
  obtain ⟨w0, hw0⟩ : ∃ x : World, w.alloc (.cells #[.int .i64 t.1, .int .i64 t.2] 61) = x := ⟨_, rfl⟩
  obtain ⟨X, hX⟩ : ∃ x, w.heap.size = x := ⟨_, rfl⟩
  have HX := mkHid hX
  have HB : Hid (Below w.heap.size w w0) := mkHid (by rw [← hw0]; exact bl_alloc (Below.refl _ _) _)
  have P0 : Hid (Box w0 X t.1 t.2) := mkHid (by rw [← hw0, ← hX]; exact Box.new' _ _ _ _)
  have HL := mkHid (hl.below HB.out)
  clear hl
  go_enter Tryz.func64, Tryz.ntmps64
  go_wp2
  clear hw0 hX
  go_loopg [8, 5] l.length (fun g s8 s5 wr => ∃ (k : Nat), k ≤ l.length ∧ s8 = .int .i64 k ∧ l.length - k ≤ g ∧ t ∉ l.take k ∧ Below w0.heap.size w0 wr)
  case atStart => exact ⟨0, Nat.zero_le _, rfl, by omega, by simp, Below.refl _ _⟩
  case round =>
    obtain ⟨k, hk, rfl, hgk, hnot, hbel⟩ := hrel
    have HN := mkHid hnot
    have HB1 := mkHid hbel
    clear hnot
    by_cases hlt : k < l.length
    · obtain ⟨x, hx⟩ : ∃ x, l[k]? = some x := ⟨_, List.getElem?_eq_getElem hlt⟩
      obtain ⟨b, off, rfl, _, hq⟩ := (HL.out.below hbel).cons (by omega)
      obtain ⟨c0, c1⟩ := get_y hq hx
      obtain ⟨q0, q1, _, _⟩ := P0.out.below hbel
      have HX := mkHid hx
      clear hq hbel hx
      have i0 : (0 : Int) ≤ (k : Int) := by omega
      have i1 : (k : Int) < (l.length : Int) := by omega
      by_cases he : x = t
      · have he2 : eqB t.1 t.2 x.1 x.2 = true := by rw [eqB_y]; exact decide_eq_true he.symm
        have HE := mkHid he
        clear he
        go_wp2
        go_quiet (fail)
        go_wp2
        go_ret
        refine ⟨below_step HB.out ⟨HB1.out.os, HB1.out.tape, HB1.out.output, HB1.out.size, HB1.out.block⟩, k, rfl, ⟨fun _ => ?_, fun _ => by omega⟩⟩
        rw [← HE.out]
        exact List.mem_of_getElem? HX.out
      · have he2 : eqB t.1 t.2 x.1 x.2 = false := by rw [eqB_y]; exact decide_eq_false (fun e => he e.symm)
        have HE := mkHid (mem_take_succ HX.out HN.out he)
        clear he
        go_wp2
        go_quiet (fail)
        go_wp2
        go_roundg (l.length - (k + 1))
        case measure => omega
        case rel => exact ⟨k + 1, by omega, by go_num, Nat.le_refl _, HE.out, ⟨HB1.out.os, HB1.out.tape, HB1.out.output, HB1.out.size, HB1.out.block⟩⟩
    · have e : k = l.length := by omega
      subst e
      have hnot := HN.out
      rw [List.take_length] at hnot
      have HN := mkHid hnot
      clear hnot hbel
      go_wp2
      go_ret
      exact ⟨below_step HB.out HB1.out, -1, rfl, ⟨fun h => absurd h (by omega), fun h => absurd h HN.out⟩⟩
set_option maxRecDepth 100000 in
set_option maxHeartbeats 1600000 in
theorem contains_any (l : List Y) (a : Option Addr) (c : Nat) (t : Y) (w : World) (hn : l.length ≤ maxLen) (hl : At eY w a l) :
    Calls Tryz.prog 43 #[.slice a l.length c, .agg #[.int .i64 t.1, .int .i64 t.2]] w fun e w' => e = .returned (.bool (decide (t ∈ l))) ∧ Below w.heap.size w w' := by
  obtain ⟨d, hd⟩ : ∃ d, decide (t ∈ l) = d := ⟨_, rfl⟩
  have HD := mkHid hd
  rw [hd]
  clear hd
  obtain ⟨w0, hw0⟩ : ∃ x : World, w.alloc (.cells #[.int .i64 t.1, .int .i64 t.2] 61) = x := ⟨_, rfl⟩
  obtain ⟨X, hX⟩ : ∃ x, w.heap.size = x := ⟨_, rfl⟩
  have HB : Hid (Below w.heap.size w w0) := mkHid (by rw [← hw0]; exact bl_alloc (Below.refl _ _) _)
  have P0 : Hid (Box w0 X t.1 t.2) := mkHid (by rw [← hw0, ← hX]; exact Box.new' _ _ _ _)
  obtain ⟨q0, q1, _, _⟩ := P0.out
  go_enter Tryz.func43, Tryz.ntmps43
  go_wp2_with fail
  clear hw0 hX q0 q1
  refine (index_any l a c t _ hn (hl.below HB.out)).mono ?_
  rintro e w1 ⟨hb, r, rfl, hr⟩
  have HB1 := mkHid (below_step HB.out hb)
  have HR : Hid (decide (0 ≤ r) = d) := mkHid (by rw [← HD.out]; exact decide_eq_decide.2 hr)
  clear hb hr
  go_wp2
  go_ret
  exact ⟨ret_bool HR.out, HB1.out⟩
theorem neq_sym (w : World) (a b c d : Int) : (Go.binOp .neq 61 (.agg #[.int .i64 a, .int .i64 b]) (.agg #[.int .i64 c, .int .i64 d])).run Tryz.prog w = .ok (.bool (!eqB a b c d)) w := by
  have u3 := Tryz.underlying3
  have a3 := Tryz.isAgg3
  have z3 := Tryz.sizeOf3
  have hS : Tryz.prog.underlying 61 = some (.struct (Tryz.prog.fieldsOf 61)) := by kernel_rfl
  have hp : Tryz.prog.stoodInHeld 61 = false := by kernel_rfl
  rw [run_neq_struct, show (10000 : Nat) = 9999 + 1 from rfl, run_equalIn_agg w 9999 61 _ _ hS hp]
  simp only [Program.fieldsOf, Tryz.underlying61]
  go_simp
  unfold eqB
  by_cases h1 : a = c <;> by_cases h2 : b = d <;> simp [h1, h2]
end Go.Proofs.YthfiblldccnjcaaGreatDoor
namespace Go.Proofs.YthfiblldccnjcaaGreatDoor
open Go.RowKit

theorem take_eq_succ {l m : List Y} {k : Nat} {x y : Y} (hx : l[k]? = some x) (hy : m[k]? = some y) (h : l.take k = m.take k) (e : x = y) : l.take (k + 1) = m.take (k + 1) := by
  rw [List.take_add_one, List.take_add_one, hx, hy, h, e]
set_option maxRecDepth 100000 in
set_option maxHeartbeats 1600000 in
theorem equal_same (l m : List Y) (a a' : Option Addr) (c c' : Nat) (w : World) (hlen : l.length = m.length) (hn : l.length ≤ maxLen) (hl : At eY w a l) (hm : At eY w a' m) :
    Calls Tryz.prog 83 #[.slice a l.length c, .slice a' m.length c'] w fun e w' => Below w.heap.size w w' ∧ ∃ r : Bool, e = .returned (.bool r) ∧ (r = true ↔ l = m) := by
  unfold maxLen at hn
  have hNe := neq_sym
  have HL := mkHid hl
  have HM := mkHid hm
  have HE := mkHid hlen
  rw [← hlen]
  clear hl hm hlen
  go_enter Tryz.func83, Tryz.ntmps83
  go_wp2
  go_loopg [13, 5] l.length (fun g s13 s5 wr => ∃ (k : Nat), k ≤ l.length ∧ s13 = .int .i64 k ∧ l.length - k ≤ g ∧ l.take k = m.take k ∧ Below w.heap.size w wr)
  case atStart => exact ⟨0, Nat.zero_le _, rfl, by omega, by simp, Below.refl _ _⟩
  case round =>
    obtain ⟨k, hk, rfl, hgk, htk, hbel⟩ := hrel
    have HT := mkHid htk
    have HB1 := mkHid hbel
    clear htk
    by_cases hlt : k < l.length
    · obtain ⟨x, hx⟩ : ∃ x, l[k]? = some x := ⟨_, List.getElem?_eq_getElem hlt⟩
      obtain ⟨y, hy⟩ : ∃ x, m[k]? = some x := ⟨_, List.getElem?_eq_getElem (by have := HE.out; omega)⟩
      obtain ⟨b, off, rfl, _, hq⟩ := (HL.out.below hbel).cons (by omega)
      obtain ⟨b', off', rfl, _, hq'⟩ := (HM.out.below hbel).cons (by have := HE.out; omega)
      obtain ⟨c0, c1⟩ := get_y hq hx
      obtain ⟨d0, d1⟩ := get_y hq' hy
      have HX := mkHid hx
      have HY := mkHid hy
      clear hq hq' hbel hx hy
      have i0 : (0 : Int) ≤ (k : Int) := by omega
      have i1 : (k : Int) < (l.length : Int) := by omega
      by_cases he : x = y
      · have he2 : eqB x.1 x.2 y.1 y.2 = true := by rw [eqB_y]; exact decide_eq_true he
        have HK := mkHid (take_eq_succ HX.out HY.out HT.out he)
        clear he
        go_wp2
        go_quiet (fail)
        go_wp2
        go_roundg (l.length - (k + 1))
        case measure => omega
        case rel => exact ⟨k + 1, by omega, by go_num, Nat.le_refl _, HK.out, ⟨HB1.out.os, HB1.out.tape, HB1.out.output, HB1.out.size, HB1.out.block⟩⟩
      · have he2 : eqB x.1 x.2 y.1 y.2 = false := by rw [eqB_y]; exact decide_eq_false he
        have HK := mkHid he
        clear he
        go_wp2
        go_quiet (fail)
        go_wp2
        go_ret
        refine ⟨⟨HB1.out.os, HB1.out.tape, HB1.out.output, HB1.out.size, HB1.out.block⟩, false, rfl, ⟨fun h => (by cases h), fun h => ?_⟩⟩
        exact absurd (by have h1 := HX.out; rw [h, HY.out] at h1; exact (Option.some.inj h1).symm) HK.out
    · have e : k = l.length := by omega
      subst e
      have HT2 : Hid (l = m) := mkHid (by have h := HT.out; rw [List.take_length, List.take_of_length_le (by have := HE.out; omega)] at h; exact h)
      clear hbel
      go_wp2
      go_ret
      exact ⟨HB1.out, true, rfl, ⟨fun _ => HT2.out, fun _ => by trivial⟩⟩
set_option maxRecDepth 100000 in
theorem equal_any (l m : List Y) (a a' : Option Addr) (c c' : Nat) (w : World) (hn : l.length ≤ maxLen) (hl : At eY w a l) (hm : At eY w a' m) :
    Calls Tryz.prog 83 #[.slice a l.length c, .slice a' m.length c'] w fun e w' => Below w.heap.size w w' ∧ ∃ r : Bool, e = .returned (.bool r) ∧ (r = true ↔ l = m) := by
  by_cases hlen : l.length = m.length
  · exact equal_same l m a a' c c' w hlen hn hl hm
  · have h1 : ((l.length : Int) != (m.length : Int)) = true := by simp; omega
    have HE := mkHid hlen
    clear hlen hl hm hn
    go_enter Tryz.func83, Tryz.ntmps83
    go_wp2
    go_ret
    exact ⟨Below.refl _ _, false, rfl, ⟨fun h => (by cases h), fun h => absurd (congrArg List.length h) HE.out⟩⟩
theorem inY_at {B : List (List Y)} {t : Y} {k : Nat} {l : List Y} (h : ∀ j b, j < k → B[j]? = some b → t ∉ b) (hl : B[k]? = some l) (ht : t ∈ l) : toI (inY B t) = (k : Int) := by
  obtain ⟨hk, rfl⟩ := List.getElem?_eq_some_iff.1 hl
  exact toI_eq.2 (inY_some.2 ⟨hk, ht, fun j hj => h j _ hj (List.getElem?_eq_getElem (by omega))⟩)
theorem inY_no {B : List (List Y)} {t : Y} (h : ∀ j b, j < B.length → B[j]? = some b → t ∉ b) : toI (inY B t) = -1 := by
  rw [inY_none.2 fun b hb => ?_]
  · rfl
  · obtain ⟨i, hi, rfl⟩ := List.getElem_of_mem hb
    exact h i _ hi (List.getElem?_eq_getElem hi)
set_option maxRecDepth 100000 in
set_option maxHeartbeats 3200000 in
theorem l10In_any (S : SG) (A : SAd) (t : Y) (w : World) (hn : S.B.length ≤ maxLen) (hr : ∀ (i : Nat) (l : List Y), S.B[i]? = some l → l.length ≤ maxLen) (hl : BndsAt w A.a0 S.B) :
    Calls Tryz.prog 33 #[.agg #[.slice A.a0 S.B.length A.c0, .slice A.a1 S.V.length A.c1, .slice A.a2 S.M.length A.c2], .agg #[.int .i64 t.1, .int .i64 t.2]] w fun e w' => Below w.heap.size w w' ∧ e = .returned (.int .i64 (toI (inY S.B t))) := by
  obtain ⟨z, hz⟩ : ∃ z, toI (inY S.B t) = z := ⟨_, rfl⟩
  have HZ := mkHid hz
  rw [hz]
  clear hz
  unfold maxLen at hn
  have HR := mkHid hr
  obtain ⟨w0, hw0⟩ : ∃ x : World, (w.alloc (.cells #[.slice A.a0 S.B.length A.c0, .slice A.a1 S.V.length A.c1, .slice A.a2 S.M.length A.c2] 34)).alloc (.cells #[.int .i64 t.1, .int .i64 t.2] 61) = x := ⟨_, rfl⟩
  obtain ⟨X, hX⟩ : ∃ x, w.heap.size = x := ⟨_, rfl⟩
  have HB : Hid (Below w.heap.size w w0) := mkHid (by rw [← hw0]; exact bl_alloc (bl_alloc (Below.refl _ _) _) _)
  have P0 : Hid (G3 w0 X (.slice A.a0 S.B.length A.c0) (.slice A.a1 S.V.length A.c1) (.slice A.a2 S.M.length A.c2)) := mkHid (by rw [← hw0, ← hX]; constructor <;> simp [go_sem])
  have P1 : Hid (Box w0 (X + 1) t.1 t.2) := mkHid (by rw [← hw0, ← hX]; exact ⟨by simp [go_sem], by simp [go_sem], by simp [go_sem], by simp [go_sem]⟩)
  have HL := mkHid (hl.below HB.out)
  clear hl hr
  go_enter Tryz.func33, Tryz.ntmps33
  go_wp2
  clear hw0 hX
  go_loopw [5] (fun i w' => ∃ (k : Nat), k ≤ S.B.length ∧ i = .int .i64 k ∧ (∀ j b, j < k → S.B[j]? = some b → t ∉ b) ∧ Below w0.heap.size w0 w') (fun i _ => S.B.length - (intOf i).toNat)
  case atStart => exact ⟨0, Nat.zero_le _, rfl, fun j b h => by omega, Below.refl _ _⟩
  case round =>
    obtain ⟨k, hk, rfl, hnot, hbel⟩ := hrel
    have HN := mkHid hnot
    have HB1 := mkHid hbel
    have R0 := P0.out.below hbel
    have R1 := P1.out.below hbel
    clear hnot
    obtain ⟨q0, q1, q2, _, _, _⟩ := R0
    obtain ⟨p0, p1, _, _⟩ := R1
    by_cases hlt : k < S.B.length
    · obtain ⟨l, hx⟩ : ∃ x, S.B[k]? = some x := ⟨_, List.getElem?_eq_getElem hlt⟩
      obtain ⟨b, off, hab, hlb, hq⟩ := (HL.out.below hbel).cons (by omega)
      obtain ⟨ao, cp, c0, hat⟩ := hq k l hx
      rw [hab] at q0
      have HAT := mkHid hat
      have HX := mkHid hx
      have HM := mkHid (HR.out k l hx)
      have hlx : X < wr.heap.size := World.block_lt_of_cell? wr _ q0
      have hly : X + 1 < wr.heap.size := World.block_lt_of_cell? wr _ p0
      clear hq hbel hx hat hab
      have i0 : (0 : Int) ≤ (k : Int) := by omega
      have i1 : (k : Int) < (S.B.length : Int) := by omega
      go_wp2
      go_region_held3 (fun w' => w'.cell? ⟨X, 0, none⟩ = some (.slice (some ⟨b, off, none⟩) S.B.length A.c0) ∧ w'.cell? ⟨b, off + k, none⟩ = some (.slice ao l.length cp) ∧ w'.cell? ⟨X + 1, 0, none⟩ = some (.int .i64 t.1) ∧ w'.cell? ⟨X + 1, 1, none⟩ = some (.int .i64 t.2)) (first | exact ⟨q0, c0, p0, p1⟩ | exact ⟨(hc _ _ hlx).trans q0, (hc _ _ hlb).trans c0, (hc _ _ hly).trans p0, (hc _ _ hly).trans p1⟩)
        (first | (go_at_call 55; refine (l10Find_any l ao cp t _ HM.out (HAT.out.below (Below.refl _ _).drew)).mono ?_; rintro e w1 ⟨hb1, r, rfl, hr⟩; have HRR := mkHid hr; clear hr; obtain ⟨hc, hf⟩ := bcell hb1))
      have HB2 : Hid (Below w0.heap.size w0 w1) := HB1.out.drew.trans (hb1.mono HB1.out.drew.size)
      clear hb1 hc hf
      by_cases hr0 : 0 ≤ r
      · have HE : Hid ((k : Int) = z) := mkHid (by rw [← HZ.out]; exact (inY_at HN.out HX.out (HRR.out.1 hr0)).symm)
        go_wp2
        go_ret
        exact ⟨below_step HB.out HB2.out, ret_int HE.out⟩
      · have HE : Hid (∀ j b, j < k + 1 → S.B[j]? = some b → t ∉ b) := mkHid fun j b hj hb => by
          rcases (by omega : j < k ∨ j = k) with h | rfl
          · exact HN.out j b h hb
          · rw [HX.out] at hb
            exact fun h => hr0 (HRR.out.2 (by rw [Option.some.inj hb]; exact h))
        go_wp2
        go_roundw
        case rel => exact ⟨k + 1, by omega, by go_num, HE.out, HB2.out⟩
        case measure => simp [intOf]; omega
    · have e : k = S.B.length := by omega
      have HE : Hid (-1 = z) := mkHid (by rw [← HZ.out]; exact (inY_no fun j b hj hb => HN.out j b (by omega) hb).symm)
      subst e
      clear hbel
      go_wp2
      go_ret
      exact ⟨below_step HB.out HB1.out, ret_int HE.out⟩
end Go.Proofs.YthfiblldccnjcaaGreatDoor
namespace Go.Proofs.YthfiblldccnjcaaGreatDoor
open Go.RowKit

def lenB (n l : Int) : Bool := btw n 2 13 && btw l 1 (n - 1)
theorem lenB_iff {n l : Int} : lenB n l = true ↔ lenP n l := by unfold lenB btw lenP; simp
set_option maxHeartbeats 800000 in
theorem sLen_any (n l : Int) (w : World) : Calls Tryz.prog 30 #[.int .i64 n, .int .i64 l] w fun e w' => e = .returned (.bool (lenB n l)) ∧ w = w' := by
  unfold lenB
  cases h1 : btw n 2 13
  · go_enter Tryz.func30, Tryz.ntmps30
    go_wp2_with (first | (go_at_call 54; refine (between_any _ _ _ _).mono ?_; rintro e w' ⟨rfl, rfl⟩))
    go_ret
    exact ⟨rfl, rfl⟩
  · have hn : 2 ≤ n ∧ n ≤ 13 := of_decide_eq_true h1
    obtain ⟨k, hk⟩ : ∃ k, n - 1 = k := ⟨_, rfl⟩
    have hw : IntKind.i64.wrap (n - 1) = k := by rw [← hk]; exact IntWalk.i64_in _ (by omega)
    rw [hk]
    clear hk hn
    cases h2 : btw l 1 k
    · go_enter Tryz.func30, Tryz.ntmps30
      go_wp2_with (first | (go_at_call 54; refine (between_any _ _ _ _).mono ?_; rintro e w' ⟨rfl, rfl⟩))
      go_ret
      exact ⟨rfl, rfl⟩
    · go_enter Tryz.func30, Tryz.ntmps30
      go_wp2_with (first | (go_at_call 54; refine (between_any _ _ _ _).mono ?_; rintro e w' ⟨rfl, rfl⟩))
      go_ret
      exact ⟨rfl, rfl⟩
set_option maxHeartbeats 800000 in
theorem iLen_any (n l : Int) (w : World) : Calls Tryz.prog 40 #[.int .i64 n, .int .i64 l] w fun e w' => e = .returned (.bool (lenB n l)) ∧ w = w' := by
  unfold lenB
  cases h1 : btw n 2 13
  · go_enter Tryz.func40, Tryz.ntmps40
    go_wp2_with (first | (go_at_call 62; refine (isBetween_any _ _ _ _).mono ?_; rintro e w' ⟨rfl, rfl⟩))
    go_ret
    exact ⟨rfl, rfl⟩
  · have hn : 2 ≤ n ∧ n ≤ 13 := of_decide_eq_true h1
    obtain ⟨k, hk⟩ : ∃ k, n - 1 = k := ⟨_, rfl⟩
    have hw : IntKind.i64.wrap (n - 1) = k := by rw [← hk]; exact IntWalk.i64_in _ (by omega)
    rw [hk]
    clear hk hn
    cases h2 : btw l 1 k
    · go_enter Tryz.func40, Tryz.ntmps40
      go_wp2_with (first | (go_at_call 62; refine (isBetween_any _ _ _ _).mono ?_; rintro e w' ⟨rfl, rfl⟩))
      go_ret
      exact ⟨rfl, rfl⟩
    · go_enter Tryz.func40, Tryz.ntmps40
      go_wp2_with (first | (go_at_call 62; refine (isBetween_any _ _ _ _).mono ?_; rintro e w' ⟨rfl, rfl⟩))
      go_ret
      exact ⟨rfl, rfl⟩

def noS : SG := ⟨[], [], []⟩
def noA : SAd := ⟨none, 0, none, 0, none, 0⟩
theorem OwnS.none (w : World) (lo hi : Nat) : OwnS w lo hi noA noS :=
  ⟨⟨[], ⟨rfl, .inl ⟨rfl, rfl⟩⟩, Inn.nil _ _, fun q h => by simp [noA, Value.ownBlock] at h, fun i u q h => by simp at h⟩, Own.nil _ _ _ _, fun q h => by simp [noA, Value.ownBlock] at h, Own.nil _ _ _ _, fun q h => by simp [noA, Value.ownBlock] at h⟩
/-- A call gives a Seg of its own. -/
def GivesS (w w' : World) (e : Ending) (S : SG) : Prop := ∃ A' : SAd, e = .returned (.agg #[.slice A'.a0 S.B.length A'.c0, .slice A'.a1 S.V.length A'.c1, .slice A'.a2 S.M.length A'.c2]) ∧ OwnS w' w.heap.size w'.heap.size A' S ∧ Below w.heap.size w w'
def topS (n l a b : Int) (s : Bool) : SG := if lenB n l && okB a b then ⟨[[(0, 0)], [(l, 0)]], [(a, b, s)], [true]⟩ else noS
/-- A row just made. -/
theorem Own.made {α : Type} {E : El α} {T : TypeId} {w : World} {g base : Nat} {cs : List Value} {l : List α} (hb : base ≤ g) (hg : w.heap[g]? = some (.cells cs.toArray T (0, 0))) (hc : cs = E.flat l) (hl : l.length ≤ maxLen) : Own E T w base (.slice (some ⟨g, 0, none⟩) l.length l.length) l := by
  subst hc
  refine ⟨E.flat_len l, .inr ⟨g, l.length, _, rfl, hb, hg, Nat.le_refl _, hl, by simpa using E.flat_len l, ?_⟩⟩
  rw [List.take_of_length_le]
  simpa using Nat.le_of_eq (E.flat_len l)
theorem heap_new (w : World) (o : Obj) {k : Nat} (h : k = w.heap.size) : (w.alloc o).heap[k]? = some o := by subst h; show (w.heap.push o)[w.heap.size]? = _; simp
theorem heap_old (w : World) (o : Obj) {k : Nat} (h : k < w.heap.size) : (w.alloc o).heap[k]? = w.heap[k]? := by show (w.heap.push o)[k]? = _; rw [Array.getElem?_push, if_neg (by omega)]
theorem top_own (X : Nat) (l a b : Int) (s : Bool) (w1 : World) (base hi : Nat) (hb : base ≤ X) (hh : X + 5 ≤ hi)
    (h0 : w1.heap[X]? = some (.cells #[.int .i64 0, .int .i64 0] 61 (0, 0))) (h1 : w1.heap[X + 1]? = some (.cells #[.int .i64 l, .int .i64 0] 61 (0, 0)))
    (h2 : w1.heap[X + 2]? = some (.cells #[.slice (some ⟨X, 0, none⟩) 1 1, .slice (some ⟨X + 1, 0, none⟩) 1 1] 58 (0, 0)))
    (h3 : w1.heap[X + 3]? = some (.cells #[.int .i64 a, .int .i64 b, .bool s] 68 (0, 0))) (h4 : w1.heap[X + 4]? = some (.cells #[.bool true] 4 (0, 0))) :
    OwnS w1 base hi ⟨some ⟨X + 2, 0, none⟩, 2, some ⟨X + 3, 0, none⟩, 1, some ⟨X + 4, 0, none⟩, 1⟩ ⟨[[(0, 0)], [(l, 0)]], [(a, b, s)], [true]⟩ := by
  have hm : (1 : Nat) ≤ maxLen := by unfold maxLen; omega
  have o0 : Own eY 61 w1 base (.slice (some ⟨X, 0, none⟩) 1 1) [(0, 0)] := Own.made (l := [(0, 0)]) (cs := [.int .i64 0, .int .i64 0]) hb h0 rfl hm
  have o1 : Own eY 61 w1 base (.slice (some ⟨X + 1, 0, none⟩) 1 1) [(l, 0)] := Own.made (l := [(l, 0)]) (cs := [.int .i64 l, .int .i64 0]) (by omega) h1 rfl hm
  refine ⟨⟨[.slice (some ⟨X, 0, none⟩) 1 1, .slice (some ⟨X + 1, 0, none⟩) 1 1], ?_, ?_, ?_, ?_⟩, Own.made (l := [(a, b, s)]) (cs := [.int .i64 a, .int .i64 b, .bool s]) (by omega) h3 rfl hm, ?_, Own.made (l := [true]) (cs := [.bool true]) (by omega) h4 rfl hm, ?_⟩
  · refine ⟨rfl, .inr ⟨X + 2, 2, _, rfl, by omega, h2, Nat.le_refl _, by unfold maxLen; omega, rfl, rfl⟩⟩
  · refine ⟨rfl, fun i v m hv hm => ?_, fun i j v u q hv hu hq hq' => ?_⟩
    · match i, hv, hm with
      | 0, hv, hm => simp at hv hm; subst hv hm; exact o0
      | 1, hv, hm => simp at hv hm; subst hv hm; exact o1
    · match i, j, hv, hu with
      | 0, 0, _, _ => rfl
      | 1, 1, _, _ => rfl
      | 0, 1, hv, hu => simp at hv hu; subst hv hu; simp [Value.ownBlock] at hq hq'; omega
      | 1, 0, hv, hu => simp at hv hu; subst hv hu; simp [Value.ownBlock] at hq hq'; omega
  · intro q hq; simp [Value.ownBlock] at hq; omega
  · intro i u q hu hq
    match i, hu with
    | 0, hu => simp at hu; subst hu; simp [Value.ownBlock] at hq; omega
    | 1, hu => simp at hu; subst hu; simp [Value.ownBlock] at hq; omega
  · intro q hq; simp [Value.ownBlock] at hq; omega
  · intro q hq; simp [Value.ownBlock] at hq; omega
end Go.Proofs.YthfiblldccnjcaaGreatDoor
namespace Go.Proofs.YthfiblldccnjcaaGreatDoor
open Go.RowKit

set_option maxRecDepth 100000 in
set_option maxHeartbeats 400000 in
theorem eqValS_nil (a a' : Option Addr) (c c' : Nat) (w : World) : Calls Tryz.prog 27 #[.slice a 0 c, .slice a' 0 c'] w fun e w' => e = .returned (.bool true) ∧ Below w.heap.size w w' := by
  go_enter Tryz.func27, Tryz.ntmps27
  go_wp2
  go_loopw [5] (fun i w' => i = .int .i64 0 ∧ w' = w) (fun i _ => 0)
  case atStart => exact ⟨rfl, rfl⟩
  case round =>
    obtain ⟨rfl, rfl⟩ := hrel
    go_wp2
    go_ret
    exact ⟨rfl, Below.refl _ _⟩
set_option maxRecDepth 100000 in
set_option maxHeartbeats 800000 in
theorem eqValS_of (l : List VV) (a a' : Option Addr) (c c' : Nat) (w : World) (h0 : 0 < l.length) (hn : l.length ≤ maxLen) (hl : At eV w a l) (hl' : At eV w a' l) :
    Calls Tryz.prog 27 #[.slice a l.length c, .slice a' l.length c'] w fun e w' => e = .returned (.bool true) ∧ Below w.heap.size w w' := by
  unfold maxLen at hn
  obtain ⟨b, off, rfl, hlb, _⟩ := hl.cons h0
  obtain ⟨b', off', rfl, hlb', _⟩ := hl'.cons h0
  have HL := mkHid hl
  have HL' := mkHid hl'
  clear hl hl'
  go_enter Tryz.func27, Tryz.ntmps27
  go_wp2
  go_loopw [5] (fun i w' => ∃ (k : Nat), k ≤ l.length ∧ i = .int .i64 k ∧ Below w.heap.size w w') (fun i _ => l.length - (intOf i).toNat)
  case atStart => exact ⟨0, Nat.zero_le _, rfl, Below.refl _ _⟩
  case round =>
    obtain ⟨k, hk, rfl, hbel⟩ := hrel
    have HB := mkHid hbel
    by_cases hlt : k < l.length
    · obtain ⟨x, hx⟩ : ∃ x, l[k]? = some x := ⟨_, List.getElem?_eq_getElem hlt⟩
      obtain ⟨_, _, e, hlc, hq⟩ := (HL.out.below hbel).cons h0
      cases e
      obtain ⟨_, _, e, hlc', hq'⟩ := (HL'.out.below hbel).cons h0
      cases e
      obtain ⟨hc0, hc1, hc2⟩ := get_v hq hx
      obtain ⟨hd0, hd1, hd2⟩ := get_v hq' hx
      clear hx hbel hq hq'
      have i0 : (0 : Int) ≤ (k : Int) := by omega
      have i1 : (k : Int) < (l.length : Int) := by omega
      go_wp2
      go_region_held3 (fun w' => w'.cell? ⟨b, off + k * 3, none⟩ = some (.int .i64 x.1) ∧ w'.cell? ⟨b, off + k * 3 + 1, none⟩ = some (.int .i64 x.2.1) ∧ w'.cell? ⟨b, off + k * 3 + 2, none⟩ = some (.bool x.2.2) ∧ w'.cell? ⟨b', off' + k * 3, none⟩ = some (.int .i64 x.1) ∧ w'.cell? ⟨b', off' + k * 3 + 1, none⟩ = some (.int .i64 x.2.1) ∧ w'.cell? ⟨b', off' + k * 3 + 2, none⟩ = some (.bool x.2.2)) (first | exact ⟨hc0, hc1, hc2, hd0, hd1, hd2⟩ | exact ⟨(hc _ _ hlc).trans hc0, (hc _ _ hlc).trans hc1, (hc _ _ hlc).trans hc2, (hc _ _ hlc').trans hd0, (hc _ _ hlc').trans hd1, (hc _ _ hlc').trans hd2⟩)
        (first | (go_at_call 53; refine (eqVal_same x.1 x.2.1 x.2.2 _).mono ?_; rintro e w1 ⟨rfl, hb1⟩; obtain ⟨hc, hf⟩ := bcell hb1))
      have HB1 : Hid (Below w.heap.size w w1) := HB.out.drew.trans (hb1.mono HB.out.drew.size)
      clear hb1 hc hf
      go_wp2
      go_roundw
      case rel => exact ⟨k + 1, by omega, by go_num, HB1.out⟩
      case measure => simp [intOf]; omega
    · go_wp2
      go_ret
      exact ⟨rfl, HB.out⟩
theorem eqValS_same (l : List VV) (a a' : Option Addr) (c c' : Nat) (w : World) (hn : l.length ≤ maxLen) (hl : At eV w a l) (hl' : At eV w a' l) :
    Calls Tryz.prog 27 #[.slice a l.length c, .slice a' l.length c'] w fun e w' => e = .returned (.bool true) ∧ Below w.heap.size w w' := by
  rcases Nat.eq_zero_or_pos l.length with h | h
  · rw [h]; exact eqValS_nil a a' c c' w
  · exact eqValS_of l a a' c c' w h hn hl hl'
end Go.Proofs.YthfiblldccnjcaaGreatDoor
