/-
  CONTRACTS of slices.Equal at terms and of l10In.
  CONTRACTS of isLength, l10Size and of both SegTops.
  PURE: what the specification asks of a Seg, row by row.
  CONTRACTS of the program's areVals, areSymVals, isWideSym, SymVal at numbers that are as they should be.
-/
import Derived.Test.YtodjmpocpfkpaaaGreatKx07
import Derived.Test.YtodjmpocpfkpaaaGreatKx04
import Derived.Test.YtodjmpocpfkpaaaGreatKx03
namespace Go.Proofs.YtodjmpocpfkpaaaGreat
open Go.RowKit

theorem take_eq_succ {l m : List Y} {k : Nat} {x y : Y} (hx : l[k]? = some x) (hy : m[k]? = some y) (h : l.take k = m.take k) (e : x = y) : l.take (k + 1) = m.take (k + 1) := by
 rw [List.take_add_one, List.take_add_one, hx, hy, h, e]
set_option maxRecDepth 100000 in
set_option maxHeartbeats 1600000 in
theorem equal_same (l m : List Y) (a a' : Option Addr) (c c' : Nat) (w : World) (hlen : l.length = m.length) (hn : l.length ≤ maxLen) (hl : At eY w a l) (hm : At eY w a' m) :
  Calls Tryz.prog 97 #[.slice a l.length c, .slice a' m.length c'] w fun e w' => Below w.heap.size w w' ∧ ∃ r : Bool, e = .returned (.bool r) ∧ (r = true ↔ l = m) := by
 unfold maxLen at hn
 have hNe := neq_sym
 have HL := mkHid hl
 have HM := mkHid hm
 have HE := mkHid hlen
 rw [← hlen]
 clear hl hm hlen
 go_enter Tryz.func97, Tryz.ntmps97
 go_wp2
 go_loopg [13, 5] l.length (fun g s13 s5 wr => ∃ (k : Nat), k ≤ l.length ∧ s13 = .int .i64 k ∧ l.length - k ≤ g ∧ l.take k = m.take k ∧ Below w.heap.size w wr)
 case atStart => exact ⟨0, Nat.zero_le _, rfl, by omega, by simp, Below.refl _ _⟩
 case round =>
  obtain ⟨k, hk, rfl, hgk, htk, hbel⟩ := hrel
  have HT := mkHid htk
  have HB1 := mkHid hbel
  clear htk
  by_cases hlt : k < l.length
  ·obtain ⟨x, hx⟩ : ∃ x, l[k]? = some x := ⟨_, List.getElem?_eq_getElem hlt⟩
   obtain ⟨y, hy⟩ : ∃ x, m[k]? = some x := ⟨_, List.getElem?_eq_getElem (by have := HE.out; omega)⟩
   obtain ⟨b, off, rfl, _, hq⟩ := (HL.out.below hbel).cons (by omega)
   obtain ⟨b', off', rfl, _, hq'⟩ := (HM.out.below hbel).cons (by have := HE.out; omega)
   obtain ⟨c0, c1⟩ := get_y hq hx
   obtain ⟨d0, d1⟩ := get_y hq' hy
   have HX := mkHid hx
   have HY := mkHid hy
   clear hq hq' hbel hx hy
   have i0 : (0 : Int) ≤ (k : Int) := by omega
   have i1 : (k : Int) < (l.length : Int) := by omega
   by_cases he : x = y
   ·have he2 : eqB x.1 x.2 y.1 y.2 = true := by rw [eqB_y]; exact decide_eq_true he
    have HK := mkHid (take_eq_succ HX.out HY.out HT.out he)
    clear he
    go_wp2
    go_quiet (fail)
    go_wp2
    go_roundg (l.length - (k + 1))
    case measure => omega
    case rel => exact ⟨k + 1, by omega, by go_num, Nat.le_refl _, HK.out, ⟨HB1.out.os, HB1.out.tape, HB1.out.output, HB1.out.size, HB1.out.block⟩⟩
   ·have he2 : eqB x.1 x.2 y.1 y.2 = false := by rw [eqB_y]; exact decide_eq_false he
    have HK := mkHid he
    clear he
    go_wp2
    go_quiet (fail)
    go_wp2
    go_ret
    refine ⟨⟨HB1.out.os, HB1.out.tape, HB1.out.output, HB1.out.size, HB1.out.block⟩, false, rfl, ⟨fun h => (by cases h), fun h => ?_⟩⟩
    exact absurd (by have h1 := HX.out; rw [h, HY.out] at h1; exact (Option.some.inj h1).symm) HK.out
  ·have e : k = l.length := by omega
   subst e
   have HT2 : Hid (l = m) := mkHid (by have h := HT.out; rw [List.take_length, List.take_of_length_le (by have := HE.out; omega)] at h; exact h)
   clear hbel
   go_wp2
   go_ret
   exact ⟨HB1.out, true, rfl, ⟨fun _ => HT2.out, fun _ => by trivial⟩⟩
set_option maxRecDepth 100000 in
theorem equal_any (l m : List Y) (a a' : Option Addr) (c c' : Nat) (w : World) (hn : l.length ≤ maxLen) (hl : At eY w a l) (hm : At eY w a' m) :
  Calls Tryz.prog 97 #[.slice a l.length c, .slice a' m.length c'] w fun e w' => Below w.heap.size w w' ∧ ∃ r : Bool, e = .returned (.bool r) ∧ (r = true ↔ l = m) := by
 by_cases hlen : l.length = m.length
 ·exact equal_same l m a a' c c' w hlen hn hl hm
 ·have h1 : ((l.length : Int) != (m.length : Int)) = true := by simp; omega
  have HE := mkHid hlen
  clear hlen hl hm hn
  go_enter Tryz.func97, Tryz.ntmps97
  go_wp2
  go_ret
  exact ⟨Below.refl _ _, false, rfl, ⟨fun h => (by cases h), fun h => absurd (congrArg List.length h) HE.out⟩⟩
theorem inY_at {B : List (List Y)} {t : Y} {k : Nat} {l : List Y} (h : ∀ j b, j < k → B[j]? = some b → t ∉ b) (hl : B[k]? = some l) (ht : t ∈ l) : toI (inY B t) = (k : Int) := by
 obtain ⟨hk, rfl⟩ := List.getElem?_eq_some_iff.1 hl
 exact toI_eq.2 (inY_some.2 ⟨hk, ht, fun j hj => h j _ hj (List.getElem?_eq_getElem (by omega))⟩)
theorem inY_no {B : List (List Y)} {t : Y} (h : ∀ j b, j < B.length → B[j]? = some b → t ∉ b) : toI (inY B t) = -1 := by
 rw [inY_none.2 fun b hb => ?_]
 ·rfl
 ·obtain ⟨i, hi, rfl⟩ := List.getElem_of_mem hb
  exact h i _ hi (List.getElem?_eq_getElem hi)
set_option maxRecDepth 100000 in
set_option maxHeartbeats 3200000 in
theorem l10In_any (S : SG) (A : SAd) (t : Y) (w : World) (hn : S.B.length ≤ maxLen) (hr : ∀ (i : Nat) (l : List Y), S.B[i]? = some l → l.length ≤ maxLen) (hl : BndsAt w A.a0 S.B) :
  Calls Tryz.prog 60 #[.agg #[.slice A.a0 S.B.length A.c0, .slice A.a1 S.V.length A.c1, .slice A.a2 S.M.length A.c2], .agg #[.int .i64 t.1, .int .i64 t.2]] w fun e w' => Below w.heap.size w w' ∧ e = .returned (.int .i64 (toI (inY S.B t))) := by
 obtain ⟨z, hz⟩ : ∃ z, toI (inY S.B t) = z := ⟨_, rfl⟩
 have HZ := mkHid hz
 rw [hz]
 clear hz
 unfold maxLen at hn
 have HR := mkHid hr
 obtain ⟨w0, hw0⟩ : ∃ x : World, (w.alloc (.cells #[.slice A.a0 S.B.length A.c0, .slice A.a1 S.V.length A.c1, .slice A.a2 S.M.length A.c2] 31)).alloc (.cells #[.int .i64 t.1, .int .i64 t.2] 65) = x := ⟨_, rfl⟩
 obtain ⟨X, hX⟩ : ∃ x, w.heap.size = x := ⟨_, rfl⟩
 have HB : Hid (Below w.heap.size w w0) := mkHid (by rw [← hw0]; exact bl_alloc (bl_alloc (Below.refl _ _) _) _)
 have P0 : Hid (G3 w0 X (.slice A.a0 S.B.length A.c0) (.slice A.a1 S.V.length A.c1) (.slice A.a2 S.M.length A.c2)) := mkHid (by rw [← hw0, ← hX]; constructor <;> simp [go_sem])
 have P1 : Hid (Box w0 (X + 1) t.1 t.2) := mkHid (by rw [← hw0, ← hX]; exact ⟨by simp [go_sem], by simp [go_sem], by simp [go_sem], by simp [go_sem]⟩)
 have HL := mkHid (hl.below HB.out)
 clear hl hr
 go_enter Tryz.func60, Tryz.ntmps60
 go_wp2
 clear hw0 hX
 go_loopw [5] (fun i w' => ∃ (k : Nat), k ≤ S.B.length ∧ i = .int .i64 k ∧ (∀ j b, j < k → S.B[j]? = some b → t ∉ b) ∧ Below w0.heap.size w0 w') (fun i _ => S.B.length - (intOf i).toNat)
 case atStart => exact ⟨0, Nat.zero_le _, rfl, fun j b h => by omega, Below.refl _ _⟩
 case round =>
  obtain ⟨k, hk, rfl, hnot, hbel⟩ := hrel
  have HN := mkHid hnot
  have HB1 := mkHid hbel
  have R0 := P0.out.below hbel
  have R1 := P1.out.below hbel
  clear hnot
  obtain ⟨q0, q1, q2, _, _, _⟩ := R0
  obtain ⟨p0, p1, _, _⟩ := R1
  by_cases hlt : k < S.B.length
  ·obtain ⟨l, hx⟩ : ∃ x, S.B[k]? = some x := ⟨_, List.getElem?_eq_getElem hlt⟩
   obtain ⟨b, off, hab, hlb, hq⟩ := (HL.out.below hbel).cons (by omega)
   obtain ⟨ao, cp, c0, hat⟩ := hq k l hx
   rw [hab] at q0
   have HAT := mkHid hat
   have HX := mkHid hx
   have HM := mkHid (HR.out k l hx)
   have hlx : X < wr.heap.size := World.block_lt_of_cell? wr _ q0
   have hly : X + 1 < wr.heap.size := World.block_lt_of_cell? wr _ p0
   clear hq hbel hx hat hab
   have i0 : (0 : Int) ≤ (k : Int) := by omega
   have i1 : (k : Int) < (S.B.length : Int) := by omega
   go_wp2
   go_region_held3 (fun w' => w'.cell? ⟨X, 0, none⟩ = some (.slice (some ⟨b, off, none⟩) S.B.length A.c0) ∧ w'.cell? ⟨b, off + k, none⟩ = some (.slice ao l.length cp) ∧ w'.cell? ⟨X + 1, 0, none⟩ = some (.int .i64 t.1) ∧ w'.cell? ⟨X + 1, 1, none⟩ = some (.int .i64 t.2)) (first | exact ⟨q0, c0, p0, p1⟩ | exact ⟨(hc _ _ hlx).trans q0, (hc _ _ hlb).trans c0, (hc _ _ hly).trans p0, (hc _ _ hly).trans p1⟩)
    (first | (go_at_call 82; refine (l10Find_any l ao cp t _ HM.out (HAT.out.below (Below.refl _ _).drew)).mono ?_; rintro e w1 ⟨hb1, r, rfl, hr⟩; have HRR := mkHid hr; clear hr; obtain ⟨hc, hf⟩ := bcell hb1))
   have HB2 : Hid (Below w0.heap.size w0 w1) := HB1.out.drew.trans (hb1.mono HB1.out.drew.size)
   clear hb1 hc hf
   by_cases hr0 : 0 ≤ r
   ·have HE : Hid ((k : Int) = z) := mkHid (by rw [← HZ.out]; exact (inY_at HN.out HX.out (HRR.out.1 hr0)).symm)
    go_wp2
    go_ret
    exact ⟨below_step HB.out HB2.out, ret_int HE.out⟩
   ·have HE : Hid (∀ j b, j < k + 1 → S.B[j]? = some b → t ∉ b) := mkHid fun j b hj hb => by
     rcases (by omega : j < k ∨ j = k) with h | rfl
     ·exact HN.out j b h hb
     ·rw [HX.out] at hb
      exact fun h => hr0 (HRR.out.2 (by rw [Option.some.inj hb]; exact h))
    go_wp2
    go_roundw
    case rel => exact ⟨k + 1, by omega, by go_num, HE.out, HB2.out⟩
    case measure => simp [intOf]; omega
  ·have e : k = S.B.length := by omega
   have HE : Hid (-1 = z) := mkHid (by rw [← HZ.out]; exact (inY_no fun j b hj hb => HN.out j b (by omega) hb).symm)
   subst e
   clear hbel
   go_wp2
   go_ret
   exact ⟨below_step HB.out HB1.out, ret_int HE.out⟩
end Go.Proofs.YtodjmpocpfkpaaaGreat
namespace Go.Proofs.YtodjmpocpfkpaaaGreat
open Go.RowKit

def lenB (n l : Int) : Bool := btw n 2 13 && btw l 1 (n - 1)
theorem lenB_iff {n l : Int} : lenB n l = true ↔ lenP n l := by unfold lenB btw lenP; simp
set_option maxHeartbeats 800000 in
theorem sLen_any (n l : Int) (w : World) : Calls Tryz.prog 58 #[.int .i64 n, .int .i64 l] w fun e w' => e = .returned (.bool (lenB n l)) ∧ w = w' := by
 unfold lenB
 cases h1 : btw n 2 13
 ·go_enter Tryz.func58, Tryz.ntmps58
  go_wp2_with (first | (go_at_call 36; refine (between_any _ _ _ _).mono ?_; rintro e w' ⟨rfl, rfl⟩))
  go_ret
  exact ⟨rfl, rfl⟩
 ·have hn : 2 ≤ n ∧ n ≤ 13 := of_decide_eq_true h1
  obtain ⟨k, hk⟩ : ∃ k, n - 1 = k := ⟨_, rfl⟩
  have hw : IntKind.i64.wrap (n - 1) = k := by rw [← hk]; exact IntWalk.i64_in _ (by omega)
  rw [hk]
  clear hk hn
  cases h2 : btw l 1 k
  ·go_enter Tryz.func58, Tryz.ntmps58
   go_wp2_with (first | (go_at_call 36; refine (between_any _ _ _ _).mono ?_; rintro e w' ⟨rfl, rfl⟩))
   go_ret
   exact ⟨rfl, rfl⟩
  ·go_enter Tryz.func58, Tryz.ntmps58
   go_wp2_with (first | (go_at_call 36; refine (between_any _ _ _ _).mono ?_; rintro e w' ⟨rfl, rfl⟩))
   go_ret
   exact ⟨rfl, rfl⟩
set_option maxHeartbeats 800000 in
theorem iLen_any (n l : Int) (w : World) : Calls Tryz.prog 65 #[.int .i64 n, .int .i64 l] w fun e w' => e = .returned (.bool (lenB n l)) ∧ w = w' := by
 unfold lenB
 cases h1 : btw n 2 13
 ·go_enter Tryz.func65, Tryz.ntmps65
  go_wp2_with (first | (go_at_call 70; refine (isBetween_any _ _ _ _).mono ?_; rintro e w' ⟨rfl, rfl⟩))
  go_ret
  exact ⟨rfl, rfl⟩
 ·have hn : 2 ≤ n ∧ n ≤ 13 := of_decide_eq_true h1
  obtain ⟨k, hk⟩ : ∃ k, n - 1 = k := ⟨_, rfl⟩
  have hw : IntKind.i64.wrap (n - 1) = k := by rw [← hk]; exact IntWalk.i64_in _ (by omega)
  rw [hk]
  clear hk hn
  cases h2 : btw l 1 k
  ·go_enter Tryz.func65, Tryz.ntmps65
   go_wp2_with (first | (go_at_call 70; refine (isBetween_any _ _ _ _).mono ?_; rintro e w' ⟨rfl, rfl⟩))
   go_ret
   exact ⟨rfl, rfl⟩
  ·go_enter Tryz.func65, Tryz.ntmps65
   go_wp2_with (first | (go_at_call 70; refine (isBetween_any _ _ _ _).mono ?_; rintro e w' ⟨rfl, rfl⟩))
   go_ret
   exact ⟨rfl, rfl⟩

def noS : SG := ⟨[], [], []⟩
def noA : SAd := ⟨none, 0, none, 0, none, 0⟩
theorem OwnS.none (w : World) (lo hi : Nat) : OwnS w lo hi noA noS :=
 ⟨⟨[], ⟨rfl, .inl ⟨rfl, rfl⟩⟩, Inn.nil _ _, fun q h => by simp [noA, Value.ownBlock] at h, fun i u q h => by simp at h⟩, Own.nil _ _ _ _, fun q h => by simp [noA, Value.ownBlock] at h, Own.nil _ _ _ _, fun q h => by simp [noA, Value.ownBlock] at h⟩
/-- A call gives a Seg of its own. -/
def GivesS (w w' : World) (e : Ending) (S : SG) : Prop := ∃ A' : SAd, e = .returned (.agg #[.slice A'.a0 S.B.length A'.c0, .slice A'.a1 S.V.length A'.c1, .slice A'.a2 S.M.length A'.c2]) ∧ OwnS w' w.heap.size w'.heap.size A' S ∧ Below w.heap.size w w'
/-- A row just made. -/
theorem Own.made {α : Type} {E : El α} {T : TypeId} {w : World} {g base : Nat} {cs : List Value} {l : List α} (hb : base ≤ g) (hg : w.heap[g]? = some (.cells cs.toArray T (0, 0))) (hc : cs = E.flat l) (hl : l.length ≤ maxLen) : Own E T w base (.slice (some ⟨g, 0, none⟩) l.length l.length) l := by
 subst hc
 refine ⟨E.flat_len l, .inr ⟨g, l.length, _, rfl, hb, hg, Nat.le_refl _, hl, by simpa using E.flat_len l, ?_⟩⟩
 rw [List.take_of_length_le]
 simpa using Nat.le_of_eq (E.flat_len l)
theorem heap_new (w : World) (o : Obj) {k : Nat} (h : k = w.heap.size) : (w.alloc o).heap[k]? = some o := by subst h; show (w.heap.push o)[w.heap.size]? = _; simp
theorem heap_old (w : World) (o : Obj) {k : Nat} (h : k < w.heap.size) : (w.alloc o).heap[k]? = w.heap[k]? := by show (w.heap.push o)[k]? = _; rw [Array.getElem?_push, if_neg (by omega)]
end Go.Proofs.YtodjmpocpfkpaaaGreat
namespace Go.Proofs.YtodjmpocpfkpaaaGreat
open Go.RowKit

structure RowS (n : Int) (B : List (List Y)) (i : Nat) (b : List Y) : Prop where
 ne : b ≠ []
 sym : ∀ p, p ∈ b → symP n p
 asc : b.Pairwise LtY
 inn : ∀ p, p ∈ b → inY B p = some i
theorem OkS.row {n l : Int} {B : List (List Y)} {V : List VV} {M : List Bool} (h : OkS n l B V M) {i : Nat} {b : List Y} (hb : B[i]? = some b) : RowS n B i b :=
 have hm := List.mem_of_getElem? hb
 ⟨(h.rows b hm).ne, (h.rows b hm).sym, (h.rows b hm).asc, fun _ hp => in_of_nodup h.nodup hb hp⟩
theorem last_get {B : List (List Y)} (h : 1 ≤ B.length) : ∃ b, B[B.length - 1]? = some b ∧ B.getLastD [] = b := by
 refine ⟨B[B.length - 1], List.getElem?_eq_getElem (by omega), ?_⟩
 have hne : B ≠ [] := by intro e; rw [e] at h; simp at h
 rw [List.getLastD_eq_getLast?, List.getLast?_eq_getElem?, List.getElem?_eq_getElem (by omega)]; rfl
theorem head_get {B : List (List Y)} (h : 1 ≤ B.length) : ∃ b, B[0]? = some b ∧ B.headD [] = b := by
 cases B with
 | nil => simp at h
 | cons b B => exact ⟨b, rfl, rfl⟩
theorem ok_ends {n l : Int} {B : List (List Y)} {V : List VV} {M : List Bool} (h : OkS n l B V M) : toI (inY B (0, 0)) = 0 ∧ toI (inY B (l, 0)) = (B.length : Int) - 1 := by
 obtain ⟨b, h1, h2⟩ := head_get h.k1
 obtain ⟨c, h3, h4⟩ := last_get h.k1
 have hf := h.first
 have hl := h.last
 rw [h2] at hf
 rw [h4] at hl
 have k1 := h.k1
 rw [in_of_nodup h.nodup h1 hf, in_of_nodup h.nodup h3 hl]
 exact ⟨rfl, by show ((B.length - 1 : Nat) : Int) = _; omega⟩
theorem ok_of {n l : Int} {B : List (List Y)} {V : List VV} {M : List Bool} (h1 : lenP n l) (h2 : 1 ≤ B.length) (h3 : B.length ≤ 16) (h4 : V.length + 1 = B.length) (h5 : M.length + 1 = B.length) (h6 : B.flatten.length ≤ 40)
  (hr : ∀ (i : Nat) (b : List Y), B[i]? = some b → RowS n B i b) (hv : ∀ v, v ∈ V → okB v.1 v.2.1 = true) (e0 : toI (inY B (0, 0)) = 0) (e1 : toI (inY B (l, 0)) = (B.length : Int) - 1) : OkS n l B V M := by
 have rows : ∀ b, b ∈ B → RowP n b := fun b hb => by
  obtain ⟨i, hi, rfl⟩ := List.getElem_of_mem hb
  have := hr i _ (List.getElem?_eq_getElem hi)
  exact ⟨this.ne, this.sym, this.asc⟩
 refine ⟨h1, h2, h3, h4, h5, h6, rows, nodup_of_in (fun b hb => (rows b hb).asc) fun i b hb p hp => (hr i b hb).inn p hp, hv, ?_, ?_⟩
 ·obtain ⟨b, g1, g2⟩ := head_get h2
  obtain ⟨hi, hm, _⟩ := inY_some.1 (toI_eq.1 (show toI (inY B (0, 0)) = ((0 : Nat) : Int) from e0))
  rw [List.getElem?_eq_getElem hi] at g1
  rw [g2, ← Option.some.inj g1]
  exact hm
 ·obtain ⟨b, g1, g2⟩ := last_get h2
  obtain ⟨hi, hm, _⟩ := inY_some.1 (toI_eq.1 (show toI (inY B (l, 0)) = ((B.length - 1 : Nat) : Int) by rw [e1]; omega))
  rw [List.getElem?_eq_getElem hi] at g1
  rw [g2, ← Option.some.inj g1]
  exact hm
/-- From one to the next it ascends: so it does. -/
theorem asc_steps : ∀ {b : List Y}, (∀ (q : Nat) (x y : Y), b[q]? = some x → b[q + 1]? = some y → LtY x y) → b.Pairwise LtY
 | [], _ => List.Pairwise.nil
 | [a], _ => by simp
 | a :: b :: l, h => by
  have ih : (b :: l).Pairwise LtY := asc_steps fun q x y hx hy => h (q + 1) x y (by simpa using hx) (by simpa using hy)
  refine List.pairwise_cons.2 ⟨fun p hp => ?_, ih⟩
  have hab := h 0 a b rfl rfl
  rcases List.mem_cons.1 hp with rfl | hp
  ·exact hab
  ·exact hab.trans ((List.pairwise_cons.1 ih).1 p hp)
theorem asc_at {b : List Y} (h : b.Pairwise LtY) {q : Nat} {x y : Y} (hx : b[q]? = some x) (hy : b[q + 1]? = some y) : LtY x y := by
 obtain ⟨hi, rfl⟩ := List.getElem?_eq_some_iff.1 hx
 obtain ⟨hj, rfl⟩ := List.getElem?_eq_some_iff.1 hy
 rw [List.pairwise_iff_getElem] at h
 exact h q (q + 1) hi hj (by omega)
theorem lessB_iff (x y : Y) : lessB x.1 x.2 y.1 y.2 = true ↔ LtY x y := by unfold lessB LtY; simp
theorem symB_iff (n : Int) (x : Y) : symOkB n x.1 x.2 = true ↔ symP n x := by unfold symOkB btw symP; simp [and_assoc]
/-- What is known of a row behind its first j terms. -/
structure Part (n : Int) (B : List (List Y)) (i : Nat) (b : List Y) (j : Nat) : Prop where
 each : ∀ (q : Nat) (x : Y), q < j → b[q]? = some x → symP n x ∧ inY B x = some i
 step : ∀ (q : Nat) (x y : Y), q + 1 < j → b[q]? = some x → b[q + 1]? = some y → LtY x y
theorem Part.zero (n : Int) (B : List (List Y)) (i : Nat) (b : List Y) : Part n B i b 0 := ⟨fun q x h => by omega, fun q x y h => by omega⟩
theorem Part.next {n : Int} {B : List (List Y)} {i : Nat} {b : List Y} {j : Nat} (h : Part n B i b j) {x : Y} (hx : b[j]? = some x) (h1 : symP n x) (h2 : inY B x = some i) (h3 : ∀ q y, j = q + 1 → b[q]? = some y → LtY y x) : Part n B i b (j + 1) :=
 ⟨fun q y hq hy => by
  rcases (by omega : q < j ∨ q = j) with h' | rfl
  ·exact h.each q y h' hy
  ·rw [hx] at hy; cases hy; exact ⟨h1, h2⟩, fun q y z hq hy hz => by
  rcases (by omega : q + 1 < j ∨ j = q + 1) with h' | h'
  ·exact h.step q y z h' hy hz
  ·subst h'; rw [hx] at hz; cases hz; exact h3 q y rfl hy⟩
theorem Part.next2 {n : Int} {B : List (List Y)} {i : Nat} {b : List Y} {j jm : Nat} (h : Part n B i b j) {x y : Y} (hx : b[j]? = some x) (h1 : symP n x) (h2 : inY B x = some i) (hj : j = jm + 1) (hy : b[jm]? = some y) (hl : LtY y x) : Part n B i b (j + 1) :=
 h.next hx h1 h2 fun q y' hq hy' => by
  obtain rfl : q = jm := by omega
  rw [hy] at hy'
  cases hy'
  exact hl
theorem Part.all {n : Int} {B : List (List Y)} {i : Nat} {b : List Y} (h : Part n B i b b.length) (hne : b ≠ []) : RowS n B i b :=
 ⟨hne, fun p hp => by obtain ⟨q, hq, rfl⟩ := List.getElem_of_mem hp; exact (h.each q _ hq (List.getElem?_eq_getElem hq)).1, asc_steps fun q x y hx hy => h.step q x y (List.getElem?_eq_some_iff.1 hy).1 hx hy, fun p hp => by obtain ⟨q, hq, rfl⟩ := List.getElem_of_mem hp; exact (h.each q _ hq (List.getElem?_eq_getElem hq)).2⟩
/-- A call tells whether something is so. -/
def Tells (w w' : World) (e : Ending) (p : Prop) : Prop := Below w.heap.size w w' ∧ ∃ r : Bool, e = .returned (.bool r) ∧ (r = true ↔ p)
theorem Tells.no {w w' : World} {p : Prop} (hb : Below w.heap.size w w') (h : ¬ p) : Tells w w' (.returned (.bool false)) p := ⟨hb, false, rfl, fun e => (by cases e), fun e => absurd e h⟩
theorem Tells.yes {w w' : World} {p : Prop} (hb : Below w.heap.size w w') (h : p) : Tells w w' (.returned (.bool true)) p := ⟨hb, true, rfl, fun _ => h, fun _ => rfl⟩
end Go.Proofs.YtodjmpocpfkpaaaGreat
namespace Go.Proofs.YtodjmpocpfkpaaaGreat
open Go.RowKit

structure VP (l : List Int) : Prop where
 n1 : 1 ≤ l.length
 n2 : l.length ≤ 13
 zero : l[0]? = some 0
 each : ∀ x, x ∈ l → valB x = true
/-- A term of so many symbols. -/
structure InS (n : Nat) (p : Y) : Prop where
 lo : 0 ≤ p.1
 hi : p.1 < n
 c1 : -1000 ≤ p.2
 c2 : p.2 ≤ 1000
def valY (l : List Int) (p : Y) : Int := l.getD p.1.toNat 0 + p.2
theorem VP.bound {l : List Int} (h : VP l) {p : Y} (hp : InS l.length p) : ∃ x, l[p.1.toNat]? = some x ∧ valY l p = x + p.2 ∧ -1000000 ≤ x ∧ x ≤ 1000000 := by
 obtain ⟨k, hk⟩ : ∃ k : Nat, p.1.toNat = k := ⟨_, rfl⟩
 have h1 := hp.lo
 have h2 := hp.hi
 have hlt : k < l.length := by omega
 have hx : l[k]? = some l[k] := List.getElem?_eq_getElem hlt
 have hv := of_decide_eq_true (h.each _ (List.mem_of_getElem? hx))
 rw [hk]
 refine ⟨l[k], hx, ?_, hv.1, hv.2⟩
 unfold valY
 rw [hk, List.getD_eq_getElem?_getD, hx]
 rfl
theorem isGap_any (c : Int) (w : World) : Calls Tryz.prog 71 #[.int .i64 c] w fun e w' => e = .returned (.bool (btw c (-2000000) 2000000)) ∧ w = w' := by
 go_enter Tryz.func71, Tryz.ntmps71
 go_wp2_with (go_at_call 70; refine (isBetween_any _ _ _ _).mono ?_; rintro e w' ⟨rfl, rfl⟩)
 go_ret
 exact ⟨rfl, rfl⟩
end Go.Proofs.YtodjmpocpfkpaaaGreat
