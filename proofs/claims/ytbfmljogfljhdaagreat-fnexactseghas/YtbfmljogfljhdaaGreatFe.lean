/-
  CONTRACTS of slices.Equal at terms and of l10In.
-/
import Derived.Test.YtbfmljogfljhdaaGreatFd
namespace Go.Proofs.YtbfmljogfljhdaaGreat
open Go.RowKit

theorem take_eq_succ {l m : List Y} {k : Nat} {x y : Y} (hx : l[k]? = some x) (hy : m[k]? = some y) (h : l.take k = m.take k) (e : x = y) : l.take (k + 1) = m.take (k + 1) := by
  rw [List.take_add_one, List.take_add_one, hx, hy, h, e]
set_option maxRecDepth 100000 in
set_option maxHeartbeats 1600000 in
theorem equal_same (l m : List Y) (a a' : Option Addr) (c c' : Nat) (w : World) (hlen : l.length = m.length) (hn : l.length ≤ maxLen) (hl : At eY w a l) (hm : At eY w a' m) :
    Calls Tryz.prog 131 #[.slice a l.length c, .slice a' m.length c'] w fun e w' => Below w.heap.size w w' ∧ ∃ r : Bool, e = .returned (.bool r) ∧ (r = true ↔ l = m) := by
  unfold maxLen at hn
  have hNe := neq_sym
  have HL := mkHid hl
  have HM := mkHid hm
  have HE := mkHid hlen
  rw [← hlen]
  clear hl hm hlen
  go_enter Tryz.func131, Tryz.ntmps131
  go_wp2
  go_loopg [13, 5] l.length (fun g s13 s5 wr => ∃ (k : Nat), k ≤ l.length ∧ s13 = .int .i64 k ∧ l.length - k ≤ g ∧ l.take k = m.take k ∧ Below w.heap.size w wr)
  case atStart => exact ⟨0, Nat.zero_le _, rfl, by omega, by simp, Below.refl _ _⟩
  case round =>
    obtain ⟨k, hk, rfl, hgk, htk, hbel⟩ := hrel
    have HT := mkHid htk
    have HB1 := mkHid hbel
    clear htk
    by_cases hlt : k < l.length
    · obtain ⟨x, hx⟩ : ∃ x, l[k]? = some x := ⟨_, List.getElem?_eq_getElem hlt⟩
      obtain ⟨y, hy⟩ : ∃ x, m[k]? = some x := ⟨_, List.getElem?_eq_getElem (by have := HE.out; omega)⟩
      obtain ⟨b, off, rfl, _, hq⟩ := (HL.out.below hbel).cons (by omega)
      obtain ⟨b', off', rfl, _, hq'⟩ := (HM.out.below hbel).cons (by have := HE.out; omega)
      obtain ⟨c0, c1⟩ := get_y hq hx
      obtain ⟨d0, d1⟩ := get_y hq' hy
      have HX := mkHid hx
      have HY := mkHid hy
      clear hq hq' hbel hx hy
      have i0 : (0 : Int) ≤ (k : Int) := by omega
      have i1 : (k : Int) < (l.length : Int) := by omega
      by_cases he : x = y
      · have he2 : eqB x.1 x.2 y.1 y.2 = true := by rw [eqB_y]; exact decide_eq_true he
        have HK := mkHid (take_eq_succ HX.out HY.out HT.out he)
        clear he
        go_wp2
        go_quiet (fail)
        go_wp2
        go_roundg (l.length - (k + 1))
        case measure => omega
        case rel => exact ⟨k + 1, by omega, by go_num, Nat.le_refl _, HK.out, ⟨HB1.out.os, HB1.out.tape, HB1.out.output, HB1.out.size, HB1.out.block⟩⟩
      · have he2 : eqB x.1 x.2 y.1 y.2 = false := by rw [eqB_y]; exact decide_eq_false he
        have HK := mkHid he
        clear he
        go_wp2
        go_quiet (fail)
        go_wp2
        go_ret
        refine ⟨⟨HB1.out.os, HB1.out.tape, HB1.out.output, HB1.out.size, HB1.out.block⟩, false, rfl, ⟨fun h => (by cases h), fun h => ?_⟩⟩
        exact absurd (by have h1 := HX.out; rw [h, HY.out] at h1; exact (Option.some.inj h1).symm) HK.out
    · have e : k = l.length := by omega
      subst e
      have HT2 : Hid (l = m) := mkHid (by have h := HT.out; rw [List.take_length, List.take_of_length_le (by have := HE.out; omega)] at h; exact h)
      clear hbel
      go_wp2
      go_ret
      exact ⟨HB1.out, true, rfl, ⟨fun _ => HT2.out, fun _ => by trivial⟩⟩
set_option maxRecDepth 100000 in
theorem equal_any (l m : List Y) (a a' : Option Addr) (c c' : Nat) (w : World) (hn : l.length ≤ maxLen) (hl : At eY w a l) (hm : At eY w a' m) :
    Calls Tryz.prog 131 #[.slice a l.length c, .slice a' m.length c'] w fun e w' => Below w.heap.size w w' ∧ ∃ r : Bool, e = .returned (.bool r) ∧ (r = true ↔ l = m) := by
  by_cases hlen : l.length = m.length
  · exact equal_same l m a a' c c' w hlen hn hl hm
  · have h1 : ((l.length : Int) != (m.length : Int)) = true := by simp; omega
    have HE := mkHid hlen
    clear hlen hl hm hn
    go_enter Tryz.func131, Tryz.ntmps131
    go_wp2
    go_ret
    exact ⟨Below.refl _ _, false, rfl, ⟨fun h => (by cases h), fun h => absurd (congrArg List.length h) HE.out⟩⟩
theorem inY_at {B : List (List Y)} {t : Y} {k : Nat} {l : List Y} (h : ∀ j b, j < k → B[j]? = some b → t ∉ b) (hl : B[k]? = some l) (ht : t ∈ l) : toI (inY B t) = (k : Int) := by
  obtain ⟨hk, rfl⟩ := List.getElem?_eq_some_iff.1 hl
  exact toI_eq.2 (inY_some.2 ⟨hk, ht, fun j hj => h j _ hj (List.getElem?_eq_getElem (by omega))⟩)
theorem inY_no {B : List (List Y)} {t : Y} (h : ∀ j b, j < B.length → B[j]? = some b → t ∉ b) : toI (inY B t) = -1 := by
  rw [inY_none.2 fun b hb => ?_]
  · rfl
  · obtain ⟨i, hi, rfl⟩ := List.getElem_of_mem hb
    exact h i _ hi (List.getElem?_eq_getElem hi)
set_option maxRecDepth 100000 in
set_option maxHeartbeats 3200000 in
theorem l10In_any (S : SG) (A : SAd) (t : Y) (w : World) (hn : S.B.length ≤ maxLen) (hr : ∀ (i : Nat) (l : List Y), S.B[i]? = some l → l.length ≤ maxLen) (hl : BndsAt w A.a0 S.B) :
    Calls Tryz.prog 52 #[.agg #[.slice A.a0 S.B.length A.c0, .slice A.a1 S.V.length A.c1, .slice A.a2 S.M.length A.c2], .agg #[.int .i64 t.1, .int .i64 t.2]] w fun e w' => Below w.heap.size w w' ∧ e = .returned (.int .i64 (toI (inY S.B t))) := by
  obtain ⟨z, hz⟩ : ∃ z, toI (inY S.B t) = z := ⟨_, rfl⟩
  have HZ := mkHid hz
  rw [hz]
  clear hz
  unfold maxLen at hn
  have HR := mkHid hr
  obtain ⟨w0, hw0⟩ : ∃ x : World, (w.alloc (.cells #[.slice A.a0 S.B.length A.c0, .slice A.a1 S.V.length A.c1, .slice A.a2 S.M.length A.c2] 28)).alloc (.cells #[.int .i64 t.1, .int .i64 t.2] 39) = x := ⟨_, rfl⟩
  obtain ⟨X, hX⟩ : ∃ x, w.heap.size = x := ⟨_, rfl⟩
  have HB : Hid (Below w.heap.size w w0) := mkHid (by rw [← hw0]; exact bl_alloc (bl_alloc (Below.refl _ _) _) _)
  have P0 : Hid (G3 w0 X (.slice A.a0 S.B.length A.c0) (.slice A.a1 S.V.length A.c1) (.slice A.a2 S.M.length A.c2)) := mkHid (by rw [← hw0, ← hX]; constructor <;> simp [go_sem])
  have P1 : Hid (Box w0 (X + 1) t.1 t.2) := mkHid (by rw [← hw0, ← hX]; exact ⟨by simp [go_sem], by simp [go_sem], by simp [go_sem], by simp [go_sem]⟩)
  have HL := mkHid (hl.below HB.out)
  clear hl hr
  go_enter Tryz.func52, Tryz.ntmps52
  go_wp2
  clear hw0 hX
  go_loopw [5] (fun i w' => ∃ (k : Nat), k ≤ S.B.length ∧ i = .int .i64 k ∧ (∀ j b, j < k → S.B[j]? = some b → t ∉ b) ∧ Below w0.heap.size w0 w') (fun i _ => S.B.length - (intOf i).toNat)
  case atStart => exact ⟨0, Nat.zero_le _, rfl, fun j b h => by omega, Below.refl _ _⟩
  case round =>
    obtain ⟨k, hk, rfl, hnot, hbel⟩ := hrel
    have HN := mkHid hnot
    have HB1 := mkHid hbel
    have R0 := P0.out.below hbel
    have R1 := P1.out.below hbel
    clear hnot
    obtain ⟨q0, q1, q2, _, _, _⟩ := R0
    obtain ⟨p0, p1, _, _⟩ := R1
    by_cases hlt : k < S.B.length
    · obtain ⟨l, hx⟩ : ∃ x, S.B[k]? = some x := ⟨_, List.getElem?_eq_getElem hlt⟩
      obtain ⟨b, off, hab, hlb, hq⟩ := (HL.out.below hbel).cons (by omega)
      obtain ⟨ao, cp, c0, hat⟩ := hq k l hx
      rw [hab] at q0
      have HAT := mkHid hat
      have HX := mkHid hx
      have HM := mkHid (HR.out k l hx)
      have hlx : X < wr.heap.size := World.block_lt_of_cell? wr _ q0
      have hly : X + 1 < wr.heap.size := World.block_lt_of_cell? wr _ p0
      clear hq hbel hx hat hab
      have i0 : (0 : Int) ≤ (k : Int) := by omega
      have i1 : (k : Int) < (S.B.length : Int) := by omega
      go_wp2
      go_region_held3 (fun w' => w'.cell? ⟨X, 0, none⟩ = some (.slice (some ⟨b, off, none⟩) S.B.length A.c0) ∧ w'.cell? ⟨b, off + k, none⟩ = some (.slice ao l.length cp) ∧ w'.cell? ⟨X + 1, 0, none⟩ = some (.int .i64 t.1) ∧ w'.cell? ⟨X + 1, 1, none⟩ = some (.int .i64 t.2)) (first | exact ⟨q0, c0, p0, p1⟩ | exact ⟨(hc _ _ hlx).trans q0, (hc _ _ hlb).trans c0, (hc _ _ hly).trans p0, (hc _ _ hly).trans p1⟩)
        (first | (go_at_call 79; refine (l10Find_any l ao cp t _ HM.out (HAT.out.below (Below.refl _ _).drew)).mono ?_; rintro e w1 ⟨hb1, r, rfl, hr⟩; have HRR := mkHid hr; clear hr; obtain ⟨hc, hf⟩ := bcell hb1))
      have HB2 : Hid (Below w0.heap.size w0 w1) := HB1.out.drew.trans (hb1.mono HB1.out.drew.size)
      clear hb1 hc hf
      by_cases hr0 : 0 ≤ r
      · have HE : Hid ((k : Int) = z) := mkHid (by rw [← HZ.out]; exact (inY_at HN.out HX.out (HRR.out.1 hr0)).symm)
        go_wp2
        go_ret
        exact ⟨below_step HB.out HB2.out, ret_int HE.out⟩
      · have HE : Hid (∀ j b, j < k + 1 → S.B[j]? = some b → t ∉ b) := mkHid fun j b hj hb => by
          rcases (by omega : j < k ∨ j = k) with h | rfl
          · exact HN.out j b h hb
          · rw [HX.out] at hb
            exact fun h => hr0 (HRR.out.2 (by rw [Option.some.inj hb]; exact h))
        go_wp2
        go_roundw
        case rel => exact ⟨k + 1, by omega, by go_num, HE.out, HB2.out⟩
        case measure => simp [intOf]; omega
    · have e : k = S.B.length := by omega
      have HE : Hid (-1 = z) := mkHid (by rw [← HZ.out]; exact (inY_no fun j b hj hb => HN.out j b (by omega) hb).symm)
      subst e
      clear hbel
      go_wp2
      go_ret
      exact ⟨below_step HB.out HB1.out, ret_int HE.out⟩
end Go.Proofs.YtbfmljogfljhdaaGreat
