/-
  PURE: between which bounds a place lies; CONTRACT of the specification's l13Span.
-/
import Derived.Test.YtihpajiololfoaaGreatCc33
import Derived.Test.YtihpajiololfoaaGreatCc06
namespace Go.Proofs.YtihpajiololfoaaGreat
open Go.RowKit

/-- The greatest number from k down at which P holds, or 0. -/
def dn (P : Nat → Bool) : Nat → Nat
 | 0 => 0
 | k + 1 => if P (k + 1) then k + 1 else dn P k
def dnP (P : Nat → Bool) : Nat → Nat
 | 0 => 0
 | k + 1 => dn P k
theorem dnP_next (P : Nat → Bool) (k : Nat) : dnP P (k + 1) = if P k then k else dnP P k := by
 cases k with
 | zero => show 0 = _; split <;> rfl
 | succ k => rfl
theorem dn_le (P : Nat → Bool) : ∀ k, dn P k ≤ k
 | 0 => Nat.le_refl _
 | k + 1 => by unfold dn; split; exact Nat.le_refl _; exact Nat.le_succ_of_le (dn_le P k)
theorem dnP_le (P : Nat → Bool) (k : Nat) : dnP P k ≤ k - 1 := by
 cases k with
 | zero => exact Nat.le_refl _
 | succ k => exact dn_le P k
/-- The least number from last - k on, below last, at which Q holds, or last. -/
def uq (Q : Nat → Bool) (last : Nat) : Nat → Nat
 | 0 => last
 | k + 1 => if Q (last - (k + 1)) then last - (k + 1) else uq Q last k
theorem uq_le (Q : Nat → Bool) (last : Nat) : ∀ k, uq Q last k ≤ last
 | 0 => Nat.le_refl _
 | k + 1 => by unfold uq; split; omega; exact uq_le Q last k
theorem uq_ge (Q : Nat → Bool) (last : Nat) : ∀ k, last - k ≤ uq Q last k
 | 0 => Nat.le_refl _
 | k + 1 => by unfold uq; split; exact Nat.le_refl _; exact Nat.le_trans (by omega) (uq_ge Q last k)
theorem uq_next (Q : Nat → Bool) {last j : Nat} (h : j ≤ last) : uq Q last (last - j) = if Q j then j else uq Q last (last - (j + 1)) := by
 by_cases e : j = last
 ·subst e
  rw [Nat.sub_self, Nat.sub_eq_zero_of_le (Nat.le_succ _)]
  show j = _
  split <;> rfl
 ·obtain ⟨m, hm⟩ : ∃ m, last - j = m + 1 := ⟨last - j - 1, by omega⟩
  rw [hm, show last - (j + 1) = m by omega]
  unfold uq
  rw [show last - (m + 1) = j by omega]
  cases m <;> rfl
def pF (f : Q.Tab) (B : List (List Y)) (a : Y) (i : Nat) : Bool := (B.getD i []).any fun x => bl f x a 0
def pT (f : Q.Tab) (B : List (List Y)) (b : Y) (i : Nat) : Bool := (B.getD i []).any fun x => bl f b x 1
def spF (f : Q.Tab) (B : List (List Y)) (a : Y) : Nat := dn (pF f B a) (B.length - 2)
def spT (f : Q.Tab) (B : List (List Y)) (a b : Y) : Nat := uq (pT f B b) (B.length - 1) (B.length - 1 - (spF f B a + 1))
/-- The two bounds that SegSpan tells. -/
def span (f : Q.Tab) (B : List (List Y)) (a b : Y) : Nat × Nat := if B.length ≤ 1 then (0, 0) else (spF f B a, spT f B a b)
theorem span_one {f : Q.Tab} {B : List (List Y)} {a b : Y} (h : B.length = 1) : span f B a b = (0, 0) := if_pos (by omega)
theorem span_more {f : Q.Tab} {B : List (List Y)} {a b : Y} (h : 2 ≤ B.length) : span f B a b = (spF f B a, spT f B a b) := if_neg (by omega)
/-- All terms may be worked with. -/
def Wds (n : Nat) (B : List (List Y)) : Prop := ∀ b, b ∈ B → ∀ x, x ∈ b → Wd n x
theorem getD_some {α : Type} {l : List α} {i : Nat} {x d : α} (h : l[i]? = some x) : l.getD i d = x := by rw [List.getD_eq_getElem?_getD, h]; rfl
set_option maxRecDepth 100000 in
set_option maxHeartbeats 6400000 in
theorem l13Span_any (n : Nat) (f : Q.Tab) (h2 : n ≤ 13) (hbd : Q.Bd n f 10000000) (a : Option Addr) (c0 : Nat) (S : SG) (A : SAd) (x y : Y) (hx : Wd n x) (hy : Wd n y) (w : World) (hs : Small S) (hk : 1 ≤ S.B.length) (hW : Wds n S.B) (hl : Q.IntsAt w a (Q.mk n f)) (hS : SegAt w A S) :
  Calls Tryz.prog 58 #[.agg #[.slice A.a0 S.B.length A.c0, .slice A.a1 S.V.length A.c1, .slice A.a2 S.M.length A.c2], .agg #[.int .i64 n, .slice a (Q.mk n f).length c0], .agg #[.int .i64 x.1, .int .i64 x.2], .agg #[.int .i64 y.1, .int .i64 y.2]] w fun e w' => e = .returned (.tuple #[.int .i64 (span f S.B x y).1, .int .i64 (span f S.B x y).2]) ∧ Below w.heap.size w w' := by
 have hkm := hs.b
 obtain ⟨l, hll⟩ : ∃ l, Q.mk n f = l := ⟨_, rfl⟩
 have H97 : Hid (∀ (L : List Y) (al : Option Addr) (cl : Nat) (v : World), L.length ≤ 1048576 → (∀ x, x ∈ L → Wd n x) → Q.IntsAt v a l → At eY v al L → Calls Tryz.prog 97 #[.agg #[.int .i64 n, .slice a l.length c0], .slice al L.length cl, .agg #[.int .i64 x.1, .int .i64 x.2], .int .i64 0] v fun e w' => e = .returned (.bool (L.any fun t => bl f t x 0)) ∧ Below v.heap.size v w') := mkHid fun L al cl v q1 q2 q3 q4 => by rw [← hll] at q3 ⊢; exact l13Some_any n f h2 hbd a c0 L al cl x hx 0 ⟨by omega, by omega⟩ v (by unfold maxLen; omega) q2 q3 q4
 have H98 : Hid (∀ (L : List Y) (al : Option Addr) (cl : Nat) (v : World), L.length ≤ 1048576 → (∀ x, x ∈ L → Wd n x) → Q.IntsAt v a l → At eY v al L → Calls Tryz.prog 98 #[.agg #[.int .i64 n, .slice a l.length c0], .agg #[.int .i64 y.1, .int .i64 y.2], .slice al L.length cl, .int .i64 1] v fun e w' => e = .returned (.bool (L.any fun t => bl f y t 1)) ∧ Below v.heap.size v w') := mkHid fun L al cl v q1 q2 q3 q4 => by rw [← hll] at q3 ⊢; exact l13Under_any n f h2 hbd a c0 y hy L al cl 1 ⟨by omega, by omega⟩ v (by unfold maxLen; omega) q2 q3 q4
 obtain ⟨w0, hw0⟩ : ∃ q, (((w.alloc (.cells #[.slice A.a0 S.B.length A.c0, .slice A.a1 S.V.length A.c1, .slice A.a2 S.M.length A.c2] 35)).alloc (.cells #[.int .i64 n, .slice a l.length c0] 38)).alloc (.cells #[.int .i64 x.1, .int .i64 x.2] 49)).alloc (.cells #[.int .i64 y.1, .int .i64 y.2] 49) = q := ⟨_, rfl⟩
 obtain ⟨X, hX⟩ : ∃ q, w.heap.size = q := ⟨_, rfl⟩
 have B0 : Hid (Below w.heap.size w w0) := mkHid (by rw [← hw0]; exact bl_alloc (bl_alloc (bl_alloc (bl_alloc (Below.refl _ _) _) _) _) _)
 have G0 : Hid (G3 w0 X (.slice A.a0 S.B.length A.c0) (.slice A.a1 S.V.length A.c1) (.slice A.a2 S.M.length A.c2)) := mkHid (by rw [← hw0, ← hX]; exact (G3.new w _ _ _ 35).below (bl_alloc (bl_alloc (bl_alloc (Below.refl _ _) _) _) _))
 have T0 : Hid (Q.Fc w0 (X + 1) n a l.length c0) := mkHid (by rw [← hw0, ← hX]; have := (Q.Fc.new (w.alloc (.cells #[.slice A.a0 S.B.length A.c0, .slice A.a1 S.V.length A.c1, .slice A.a2 S.M.length A.c2] 35)) n a l.length c0 38).below (bl_alloc (bl_alloc (Below.refl _ _) (.cells #[.int .i64 x.1, .int .i64 x.2] 49)) (.cells #[.int .i64 y.1, .int .i64 y.2] 49)); simpa using this)
 have P0 : Hid (Box w0 (X + 2) x.1 x.2) := mkHid (by rw [← hw0, ← hX]; have := (Box.new' ((w.alloc (.cells #[.slice A.a0 S.B.length A.c0, .slice A.a1 S.V.length A.c1, .slice A.a2 S.M.length A.c2] 35)).alloc (.cells #[.int .i64 n, .slice a l.length c0] 38)) x.1 x.2 49).below (bl_alloc (Below.refl _ _) (.cells #[.int .i64 y.1, .int .i64 y.2] 49)); simpa using this)
 have R0 : Hid (Box w0 (X + 3) y.1 y.2) := mkHid (by rw [← hw0, ← hX]; have := Box.new' (((w.alloc (.cells #[.slice A.a0 S.B.length A.c0, .slice A.a1 S.V.length A.c1, .slice A.a2 S.M.length A.c2] 35)).alloc (.cells #[.int .i64 n, .slice a l.length c0] 38)).alloc (.cells #[.int .i64 x.1, .int .i64 x.2] 49)) y.1 y.2 49; simpa using this)
 rw [hll] at hl
 rw [hll]
 have HL := mkHid (hl.below B0.out)
 have HS := mkHid (hS.below B0.out)
 have HSM := mkHid hs
 have HWB := mkHid hW
 obtain ⟨m, hm⟩ : ∃ m, S.B.length = m + 1 := ⟨S.B.length - 1, by omega⟩
 have hlm : IntKind.i64.wrap ((S.B.length : Int) - 1) = m := by rw [IntWalk.i64_in _ ⟨by omega, by omega⟩]; omega
 obtain ⟨g0, _, _, _, _, _⟩ := G0.out
 have HM := mkHid hm
 clear hl hS hll hbd hs hW hx hy
 by_cases h1 : m = 0
 ·subst h1
  rw [span_one hm]
  have hz : ((0 : Nat) : Int) = 0 := rfl
  clear hm
  go_enter Tryz.func58, Tryz.ntmps58
  go_wp2
  exact bodyPost_ret (v := .tuple #[.int .i64 0, .int .i64 0]) (by simp [results, Tryz.results58, go_sem]) rfl ⟨rfl, B0.out⟩
 ·obtain ⟨from', hfr⟩ : ∃ q, spF f S.B x = q := ⟨_, rfl⟩
  have HFR : Hid (dnP (pF f S.B x) m = from') := mkHid (by rw [← hfr]; unfold spF; obtain ⟨m', rfl⟩ : ∃ q, m = q + 1 := ⟨m - 1, by omega⟩; rw [hm]; rfl)
  have hfl : from' ≤ m - 1 := by rw [← HFR.out]; exact dnP_le _ m
  obtain ⟨to', hto⟩ : ∃ q, spT f S.B x y = q := ⟨_, rfl⟩
  have HTO : Hid (uq (pT f S.B y) m (m - (from' + 1)) = to') := mkHid (by rw [← hto]; unfold spT; rw [hfr, hm]; rfl)
  have hm1 : ((m : Int) == 0) = false := by simpa using h1
  rw [span_more (by omega), hfr, hto]
  clear hfr hto hm hk
  go_enter Tryz.func58, Tryz.ntmps58
  go_wp2
  first | rw [hw0] | skip
  first | rw [hX] | skip
  clear hw0 hX g0 hlm hm1
  go_loopg [11, 12] m (fun g s11 s12 wr => ∃ (k : Nat), k ≤ m ∧ s12 = .int .i64 k ∧ s11 = .int .i64 (dnP (pF f S.B x) k : Nat) ∧ m - k ≤ g ∧ Below w0.heap.size w0 wr)
  case atStart => exact ⟨0, Nat.zero_le _, rfl, rfl, by omega, Below.refl _ _⟩
  case round =>
   obtain ⟨k, hk, rfl, rfl, hgk, hbel⟩ := hrel
   have HB1 := mkHid hbel
   by_cases hlt : k < m
   ·obtain ⟨row, hrow⟩ : ∃ b, S.B[k]? = some b := ⟨_, List.getElem?_eq_getElem (by have := HM.out; omega)⟩
    obtain ⟨bb, off, hab, _, hq⟩ := (HS.out.b.below HB1.out).cons (by have := HM.out; omega)
    obtain ⟨ao, cp, k0, hat⟩ := hq k row hrow
    obtain ⟨g0, _, _, _, _, _⟩ := G0.out.below HB1.out
    rw [hab] at g0
    obtain ⟨t0, t1⟩ := T0.out.below HB1.out
    obtain ⟨p0, p1, _, _⟩ := P0.out.below HB1.out
    have HLK := mkHid ((HL.out.below HB1.out).below (Below.refl _ _).drew)
    have HAT := mkHid (hat.below (Below.refl _ _).drew)
    have HLN := mkHid (HSM.out.row k row hrow)
    have HWR := mkHid (HWB.out row (List.mem_of_getElem? hrow))
    have HP : Hid (pF f S.B x k = row.any fun t => bl f t x 0) := mkHid (by unfold pF; rw [getD_some hrow])
    clear hq hbel hrow hat hab
    have i0 : (0 : Int) ≤ (k : Int) := by omega
    have i1 : (k : Int) < (S.B.length : Int) := by have := HM.out; omega
    have i2 : (k : Int) < (m : Int) := by omega
    go_wp2_with fail
    go_region_held3 (fun u' => (u'.cell? ⟨X + 1, 0, none⟩ = some (.int .i64 n) ∧ u'.cell? ⟨X + 1, 1, none⟩ = some (.slice a l.length c0)) ∧ (u'.cell? ⟨X, 0, none⟩ = some (.slice (some ⟨bb, off, none⟩) S.B.length A.c0) ∧ u'.cell? ⟨bb, off + k, none⟩ = some (.slice ao row.length cp)) ∧ (u'.cell? ⟨X + 2, 0, none⟩ = some (.int .i64 x.1) ∧ u'.cell? ⟨X + 2, 1, none⟩ = some (.int .i64 x.2)))
     (first | exact ⟨⟨t0, t1⟩, ⟨g0, k0⟩, ⟨p0, p1⟩⟩ | exact ⟨⟨t0', t1'⟩, ⟨g0', k0'⟩, ⟨p0', p1'⟩⟩)
     (first | (go_at_call 97; refine (H97.out row ao cp _ HLN.out HWR.out HLK.out HAT.out).mono ?_; rintro e w5 ⟨rfl, hb5⟩; have t0' := (hb5.cell (p := ⟨X + 1, 0, none⟩) (World.block_lt_of_cell? wr _ t0)).trans t0; have t1' := (hb5.cell (p := ⟨X + 1, 1, none⟩) (World.block_lt_of_cell? wr _ t1)).trans t1; have g0' := (hb5.cell (p := ⟨X, 0, none⟩) (World.block_lt_of_cell? wr _ g0)).trans g0; have k0' := (hb5.cell (p := ⟨bb, off + k, none⟩) (World.block_lt_of_cell? wr _ k0)).trans k0; have p0' := (hb5.cell (p := ⟨X + 2, 0, none⟩) (World.block_lt_of_cell? wr _ p0)).trans p0; have p1' := (hb5.cell (p := ⟨X + 2, 1, none⟩) (World.block_lt_of_cell? wr _ p1)).trans p1))
    have HB5 := mkHid (below_step HB1.out.drew hb5)
    clear hb5
    rw [← HP.out]
    cases he : pF f S.B x k
    ·have HE := mkHid he
     clear he
     go_wp2
     go_roundg (m - (k + 1))
     case measure => omega
     case rel => exact ⟨k + 1, by omega, by go_num, by rw [dnP_next, HE.out]; rfl, Nat.le_refl _, HB5.out⟩
    ·have HE := mkHid he
     clear he
     go_wp2
     go_roundg (m - (k + 1))
     case measure => omega
     case rel => exact ⟨k + 1, by omega, by go_num, by rw [dnP_next, HE.out]; rfl, Nat.le_refl _, HB5.out⟩
   ·have e : k = m := by omega
    subst e
    rw [HFR.out]
    have i2 : ¬ ((k : Int) < (k : Int)) := by omega
    clear hbel
    go_wp2
    go_loopg [13, 14] k (fun g s13 s14 wy => ∃ (j : Nat), j ≤ k ∧ from' ≤ j ∧ s14 = .int .i64 j ∧ s13 = .int .i64 (uq (pT f S.B y) k (k - (j + 1)) : Nat) ∧ j ≤ g ∧ Below wr.heap.size wr wy)
    case atStart => exact ⟨k, Nat.le_refl _, by omega, rfl, by rw [Nat.sub_eq_zero_of_le (Nat.le_succ _)]; rfl, Nat.le_refl _, Below.refl _ _⟩
    case round =>
     obtain ⟨j, hj, hfj, rfl, rfl, hgj, hbel⟩ := hrel
     have HB2 := mkHid (below_step HB1.out hbel)
     have HBY := mkHid hbel
     by_cases hlt : from' < j
     ·obtain ⟨row, hrow⟩ : ∃ b, S.B[j]? = some b := ⟨_, List.getElem?_eq_getElem (by have := HM.out; omega)⟩
      obtain ⟨bb, off, hab, _, hq⟩ := (HS.out.b.below HB2.out).cons (by have := HM.out; omega)
      obtain ⟨ao, cp, k0, hat⟩ := hq j row hrow
      obtain ⟨g0, _, _, _, _, _⟩ := G0.out.below HB2.out
      rw [hab] at g0
      obtain ⟨t0, t1⟩ := T0.out.below HB2.out
      obtain ⟨p0, p1, _, _⟩ := R0.out.below HB2.out
      have HLK := mkHid ((HL.out.below HB2.out).below (Below.refl _ _).drew)
      have HAT := mkHid (hat.below (Below.refl _ _).drew)
      have HLN := mkHid (HSM.out.row j row hrow)
      have HWR := mkHid (HWB.out row (List.mem_of_getElem? hrow))
      have HP : Hid (pT f S.B y j = row.any fun t => bl f y t 1) := mkHid (by unfold pT; rw [getD_some hrow])
      clear hq hbel hrow hat hab
      have i0 : (0 : Int) ≤ (j : Int) := by omega
      have i1 : (j : Int) < (S.B.length : Int) := by have := HM.out; omega
      have i2 : (j : Int) > (from' : Int) := by omega
      go_wp2_with fail
      go_region_held3 (fun u' => (u'.cell? ⟨X + 1, 0, none⟩ = some (.int .i64 n) ∧ u'.cell? ⟨X + 1, 1, none⟩ = some (.slice a l.length c0)) ∧ (u'.cell? ⟨X, 0, none⟩ = some (.slice (some ⟨bb, off, none⟩) S.B.length A.c0) ∧ u'.cell? ⟨bb, off + j, none⟩ = some (.slice ao row.length cp)) ∧ (u'.cell? ⟨X + 3, 0, none⟩ = some (.int .i64 y.1) ∧ u'.cell? ⟨X + 3, 1, none⟩ = some (.int .i64 y.2)))
       (first | exact ⟨⟨t0, t1⟩, ⟨g0, k0⟩, ⟨p0, p1⟩⟩ | exact ⟨⟨t0', t1'⟩, ⟨g0', k0'⟩, ⟨p0', p1'⟩⟩)
       (first | (go_at_call 98; refine (H98.out row ao cp _ HLN.out HWR.out HLK.out HAT.out).mono ?_; rintro e w5 ⟨rfl, hb5⟩; have t0' := (hb5.cell (p := ⟨X + 1, 0, none⟩) (World.block_lt_of_cell? wr _ t0)).trans t0; have t1' := (hb5.cell (p := ⟨X + 1, 1, none⟩) (World.block_lt_of_cell? wr _ t1)).trans t1; have g0' := (hb5.cell (p := ⟨X, 0, none⟩) (World.block_lt_of_cell? wr _ g0)).trans g0; have k0' := (hb5.cell (p := ⟨bb, off + j, none⟩) (World.block_lt_of_cell? wr _ k0)).trans k0; have p0' := (hb5.cell (p := ⟨X + 3, 0, none⟩) (World.block_lt_of_cell? wr _ p0)).trans p0; have p1' := (hb5.cell (p := ⟨X + 3, 1, none⟩) (World.block_lt_of_cell? wr _ p1)).trans p1))
      have HB5 := mkHid (below_step HBY.out.drew hb5)
      clear hb5
      rw [← HP.out]
      cases he : pT f S.B y j
      ·have HE := mkHid he
       clear he
       go_wp2
       go_roundg (j - 1)
       case measure => omega
       case rel => exact ⟨j - 1, by omega, by omega, by rw [show ((j - 1 : Nat) : Int) = (j : Int) - 1 by omega], by rw [show j - 1 + 1 = j by omega, uq_next (pT f S.B y) (last := k) (j := j) hj, HE.out]; rfl, Nat.le_refl _, HB5.out⟩
      ·have HE := mkHid he
       clear he
       go_wp2
       go_roundg (j - 1)
       case measure => omega
       case rel => exact ⟨j - 1, by omega, by omega, by rw [show ((j - 1 : Nat) : Int) = (j : Int) - 1 by omega], by rw [show j - 1 + 1 = j by omega, uq_next (pT f S.B y) (last := k) (j := j) hj, HE.out]; rfl, Nat.le_refl _, HB5.out⟩
     ·have e : j = from' := by omega
      subst e
      rw [HTO.out]
      have i2 : ¬ ((j : Int) > (j : Int)) := by omega
      clear hbel
      go_wp2
      exact bodyPost_ret (v := .tuple #[.int .i64 j, .int .i64 to']) (by simp [results, Tryz.results58, go_sem]) rfl ⟨rfl, below_step B0.out HB2.out⟩
end Go.Proofs.YtihpajiololfoaaGreat
