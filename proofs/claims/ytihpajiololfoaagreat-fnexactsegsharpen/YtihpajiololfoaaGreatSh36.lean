/-
  CONTRACTS of the law's toBoolS.
  CONTRACTS of the law's szSymSS, szSeg, toSeg, eqSeg.
  FOR THE LAWS OVER SEGS: what came in, opened.
  WHAT CAME IN, opened: rows of ints.
-/
import Derived.Test.YtihpajiololfoaaGreatSh02
import Derived.Test.YtihpajiololfoaaGreatSh03
import Derived.Test.YtihpajiololfoaaGreatSh35
import Derived.Test.YtihpajiololfoaaGreatSh05
import Derived.ProofKit
import Derived.OpenShut
import Derived.ChangeOld
import Derived.ChangeSlices
import Derived.Lib.SmallJoins
import Derived.Deep.Slices
import Derived.Deep.SlicePairs
import Derived.Test.YtihpajiololfoaaGreatSh21
namespace Go.Proofs.YtihpajiololfoaaGreat
open Go.RowKit

theorem Tryz.info4 : (Tryz.prog.info? 4).map (fun i => (i.zero, i.size, i.bytes)) = some (some (.bool false), 1, 1) := by kernel_rfl
set_option maxRecDepth 100000 in
set_option maxHeartbeats 1600000 in
theorem toBoolS_any (l : List Bool) (a : Option Addr) (c : Nat) (w : World) (hn : l.length ≤ 1048576) (hl : At eB w a l) :
  Calls Tryz.prog 39 #[.slice a l.length c] w fun e w' => ∃ g, e = .returned (.slice (some ⟨g, 0, none⟩) l.length l.length) ∧ Own eB 4 w' w.heap.size (.slice (some ⟨g, 0, none⟩) l.length l.length) l ∧ Below w.heap.size w w' := by
 obtain ⟨i0, hi, hz⟩ := Option.map_eq_some_iff.1 Tryz.info4
 simp only [Prod.mk.injEq] at hz
 obtain ⟨hz0, hz1, hz2⟩ := hz
 obtain ⟨w1, hmk, hown0, hg0⟩ := run_make_full (P := Tryz.prog) w w.heap.size 24 4 i0 _ 1 Tryz.underlying24 hi hz0 hz1 .i64 .i64 l.length (by rw [hz2]; omega) (by unfold maxLen; omega) (Nat.le_refl _)
 obtain ⟨g, hgg⟩ : ∃ g, w.heap.size = g := ⟨_, rfl⟩
 have HGG := mkHid hgg
 rw [hgg] at hmk hown0
 have HL := mkHid hl
 have HO := mkHid hown0
 have HG := mkHid (Below.grown (Below.refl w.heap.size w) hg0 (Nat.le_refl _) (fun k hk => by cases hk))
 clear hl hown0 hg0 hi hz0 hz1 hz2 hgg
 go_enter Tryz.func39, Tryz.ntmps39
 go_wp2
 go_loopw [4] (fun i w' => ∃ (k : Nat) (xs : List Value), k ≤ l.length ∧ i = .int .i64 k ∧ w'.ownsRow g 4 1 (.slice (some ⟨g, 0, none⟩) l.length l.length) l.length xs ∧ xs.take (k * 1) = eB.flat (l.take k) ∧ Below w.heap.size w w') (fun i _ => l.length - (intOf i).toNat)
 case atStart => exact ⟨0, _, Nat.zero_le _, rfl, HO.out, by simp [El.flat], HG.out⟩
 case round =>
  obtain ⟨k, xs, hk, rfl, hown, htake, hbel⟩ := hrel
  have HW := mkHid hown
  have HT := mkHid htake
  have HB := mkHid hbel
  clear hown htake hbel HO HG hmk
  by_cases hlt : k < l.length
  ·obtain ⟨x, hx⟩ : ∃ x, l[k]? = some x := ⟨_, List.getElem?_eq_getElem hlt⟩
   obtain ⟨b, o, rfl, _, hl⟩ := (HL.out.below HB.out).cons (by omega)
   have c0 := get_b hl hx
   have HX := mkHid hx
   clear hl hx
   have i0 : (0 : Int) ≤ (k : Int) := by omega
   have i1 : (k : Int) < (l.length : Int) := by omega
   have HW1 := HW
   have HB1 := HB
   have hxl := HW1.out.1
   obtain ⟨u0, y0⟩ : ∃ v, wr.cell? ⟨g, k, none⟩ = some v := ⟨_, (HW1.out.cellAt (k) (by omega)).trans (List.getElem?_eq_getElem (by omega))⟩
   have z0 := HW1.out.frozenAt (k)
   clear hxl
   have HA0 := mkHid (HW1.out.stored (k) (.bool x))
   go_wp2
   go_roundw
   case rel =>
    refine ⟨k + 1, _, by omega, by go_num, HA0.out.1, step_b HX.out HW1.out.1 HT.out, ?_⟩
    exact HB1.out.setCell (p := ⟨g, k, none⟩) (Nat.le_of_eq HGG.out) _
   case measure => simp [intOf]; omega
  ·have e : k = l.length := by omega
   subst e
   have hown := HW.out
   rw [flat_upto (E := eB) HW.out.1 HT.out] at hown
   have HW := mkHid hown
   clear hown HT
   go_wp2
   go_ret
   exact ⟨g, rfl, by rw [HGG.out]; exact HW.out, HB.out⟩
end Go.Proofs.YtihpajiololfoaaGreat
namespace Go.Proofs.YtihpajiololfoaaGreat
open Go.RowKit

set_option maxRecDepth 100000 in
set_option maxHeartbeats 1600000 in
theorem szSymSS_of (ls : List (List Y)) (a : Option Addr) (c : Nat) (left : Int) (w : World) (hn : ls.length ≤ maxLen) (hr : ∀ (i : Nat) (l : List Y), ls[i]? = some l → l.length ≤ maxLen) (h0 : 0 ≤ left) (h1 : left ≤ 1048576) (hl : BndsAt w a ls) :
  Calls Tryz.prog 30 #[.slice a ls.length c, .int .i64 left] w fun e w' => w = w' ∧ ∃ r : Int, e = .returned (.int .i64 r) ∧ (0 ≤ r → ls.length ≤ 1048576 ∧ tot ls ≤ 1048576 ∧ r ≤ 1048576) := by
 unfold maxLen at hn
 have HL := mkHid hl
 have HR := mkHid hr
 clear hl hr
 by_cases hbig : left - ls.length < 0
 ·go_enter Tryz.func30, Tryz.ntmps30
  go_wp2
  go_ret
  exact ⟨rfl, -1, rfl, fun h => absurd h (by omega)⟩
 go_enter Tryz.func30, Tryz.ntmps30
 go_wp2
 go_loopw [1, 5] (fun lv i w' => ∃ (k : Nat) (z : Int), k ≤ ls.length ∧ i = .int .i64 k ∧ lv = .int .i64 z ∧ 0 ≤ z ∧ z + tot (ls.take k) ≤ 1048576 ∧ w' = w) (fun _ i _ => ls.length - (intOf i).toNat)
 case atStart => exact ⟨0, _, Nat.zero_le _, rfl, rfl, by omega, by simp [tot]; omega, rfl⟩
 case round =>
  obtain ⟨k, z, hk, rfl, rfl, hz0, hz1, rfl⟩ := hrel
  by_cases hlt : k < ls.length
  ·obtain ⟨l, hx⟩ : ∃ x, ls[k]? = some x := ⟨_, List.getElem?_eq_getElem hlt⟩
   obtain ⟨b, o, rfl, _, hl⟩ := HL.out.cons (by omega)
   obtain ⟨ao, cp, c0, _⟩ := hl k l hx
   have HM := mkHid (HR.out k l hx)
   have HT := mkHid (tot_take_succ hx)
   have HZ := mkHid hz1
   have hz2 : z ≤ 1048576 := by omega
   clear hl hx hz1
   have i0 : (0 : Int) ≤ (k : Int) := by omega
   have i1 : (k : Int) < (ls.length : Int) := by omega
   go_wp2_with fail
   refine (szSymS_any ao l.length cp z _ HM.out hz0 hz2).mono ?_
   rintro e w2 ⟨rfl, rfl⟩
   obtain ⟨r, hr⟩ : ∃ r, szN z l.length = r := ⟨_, rfl⟩
   have HQ : Hid (¬ r < 0 → 0 ≤ r ∧ r + l.length ≤ z) := mkHid fun h => by unfold szN at hr; split at hr <;> omega
   rw [hr]
   clear hr
   by_cases hneg : r < 0
   ·go_wp2
    go_ret
    exact ⟨rfl, -1, rfl, fun h => absurd h (by omega)⟩
   ·obtain ⟨hq0, hq1⟩ := HQ.out hneg
    have HQ1 := mkHid hq1
    clear hq1
    go_wp2
    go_roundw
    case rel => exact ⟨k + 1, r, by omega, by go_num, rfl, hq0, by have := HT.out; have := HZ.out; have := HQ1.out; omega, by trivial⟩
    case measure => simp [intOf]; omega
  ·have e : k = ls.length := by omega
   subst e
   have HZ := mkHid hz1
   clear hz1
   go_wp2
   go_ret
   exact ⟨rfl, z, rfl, fun _ => ⟨by omega, by have := HZ.out; rw [List.take_length] at this; omega, by have := HZ.out; omega⟩⟩
set_option maxRecDepth 100000 in
set_option maxHeartbeats 1600000 in
theorem szSeg_any (S : SG) (A : SAd) (w : World) (hb : S.B.length ≤ maxLen) (hr : ∀ (i : Nat) (l : List Y), S.B[i]? = some l → l.length ≤ maxLen) (hv : S.V.length ≤ maxLen) (hm : S.M.length ≤ maxLen) (left : Int) (h0 : 0 ≤ left) (h1 : left ≤ 1048576) (hl : SegAt w A S) :
  Calls Tryz.prog 8 #[.agg #[.slice A.a0 S.B.length A.c0, .slice A.a1 S.V.length A.c1, .slice A.a2 S.M.length A.c2], .int .i64 left] w fun e w' => Below w.heap.size w w' ∧ ∃ r : Int, e = .returned (.int .i64 r) ∧ (0 ≤ r → S.B.length ≤ 1048576 ∧ tot S.B ≤ 1048576 ∧ S.V.length ≤ 1048576 ∧ S.M.length ≤ 1048576 ∧ r ≤ 1048576) := by
 have HB := mkHid hb
 have HR := mkHid hr
 have HV := mkHid hv
 have HM := mkHid hm
 have HL := mkHid hl
 clear hb hr hv hm hl
 go_enter Tryz.func8, Tryz.ntmps8
 go_wp2_with fail
 obtain ⟨w0, hw0⟩ : ∃ x : World, w.alloc (.cells #[.slice A.a0 S.B.length A.c0, .slice A.a1 S.V.length A.c1, .slice A.a2 S.M.length A.c2] 26) = x := ⟨_, rfl⟩
 have HBe : Hid (Below w.heap.size w w0) := mkHid (by rw [← hw0]; exact bl_alloc (Below.refl _ _) _)
 obtain ⟨q0, q1, q2, _, _, _⟩ : G3 w0 w.heap.size (.slice A.a0 S.B.length A.c0) (.slice A.a1 S.V.length A.c1) (.slice A.a2 S.M.length A.c2) := by rw [← hw0]; exact G3.new _ _ _ _ _
 rw [hw0]
 clear hw0
 refine (szSymSS_of S.B A.a0 A.c0 left _ HB.out HR.out h0 h1 (HL.out.b.below HBe.out)).mono ?_
 rintro e _ ⟨rfl, r, rfl, hr⟩
 have HR1 := mkHid hr
 clear hr
 by_cases hneg : r < 0
 ·go_wp2
  go_ret
  exact ⟨HBe.out, -1, rfl, fun h => absurd h (by omega)⟩
 obtain ⟨_, _, hr1⟩ := HR1.out (by omega)
 go_wp2_with fail
 refine (szValS_any A.a1 S.V.length A.c1 r _ HV.out (by omega) hr1).mono ?_
 rintro e _ ⟨rfl, rfl⟩
 obtain ⟨r2, hr2⟩ : ∃ z, szN r S.V.length = z := ⟨_, rfl⟩
 have HQ2 : Hid (¬ r2 < 0 → S.V.length ≤ 1048576 ∧ 0 ≤ r2 ∧ r2 ≤ 1048576) := mkHid fun h => by unfold szN at hr2; split at hr2 <;> omega
 rw [hr2]
 clear hr2
 by_cases hneg2 : r2 < 0
 ·go_wp2
  go_ret
  exact ⟨HBe.out, -1, rfl, fun h => absurd h (by omega)⟩
 obtain ⟨_, _, hr3⟩ := HQ2.out hneg2
 go_wp2_with fail
 refine (szBoolS_any A.a2 S.M.length A.c2 r2 _ HM.out (by omega) hr3).mono ?_
 rintro e _ ⟨rfl, rfl⟩
 obtain ⟨r3, hr4⟩ : ∃ z, szN r2 S.M.length = z := ⟨_, rfl⟩
 have HQ3 : Hid (¬ r3 < 0 → S.M.length ≤ 1048576 ∧ 0 ≤ r3 ∧ r3 ≤ 1048576) := mkHid fun h => by unfold szN at hr4; split at hr4 <;> omega
 rw [hr4]
 clear hr4
 by_cases hneg3 : r3 < 0
 ·go_wp2
  go_ret
  exact ⟨HBe.out, -1, rfl, fun h => absurd h (by omega)⟩
 go_wp2
 go_ret
 exact ⟨HBe.out, r3, rfl, fun h => ⟨(HR1.out (by omega)).1, (HR1.out (by omega)).2.1, (HQ2.out hneg2).1, (HQ3.out h).1, (HQ3.out h).2.2⟩⟩
set_option maxRecDepth 100000 in
set_option maxHeartbeats 3200000 in
theorem toSeg_any (S : SG) (A : SAd) (w : World) (hb : S.B.length ≤ 1048576) (ht : tot S.B ≤ 1048576) (hv : S.V.length ≤ 1048576) (hm : S.M.length ≤ 1048576) (hl : SegAt w A S) :
  Calls Tryz.prog 11 #[.agg #[.slice A.a0 S.B.length A.c0, .slice A.a1 S.V.length A.c1, .slice A.a2 S.M.length A.c2]] w fun e w' => ∃ A' : SAd, e = .returned (.agg #[.slice A'.a0 S.B.length A'.c0, .slice A'.a1 S.V.length A'.c1, .slice A'.a2 S.M.length A'.c2]) ∧ OwnS w' w.heap.size w'.heap.size A' S ∧ Below w.heap.size w w' := by
 have HB := mkHid hb
 have HT := mkHid ht
 have HV := mkHid hv
 have HM := mkHid hm
 have HL := mkHid hl
 clear hb ht hv hm hl
 obtain ⟨w0, hw0⟩ : ∃ x : World, ((w.alloc (.cells #[.slice A.a0 S.B.length A.c0, .slice A.a1 S.V.length A.c1, .slice A.a2 S.M.length A.c2] 26)).alloc (.cells #[.slice none 0 0, .slice none 0 0, .slice none 0 0] 35)).alloc (.cells #[.slice none 0 0, .slice none 0 0, .slice none 0 0] 35) = x := ⟨_, rfl⟩
 obtain ⟨X, hX⟩ : ∃ x, w.heap.size = x := ⟨_, rfl⟩
 have HBe : Hid (Below X w w0) := mkHid (by rw [← hw0, ← hX]; exact bl_alloc (bl_alloc (bl_alloc (Below.refl _ _) _) _) _)
 have P0 : Hid (G3 w0 X (.slice A.a0 S.B.length A.c0) (.slice A.a1 S.V.length A.c1) (.slice A.a2 S.M.length A.c2)) := mkHid (by rw [← hw0, ← hX]; constructor <;> simp [go_sem])
 have P1 : Hid (G3 w0 (X + 1) (.slice none 0 0) (.slice none 0 0) (.slice none 0 0)) := mkHid (by rw [← hw0, ← hX]; constructor <;> simp [go_sem])
 have P2 : Hid (G3 w0 (X + 1 + 1) (.slice none 0 0) (.slice none 0 0) (.slice none 0 0)) := mkHid (by rw [← hw0, ← hX]; constructor <;> simp [go_sem])
 have HS : Hid (w0.heap.size = X + 1 + 1 + 1) := mkHid (by rw [← hw0, ← hX]; simp)
 have HX := mkHid hX
 have HL0 : Hid (SegAt w0 A S) := mkHid (HL.out.below (by rw [hX]; exact HBe.out))
 obtain ⟨q0, q1, q2, _, _, _⟩ := P0.out
 go_enter Tryz.func11, Tryz.ntmps11
 go_wp2_with fail
 clear hw0 hX
 refine (toSymSS_any S.B A.a0 A.c0 _ HB.out HT.out HL0.out.b).mono ?_
 rintro e w1 ⟨g0, rfl, ho0, hb0⟩
 have HO0 := mkHid ho0
 have R0 := mkHid (P0.out.below hb0)
 have R1 := mkHid (P1.out.below hb0)
 have R2 := mkHid (P2.out.below hb0)
 have HL1 := mkHid (HL0.out.below hb0)
 have HB1 : Hid (Below X w w1) := mkHid (HBe.out.trans (hb0.mono (by have := HS.out; omega)))
 have S1 : Hid (w0.heap.size ≤ w1.heap.size) := mkHid hb0.size
 clear q0 q1 q2 ho0 hb0 P0 P1 P2 HL0 HBe
 obtain ⟨wa, hwa⟩ : ∃ x : World, w1.setCell ⟨X + 1 + 1, 0, none⟩ (.slice (some ⟨g0, 0, none⟩) S.B.length S.B.length) = x := ⟨_, rfl⟩
 have SA : Hid (wa.heap.size = w1.heap.size) := mkHid (by rw [← hwa]; simp)
 have OA : Hid (OwnT wa (X + 1 + 1 + 1) w1.heap.size (.slice (some ⟨g0, 0, none⟩) S.B.length S.B.length) S.B) := mkHid (by rw [← hwa]; exact (HO0.out.top.mono (Nat.le_of_eq HS.out.symm) (Nat.le_refl _)).outs (outs_set w1 (X + 1 + 1) 0 _) (.inr (Nat.le_refl _)))
 have BA : Hid (Below X w wa) := mkHid (by rw [← hwa]; exact HB1.out.setCell (p := ⟨X + 1 + 1, 0, none⟩) (by show X ≤ X + 1 + 1; omega) _)
 have T0 : Hid (G3 wa X (.slice A.a0 S.B.length A.c0) (.slice A.a1 S.V.length A.c1) (.slice A.a2 S.M.length A.c2)) := mkHid (by rw [← hwa]; exact R0.out.far (by omega) _ _)
 have T1 : Hid (G3 wa (X + 1) (.slice none 0 0) (.slice none 0 0) (.slice none 0 0)) := mkHid (by rw [← hwa]; exact R1.out.far (by omega) _ _)
 have T2 : Hid (G3 wa (X + 1 + 1) (.slice (some ⟨g0, 0, none⟩) S.B.length S.B.length) (.slice none 0 0) (.slice none 0 0)) := mkHid (by rw [← hwa]; exact R2.out.set0 _)
 have LA : Hid (SegAt wa A S) := mkHid (HL.out.below (by rw [HX.out]; exact BA.out))
 obtain ⟨p0, _, _, f0, _, _⟩ := R2.out
 obtain ⟨q0, q1, q2, _, _, _⟩ := T0.out
 clear R0 R1 R2 HO0 HB1 HL1
 go_wp2_with fail
 clear hwa q0 q1 q2 p0 f0
 refine (toValS_any S.V A.a1 A.c1 _ HV.out LA.out.v).mono ?_
 rintro e w2 ⟨g1, rfl, ho1, hb1⟩
 have HO1 := mkHid ho1
 have OA2 := mkHid (OA.out.below hb1)
 have R0 := mkHid (T0.out.below hb1)
 have R1 := mkHid (T1.out.below hb1)
 have R2 := mkHid (T2.out.below hb1)
 have S2 : Hid (w1.heap.size ≤ w2.heap.size) := mkHid (by have := SA.out; have := hb1.size; omega)
 have HB2 : Hid (Below X w w2) := mkHid (BA.out.trans (hb1.mono (by have := HS.out; have := S1.out; have := SA.out; omega)))
 clear ho1 hb1 OA T0 T1 T2 LA BA
 obtain ⟨wb, hwb⟩ : ∃ x : World, w2.setCell ⟨X + 1 + 1, 1, none⟩ (.slice (some ⟨g1, 0, none⟩) S.V.length S.V.length) = x := ⟨_, rfl⟩
 have SB : Hid (wb.heap.size = w2.heap.size) := mkHid (by rw [← hwb]; simp)
 have OA : Hid (OwnT wb (X + 1 + 1 + 1) w1.heap.size (.slice (some ⟨g0, 0, none⟩) S.B.length S.B.length) S.B) := mkHid (by rw [← hwb]; exact OA2.out.outs (outs_set w2 (X + 1 + 1) 1 _) (.inr (Nat.le_refl _)))
 have OV : Hid (Own eV 55 wb (X + 1 + 1 + 1) (.slice (some ⟨g1, 0, none⟩) S.V.length S.V.length) S.V ∧ ∀ q, Value.ownBlock (.slice (some ⟨g1, 0, none⟩) S.V.length S.V.length) = some q → q < w2.heap.size) := mkHid (by
  have h := HO1.out.mono (base' := X + 1 + 1 + 1) (by have := HS.out; have := S1.out; have := SA.out; omega)
  refine ⟨?_, fun q hq => (HO1.out.lt hq).2⟩
  rw [← hwb]; exact h.outs (fun q hq => (h.lt hq).2) (outs_set w2 (X + 1 + 1) 1 _) (.inr (Nat.le_refl _)))
 have BA : Hid (Below X w wb) := mkHid (by rw [← hwb]; exact HB2.out.setCell (p := ⟨X + 1 + 1, 1, none⟩) (by show X ≤ X + 1 + 1; omega) _)
 have T0 : Hid (G3 wb X (.slice A.a0 S.B.length A.c0) (.slice A.a1 S.V.length A.c1) (.slice A.a2 S.M.length A.c2)) := mkHid (by rw [← hwb]; exact R0.out.far (by omega) _ _)
 have T1 : Hid (G3 wb (X + 1) (.slice none 0 0) (.slice none 0 0) (.slice none 0 0)) := mkHid (by rw [← hwb]; exact R1.out.far (by omega) _ _)
 have T2 : Hid (G3 wb (X + 1 + 1) (.slice (some ⟨g0, 0, none⟩) S.B.length S.B.length) (.slice (some ⟨g1, 0, none⟩) S.V.length S.V.length) (.slice none 0 0)) := mkHid (by rw [← hwb]; exact R2.out.set1 _)
 have LA : Hid (SegAt wb A S) := mkHid (HL.out.below (by rw [HX.out]; exact BA.out))
 obtain ⟨_, p1, _, _, f1, _⟩ := R2.out
 obtain ⟨q0, q1, q2, _, _, _⟩ := T0.out
 clear R0 R1 R2 HO1 HB2 OA2
 go_wp2_with fail
 clear hwb q0 q1 q2 p1 f1
 refine (toBoolS_any S.M A.a2 A.c2 _ HM.out LA.out.m).mono ?_
 rintro e w3 ⟨g2, rfl, ho2, hb2⟩
 have HO2 := mkHid ho2
 have OA3 := mkHid (OA.out.below hb2)
 have OV3 := mkHid (And.intro (OV.out.1.below hb2) OV.out.2)
 have R1 := mkHid (T1.out.below hb2)
 have R2 := mkHid (T2.out.below hb2)
 have S3 : Hid (w2.heap.size ≤ w3.heap.size) := mkHid (by have := SB.out; have := hb2.size; omega)
 have HB3 : Hid (Below X w w3) := mkHid (BA.out.trans (hb2.mono (by have := HS.out; have := S1.out; have := S2.out; have := SB.out; omega)))
 clear ho2 hb2 OA OV T0 T1 T2 LA BA
 obtain ⟨wc, hwc⟩ : ∃ x : World, w3.setCell ⟨X + 1 + 1, 2, none⟩ (.slice (some ⟨g2, 0, none⟩) S.M.length S.M.length) = x := ⟨_, rfl⟩
 have SC : Hid (wc.heap.size = w3.heap.size) := mkHid (by rw [← hwc]; simp)
 have OM : Hid (Own eB 4 w3 (X + 1 + 1 + 1) (.slice (some ⟨g2, 0, none⟩) S.M.length S.M.length) S.M ∧ ∀ q, Value.ownBlock (.slice (some ⟨g2, 0, none⟩) S.M.length S.M.length) = some q → q < w3.heap.size) := mkHid (by
  have h := HO2.out.mono (base' := X + 1 + 1 + 1) (by have := HS.out; have := S1.out; have := S2.out; have := SB.out; omega)
  exact ⟨h, fun q hq => (h.lt hq).2⟩)
 have OS : Hid (OwnS w3 (X + 1 + 1 + 1) w3.heap.size ⟨some ⟨g0, 0, none⟩, S.B.length, some ⟨g1, 0, none⟩, S.V.length, some ⟨g2, 0, none⟩, S.M.length⟩ S) := mkHid ⟨OA3.out.mono (Nat.le_refl _) (by have := S2.out; have := S3.out; omega), OV3.out.1, fun q hq => by have := OV3.out.2 q hq; have := S3.out; omega, OM.out.1, OM.out.2⟩
 have OC := mkHid ((OS.out.outs (outs_set w3 (X + 1 + 1) 2 (.slice (some ⟨g2, 0, none⟩) S.M.length S.M.length)) (.inr (Nat.le_refl _))))
 have BC : Hid (Below X w wc) := mkHid (by rw [← hwc]; exact HB3.out.setCell (p := ⟨X + 1 + 1, 2, none⟩) (by show X ≤ X + 1 + 1; omega) _)
 have T1 : Hid (G3 wc (X + 1) (.slice none 0 0) (.slice none 0 0) (.slice none 0 0)) := mkHid (by rw [← hwc]; exact R1.out.far (by omega) _ _)
 have T2 : Hid (G3 wc (X + 1 + 1) (.slice (some ⟨g0, 0, none⟩) S.B.length S.B.length) (.slice (some ⟨g1, 0, none⟩) S.V.length S.V.length) (.slice (some ⟨g2, 0, none⟩) S.M.length S.M.length)) := mkHid (by rw [← hwc]; exact R2.out.set2 _)
 rw [hwc] at OC
 obtain ⟨_, _, p2, _, _, f2⟩ := R2.out
 obtain ⟨q0, q1, q2, _, _, _⟩ := T2.out
 obtain ⟨r0, r1, r2, t0, t1, t2⟩ := T1.out
 clear R1 R2 HO2 HB3 OA3 OV3 OM OS
 have OD := mkHid (((OC.out.outs (outs_set wc (X + 1) 0 (.slice (some ⟨g0, 0, none⟩) S.B.length S.B.length)) (.inr (by omega))).outs (outs_set _ (X + 1) 1 (.slice (some ⟨g1, 0, none⟩) S.V.length S.V.length)) (.inr (by omega))).outs (outs_set _ (X + 1) 2 (.slice (some ⟨g2, 0, none⟩) S.M.length S.M.length)) (.inr (by omega)))
 have BD := mkHid (((BC.out.setCell (p := ⟨X + 1, 0, none⟩) (by show X ≤ X + 1; omega) (.slice (some ⟨g0, 0, none⟩) S.B.length S.B.length)).setCell (p := ⟨X + 1, 1, none⟩) (by show X ≤ X + 1; omega) (.slice (some ⟨g1, 0, none⟩) S.V.length S.V.length)).setCell (p := ⟨X + 1, 2, none⟩) (by show X ≤ X + 1; omega) (.slice (some ⟨g2, 0, none⟩) S.M.length S.M.length))
 go_wp2
 refine bodyPost_ret (v := .agg #[.slice (some ⟨g0, 0, none⟩) S.B.length S.B.length, .slice (some ⟨g1, 0, none⟩) S.V.length S.V.length, .slice (some ⟨g2, 0, none⟩) S.M.length S.M.length]) (by simp [results, Tryz.results11, go_sem, *]) rfl ⟨⟨some ⟨g0, 0, none⟩, S.B.length, some ⟨g1, 0, none⟩, S.V.length, some ⟨g2, 0, none⟩, S.M.length⟩, rfl, ?_, ?_⟩
 ·rw [HX.out]
  exact OD.out.mono (by omega) (by have := SC.out; simp; omega)
 ·rw [HX.out]
  exact BD.out
end Go.Proofs.YtihpajiololfoaaGreat
namespace Go.Proofs.YtihpajiololfoaaGreat
open Go.ChangeShapes Go.WideShapes Go.ChangeAt Go.RowKit Go.Joins Go.Deep

theorem Tryz.own : ownKnob Tryz.prog.godebug = none := by kernel_rfl
theorem Tryz.laidOut : laidOutB Tryz.prog = true := by kernel_rfl
theorem Tryz.cells122 : Tryz.prog.cellsOf 122 = 3 := by kernel_rfl
theorem Tryz.cells58 : Tryz.prog.cellsOf 58 = 2 := by kernel_rfl
theorem Tryz.cells3 : Tryz.prog.cellsOf 3 = 1 := by kernel_rfl
theorem Tryz.cells4 : Tryz.prog.cellsOf 4 = 1 := by kernel_rfl
theorem Tryz.cells46 : Tryz.prog.cellsOf 46 = 2 := by kernel_rfl
theorem Tryz.cells110 : Tryz.prog.cellsOf 110 = 1 := by kernel_rfl
theorem Tryz.cells22 : Tryz.prog.cellsOf 22 = 1 := by kernel_rfl
theorem Tryz.cells23 : Tryz.prog.cellsOf 23 = 1 := by kernel_rfl
theorem Tryz.cells24 : Tryz.prog.cellsOf 24 = 1 := by kernel_rfl
theorem Tryz.cells26 : Tryz.prog.cellsOf 26 = 3 := by kernel_rfl

variable {H : Type} {enc : TypeId × Value → H} {W : World}

set_option maxRecDepth 100000 in
theorem open_val3 {n : Nat} {cs : List Value} {x : DataW H × List MemPlace} (h : DataW.trod enc Tryz.prog W 0 (fun _ => true) true n 122 cs = some x) : ∃ y : VV, cs = eV.enc y := by
 obtain ⟨y0, y1, m, _, hlen, h0, h1⟩ := trod_struct2 Tryz.underlying122 h
 rw [Tryz.cells122] at hlen
 match cs, hlen with
 | [c0, c1, c2], _ =>
  simp [Tryz.cells58, Tryz.cells4] at h0 h1
  obtain ⟨z0, z1, m', _, _, g0, g1⟩ := trod_struct2 Tryz.underlying58 h0
  simp [Tryz.cells3] at g0 g1
  obtain ⟨a, e0, _, _⟩ := DataW.trod_int Tryz.underlying3 g0
  obtain ⟨b, e1, _, _⟩ := DataW.trod_int Tryz.underlying3 g1
  obtain ⟨s, e2, _⟩ := DataW.trod_bool Tryz.underlying4 h1
  simp at e0 e1 e2
  subst e0 e1 e2
  exact ⟨(a, b, s), rfl⟩
set_option maxRecDepth 100000 in
theorem open_sym2 {n : Nat} {cs : List Value} {x : DataW H × List MemPlace} (h : DataW.trod enc Tryz.prog W 0 (fun _ => true) true n 46 cs = some x) : ∃ y : Y, cs = eY.enc y := by
 obtain ⟨y0, y1, m, _, hlen, h0, h1⟩ := trod_struct2 Tryz.underlying46 h
 rw [Tryz.cells46] at hlen
 match cs, hlen with
 | [c0, c1], _ =>
  simp [Tryz.cells3] at h0 h1
  obtain ⟨a, e0, _, _⟩ := DataW.trod_int Tryz.underlying3 h0
  obtain ⟨b, e1, _, _⟩ := DataW.trod_int Tryz.underlying3 h1
  simp at e0 e1
  subst e0 e1
  exact ⟨(a, b), rfl⟩
theorem open_bool1 {n : Nat} {cs : List Value} {x : DataW H × List MemPlace} (h : DataW.trod enc Tryz.prog W 0 (fun _ => true) true n 4 cs = some x) (hl : cs.length = 1) : ∃ y : Bool, cs = eB.enc y := by
 obtain ⟨s, e, _⟩ := DataW.trod_bool Tryz.underlying4 h
 match cs, hl with
 | [c], _ => simp at e; subst e; exact ⟨s, rfl⟩
theorem list_of_fn {α : Type} (f : Nat → α) (n : Nat) : ∃ l : List α, l.length = n ∧ ∀ i x, l[i]? = some x → i < n ∧ x = f i := by
 refine ⟨(List.range n).map f, by simp, fun i x hx => ?_⟩
 obtain ⟨hi, e⟩ := List.getElem?_eq_some_iff.1 hx
 simp at hi e
 exact ⟨hi, e.symm⟩
/-- A slice that came in, out of what its elements are. -/
theorem open_row {α : Type} (E : El α) [Inhabited α] {T U : TypeId} (hT : Tryz.prog.underlying T = some (.slice U)) (hU : Tryz.prog.cellsOf U = E.k)
  (he : ∀ {n : Nat} {cs : List Value} {x : DataW H × List MemPlace}, DataW.trod enc Tryz.prog W 0 (fun _ => true) true n U cs = some x → cs.length = E.k → ∃ y : α, cs = E.enc y)
  {n : Nat} {a : Option Addr} {len cap : Nat} {x : DataW H × List MemPlace} (h : DataW.trod enc Tryz.prog W 0 (fun _ => true) true n T [.slice a len cap] = some x) :
  ∃ l : List α, len = l.length ∧ l.length ≤ maxLen ∧ At E W a l := by
 rcases open_slice hT h with ⟨hcs, _⟩ | ⟨ad, len', cap', m, n, D, Pl, hcs, _, hl, hm, hmm, _, hall⟩
 ·simp at hcs
  exact ⟨[], hcs.2.1, by simp, .inl rfl⟩
 ·simp at hcs
  obtain ⟨rfl, rfl, rfl⟩ := hcs
  by_cases h0 : len = 0
  ·exact ⟨[], h0, by simp, .inl rfl⟩
  simp only [if_true] at hmm
  rw [hU] at hall
  have each : ∀ i, i < len → ∃ y : α, ∀ (j : Nat) (v : Value), (E.enc y)[j]? = some v → W.cell? (ad.add (i * E.k + j)) = some v := by
   intro i hi
   obtain ⟨cs', h1, h2⟩ := hall i (by omega)
   obtain ⟨hq1, hq2, hc⟩ := World.cells?_some h1
   have hcl : cs'.length = E.k := by first | exact hq1 | exact hq2
   obtain ⟨y, rfl⟩ := he h2 hcl
   refine ⟨y, fun j v hv => ?_⟩
   have hj : j < E.k := by have := (List.getElem?_eq_some_iff.1 hv).1; rwa [E.len] at this
   have e0 := hc j (by first | exact hj | omega)
   rw [add_add] at e0
   rw [e0]
   first | exact hv | simpa using hv
  obtain ⟨f, hf'⟩ := choose_lt each
  obtain ⟨l, hwl, hws⟩ := list_of_fn f len
  obtain ⟨b, off, spot⟩ := ad
  have hsp : spot = none := by
   have hp := E.pos
   have hq := E.len (f 0)
   obtain ⟨v0, hj⟩ : ∃ v, (E.enc (f 0))[0]? = some v := ⟨_, List.getElem?_eq_getElem (by omega)⟩
   have := World.cell?_spot (hf' 0 (by omega) 0 v0 hj)
   simpa [Addr.add] using this
  subst hsp
  refine ⟨l, hwl.symm, by omega, .inr ⟨b, off, rfl, fun i x hx j v hv => ?_⟩⟩
  obtain ⟨hi, rfl⟩ := hws i x hx
  have e0 := hf' i hi j v hv
  rw [add_plain] at e0
  rw [Nat.add_assoc]
  exact e0
instance : Inhabited (List Y × Option Addr × Nat) := ⟨([], none, 0)⟩
theorem open_bnds {n : Nat} {a : Option Addr} {len cap : Nat} {x : DataW H × List MemPlace} (h : DataW.trod enc Tryz.prog W 0 (fun _ => true) true n 22 [.slice a len cap] = some x) :
  ∃ ls : List (List Y), len = ls.length ∧ ls.length ≤ maxLen ∧ (∀ (i : Nat) (l : List Y), ls[i]? = some l → l.length ≤ maxLen) ∧ BndsAt W a ls := by
 rcases open_slice Tryz.underlying22 h with ⟨hcs, _⟩ | ⟨ad, len', cap', m, n, D, Pl, hcs, _, hl, hm, hmm, _, hall⟩
 ·simp at hcs
  exact ⟨[], hcs.2.1, by simp, fun i l h => by simp at h, .inl rfl⟩
 ·simp at hcs
  obtain ⟨rfl, rfl, rfl⟩ := hcs
  by_cases h0 : len = 0
  ·exact ⟨[], h0, by simp, fun i l h => by simp at h, .inl rfl⟩
  simp only [if_true] at hmm
  rw [Tryz.cells110] at hall
  have each : ∀ i, i < len → ∃ y : List Y × Option Addr × Nat, W.cell? (ad.add i) = some (.slice y.2.1 y.1.length y.2.2) ∧ y.1.length ≤ maxLen ∧ At eY W y.2.1 y.1 := by
   intro i hi
   obtain ⟨cs', h1, h2⟩ := hall i (by omega)
   obtain ⟨_, hcl, hc⟩ := World.cells?_some h1
   obtain ⟨u, a1, l1, c1, rfl, rfl⟩ : ∃ (u : Value) (a1 : Option Addr) (l1 c1 : Nat), cs' = [u] ∧ u = .slice a1 l1 c1 := by
    rcases open_slice Tryz.underlying110 h2 with ⟨hcs, _⟩ | ⟨ad, len', cap', _, _, _, _, hcs, _⟩
    ·exact ⟨_, none, 0, 0, hcs, rfl⟩
    ·exact ⟨_, some ad, len', cap', hcs, rfl⟩
   obtain ⟨l, rfl, hml, hat⟩ := open_row eY Tryz.underlying110 Tryz.cells46 (fun h _ => open_sym2 h) h2
   refine ⟨(l, a1, c1), ?_, hml, hat⟩
   have e0 := hc 0 (by omega)
   rw [add_add] at e0
   simpa using e0
  obtain ⟨f, hf'⟩ := choose_lt each
  obtain ⟨ys, hwl, hws⟩ := list_of_fn f len
  obtain ⟨b, off, spot⟩ := ad
  have hsp : spot = none := by
   have := World.cell?_spot (hf' 0 (by omega)).1
   simpa [Addr.add] using this
  subst hsp
  refine ⟨ys.map (·.1), by simp [hwl], by simp; omega, fun i l hl => ?_, .inr ⟨b, off, rfl, fun i l hl => ?_⟩⟩
  ·rw [List.getElem?_map] at hl
   obtain ⟨y, hy, rfl⟩ := Option.map_eq_some_iff.1 hl
   obtain ⟨hi, rfl⟩ := hws i y hy
   exact (hf' i hi).2.1
  ·rw [List.getElem?_map] at hl
   obtain ⟨y, hy, rfl⟩ := Option.map_eq_some_iff.1 hl
   obtain ⟨hi, rfl⟩ := hws i y hy
   obtain ⟨e0, _, e1⟩ := hf' i hi
   rw [add_plain] at e0
   exact ⟨_, _, e0, e1⟩
structure Lim (S : SG) : Prop where
 b : S.B.length ≤ maxLen
 r : ∀ (i : Nat) (l : List Y), S.B[i]? = some l → l.length ≤ maxLen
 v : S.V.length ≤ maxLen
 m : S.M.length ≤ maxLen
theorem slice_cs {t e : TypeId} {fuel : Nat} {cs : List Value} {x : DataW H × List MemPlace} (ht : Tryz.prog.underlying t = some (.slice e)) (h : DataW.trod enc Tryz.prog W 0 (fun _ => true) true fuel t cs = some x) : ∃ (a : Option Addr) (l c : Nat), cs = [.slice a l c] := by
 rcases open_slice ht h with ⟨hcs, _⟩ | ⟨ad, len', cap', _, _, _, _, hcs, _⟩
 ·exact ⟨none, 0, 0, hcs⟩
 ·exact ⟨some ad, len', cap', hcs⟩
set_option maxRecDepth 100000 in
theorem open_seg {b0 : Nat} {v : Value} {d : DataW H} {p : List MemPlace} (hv : Value.okWide Tryz.prog W .any b0 26 v) (h : DataW.Trod enc Tryz.prog W 0 (fun _ => true) true 26 v d p) :
  ∃ (S : SG) (A : SAd), v = .agg #[.slice A.a0 S.B.length A.c0, .slice A.a1 S.V.length A.c1, .slice A.a2 S.M.length A.c2] ∧ Lim S ∧ SegAt W A S := by
 obtain ⟨cs, rfl, hsz⟩ := okWide_struct Tryz.underlying26 hv
 obtain ⟨c0, c1, c2, rfl⟩ := array3 (hsz.trans Tryz.cells26)
 obtain ⟨fuel, hf⟩ := h
 obtain ⟨y0, y1, y2, m, _, hlen, h0, h1, h2⟩ := trod_struct3 Tryz.underlying26 hf
 simp [Value.cells, Tryz.cells22, Tryz.cells23, Tryz.cells24] at h0 h1 h2
 obtain ⟨a0, l0, r0, e0⟩ := slice_cs Tryz.underlying22 h0
 obtain ⟨a1, l1, r1, e1⟩ := slice_cs Tryz.underlying23 h1
 obtain ⟨a2, l2, r2, e2⟩ := slice_cs Tryz.underlying24 h2
 simp at e0 e1 e2
 subst e0 e1 e2
 obtain ⟨B, rfl, hb, hr, hB⟩ := open_bnds h0
 obtain ⟨V, rfl, hv', hV⟩ := open_row eV Tryz.underlying23 Tryz.cells122 (fun h _ => open_val3 h) h1
 obtain ⟨M, rfl, hm, hM⟩ := open_row eB Tryz.underlying24 Tryz.cells4 (fun h hl => open_bool1 h hl) h2
 exact ⟨⟨B, V, M⟩, ⟨a0, r0, a1, r1, a2, r2⟩, rfl, ⟨hb, hr, hv', hm⟩, ⟨hB, hV, hM⟩⟩
end Go.Proofs.YtihpajiololfoaaGreat
namespace Go.Proofs.YtihpajiololfoaaGreat.Q
open Go.ChangeShapes Go.WideShapes Go.ChangeAt Go.RowKit Go.Joins

theorem Tryz.own : ownKnob Tryz.prog.godebug = none := by kernel_rfl
theorem Tryz.laidOut : laidOutB Tryz.prog = true := by kernel_rfl
theorem Tryz.cells58 : Tryz.prog.cellsOf 58 = 2 := by kernel_rfl
theorem Tryz.cells46 : Tryz.prog.cellsOf 46 = 2 := by kernel_rfl
theorem open_intsv {H : Type} {enc : TypeId × Value → H} {W : World} {n : Nat} {v : Value} {x : DataW H × List MemPlace} (h : DataW.trod enc Tryz.prog W 0 (fun _ => true) true n 27 [v] = some x) :
    ∃ (a : Option Addr) (c : Nat) (l : List Int), v = .slice a l.length c ∧ l.length ≤ maxLen ∧ IntsAt W a l := by
  rcases open_ints Tryz.underlying27 Tryz.underlying3 (by kernel_rfl) h with ⟨hcs, _⟩ | ⟨ad, len, cap, zs, hcs, _, hl, hm, hz, _, hcell, _⟩
  · simp at hcs
    subst hcs
    exact ⟨none, 0, [], rfl, by unfold maxLen; simp, .inl rfl⟩
  · simp at hcs
    subst hcs
    have hzl : zs.length = cap := by simpa using hz
    refine ⟨some ad, cap, zs.take len, by simp; omega, by simp; omega, ?_⟩
    by_cases h0 : len = 0
    · exact .inl (by rw [h0]; simp)
    · obtain ⟨b, off, rfl, hc⟩ := ints_at hcell (by omega)
      refine .inr ⟨b, off, rfl, fun i y hy => ?_⟩
      have hi : i < len := by have := (List.getElem?_eq_some_iff.1 hy).1; simp at this; omega
      rw [hc i (by omega)]
      rw [List.getElem?_take, if_pos hi] at hy
      rw [List.getD_eq_getElem?_getD, hy]; rfl
end Go.Proofs.YtihpajiololfoaaGreat.Q
