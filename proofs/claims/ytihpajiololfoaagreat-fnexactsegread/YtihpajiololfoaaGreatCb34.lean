/-
  CONTRACTS of the law's toSymSS, szSymSS.
  CONTRACTS of the law's toValS.
  CONTRACTS of the law's toBoolS.
  CONTRACTS of the law's szSymSS, szSeg, toSeg, eqSeg.
-/
import Derived.Test.YtihpajiololfoaaGreatCb03
import Derived.Test.YtihpajiololfoaaGreatCb14
import Derived.Test.YtihpajiololfoaaGreatCb04
import Derived.Test.YtihpajiololfoaaGreatCb15
namespace Go.Proofs.YtihpajiololfoaaGreat
open Go.RowKit

theorem Tryz.info113 : (Tryz.prog.info? 113).map (fun i => (i.zero, i.size, i.bytes)) = some (some (.slice none 0 0), 1, 24) := by kernel_rfl
set_option maxRecDepth 100000 in
set_option maxHeartbeats 1600000 in
theorem toSymSS_any (ls : List (List Y)) (a : Option Addr) (c : Nat) (w : World) (hn : ls.length ≤ 1048576) (ht : tot ls ≤ 1048576) (hl : BndsAt w a ls) :
  Calls Tryz.prog 37 #[.slice a ls.length c] w fun e w' => ∃ g, e = .returned (.slice (some ⟨g, 0, none⟩) ls.length ls.length) ∧ OwnYY w' w.heap.size (.slice (some ⟨g, 0, none⟩) ls.length ls.length) ls ∧ Below w.heap.size w w' := by
 obtain ⟨i0, hi, hz⟩ := Option.map_eq_some_iff.1 Tryz.info113
 simp only [Prod.mk.injEq] at hz
 obtain ⟨hz0, hz1, hz2⟩ := hz
 obtain ⟨w1, hmk, hown0, hg0⟩ := run_make_full (P := Tryz.prog) w w.heap.size 32 113 i0 _ 1 Tryz.underlying32 hi hz0 hz1 .i64 .i64 ls.length (by rw [hz2]; omega) (by unfold maxLen; omega) (Nat.le_refl _)
 obtain ⟨g, hgg⟩ : ∃ g, w.heap.size = g := ⟨_, rfl⟩
 have HGG := mkHid hgg
 rw [hgg] at hmk hown0
 have HL := mkHid hl
 have HO := mkHid hown0
 have HT := mkHid ht
 have HG := mkHid (Below.grown (Below.refl w.heap.size w) hg0 (Nat.le_refl _) (fun k hk => by cases hk))
 clear hl hown0 hg0 hi hz0 hz1 hz2 hgg ht
 go_enter Tryz.func37, Tryz.ntmps37
 go_wp2
 go_loopw [4] (fun i w' => ∃ (k : Nat) (xs : List Value), k ≤ ls.length ∧ i = .int .i64 k ∧ w'.ownsRow g 113 1 (.slice (some ⟨g, 0, none⟩) ls.length ls.length) ls.length xs ∧ Inn w' g (xs.take k) (ls.take k) ∧ Below w.heap.size w w') (fun i _ => ls.length - (intOf i).toNat)
 case atStart => exact ⟨0, _, Nat.zero_le _, rfl, HO.out, by simpa using Inn.nil _ _, HG.out⟩
 case round =>
  obtain ⟨k, xs, hk, rfl, hown, hinn, hbel⟩ := hrel
  have HW := mkHid hown
  have HI := mkHid hinn
  have HB := mkHid hbel
  clear hown hinn hbel HO HG hmk
  by_cases hlt : k < ls.length
  ·obtain ⟨l, hx⟩ : ∃ x, ls[k]? = some x := ⟨_, List.getElem?_eq_getElem hlt⟩
   obtain ⟨b, o, rfl, _, hl⟩ := (HL.out.below HB.out).cons (by omega)
   obtain ⟨ao, cp, c0, hat⟩ := hl k l hx
   have HX := mkHid hx
   have HAT := mkHid hat
   have hll := tot_get hx
   clear hl hx hat
   have i0 : (0 : Int) ≤ (k : Int) := by omega
   have i1 : (k : Int) < (ls.length : Int) := by omega
   go_wp2_with fail
   refine (toSymS_any l ao cp _ (by have := HT.out; omega) HAT.out).mono ?_
   rintro e w2 ⟨gn, rfl, hon, hb1⟩
   have HW1 := mkHid (owns_below HW.out hb1)
   have HI1 := mkHid (HI.out.below hb1)
   have HB1 := mkHid (below_step HB.out hb1)
   have HN := mkHid hon
   have HLT : Hid (∀ (i : Nat) (v : Value) (q : Nat), (xs.take k)[i]? = some v → v.ownBlock = some q → q < wr.heap.size) := mkHid fun i v q h1 h2 => (HI.out.lt h1 h2).2
   have hxl := HW1.out.1
   have hgw : g < wr.heap.size := (World.ownsRow.lt HW.out g rfl).2
   have HGW := mkHid hgw
   have HGS : Hid (wr.heap.size ≤ gn) := mkHid ((HN.out.lt (q := gn) rfl).1)
   clear hb1 hon HB HW HI c0 hgw
   obtain ⟨u0, y0⟩ : ∃ v, w2.cell? ⟨g, k, none⟩ = some v := ⟨_, (HW1.out.cellAt k (by omega)).trans (List.getElem?_eq_getElem (by omega))⟩
   have z0 := HW1.out.frozenAt k
   have HA := mkHid (HW1.out.stored k (.slice (some ⟨gn, 0, none⟩) l.length l.length))
   have HXL := mkHid hxl
   clear hxl
   go_wp2
   go_roundw
   case rel =>
    have hxl := HXL.out
    refine ⟨k + 1, _, by omega, by go_num, HA.out.1, ?_, HB1.out.setCell (p := ⟨g, k, none⟩) (Nat.le_of_eq HGG.out) _⟩
    have e1 : (xs.set k (.slice (some ⟨gn, 0, none⟩) l.length l.length)).take (k + 1) = xs.take k ++ [.slice (some ⟨gn, 0, none⟩) l.length l.length] := by
     rw [List.take_succ_eq_append_getElem (by simp; omega)]
     simp [List.take_set_of_le]
    rw [e1, take_snoc HX.out]
    have hg2 := HA.out.2
    refine Inn.snoc (n0 := wr.heap.size) ?_ HLT.out (Nat.le_of_lt HGW.out) ?_
    ·refine HI1.out.keptBy hg2 fun q cur e hc => ?_
     have e' : g = q := Option.some.inj e
     subst e'
     rcases HW1.out.2 with ⟨e2, _⟩ | ⟨g2, _, cur2, e2, _, hg3, _⟩
     ·simp at e2
     ·simp at e2
      obtain ⟨rfl, rfl⟩ := e2
      rw [hc] at hg3
      simp at hg3
    ·refine HN.out.keptBy hg2 fun q hq e => ?_
     have e' : g = q := Option.some.inj e
     have e'' : gn = q := Option.some.inj hq
     have h1 := HGS.out
     have h2 := HGW.out
     omega
   case measure => simp [intOf]; omega
  ·have e : k = ls.length := by omega
   subst e
   have hinn := HI.out
   have hxl := HW.out.1
   rw [List.take_of_length_le (by omega), List.take_length] at hinn
   have HI := mkHid hinn
   clear hinn hxl
   go_wp2
   go_ret
   exact ⟨g, rfl, ⟨xs, by rw [HGG.out]; exact HW.out, by rw [HGG.out]; exact HI.out⟩, HB.out⟩
/-- What is left of a size. -/
def szN (left : Int) (n : Nat) : Int := if left - n < 0 then -1 else left - n
theorem szSymS_any (a : Option Addr) (n c : Nat) (left : Int) (w : World) (hn : n ≤ maxLen) (h0 : 0 ≤ left) (h1 : left ≤ 1048576) :
  Calls Tryz.prog 74 #[.slice a n c, .int .i64 left] w fun e w' => e = .returned (.int .i64 (szN left n)) ∧ w = w' := by
 unfold maxLen at hn
 unfold szN
 by_cases h : left - n < 0
 ·rw [if_pos h]
  go_enter Tryz.func74, Tryz.ntmps74
  go_wp2
  go_ret
  exact ⟨rfl, rfl⟩
 ·rw [if_neg h]
  go_enter Tryz.func74, Tryz.ntmps74
  go_wp2
  go_ret
  exact ⟨rfl, rfl⟩
theorem szValS_any (a : Option Addr) (n c : Nat) (left : Int) (w : World) (hn : n ≤ maxLen) (h0 : 0 ≤ left) (h1 : left ≤ 1048576) :
  Calls Tryz.prog 31 #[.slice a n c, .int .i64 left] w fun e w' => e = .returned (.int .i64 (szN left n)) ∧ w = w' := by
 unfold maxLen at hn
 unfold szN
 by_cases h : left - n < 0
 ·rw [if_pos h]
  go_enter Tryz.func31, Tryz.ntmps31
  go_wp2
  go_ret
  exact ⟨rfl, rfl⟩
 ·rw [if_neg h]
  go_enter Tryz.func31, Tryz.ntmps31
  go_wp2
  go_ret
  exact ⟨rfl, rfl⟩
theorem szBoolS_any (a : Option Addr) (n c : Nat) (left : Int) (w : World) (hn : n ≤ maxLen) (h0 : 0 ≤ left) (h1 : left ≤ 1048576) :
  Calls Tryz.prog 32 #[.slice a n c, .int .i64 left] w fun e w' => e = .returned (.int .i64 (szN left n)) ∧ w = w' := by
 unfold maxLen at hn
 unfold szN
 by_cases h : left - n < 0
 ·rw [if_pos h]
  go_enter Tryz.func32, Tryz.ntmps32
  go_wp2
  go_ret
  exact ⟨rfl, rfl⟩
 ·rw [if_neg h]
  go_enter Tryz.func32, Tryz.ntmps32
  go_wp2
  go_ret
  exact ⟨rfl, rfl⟩
end Go.Proofs.YtihpajiololfoaaGreat
namespace Go.Proofs.YtihpajiololfoaaGreat
open Go.RowKit

theorem Tryz.info55 : (Tryz.prog.info? 55).map (fun i => (i.zero, i.size, i.bytes)) = some (some (.agg #[.int .i64 0, .int .i64 0, .bool false]), 3, 24) := by kernel_rfl
set_option maxRecDepth 100000 in
set_option maxHeartbeats 1600000 in
theorem toValS_any (l : List VV) (a : Option Addr) (c : Nat) (w : World) (hn : l.length ≤ 1048576) (hl : At eV w a l) :
  Calls Tryz.prog 38 #[.slice a l.length c] w fun e w' => ∃ g, e = .returned (.slice (some ⟨g, 0, none⟩) l.length l.length) ∧ Own eV 55 w' w.heap.size (.slice (some ⟨g, 0, none⟩) l.length l.length) l ∧ Below w.heap.size w w' := by
 obtain ⟨i0, hi, hz⟩ := Option.map_eq_some_iff.1 Tryz.info55
 simp only [Prod.mk.injEq] at hz
 obtain ⟨hz0, hz1, hz2⟩ := hz
 obtain ⟨w1, hmk, hown0, hg0⟩ := run_make_full (P := Tryz.prog) w w.heap.size 33 55 i0 _ 3 Tryz.underlying33 hi hz0 hz1 .i64 .i64 l.length (by rw [hz2]; omega) (by unfold maxLen; omega) (Nat.le_refl _)
 obtain ⟨g, hgg⟩ : ∃ g, w.heap.size = g := ⟨_, rfl⟩
 have HGG := mkHid hgg
 rw [hgg] at hmk hown0
 have HL := mkHid hl
 have HO := mkHid hown0
 have HG := mkHid (Below.grown (Below.refl w.heap.size w) hg0 (Nat.le_refl _) (fun k hk => by cases hk))
 clear hl hown0 hg0 hi hz0 hz1 hz2 hgg
 go_enter Tryz.func38, Tryz.ntmps38
 go_wp2
 go_loopw [4] (fun i w' => ∃ (k : Nat) (xs : List Value), k ≤ l.length ∧ i = .int .i64 k ∧ w'.ownsRow g 55 3 (.slice (some ⟨g, 0, none⟩) l.length l.length) l.length xs ∧ xs.take (k * 3) = eV.flat (l.take k) ∧ Below w.heap.size w w') (fun i _ => l.length - (intOf i).toNat)
 case atStart => exact ⟨0, _, Nat.zero_le _, rfl, HO.out, by simp [El.flat], HG.out⟩
 case round =>
  obtain ⟨k, xs, hk, rfl, hown, htake, hbel⟩ := hrel
  have HW := mkHid hown
  have HT := mkHid htake
  have HB := mkHid hbel
  clear hown htake hbel HO HG hmk
  by_cases hlt : k < l.length
  ·obtain ⟨x, hx⟩ : ∃ x, l[k]? = some x := ⟨_, List.getElem?_eq_getElem hlt⟩
   obtain ⟨b, o, rfl, _, hl⟩ := (HL.out.below HB.out).cons (by omega)
   obtain ⟨c0, c1, c2⟩ := get_v hl hx
   have HX := mkHid hx
   clear hl hx
   have i0 : (0 : Int) ≤ (k : Int) := by omega
   have i1 : (k : Int) < (l.length : Int) := by omega
   go_wp2_with fail
   refine (toVal_any x.1 x.2.1 x.2.2 _).mono ?_
   rintro e w2 ⟨rfl, hb1⟩
   have HW1 := mkHid (owns_below HW.out hb1)
   have HB1 := mkHid (below_step HB.out hb1)
   have hxl := HW1.out.1
   clear hb1 HB HW c0 c1 c2
   obtain ⟨u0, y0⟩ : ∃ v, w2.cell? ⟨g, k * 3, none⟩ = some v := ⟨_, (HW1.out.cellAt (k * 3) (by omega)).trans (List.getElem?_eq_getElem (by omega))⟩
   have z0 := HW1.out.frozenAt (k * 3)
   obtain ⟨u1, y1⟩ : ∃ v, w2.cell? ⟨g, k * 3 + 1, none⟩ = some v := ⟨_, (HW1.out.cellAt (k * 3 + 1) (by omega)).trans (List.getElem?_eq_getElem (by omega))⟩
   have z1 := HW1.out.frozenAt (k * 3 + 1)
   obtain ⟨u2, y2⟩ : ∃ v, w2.cell? ⟨g, k * 3 + 2, none⟩ = some v := ⟨_, (HW1.out.cellAt (k * 3 + 2) (by omega)).trans (List.getElem?_eq_getElem (by omega))⟩
   have z2 := HW1.out.frozenAt (k * 3 + 2)
   clear hxl
   have HA0 := mkHid (HW1.out.stored (k * 3) (.int .i64 x.1))
   have HA1 := mkHid (HA0.out.1.stored (k * 3 + 1) (.int .i64 x.2.1))
   have HA2 := mkHid (HA1.out.1.stored (k * 3 + 2) (.bool x.2.2))
   go_wp2
   go_roundw
   case rel =>
    refine ⟨k + 1, _, by omega, by go_num, HA2.out.1, step_v HX.out HW1.out.1 HT.out, ?_⟩
    exact ((HB1.out.setCell (p := ⟨g, k * 3, none⟩) (Nat.le_of_eq HGG.out) _).setCell (p := ⟨g, k * 3 + 1, none⟩) (Nat.le_of_eq HGG.out) _).setCell (p := ⟨g, k * 3 + 2, none⟩) (Nat.le_of_eq HGG.out) _
   case measure => simp [intOf]; omega
  ·have e : k = l.length := by omega
   subst e
   have hown := HW.out
   rw [flat_upto (E := eV) HW.out.1 HT.out] at hown
   have HW := mkHid hown
   clear hown HT
   go_wp2
   go_ret
   exact ⟨g, rfl, by rw [HGG.out]; exact HW.out, HB.out⟩
end Go.Proofs.YtihpajiololfoaaGreat
namespace Go.Proofs.YtihpajiololfoaaGreat
open Go.RowKit

theorem Tryz.info4 : (Tryz.prog.info? 4).map (fun i => (i.zero, i.size, i.bytes)) = some (some (.bool false), 1, 1) := by kernel_rfl
set_option maxRecDepth 100000 in
set_option maxHeartbeats 1600000 in
theorem toBoolS_any (l : List Bool) (a : Option Addr) (c : Nat) (w : World) (hn : l.length ≤ 1048576) (hl : At eB w a l) :
  Calls Tryz.prog 39 #[.slice a l.length c] w fun e w' => ∃ g, e = .returned (.slice (some ⟨g, 0, none⟩) l.length l.length) ∧ Own eB 4 w' w.heap.size (.slice (some ⟨g, 0, none⟩) l.length l.length) l ∧ Below w.heap.size w w' := by
 obtain ⟨i0, hi, hz⟩ := Option.map_eq_some_iff.1 Tryz.info4
 simp only [Prod.mk.injEq] at hz
 obtain ⟨hz0, hz1, hz2⟩ := hz
 obtain ⟨w1, hmk, hown0, hg0⟩ := run_make_full (P := Tryz.prog) w w.heap.size 24 4 i0 _ 1 Tryz.underlying24 hi hz0 hz1 .i64 .i64 l.length (by rw [hz2]; omega) (by unfold maxLen; omega) (Nat.le_refl _)
 obtain ⟨g, hgg⟩ : ∃ g, w.heap.size = g := ⟨_, rfl⟩
 have HGG := mkHid hgg
 rw [hgg] at hmk hown0
 have HL := mkHid hl
 have HO := mkHid hown0
 have HG := mkHid (Below.grown (Below.refl w.heap.size w) hg0 (Nat.le_refl _) (fun k hk => by cases hk))
 clear hl hown0 hg0 hi hz0 hz1 hz2 hgg
 go_enter Tryz.func39, Tryz.ntmps39
 go_wp2
 go_loopw [4] (fun i w' => ∃ (k : Nat) (xs : List Value), k ≤ l.length ∧ i = .int .i64 k ∧ w'.ownsRow g 4 1 (.slice (some ⟨g, 0, none⟩) l.length l.length) l.length xs ∧ xs.take (k * 1) = eB.flat (l.take k) ∧ Below w.heap.size w w') (fun i _ => l.length - (intOf i).toNat)
 case atStart => exact ⟨0, _, Nat.zero_le _, rfl, HO.out, by simp [El.flat], HG.out⟩
 case round =>
  obtain ⟨k, xs, hk, rfl, hown, htake, hbel⟩ := hrel
  have HW := mkHid hown
  have HT := mkHid htake
  have HB := mkHid hbel
  clear hown htake hbel HO HG hmk
  by_cases hlt : k < l.length
  ·obtain ⟨x, hx⟩ : ∃ x, l[k]? = some x := ⟨_, List.getElem?_eq_getElem hlt⟩
   obtain ⟨b, o, rfl, _, hl⟩ := (HL.out.below HB.out).cons (by omega)
   have c0 := get_b hl hx
   have HX := mkHid hx
   clear hl hx
   have i0 : (0 : Int) ≤ (k : Int) := by omega
   have i1 : (k : Int) < (l.length : Int) := by omega
   have HW1 := HW
   have HB1 := HB
   have hxl := HW1.out.1
   obtain ⟨u0, y0⟩ : ∃ v, wr.cell? ⟨g, k, none⟩ = some v := ⟨_, (HW1.out.cellAt (k) (by omega)).trans (List.getElem?_eq_getElem (by omega))⟩
   have z0 := HW1.out.frozenAt (k)
   clear hxl
   have HA0 := mkHid (HW1.out.stored (k) (.bool x))
   go_wp2
   go_roundw
   case rel =>
    refine ⟨k + 1, _, by omega, by go_num, HA0.out.1, step_b HX.out HW1.out.1 HT.out, ?_⟩
    exact HB1.out.setCell (p := ⟨g, k, none⟩) (Nat.le_of_eq HGG.out) _
   case measure => simp [intOf]; omega
  ·have e : k = l.length := by omega
   subst e
   have hown := HW.out
   rw [flat_upto (E := eB) HW.out.1 HT.out] at hown
   have HW := mkHid hown
   clear hown HT
   go_wp2
   go_ret
   exact ⟨g, rfl, by rw [HGG.out]; exact HW.out, HB.out⟩
end Go.Proofs.YtihpajiololfoaaGreat
namespace Go.Proofs.YtihpajiololfoaaGreat
open Go.RowKit

set_option maxRecDepth 100000 in
set_option maxHeartbeats 1600000 in
theorem szSymSS_of (ls : List (List Y)) (a : Option Addr) (c : Nat) (left : Int) (w : World) (hn : ls.length ≤ maxLen) (hr : ∀ (i : Nat) (l : List Y), ls[i]? = some l → l.length ≤ maxLen) (h0 : 0 ≤ left) (h1 : left ≤ 1048576) (hl : BndsAt w a ls) :
  Calls Tryz.prog 30 #[.slice a ls.length c, .int .i64 left] w fun e w' => w = w' ∧ ∃ r : Int, e = .returned (.int .i64 r) ∧ (0 ≤ r → ls.length ≤ 1048576 ∧ tot ls ≤ 1048576 ∧ r ≤ 1048576) := by
 unfold maxLen at hn
 have HL := mkHid hl
 have HR := mkHid hr
 clear hl hr
 by_cases hbig : left - ls.length < 0
 ·go_enter Tryz.func30, Tryz.ntmps30
  go_wp2
  go_ret
  exact ⟨rfl, -1, rfl, fun h => absurd h (by omega)⟩
 go_enter Tryz.func30, Tryz.ntmps30
 go_wp2
 go_loopw [1, 5] (fun lv i w' => ∃ (k : Nat) (z : Int), k ≤ ls.length ∧ i = .int .i64 k ∧ lv = .int .i64 z ∧ 0 ≤ z ∧ z + tot (ls.take k) ≤ 1048576 ∧ w' = w) (fun _ i _ => ls.length - (intOf i).toNat)
 case atStart => exact ⟨0, _, Nat.zero_le _, rfl, rfl, by omega, by simp [tot]; omega, rfl⟩
 case round =>
  obtain ⟨k, z, hk, rfl, rfl, hz0, hz1, rfl⟩ := hrel
  by_cases hlt : k < ls.length
  ·obtain ⟨l, hx⟩ : ∃ x, ls[k]? = some x := ⟨_, List.getElem?_eq_getElem hlt⟩
   obtain ⟨b, o, rfl, _, hl⟩ := HL.out.cons (by omega)
   obtain ⟨ao, cp, c0, _⟩ := hl k l hx
   have HM := mkHid (HR.out k l hx)
   have HT := mkHid (tot_take_succ hx)
   have HZ := mkHid hz1
   have hz2 : z ≤ 1048576 := by omega
   clear hl hx hz1
   have i0 : (0 : Int) ≤ (k : Int) := by omega
   have i1 : (k : Int) < (ls.length : Int) := by omega
   go_wp2_with fail
   refine (szSymS_any ao l.length cp z _ HM.out hz0 hz2).mono ?_
   rintro e w2 ⟨rfl, rfl⟩
   obtain ⟨r, hr⟩ : ∃ r, szN z l.length = r := ⟨_, rfl⟩
   have HQ : Hid (¬ r < 0 → 0 ≤ r ∧ r + l.length ≤ z) := mkHid fun h => by unfold szN at hr; split at hr <;> omega
   rw [hr]
   clear hr
   by_cases hneg : r < 0
   ·go_wp2
    go_ret
    exact ⟨rfl, -1, rfl, fun h => absurd h (by omega)⟩
   ·obtain ⟨hq0, hq1⟩ := HQ.out hneg
    have HQ1 := mkHid hq1
    clear hq1
    go_wp2
    go_roundw
    case rel => exact ⟨k + 1, r, by omega, by go_num, rfl, hq0, by have := HT.out; have := HZ.out; have := HQ1.out; omega, by trivial⟩
    case measure => simp [intOf]; omega
  ·have e : k = ls.length := by omega
   subst e
   have HZ := mkHid hz1
   clear hz1
   go_wp2
   go_ret
   exact ⟨rfl, z, rfl, fun _ => ⟨by omega, by have := HZ.out; rw [List.take_length] at this; omega, by have := HZ.out; omega⟩⟩
set_option maxRecDepth 100000 in
set_option maxHeartbeats 1600000 in
theorem szSeg_any (S : SG) (A : SAd) (w : World) (hb : S.B.length ≤ maxLen) (hr : ∀ (i : Nat) (l : List Y), S.B[i]? = some l → l.length ≤ maxLen) (hv : S.V.length ≤ maxLen) (hm : S.M.length ≤ maxLen) (left : Int) (h0 : 0 ≤ left) (h1 : left ≤ 1048576) (hl : SegAt w A S) :
  Calls Tryz.prog 8 #[.agg #[.slice A.a0 S.B.length A.c0, .slice A.a1 S.V.length A.c1, .slice A.a2 S.M.length A.c2], .int .i64 left] w fun e w' => Below w.heap.size w w' ∧ ∃ r : Int, e = .returned (.int .i64 r) ∧ (0 ≤ r → S.B.length ≤ 1048576 ∧ tot S.B ≤ 1048576 ∧ S.V.length ≤ 1048576 ∧ S.M.length ≤ 1048576 ∧ r ≤ 1048576) := by
 have HB := mkHid hb
 have HR := mkHid hr
 have HV := mkHid hv
 have HM := mkHid hm
 have HL := mkHid hl
 clear hb hr hv hm hl
 go_enter Tryz.func8, Tryz.ntmps8
 go_wp2_with fail
 obtain ⟨w0, hw0⟩ : ∃ x : World, w.alloc (.cells #[.slice A.a0 S.B.length A.c0, .slice A.a1 S.V.length A.c1, .slice A.a2 S.M.length A.c2] 26) = x := ⟨_, rfl⟩
 have HBe : Hid (Below w.heap.size w w0) := mkHid (by rw [← hw0]; exact bl_alloc (Below.refl _ _) _)
 obtain ⟨q0, q1, q2, _, _, _⟩ : G3 w0 w.heap.size (.slice A.a0 S.B.length A.c0) (.slice A.a1 S.V.length A.c1) (.slice A.a2 S.M.length A.c2) := by rw [← hw0]; exact G3.new _ _ _ _ _
 rw [hw0]
 clear hw0
 refine (szSymSS_of S.B A.a0 A.c0 left _ HB.out HR.out h0 h1 (HL.out.b.below HBe.out)).mono ?_
 rintro e _ ⟨rfl, r, rfl, hr⟩
 have HR1 := mkHid hr
 clear hr
 by_cases hneg : r < 0
 ·go_wp2
  go_ret
  exact ⟨HBe.out, -1, rfl, fun h => absurd h (by omega)⟩
 obtain ⟨_, _, hr1⟩ := HR1.out (by omega)
 go_wp2_with fail
 refine (szValS_any A.a1 S.V.length A.c1 r _ HV.out (by omega) hr1).mono ?_
 rintro e _ ⟨rfl, rfl⟩
 obtain ⟨r2, hr2⟩ : ∃ z, szN r S.V.length = z := ⟨_, rfl⟩
 have HQ2 : Hid (¬ r2 < 0 → S.V.length ≤ 1048576 ∧ 0 ≤ r2 ∧ r2 ≤ 1048576) := mkHid fun h => by unfold szN at hr2; split at hr2 <;> omega
 rw [hr2]
 clear hr2
 by_cases hneg2 : r2 < 0
 ·go_wp2
  go_ret
  exact ⟨HBe.out, -1, rfl, fun h => absurd h (by omega)⟩
 obtain ⟨_, _, hr3⟩ := HQ2.out hneg2
 go_wp2_with fail
 refine (szBoolS_any A.a2 S.M.length A.c2 r2 _ HM.out (by omega) hr3).mono ?_
 rintro e _ ⟨rfl, rfl⟩
 obtain ⟨r3, hr4⟩ : ∃ z, szN r2 S.M.length = z := ⟨_, rfl⟩
 have HQ3 : Hid (¬ r3 < 0 → S.M.length ≤ 1048576 ∧ 0 ≤ r3 ∧ r3 ≤ 1048576) := mkHid fun h => by unfold szN at hr4; split at hr4 <;> omega
 rw [hr4]
 clear hr4
 by_cases hneg3 : r3 < 0
 ·go_wp2
  go_ret
  exact ⟨HBe.out, -1, rfl, fun h => absurd h (by omega)⟩
 go_wp2
 go_ret
 exact ⟨HBe.out, r3, rfl, fun h => ⟨(HR1.out (by omega)).1, (HR1.out (by omega)).2.1, (HQ2.out hneg2).1, (HQ3.out h).1, (HQ3.out h).2.2⟩⟩
set_option maxRecDepth 100000 in
set_option maxHeartbeats 3200000 in
theorem toSeg_any (S : SG) (A : SAd) (w : World) (hb : S.B.length ≤ 1048576) (ht : tot S.B ≤ 1048576) (hv : S.V.length ≤ 1048576) (hm : S.M.length ≤ 1048576) (hl : SegAt w A S) :
  Calls Tryz.prog 11 #[.agg #[.slice A.a0 S.B.length A.c0, .slice A.a1 S.V.length A.c1, .slice A.a2 S.M.length A.c2]] w fun e w' => ∃ A' : SAd, e = .returned (.agg #[.slice A'.a0 S.B.length A'.c0, .slice A'.a1 S.V.length A'.c1, .slice A'.a2 S.M.length A'.c2]) ∧ OwnS w' w.heap.size w'.heap.size A' S ∧ Below w.heap.size w w' := by
 have HB := mkHid hb
 have HT := mkHid ht
 have HV := mkHid hv
 have HM := mkHid hm
 have HL := mkHid hl
 clear hb ht hv hm hl
 obtain ⟨w0, hw0⟩ : ∃ x : World, ((w.alloc (.cells #[.slice A.a0 S.B.length A.c0, .slice A.a1 S.V.length A.c1, .slice A.a2 S.M.length A.c2] 26)).alloc (.cells #[.slice none 0 0, .slice none 0 0, .slice none 0 0] 35)).alloc (.cells #[.slice none 0 0, .slice none 0 0, .slice none 0 0] 35) = x := ⟨_, rfl⟩
 obtain ⟨X, hX⟩ : ∃ x, w.heap.size = x := ⟨_, rfl⟩
 have HBe : Hid (Below X w w0) := mkHid (by rw [← hw0, ← hX]; exact bl_alloc (bl_alloc (bl_alloc (Below.refl _ _) _) _) _)
 have P0 : Hid (G3 w0 X (.slice A.a0 S.B.length A.c0) (.slice A.a1 S.V.length A.c1) (.slice A.a2 S.M.length A.c2)) := mkHid (by rw [← hw0, ← hX]; constructor <;> simp [go_sem])
 have P1 : Hid (G3 w0 (X + 1) (.slice none 0 0) (.slice none 0 0) (.slice none 0 0)) := mkHid (by rw [← hw0, ← hX]; constructor <;> simp [go_sem])
 have P2 : Hid (G3 w0 (X + 1 + 1) (.slice none 0 0) (.slice none 0 0) (.slice none 0 0)) := mkHid (by rw [← hw0, ← hX]; constructor <;> simp [go_sem])
 have HS : Hid (w0.heap.size = X + 1 + 1 + 1) := mkHid (by rw [← hw0, ← hX]; simp)
 have HX := mkHid hX
 have HL0 : Hid (SegAt w0 A S) := mkHid (HL.out.below (by rw [hX]; exact HBe.out))
 obtain ⟨q0, q1, q2, _, _, _⟩ := P0.out
 go_enter Tryz.func11, Tryz.ntmps11
 go_wp2_with fail
 clear hw0 hX
 refine (toSymSS_any S.B A.a0 A.c0 _ HB.out HT.out HL0.out.b).mono ?_
 rintro e w1 ⟨g0, rfl, ho0, hb0⟩
 have HO0 := mkHid ho0
 have R0 := mkHid (P0.out.below hb0)
 have R1 := mkHid (P1.out.below hb0)
 have R2 := mkHid (P2.out.below hb0)
 have HL1 := mkHid (HL0.out.below hb0)
 have HB1 : Hid (Below X w w1) := mkHid (HBe.out.trans (hb0.mono (by have := HS.out; omega)))
 have S1 : Hid (w0.heap.size ≤ w1.heap.size) := mkHid hb0.size
 clear q0 q1 q2 ho0 hb0 P0 P1 P2 HL0 HBe
 obtain ⟨wa, hwa⟩ : ∃ x : World, w1.setCell ⟨X + 1 + 1, 0, none⟩ (.slice (some ⟨g0, 0, none⟩) S.B.length S.B.length) = x := ⟨_, rfl⟩
 have SA : Hid (wa.heap.size = w1.heap.size) := mkHid (by rw [← hwa]; simp)
 have OA : Hid (OwnT wa (X + 1 + 1 + 1) w1.heap.size (.slice (some ⟨g0, 0, none⟩) S.B.length S.B.length) S.B) := mkHid (by rw [← hwa]; exact (HO0.out.top.mono (Nat.le_of_eq HS.out.symm) (Nat.le_refl _)).outs (outs_set w1 (X + 1 + 1) 0 _) (.inr (Nat.le_refl _)))
 have BA : Hid (Below X w wa) := mkHid (by rw [← hwa]; exact HB1.out.setCell (p := ⟨X + 1 + 1, 0, none⟩) (by show X ≤ X + 1 + 1; omega) _)
 have T0 : Hid (G3 wa X (.slice A.a0 S.B.length A.c0) (.slice A.a1 S.V.length A.c1) (.slice A.a2 S.M.length A.c2)) := mkHid (by rw [← hwa]; exact R0.out.far (by omega) _ _)
 have T1 : Hid (G3 wa (X + 1) (.slice none 0 0) (.slice none 0 0) (.slice none 0 0)) := mkHid (by rw [← hwa]; exact R1.out.far (by omega) _ _)
 have T2 : Hid (G3 wa (X + 1 + 1) (.slice (some ⟨g0, 0, none⟩) S.B.length S.B.length) (.slice none 0 0) (.slice none 0 0)) := mkHid (by rw [← hwa]; exact R2.out.set0 _)
 have LA : Hid (SegAt wa A S) := mkHid (HL.out.below (by rw [HX.out]; exact BA.out))
 obtain ⟨p0, _, _, f0, _, _⟩ := R2.out
 obtain ⟨q0, q1, q2, _, _, _⟩ := T0.out
 clear R0 R1 R2 HO0 HB1 HL1
 go_wp2_with fail
 clear hwa q0 q1 q2 p0 f0
 refine (toValS_any S.V A.a1 A.c1 _ HV.out LA.out.v).mono ?_
 rintro e w2 ⟨g1, rfl, ho1, hb1⟩
 have HO1 := mkHid ho1
 have OA2 := mkHid (OA.out.below hb1)
 have R0 := mkHid (T0.out.below hb1)
 have R1 := mkHid (T1.out.below hb1)
 have R2 := mkHid (T2.out.below hb1)
 have S2 : Hid (w1.heap.size ≤ w2.heap.size) := mkHid (by have := SA.out; have := hb1.size; omega)
 have HB2 : Hid (Below X w w2) := mkHid (BA.out.trans (hb1.mono (by have := HS.out; have := S1.out; have := SA.out; omega)))
 clear ho1 hb1 OA T0 T1 T2 LA BA
 obtain ⟨wb, hwb⟩ : ∃ x : World, w2.setCell ⟨X + 1 + 1, 1, none⟩ (.slice (some ⟨g1, 0, none⟩) S.V.length S.V.length) = x := ⟨_, rfl⟩
 have SB : Hid (wb.heap.size = w2.heap.size) := mkHid (by rw [← hwb]; simp)
 have OA : Hid (OwnT wb (X + 1 + 1 + 1) w1.heap.size (.slice (some ⟨g0, 0, none⟩) S.B.length S.B.length) S.B) := mkHid (by rw [← hwb]; exact OA2.out.outs (outs_set w2 (X + 1 + 1) 1 _) (.inr (Nat.le_refl _)))
 have OV : Hid (Own eV 55 wb (X + 1 + 1 + 1) (.slice (some ⟨g1, 0, none⟩) S.V.length S.V.length) S.V ∧ ∀ q, Value.ownBlock (.slice (some ⟨g1, 0, none⟩) S.V.length S.V.length) = some q → q < w2.heap.size) := mkHid (by
  have h := HO1.out.mono (base' := X + 1 + 1 + 1) (by have := HS.out; have := S1.out; have := SA.out; omega)
  refine ⟨?_, fun q hq => (HO1.out.lt hq).2⟩
  rw [← hwb]; exact h.outs (fun q hq => (h.lt hq).2) (outs_set w2 (X + 1 + 1) 1 _) (.inr (Nat.le_refl _)))
 have BA : Hid (Below X w wb) := mkHid (by rw [← hwb]; exact HB2.out.setCell (p := ⟨X + 1 + 1, 1, none⟩) (by show X ≤ X + 1 + 1; omega) _)
 have T0 : Hid (G3 wb X (.slice A.a0 S.B.length A.c0) (.slice A.a1 S.V.length A.c1) (.slice A.a2 S.M.length A.c2)) := mkHid (by rw [← hwb]; exact R0.out.far (by omega) _ _)
 have T1 : Hid (G3 wb (X + 1) (.slice none 0 0) (.slice none 0 0) (.slice none 0 0)) := mkHid (by rw [← hwb]; exact R1.out.far (by omega) _ _)
 have T2 : Hid (G3 wb (X + 1 + 1) (.slice (some ⟨g0, 0, none⟩) S.B.length S.B.length) (.slice (some ⟨g1, 0, none⟩) S.V.length S.V.length) (.slice none 0 0)) := mkHid (by rw [← hwb]; exact R2.out.set1 _)
 have LA : Hid (SegAt wb A S) := mkHid (HL.out.below (by rw [HX.out]; exact BA.out))
 obtain ⟨_, p1, _, _, f1, _⟩ := R2.out
 obtain ⟨q0, q1, q2, _, _, _⟩ := T0.out
 clear R0 R1 R2 HO1 HB2 OA2
 go_wp2_with fail
 clear hwb q0 q1 q2 p1 f1
 refine (toBoolS_any S.M A.a2 A.c2 _ HM.out LA.out.m).mono ?_
 rintro e w3 ⟨g2, rfl, ho2, hb2⟩
 have HO2 := mkHid ho2
 have OA3 := mkHid (OA.out.below hb2)
 have OV3 := mkHid (And.intro (OV.out.1.below hb2) OV.out.2)
 have R1 := mkHid (T1.out.below hb2)
 have R2 := mkHid (T2.out.below hb2)
 have S3 : Hid (w2.heap.size ≤ w3.heap.size) := mkHid (by have := SB.out; have := hb2.size; omega)
 have HB3 : Hid (Below X w w3) := mkHid (BA.out.trans (hb2.mono (by have := HS.out; have := S1.out; have := S2.out; have := SB.out; omega)))
 clear ho2 hb2 OA OV T0 T1 T2 LA BA
 obtain ⟨wc, hwc⟩ : ∃ x : World, w3.setCell ⟨X + 1 + 1, 2, none⟩ (.slice (some ⟨g2, 0, none⟩) S.M.length S.M.length) = x := ⟨_, rfl⟩
 have SC : Hid (wc.heap.size = w3.heap.size) := mkHid (by rw [← hwc]; simp)
 have OM : Hid (Own eB 4 w3 (X + 1 + 1 + 1) (.slice (some ⟨g2, 0, none⟩) S.M.length S.M.length) S.M ∧ ∀ q, Value.ownBlock (.slice (some ⟨g2, 0, none⟩) S.M.length S.M.length) = some q → q < w3.heap.size) := mkHid (by
  have h := HO2.out.mono (base' := X + 1 + 1 + 1) (by have := HS.out; have := S1.out; have := S2.out; have := SB.out; omega)
  exact ⟨h, fun q hq => (h.lt hq).2⟩)
 have OS : Hid (OwnS w3 (X + 1 + 1 + 1) w3.heap.size ⟨some ⟨g0, 0, none⟩, S.B.length, some ⟨g1, 0, none⟩, S.V.length, some ⟨g2, 0, none⟩, S.M.length⟩ S) := mkHid ⟨OA3.out.mono (Nat.le_refl _) (by have := S2.out; have := S3.out; omega), OV3.out.1, fun q hq => by have := OV3.out.2 q hq; have := S3.out; omega, OM.out.1, OM.out.2⟩
 have OC := mkHid ((OS.out.outs (outs_set w3 (X + 1 + 1) 2 (.slice (some ⟨g2, 0, none⟩) S.M.length S.M.length)) (.inr (Nat.le_refl _))))
 have BC : Hid (Below X w wc) := mkHid (by rw [← hwc]; exact HB3.out.setCell (p := ⟨X + 1 + 1, 2, none⟩) (by show X ≤ X + 1 + 1; omega) _)
 have T1 : Hid (G3 wc (X + 1) (.slice none 0 0) (.slice none 0 0) (.slice none 0 0)) := mkHid (by rw [← hwc]; exact R1.out.far (by omega) _ _)
 have T2 : Hid (G3 wc (X + 1 + 1) (.slice (some ⟨g0, 0, none⟩) S.B.length S.B.length) (.slice (some ⟨g1, 0, none⟩) S.V.length S.V.length) (.slice (some ⟨g2, 0, none⟩) S.M.length S.M.length)) := mkHid (by rw [← hwc]; exact R2.out.set2 _)
 rw [hwc] at OC
 obtain ⟨_, _, p2, _, _, f2⟩ := R2.out
 obtain ⟨q0, q1, q2, _, _, _⟩ := T2.out
 obtain ⟨r0, r1, r2, t0, t1, t2⟩ := T1.out
 clear R1 R2 HO2 HB3 OA3 OV3 OM OS
 have OD := mkHid (((OC.out.outs (outs_set wc (X + 1) 0 (.slice (some ⟨g0, 0, none⟩) S.B.length S.B.length)) (.inr (by omega))).outs (outs_set _ (X + 1) 1 (.slice (some ⟨g1, 0, none⟩) S.V.length S.V.length)) (.inr (by omega))).outs (outs_set _ (X + 1) 2 (.slice (some ⟨g2, 0, none⟩) S.M.length S.M.length)) (.inr (by omega)))
 have BD := mkHid (((BC.out.setCell (p := ⟨X + 1, 0, none⟩) (by show X ≤ X + 1; omega) (.slice (some ⟨g0, 0, none⟩) S.B.length S.B.length)).setCell (p := ⟨X + 1, 1, none⟩) (by show X ≤ X + 1; omega) (.slice (some ⟨g1, 0, none⟩) S.V.length S.V.length)).setCell (p := ⟨X + 1, 2, none⟩) (by show X ≤ X + 1; omega) (.slice (some ⟨g2, 0, none⟩) S.M.length S.M.length))
 go_wp2
 refine bodyPost_ret (v := .agg #[.slice (some ⟨g0, 0, none⟩) S.B.length S.B.length, .slice (some ⟨g1, 0, none⟩) S.V.length S.V.length, .slice (some ⟨g2, 0, none⟩) S.M.length S.M.length]) (by simp [results, Tryz.results11, go_sem, *]) rfl ⟨⟨some ⟨g0, 0, none⟩, S.B.length, some ⟨g1, 0, none⟩, S.V.length, some ⟨g2, 0, none⟩, S.M.length⟩, rfl, ?_, ?_⟩
 ·rw [HX.out]
  exact OD.out.mono (by omega) (by have := SC.out; simp; omega)
 ·rw [HX.out]
  exact BD.out
end Go.Proofs.YtihpajiololfoaaGreat
