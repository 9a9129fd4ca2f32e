/-
  CONTRACTS of the law's toSymS.
  CONTRACTS of the law's toSymSS, szSymSS.
  CONTRACTS of the law's toValS.
  CONTRACTS of the law's toBoolS.
  CONTRACTS of the law's eqValS.
  CONTRACTS of the law's eqBoolS.
  CONTRACTS of the law's eqSymS.
-/
import Derived.Test.YtbfmljogfljhdaaGreatRm
import Derived.Test.YtbfmljogfljhdaaGreatMm
namespace Go.Proofs.YtbfmljogfljhdaaGreat
open Go.RowKit

theorem Tryz.info39 : (Tryz.prog.info? 39).map (fun i => (i.zero, i.size, i.bytes)) = some (some (.agg #[.int .i64 0, .int .i64 0]), 2, 16) := by kernel_rfl
set_option maxRecDepth 100000 in
set_option maxHeartbeats 1600000 in
theorem toSymS_any (l : List Y) (a : Option Addr) (c : Nat) (w : World) (hn : l.length ≤ 1048576) (hl : At eY w a l) :
    Calls Tryz.prog 26 #[.slice a l.length c] w fun e w' => ∃ g, e = .returned (.slice (some ⟨g, 0, none⟩) l.length l.length) ∧ Own eY 39 w' w.heap.size (.slice (some ⟨g, 0, none⟩) l.length l.length) l ∧ Below w.heap.size w w' := by
  obtain ⟨i0, hi, hz⟩ := Option.map_eq_some_iff.1 Tryz.info39
  simp only [Prod.mk.injEq] at hz
  obtain ⟨hz0, hz1, hz2⟩ := hz
  obtain ⟨w1, hmk, hown0, hg0⟩ := run_make_full (P := Tryz.prog) w w.heap.size 34 39 i0 _ 2 Tryz.underlying34 hi hz0 hz1 .i64 .i64 l.length (by rw [hz2]; omega) (by unfold maxLen; omega) (Nat.le_refl _)
  obtain ⟨g, hgg⟩ : ∃ g, w.heap.size = g := ⟨_, rfl⟩
  have HGG := mkHid hgg
  rw [hgg] at hmk hown0
  have HL := mkHid hl
  have HO := mkHid hown0
  have HG := mkHid (Below.grown (Below.refl w.heap.size w) hg0 (Nat.le_refl _) (fun k hk => by cases hk))
  clear hl hown0 hg0 hi hz0 hz1 hz2 hgg
  go_enter Tryz.func26, Tryz.ntmps26
  go_wp2
  go_loopw [4] (fun i w' => ∃ (k : Nat) (xs : List Value), k ≤ l.length ∧ i = .int .i64 k ∧ w'.ownsRow g 39 2 (.slice (some ⟨g, 0, none⟩) l.length l.length) l.length xs ∧ xs.take (k * 2) = eY.flat (l.take k) ∧ Below w.heap.size w w') (fun i _ => l.length - (intOf i).toNat)
  case atStart => exact ⟨0, _, Nat.zero_le _, rfl, HO.out, by simp [El.flat], HG.out⟩
  case round =>
    obtain ⟨k, xs, hk, rfl, hown, htake, hbel⟩ := hrel
    have HW := mkHid hown
    have HT := mkHid htake
    have HB := mkHid hbel
    clear hown htake hbel HO HG hmk
    by_cases hlt : k < l.length
    · obtain ⟨x, hx⟩ : ∃ x, l[k]? = some x := ⟨_, List.getElem?_eq_getElem hlt⟩
      obtain ⟨b, o, rfl, _, hl⟩ := (HL.out.below HB.out).cons (by omega)
      obtain ⟨c0, c1⟩ := get_y hl hx
      have HX := mkHid hx
      clear hl hx
      have i0 : (0 : Int) ≤ (k : Int) := by omega
      have i1 : (k : Int) < (l.length : Int) := by omega
      go_wp2_with fail
      refine (toSym_any x.1 x.2 _).mono ?_
      rintro e w2 ⟨rfl, hb1⟩
      have HW1 := mkHid (owns_below HW.out hb1)
      have HB1 := mkHid (below_step HB.out hb1)
      have hxl := HW1.out.1
      clear hb1 HB HW c0 c1
      obtain ⟨u0, y0⟩ : ∃ v, w2.cell? ⟨g, k * 2, none⟩ = some v := ⟨_, (HW1.out.cellAt (k * 2) (by omega)).trans (List.getElem?_eq_getElem (by omega))⟩
      have z0 := HW1.out.frozenAt (k * 2)
      obtain ⟨u1, y1⟩ : ∃ v, w2.cell? ⟨g, k * 2 + 1, none⟩ = some v := ⟨_, (HW1.out.cellAt (k * 2 + 1) (by omega)).trans (List.getElem?_eq_getElem (by omega))⟩
      have z1 := HW1.out.frozenAt (k * 2 + 1)
      clear hxl
      have HA0 := mkHid (HW1.out.stored (k * 2) (.int .i64 x.1))
      have HA1 := mkHid (HA0.out.1.stored (k * 2 + 1) (.int .i64 x.2))
      go_wp2
      go_roundw
      case rel =>
        refine ⟨k + 1, _, by omega, by go_num, HA1.out.1, step_y HX.out HW1.out.1 HT.out, ?_⟩
        exact (HB1.out.setCell (p := ⟨g, k * 2, none⟩) (Nat.le_of_eq HGG.out) _).setCell (p := ⟨g, k * 2 + 1, none⟩) (Nat.le_of_eq HGG.out) _
      case measure => simp [intOf]; omega
    · have e : k = l.length := by omega
      subst e
      have hown := HW.out
      rw [flat_upto (E := eY) HW.out.1 HT.out] at hown
      have HW := mkHid hown
      clear hown HT
      go_wp2
      go_ret
      exact ⟨g, rfl, by rw [HGG.out]; exact HW.out, HB.out⟩
end Go.Proofs.YtbfmljogfljhdaaGreat
namespace Go.Proofs.YtbfmljogfljhdaaGreat
open Go.RowKit

theorem Tryz.info34 : (Tryz.prog.info? 34).map (fun i => (i.zero, i.size, i.bytes)) = some (some (.slice none 0 0), 1, 24) := by kernel_rfl
set_option maxRecDepth 100000 in
set_option maxHeartbeats 1600000 in
theorem toSymSS_any (ls : List (List Y)) (a : Option Addr) (c : Nat) (w : World) (hn : ls.length ≤ 1048576) (ht : tot ls ≤ 1048576) (hl : BndsAt w a ls) :
    Calls Tryz.prog 62 #[.slice a ls.length c] w fun e w' => ∃ g, e = .returned (.slice (some ⟨g, 0, none⟩) ls.length ls.length) ∧ OwnYY w' w.heap.size (.slice (some ⟨g, 0, none⟩) ls.length ls.length) ls ∧ Below w.heap.size w w' := by
  obtain ⟨i0, hi, hz⟩ := Option.map_eq_some_iff.1 Tryz.info34
  simp only [Prod.mk.injEq] at hz
  obtain ⟨hz0, hz1, hz2⟩ := hz
  obtain ⟨w1, hmk, hown0, hg0⟩ := run_make_full (P := Tryz.prog) w w.heap.size 24 34 i0 _ 1 Tryz.underlying24 hi hz0 hz1 .i64 .i64 ls.length (by rw [hz2]; omega) (by unfold maxLen; omega) (Nat.le_refl _)
  obtain ⟨g, hgg⟩ : ∃ g, w.heap.size = g := ⟨_, rfl⟩
  have HGG := mkHid hgg
  rw [hgg] at hmk hown0
  have HL := mkHid hl
  have HO := mkHid hown0
  have HT := mkHid ht
  have HG := mkHid (Below.grown (Below.refl w.heap.size w) hg0 (Nat.le_refl _) (fun k hk => by cases hk))
  clear hl hown0 hg0 hi hz0 hz1 hz2 hgg ht
  go_enter Tryz.func62, Tryz.ntmps62
  go_wp2
  go_loopw [4] (fun i w' => ∃ (k : Nat) (xs : List Value), k ≤ ls.length ∧ i = .int .i64 k ∧ w'.ownsRow g 34 1 (.slice (some ⟨g, 0, none⟩) ls.length ls.length) ls.length xs ∧ Inn w' g (xs.take k) (ls.take k) ∧ Below w.heap.size w w') (fun i _ => ls.length - (intOf i).toNat)
  case atStart => exact ⟨0, _, Nat.zero_le _, rfl, HO.out, by simpa using Inn.nil _ _, HG.out⟩
  case round =>
    obtain ⟨k, xs, hk, rfl, hown, hinn, hbel⟩ := hrel
    have HW := mkHid hown
    have HI := mkHid hinn
    have HB := mkHid hbel
    clear hown hinn hbel HO HG hmk
    by_cases hlt : k < ls.length
    · obtain ⟨l, hx⟩ : ∃ x, ls[k]? = some x := ⟨_, List.getElem?_eq_getElem hlt⟩
      obtain ⟨b, o, rfl, _, hl⟩ := (HL.out.below HB.out).cons (by omega)
      obtain ⟨ao, cp, c0, hat⟩ := hl k l hx
      have HX := mkHid hx
      have HAT := mkHid hat
      have hll := tot_get hx
      clear hl hx hat
      have i0 : (0 : Int) ≤ (k : Int) := by omega
      have i1 : (k : Int) < (ls.length : Int) := by omega
      go_wp2_with fail
      refine (toSymS_any l ao cp _ (by have := HT.out; omega) HAT.out).mono ?_
      rintro e w2 ⟨gn, rfl, hon, hb1⟩
      have HW1 := mkHid (owns_below HW.out hb1)
      have HI1 := mkHid (HI.out.below hb1)
      have HB1 := mkHid (below_step HB.out hb1)
      have HN := mkHid hon
      have HLT : Hid (∀ (i : Nat) (v : Value) (q : Nat), (xs.take k)[i]? = some v → v.ownBlock = some q → q < wr.heap.size) := mkHid fun i v q h1 h2 => (HI.out.lt h1 h2).2
      have hxl := HW1.out.1
      have hgw : g < wr.heap.size := (World.ownsRow.lt HW.out g rfl).2
      have HGW := mkHid hgw
      have HGS : Hid (wr.heap.size ≤ gn) := mkHid ((HN.out.lt (q := gn) rfl).1)
      clear hb1 hon HB HW HI c0 hgw
      obtain ⟨u0, y0⟩ : ∃ v, w2.cell? ⟨g, k, none⟩ = some v := ⟨_, (HW1.out.cellAt k (by omega)).trans (List.getElem?_eq_getElem (by omega))⟩
      have z0 := HW1.out.frozenAt k
      have HA := mkHid (HW1.out.stored k (.slice (some ⟨gn, 0, none⟩) l.length l.length))
      have HXL := mkHid hxl
      clear hxl
      go_wp2
      go_roundw
      case rel =>
        have hxl := HXL.out
        refine ⟨k + 1, _, by omega, by go_num, HA.out.1, ?_, HB1.out.setCell (p := ⟨g, k, none⟩) (Nat.le_of_eq HGG.out) _⟩
        have e1 : (xs.set k (.slice (some ⟨gn, 0, none⟩) l.length l.length)).take (k + 1) = xs.take k ++ [.slice (some ⟨gn, 0, none⟩) l.length l.length] := by
          rw [List.take_succ_eq_append_getElem (by simp; omega)]
          simp [List.take_set_of_le]
        rw [e1, take_snoc HX.out]
        have hg2 := HA.out.2
        refine Inn.snoc (n0 := wr.heap.size) ?_ HLT.out (Nat.le_of_lt HGW.out) ?_
        · refine HI1.out.keptBy hg2 fun q cur e hc => ?_
          have e' : g = q := Option.some.inj e
          subst e'
          rcases HW1.out.2 with ⟨e2, _⟩ | ⟨g2, _, cur2, e2, _, hg3, _⟩
          · simp at e2
          · simp at e2
            obtain ⟨rfl, rfl⟩ := e2
            rw [hc] at hg3
            simp at hg3
        · refine HN.out.keptBy hg2 fun q hq e => ?_
          have e' : g = q := Option.some.inj e
          have e'' : gn = q := Option.some.inj hq
          have h1 := HGS.out
          have h2 := HGW.out
          omega
      case measure => simp [intOf]; omega
    · have e : k = ls.length := by omega
      subst e
      have hinn := HI.out
      have hxl := HW.out.1
      rw [List.take_of_length_le (by omega), List.take_length] at hinn
      have HI := mkHid hinn
      clear hinn hxl
      go_wp2
      go_ret
      exact ⟨g, rfl, ⟨xs, by rw [HGG.out]; exact HW.out, by rw [HGG.out]; exact HI.out⟩, HB.out⟩
/-- What is left of a size. -/
def szN (left : Int) (n : Nat) : Int := if left - n < 0 then -1 else left - n
theorem szSymS_any (a : Option Addr) (n c : Nat) (left : Int) (w : World) (hn : n ≤ maxLen) (h0 : 0 ≤ left) (h1 : left ≤ 1048576) :
    Calls Tryz.prog 25 #[.slice a n c, .int .i64 left] w fun e w' => e = .returned (.int .i64 (szN left n)) ∧ w = w' := by
  unfold maxLen at hn
  unfold szN
  by_cases h : left - n < 0
  · rw [if_pos h]
    go_enter Tryz.func25, Tryz.ntmps25
    go_wp2
    go_ret
    exact ⟨rfl, rfl⟩
  · rw [if_neg h]
    go_enter Tryz.func25, Tryz.ntmps25
    go_wp2
    go_ret
    exact ⟨rfl, rfl⟩
theorem szValS_any (a : Option Addr) (n c : Nat) (left : Int) (w : World) (hn : n ≤ maxLen) (h0 : 0 ≤ left) (h1 : left ≤ 1048576) :
    Calls Tryz.prog 60 #[.slice a n c, .int .i64 left] w fun e w' => e = .returned (.int .i64 (szN left n)) ∧ w = w' := by
  unfold maxLen at hn
  unfold szN
  by_cases h : left - n < 0
  · rw [if_pos h]
    go_enter Tryz.func60, Tryz.ntmps60
    go_wp2
    go_ret
    exact ⟨rfl, rfl⟩
  · rw [if_neg h]
    go_enter Tryz.func60, Tryz.ntmps60
    go_wp2
    go_ret
    exact ⟨rfl, rfl⟩
theorem szBoolS_any (a : Option Addr) (n c : Nat) (left : Int) (w : World) (hn : n ≤ maxLen) (h0 : 0 ≤ left) (h1 : left ≤ 1048576) :
    Calls Tryz.prog 61 #[.slice a n c, .int .i64 left] w fun e w' => e = .returned (.int .i64 (szN left n)) ∧ w = w' := by
  unfold maxLen at hn
  unfold szN
  by_cases h : left - n < 0
  · rw [if_pos h]
    go_enter Tryz.func61, Tryz.ntmps61
    go_wp2
    go_ret
    exact ⟨rfl, rfl⟩
  · rw [if_neg h]
    go_enter Tryz.func61, Tryz.ntmps61
    go_wp2
    go_ret
    exact ⟨rfl, rfl⟩
end Go.Proofs.YtbfmljogfljhdaaGreat
namespace Go.Proofs.YtbfmljogfljhdaaGreat
open Go.RowKit

theorem Tryz.info82 : (Tryz.prog.info? 82).map (fun i => (i.zero, i.size, i.bytes)) = some (some (.agg #[.int .i64 0, .int .i64 0, .bool false]), 3, 24) := by kernel_rfl
set_option maxRecDepth 100000 in
set_option maxHeartbeats 1600000 in
theorem toValS_any (l : List VV) (a : Option Addr) (c : Nat) (w : World) (hn : l.length ≤ 1048576) (hl : At eV w a l) :
    Calls Tryz.prog 63 #[.slice a l.length c] w fun e w' => ∃ g, e = .returned (.slice (some ⟨g, 0, none⟩) l.length l.length) ∧ Own eV 82 w' w.heap.size (.slice (some ⟨g, 0, none⟩) l.length l.length) l ∧ Below w.heap.size w w' := by
  obtain ⟨i0, hi, hz⟩ := Option.map_eq_some_iff.1 Tryz.info82
  simp only [Prod.mk.injEq] at hz
  obtain ⟨hz0, hz1, hz2⟩ := hz
  obtain ⟨w1, hmk, hown0, hg0⟩ := run_make_full (P := Tryz.prog) w w.heap.size 25 82 i0 _ 3 Tryz.underlying25 hi hz0 hz1 .i64 .i64 l.length (by rw [hz2]; omega) (by unfold maxLen; omega) (Nat.le_refl _)
  obtain ⟨g, hgg⟩ : ∃ g, w.heap.size = g := ⟨_, rfl⟩
  have HGG := mkHid hgg
  rw [hgg] at hmk hown0
  have HL := mkHid hl
  have HO := mkHid hown0
  have HG := mkHid (Below.grown (Below.refl w.heap.size w) hg0 (Nat.le_refl _) (fun k hk => by cases hk))
  clear hl hown0 hg0 hi hz0 hz1 hz2 hgg
  go_enter Tryz.func63, Tryz.ntmps63
  go_wp2
  go_loopw [4] (fun i w' => ∃ (k : Nat) (xs : List Value), k ≤ l.length ∧ i = .int .i64 k ∧ w'.ownsRow g 82 3 (.slice (some ⟨g, 0, none⟩) l.length l.length) l.length xs ∧ xs.take (k * 3) = eV.flat (l.take k) ∧ Below w.heap.size w w') (fun i _ => l.length - (intOf i).toNat)
  case atStart => exact ⟨0, _, Nat.zero_le _, rfl, HO.out, by simp [El.flat], HG.out⟩
  case round =>
    obtain ⟨k, xs, hk, rfl, hown, htake, hbel⟩ := hrel
    have HW := mkHid hown
    have HT := mkHid htake
    have HB := mkHid hbel
    clear hown htake hbel HO HG hmk
    by_cases hlt : k < l.length
    · obtain ⟨x, hx⟩ : ∃ x, l[k]? = some x := ⟨_, List.getElem?_eq_getElem hlt⟩
      obtain ⟨b, o, rfl, _, hl⟩ := (HL.out.below HB.out).cons (by omega)
      obtain ⟨c0, c1, c2⟩ := get_v hl hx
      have HX := mkHid hx
      clear hl hx
      have i0 : (0 : Int) ≤ (k : Int) := by omega
      have i1 : (k : Int) < (l.length : Int) := by omega
      go_wp2_with fail
      refine (toVal_any x.1 x.2.1 x.2.2 _).mono ?_
      rintro e w2 ⟨rfl, hb1⟩
      have HW1 := mkHid (owns_below HW.out hb1)
      have HB1 := mkHid (below_step HB.out hb1)
      have hxl := HW1.out.1
      clear hb1 HB HW c0 c1 c2
      obtain ⟨u0, y0⟩ : ∃ v, w2.cell? ⟨g, k * 3, none⟩ = some v := ⟨_, (HW1.out.cellAt (k * 3) (by omega)).trans (List.getElem?_eq_getElem (by omega))⟩
      have z0 := HW1.out.frozenAt (k * 3)
      obtain ⟨u1, y1⟩ : ∃ v, w2.cell? ⟨g, k * 3 + 1, none⟩ = some v := ⟨_, (HW1.out.cellAt (k * 3 + 1) (by omega)).trans (List.getElem?_eq_getElem (by omega))⟩
      have z1 := HW1.out.frozenAt (k * 3 + 1)
      obtain ⟨u2, y2⟩ : ∃ v, w2.cell? ⟨g, k * 3 + 2, none⟩ = some v := ⟨_, (HW1.out.cellAt (k * 3 + 2) (by omega)).trans (List.getElem?_eq_getElem (by omega))⟩
      have z2 := HW1.out.frozenAt (k * 3 + 2)
      clear hxl
      have HA0 := mkHid (HW1.out.stored (k * 3) (.int .i64 x.1))
      have HA1 := mkHid (HA0.out.1.stored (k * 3 + 1) (.int .i64 x.2.1))
      have HA2 := mkHid (HA1.out.1.stored (k * 3 + 2) (.bool x.2.2))
      go_wp2
      go_roundw
      case rel =>
        refine ⟨k + 1, _, by omega, by go_num, HA2.out.1, step_v HX.out HW1.out.1 HT.out, ?_⟩
        exact ((HB1.out.setCell (p := ⟨g, k * 3, none⟩) (Nat.le_of_eq HGG.out) _).setCell (p := ⟨g, k * 3 + 1, none⟩) (Nat.le_of_eq HGG.out) _).setCell (p := ⟨g, k * 3 + 2, none⟩) (Nat.le_of_eq HGG.out) _
      case measure => simp [intOf]; omega
    · have e : k = l.length := by omega
      subst e
      have hown := HW.out
      rw [flat_upto (E := eV) HW.out.1 HT.out] at hown
      have HW := mkHid hown
      clear hown HT
      go_wp2
      go_ret
      exact ⟨g, rfl, by rw [HGG.out]; exact HW.out, HB.out⟩
end Go.Proofs.YtbfmljogfljhdaaGreat
namespace Go.Proofs.YtbfmljogfljhdaaGreat
open Go.RowKit

theorem Tryz.info4 : (Tryz.prog.info? 4).map (fun i => (i.zero, i.size, i.bytes)) = some (some (.bool false), 1, 1) := by kernel_rfl
set_option maxRecDepth 100000 in
set_option maxHeartbeats 1600000 in
theorem toBoolS_any (l : List Bool) (a : Option Addr) (c : Nat) (w : World) (hn : l.length ≤ 1048576) (hl : At eB w a l) :
    Calls Tryz.prog 64 #[.slice a l.length c] w fun e w' => ∃ g, e = .returned (.slice (some ⟨g, 0, none⟩) l.length l.length) ∧ Own eB 4 w' w.heap.size (.slice (some ⟨g, 0, none⟩) l.length l.length) l ∧ Below w.heap.size w w' := by
  obtain ⟨i0, hi, hz⟩ := Option.map_eq_some_iff.1 Tryz.info4
  simp only [Prod.mk.injEq] at hz
  obtain ⟨hz0, hz1, hz2⟩ := hz
  obtain ⟨w1, hmk, hown0, hg0⟩ := run_make_full (P := Tryz.prog) w w.heap.size 26 4 i0 _ 1 Tryz.underlying26 hi hz0 hz1 .i64 .i64 l.length (by rw [hz2]; omega) (by unfold maxLen; omega) (Nat.le_refl _)
  obtain ⟨g, hgg⟩ : ∃ g, w.heap.size = g := ⟨_, rfl⟩
  have HGG := mkHid hgg
  rw [hgg] at hmk hown0
  have HL := mkHid hl
  have HO := mkHid hown0
  have HG := mkHid (Below.grown (Below.refl w.heap.size w) hg0 (Nat.le_refl _) (fun k hk => by cases hk))
  clear hl hown0 hg0 hi hz0 hz1 hz2 hgg
  go_enter Tryz.func64, Tryz.ntmps64
  go_wp2
  go_loopw [4] (fun i w' => ∃ (k : Nat) (xs : List Value), k ≤ l.length ∧ i = .int .i64 k ∧ w'.ownsRow g 4 1 (.slice (some ⟨g, 0, none⟩) l.length l.length) l.length xs ∧ xs.take (k * 1) = eB.flat (l.take k) ∧ Below w.heap.size w w') (fun i _ => l.length - (intOf i).toNat)
  case atStart => exact ⟨0, _, Nat.zero_le _, rfl, HO.out, by simp [El.flat], HG.out⟩
  case round =>
    obtain ⟨k, xs, hk, rfl, hown, htake, hbel⟩ := hrel
    have HW := mkHid hown
    have HT := mkHid htake
    have HB := mkHid hbel
    clear hown htake hbel HO HG hmk
    by_cases hlt : k < l.length
    · obtain ⟨x, hx⟩ : ∃ x, l[k]? = some x := ⟨_, List.getElem?_eq_getElem hlt⟩
      obtain ⟨b, o, rfl, _, hl⟩ := (HL.out.below HB.out).cons (by omega)
      have c0 := get_b hl hx
      have HX := mkHid hx
      clear hl hx
      have i0 : (0 : Int) ≤ (k : Int) := by omega
      have i1 : (k : Int) < (l.length : Int) := by omega
      have HW1 := HW
      have HB1 := HB
      have hxl := HW1.out.1
      obtain ⟨u0, y0⟩ : ∃ v, wr.cell? ⟨g, k, none⟩ = some v := ⟨_, (HW1.out.cellAt (k) (by omega)).trans (List.getElem?_eq_getElem (by omega))⟩
      have z0 := HW1.out.frozenAt (k)
      clear hxl
      have HA0 := mkHid (HW1.out.stored (k) (.bool x))
      go_wp2
      go_roundw
      case rel =>
        refine ⟨k + 1, _, by omega, by go_num, HA0.out.1, step_b HX.out HW1.out.1 HT.out, ?_⟩
        exact HB1.out.setCell (p := ⟨g, k, none⟩) (Nat.le_of_eq HGG.out) _
      case measure => simp [intOf]; omega
    · have e : k = l.length := by omega
      subst e
      have hown := HW.out
      rw [flat_upto (E := eB) HW.out.1 HT.out] at hown
      have HW := mkHid hown
      clear hown HT
      go_wp2
      go_ret
      exact ⟨g, rfl, by rw [HGG.out]; exact HW.out, HB.out⟩
end Go.Proofs.YtbfmljogfljhdaaGreat
namespace Go.Proofs.YtbfmljogfljhdaaGreat
open Go.RowKit

set_option maxRecDepth 100000 in
set_option maxHeartbeats 400000 in
theorem eqValS_nil (a a' : Option Addr) (c c' : Nat) (w : World) : Calls Tryz.prog 67 #[.slice a 0 c, .slice a' 0 c'] w fun e w' => e = .returned (.bool true) ∧ Below w.heap.size w w' := by
  go_enter Tryz.func67, Tryz.ntmps67
  go_wp2
  go_loopw [5] (fun i w' => i = .int .i64 0 ∧ w' = w) (fun i _ => 0)
  case atStart => exact ⟨rfl, rfl⟩
  case round =>
    obtain ⟨rfl, rfl⟩ := hrel
    go_wp2
    go_ret
    exact ⟨rfl, Below.refl _ _⟩
set_option maxRecDepth 100000 in
set_option maxHeartbeats 800000 in
theorem eqValS_of (l : List VV) (a a' : Option Addr) (c c' : Nat) (w : World) (h0 : 0 < l.length) (hn : l.length ≤ maxLen) (hl : At eV w a l) (hl' : At eV w a' l) :
    Calls Tryz.prog 67 #[.slice a l.length c, .slice a' l.length c'] w fun e w' => e = .returned (.bool true) ∧ Below w.heap.size w w' := by
  unfold maxLen at hn
  obtain ⟨b, off, rfl, hlb, _⟩ := hl.cons h0
  obtain ⟨b', off', rfl, hlb', _⟩ := hl'.cons h0
  have HL := mkHid hl
  have HL' := mkHid hl'
  clear hl hl'
  go_enter Tryz.func67, Tryz.ntmps67
  go_wp2
  go_loopw [5] (fun i w' => ∃ (k : Nat), k ≤ l.length ∧ i = .int .i64 k ∧ Below w.heap.size w w') (fun i _ => l.length - (intOf i).toNat)
  case atStart => exact ⟨0, Nat.zero_le _, rfl, Below.refl _ _⟩
  case round =>
    obtain ⟨k, hk, rfl, hbel⟩ := hrel
    have HB := mkHid hbel
    by_cases hlt : k < l.length
    · obtain ⟨x, hx⟩ : ∃ x, l[k]? = some x := ⟨_, List.getElem?_eq_getElem hlt⟩
      obtain ⟨_, _, e, hlc, hq⟩ := (HL.out.below hbel).cons h0
      cases e
      obtain ⟨_, _, e, hlc', hq'⟩ := (HL'.out.below hbel).cons h0
      cases e
      obtain ⟨hc0, hc1, hc2⟩ := get_v hq hx
      obtain ⟨hd0, hd1, hd2⟩ := get_v hq' hx
      clear hx hbel hq hq'
      have i0 : (0 : Int) ≤ (k : Int) := by omega
      have i1 : (k : Int) < (l.length : Int) := by omega
      go_wp2
      go_region_held3 (fun w' => w'.cell? ⟨b, off + k * 3, none⟩ = some (.int .i64 x.1) ∧ w'.cell? ⟨b, off + k * 3 + 1, none⟩ = some (.int .i64 x.2.1) ∧ w'.cell? ⟨b, off + k * 3 + 2, none⟩ = some (.bool x.2.2) ∧ w'.cell? ⟨b', off' + k * 3, none⟩ = some (.int .i64 x.1) ∧ w'.cell? ⟨b', off' + k * 3 + 1, none⟩ = some (.int .i64 x.2.1) ∧ w'.cell? ⟨b', off' + k * 3 + 2, none⟩ = some (.bool x.2.2)) (first | exact ⟨hc0, hc1, hc2, hd0, hd1, hd2⟩ | exact ⟨(hc _ _ hlc).trans hc0, (hc _ _ hlc).trans hc1, (hc _ _ hlc).trans hc2, (hc _ _ hlc').trans hd0, (hc _ _ hlc').trans hd1, (hc _ _ hlc').trans hd2⟩)
        (first | (go_at_call 111; refine (eqVal_same x.1 x.2.1 x.2.2 _).mono ?_; rintro e w1 ⟨rfl, hb1⟩; obtain ⟨hc, hf⟩ := bcell hb1))
      have HB1 : Hid (Below w.heap.size w w1) := HB.out.drew.trans (hb1.mono HB.out.drew.size)
      clear hb1 hc hf
      go_wp2
      go_roundw
      case rel => exact ⟨k + 1, by omega, by go_num, HB1.out⟩
      case measure => simp [intOf]; omega
    · go_wp2
      go_ret
      exact ⟨rfl, HB.out⟩
theorem eqValS_same (l : List VV) (a a' : Option Addr) (c c' : Nat) (w : World) (hn : l.length ≤ maxLen) (hl : At eV w a l) (hl' : At eV w a' l) :
    Calls Tryz.prog 67 #[.slice a l.length c, .slice a' l.length c'] w fun e w' => e = .returned (.bool true) ∧ Below w.heap.size w w' := by
  rcases Nat.eq_zero_or_pos l.length with h | h
  · rw [h]; exact eqValS_nil a a' c c' w
  · exact eqValS_of l a a' c c' w h hn hl hl'
end Go.Proofs.YtbfmljogfljhdaaGreat
namespace Go.Proofs.YtbfmljogfljhdaaGreat
open Go.RowKit

set_option maxRecDepth 100000 in
set_option maxHeartbeats 400000 in
theorem eqBoolS_nil (a a' : Option Addr) (c c' : Nat) (w : World) : Calls Tryz.prog 68 #[.slice a 0 c, .slice a' 0 c'] w fun e w' => e = .returned (.bool true) ∧ Below w.heap.size w w' := by
  go_enter Tryz.func68, Tryz.ntmps68
  go_wp2
  go_loopw [5] (fun i w' => i = .int .i64 0 ∧ w' = w) (fun i _ => 0)
  case atStart => exact ⟨rfl, rfl⟩
  case round =>
    obtain ⟨rfl, rfl⟩ := hrel
    go_wp2
    go_ret
    exact ⟨rfl, Below.refl _ _⟩
set_option maxRecDepth 100000 in
set_option maxHeartbeats 800000 in
theorem eqBoolS_of (l : List Bool) (a a' : Option Addr) (c c' : Nat) (w : World) (h0 : 0 < l.length) (hn : l.length ≤ maxLen) (hl : At eB w a l) (hl' : At eB w a' l) :
    Calls Tryz.prog 68 #[.slice a l.length c, .slice a' l.length c'] w fun e w' => e = .returned (.bool true) ∧ Below w.heap.size w w' := by
  unfold maxLen at hn
  obtain ⟨b, off, rfl, hlb, _⟩ := hl.cons h0
  obtain ⟨b', off', rfl, hlb', _⟩ := hl'.cons h0
  have HL := mkHid hl
  have HL' := mkHid hl'
  clear hl hl'
  go_enter Tryz.func68, Tryz.ntmps68
  go_wp2
  go_loopw [5] (fun i w' => ∃ (k : Nat), k ≤ l.length ∧ i = .int .i64 k ∧ Below w.heap.size w w') (fun i _ => l.length - (intOf i).toNat)
  case atStart => exact ⟨0, Nat.zero_le _, rfl, Below.refl _ _⟩
  case round =>
    obtain ⟨k, hk, rfl, hbel⟩ := hrel
    have HB := mkHid hbel
    by_cases hlt : k < l.length
    · obtain ⟨x, hx⟩ : ∃ x, l[k]? = some x := ⟨_, List.getElem?_eq_getElem hlt⟩
      obtain ⟨_, _, e, hlc, hq⟩ := (HL.out.below hbel).cons h0
      cases e
      obtain ⟨_, _, e, hlc', hq'⟩ := (HL'.out.below hbel).cons h0
      cases e
      have hc0 := get_b hq hx
      have hd0 := get_b hq' hx
      clear hx hbel hq hq'
      have i0 : (0 : Int) ≤ (k : Int) := by omega
      have i1 : (k : Int) < (l.length : Int) := by omega
      have hne : (x != x) = false := by simp
      have HB1 : Hid (Below w.heap.size w wr.drew) := mkHid HB.out.drew
      go_wp2
      go_quiet (fail)
      go_wp2
      go_roundw
      case rel => exact ⟨k + 1, by omega, by go_num, Below.trans HB.out ⟨rfl, rfl, rfl, Nat.le_refl _, fun _ _ => rfl⟩⟩
      case measure => simp [intOf]; omega
    · go_wp2
      go_ret
      exact ⟨rfl, HB.out⟩
theorem eqBoolS_same (l : List Bool) (a a' : Option Addr) (c c' : Nat) (w : World) (hn : l.length ≤ maxLen) (hl : At eB w a l) (hl' : At eB w a' l) :
    Calls Tryz.prog 68 #[.slice a l.length c, .slice a' l.length c'] w fun e w' => e = .returned (.bool true) ∧ Below w.heap.size w w' := by
  rcases Nat.eq_zero_or_pos l.length with h | h
  · rw [h]; exact eqBoolS_nil a a' c c' w
  · exact eqBoolS_of l a a' c c' w h hn hl hl'
end Go.Proofs.YtbfmljogfljhdaaGreat
namespace Go.Proofs.YtbfmljogfljhdaaGreat
open Go.RowKit

set_option maxHeartbeats 400000 in
theorem eqSym_same (a b : Int) (w : World) : Calls Tryz.prog 71 #[.agg #[.int .i64 a, .int .i64 b], .agg #[.int .i64 a, .int .i64 b]] w fun e w' => e = .returned (.bool true) ∧ Below w.heap.size w w' := by
  go_enter Tryz.func71, Tryz.ntmps71
  go_wp2
  go_ret
  exact ⟨rfl, ((Below.refl _ _).alloc (Nat.le_refl _) _).alloc (by simp) _⟩
set_option maxRecDepth 100000 in
set_option maxHeartbeats 400000 in
theorem eqSymS_nil (a a' : Option Addr) (c c' : Nat) (w : World) : Calls Tryz.prog 27 #[.slice a 0 c, .slice a' 0 c'] w fun e w' => e = .returned (.bool true) ∧ Below w.heap.size w w' := by
  go_enter Tryz.func27, Tryz.ntmps27
  go_wp2
  go_loopw [5] (fun i w' => i = .int .i64 0 ∧ w' = w) (fun i _ => 0)
  case atStart => exact ⟨rfl, rfl⟩
  case round =>
    obtain ⟨rfl, rfl⟩ := hrel
    go_wp2
    go_ret
    exact ⟨rfl, Below.refl _ _⟩
set_option maxRecDepth 100000 in
set_option maxHeartbeats 800000 in
theorem eqSymS_of (l : List Y) (a a' : Option Addr) (c c' : Nat) (w : World) (h0 : 0 < l.length) (hn : l.length ≤ maxLen) (hl : At eY w a l) (hl' : At eY w a' l) :
    Calls Tryz.prog 27 #[.slice a l.length c, .slice a' l.length c'] w fun e w' => e = .returned (.bool true) ∧ Below w.heap.size w w' := by
  unfold maxLen at hn
  obtain ⟨b, off, rfl, hlb, _⟩ := hl.cons h0
  obtain ⟨b', off', rfl, hlb', _⟩ := hl'.cons h0
  have HL := mkHid hl
  have HL' := mkHid hl'
  clear hl hl'
  go_enter Tryz.func27, Tryz.ntmps27
  go_wp2
  go_loopw [5] (fun i w' => ∃ (k : Nat), k ≤ l.length ∧ i = .int .i64 k ∧ Below w.heap.size w w') (fun i _ => l.length - (intOf i).toNat)
  case atStart => exact ⟨0, Nat.zero_le _, rfl, Below.refl _ _⟩
  case round =>
    obtain ⟨k, hk, rfl, hbel⟩ := hrel
    have HB := mkHid hbel
    by_cases hlt : k < l.length
    · obtain ⟨x, hx⟩ : ∃ x, l[k]? = some x := ⟨_, List.getElem?_eq_getElem hlt⟩
      obtain ⟨_, _, e, hlc, hq⟩ := (HL.out.below hbel).cons h0
      cases e
      obtain ⟨_, _, e, hlc', hq'⟩ := (HL'.out.below hbel).cons h0
      cases e
      obtain ⟨hc0, hc1⟩ := get_y hq hx
      obtain ⟨hd0, hd1⟩ := get_y hq' hx
      clear hx hbel hq hq'
      have i0 : (0 : Int) ≤ (k : Int) := by omega
      have i1 : (k : Int) < (l.length : Int) := by omega
      go_wp2
      go_region_held3 (fun w' => w'.cell? ⟨b, off + k * 2, none⟩ = some (.int .i64 x.1) ∧ w'.cell? ⟨b, off + k * 2 + 1, none⟩ = some (.int .i64 x.2) ∧ w'.cell? ⟨b', off' + k * 2, none⟩ = some (.int .i64 x.1) ∧ w'.cell? ⟨b', off' + k * 2 + 1, none⟩ = some (.int .i64 x.2)) (first | exact ⟨hc0, hc1, hd0, hd1⟩ | exact ⟨(hc _ _ hlc).trans hc0, (hc _ _ hlc).trans hc1, (hc _ _ hlc').trans hd0, (hc _ _ hlc').trans hd1⟩)
        (first | (go_at_call 71; refine (eqSym_same x.1 x.2 _).mono ?_; rintro e w1 ⟨rfl, hb1⟩; obtain ⟨hc, hf⟩ := bcell hb1))
      have HB1 : Hid (Below w.heap.size w w1) := HB.out.drew.trans (hb1.mono HB.out.drew.size)
      clear hb1 hc hf
      go_wp2
      go_roundw
      case rel => exact ⟨k + 1, by omega, by go_num, HB1.out⟩
      case measure => simp [intOf]; omega
    · go_wp2
      go_ret
      exact ⟨rfl, HB.out⟩
theorem eqSymS_same (l : List Y) (a a' : Option Addr) (c c' : Nat) (w : World) (hn : l.length ≤ maxLen) (hl : At eY w a l) (hl' : At eY w a' l) :
    Calls Tryz.prog 27 #[.slice a l.length c, .slice a' l.length c'] w fun e w' => e = .returned (.bool true) ∧ Below w.heap.size w w' := by
  rcases Nat.eq_zero_or_pos l.length with h | h
  · rw [h]; exact eqSymS_nil a a' c c' w
  · exact eqSymS_of l a a' c c' w h hn hl hl'
end Go.Proofs.YtbfmljogfljhdaaGreat
