/-
  CONTRACTS of the law's eqBoolS.
  CONTRACTS of the law's markValS.
  CONTRACTS of the law's markBoolS.
  CONTRACTS of the law's heldValS.
  CONTRACTS of the law's heldBoolS.
  CONTRACTS of the law's eqSymS.
  CONTRACTS of the law's markSymS.
  CONTRACTS of the law's heldSymS.
  CONTRACTS of the law's toSymS.
  CONTRACTS of the law's eqSymSS, markSymSS, heldSymSS.
  CONTRACTS of the law's eqSeg, markSeg, heldSeg.
  PURE: what the specification asks of a Seg, row by row.
  CONTRACTS of the program's areVals, areSymVals, isWideSym, SymVal at numbers that are as they should be.
  VALS: what they have, their order, on both sides.
-/
import Derived.Test.YthfiblldccnjcaaGreatDoorMm
import Derived.Test.YthfiblldccnjcaaGreatDoorSb
import Derived.Test.YthfiblldccnjcaaGreatDoorLev
import Derived.Test.YthfiblldccnjcaaGreatDoorVl
import Derived.Test.YthfiblldccnjcaaGreatDoorIjn
namespace Go.Proofs.YthfiblldccnjcaaGreatDoor
open Go.RowKit

set_option maxRecDepth 100000 in
set_option maxHeartbeats 400000 in
theorem eqBoolS_nil (a a' : Option Addr) (c c' : Nat) (w : World) : Calls Tryz.prog 28 #[.slice a 0 c, .slice a' 0 c'] w fun e w' => e = .returned (.bool true) ∧ Below w.heap.size w w' := by
  go_enter Tryz.func28, Tryz.ntmps28
  go_wp2
  go_loopw [5] (fun i w' => i = .int .i64 0 ∧ w' = w) (fun i _ => 0)
  case atStart => exact ⟨rfl, rfl⟩
  case round =>
    obtain ⟨rfl, rfl⟩ := hrel
    go_wp2
    go_ret
    exact ⟨rfl, Below.refl _ _⟩
set_option maxRecDepth 100000 in
set_option maxHeartbeats 800000 in
theorem eqBoolS_of (l : List Bool) (a a' : Option Addr) (c c' : Nat) (w : World) (h0 : 0 < l.length) (hn : l.length ≤ maxLen) (hl : At eB w a l) (hl' : At eB w a' l) :
    Calls Tryz.prog 28 #[.slice a l.length c, .slice a' l.length c'] w fun e w' => e = .returned (.bool true) ∧ Below w.heap.size w w' := by
  unfold maxLen at hn
  obtain ⟨b, off, rfl, hlb, _⟩ := hl.cons h0
  obtain ⟨b', off', rfl, hlb', _⟩ := hl'.cons h0
  have HL := mkHid hl
  have HL' := mkHid hl'
  clear hl hl'
  go_enter Tryz.func28, Tryz.ntmps28
  go_wp2
  go_loopw [5] (fun i w' => ∃ (k : Nat), k ≤ l.length ∧ i = .int .i64 k ∧ Below w.heap.size w w') (fun i _ => l.length - (intOf i).toNat)
  case atStart => exact ⟨0, Nat.zero_le _, rfl, Below.refl _ _⟩
  case round =>
    obtain ⟨k, hk, rfl, hbel⟩ := hrel
    have HB := mkHid hbel
    by_cases hlt : k < l.length
    · obtain ⟨x, hx⟩ : ∃ x, l[k]? = some x := ⟨_, List.getElem?_eq_getElem hlt⟩
      obtain ⟨_, _, e, hlc, hq⟩ := (HL.out.below hbel).cons h0
      cases e
      obtain ⟨_, _, e, hlc', hq'⟩ := (HL'.out.below hbel).cons h0
      cases e
      have hc0 := get_b hq hx
      have hd0 := get_b hq' hx
      clear hx hbel hq hq'
      have i0 : (0 : Int) ≤ (k : Int) := by omega
      have i1 : (k : Int) < (l.length : Int) := by omega
      have hne : (x != x) = false := by simp
      have HB1 : Hid (Below w.heap.size w wr.drew) := mkHid HB.out.drew
      go_wp2
      go_quiet (fail)
      go_wp2
      go_roundw
      case rel => exact ⟨k + 1, by omega, by go_num, Below.trans HB.out ⟨rfl, rfl, rfl, Nat.le_refl _, fun _ _ => rfl⟩⟩
      case measure => simp [intOf]; omega
    · go_wp2
      go_ret
      exact ⟨rfl, HB.out⟩
theorem eqBoolS_same (l : List Bool) (a a' : Option Addr) (c c' : Nat) (w : World) (hn : l.length ≤ maxLen) (hl : At eB w a l) (hl' : At eB w a' l) :
    Calls Tryz.prog 28 #[.slice a l.length c, .slice a' l.length c'] w fun e w' => e = .returned (.bool true) ∧ Below w.heap.size w w' := by
  rcases Nat.eq_zero_or_pos l.length with h | h
  · rw [h]; exact eqBoolS_nil a a' c c' w
  · exact eqBoolS_of l a a' c c' w h hn hl hl'
end Go.Proofs.YthfiblldccnjcaaGreatDoor
namespace Go.Proofs.YthfiblldccnjcaaGreatDoor
open Go.RowKit

end Go.Proofs.YthfiblldccnjcaaGreatDoor
namespace Go.Proofs.YthfiblldccnjcaaGreatDoor
open Go.RowKit

end Go.Proofs.YthfiblldccnjcaaGreatDoor
namespace Go.Proofs.YthfiblldccnjcaaGreatDoor
open Go.RowKit

end Go.Proofs.YthfiblldccnjcaaGreatDoor
namespace Go.Proofs.YthfiblldccnjcaaGreatDoor
open Go.RowKit

end Go.Proofs.YthfiblldccnjcaaGreatDoor
namespace Go.Proofs.YthfiblldccnjcaaGreatDoor
open Go.RowKit

set_option maxHeartbeats 400000 in
theorem eqSym_same (a b : Int) (w : World) : Calls Tryz.prog 75 #[.agg #[.int .i64 a, .int .i64 b], .agg #[.int .i64 a, .int .i64 b]] w fun e w' => e = .returned (.bool true) ∧ Below w.heap.size w w' := by
  go_enter Tryz.func75, Tryz.ntmps75
  go_wp2
  go_ret
  exact ⟨rfl, ((Below.refl _ _).alloc (Nat.le_refl _) _).alloc (by simp) _⟩
set_option maxRecDepth 100000 in
set_option maxHeartbeats 400000 in
theorem eqSymS_nil (a a' : Option Addr) (c c' : Nat) (w : World) : Calls Tryz.prog 52 #[.slice a 0 c, .slice a' 0 c'] w fun e w' => e = .returned (.bool true) ∧ Below w.heap.size w w' := by
  go_enter Tryz.func52, Tryz.ntmps52
  go_wp2
  go_loopw [5] (fun i w' => i = .int .i64 0 ∧ w' = w) (fun i _ => 0)
  case atStart => exact ⟨rfl, rfl⟩
  case round =>
    obtain ⟨rfl, rfl⟩ := hrel
    go_wp2
    go_ret
    exact ⟨rfl, Below.refl _ _⟩
set_option maxRecDepth 100000 in
set_option maxHeartbeats 800000 in
theorem eqSymS_of (l : List Y) (a a' : Option Addr) (c c' : Nat) (w : World) (h0 : 0 < l.length) (hn : l.length ≤ maxLen) (hl : At eY w a l) (hl' : At eY w a' l) :
    Calls Tryz.prog 52 #[.slice a l.length c, .slice a' l.length c'] w fun e w' => e = .returned (.bool true) ∧ Below w.heap.size w w' := by
  unfold maxLen at hn
  obtain ⟨b, off, rfl, hlb, _⟩ := hl.cons h0
  obtain ⟨b', off', rfl, hlb', _⟩ := hl'.cons h0
  have HL := mkHid hl
  have HL' := mkHid hl'
  clear hl hl'
  go_enter Tryz.func52, Tryz.ntmps52
  go_wp2
  go_loopw [5] (fun i w' => ∃ (k : Nat), k ≤ l.length ∧ i = .int .i64 k ∧ Below w.heap.size w w') (fun i _ => l.length - (intOf i).toNat)
  case atStart => exact ⟨0, Nat.zero_le _, rfl, Below.refl _ _⟩
  case round =>
    obtain ⟨k, hk, rfl, hbel⟩ := hrel
    have HB := mkHid hbel
    by_cases hlt : k < l.length
    · obtain ⟨x, hx⟩ : ∃ x, l[k]? = some x := ⟨_, List.getElem?_eq_getElem hlt⟩
      obtain ⟨_, _, e, hlc, hq⟩ := (HL.out.below hbel).cons h0
      cases e
      obtain ⟨_, _, e, hlc', hq'⟩ := (HL'.out.below hbel).cons h0
      cases e
      obtain ⟨hc0, hc1⟩ := get_y hq hx
      obtain ⟨hd0, hd1⟩ := get_y hq' hx
      clear hx hbel hq hq'
      have i0 : (0 : Int) ≤ (k : Int) := by omega
      have i1 : (k : Int) < (l.length : Int) := by omega
      go_wp2
      go_region_held3 (fun w' => w'.cell? ⟨b, off + k * 2, none⟩ = some (.int .i64 x.1) ∧ w'.cell? ⟨b, off + k * 2 + 1, none⟩ = some (.int .i64 x.2) ∧ w'.cell? ⟨b', off' + k * 2, none⟩ = some (.int .i64 x.1) ∧ w'.cell? ⟨b', off' + k * 2 + 1, none⟩ = some (.int .i64 x.2)) (first | exact ⟨hc0, hc1, hd0, hd1⟩ | exact ⟨(hc _ _ hlc).trans hc0, (hc _ _ hlc).trans hc1, (hc _ _ hlc').trans hd0, (hc _ _ hlc').trans hd1⟩)
        (first | (go_at_call 75; refine (eqSym_same x.1 x.2 _).mono ?_; rintro e w1 ⟨rfl, hb1⟩; obtain ⟨hc, hf⟩ := bcell hb1))
      have HB1 : Hid (Below w.heap.size w w1) := HB.out.drew.trans (hb1.mono HB.out.drew.size)
      clear hb1 hc hf
      go_wp2
      go_roundw
      case rel => exact ⟨k + 1, by omega, by go_num, HB1.out⟩
      case measure => simp [intOf]; omega
    · go_wp2
      go_ret
      exact ⟨rfl, HB.out⟩
theorem eqSymS_same (l : List Y) (a a' : Option Addr) (c c' : Nat) (w : World) (hn : l.length ≤ maxLen) (hl : At eY w a l) (hl' : At eY w a' l) :
    Calls Tryz.prog 52 #[.slice a l.length c, .slice a' l.length c'] w fun e w' => e = .returned (.bool true) ∧ Below w.heap.size w w' := by
  rcases Nat.eq_zero_or_pos l.length with h | h
  · rw [h]; exact eqSymS_nil a a' c c' w
  · exact eqSymS_of l a a' c c' w h hn hl hl'
end Go.Proofs.YthfiblldccnjcaaGreatDoor
namespace Go.Proofs.YthfiblldccnjcaaGreatDoor
open Go.RowKit

end Go.Proofs.YthfiblldccnjcaaGreatDoor
namespace Go.Proofs.YthfiblldccnjcaaGreatDoor
open Go.RowKit

end Go.Proofs.YthfiblldccnjcaaGreatDoor
namespace Go.Proofs.YthfiblldccnjcaaGreatDoor
open Go.RowKit

theorem Tryz.info61 : (Tryz.prog.info? 61).map (fun i => (i.zero, i.size, i.bytes)) = some (some (.agg #[.int .i64 0, .int .i64 0]), 2, 16) := by kernel_rfl
set_option maxRecDepth 100000 in
set_option maxHeartbeats 1600000 in
theorem toSymS_any (l : List Y) (a : Option Addr) (c : Nat) (w : World) (hn : l.length ≤ 1048576) (hl : At eY w a l) :
    Calls Tryz.prog 38 #[.slice a l.length c] w fun e w' => ∃ g, e = .returned (.slice (some ⟨g, 0, none⟩) l.length l.length) ∧ Own eY 61 w' w.heap.size (.slice (some ⟨g, 0, none⟩) l.length l.length) l ∧ Below w.heap.size w w' := by
  obtain ⟨i0, hi, hz⟩ := Option.map_eq_some_iff.1 Tryz.info61
  simp only [Prod.mk.injEq] at hz
  obtain ⟨hz0, hz1, hz2⟩ := hz
  obtain ⟨w1, hmk, hown0, hg0⟩ := run_make_full (P := Tryz.prog) w w.heap.size 58 61 i0 _ 2 Tryz.underlying58 hi hz0 hz1 .i64 .i64 l.length (by rw [hz2]; omega) (by unfold maxLen; omega) (Nat.le_refl _)
  obtain ⟨g, hgg⟩ : ∃ g, w.heap.size = g := ⟨_, rfl⟩
  have HGG := mkHid hgg
  rw [hgg] at hmk hown0
  have HL := mkHid hl
  have HO := mkHid hown0
  have HG := mkHid (Below.grown (Below.refl w.heap.size w) hg0 (Nat.le_refl _) (fun k hk => by cases hk))
  clear hl hown0 hg0 hi hz0 hz1 hz2 hgg
  go_enter Tryz.func38, Tryz.ntmps38
  go_wp2
  go_loopw [4] (fun i w' => ∃ (k : Nat) (xs : List Value), k ≤ l.length ∧ i = .int .i64 k ∧ w'.ownsRow g 61 2 (.slice (some ⟨g, 0, none⟩) l.length l.length) l.length xs ∧ xs.take (k * 2) = eY.flat (l.take k) ∧ Below w.heap.size w w') (fun i _ => l.length - (intOf i).toNat)
  case atStart => exact ⟨0, _, Nat.zero_le _, rfl, HO.out, by simp [El.flat], HG.out⟩
  case round =>
    obtain ⟨k, xs, hk, rfl, hown, htake, hbel⟩ := hrel
    have HW := mkHid hown
    have HT := mkHid htake
    have HB := mkHid hbel
    clear hown htake hbel HO HG hmk
    by_cases hlt : k < l.length
    · obtain ⟨x, hx⟩ : ∃ x, l[k]? = some x := ⟨_, List.getElem?_eq_getElem hlt⟩
      obtain ⟨b, o, rfl, _, hl⟩ := (HL.out.below HB.out).cons (by omega)
      obtain ⟨c0, c1⟩ := get_y hl hx
      have HX := mkHid hx
      clear hl hx
      have i0 : (0 : Int) ≤ (k : Int) := by omega
      have i1 : (k : Int) < (l.length : Int) := by omega
      go_wp2_with fail
      refine (toSym_any x.1 x.2 _).mono ?_
      rintro e w2 ⟨rfl, hb1⟩
      have HW1 := mkHid (owns_below HW.out hb1)
      have HB1 := mkHid (below_step HB.out hb1)
      have hxl := HW1.out.1
      clear hb1 HB HW c0 c1
      obtain ⟨u0, y0⟩ : ∃ v, w2.cell? ⟨g, k * 2, none⟩ = some v := ⟨_, (HW1.out.cellAt (k * 2) (by omega)).trans (List.getElem?_eq_getElem (by omega))⟩
      have z0 := HW1.out.frozenAt (k * 2)
      obtain ⟨u1, y1⟩ : ∃ v, w2.cell? ⟨g, k * 2 + 1, none⟩ = some v := ⟨_, (HW1.out.cellAt (k * 2 + 1) (by omega)).trans (List.getElem?_eq_getElem (by omega))⟩
      have z1 := HW1.out.frozenAt (k * 2 + 1)
      clear hxl
      have HA0 := mkHid (HW1.out.stored (k * 2) (.int .i64 x.1))
      have HA1 := mkHid (HA0.out.1.stored (k * 2 + 1) (.int .i64 x.2))
      go_wp2
      go_roundw
      case rel =>
        refine ⟨k + 1, _, by omega, by go_num, HA1.out.1, step_y HX.out HW1.out.1 HT.out, ?_⟩
        exact (HB1.out.setCell (p := ⟨g, k * 2, none⟩) (Nat.le_of_eq HGG.out) _).setCell (p := ⟨g, k * 2 + 1, none⟩) (Nat.le_of_eq HGG.out) _
      case measure => simp [intOf]; omega
    · have e : k = l.length := by omega
      subst e
      have hown := HW.out
      rw [flat_upto (E := eY) HW.out.1 HT.out] at hown
      have HW := mkHid hown
      clear hown HT
      go_wp2
      go_ret
      exact ⟨g, rfl, by rw [HGG.out]; exact HW.out, HB.out⟩
end Go.Proofs.YthfiblldccnjcaaGreatDoor
namespace Go.Proofs.YthfiblldccnjcaaGreatDoor
open Go.RowKit

set_option maxRecDepth 100000 in
set_option maxHeartbeats 800000 in
theorem eqSymSS_of (ls : List (List Y)) (b off c b' off' c' : Nat) (w : World) (hn : ls.length ≤ maxLen) (hr : ∀ (i : Nat) (l : List Y), ls[i]? = some l → l.length ≤ maxLen)
    (hl : ∀ (i : Nat) (l : List Y), ls[i]? = some l → ∃ ao cap, w.cell? ⟨b, off + i, none⟩ = some (.slice ao l.length cap) ∧ At eY w ao l)
    (hl' : ∀ (i : Nat) (l : List Y), ls[i]? = some l → ∃ ao cap, w.cell? ⟨b', off' + i, none⟩ = some (.slice ao l.length cap) ∧ At eY w ao l) :
    Calls Tryz.prog 26 #[.slice (some ⟨b, off, none⟩) ls.length c, .slice (some ⟨b', off', none⟩) ls.length c'] w fun e w' => e = .returned (.bool true) ∧ Below w.heap.size w w' := by
  unfold maxLen at hn
  have HR := mkHid hr
  have HL := mkHid hl
  have HL' := mkHid hl'
  clear hl hl' hr
  go_enter Tryz.func26, Tryz.ntmps26
  go_wp2
  go_loopw [5] (fun i w' => ∃ (k : Nat), k ≤ ls.length ∧ i = .int .i64 k ∧ Below w.heap.size w w') (fun i _ => ls.length - (intOf i).toNat)
  case atStart => exact ⟨0, Nat.zero_le _, rfl, Below.refl _ _⟩
  case round =>
    obtain ⟨k, hk, rfl, hbel⟩ := hrel
    have HB := mkHid hbel
    by_cases hlt : k < ls.length
    · obtain ⟨l, hx⟩ : ∃ l, ls[k]? = some l := ⟨_, List.getElem?_eq_getElem hlt⟩
      obtain ⟨xa, xc, h1, hi1⟩ := HL.out k l hx
      obtain ⟨ya, yc, h2, hi2⟩ := HL'.out k l hx
      have HM := mkHid (HR.out k l hx)
      have hc1 : wr.cell? ⟨b, off + k, none⟩ = some (.slice xa l.length xc) := (hbel.cell (p := ⟨b, off + k, none⟩) (World.block_lt_of_cell? w _ h1)).trans h1
      have hc2 : wr.cell? ⟨b', off' + k, none⟩ = some (.slice ya l.length yc) := (hbel.cell (p := ⟨b', off' + k, none⟩) (World.block_lt_of_cell? w _ h2)).trans h2
      have HK := mkHid (hi1.below hbel)
      have HK' := mkHid (hi2.below hbel)
      have hlb := World.block_lt_of_cell? wr _ hc1
      have hlb' := World.block_lt_of_cell? wr _ hc2
      dsimp only at hlb hlb'
      clear hx h1 h2 hbel hi1 hi2
      have i0 : (0 : Int) ≤ (k : Int) := by omega
      have i1 : (k : Int) < (ls.length : Int) := by omega
      go_wp2
      go_region_held3 (fun w' => w'.cell? ⟨b, off + k, none⟩ = some (.slice xa l.length xc) ∧ w'.cell? ⟨b', off' + k, none⟩ = some (.slice ya l.length yc)) (first | exact ⟨hc1, hc2⟩ | exact ⟨(hc _ _ hlb).trans hc1, (hc _ _ hlb').trans hc2⟩)
        (first | (go_at_call 52; refine (eqSymS_same l xa ya xc yc _ HM.out (HK.out.below (Below.refl _ _).drew) (HK'.out.below (Below.refl _ _).drew)).mono ?_; rintro e w1 ⟨rfl, hb1⟩; obtain ⟨hc, hf⟩ := bcell hb1))
      have HB1 : Hid (Below w.heap.size w w1) := HB.out.drew.trans (hb1.mono HB.out.drew.size)
      clear hb1 hc hf
      go_wp2
      go_roundw
      case rel => exact ⟨k + 1, by omega, by go_num, HB1.out⟩
      case measure => simp [intOf]; omega
    · go_wp2
      go_ret
      exact ⟨rfl, HB.out⟩
set_option maxRecDepth 100000 in
set_option maxHeartbeats 400000 in
theorem eqSymSS_nil (a a' : Option Addr) (c c' : Nat) (w : World) : Calls Tryz.prog 26 #[.slice a 0 c, .slice a' 0 c'] w fun e w' => e = .returned (.bool true) ∧ Below w.heap.size w w' := by
  go_enter Tryz.func26, Tryz.ntmps26
  go_wp2
  go_loopw [5] (fun i w' => i = .int .i64 0 ∧ w' = w) (fun i _ => 0)
  case atStart => exact ⟨rfl, rfl⟩
  case round =>
    obtain ⟨rfl, rfl⟩ := hrel
    go_wp2
    go_ret
    exact ⟨rfl, Below.refl _ _⟩
theorem eqSymSS_ok (ls : List (List Y)) (a a' : Option Addr) (c c' : Nat) (w : World) (hn : ls.length ≤ maxLen) (hr : ∀ (i : Nat) (l : List Y), ls[i]? = some l → l.length ≤ maxLen) (hl : BndsAt w a ls) (hl' : BndsAt w a' ls) :
    Calls Tryz.prog 26 #[.slice a ls.length c, .slice a' ls.length c'] w fun e w' => e = .returned (.bool true) ∧ Below w.heap.size w w' := by
  rcases hl with rfl | ⟨b, o, rfl, hl⟩
  · exact eqSymSS_nil a a' c c' w
  · rcases hl' with rfl | ⟨b', o', rfl, hl'⟩
    · exact eqSymSS_nil _ a' c c' w
    · exact eqSymSS_of ls b o c b' o' c' w hn hr hl hl'

end Go.Proofs.YthfiblldccnjcaaGreatDoor
namespace Go.Proofs.YthfiblldccnjcaaGreatDoor
open Go.RowKit

structure Small (S : SG) : Prop where
  b : S.B.length ≤ 1048576
  t : tot S.B ≤ 1048576
  v : S.V.length ≤ 1048576
  m : S.M.length ≤ 1048576
theorem Small.row {S : SG} (h : Small S) (i : Nat) (l : List Y) (hl : S.B[i]? = some l) : l.length ≤ 1048576 := Nat.le_trans (tot_get hl) h.t
set_option maxRecDepth 100000 in
set_option maxHeartbeats 1600000 in
theorem eqSeg_same (S : SG) (A A' : SAd) (w : World) (hs : Small S) (hl : SegAt w A S) (hl' : SegAt w A' S) :
    Calls Tryz.prog 10 #[.agg #[.slice A.a0 S.B.length A.c0, .slice A.a1 S.V.length A.c1, .slice A.a2 S.M.length A.c2], .agg #[.slice A'.a0 S.B.length A'.c0, .slice A'.a1 S.V.length A'.c1, .slice A'.a2 S.M.length A'.c2]] w fun e w' => e = .returned (.bool true) ∧ Below w.heap.size w w' := by
  have HS := mkHid hs
  have HL := mkHid hl
  have HL' := mkHid hl'
  clear hs hl hl'
  obtain ⟨w0, hw0⟩ : ∃ x : World, (w.alloc (.cells #[.slice A.a0 S.B.length A.c0, .slice A.a1 S.V.length A.c1, .slice A.a2 S.M.length A.c2] 34)).alloc (.cells #[.slice A'.a0 S.B.length A'.c0, .slice A'.a1 S.V.length A'.c1, .slice A'.a2 S.M.length A'.c2] 34) = x := ⟨_, rfl⟩
  obtain ⟨X, hX⟩ : ∃ x, w.heap.size = x := ⟨_, rfl⟩
  have HB : Hid (Below X w w0) := mkHid (by rw [← hw0, ← hX]; exact bl_alloc (bl_alloc (Below.refl _ _) _) _)
  have P0 : Hid (G3 w0 X (.slice A.a0 S.B.length A.c0) (.slice A.a1 S.V.length A.c1) (.slice A.a2 S.M.length A.c2)) := mkHid (by rw [← hw0, ← hX]; constructor <;> simp [go_sem])
  have P1 : Hid (G3 w0 (X + 1) (.slice A'.a0 S.B.length A'.c0) (.slice A'.a1 S.V.length A'.c1) (.slice A'.a2 S.M.length A'.c2)) := mkHid (by rw [← hw0, ← hX]; constructor <;> simp [go_sem])
  have HX := mkHid hX
  have L0 : Hid (SegAt w0 A S) := mkHid (HL.out.below (by rw [hX]; exact HB.out))
  have L1 : Hid (SegAt w0 A' S) := mkHid (HL'.out.below (by rw [hX]; exact HB.out))
  obtain ⟨q0, q1, q2, _, _, _⟩ := P0.out
  obtain ⟨p0, p1, p2, _, _, _⟩ := P1.out
  clear HL HL'
  go_enter Tryz.func10, Tryz.ntmps10
  go_wp2_with fail
  clear hw0 hX q0 q1 q2 p0 p1 p2
  refine (eqSymSS_ok S.B A.a0 A'.a0 A.c0 A'.c0 _ (by have := HS.out.b; unfold maxLen; omega) (fun i l hl => by have := HS.out.row i l hl; unfold maxLen; omega) L0.out.b L1.out.b).mono ?_
  rintro e w1 ⟨rfl, hb⟩
  have R0 := mkHid (P0.out.below hb)
  have R1 := mkHid (P1.out.below hb)
  have M0 := mkHid (L0.out.below hb)
  have M1 := mkHid (L1.out.below hb)
  have HB1 : Hid (Below X w w1) := mkHid (HB.out.trans (hb.mono (by have := HX.out; have := HB.out.size; omega)))
  have HS1 : Hid (X ≤ w1.heap.size) := mkHid (by have := HX.out; have := HB1.out.size; omega)
  clear hb P0 P1 L0 L1 HB
  obtain ⟨q0, q1, q2, _, _, _⟩ := R0.out
  obtain ⟨p0, p1, p2, _, _, _⟩ := R1.out
  go_wp2_with fail
  clear q0 q1 q2 p0 p1 p2
  refine (eqValS_same S.V A.a1 A'.a1 A.c1 A'.c1 _ (by have := HS.out.v; unfold maxLen; omega) M0.out.v M1.out.v).mono ?_
  rintro e w2 ⟨rfl, hb⟩
  have P0 := mkHid (R0.out.below hb)
  have P1 := mkHid (R1.out.below hb)
  have L0 := mkHid (M0.out.below hb)
  have L1 := mkHid (M1.out.below hb)
  have HB2 : Hid (Below X w w2) := mkHid (HB1.out.trans (hb.mono HS1.out))
  have HS2 : Hid (X ≤ w2.heap.size) := mkHid (by have := HX.out; have := HB2.out.size; omega)
  clear hb R0 R1 M0 M1 HB1
  obtain ⟨q0, q1, q2, _, _, _⟩ := P0.out
  obtain ⟨p0, p1, p2, _, _, _⟩ := P1.out
  go_wp2_with fail
  clear q0 q1 q2 p0 p1 p2
  refine (eqBoolS_same S.M A.a2 A'.a2 A.c2 A'.c2 _ (by have := HS.out.m; unfold maxLen; omega) L0.out.m L1.out.m).mono ?_
  rintro e w3 ⟨rfl, hb⟩
  have HB3 : Hid (Below X w w3) := mkHid (HB2.out.trans (hb.mono HS2.out))
  clear hb
  go_wp2
  go_ret
  exact ⟨rfl, by rw [HX.out]; exact HB3.out⟩
def marksS (k0 : Int) (S : SG) : SG := ⟨marksYY k0 S.B, marksV (k0 + (tot S.B : Int) * 2) S.V.length, marksB (k0 + (tot S.B : Int) * 2 + (S.V.length : Int) * 3) S.M.length⟩
def cntS (S : SG) : Int := (tot S.B : Int) * 2 + (S.V.length : Int) * 3 + (S.M.length : Int)
theorem cntS_nonneg (S : SG) : 0 ≤ cntS S := by unfold cntS; omega
theorem Small.cnt {S : SG} (h : Small S) : cntS S ≤ 6291456 := by have := h.t; have := h.v; have := h.m; unfold cntS; omega
theorem Outs.alloc {lo hi : Nat} {a b : World} (h : Outs lo hi a b) (o : Obj) : Outs lo hi a (b.alloc o) := h.step ((Below.refl _ _).alloc (Nat.le_refl _) _)
end Go.Proofs.YthfiblldccnjcaaGreatDoor
namespace Go.Proofs.YthfiblldccnjcaaGreatDoor
open Go.RowKit

structure RowS (n : Int) (B : List (List Y)) (i : Nat) (b : List Y) : Prop where
  ne : b ≠ []
  sym : ∀ p, p ∈ b → symP n p
  asc : b.Pairwise LtY
  inn : ∀ p, p ∈ b → inY B p = some i
theorem OkS.row {n l : Int} {B : List (List Y)} {V : List VV} {M : List Bool} (h : OkS n l B V M) {i : Nat} {b : List Y} (hb : B[i]? = some b) : RowS n B i b :=
  have hm := List.mem_of_getElem? hb
  ⟨(h.rows b hm).ne, (h.rows b hm).sym, (h.rows b hm).asc, fun _ hp => in_of_nodup h.nodup hb hp⟩
theorem last_get {B : List (List Y)} (h : 1 ≤ B.length) : ∃ b, B[B.length - 1]? = some b ∧ B.getLastD [] = b := by
  refine ⟨B[B.length - 1], List.getElem?_eq_getElem (by omega), ?_⟩
  have hne : B ≠ [] := by intro e; rw [e] at h; simp at h
  rw [List.getLastD_eq_getLast?, List.getLast?_eq_getElem?, List.getElem?_eq_getElem (by omega)]; rfl
theorem head_get {B : List (List Y)} (h : 1 ≤ B.length) : ∃ b, B[0]? = some b ∧ B.headD [] = b := by
  cases B with
  | nil => simp at h
  | cons b B => exact ⟨b, rfl, rfl⟩
theorem ok_ends {n l : Int} {B : List (List Y)} {V : List VV} {M : List Bool} (h : OkS n l B V M) : toI (inY B (0, 0)) = 0 ∧ toI (inY B (l, 0)) = (B.length : Int) - 1 := by
  obtain ⟨b, h1, h2⟩ := head_get h.k1
  obtain ⟨c, h3, h4⟩ := last_get h.k1
  have hf := h.first
  have hl := h.last
  rw [h2] at hf
  rw [h4] at hl
  have k1 := h.k1
  rw [in_of_nodup h.nodup h1 hf, in_of_nodup h.nodup h3 hl]
  exact ⟨rfl, by show ((B.length - 1 : Nat) : Int) = _; omega⟩
theorem ok_of {n l : Int} {B : List (List Y)} {V : List VV} {M : List Bool} (h1 : lenP n l) (h2 : 1 ≤ B.length) (h3 : B.length ≤ 16) (h4 : V.length + 1 = B.length) (h5 : M.length + 1 = B.length) (h6 : B.flatten.length ≤ 40)
    (hr : ∀ (i : Nat) (b : List Y), B[i]? = some b → RowS n B i b) (hv : ∀ v, v ∈ V → okB v.1 v.2.1 = true) (e0 : toI (inY B (0, 0)) = 0) (e1 : toI (inY B (l, 0)) = (B.length : Int) - 1) : OkS n l B V M := by
  have rows : ∀ b, b ∈ B → RowP n b := fun b hb => by
    obtain ⟨i, hi, rfl⟩ := List.getElem_of_mem hb
    have := hr i _ (List.getElem?_eq_getElem hi)
    exact ⟨this.ne, this.sym, this.asc⟩
  refine ⟨h1, h2, h3, h4, h5, h6, rows, nodup_of_in (fun b hb => (rows b hb).asc) fun i b hb p hp => (hr i b hb).inn p hp, hv, ?_, ?_⟩
  · obtain ⟨b, g1, g2⟩ := head_get h2
    obtain ⟨hi, hm, _⟩ := inY_some.1 (toI_eq.1 (show toI (inY B (0, 0)) = ((0 : Nat) : Int) from e0))
    rw [List.getElem?_eq_getElem hi] at g1
    rw [g2, ← Option.some.inj g1]
    exact hm
  · obtain ⟨b, g1, g2⟩ := last_get h2
    obtain ⟨hi, hm, _⟩ := inY_some.1 (toI_eq.1 (show toI (inY B (l, 0)) = ((B.length - 1 : Nat) : Int) by rw [e1]; omega))
    rw [List.getElem?_eq_getElem hi] at g1
    rw [g2, ← Option.some.inj g1]
    exact hm
/-- From one to the next it ascends: so it does. -/
theorem asc_steps : ∀ {b : List Y}, (∀ (q : Nat) (x y : Y), b[q]? = some x → b[q + 1]? = some y → LtY x y) → b.Pairwise LtY
  | [], _ => List.Pairwise.nil
  | [a], _ => by simp
  | a :: b :: l, h => by
    have ih : (b :: l).Pairwise LtY := asc_steps fun q x y hx hy => h (q + 1) x y (by simpa using hx) (by simpa using hy)
    refine List.pairwise_cons.2 ⟨fun p hp => ?_, ih⟩
    have hab := h 0 a b rfl rfl
    rcases List.mem_cons.1 hp with rfl | hp
    · exact hab
    · exact hab.trans ((List.pairwise_cons.1 ih).1 p hp)
theorem asc_at {b : List Y} (h : b.Pairwise LtY) {q : Nat} {x y : Y} (hx : b[q]? = some x) (hy : b[q + 1]? = some y) : LtY x y := by
  obtain ⟨hi, rfl⟩ := List.getElem?_eq_some_iff.1 hx
  obtain ⟨hj, rfl⟩ := List.getElem?_eq_some_iff.1 hy
  rw [List.pairwise_iff_getElem] at h
  exact h q (q + 1) hi hj (by omega)
theorem lessB_iff (x y : Y) : lessB x.1 x.2 y.1 y.2 = true ↔ LtY x y := by unfold lessB LtY; simp
theorem symB_iff (n : Int) (x : Y) : symOkB n x.1 x.2 = true ↔ symP n x := by unfold symOkB btw symP; simp [and_assoc]
/-- What is known of a row behind its first j terms. -/
structure Part (n : Int) (B : List (List Y)) (i : Nat) (b : List Y) (j : Nat) : Prop where
  each : ∀ (q : Nat) (x : Y), q < j → b[q]? = some x → symP n x ∧ inY B x = some i
  step : ∀ (q : Nat) (x y : Y), q + 1 < j → b[q]? = some x → b[q + 1]? = some y → LtY x y
theorem Part.zero (n : Int) (B : List (List Y)) (i : Nat) (b : List Y) : Part n B i b 0 := ⟨fun q x h => by omega, fun q x y h => by omega⟩
theorem Part.next {n : Int} {B : List (List Y)} {i : Nat} {b : List Y} {j : Nat} (h : Part n B i b j) {x : Y} (hx : b[j]? = some x) (h1 : symP n x) (h2 : inY B x = some i) (h3 : ∀ q y, j = q + 1 → b[q]? = some y → LtY y x) : Part n B i b (j + 1) :=
  ⟨fun q y hq hy => by
    rcases (by omega : q < j ∨ q = j) with h' | rfl
    · exact h.each q y h' hy
    · rw [hx] at hy; cases hy; exact ⟨h1, h2⟩, fun q y z hq hy hz => by
    rcases (by omega : q + 1 < j ∨ j = q + 1) with h' | h'
    · exact h.step q y z h' hy hz
    · subst h'; rw [hx] at hz; cases hz; exact h3 q y rfl hy⟩
theorem Part.next2 {n : Int} {B : List (List Y)} {i : Nat} {b : List Y} {j jm : Nat} (h : Part n B i b j) {x y : Y} (hx : b[j]? = some x) (h1 : symP n x) (h2 : inY B x = some i) (hj : j = jm + 1) (hy : b[jm]? = some y) (hl : LtY y x) : Part n B i b (j + 1) :=
  h.next hx h1 h2 fun q y' hq hy' => by
    obtain rfl : q = jm := by omega
    rw [hy] at hy'
    cases hy'
    exact hl
theorem Part.all {n : Int} {B : List (List Y)} {i : Nat} {b : List Y} (h : Part n B i b b.length) (hne : b ≠ []) : RowS n B i b :=
  ⟨hne, fun p hp => by obtain ⟨q, hq, rfl⟩ := List.getElem_of_mem hp; exact (h.each q _ hq (List.getElem?_eq_getElem hq)).1, asc_steps fun q x y hx hy => h.step q x y (List.getElem?_eq_some_iff.1 hy).1 hx hy, fun p hp => by obtain ⟨q, hq, rfl⟩ := List.getElem_of_mem hp; exact (h.each q _ hq (List.getElem?_eq_getElem hq)).2⟩
/-- A call tells whether something is so. -/
def Tells (w w' : World) (e : Ending) (p : Prop) : Prop := Below w.heap.size w w' ∧ ∃ r : Bool, e = .returned (.bool r) ∧ (r = true ↔ p)
theorem Tells.no {w w' : World} {p : Prop} (hb : Below w.heap.size w w') (h : ¬ p) : Tells w w' (.returned (.bool false)) p := ⟨hb, false, rfl, fun e => (by cases e), fun e => absurd e h⟩
theorem Tells.yes {w w' : World} {p : Prop} (hb : Below w.heap.size w w') (h : p) : Tells w w' (.returned (.bool true)) p := ⟨hb, true, rfl, fun _ => h, fun _ => rfl⟩
end Go.Proofs.YthfiblldccnjcaaGreatDoor
namespace Go.Proofs.YthfiblldccnjcaaGreatDoor
open Go.RowKit

def eI : El Int := ⟨fun x => [.int .i64 x], 1, by omega, fun _ => rfl⟩
theorem get_i {w : World} {b o : Nat} {l : List Int} (h : ∀ (i : Nat) (x : Int), l[i]? = some x → ∀ (j : Nat) (v : Value), (eI.enc x)[j]? = some v → w.cell? ⟨b, o + i * eI.k + j, none⟩ = some v) {i : Nat} {x : Int} (hx : l[i]? = some x) :
    w.cell? ⟨b, o + i, none⟩ = some (.int .i64 x) := by have := h i x hx 0 _ rfl; simpa [eI] using this
structure VP (l : List Int) : Prop where
  n1 : 1 ≤ l.length
  n2 : l.length ≤ 13
  zero : l[0]? = some 0
  each : ∀ x, x ∈ l → valB x = true
structure AllV (l : List Int) : Prop where
  each : ∀ x, x ∈ l → valB x = true
/-- A term of so many symbols. -/
structure InS (n : Nat) (p : Y) : Prop where
  lo : 0 ≤ p.1
  hi : p.1 < n
  c1 : -1000 ≤ p.2
  c2 : p.2 ≤ 1000
def valY (l : List Int) (p : Y) : Int := l.getD p.1.toNat 0 + p.2
theorem VP.bound {l : List Int} (h : VP l) {p : Y} (hp : InS l.length p) : ∃ x, l[p.1.toNat]? = some x ∧ valY l p = x + p.2 ∧ -1000000 ≤ x ∧ x ≤ 1000000 := by
  obtain ⟨k, hk⟩ : ∃ k : Nat, p.1.toNat = k := ⟨_, rfl⟩
  have h1 := hp.lo
  have h2 := hp.hi
  have hlt : k < l.length := by omega
  have hx : l[k]? = some l[k] := List.getElem?_eq_getElem hlt
  have hv := of_decide_eq_true (h.each _ (List.mem_of_getElem? hx))
  rw [hk]
  refine ⟨l[k], hx, ?_, hv.1, hv.2⟩
  unfold valY
  rw [hk, List.getD_eq_getElem?_getD, hx]
  rfl
end Go.Proofs.YthfiblldccnjcaaGreatDoor
namespace Go.Proofs.YthfiblldccnjcaaGreatDoor
open Go.RowKit

end Go.Proofs.YthfiblldccnjcaaGreatDoor
