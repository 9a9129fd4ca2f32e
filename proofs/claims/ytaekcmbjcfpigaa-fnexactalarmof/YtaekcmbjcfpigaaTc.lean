/-
  CONTRACTS of the law's toCellS, eqCellS, szCellS.
-/
import Derived.Test.YtaekcmbjcfpigaaBa
namespace Go.Proofs.Ytaekcmbjcfpigaa
open Go.RowKit

set_option maxHeartbeats 400000 in
theorem toCell_any (s : Bool) (n : Int) (w : World) : Calls Try.prog 28 #[.agg #[.bool s, .int .i64 n]] w fun e w' => e = .returned (.agg #[.bool s, .int .i64 n]) ∧ Below w.heap.size w w' := by
  go_enter Try.func28, Try.ntmps28
  go_wp2
  exact bodyPost_ret (v := .agg #[.bool s, .int .i64 n]) (by simp [results, Try.results28, go_sem]) rfl ⟨rfl, by repeat (first | with_reducible exact Below.refl _ _ | (with_reducible refine bl_set ?_ (by simp) _) | with_reducible refine bl_alloc ?_ _)⟩


theorem step_c {l : List CC} {k : Nat} {x : CC} (hx : l[k]? = some x) {xs : List Value} (hlen : xs.length = l.length * 2) (h : xs.take (k * 2) = eC.flat (l.take k)) :
    ((xs.set (k * 2) (.bool x.1)).set (k * 2 + 1) (.int .i64 x.2)).take ((k + 1) * 2) = eC.flat (l.take (k + 1)) := by
  obtain ⟨hk, hx'⟩ := List.getElem?_eq_some_iff.1 hx
  obtain ⟨p, a, b, r, rfl, hp⟩ := two_parts (n := k * 2) hlen (by omega)
  rw [List.take_left' hp] at h
  rw [List.take_succ_eq_append_getElem hk, El.flat_app, ← h, hx', show (k + 1) * 2 = p.length + 2 by omega]
  have s1 : (p ++ a :: b :: r).set (k * 2) (.bool x.1) = p ++ .bool x.1 :: b :: r := by rw [← hp]; simp
  have s2 : (p ++ .bool x.1 :: b :: r).set (k * 2 + 1) (.int .i64 x.2) = p ++ .bool x.1 :: .int .i64 x.2 :: r := by rw [← hp]; simp
  rw [s1, s2, List.take_length_add_append]
  simp [El.flat, eC]
theorem Try.info60 : (Try.prog.info? 60).map (fun i => (i.zero, i.size, i.bytes)) = some (some (.agg #[.bool false, .int .i64 0]), 2, 16) := by kernel_rfl
set_option maxRecDepth 100000 in
set_option maxHeartbeats 1600000 in
theorem toCellS_any (l : List CC) (a : Option Addr) (c : Nat) (w : World) (hn : l.length ≤ 1048576) (hl : At eC w a l) :
    Calls Try.prog 24 #[.slice a l.length c] w fun e w' => ∃ g, e = .returned (.slice (some ⟨g, 0, none⟩) l.length l.length) ∧ Own eC 60 w' w.heap.size (.slice (some ⟨g, 0, none⟩) l.length l.length) l ∧ Below w.heap.size w w' := by
  obtain ⟨i0, hi, hz⟩ := Option.map_eq_some_iff.1 Try.info60
  simp only [Prod.mk.injEq] at hz
  obtain ⟨hz0, hz1, hz2⟩ := hz
  obtain ⟨w1, hmk, hown0, hg0⟩ := run_make_full (P := Try.prog) w w.heap.size 55 60 i0 _ 2 Try.underlying55 hi hz0 hz1 .i64 .i64 l.length (by rw [hz2]; omega) (by unfold maxLen; omega) (Nat.le_refl _)
  obtain ⟨g, hgg⟩ : ∃ g, w.heap.size = g := ⟨_, rfl⟩
  have HGG := mkHid hgg
  rw [hgg] at hmk hown0
  have HL := mkHid hl
  have HO := mkHid hown0
  have HG := mkHid (Below.grown (Below.refl w.heap.size w) hg0 (Nat.le_refl _) (fun k hk => by cases hk))
  clear hl hown0 hg0 hi hz0 hz1 hz2 hgg
  go_enter Try.func24, Try.ntmps24
  go_wp2
  go_loopw [4] (fun i w' => ∃ (k : Nat) (xs : List Value), k ≤ l.length ∧ i = .int .i64 k ∧ w'.ownsRow g 60 2 (.slice (some ⟨g, 0, none⟩) l.length l.length) l.length xs ∧ xs.take (k * 2) = eC.flat (l.take k) ∧ Below w.heap.size w w') (fun i _ => l.length - (intOf i).toNat)
  case atStart => exact ⟨0, _, Nat.zero_le _, rfl, HO.out, by simp [El.flat], HG.out⟩
  case round =>
    obtain ⟨k, xs, hk, rfl, hown, htake, hbel⟩ := hrel
    have HW := mkHid hown
    have HT := mkHid htake
    have HB := mkHid hbel
    clear hown htake hbel HO HG hmk
    by_cases hlt : k < l.length
    · obtain ⟨x, hx⟩ : ∃ x, l[k]? = some x := ⟨_, List.getElem?_eq_getElem hlt⟩
      obtain ⟨b, o, rfl, _, hl⟩ := (HL.out.below HB.out).cons (by omega)
      obtain ⟨c0, c1⟩ := get_c hl hx
      have HX := mkHid hx
      clear hl hx
      have i0 : (0 : Int) ≤ (k : Int) := by omega
      have i1 : (k : Int) < (l.length : Int) := by omega
      go_wp2_with fail
      refine (toCell_any x.1 x.2 _).mono ?_
      rintro e w2 ⟨rfl, hb1⟩
      have HW1 := mkHid (owns_below HW.out hb1)
      have HB1 := mkHid (below_step HB.out hb1)
      have hxl := HW1.out.1
      clear hb1 HB HW c0 c1
      obtain ⟨u0, y0⟩ : ∃ v, w2.cell? ⟨g, k * 2, none⟩ = some v := ⟨_, (HW1.out.cellAt (k * 2) (by omega)).trans (List.getElem?_eq_getElem (by omega))⟩
      have z0 := HW1.out.frozenAt (k * 2)
      obtain ⟨u1, y1⟩ : ∃ v, w2.cell? ⟨g, k * 2 + 1, none⟩ = some v := ⟨_, (HW1.out.cellAt (k * 2 + 1) (by omega)).trans (List.getElem?_eq_getElem (by omega))⟩
      have z1 := HW1.out.frozenAt (k * 2 + 1)
      clear hxl
      have HA0 := mkHid (HW1.out.stored (k * 2) (.bool x.1))
      have HA1 := mkHid (HA0.out.1.stored (k * 2 + 1) (.int .i64 x.2))
      go_wp2
      go_roundw
      case rel =>
        refine ⟨k + 1, _, by omega, by go_num, HA1.out.1, step_c HX.out HW1.out.1 HT.out, ?_⟩
        exact (HB1.out.setCell (p := ⟨g, k * 2, none⟩) (Nat.le_of_eq HGG.out) _).setCell (p := ⟨g, k * 2 + 1, none⟩) (Nat.le_of_eq HGG.out) _
      case measure => simp [intOf]; omega
    · have e : k = l.length := by omega
      subst e
      have hown := HW.out
      rw [flat_upto (E := eC) HW.out.1 HT.out] at hown
      have HW := mkHid hown
      clear hown HT
      go_wp2
      go_ret
      exact ⟨g, rfl, by rw [HGG.out]; exact HW.out, HB.out⟩

set_option maxHeartbeats 400000 in
theorem eqCell_same (a : Bool) (b : Int) (w : World) : Calls Try.prog 29 #[.agg #[.bool a, .int .i64 b], .agg #[.bool a, .int .i64 b]] w fun e w' => e = .returned (.bool true) ∧ Below w.heap.size w w' := by
  cases a
  all_goals
    go_enter Try.func29, Try.ntmps29
    go_wp2
    go_ret
    exact ⟨rfl, ((Below.refl _ _).alloc (Nat.le_refl _) _).alloc (by simp) _⟩
set_option maxRecDepth 100000 in
set_option maxHeartbeats 400000 in
theorem eqCellS_nil (a a' : Option Addr) (c c' : Nat) (w : World) : Calls Try.prog 27 #[.slice a 0 c, .slice a' 0 c'] w fun e w' => e = .returned (.bool true) ∧ Below w.heap.size w w' := by
  go_enter Try.func27, Try.ntmps27
  go_wp2
  go_loopw [5] (fun i w' => i = .int .i64 0 ∧ w' = w) (fun i _ => 0)
  case atStart => exact ⟨rfl, rfl⟩
  case round =>
    obtain ⟨rfl, rfl⟩ := hrel
    go_wp2
    go_ret
    exact ⟨rfl, Below.refl _ _⟩
set_option maxRecDepth 100000 in
set_option maxHeartbeats 800000 in
theorem eqCellS_of (l : List CC) (a a' : Option Addr) (c c' : Nat) (w : World) (h0 : 0 < l.length) (hn : l.length ≤ maxLen) (hl : At eC w a l) (hl' : At eC w a' l) :
    Calls Try.prog 27 #[.slice a l.length c, .slice a' l.length c'] w fun e w' => e = .returned (.bool true) ∧ Below w.heap.size w w' := by
  unfold maxLen at hn
  obtain ⟨b, off, rfl, hlb, _⟩ := hl.cons h0
  obtain ⟨b', off', rfl, hlb', _⟩ := hl'.cons h0
  have HL := mkHid hl
  have HL' := mkHid hl'
  clear hl hl'
  go_enter Try.func27, Try.ntmps27
  go_wp2
  go_loopw [5] (fun i w' => ∃ (k : Nat), k ≤ l.length ∧ i = .int .i64 k ∧ Below w.heap.size w w') (fun i _ => l.length - (intOf i).toNat)
  case atStart => exact ⟨0, Nat.zero_le _, rfl, Below.refl _ _⟩
  case round =>
    obtain ⟨k, hk, rfl, hbel⟩ := hrel
    have HB := mkHid hbel
    by_cases hlt : k < l.length
    · obtain ⟨x, hx⟩ : ∃ x, l[k]? = some x := ⟨_, List.getElem?_eq_getElem hlt⟩
      obtain ⟨_, _, e, hlc, hq⟩ := (HL.out.below hbel).cons h0
      cases e
      obtain ⟨_, _, e, hlc', hq'⟩ := (HL'.out.below hbel).cons h0
      cases e
      obtain ⟨hc0, hc1⟩ := get_c hq hx
      obtain ⟨hd0, hd1⟩ := get_c hq' hx
      clear hx hbel hq hq'
      have i0 : (0 : Int) ≤ (k : Int) := by omega
      have i1 : (k : Int) < (l.length : Int) := by omega
      go_wp2
      go_region_held3 (fun w' => w'.cell? ⟨b, off + k * 2, none⟩ = some (.bool x.1) ∧ w'.cell? ⟨b, off + k * 2 + 1, none⟩ = some (.int .i64 x.2) ∧ w'.cell? ⟨b', off' + k * 2, none⟩ = some (.bool x.1) ∧ w'.cell? ⟨b', off' + k * 2 + 1, none⟩ = some (.int .i64 x.2)) (first | exact ⟨hc0, hc1, hd0, hd1⟩ | exact ⟨(hc _ _ hlc).trans hc0, (hc _ _ hlc).trans hc1, (hc _ _ hlc').trans hd0, (hc _ _ hlc').trans hd1⟩)
        (first | (go_at_call 29; refine (eqCell_same x.1 x.2 _).mono ?_; rintro e w1 ⟨rfl, hb1⟩; obtain ⟨hc, hf⟩ := bcell hb1))
      have HB1 : Hid (Below w.heap.size w w1) := HB.out.drew.trans (hb1.mono HB.out.drew.size)
      clear hb1 hc hf
      go_wp2
      go_roundw
      case rel => exact ⟨k + 1, by omega, by go_num, HB1.out⟩
      case measure => simp [intOf]; omega
    · go_wp2
      go_ret
      exact ⟨rfl, HB.out⟩
theorem eqCellS_same (l : List CC) (a a' : Option Addr) (c c' : Nat) (w : World) (hn : l.length ≤ maxLen) (hl : At eC w a l) (hl' : At eC w a' l) :
    Calls Try.prog 27 #[.slice a l.length c, .slice a' l.length c'] w fun e w' => e = .returned (.bool true) ∧ Below w.heap.size w w' := by
  rcases Nat.eq_zero_or_pos l.length with h | h
  · rw [h]; exact eqCellS_nil a a' c c' w
  · exact eqCellS_of l a a' c c' w h hn hl hl'

set_option maxHeartbeats 400000 in
theorem szCellS_any (l : List CC) (a : Option Addr) (c : Nat) (r : Int) (w : World) (hn : l.length ≤ maxLen) (h0 : 0 ≤ r) (h1 : r ≤ 1048576) :
    Calls Try.prog 23 #[.slice a l.length c, .int .i64 r] w fun e w' => Below w.heap.size w w' ∧ ∃ q, e = .returned (.int .i64 q) ∧ (¬ q < 0 → l.length ≤ 1048576) := by
  unfold maxLen at hn
  have hw : IntKind.i64.wrap (r - (l.length : Int)) = r - (l.length : Int) := IntWalk.i64_in _ (by omega)
  by_cases hneg : r - (l.length : Int) < 0
  · go_enter Try.func23, Try.ntmps23
    go_wp2
    go_ret
    exact ⟨Below.refl _ _, -1, rfl, fun h => by omega⟩
  · have HP : Hid (l.length ≤ 1048576) := mkHid (by omega)
    go_enter Try.func23, Try.ntmps23
    go_wp2
    go_ret
    exact ⟨Below.refl _ _, _, rfl, fun _ => HP.out⟩
end Go.Proofs.Ytaekcmbjcfpigaa
