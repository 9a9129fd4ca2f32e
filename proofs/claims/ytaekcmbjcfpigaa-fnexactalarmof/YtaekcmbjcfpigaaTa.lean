/-
  CONTRACTS of the law's toAlarmS, eqAlarmS, szAlarmS.
-/
import Derived.Test.YtaekcmbjcfpigaaBa
namespace Go.Proofs.Ytaekcmbjcfpigaa
open Go.RowKit

set_option maxHeartbeats 400000 in
theorem toAlarm_any (a b c : Int) (w : World) : Calls Try.prog 15 #[.agg #[.int .i64 a, .int .i64 b, .int .i64 c]] w fun e w' => e = .returned (.agg #[.int .i64 a, .int .i64 b, .int .i64 c]) ∧ Below w.heap.size w w' := by
  go_enter Try.func15, Try.ntmps15
  go_wp2
  exact bodyPost_ret (v := .agg #[.int .i64 a, .int .i64 b, .int .i64 c]) (by simp [results, Try.results15, go_sem]) rfl ⟨rfl, (((Below.refl _ _).alloc (Nat.le_refl _) _).alloc (by simp) _).alloc (by simp; omega) _⟩
set_option maxHeartbeats 400000 in
theorem eqAlarm_same (a b c : Int) (w : World) : Calls Try.prog 20 #[.agg #[.int .i64 a, .int .i64 b, .int .i64 c], .agg #[.int .i64 a, .int .i64 b, .int .i64 c]] w fun e w' => e = .returned (.bool true) ∧ Below w.heap.size w w' := by
  go_enter Try.func20, Try.ntmps20
  go_wp2
  go_ret
  exact ⟨rfl, ((Below.refl _ _).alloc (Nat.le_refl _) _).alloc (by simp) _⟩

theorem Try.info43 : (Try.prog.info? 43).map (fun i => (i.zero, i.size, i.bytes)) = some (some (.agg #[.int .i64 0, .int .i64 0, .int .i64 0]), 3, 24) := by kernel_rfl
set_option maxRecDepth 100000 in
set_option maxHeartbeats 1600000 in
theorem toAlarmS_any (l : List AA) (a : Option Addr) (c : Nat) (w : World) (hn : l.length ≤ 1048576) (hl : At eA w a l) :
    Calls Try.prog 7 #[.slice a l.length c] w fun e w' => ∃ g, e = .returned (.slice (some ⟨g, 0, none⟩) l.length l.length) ∧ Own eA 43 w' w.heap.size (.slice (some ⟨g, 0, none⟩) l.length l.length) l ∧ Below w.heap.size w w' := by
  obtain ⟨i0, hi, hz⟩ := Option.map_eq_some_iff.1 Try.info43
  simp only [Prod.mk.injEq] at hz
  obtain ⟨hz0, hz1, hz2⟩ := hz
  obtain ⟨w1, hmk, hown0, hg0⟩ := run_make_full (P := Try.prog) w w.heap.size 30 43 i0 _ 3 Try.underlying30 hi hz0 hz1 .i64 .i64 l.length (by rw [hz2]; omega) (by unfold maxLen; omega) (Nat.le_refl _)
  obtain ⟨g, hgg⟩ : ∃ g, w.heap.size = g := ⟨_, rfl⟩
  have HGG := mkHid hgg
  rw [hgg] at hmk hown0
  have HL := mkHid hl
  have HO := mkHid hown0
  have HG := mkHid (Below.grown (Below.refl w.heap.size w) hg0 (Nat.le_refl _) (fun k hk => by cases hk))
  clear hl hown0 hg0 hi hz0 hz1 hz2 hgg
  go_enter Try.func7, Try.ntmps7
  go_wp2
  go_loopw [4] (fun i w' => ∃ (k : Nat) (xs : List Value), k ≤ l.length ∧ i = .int .i64 k ∧ w'.ownsRow g 43 3 (.slice (some ⟨g, 0, none⟩) l.length l.length) l.length xs ∧ xs.take (k * 3) = eA.flat (l.take k) ∧ Below w.heap.size w w') (fun i _ => l.length - (intOf i).toNat)
  case atStart => exact ⟨0, _, Nat.zero_le _, rfl, HO.out, by simp [El.flat], HG.out⟩
  case round =>
    obtain ⟨k, xs, hk, rfl, hown, htake, hbel⟩ := hrel
    have HW := mkHid hown
    have HT := mkHid htake
    have HB := mkHid hbel
    clear hown htake hbel HO HG hmk
    by_cases hlt : k < l.length
    · obtain ⟨x, hx⟩ : ∃ x, l[k]? = some x := ⟨_, List.getElem?_eq_getElem hlt⟩
      obtain ⟨b, o, rfl, _, hl⟩ := (HL.out.below HB.out).cons (by omega)
      obtain ⟨c0, c1, c2⟩ := get_a hl hx
      have HX := mkHid hx
      clear hl hx
      have i0 : (0 : Int) ≤ (k : Int) := by omega
      have i1 : (k : Int) < (l.length : Int) := by omega
      go_wp2_with fail
      refine (toAlarm_any x.1 x.2.1 x.2.2 _).mono ?_
      rintro e w2 ⟨rfl, hb1⟩
      have HW1 := mkHid (owns_below HW.out hb1)
      have HB1 := mkHid (below_step HB.out hb1)
      have hxl := HW1.out.1
      clear hb1 HB HW c0 c1 c2
      obtain ⟨u0, y0⟩ : ∃ v, w2.cell? ⟨g, k * 3, none⟩ = some v := ⟨_, (HW1.out.cellAt (k * 3) (by omega)).trans (List.getElem?_eq_getElem (by omega))⟩
      have z0 := HW1.out.frozenAt (k * 3)
      obtain ⟨u1, y1⟩ : ∃ v, w2.cell? ⟨g, k * 3 + 1, none⟩ = some v := ⟨_, (HW1.out.cellAt (k * 3 + 1) (by omega)).trans (List.getElem?_eq_getElem (by omega))⟩
      have z1 := HW1.out.frozenAt (k * 3 + 1)
      obtain ⟨u2, y2⟩ : ∃ v, w2.cell? ⟨g, k * 3 + 2, none⟩ = some v := ⟨_, (HW1.out.cellAt (k * 3 + 2) (by omega)).trans (List.getElem?_eq_getElem (by omega))⟩
      have z2 := HW1.out.frozenAt (k * 3 + 2)
      clear hxl
      have HA0 := mkHid (HW1.out.stored (k * 3) (.int .i64 x.1))
      have HA1 := mkHid (HA0.out.1.stored (k * 3 + 1) (.int .i64 x.2.1))
      have HA2 := mkHid (HA1.out.1.stored (k * 3 + 2) (.int .i64 x.2.2))
      go_wp2
      go_roundw
      case rel =>
        refine ⟨k + 1, _, by omega, by go_num, HA2.out.1, step_a HX.out HW1.out.1 HT.out, ?_⟩
        exact ((HB1.out.setCell (p := ⟨g, k * 3, none⟩) (Nat.le_of_eq HGG.out) _).setCell (p := ⟨g, k * 3 + 1, none⟩) (Nat.le_of_eq HGG.out) _).setCell (p := ⟨g, k * 3 + 2, none⟩) (Nat.le_of_eq HGG.out) _
      case measure => simp [intOf]; omega
    · have e : k = l.length := by omega
      subst e
      have hown := HW.out
      rw [flat_upto (E := eA) HW.out.1 HT.out] at hown
      have HW := mkHid hown
      clear hown HT
      go_wp2
      go_ret
      exact ⟨g, rfl, by rw [HGG.out]; exact HW.out, HB.out⟩

set_option maxRecDepth 100000 in
set_option maxHeartbeats 400000 in
theorem eqAlarmS_nil (a a' : Option Addr) (c c' : Nat) (w : World) : Calls Try.prog 10 #[.slice a 0 c, .slice a' 0 c'] w fun e w' => e = .returned (.bool true) ∧ Below w.heap.size w w' := by
  go_enter Try.func10, Try.ntmps10
  go_wp2
  go_loopw [5] (fun i w' => i = .int .i64 0 ∧ w' = w) (fun i _ => 0)
  case atStart => exact ⟨rfl, rfl⟩
  case round =>
    obtain ⟨rfl, rfl⟩ := hrel
    go_wp2
    go_ret
    exact ⟨rfl, Below.refl _ _⟩
set_option maxRecDepth 100000 in
set_option maxHeartbeats 800000 in
theorem eqAlarmS_of (l : List AA) (a a' : Option Addr) (c c' : Nat) (w : World) (h0 : 0 < l.length) (hn : l.length ≤ maxLen) (hl : At eA w a l) (hl' : At eA w a' l) :
    Calls Try.prog 10 #[.slice a l.length c, .slice a' l.length c'] w fun e w' => e = .returned (.bool true) ∧ Below w.heap.size w w' := by
  unfold maxLen at hn
  obtain ⟨b, off, rfl, hlb, _⟩ := hl.cons h0
  obtain ⟨b', off', rfl, hlb', _⟩ := hl'.cons h0
  have HL := mkHid hl
  have HL' := mkHid hl'
  clear hl hl'
  go_enter Try.func10, Try.ntmps10
  go_wp2
  go_loopw [5] (fun i w' => ∃ (k : Nat), k ≤ l.length ∧ i = .int .i64 k ∧ Below w.heap.size w w') (fun i _ => l.length - (intOf i).toNat)
  case atStart => exact ⟨0, Nat.zero_le _, rfl, Below.refl _ _⟩
  case round =>
    obtain ⟨k, hk, rfl, hbel⟩ := hrel
    have HB := mkHid hbel
    by_cases hlt : k < l.length
    · obtain ⟨x, hx⟩ : ∃ x, l[k]? = some x := ⟨_, List.getElem?_eq_getElem hlt⟩
      obtain ⟨_, _, e, hlc, hq⟩ := (HL.out.below hbel).cons h0
      cases e
      obtain ⟨_, _, e, hlc', hq'⟩ := (HL'.out.below hbel).cons h0
      cases e
      obtain ⟨hc0, hc1, hc2⟩ := get_a hq hx
      obtain ⟨hd0, hd1, hd2⟩ := get_a hq' hx
      clear hx hbel hq hq'
      have i0 : (0 : Int) ≤ (k : Int) := by omega
      have i1 : (k : Int) < (l.length : Int) := by omega
      go_wp2
      go_region_held3 (fun w' => w'.cell? ⟨b, off + k * 3, none⟩ = some (.int .i64 x.1) ∧ w'.cell? ⟨b, off + k * 3 + 1, none⟩ = some (.int .i64 x.2.1) ∧ w'.cell? ⟨b, off + k * 3 + 2, none⟩ = some (.int .i64 x.2.2) ∧ w'.cell? ⟨b', off' + k * 3, none⟩ = some (.int .i64 x.1) ∧ w'.cell? ⟨b', off' + k * 3 + 1, none⟩ = some (.int .i64 x.2.1) ∧ w'.cell? ⟨b', off' + k * 3 + 2, none⟩ = some (.int .i64 x.2.2)) (first | exact ⟨hc0, hc1, hc2, hd0, hd1, hd2⟩ | exact ⟨(hc _ _ hlc).trans hc0, (hc _ _ hlc).trans hc1, (hc _ _ hlc).trans hc2, (hc _ _ hlc').trans hd0, (hc _ _ hlc').trans hd1, (hc _ _ hlc').trans hd2⟩)
        (first | (go_at_call 20; refine (eqAlarm_same x.1 x.2.1 x.2.2 _).mono ?_; rintro e w1 ⟨rfl, hb1⟩; obtain ⟨hc, hf⟩ := bcell hb1))
      have HB1 : Hid (Below w.heap.size w w1) := HB.out.drew.trans (hb1.mono HB.out.drew.size)
      clear hb1 hc hf
      go_wp2
      go_roundw
      case rel => exact ⟨k + 1, by omega, by go_num, HB1.out⟩
      case measure => simp [intOf]; omega
    · go_wp2
      go_ret
      exact ⟨rfl, HB.out⟩
theorem eqAlarmS_same (l : List AA) (a a' : Option Addr) (c c' : Nat) (w : World) (hn : l.length ≤ maxLen) (hl : At eA w a l) (hl' : At eA w a' l) :
    Calls Try.prog 10 #[.slice a l.length c, .slice a' l.length c'] w fun e w' => e = .returned (.bool true) ∧ Below w.heap.size w w' := by
  rcases Nat.eq_zero_or_pos l.length with h | h
  · rw [h]; exact eqAlarmS_nil a a' c c' w
  · exact eqAlarmS_of l a a' c c' w h hn hl hl'

set_option maxHeartbeats 400000 in
theorem szAlarmS_any (l : List AA) (a : Option Addr) (c : Nat) (r : Int) (w : World) (hn : l.length ≤ maxLen) (h0 : 0 ≤ r) (h1 : r ≤ 1048576) :
    Calls Try.prog 4 #[.slice a l.length c, .int .i64 r] w fun e w' => Below w.heap.size w w' ∧ ∃ q, e = .returned (.int .i64 q) ∧ (¬ q < 0 → l.length ≤ 1048576) := by
  unfold maxLen at hn
  have hw : IntKind.i64.wrap (r - (l.length : Int)) = r - (l.length : Int) := IntWalk.i64_in _ (by omega)
  by_cases hneg : r - (l.length : Int) < 0
  · go_enter Try.func4, Try.ntmps4
    go_wp2
    go_ret
    exact ⟨Below.refl _ _, -1, rfl, fun h => by omega⟩
  · have HP : Hid (l.length ≤ 1048576) := mkHid (by omega)
    go_enter Try.func4, Try.ntmps4
    go_wp2
    go_ret
    exact ⟨Below.refl _ _, _, rfl, fun _ => HP.out⟩
end Go.Proofs.Ytaekcmbjcfpigaa
