/-
  CONTRACTS of toEdgeS and toGraph.
-/
import Derived.Test.YtpikgigfeifliaaDoorGcp
namespace Go.Proofs.YtpikgigfeifliaaDoor
open Go.RowKit

theorem Tryd.info67 : (Tryd.prog.info? 67).map (fun i => (i.zero, i.size, i.bytes)) = some (some (.agg #[.int .i64 0, .int .i64 0, .int .i64 0, .bool false, .int .i64 0, .string ByteArray.empty, .int .i64 0, .slice none 0 0]), 8, 88) := by kernel_rfl
def put8 (w : World) (g o : Nat) (v0 v1 v2 v3 v4 v5 v6 v7 : Value) : World := (((((((w.setCell ⟨g, o, none⟩ v0).setCell ⟨g, o + 1, none⟩ v1).setCell ⟨g, o + 2, none⟩ v2).setCell ⟨g, o + 3, none⟩ v3).setCell ⟨g, o + 4, none⟩ v4).setCell ⟨g, o + 5, none⟩ v5).setCell ⟨g, o + 6, none⟩ v6).setCell ⟨g, o + 7, none⟩ v7
theorem put8_stay {w : World} {g o : Nat} {v0 v1 v2 v3 v4 v5 v6 v7 : Value} {b j : Nat} (h : b ≠ g ∨ j < o ∨ o + 8 ≤ j) : (put8 w g o v0 v1 v2 v3 v4 v5 v6 v7).cell? ⟨b, j, none⟩ = w.cell? ⟨b, j, none⟩ := by
  unfold put8
  rw [World.cell?_setCell_other, World.cell?_setCell_other, World.cell?_setCell_other, World.cell?_setCell_other, World.cell?_setCell_other, World.cell?_setCell_other, World.cell?_setCell_other, World.cell?_setCell_other] <;> (intro e; injection e with e1 e2; omega)
theorem put8_both {w : World} {g o : Nat} {v0 v1 v2 v3 v4 v5 v6 v7 : Value} {b j : Nat} (h : b ≠ g) : (put8 w g o v0 v1 v2 v3 v4 v5 v6 v7).cell? ⟨b, j, none⟩ = w.cell? ⟨b, j, none⟩ ∧ (put8 w g o v0 v1 v2 v3 v4 v5 v6 v7).frozen? ⟨b, j, none⟩ = w.frozen? ⟨b, j, none⟩ :=
  ⟨put8_stay (.inl h), by unfold put8; simp⟩

set_option maxHeartbeats 1600000 in
theorem toEdgeS_of (es : List Ed) (b off c : Nat) (w : World) (hn : es.length + ebulk es ≤ 1048576) (hl : LiesG w 0 es b off) :
    Calls Tryd.prog 13 #[.slice (some ⟨b, off, none⟩) es.length c] w fun e w' =>
      (∃ a' c', e = .returned (.slice a' es.length c') ∧ Kids0G w' w.heap.size a' es ∧ es.length ≤ c' ∧ c' ≤ maxLen) ∧ Below w.heap.size w w' := by
  obtain ⟨i0, hi, hz⟩ := Option.map_eq_some_iff.1 Tryd.info67
  simp only [Prod.mk.injEq] at hz
  obtain ⟨hz0, hz1, hz2⟩ := hz
  obtain ⟨w1, hmk, hown0, hg0⟩ := run_make_full (P := Tryd.prog) w w.heap.size 27 67 i0 _ 8 Tryd.underlying27 hi hz0 hz1 .i64 .i64 es.length (by rw [hz2]; omega) (by unfold maxLen; omega) (Nat.le_refl _)
  have hsz : es.length ≤ 1048576 := by omega
  have HN := mkHid hn
  have HL := mkHid hl
  have HO := mkHid hown0
  have HG := mkHid (Below.grown (Below.refl w.heap.size w) hg0 (Nat.le_refl _) (fun k hk => by cases hk))
  clear hl hown0 hg0 hi hz0 hz1 hz2 hn
  go_enter Tryd.func13, Tryd.ntmps13
  go_wp2
  go_loopw [4] (fun i w' => ∃ (k : Nat) (xs : List Value), k ≤ es.length ∧ i = .int .i64 k ∧ w'.ownsRow w.heap.size 67 8 (.slice (some ⟨w.heap.size, 0, none⟩) es.length es.length) es.length xs ∧
    (∀ j t, j < k → es[j]? = some t → EdAt0 w' (w.heap.size + 1) t w.heap.size (j * 8)) ∧ Below w.heap.size w w') (fun i _ => es.length - (intOf i).toNat)
  case atStart => exact ⟨0, _, Nat.zero_le _, rfl, HO.out, fun j t hj => by omega, HG.out⟩
  case round =>
    obtain ⟨k, xs, hk, rfl, hown, hdone, hbel⟩ := hrel
    have HW := mkHid hown
    have HD := mkHid hdone
    have HB := mkHid hbel
    clear hown hdone hbel HO HG hmk
    by_cases hlt : k < es.length
    · obtain ⟨x, hx⟩ : ∃ x, es[k]? = some x := ⟨_, List.getElem?_eq_getElem hlt⟩
      have HX := mkHid hx
      obtain ⟨xf, xt, xe, xy, ⟨xk, xs', xm, xkk⟩⟩ := x
      obtain ⟨xa, xc, hc0, hc1, hc2, hc3, hc4, hc5, hc6, hc7, hs, hkn, hkids⟩ := (HL.out.below (Nat.zero_le _) HB.out).at hx
      have HC := mkHid (toEdge_ok xf xt xe xy xk xs' xm xkk xa xc wr (by have := ebulk_mem (List.mem_of_getElem? hx); dsimp only at this; have := HN.out; omega) hkids)
      have HS := mkHid (And.intro hs hkn)
      have hgr : w.heap.size < wr.heap.size := by
        obtain ⟨_, h | ⟨g, cap, cur, h, _, hg, _⟩⟩ := HW.out
        · cases h.1
        · simp at h
          obtain ⟨⟨rfl⟩, _⟩ := h
          exact (Array.getElem?_eq_some_iff.1 hg).1
      have HGR := mkHid hgr
      clear hx hs hkn hkids hgr
      go_wp2_with fail
      refine HC.out.mono ?_
      rintro e w2 ⟨⟨a', c', rfl, hk', hcap⟩, hb2⟩
      have HCP := mkHid hcap
      have HK := mkHid hk'
      have HW2 := mkHid (owns_below HW.out hb2)
      have HD2 : Hid (∀ j t, j < k → es[j]? = some t → EdAt0 w2 (w.heap.size + 1) t w.heap.size (j * 8)) := mkHid fun j t hj ht => (HD.out j t hj ht).stay (fun b o _ h => below_both hb2 b o h) (fun o _ _ => hb2.cell (p := ⟨_, o, none⟩) HGR.out)
      have HB2 := mkHid (HB.out.trans (hb2.mono HB.out.size))
      clear hb2 hc0 hc1 hc2 hc3 hc4 hc5 hc6 hc7 hk' HC HD hcap
      have hxl := HW2.out.1
      obtain ⟨v0, c0⟩ : ∃ v, w2.cell? ⟨w.heap.size, k * 8, none⟩ = some v := ⟨_, (HW2.out.cellAt (k * 8) (by omega)).trans (List.getElem?_eq_getElem (by omega))⟩
      obtain ⟨v1, c1⟩ : ∃ v, w2.cell? ⟨w.heap.size, k * 8 + 1, none⟩ = some v := ⟨_, (HW2.out.cellAt (k * 8 + 1) (by omega)).trans (List.getElem?_eq_getElem (by omega))⟩
      obtain ⟨v2, c2⟩ : ∃ v, w2.cell? ⟨w.heap.size, k * 8 + 1 + 1, none⟩ = some v := ⟨_, (HW2.out.cellAt (k * 8 + 1 + 1) (by omega)).trans (List.getElem?_eq_getElem (by omega))⟩
      obtain ⟨v3, c3⟩ : ∃ v, w2.cell? ⟨w.heap.size, k * 8 + 1 + 1 + 1, none⟩ = some v := ⟨_, (HW2.out.cellAt (k * 8 + 1 + 1 + 1) (by omega)).trans (List.getElem?_eq_getElem (by omega))⟩
      obtain ⟨v4, c4⟩ : ∃ v, w2.cell? ⟨w.heap.size, k * 8 + 1 + 1 + 1 + 1, none⟩ = some v := ⟨_, (HW2.out.cellAt (k * 8 + 1 + 1 + 1 + 1) (by omega)).trans (List.getElem?_eq_getElem (by omega))⟩
      obtain ⟨v5, c5⟩ : ∃ v, w2.cell? ⟨w.heap.size, k * 8 + 1 + 1 + 1 + 1 + 1, none⟩ = some v := ⟨_, (HW2.out.cellAt (k * 8 + 1 + 1 + 1 + 1 + 1) (by omega)).trans (List.getElem?_eq_getElem (by omega))⟩
      obtain ⟨v6, c6⟩ : ∃ v, w2.cell? ⟨w.heap.size, k * 8 + 1 + 1 + 1 + 1 + 1 + 1, none⟩ = some v := ⟨_, (HW2.out.cellAt (k * 8 + 1 + 1 + 1 + 1 + 1 + 1) (by omega)).trans (List.getElem?_eq_getElem (by omega))⟩
      obtain ⟨v7, c7⟩ : ∃ v, w2.cell? ⟨w.heap.size, k * 8 + 1 + 1 + 1 + 1 + 1 + 1 + 1, none⟩ = some v := ⟨_, (HW2.out.cellAt (k * 8 + 1 + 1 + 1 + 1 + 1 + 1 + 1) (by omega)).trans (List.getElem?_eq_getElem (by omega))⟩
      clear hxl
      have f0 := HW2.out.frozenAt (k * 8)
      have f1 := HW2.out.frozenAt (k * 8 + 1)
      have f2 := HW2.out.frozenAt (k * 8 + 1 + 1)
      have f3 := HW2.out.frozenAt (k * 8 + 1 + 1 + 1)
      have f4 := HW2.out.frozenAt (k * 8 + 1 + 1 + 1 + 1)
      have f5 := HW2.out.frozenAt (k * 8 + 1 + 1 + 1 + 1 + 1)
      have f6 := HW2.out.frozenAt (k * 8 + 1 + 1 + 1 + 1 + 1 + 1)
      have f7 := HW2.out.frozenAt (k * 8 + 1 + 1 + 1 + 1 + 1 + 1 + 1)
      go_wp2
      go_roundw
      case rel =>
        have O1 := ((((((((HW2.out.stored (k * 8) (.int .i64 xf)).1.stored (k * 8 + 1) (.int .i64 xt)).1.stored (k * 8 + 2) (.int .i64 xe)).1.stored (k * 8 + 3) (.bool xy)).1.stored (k * 8 + 4) (.int .i64 xk)).1.stored (k * 8 + 5) (.string xs')).1.stored (k * 8 + 6) (.int .i64 xm)).1.stored (k * 8 + 7) (.slice a' xkk.length c')).1
        refine ⟨k + 1, _, by omega, by go_num, O1, fun j t hj ht => ?_, ((((((((HB2.out.setCell (p := ⟨w.heap.size, k * 8, none⟩) (Nat.le_refl _) _).setCell (p := ⟨w.heap.size, k * 8 + 1, none⟩) (Nat.le_refl _) _).setCell (p := ⟨w.heap.size, k * 8 + 2, none⟩) (Nat.le_refl _) _).setCell (p := ⟨w.heap.size, k * 8 + 3, none⟩) (Nat.le_refl _) _).setCell (p := ⟨w.heap.size, k * 8 + 4, none⟩) (Nat.le_refl _) _).setCell (p := ⟨w.heap.size, k * 8 + 5, none⟩) (Nat.le_refl _) _).setCell (p := ⟨w.heap.size, k * 8 + 6, none⟩) (Nat.le_refl _) _).setCell (p := ⟨w.heap.size, k * 8 + 7, none⟩) (Nat.le_refl _) _)⟩
        have hlen := HW2.out.1
        rcases (by omega : j < k ∨ j = k) with hjk | rfl
        · exact (HD2.out j t hjk ht).stay (fun b o hb _ => put8_both (by omega)) (fun o _ _ => put8_stay (.inr (.inl (by omega))))
        · have e := HX.out.symm.trans ht
          simp only [Option.some.injEq] at e
          subst e
          refine ⟨(O1.cellAt (j * 8) (by omega)).trans ?_, (O1.cellAt (j * 8 + 1) (by omega)).trans ?_, (O1.cellAt (j * 8 + 2) (by omega)).trans ?_, (O1.cellAt (j * 8 + 3) (by omega)).trans ?_, ?_⟩
          · simp [List.getElem?_set]; omega
          · simp [List.getElem?_set]; omega
          · simp [List.getElem?_set]; omega
          · simp [List.getElem?_set]; omega
          · unfold Lies0
            refine ⟨(O1.cellAt (j * 8 + 4) (by omega)).trans ?_, (O1.cellAt (j * 8 + 5) (by omega)).trans ?_, (O1.cellAt (j * 8 + 6) (by omega)).trans ?_, HS.out.1, HS.out.2, a', c', (O1.cellAt (j * 8 + 7) (by omega)).trans ?_, HCP.out.1, HCP.out.2, ?_⟩
            · simp [List.getElem?_set]; omega
            · simp [List.getElem?_set]; omega
            · simp [List.getElem?_set]; omega
            · simp [List.getElem?_set]; omega
            · exact ((HK.out.lower (show w.heap.size + 1 ≤ wr.heap.size from HGR.out)).stay (fun b o hb _ => put8_both (by omega)))
      case measure => simp [intOf]; omega
    · go_wp2
      go_ret
      have e : k = es.length := by omega
      subst e
      exact ⟨⟨_, _, rfl, .inr ⟨_, rfl, Nat.le_refl _, HW.out.frozenAt, fun i t ht => HD.out i t (List.getElem?_eq_some_iff.1 ht).1 ht⟩, Nat.le_refl _, by unfold maxLen; omega⟩, HB.out⟩

set_option maxHeartbeats 800000 in
theorem toEdgeS_nil (a : Option Addr) (c : Nat) (w : World) : Calls Tryd.prog 13 #[.slice a 0 c] w fun e w' => (∃ a' c', e = .returned (.slice a' 0 c') ∧ c' ≤ maxLen) ∧ Below w.heap.size w w' := by
  obtain ⟨i0, hi, hz⟩ := Option.map_eq_some_iff.1 Tryd.info67
  simp only [Prod.mk.injEq] at hz
  obtain ⟨hz0, hz1, hz2⟩ := hz
  obtain ⟨w1, hmk, hown0, hg0⟩ := run_make_full (P := Tryd.prog) w w.heap.size 27 67 i0 _ 8 Tryd.underlying27 hi hz0 hz1 .i64 .i64 0 (by rw [hz2]; omega) (by unfold maxLen; omega) (Nat.le_refl _)
  have HG := mkHid (Below.grown (Below.refl w.heap.size w) hg0 (Nat.le_refl _) (fun k hk => by cases hk))
  clear hown0 hg0 hi hz0 hz1 hz2
  simp only [Int.natCast_zero] at hmk
  go_enter Tryd.func13, Tryd.ntmps13
  go_wp2
  go_loopw [4] (fun i w' => i = .int .i64 0 ∧ Below w.heap.size w w') (fun i _ => 0)
  case atStart => exact ⟨rfl, HG.out⟩
  case round =>
    obtain ⟨rfl, hb⟩ := hrel
    have HB := mkHid hb
    clear hb HG hmk
    go_wp2
    go_ret
    exact ⟨⟨_, _, rfl, Nat.zero_le _⟩, HB.out⟩
theorem toEdgeS_kids (es : List Ed) (a : Option Addr) (c : Nat) (w : World) (hn : es.length + ebulk es ≤ 1048576) (hl : KidsG w 0 a es) :
    Calls Tryd.prog 13 #[.slice a es.length c] w fun e w' => (∃ a' c', e = .returned (.slice a' es.length c') ∧ Kids0G w' w.heap.size a' es ∧ es.length ≤ c' ∧ c' ≤ maxLen) ∧ Below w.heap.size w w' := by
  rcases hl with rfl | ⟨b, o, rfl, _, hl⟩
  · refine (toEdgeS_nil a c w).mono ?_
    rintro e w' ⟨⟨a', c', rfl, hc⟩, hb⟩
    exact ⟨⟨a', c', rfl, .inl rfl, Nat.zero_le _, hc⟩, hb⟩
  · exact toEdgeS_of es b o c w hn hl

set_option maxHeartbeats 800000 in
theorem toGraph_ok (p : Int) (es : List Ed) (a : Option Addr) (c : Nat) (w : World) (hn : es.length + ebulk es ≤ 1048576) (hk : KidsG w 0 a es) :
    Calls Tryd.prog 6 #[.agg #[.int .i64 p, .slice a es.length c]] w fun e w' =>
      (∃ a' c', e = .returned (.agg #[.int .i64 p, .slice a' es.length c']) ∧ Kids0G w' w.heap.size a' es ∧ es.length ≤ c' ∧ c' ≤ maxLen) ∧ Below w.heap.size w w' := by
  have HN := mkHid hn
  have HK := mkHid hk
  clear hn hk
  go_enter Tryd.func6, Tryd.ntmps6
  go_wp2_with fail
  refine (toEdgeS_kids es a c _ HN.out (HK.out.below ?_)).mono ?_
  · exact (((Below.refl w.heap.size w).alloc (Nat.le_refl _) _).alloc (by simp) _).alloc (by simp; omega) _
  rintro e w1 ⟨⟨a', c', rfl, hk', hcap⟩, hb1⟩
  have HCP := mkHid hcap
  clear hcap
  obtain ⟨hc, hf⟩ := bcell hb1
  have HK' := mkHid (hk'.lower (lo' := w.heap.size + 3) (by simp))
  have HB := mkHid (below_step ((((Below.refl w.heap.size w).alloc (Nat.le_refl _) _).alloc (by simp) _).alloc (by simp; omega) _) hb1)
  clear hk' hb1
  have c0 := (hc (w.heap.size + 1 + 1) 0 (by simp)).trans (show _ = some (Value.int .i64 p) by simp [go_sem])
  have c1 := (hc (w.heap.size + 1 + 1) 1 (by simp)).trans (show _ = some (Value.slice none 0 0) by simp [go_sem])
  have f1 := (hf (w.heap.size + 1 + 1) 1 (by simp)).trans (show _ = false by simp [go_sem])
  have d0 := (hc (w.heap.size + 1) 0 (by simp)).trans (show _ = some (Value.int .i64 0) by simp [go_sem])
  have g0 := (hf (w.heap.size + 1) 0 (by simp)).trans (show _ = false by simp [go_sem])
  have d1 := (hc (w.heap.size + 1) 1 (by simp)).trans (show _ = some (Value.slice none 0 0) by simp [go_sem])
  have g1 := (hf (w.heap.size + 1) 1 (by simp)).trans (show _ = false by simp [go_sem])
  clear hc hf
  go_wp2
  refine bodyPost_ret (v := .agg #[.int .i64 p, .slice a' es.length c']) (by simp [results, Tryd.results6, go_sem, d0, d1]) rfl ⟨⟨a', c', rfl, ?_, HCP.out⟩, ?_⟩
  · refine (HK'.out.stay fun b o hb _ => ⟨?_, by simp⟩).lower (by omega)
    rw [World.cell?_setCell_far _ _ _ _ (by simp; omega), World.cell?_setCell_far _ _ _ _ (by simp; omega), World.cell?_setCell_far _ _ _ _ (by simp; omega)]
  · exact ((HB.out.setCell (p := ⟨w.heap.size + 1 + 1, 1, none⟩) (by simp; omega) _).setCell (p := ⟨w.heap.size + 1, 0, none⟩) (by simp) _).setCell (p := ⟨w.heap.size + 1, 1, none⟩) (by simp) _
end Go.Proofs.YtpikgigfeifliaaDoor
