/-
  CONTRACT of the program's lastsOf.
-/
import Derived.Test.YtpikgigfeifliaaDoorLst
namespace Go.Proofs.YtpikgigfeifliaaDoor
open Go.RowKit

set_option maxHeartbeats 3200000 in
theorem iLasts_yes (n : Nat) (es : List Ed) (a : Option Addr) (c : Nat) (w : World) (hg : gokB (n : Int) es = true) (hl : KidsG w 0 a es) :
    Calls Tryd.prog 14 #[.agg #[.int .i64 n, .slice a es.length c]] w fun e w' => ∃ g cap, e = .returned (.slice (some ⟨g, 0, none⟩) n cap) ∧ OwnI w' w.heap.size (.slice (some ⟨g, 0, none⟩) n cap) (lastsL n es) ∧ Below w.heap.size w w' := by
  obtain ⟨hp, hn, hall⟩ := all_of hg
  obtain ⟨p1, p2⟩ := btw_iff.1 hp
  obtain ⟨i0, hi, hz⟩ := Option.map_eq_some_iff.1 Tryd.info3
  simp only [Prod.mk.injEq] at hz
  obtain ⟨hz0, hz1, hz2⟩ := hz
  have HI := mkHid (show Tryd.prog.info? 3 = some i0 ∧ i0.zero = some (.int .i64 0) ∧ i0.size = 1 ∧ i0.bytes = 8 from ⟨hi, hz0, hz1, hz2⟩)
  have HL := mkHid hl
  have HA := mkHid hall
  have HGK := mkHid hg
  have B0 := mkHid ((Below.refl w.heap.size w).alloc (Nat.le_refl _) (.cells #[.int .i64 n, .slice a es.length c] 29))
  clear hl hi hz0 hz1 hz2 hall hg hp
  go_enter Tryd.func14, Tryd.ntmps14
  go_wp2_with fail
  refine (iGraphOk_ok (n : Int) es a c _ (HL.out.below B0.out)).mono ?_
  rintro e w1 ⟨rfl, hb1⟩
  rw [HGK.out]
  have s1 : w.heap.size < w1.heap.size := by have := hb1.size; simp at this; omega
  have q0 : w1.cell? ⟨w.heap.size, 0, none⟩ = some (.int .i64 n) := (hb1.cell (p := ⟨w.heap.size, 0, none⟩) (by simp)).trans (by simp [go_sem])
  have q1 : w1.cell? ⟨w.heap.size, 1, none⟩ = some (.slice a es.length c) := (hb1.cell (p := ⟨w.heap.size, 1, none⟩) (by simp)).trans (by simp [go_sem])
  have B1 := mkHid (below_step B0.out hb1)
  have HQ := mkHid (And.intro q0 q1)
  obtain ⟨w2, hmk, hown0, hg0⟩ := run_make_full (P := Tryd.prog) w1 w1.heap.size 43 3 i0 _ 1 Tryd.underlying43 HI.out.1 HI.out.2.1 HI.out.2.2.1 .i64 .i64 n (by rw [HI.out.2.2.2]; omega) (by unfold maxLen; omega) (Nat.le_refl _)
  have HO := mkHid hown0
  have HG := mkHid (Below.grown (Below.refl w1.heap.size w1) hg0 (Nat.le_refl _) (fun k hk => by cases hk))
  clear hb1 hown0 hg0 B0
  go_wp2
  go_loopw [15] (fun i w' => ∃ (k : Nat) (xs : List Value), k ≤ n ∧ i = .int .i64 k ∧ w'.ownsRow w1.heap.size 3 1 (.slice (some ⟨w1.heap.size, 0, none⟩) n n) n xs ∧ (∀ j, j < k → xs[j]? = some (.int .i64 (-1))) ∧ Below w1.heap.size w1 w') (fun i _ => n - (intOf i).toNat)
  case atStart => exact ⟨0, _, Nat.zero_le _, rfl, HO.out, fun j hj => by omega, HG.out⟩
  case round =>
    obtain ⟨k, xs, hk, rfl, hown, hdone, hbel⟩ := hrel
    have HW := mkHid hown
    have HD := mkHid hdone
    have HB := mkHid hbel
    clear hown hdone hbel HO HG hmk q0 q1
    by_cases hlt : k < n
    · have hxl := HW.out.1
      obtain ⟨v0, c0⟩ : ∃ v, wr.cell? ⟨w1.heap.size, k, none⟩ = some v := ⟨_, (HW.out.cellAt k (by omega)).trans (List.getElem?_eq_getElem (by omega))⟩
      have f0 := HW.out.frozenAt k
      clear hxl
      have k3 : (k : Int) < (n : Int) := by omega
      go_wp2
      go_roundw
      case rel =>
        have hs := HW.out.stored k (.int .i64 (-1))
        refine ⟨k + 1, _, by omega, by go_num, hs.1, fun q hq => ?_, HB.out.setCell (p := ⟨w1.heap.size, k, none⟩) (Nat.le_refl _) _⟩
        have hml := HW.out.1
        rw [List.getElem?_set]
        rcases (by omega : q < k ∨ q = k) with h | rfl
        · rw [if_neg (by omega)]; exact HD.out q h
        · rw [if_pos rfl, if_pos (by omega)]
      case measure => simp [intOf]; omega
    · have e : k = n := by omega
      subst e
      have hown := HW.out
      rw [values_all (n := k) (by have := HW.out.1; omega) HD.out] at hown
      have HW := mkHid hown
      have q1 : wr.cell? ⟨w.heap.size, 1, none⟩ = some (.slice a es.length c) := (HB.out.cell (p := ⟨w.heap.size, 1, none⟩) s1).trans HQ.out.2
      clear hown HD
      go_wp2
      go_loopw [25] (fun i w' => ∃ (j : Nat), j ≤ es.length ∧ i = .int .i64 j ∧ w'.ownsRow w1.heap.size 3 1 (.slice (some ⟨w1.heap.size, 0, none⟩) k k) k (ints ((es.take j).foldl lstep (List.replicate k (-1)))) ∧ Below w1.heap.size w1 w') (fun i _ => es.length - (intOf i).toNat)
      case atStart => exact ⟨0, Nat.zero_le _, rfl, HW.out, HB.out⟩
      case round =>
        clear q1
        obtain ⟨j, hj, rfl, hown, hbel⟩ := hrel
        have hb0 : Below w.heap.size w wr := B1.out.trans (hbel.mono B1.out.size)
        have hgs : w1.heap.size < wr.heap.size := (hown.lt _ rfl).2
        have hgn : w1.heap.size ≠ wr.heap.size := by omega
        have HB0 := mkHid hb0
        have HV := mkHid hown
        have HC := mkHid hbel
        clear hown hbel hb0 HW HB
        by_cases hlt : j < es.length
        · obtain ⟨x, hx⟩ : ∃ x, es[j]? = some x := ⟨_, List.getElem?_eq_getElem hlt⟩
          have HX := mkHid hx
          obtain ⟨ha0, ha1, ha2, ha3, _, _⟩ := HA.out j x hx
          obtain ⟨xf, xt, xe, xy, ⟨xk, xs', xm, xkk⟩⟩ := x
          dsimp only at ha0 ha1 ha2 ha3
          obtain ⟨t, rfl⟩ : ∃ t : Nat, xt = t := ⟨xt.toNat, by omega⟩
          rcases HL.out with hh | ⟨b, off, rfl, _, hl⟩
          · subst hh; simp at hx
          obtain ⟨xa, xc, hc0, hc1, hc2, hc3, hc4, hc5, hc6, hc7, hs, hkn, hkids⟩ := (hl.below (Nat.zero_le _) HB0.out).at hx
          have FT := mkHid (fold_take hx (List.replicate k (-1)))
          clear hx hs hkn hkids hl
          obtain ⟨l, hle⟩ : ∃ l, l = (es.take j).foldl lstep (List.replicate k (-1)) := ⟨_, rfl⟩
          have hll : l.length = k := by rw [hle, fold_len]; simp
          rw [← hle] at HV FT
          obtain ⟨o, ho⟩ : ∃ o, l[t]? = some o := ⟨_, List.getElem?_eq_getElem (by omega)⟩
          have r0 : (wr.alloc (.cells #[.int .i64 xf, .int .i64 t, .int .i64 xe, .bool xy, .int .i64 xk, .string xs', .int .i64 xm, .slice xa xkk.length xc] 67)).cell? ⟨w1.heap.size, t, none⟩ = some (.int .i64 o) := by
            rw [(HV.out.alloc _).cellAt t (by omega), ints_get, ho]; rfl
          have fr0 := (HV.out.alloc (.cells #[.int .i64 xf, .int .i64 t, .int .i64 xe, .bool xy, .int .i64 xk, .string xs', .int .i64 xm, .slice xa xkk.length xc] 67)).frozenAt t
          have HLL := mkHid hll
          have HOO := mkHid ho
          clear hle hll ho
          have t0 : (0 : Int) ≤ (t : Int) := by omega
          have t1 : (t : Int) < (k : Int) := by omega
          by_cases hge : xf ≥ (t : Int)
          · go_wp2
            go_region
            go_wp2
            go_roundw
            case rel =>
              refine ⟨j + 1, by omega, by go_num, ?_, ((HC.out.setCell (p := ⟨w1.heap.size, t, none⟩) (Nat.le_refl _) _).alloc (by simp only [World.setCell, Array.size_modify]; omega) _).drew⟩
              rw [FT.out, lstep_set hge rfl HOO.out, ← ints_set, show max o xf = if o < xf then xf else o by split <;> omega]
              exact World.ownsRow.drew ((World.ownsRow.stored HV.out t _).1.alloc _)
            case measure => simp [intOf]; omega
          · go_wp2
            go_roundw
            case rel =>
              refine ⟨j + 1, by omega, by go_num, ?_, HC.out.alloc (by omega) _⟩
              rw [FT.out, lstep_no (by dsimp only; omega)]
              exact HV.out.alloc _
            case measure => simp [intOf]; omega
        · go_wp2
          go_ret
          have hw := HV.out
          rw [List.take_of_length_le (by omega)] at hw
          refine ⟨_, _, rfl, ?_, HB0.out⟩
          unfold OwnI
          rw [lastsL_len]
          exact World.ownsRow.mono hw B1.out.size

def lastsR (p : Int) (es : List Ed) : List Int := if gokB p es = true then lastsL p.toNat es else []
set_option maxHeartbeats 800000 in
theorem iLasts_no (p : Int) (es : List Ed) (a : Option Addr) (c : Nat) (w : World) (hg : gokB p es = false) (hl : KidsG w 0 a es) :
    Calls Tryd.prog 14 #[.agg #[.int .i64 p, .slice a es.length c]] w fun e w' => e = .returned (.slice none 0 0) ∧ Below w.heap.size w w' := by
  have HL := mkHid hl
  have HGK := mkHid hg
  have B0 := mkHid ((Below.refl w.heap.size w).alloc (Nat.le_refl _) (.cells #[.int .i64 p, .slice a es.length c] 29))
  clear hl hg
  go_enter Tryd.func14, Tryd.ntmps14
  go_wp2_with fail
  refine (iGraphOk_ok p es a c _ (HL.out.below B0.out)).mono ?_
  rintro e w1 ⟨rfl, hb1⟩
  rw [HGK.out]
  have B1 := mkHid (below_step B0.out hb1)
  clear hb1
  go_wp2
  go_ret
  exact ⟨rfl, B1.out⟩
theorem iLasts_ok (p : Int) (es : List Ed) (a : Option Addr) (c : Nat) (w : World) (hl : KidsG w 0 a es) :
    Calls Tryd.prog 14 #[.agg #[.int .i64 p, .slice a es.length c]] w fun e w' => ∃ ao cap, e = .returned (.slice ao (lastsR p es).length cap) ∧ OwnI w' w.heap.size (.slice ao (lastsR p es).length cap) (lastsR p es) ∧ Below w.heap.size w w' := by
  cases hg : gokB p es
  · refine (iLasts_no p es a c w hg hl).mono ?_
    rintro e w' ⟨rfl, hb⟩
    have e : lastsR p es = [] := by unfold lastsR; rw [if_neg (by rw [hg]; decide)]
    rw [e]
    exact ⟨none, 0, rfl, OwnI.nil _ _, hb⟩
  · obtain ⟨hp, _, _⟩ := all_of hg
    obtain ⟨p1, p2⟩ := btw_iff.1 hp
    obtain ⟨n, rfl⟩ : ∃ n : Nat, p = n := ⟨p.toNat, by omega⟩
    refine (iLasts_yes n es a c w hg hl).mono ?_
    rintro e w' ⟨g, cap, rfl, ho, hb⟩
    have e : lastsR n es = lastsL n es := by unfold lastsR; rw [if_pos hg, Int.toNat_natCast]
    rw [e, lastsL_len]
    exact ⟨_, _, rfl, ho, hb⟩
end Go.Proofs.YtpikgigfeifliaaDoor
