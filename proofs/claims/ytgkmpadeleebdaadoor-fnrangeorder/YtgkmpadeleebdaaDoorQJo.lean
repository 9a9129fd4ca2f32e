/-
  CONTRACT of the program's joinOf, at every list of ranges.
-/
import Derived.Test.YtgkmpadeleebdaaDoorQReg
import Derived.Test.YtgkmpadeleebdaaDoorQEq
namespace Go.Proofs.YtgkmpadeleebdaaDoor.Q
open Go.RowKit
attribute [local go_sem] nlt2 nlt3 nlt4 nle2 nle3 nle4 drew_size drew_cell drew_frozen

def joinStep (j r : Int × Int) : Int × Int := if eqB r.1 r.2 1 0 then j else if eqB j.1 j.2 1 0 then r else (min j.1 r.1, max j.2 r.2)
def joinL (l : List (Int × Int)) : Int × Int := l.foldl joinStep (1, 0)
theorem joinL_take {l : List (Int × Int)} {k : Nat} {r : Int × Int} (h : l[k]? = some r) : joinL (l.take (k + 1)) = joinStep (joinL (l.take k)) r := by
  unfold joinL; rw [List.take_add_one, h, List.foldl_append]; rfl
/-- Ranges that lie in a row. -/
def RngsAt (w : World) (l : List (Int × Int)) (b off : Nat) : Prop := ∀ (i : Nat) (r : Int × Int), l[i]? = some r → w.cell? ⟨b, off + i * 2, none⟩ = some (.int .i64 r.1) ∧ w.cell? ⟨b, off + i * 2 + 1, none⟩ = some (.int .i64 r.2)
theorem RngsAt.below {w w' : World} {l : List (Int × Int)} {b off : Nat} (h : RngsAt w l b off) (hb : Below w.heap.size w w') : RngsAt w' l b off := fun i r hi => by
  obtain ⟨h0, h1⟩ := h i r hi
  exact ⟨(hb.cell (p := ⟨b, off + i * 2, none⟩) (World.block_lt_of_cell? w _ h0)).trans h0, (hb.cell (p := ⟨b, off + i * 2 + 1, none⟩) (World.block_lt_of_cell? w _ h1)).trans h1⟩

set_option maxHeartbeats 1600000 in
theorem joinOf_of (l : List (Int × Int)) (b off c : Nat) (w : World) (hn : l.length ≤ 100) (hl : RngsAt w l b off) :
    Calls Tryd.prog 24 #[.slice (some ⟨b, off, none⟩) l.length c] w fun e w' => e = .returned (.agg #[.int .i64 (joinL l).1, .int .i64 (joinL l).2]) ∧ Below w.heap.size w w' := by
  have HL := mkHid hl
  clear hl
  have hEq := eql_rng
  have hMx := @run_max_M Tryd.prog
  have hMn := @run_min_M Tryd.prog
  go_enter Tryd.func24, Tryd.ntmps24
  go_wp2_with (go_at_call 23; refine (iNone_any _).mono ?_; rintro e w' ⟨rfl, hb⟩; (try rw [below_drew] at hb); obtain ⟨hc, hf, hm, hs⟩ := bcell4 hb; have hz0 : w.heap.size < w'.heap.size := (by have := hb.size; (try simp at this); omega); have hl0 := Nat.le_of_lt hz0)
  obtain ⟨W, hW⟩ : ∃ W, W = w'.alloc (.cells #[.int .i64 1, .int .i64 0] 25) := ⟨_, rfl⟩
  obtain ⟨J, hJ⟩ : ∃ J, J = w'.heap.size := ⟨_, rfl⟩
  have HB := mkHid (show Below w.heap.size w W by rw [hW]; exact (by repeat (first | assumption | exact Below.refl _ _ | refine bl_set ?_ (by first | (simp; done) | (simp [*]; done) | (simp (maxDischargeDepth := 12) [*, go_sem]; done) | (simp [*] <;> omega)) _ | refine bl_alloc ?_ _ | refine bl_drew ?_ | refine below_step ?_ (by assumption))))
  have HJ := mkHid (show Box W J 1 0 by rw [hW, hJ]; refine ⟨?_, ?_, ?_, ?_⟩ <;> simp [go_sem])
  have HR := mkHid (show Box W w.heap.size 0 0 by rw [hW]; refine ⟨?_, ?_, ?_, ?_⟩ <;> (simp (maxDischargeDepth := 12) [*, go_sem]; done))
  have HN := mkHid (show w.heap.size < J by rw [hJ]; assumption)
  rw [← hW, ← hJ]
  clear hW hJ hc hf hm hs hz0 hl0 hb
  go_loopw [9] (fun i v => ∃ k : Nat, k ≤ l.length ∧ i = .int .i64 k ∧ Box v J (joinL (l.take k)).1 (joinL (l.take k)).2 ∧ Box v w.heap.size 0 0 ∧ Below w.heap.size w v) (fun i _ => l.length - (intOf i).toNat)
  case atStart => exact ⟨0, Nat.zero_le _, rfl, HJ.out, HR.out, HB.out⟩
  case round =>
    obtain ⟨k, hk, rfl, hJ, hR, hB⟩ := hrel
    have HB := mkHid hB
    have HJ := mkHid hJ
    have HR := mkHid hR
    have hRl := HR.out.lt
    have hJl := HJ.out.lt
    have hNe := HN.out
    have hn1 : w.heap.size ≠ J := by omega
    have hn2 : J ≠ w.heap.size := by omega
    have hn3 : w.heap.size ≤ J := by omega
    obtain ⟨r0, r1, r2, r3⟩ := HR.out
    clear hJ hR hB
    by_cases hlt : k < l.length
    · obtain ⟨⟨x, y⟩, hx⟩ : ∃ r, l[k]? = some r := ⟨_, List.getElem?_eq_getElem hlt⟩
      obtain ⟨q0, q1⟩ := (HL.out.below HB.out) k _ hx
      have HS := mkHid (joinL_take hx)
      obtain ⟨⟨j1, j2⟩, hj⟩ : ∃ j, joinL (l.take k) = j := ⟨_, rfl⟩
      rw [hj] at HS
      have hJ := HJ.out
      rw [hj] at hJ
      clear hx hj HJ
      have HJ := mkHid hJ
      obtain ⟨p0, p1, p2, p3⟩ := HJ.out
      clear hJ
      have i0 : (0 : Int) ≤ (k : Int) := by omega
      have i1 : (k : Int) < (l.length : Int) := by omega
      have hbl : b < wr.heap.size := World.block_lt_of_cell? wr _ q0
      cases h1 : eqB x y 1 0
      · cases h2 : eqB j1 j2 1 0
        · have e := mkHid (HS.out.trans (show joinStep (j1, j2) (x, y) = (min j1 x, max j2 y) by simp [joinStep, h1, h2]))
          clear HS
          go_wp2_with fail
          go_region_held3 (fun v => v.cell? ⟨wr.heap.size, 0, none⟩ = some (.int .i64 x) ∧ v.cell? ⟨wr.heap.size, 1, none⟩ = some (.int .i64 y) ∧ v.cell? ⟨J, 0, none⟩ = some (.int .i64 j1) ∧ v.cell? ⟨J, 1, none⟩ = some (.int .i64 j2)) (first | assumption | (simp (maxDischargeDepth := 12) [*, go_sem]; done)) (first | (go_at_call 23; refine (iNone_any _).mono ?_; rintro e w' ⟨rfl, hb⟩; (try rw [below_drew] at hb); obtain ⟨hc, hf, hm, hs⟩ := bcell4 hb; have hz0 : J < w'.heap.size := (by have := hb.size; (try simp at this); omega); have hl0 := Nat.le_of_lt hz0; have hz1 : w.heap.size < w'.heap.size := (by have := hb.size; (try simp at this); omega); have hl1 := Nat.le_of_lt hz1; have hz2 : wr.heap.size < w'.heap.size := (by have := hb.size; (try simp at this); omega); have hl2 := Nat.le_of_lt hz2))
          all_goals
            go_wp2_with fail
            go_region_held3 (fun v => v.cell? ⟨wr.heap.size, 0, none⟩ = some (.int .i64 x) ∧ v.cell? ⟨wr.heap.size, 1, none⟩ = some (.int .i64 y) ∧ v.cell? ⟨J, 0, none⟩ = some (.int .i64 j1) ∧ v.cell? ⟨J, 1, none⟩ = some (.int .i64 j2)) (first | assumption | (simp (maxDischargeDepth := 12) [*, go_sem]; done)) (first | (go_at_call 23; refine (iNone_any _).mono ?_; rintro e w' ⟨rfl, hb⟩; (try rw [below_drew] at hb); obtain ⟨hc, hf, hm, hs⟩ := bcell4 hb; have hz0 : J < w'.heap.size := (by have := hb.size; (try simp at this); omega); have hl0 := Nat.le_of_lt hz0; have hz1 : w.heap.size < w'.heap.size := (by have := hb.size; (try simp at this); omega); have hl1 := Nat.le_of_lt hz1; have hz2 : wr.heap.size < w'.heap.size := (by have := hb.size; (try simp at this); omega); have hl2 := Nat.le_of_lt hz2))
            all_goals
              have hSS : w'.cell? ⟨wr.heap.size, 0, none⟩ = some (.int .i64 x) ∧ w'.cell? ⟨wr.heap.size, 1, none⟩ = some (.int .i64 y) ∧ w'.cell? ⟨J, 0, none⟩ = some (.int .i64 j1) ∧ w'.cell? ⟨J, 1, none⟩ = some (.int .i64 j2) := by assumption
              obtain ⟨s0, s1, s2, s3⟩ := hSS
              have f0 : w'.frozen? ⟨J, 0, none⟩ = false := by (simp (maxDischargeDepth := 12) [*, go_sem]; done)
              have f1 : w'.frozen? ⟨J, 1, none⟩ = false := by (simp (maxDischargeDepth := 12) [*, go_sem]; done)
              go_wp2_with fail
              go_roundw
              case rel => exact ⟨k + 1, by omega, by go_num, (by rw [e.out]; refine ⟨?_, ?_, ?_, ?_⟩ <;> (simp (maxDischargeDepth := 12) [*, go_sem]; done)), (by refine ⟨?_, ?_, ?_, ?_⟩ <;> (simp (maxDischargeDepth := 12) [*, go_sem]; done)), (by repeat (first | exact HB.out | assumption | exact Below.refl _ _ | refine bl_set ?_ (by first | (simp; done) | (simp [*]; done) | (simp (maxDischargeDepth := 12) [*, go_sem]; done) | (simp [*] <;> omega)) _ | refine bl_alloc ?_ _ | refine bl_drew ?_ | refine below_step ?_ (by assumption)))⟩
              case measure => simp [intOf]; omega
        · have e := mkHid (HS.out.trans (show joinStep (j1, j2) (x, y) = (min x x, max y y) by simp [joinStep, h1, h2]))
          clear HS
          go_wp2_with fail
          go_region_held3 (fun v => v.cell? ⟨wr.heap.size, 0, none⟩ = some (.int .i64 x) ∧ v.cell? ⟨wr.heap.size, 1, none⟩ = some (.int .i64 y) ∧ v.cell? ⟨J, 0, none⟩ = some (.int .i64 j1) ∧ v.cell? ⟨J, 1, none⟩ = some (.int .i64 j2)) (first | assumption | (simp (maxDischargeDepth := 12) [*, go_sem]; done)) (first | (go_at_call 23; refine (iNone_any _).mono ?_; rintro e w' ⟨rfl, hb⟩; (try rw [below_drew] at hb); obtain ⟨hc, hf, hm, hs⟩ := bcell4 hb; have hz0 : J < w'.heap.size := (by have := hb.size; (try simp at this); omega); have hl0 := Nat.le_of_lt hz0; have hz1 : w.heap.size < w'.heap.size := (by have := hb.size; (try simp at this); omega); have hl1 := Nat.le_of_lt hz1; have hz2 : wr.heap.size < w'.heap.size := (by have := hb.size; (try simp at this); omega); have hl2 := Nat.le_of_lt hz2))
          all_goals
            go_wp2_with fail
            go_region_held3 (fun v => v.cell? ⟨wr.heap.size, 0, none⟩ = some (.int .i64 x) ∧ v.cell? ⟨wr.heap.size, 1, none⟩ = some (.int .i64 y) ∧ v.cell? ⟨J, 0, none⟩ = some (.int .i64 j1) ∧ v.cell? ⟨J, 1, none⟩ = some (.int .i64 j2)) (first | assumption | (simp (maxDischargeDepth := 12) [*, go_sem]; done)) (first | (go_at_call 23; refine (iNone_any _).mono ?_; rintro e w' ⟨rfl, hb⟩; (try rw [below_drew] at hb); obtain ⟨hc, hf, hm, hs⟩ := bcell4 hb; have hz0 : J < w'.heap.size := (by have := hb.size; (try simp at this); omega); have hl0 := Nat.le_of_lt hz0; have hz1 : w.heap.size < w'.heap.size := (by have := hb.size; (try simp at this); omega); have hl1 := Nat.le_of_lt hz1; have hz2 : wr.heap.size < w'.heap.size := (by have := hb.size; (try simp at this); omega); have hl2 := Nat.le_of_lt hz2))
            all_goals
              have hSS : w'.cell? ⟨wr.heap.size, 0, none⟩ = some (.int .i64 x) ∧ w'.cell? ⟨wr.heap.size, 1, none⟩ = some (.int .i64 y) ∧ w'.cell? ⟨J, 0, none⟩ = some (.int .i64 j1) ∧ w'.cell? ⟨J, 1, none⟩ = some (.int .i64 j2) := by assumption
              obtain ⟨s0, s1, s2, s3⟩ := hSS
              have f0 : w'.frozen? ⟨J, 0, none⟩ = false := by (simp (maxDischargeDepth := 12) [*, go_sem]; done)
              have f1 : w'.frozen? ⟨J, 1, none⟩ = false := by (simp (maxDischargeDepth := 12) [*, go_sem]; done)
              have t0 : ((w'.setCell ⟨J, 0, none⟩ (.int .i64 x)).setCell ⟨J, 1, none⟩ (.int .i64 y)).cell? ⟨J, 0, none⟩ = some (.int .i64 x) := by (simp (maxDischargeDepth := 12) [*, go_sem]; done)
              have t1 : ((w'.setCell ⟨J, 0, none⟩ (.int .i64 x)).setCell ⟨J, 1, none⟩ (.int .i64 y)).cell? ⟨J, 1, none⟩ = some (.int .i64 y) := by (simp (maxDischargeDepth := 12) [*, go_sem]; done)
              have t2 : ((w'.setCell ⟨J, 0, none⟩ (.int .i64 x)).setCell ⟨J, 1, none⟩ (.int .i64 y)).cell? ⟨wr.heap.size, 0, none⟩ = some (.int .i64 x) := by (simp (maxDischargeDepth := 12) [*, go_sem]; done)
              have t3 : ((w'.setCell ⟨J, 0, none⟩ (.int .i64 x)).setCell ⟨J, 1, none⟩ (.int .i64 y)).cell? ⟨wr.heap.size, 1, none⟩ = some (.int .i64 y) := by (simp (maxDischargeDepth := 12) [*, go_sem]; done)
              go_wp2_with fail
              go_roundw
              case rel => exact ⟨k + 1, by omega, by go_num, (by rw [e.out]; refine ⟨?_, ?_, ?_, ?_⟩ <;> (simp (maxDischargeDepth := 12) [*, go_sem]; done)), (by refine ⟨?_, ?_, ?_, ?_⟩ <;> (simp (maxDischargeDepth := 12) [*, go_sem]; done)), (by repeat (first | exact HB.out | assumption | exact Below.refl _ _ | refine bl_set ?_ (by first | (simp; done) | (simp [*]; done) | (simp (maxDischargeDepth := 12) [*, go_sem]; done) | (simp [*] <;> omega)) _ | refine bl_alloc ?_ _ | refine bl_drew ?_ | refine below_step ?_ (by assumption)))⟩
              case measure => simp [intOf]; omega
      · have e := mkHid (HS.out.trans (show joinStep (j1, j2) (x, y) = (j1, j2) by simp [joinStep, h1]))
        clear HS
        go_wp2_with fail
        go_region_held3 (fun v => v.cell? ⟨wr.heap.size, 0, none⟩ = some (.int .i64 x) ∧ v.cell? ⟨wr.heap.size, 1, none⟩ = some (.int .i64 y) ∧ v.cell? ⟨J, 0, none⟩ = some (.int .i64 j1) ∧ v.cell? ⟨J, 1, none⟩ = some (.int .i64 j2)) (first | assumption | (simp (maxDischargeDepth := 12) [*, go_sem]; done)) (first | (go_at_call 23; refine (iNone_any _).mono ?_; rintro e w' ⟨rfl, hb⟩; (try rw [below_drew] at hb); obtain ⟨hc, hf, hm, hs⟩ := bcell4 hb; have hz0 : J < w'.heap.size := (by have := hb.size; (try simp at this); omega); have hl0 := Nat.le_of_lt hz0; have hz1 : w.heap.size < w'.heap.size := (by have := hb.size; (try simp at this); omega); have hl1 := Nat.le_of_lt hz1; have hz2 : wr.heap.size < w'.heap.size := (by have := hb.size; (try simp at this); omega); have hl2 := Nat.le_of_lt hz2))
        all_goals
          go_wp2_with fail
          go_roundw
          case rel => exact ⟨k + 1, by omega, by go_num, (by rw [e.out]; refine ⟨?_, ?_, ?_, ?_⟩ <;> (simp (maxDischargeDepth := 12) [*, go_sem]; done)), (by refine ⟨?_, ?_, ?_, ?_⟩ <;> (simp (maxDischargeDepth := 12) [*, go_sem]; done)), (by repeat (first | exact HB.out | assumption | exact Below.refl _ _ | refine bl_set ?_ (by first | (simp; done) | (simp [*]; done) | (simp (maxDischargeDepth := 12) [*, go_sem]; done) | (simp [*] <;> omega)) _ | refine bl_alloc ?_ _ | refine bl_drew ?_ | refine below_step ?_ (by assumption)))⟩
          case measure => simp [intOf]; omega
    · have hJ := HJ.out
      rw [List.take_of_length_le (by omega)] at hJ
      obtain ⟨p0, p1, p2, p3⟩ := hJ
      go_wp2_with fail
      exact bodyPost_ret (v := .agg #[.int .i64 (joinL l).1, .int .i64 (joinL l).2]) (by simp [results, Tryd.results24, go_sem, *]) rfl ⟨rfl, (by repeat (first | exact HB.out | assumption | exact Below.refl _ _ | refine bl_set ?_ (by first | (simp; done) | (simp [*]; done) | (simp (maxDischargeDepth := 12) [*, go_sem]; done) | (simp [*] <;> omega)) _ | refine bl_alloc ?_ _ | refine bl_drew ?_ | refine below_step ?_ (by assumption)))⟩
end Go.Proofs.YtgkmpadeleebdaaDoor.Q
