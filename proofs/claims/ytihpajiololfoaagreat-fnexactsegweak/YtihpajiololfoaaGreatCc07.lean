/-
  CONTRACTS of the program's areVals, areSymVals, isWideSym, SymVal at numbers that are as they should be.
  CONTRACT of the program's joinOf, at every list of ranges.
  CONTRACTS of the program's RangeJoin, RangeLeq, RangeSub, RangeMul.
  VALS: what they have, their order, on both sides.
  A ROW AS A LIST OF LINKS IN MEMORY; CONTRACTS of the program's number, isOneNumber.
-/
import Derived.Test.YtihpajiololfoaaGreatCc06
import Derived.Test.YtihpajiololfoaaGreatCc00
import Derived.Test.YtihpajiololfoaaGreatCc01
import Derived.Laws.EntriesVeiled
namespace Go.Proofs.YtihpajiololfoaaGreat
open Go.RowKit

structure VP (l : List Int) : Prop where
 n1 : 1 ≤ l.length
 n2 : l.length ≤ 13
 zero : l[0]? = some 0
 each : ∀ x, x ∈ l → valB x = true
/-- A term of so many symbols. -/
structure InS (n : Nat) (p : Y) : Prop where
 lo : 0 ≤ p.1
 hi : p.1 < n
 c1 : -1000 ≤ p.2
 c2 : p.2 ≤ 1000
def valY (l : List Int) (p : Y) : Int := l.getD p.1.toNat 0 + p.2
theorem VP.bound {l : List Int} (h : VP l) {p : Y} (hp : InS l.length p) : ∃ x, l[p.1.toNat]? = some x ∧ valY l p = x + p.2 ∧ -1000000 ≤ x ∧ x ≤ 1000000 := by
 obtain ⟨k, hk⟩ : ∃ k : Nat, p.1.toNat = k := ⟨_, rfl⟩
 have h1 := hp.lo
 have h2 := hp.hi
 have hlt : k < l.length := by omega
 have hx : l[k]? = some l[k] := List.getElem?_eq_getElem hlt
 have hv := of_decide_eq_true (h.each _ (List.mem_of_getElem? hx))
 rw [hk]
 refine ⟨l[k], hx, ?_, hv.1, hv.2⟩
 unfold valY
 rw [hk, List.getD_eq_getElem?_getD, hx]
 rfl
theorem isGap_any (c : Int) (w : World) : Calls Tryz.prog 130 #[.int .i64 c] w fun e w' => e = .returned (.bool (btw c (-2000000) 2000000)) ∧ w = w' := by
 go_enter Tryz.func130, Tryz.ntmps130
 go_wp2_with (go_at_call 129; refine (isBetween_any _ _ _ _).mono ?_; rintro e w' ⟨rfl, rfl⟩)
 go_ret
 exact ⟨rfl, rfl⟩
end Go.Proofs.YtihpajiololfoaaGreat
namespace Go.Proofs.YtihpajiololfoaaGreat
open Go.RowKit
attribute [local go_sem] nlt2 nlt3 nlt4 nle2 nle3 nle4 drew_size drew_cell drew_frozen

def joinStep (j r : Int × Int) : Int × Int := if eqB r.1 r.2 1 0 then j else if eqB j.1 j.2 1 0 then r else (min j.1 r.1, max j.2 r.2)
def joinL (l : List (Int × Int)) : Int × Int := l.foldl joinStep (1, 0)
theorem joinL_take {l : List (Int × Int)} {k : Nat} {r : Int × Int} (h : l[k]? = some r) : joinL (l.take (k + 1)) = joinStep (joinL (l.take k)) r := by
 unfold joinL; rw [List.take_add_one, h, List.foldl_append]; rfl
/-- Ranges that lie in a row. -/
def RngsAt (w : World) (l : List (Int × Int)) (b off : Nat) : Prop := ∀ (i : Nat) (r : Int × Int), l[i]? = some r → w.cell? ⟨b, off + i * 2, none⟩ = some (.int .i64 r.1) ∧ w.cell? ⟨b, off + i * 2 + 1, none⟩ = some (.int .i64 r.2)
theorem RngsAt.below {w w' : World} {l : List (Int × Int)} {b off : Nat} (h : RngsAt w l b off) (hb : Below w.heap.size w w') : RngsAt w' l b off := fun i r hi => by
 obtain ⟨h0, h1⟩ := h i r hi
 exact ⟨(hb.cell (p := ⟨b, off + i * 2, none⟩) (World.block_lt_of_cell? w _ h0)).trans h0, (hb.cell (p := ⟨b, off + i * 2 + 1, none⟩) (World.block_lt_of_cell? w _ h1)).trans h1⟩

set_option maxHeartbeats 1600000 in
theorem joinOf_of (l : List (Int × Int)) (b off c : Nat) (w : World) (hn : l.length ≤ 100) (hl : RngsAt w l b off) :
  Calls Tryz.prog 142 #[.slice (some ⟨b, off, none⟩) l.length c] w fun e w' => e = .returned (.agg #[.int .i64 (joinL l).1, .int .i64 (joinL l).2]) ∧ Below w.heap.size w w' := by
 have HL := mkHid hl
 clear hl
 have hEq := eql_rng
 have hMx := @run_max_M Tryz.prog
 have hMn := @run_min_M Tryz.prog
 go_enter Tryz.func142, Tryz.ntmps142
 go_wp2_with (go_at_call 103; refine (iNone_any _).mono ?_; rintro e w' ⟨rfl, hb⟩; (try rw [below_drew] at hb); obtain ⟨hc, hf, hm, hs⟩ := bcell4 hb; have hz0 : w.heap.size < w'.heap.size := (by have := hb.size; (try simp at this); omega); have hl0 := Nat.le_of_lt hz0)
 obtain ⟨W, hW⟩ : ∃ W, W = w'.alloc (.cells #[.int .i64 1, .int .i64 0] 53) := ⟨_, rfl⟩
 obtain ⟨J, hJ⟩ : ∃ J, J = w'.heap.size := ⟨_, rfl⟩
 have HB := mkHid (show Below w.heap.size w W by rw [hW]; exact (by repeat (first | assumption | exact Below.refl _ _ | refine bl_set ?_ (by first | (simp; done) | (simp [*]; done) | (simp (maxDischargeDepth := 12) [*, go_sem]; done) | (simp [*] <;> omega)) _ | refine bl_alloc ?_ _ | refine bl_drew ?_ | refine below_step ?_ (by assumption))))
 have HJ := mkHid (show Box W J 1 0 by rw [hW, hJ]; refine ⟨?_, ?_, ?_, ?_⟩ <;> simp [go_sem])
 have HR := mkHid (show Box W w.heap.size 0 0 by rw [hW]; refine ⟨?_, ?_, ?_, ?_⟩ <;> (simp (maxDischargeDepth := 12) [*, go_sem]; done))
 have HN := mkHid (show w.heap.size < J by rw [hJ]; assumption)
 rw [← hW, ← hJ]
 clear hW hJ hc hf hm hs hz0 hl0 hb
 go_loopw [9] (fun i v => ∃ k : Nat, k ≤ l.length ∧ i = .int .i64 k ∧ Box v J (joinL (l.take k)).1 (joinL (l.take k)).2 ∧ Box v w.heap.size 0 0 ∧ Below w.heap.size w v) (fun i _ => l.length - (intOf i).toNat)
 case atStart => exact ⟨0, Nat.zero_le _, rfl, HJ.out, HR.out, HB.out⟩
 case round =>
  obtain ⟨k, hk, rfl, hJ, hR, hB⟩ := hrel
  have HB := mkHid hB
  have HJ := mkHid hJ
  have HR := mkHid hR
  have hRl := HR.out.lt
  have hJl := HJ.out.lt
  have hNe := HN.out
  have hn1 : w.heap.size ≠ J := by omega
  have hn2 : J ≠ w.heap.size := by omega
  have hn3 : w.heap.size ≤ J := by omega
  obtain ⟨r0, r1, r2, r3⟩ := HR.out
  clear hJ hR hB
  by_cases hlt : k < l.length
  ·obtain ⟨⟨x, y⟩, hx⟩ : ∃ r, l[k]? = some r := ⟨_, List.getElem?_eq_getElem hlt⟩
   obtain ⟨q0, q1⟩ := (HL.out.below HB.out) k _ hx
   have HS := mkHid (joinL_take hx)
   obtain ⟨⟨j1, j2⟩, hj⟩ : ∃ j, joinL (l.take k) = j := ⟨_, rfl⟩
   rw [hj] at HS
   have hJ := HJ.out
   rw [hj] at hJ
   clear hx hj HJ
   have HJ := mkHid hJ
   obtain ⟨p0, p1, p2, p3⟩ := HJ.out
   clear hJ
   have i0 : (0 : Int) ≤ (k : Int) := by omega
   have i1 : (k : Int) < (l.length : Int) := by omega
   have hbl : b < wr.heap.size := World.block_lt_of_cell? wr _ q0
   cases h1 : eqB x y 1 0
   ·cases h2 : eqB j1 j2 1 0
    ·have e := mkHid (HS.out.trans (show joinStep (j1, j2) (x, y) = (min j1 x, max j2 y) by simp [joinStep, h1, h2]))
     clear HS
     go_wp2_with fail
     go_region_held3 (fun v => v.cell? ⟨wr.heap.size, 0, none⟩ = some (.int .i64 x) ∧ v.cell? ⟨wr.heap.size, 1, none⟩ = some (.int .i64 y) ∧ v.cell? ⟨J, 0, none⟩ = some (.int .i64 j1) ∧ v.cell? ⟨J, 1, none⟩ = some (.int .i64 j2)) (first | assumption | (simp (maxDischargeDepth := 12) [*, go_sem]; done)) (first | (go_at_call 103; refine (iNone_any _).mono ?_; rintro e w' ⟨rfl, hb⟩; (try rw [below_drew] at hb); obtain ⟨hc, hf, hm, hs⟩ := bcell4 hb; have hz0 : J < w'.heap.size := (by have := hb.size; (try simp at this); omega); have hl0 := Nat.le_of_lt hz0; have hz1 : w.heap.size < w'.heap.size := (by have := hb.size; (try simp at this); omega); have hl1 := Nat.le_of_lt hz1; have hz2 : wr.heap.size < w'.heap.size := (by have := hb.size; (try simp at this); omega); have hl2 := Nat.le_of_lt hz2))
     all_goals
      go_wp2_with fail
      go_region_held3 (fun v => v.cell? ⟨wr.heap.size, 0, none⟩ = some (.int .i64 x) ∧ v.cell? ⟨wr.heap.size, 1, none⟩ = some (.int .i64 y) ∧ v.cell? ⟨J, 0, none⟩ = some (.int .i64 j1) ∧ v.cell? ⟨J, 1, none⟩ = some (.int .i64 j2)) (first | assumption | (simp (maxDischargeDepth := 12) [*, go_sem]; done)) (first | (go_at_call 103; refine (iNone_any _).mono ?_; rintro e w' ⟨rfl, hb⟩; (try rw [below_drew] at hb); obtain ⟨hc, hf, hm, hs⟩ := bcell4 hb; have hz0 : J < w'.heap.size := (by have := hb.size; (try simp at this); omega); have hl0 := Nat.le_of_lt hz0; have hz1 : w.heap.size < w'.heap.size := (by have := hb.size; (try simp at this); omega); have hl1 := Nat.le_of_lt hz1; have hz2 : wr.heap.size < w'.heap.size := (by have := hb.size; (try simp at this); omega); have hl2 := Nat.le_of_lt hz2))
      all_goals
       have hSS : w'.cell? ⟨wr.heap.size, 0, none⟩ = some (.int .i64 x) ∧ w'.cell? ⟨wr.heap.size, 1, none⟩ = some (.int .i64 y) ∧ w'.cell? ⟨J, 0, none⟩ = some (.int .i64 j1) ∧ w'.cell? ⟨J, 1, none⟩ = some (.int .i64 j2) := by assumption
       obtain ⟨s0, s1, s2, s3⟩ := hSS
       have f0 : w'.frozen? ⟨J, 0, none⟩ = false := by (simp (maxDischargeDepth := 12) [*, go_sem]; done)
       have f1 : w'.frozen? ⟨J, 1, none⟩ = false := by (simp (maxDischargeDepth := 12) [*, go_sem]; done)
       go_wp2_with fail
       go_roundw
       case rel => exact ⟨k + 1, by omega, by go_num, (by rw [e.out]; refine ⟨?_, ?_, ?_, ?_⟩ <;> (simp (maxDischargeDepth := 12) [*, go_sem]; done)), (by refine ⟨?_, ?_, ?_, ?_⟩ <;> (simp (maxDischargeDepth := 12) [*, go_sem]; done)), (by repeat (first | exact HB.out | assumption | exact Below.refl _ _ | refine bl_set ?_ (by first | (simp; done) | (simp [*]; done) | (simp (maxDischargeDepth := 12) [*, go_sem]; done) | (simp [*] <;> omega)) _ | refine bl_alloc ?_ _ | refine bl_drew ?_ | refine below_step ?_ (by assumption)))⟩
       case measure => simp [intOf]; omega
    ·have e := mkHid (HS.out.trans (show joinStep (j1, j2) (x, y) = (min x x, max y y) by simp [joinStep, h1, h2]))
     clear HS
     go_wp2_with fail
     go_region_held3 (fun v => v.cell? ⟨wr.heap.size, 0, none⟩ = some (.int .i64 x) ∧ v.cell? ⟨wr.heap.size, 1, none⟩ = some (.int .i64 y) ∧ v.cell? ⟨J, 0, none⟩ = some (.int .i64 j1) ∧ v.cell? ⟨J, 1, none⟩ = some (.int .i64 j2)) (first | assumption | (simp (maxDischargeDepth := 12) [*, go_sem]; done)) (first | (go_at_call 103; refine (iNone_any _).mono ?_; rintro e w' ⟨rfl, hb⟩; (try rw [below_drew] at hb); obtain ⟨hc, hf, hm, hs⟩ := bcell4 hb; have hz0 : J < w'.heap.size := (by have := hb.size; (try simp at this); omega); have hl0 := Nat.le_of_lt hz0; have hz1 : w.heap.size < w'.heap.size := (by have := hb.size; (try simp at this); omega); have hl1 := Nat.le_of_lt hz1; have hz2 : wr.heap.size < w'.heap.size := (by have := hb.size; (try simp at this); omega); have hl2 := Nat.le_of_lt hz2))
     all_goals
      go_wp2_with fail
      go_region_held3 (fun v => v.cell? ⟨wr.heap.size, 0, none⟩ = some (.int .i64 x) ∧ v.cell? ⟨wr.heap.size, 1, none⟩ = some (.int .i64 y) ∧ v.cell? ⟨J, 0, none⟩ = some (.int .i64 j1) ∧ v.cell? ⟨J, 1, none⟩ = some (.int .i64 j2)) (first | assumption | (simp (maxDischargeDepth := 12) [*, go_sem]; done)) (first | (go_at_call 103; refine (iNone_any _).mono ?_; rintro e w' ⟨rfl, hb⟩; (try rw [below_drew] at hb); obtain ⟨hc, hf, hm, hs⟩ := bcell4 hb; have hz0 : J < w'.heap.size := (by have := hb.size; (try simp at this); omega); have hl0 := Nat.le_of_lt hz0; have hz1 : w.heap.size < w'.heap.size := (by have := hb.size; (try simp at this); omega); have hl1 := Nat.le_of_lt hz1; have hz2 : wr.heap.size < w'.heap.size := (by have := hb.size; (try simp at this); omega); have hl2 := Nat.le_of_lt hz2))
      all_goals
       have hSS : w'.cell? ⟨wr.heap.size, 0, none⟩ = some (.int .i64 x) ∧ w'.cell? ⟨wr.heap.size, 1, none⟩ = some (.int .i64 y) ∧ w'.cell? ⟨J, 0, none⟩ = some (.int .i64 j1) ∧ w'.cell? ⟨J, 1, none⟩ = some (.int .i64 j2) := by assumption
       obtain ⟨s0, s1, s2, s3⟩ := hSS
       have f0 : w'.frozen? ⟨J, 0, none⟩ = false := by (simp (maxDischargeDepth := 12) [*, go_sem]; done)
       have f1 : w'.frozen? ⟨J, 1, none⟩ = false := by (simp (maxDischargeDepth := 12) [*, go_sem]; done)
       have t0 : ((w'.setCell ⟨J, 0, none⟩ (.int .i64 x)).setCell ⟨J, 1, none⟩ (.int .i64 y)).cell? ⟨J, 0, none⟩ = some (.int .i64 x) := by (simp (maxDischargeDepth := 12) [*, go_sem]; done)
       have t1 : ((w'.setCell ⟨J, 0, none⟩ (.int .i64 x)).setCell ⟨J, 1, none⟩ (.int .i64 y)).cell? ⟨J, 1, none⟩ = some (.int .i64 y) := by (simp (maxDischargeDepth := 12) [*, go_sem]; done)
       have t2 : ((w'.setCell ⟨J, 0, none⟩ (.int .i64 x)).setCell ⟨J, 1, none⟩ (.int .i64 y)).cell? ⟨wr.heap.size, 0, none⟩ = some (.int .i64 x) := by (simp (maxDischargeDepth := 12) [*, go_sem]; done)
       have t3 : ((w'.setCell ⟨J, 0, none⟩ (.int .i64 x)).setCell ⟨J, 1, none⟩ (.int .i64 y)).cell? ⟨wr.heap.size, 1, none⟩ = some (.int .i64 y) := by (simp (maxDischargeDepth := 12) [*, go_sem]; done)
       go_wp2_with fail
       go_roundw
       case rel => exact ⟨k + 1, by omega, by go_num, (by rw [e.out]; refine ⟨?_, ?_, ?_, ?_⟩ <;> (simp (maxDischargeDepth := 12) [*, go_sem]; done)), (by refine ⟨?_, ?_, ?_, ?_⟩ <;> (simp (maxDischargeDepth := 12) [*, go_sem]; done)), (by repeat (first | exact HB.out | assumption | exact Below.refl _ _ | refine bl_set ?_ (by first | (simp; done) | (simp [*]; done) | (simp (maxDischargeDepth := 12) [*, go_sem]; done) | (simp [*] <;> omega)) _ | refine bl_alloc ?_ _ | refine bl_drew ?_ | refine below_step ?_ (by assumption)))⟩
       case measure => simp [intOf]; omega
   ·have e := mkHid (HS.out.trans (show joinStep (j1, j2) (x, y) = (j1, j2) by simp [joinStep, h1]))
    clear HS
    go_wp2_with fail
    go_region_held3 (fun v => v.cell? ⟨wr.heap.size, 0, none⟩ = some (.int .i64 x) ∧ v.cell? ⟨wr.heap.size, 1, none⟩ = some (.int .i64 y) ∧ v.cell? ⟨J, 0, none⟩ = some (.int .i64 j1) ∧ v.cell? ⟨J, 1, none⟩ = some (.int .i64 j2)) (first | assumption | (simp (maxDischargeDepth := 12) [*, go_sem]; done)) (first | (go_at_call 103; refine (iNone_any _).mono ?_; rintro e w' ⟨rfl, hb⟩; (try rw [below_drew] at hb); obtain ⟨hc, hf, hm, hs⟩ := bcell4 hb; have hz0 : J < w'.heap.size := (by have := hb.size; (try simp at this); omega); have hl0 := Nat.le_of_lt hz0; have hz1 : w.heap.size < w'.heap.size := (by have := hb.size; (try simp at this); omega); have hl1 := Nat.le_of_lt hz1; have hz2 : wr.heap.size < w'.heap.size := (by have := hb.size; (try simp at this); omega); have hl2 := Nat.le_of_lt hz2))
    all_goals
     go_wp2_with fail
     go_roundw
     case rel => exact ⟨k + 1, by omega, by go_num, (by rw [e.out]; refine ⟨?_, ?_, ?_, ?_⟩ <;> (simp (maxDischargeDepth := 12) [*, go_sem]; done)), (by refine ⟨?_, ?_, ?_, ?_⟩ <;> (simp (maxDischargeDepth := 12) [*, go_sem]; done)), (by repeat (first | exact HB.out | assumption | exact Below.refl _ _ | refine bl_set ?_ (by first | (simp; done) | (simp [*]; done) | (simp (maxDischargeDepth := 12) [*, go_sem]; done) | (simp [*] <;> omega)) _ | refine bl_alloc ?_ _ | refine bl_drew ?_ | refine below_step ?_ (by assumption)))⟩
     case measure => simp [intOf]; omega
  ·have hJ := HJ.out
   rw [List.take_of_length_le (by omega)] at hJ
   obtain ⟨p0, p1, p2, p3⟩ := hJ
   go_wp2_with fail
   exact bodyPost_ret (v := .agg #[.int .i64 (joinL l).1, .int .i64 (joinL l).2]) (by simp [results, Tryz.results142, go_sem, *]) rfl ⟨rfl, (by repeat (first | exact HB.out | assumption | exact Below.refl _ _ | refine bl_set ?_ (by first | (simp; done) | (simp [*]; done) | (simp (maxDischargeDepth := 12) [*, go_sem]; done) | (simp [*] <;> omega)) _ | refine bl_alloc ?_ _ | refine bl_drew ?_ | refine below_step ?_ (by assumption)))⟩
end Go.Proofs.YtihpajiololfoaaGreat
namespace Go.Proofs.YtihpajiololfoaaGreat
open Go.RowKit
attribute [local go_sem] nlt2 nlt3 nlt4 nle2 nle3 nle4 drew_size drew_cell drew_frozen

theorem joinOf2 (a b c d : Int) (k m : Nat) (w : World) (h0 : w.cell? ⟨k, 0, none⟩ = some (.int .i64 a)) (h1 : w.cell? ⟨k, 1, none⟩ = some (.int .i64 b)) (h2 : w.cell? ⟨k, 2, none⟩ = some (.int .i64 c)) (h3 : w.cell? ⟨k, 3, none⟩ = some (.int .i64 d)) :
  Calls Tryz.prog 142 #[.slice (some ⟨k, 0, none⟩) 2 m] w fun e w' => e = .returned (.agg #[.int .i64 (joinL [(a, b), (c, d)]).1, .int .i64 (joinL [(a, b), (c, d)]).2]) ∧ Below w.heap.size w w' :=
 joinOf_of [(a, b), (c, d)] k 0 m w (by simp) (fun i r hi => by
  match i, hi with
  | 0, hi => obtain rfl := Option.some.inj hi; exact ⟨h0, h1⟩
  | 1, hi => obtain rfl := Option.some.inj hi; exact ⟨h2, h3⟩
  | n + 2, hi => simp at hi)
theorem eq_none {a b : Int} : eqB a b 1 0 = true ↔ a = 1 ∧ b = 0 := by unfold eqB; simp
theorem eq_not {a b : Int} : eqB a b 1 0 = false ↔ ¬ (a = 1 ∧ b = 0) := by unfold eqB; simp
theorem ok_eq {a b : Int} (h : okB a b = true) : isB a b = !eqB a b 1 0 := by
 have := ok_iff.1 h
 cases h1 : eqB a b 1 0
 ·have := eq_not.1 h1
  exact is_iff.2 (by omega)
 ·have := eq_none.1 h1
  cases h2 : isB a b
  ·rfl
  ·have := is_iff.1 h2; omega
theorem joinL2 {a b c d : Int} (h1 : okB a b = true) (h2 : okB c d = true) : joinL [(a, b), (c, d)] = joinM a b c d := by
 have e1 := ok_eq h1
 have e2 := ok_eq h2
 have n : eqB 1 0 1 0 = true := by decide
 unfold joinM
 rw [h1, h2, e1, e2]
 show joinStep (joinStep (1, 0) (a, b)) (c, d) = _
 cases h3 : eqB a b 1 0
 ·have s : joinStep (1, 0) (a, b) = (a, b) := by simp [joinStep, h3, n]
  rw [s]
  cases h4 : eqB c d 1 0 <;> simp [joinStep, h3, h4]
 ·have s : joinStep (1, 0) (a, b) = (1, 0) := by simp [joinStep, h3]
  have q := eq_none.1 h3
  rw [s]
  cases h4 : eqB c d 1 0
  ·simp [joinStep, n, h4]
  ·have := eq_none.1 h4
   simp [joinStep, this]
set_option maxHeartbeats 1600000 in
theorem iJoin_any (a b c d : Int) (w : World) : Calls Tryz.prog 114 #[.agg #[.int .i64 a, .int .i64 b], .agg #[.int .i64 c, .int .i64 d]] w fun e w' => e = .returned (.agg #[.int .i64 (joinM a b c d).1, .int .i64 (joinM a b c d).2]) ∧ Below w.heap.size w w' := by
 cases h1 : okB a b
 ·have E := mkHid (show joinM a b c d = (1, 0) by unfold joinM; rw [h1]; rfl)
  have hEq := eql_rng
  have hMx := @run_max_M Tryz.prog
  have hMn := @run_min_M Tryz.prog
  go_enter Tryz.func114, Tryz.ntmps114
  go_wp2_with (first | (go_at_call 141; refine (iOk_any _ _ _).mono ?_; rintro e w' ⟨rfl, hb⟩; (try rw [below_drew] at hb); obtain ⟨hc, hf, hm, hs⟩ := bcell4 hb; have hz0 : w.heap.size < w'.heap.size := (by have := hb.size; (try simp at this); omega); have hl0 := Nat.le_of_lt hz0; have hz1 : w.heap.size + 1 < w'.heap.size := (by have := hb.size; (try simp at this); omega); have hl1 := Nat.le_of_lt hz1; have hz2 : w.heap.size + 2 < w'.heap.size := (by have := hb.size; (try simp at this); omega); have hl2 := Nat.le_of_lt hz2) | (go_at_call 103; refine (iNone_any _).mono ?_; rintro e w' ⟨rfl, hb⟩; (try rw [below_drew] at hb); obtain ⟨hc, hf, hm, hs⟩ := bcell4 hb; have hz0 : w.heap.size < w'.heap.size := (by have := hb.size; (try simp at this); omega); have hl0 := Nat.le_of_lt hz0; have hz1 : w.heap.size + 1 < w'.heap.size := (by have := hb.size; (try simp at this); omega); have hl1 := Nat.le_of_lt hz1; have hz2 : w.heap.size + 2 < w'.heap.size := (by have := hb.size; (try simp at this); omega); have hl2 := Nat.le_of_lt hz2) | (go_at_call 142; refine (joinOf2 a b c d _ _ _ (by (simp (maxDischargeDepth := 12) [*, go_sem]; done)) (by (simp (maxDischargeDepth := 12) [*, go_sem]; done)) (by (simp (maxDischargeDepth := 12) [*, go_sem]; done)) (by (simp (maxDischargeDepth := 12) [*, go_sem]; done))).mono ?_; rintro e w' ⟨rfl, hb⟩; (try rw [below_drew] at hb); obtain ⟨hc, hf, hm, hs⟩ := bcell4 hb; have hz0 : w.heap.size < w'.heap.size := (by have := hb.size; (try simp at this); omega); have hl0 := Nat.le_of_lt hz0; have hz1 : w.heap.size + 1 < w'.heap.size := (by have := hb.size; (try simp at this); omega); have hl1 := Nat.le_of_lt hz1; have hz2 : w.heap.size + 2 < w'.heap.size := (by have := hb.size; (try simp at this); omega); have hl2 := Nat.le_of_lt hz2))
  exact bodyPost_ret (v := .agg #[.int .i64 1, .int .i64 0]) (by simp [results, Tryz.results114, go_sem, *]) rfl ⟨ret_rng E.out, (by repeat (first | assumption | exact Below.refl _ _ | refine bl_set ?_ (by first | (simp; done) | (simp [*]; done) | (simp (maxDischargeDepth := 12) [*, go_sem]; done) | (simp [*] <;> omega)) _ | refine bl_alloc ?_ _ | refine bl_drew ?_ | refine below_step ?_ (by assumption)))⟩
 ·cases h2 : okB c d
  ·have E := mkHid (show joinM a b c d = (1, 0) by unfold joinM; rw [h1, h2]; rfl)
   have hEq := eql_rng
   have hMx := @run_max_M Tryz.prog
   have hMn := @run_min_M Tryz.prog
   go_enter Tryz.func114, Tryz.ntmps114
   go_wp2_with (first | (go_at_call 141; refine (iOk_any _ _ _).mono ?_; rintro e w' ⟨rfl, hb⟩; (try rw [below_drew] at hb); obtain ⟨hc, hf, hm, hs⟩ := bcell4 hb; have hz0 : w.heap.size < w'.heap.size := (by have := hb.size; (try simp at this); omega); have hl0 := Nat.le_of_lt hz0; have hz1 : w.heap.size + 1 < w'.heap.size := (by have := hb.size; (try simp at this); omega); have hl1 := Nat.le_of_lt hz1; have hz2 : w.heap.size + 2 < w'.heap.size := (by have := hb.size; (try simp at this); omega); have hl2 := Nat.le_of_lt hz2) | (go_at_call 103; refine (iNone_any _).mono ?_; rintro e w' ⟨rfl, hb⟩; (try rw [below_drew] at hb); obtain ⟨hc, hf, hm, hs⟩ := bcell4 hb; have hz0 : w.heap.size < w'.heap.size := (by have := hb.size; (try simp at this); omega); have hl0 := Nat.le_of_lt hz0; have hz1 : w.heap.size + 1 < w'.heap.size := (by have := hb.size; (try simp at this); omega); have hl1 := Nat.le_of_lt hz1; have hz2 : w.heap.size + 2 < w'.heap.size := (by have := hb.size; (try simp at this); omega); have hl2 := Nat.le_of_lt hz2) | (go_at_call 142; refine (joinOf2 a b c d _ _ _ (by (simp (maxDischargeDepth := 12) [*, go_sem]; done)) (by (simp (maxDischargeDepth := 12) [*, go_sem]; done)) (by (simp (maxDischargeDepth := 12) [*, go_sem]; done)) (by (simp (maxDischargeDepth := 12) [*, go_sem]; done))).mono ?_; rintro e w' ⟨rfl, hb⟩; (try rw [below_drew] at hb); obtain ⟨hc, hf, hm, hs⟩ := bcell4 hb; have hz0 : w.heap.size < w'.heap.size := (by have := hb.size; (try simp at this); omega); have hl0 := Nat.le_of_lt hz0; have hz1 : w.heap.size + 1 < w'.heap.size := (by have := hb.size; (try simp at this); omega); have hl1 := Nat.le_of_lt hz1; have hz2 : w.heap.size + 2 < w'.heap.size := (by have := hb.size; (try simp at this); omega); have hl2 := Nat.le_of_lt hz2))
   exact bodyPost_ret (v := .agg #[.int .i64 1, .int .i64 0]) (by simp [results, Tryz.results114, go_sem, *]) rfl ⟨ret_rng E.out, (by repeat (first | assumption | exact Below.refl _ _ | refine bl_set ?_ (by first | (simp; done) | (simp [*]; done) | (simp (maxDischargeDepth := 12) [*, go_sem]; done) | (simp [*] <;> omega)) _ | refine bl_alloc ?_ _ | refine bl_drew ?_ | refine below_step ?_ (by assumption)))⟩
  ·have E := mkHid (joinL2 h1 h2).symm
   have hEq := eql_rng
   have hMx := @run_max_M Tryz.prog
   have hMn := @run_min_M Tryz.prog
   go_enter Tryz.func114, Tryz.ntmps114
   go_wp2_with (first | (go_at_call 141; refine (iOk_any _ _ _).mono ?_; rintro e w' ⟨rfl, hb⟩; (try rw [below_drew] at hb); obtain ⟨hc, hf, hm, hs⟩ := bcell4 hb; have hz0 : w.heap.size < w'.heap.size := (by have := hb.size; (try simp at this); omega); have hl0 := Nat.le_of_lt hz0; have hz1 : w.heap.size + 1 < w'.heap.size := (by have := hb.size; (try simp at this); omega); have hl1 := Nat.le_of_lt hz1; have hz2 : w.heap.size + 2 < w'.heap.size := (by have := hb.size; (try simp at this); omega); have hl2 := Nat.le_of_lt hz2) | (go_at_call 103; refine (iNone_any _).mono ?_; rintro e w' ⟨rfl, hb⟩; (try rw [below_drew] at hb); obtain ⟨hc, hf, hm, hs⟩ := bcell4 hb; have hz0 : w.heap.size < w'.heap.size := (by have := hb.size; (try simp at this); omega); have hl0 := Nat.le_of_lt hz0; have hz1 : w.heap.size + 1 < w'.heap.size := (by have := hb.size; (try simp at this); omega); have hl1 := Nat.le_of_lt hz1; have hz2 : w.heap.size + 2 < w'.heap.size := (by have := hb.size; (try simp at this); omega); have hl2 := Nat.le_of_lt hz2) | (go_at_call 142; refine (joinOf2 a b c d _ _ _ (by (simp (maxDischargeDepth := 12) [*, go_sem]; done)) (by (simp (maxDischargeDepth := 12) [*, go_sem]; done)) (by (simp (maxDischargeDepth := 12) [*, go_sem]; done)) (by (simp (maxDischargeDepth := 12) [*, go_sem]; done))).mono ?_; rintro e w' ⟨rfl, hb⟩; (try rw [below_drew] at hb); obtain ⟨hc, hf, hm, hs⟩ := bcell4 hb; have hz0 : w.heap.size < w'.heap.size := (by have := hb.size; (try simp at this); omega); have hl0 := Nat.le_of_lt hz0; have hz1 : w.heap.size + 1 < w'.heap.size := (by have := hb.size; (try simp at this); omega); have hl1 := Nat.le_of_lt hz1; have hz2 : w.heap.size + 2 < w'.heap.size := (by have := hb.size; (try simp at this); omega); have hl2 := Nat.le_of_lt hz2))
   exact bodyPost_ret (v := .agg #[.int .i64 (joinL [(a, b), (c, d)]).1, .int .i64 (joinL [(a, b), (c, d)]).2]) (by simp [results, Tryz.results114, go_sem, *]) rfl ⟨ret_rng E.out, (by repeat (first | assumption | exact Below.refl _ _ | refine bl_set ?_ (by first | (simp; done) | (simp [*]; done) | (simp (maxDischargeDepth := 12) [*, go_sem]; done) | (simp [*] <;> omega)) _ | refine bl_alloc ?_ _ | refine bl_drew ?_ | refine below_step ?_ (by assumption)))⟩
end Go.Proofs.YtihpajiololfoaaGreat
namespace Go.Proofs.YtihpajiololfoaaGreat
open Go.RowKit

end Go.Proofs.YtihpajiololfoaaGreat
namespace Go.Proofs.YtihpajiololfoaaGreat
open Go.RowKit

structure Lk where
 b : List Y
 v : VV
 m : Bool
/-- A link lies in a block of its own; the next one is p. -/
structure LinkAt (w : World) (X : Nat) (k : Lk) (p : Option Addr) : Prop where
 mem : ∃ ao cap, w.cell? ⟨X, 0, none⟩ = some (.slice ao k.b.length cap) ∧ At eY w ao k.b
 f : w.cell? ⟨X, 1, none⟩ = some (.func (.func 132) #[] #[])
 v0 : w.cell? ⟨X, 2, none⟩ = some (.int .i64 k.v.1)
 v1 : w.cell? ⟨X, 3, none⟩ = some (.int .i64 k.v.2.1)
 v2 : w.cell? ⟨X, 4, none⟩ = some (.bool k.v.2.2)
 m : w.cell? ⟨X, 5, none⟩ = some (.bool k.m)
 nx : w.cell? ⟨X, 6, none⟩ = some (.pointer p)
theorem LinkAt.lt {w : World} {X : Nat} {k : Lk} {p : Option Addr} (h : LinkAt w X k p) : X < w.heap.size := World.block_lt_of_cell? w _ h.f
theorem LinkAt.below {w w' : World} {X : Nat} {k : Lk} {p : Option Addr} (h : LinkAt w X k p) (hb : Below w.heap.size w w') : LinkAt w' X k p := by
 obtain ⟨hc, _⟩ := bcell hb
 have hl := h.lt
 obtain ⟨ao, cap, h1, h2⟩ := h.mem
 exact ⟨⟨ao, cap, (hc _ _ hl).trans h1, h2.below hb⟩, (hc _ _ hl).trans h.f, (hc _ _ hl).trans h.v0, (hc _ _ hl).trans h.v1, (hc _ _ hl).trans h.v2, (hc _ _ hl).trans h.m, (hc _ _ hl).trans h.nx⟩
/-- A row: link behind link. -/
def Chain (w : World) : Nat → List Lk → Prop
 | _, [] => False
 | X, [k] => LinkAt w X k none
 | X, k :: k' :: r => ∃ X', LinkAt w X k (some ⟨X', 0, none⟩) ∧ Chain w X' (k' :: r)
theorem Chain.below {w w' : World} (hb : Below w.heap.size w w') : ∀ {ks : List Lk} {X : Nat}, Chain w X ks → Chain w' X ks
 | [], _, h => h
 | [_], _, h => LinkAt.below h hb
 | _ :: _ :: _, _, ⟨X', h1, h2⟩ => ⟨X', h1.below hb, Chain.below hb h2⟩
theorem Chain.head {w : World} {k : Lk} {r : List Lk} {X : Nat} (h : Chain w X (k :: r)) : ∃ p, LinkAt w X k p := by
 cases r with
 | nil => exact ⟨none, h⟩
 | cons k' r => obtain ⟨X', h1, _⟩ := h; exact ⟨_, h1⟩
end Go.Proofs.YtihpajiololfoaaGreat
