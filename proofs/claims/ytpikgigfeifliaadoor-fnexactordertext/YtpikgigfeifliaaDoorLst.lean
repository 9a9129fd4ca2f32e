/-
  THE LASTS AND THE HEADS OF A GRAPH, as plain functions; CONTRACTS of both functions that reckon the lasts.
-/
import Derived.Test.YtpikgigfeifliaaDoorInts
import Derived.Test.YtpikgigfeifliaaDoorGokb
namespace Go.Proofs.YtpikgigfeifliaaDoor
open Go.RowKit

def lstep (l : List Int) (e : Ed) : List Int := if e.f ≥ e.t then l.set e.t.toNat (max (l.getD e.t.toNat 0) e.f) else l
def lastsL (n : Nat) (es : List Ed) : List Int := es.foldl lstep (List.replicate n (-1))
theorem lstep_len (l : List Int) (e : Ed) : (lstep l e).length = l.length := by unfold lstep; split <;> simp
theorem fold_len (es : List Ed) : ∀ l : List Int, (es.foldl lstep l).length = l.length := by
  induction es with
  | nil => intro l; rfl
  | cons x r ih => intro l; rw [List.foldl_cons, ih, lstep_len]
theorem lastsL_len (n : Nat) (es : List Ed) : (lastsL n es).length = n := by unfold lastsL; rw [fold_len]; simp
theorem fold_take {es : List Ed} {k : Nat} {e : Ed} (h : es[k]? = some e) (l : List Int) : (es.take (k + 1)).foldl lstep l = lstep ((es.take k).foldl lstep l) e := by
  rw [List.take_add_one, h, List.foldl_append]; rfl
theorem lstep_no {l : List Int} {e : Ed} (h : ¬ e.f ≥ e.t) : lstep l e = l := by unfold lstep; rw [if_neg h]
theorem lstep_set {l : List Int} {e : Ed} {t : Nat} {o : Int} (h : e.f ≥ e.t) (ht : e.t = t) (ho : l[t]? = some o) : lstep l e = l.set t (max o e.f) := by
  unfold lstep
  rw [if_pos h, ht]
  simp [List.getD, ho]
theorem set_same {l : List Int} {t : Nat} {o : Int} (ho : l[t]? = some o) : l.set t o = l := by
  apply List.ext_getElem?
  intro q
  rw [List.getElem?_set]
  by_cases h : t = q
  · subst h
    rw [if_pos rfl, if_pos (List.getElem?_eq_some_iff.1 ho).1, ho]
  · rw [if_neg h]
theorem lstep_stay {l : List Int} {e : Ed} {t : Nat} {o : Int} (ht : e.t = t) (ho : l[t]? = some o) (h : ¬ e.f > o) : lstep l e = l := by
  by_cases h1 : e.f ≥ e.t
  · rw [lstep_set h1 ht ho, Int.max_eq_left (by omega), set_same ho]
  · exact lstep_no h1
theorem lstep_up {l : List Int} {e : Ed} {t : Nat} {o : Int} (h : e.f ≥ e.t) (ht : e.t = t) (ho : l[t]? = some o) (h2 : e.f > o) : lstep l e = l.set t e.f := by
  rw [lstep_set h ht ho, Int.max_eq_right (by omega)]
theorem all_of {p : Int} {es : List Ed} (h : gokB p es = true) : btw p 1 3000 = true ∧ es.length ≤ 6000 ∧ ∀ (i : Nat) e, es[i]? = some e → 0 ≤ e.f ∧ e.f < p ∧ 0 ≤ e.t ∧ e.t < p ∧ 1 ≤ e.k ∧ e.k ≤ 7 := by
  unfold gokB at h
  simp only [Bool.and_eq_true, decide_eq_true_eq] at h
  obtain ⟨⟨h1, h2⟩, h3⟩ := h
  refine ⟨h1, h2, fun i e he => ?_⟩
  rw [List.all_eq_true] at h3
  have := h3 e (List.mem_of_getElem? he)
  unfold edB at this
  simp only [Bool.and_eq_true, btw_iff] at this
  omega
theorem Tryd.info3 : (Tryd.prog.info? 3).map (fun i => (i.zero, i.size, i.bytes)) = some (some (.int .i64 0), 1, 8) := by kernel_rfl
theorem values_all {xs : List Value} {n : Nat} (hl : xs.length = n) (h : ∀ j, j < n → xs[j]? = some (.int .i64 (-1))) : xs = ints (List.replicate n (-1)) := by
  apply List.ext_getElem?
  intro q
  by_cases hq : q < n
  · rw [h q hq, ints_get, List.getElem?_replicate, if_pos hq]; rfl
  · rw [List.getElem?_eq_none (by omega), List.getElem?_eq_none (by rw [ints_len]; simp; omega)]

theorem below_drewN {B : Nat} {a w : World} (h : Below B a w) (n : Nat) : Below B a (w.drewN n) := ⟨h.os, h.tape, h.output, h.size, h.block⟩
theorem owns_drewN {w : World} {base e size n : Nat} {v : Value} {xs : List Value} (h : w.ownsRow base e size v n xs) (k : Nat) : (w.drewN k).ownsRow base e size v n xs := h
set_option maxHeartbeats 1600000 in
theorem sLasts_ok (n : Nat) (es : List Ed) (a : Option Addr) (c : Nat) (w : World) (hg : gokB (n : Int) es = true) (hl : KidsG w 0 a es) :
    Calls Tryd.prog 11 #[.agg #[.int .i64 n, .slice a es.length c]] w fun e w' => ∃ g cap, e = .returned (.slice (some ⟨g, 0, none⟩) n cap) ∧ OwnI w' w.heap.size (.slice (some ⟨g, 0, none⟩) n cap) (lastsL n es) ∧ Below w.heap.size w w' := by
  obtain ⟨hp, hn, hall⟩ := all_of hg
  obtain ⟨p1, p2⟩ := btw_iff.1 hp
  obtain ⟨i0, hi, hz⟩ := Option.map_eq_some_iff.1 Tryd.info3
  simp only [Prod.mk.injEq] at hz
  obtain ⟨hz0, hz1, hz2⟩ := hz
  obtain ⟨w1, hmk, hown0, hg0⟩ := run_make_full (P := Tryd.prog) (w.alloc (.cells #[.int .i64 n, .slice a es.length c] 29)) (w.heap.size + 1) 35 3 i0 _ 1 Tryd.underlying35 hi hz0 hz1 .i64 .i64 n (by rw [hz2]; omega) (by unfold maxLen; omega) (by simp)
  have HL := mkHid hl
  have HA := mkHid hall
  have HO := mkHid hown0
  have HG := mkHid (Below.grown (Below.refl (w.heap.size + 1) (w.alloc (.cells #[.int .i64 n, .slice a es.length c] 29))) hg0 (by simp) (fun k hk => by cases hk))
  clear hl hown0 hg0 hi hz0 hz1 hz2 hall hg hp
  go_enter Tryd.func11, Tryd.ntmps11
  go_wp2
  go_loopw [4] (fun i w' => ∃ (k : Nat) (xs : List Value), k ≤ n ∧ i = .int .i64 k ∧ w'.ownsRow (w.heap.size + 1) 3 1 (.slice (some ⟨w.heap.size + 1, 0, none⟩) n n) n xs ∧ (∀ j, j < k → xs[j]? = some (.int .i64 (-1))) ∧ Below (w.heap.size + 1) (w.alloc (.cells #[.int .i64 n, .slice a es.length c] 29)) w') (fun i _ => n - (intOf i).toNat)
  case atStart => exact ⟨0, _, Nat.zero_le _, rfl, by simpa using HO.out, fun j hj => by omega, HG.out⟩
  case round =>
    obtain ⟨k, xs, hk, rfl, hown, hdone, hbel⟩ := hrel
    have q0 : wr.cell? ⟨w.heap.size, 0, none⟩ = some (.int .i64 n) := (hbel.cell (p := ⟨w.heap.size, 0, none⟩) (by simp)).trans (by simp [go_sem])
    have q1 : wr.cell? ⟨w.heap.size, 1, none⟩ = some (.slice a es.length c) := (hbel.cell (p := ⟨w.heap.size, 1, none⟩) (by simp)).trans (by simp [go_sem])
    have HW := mkHid hown
    have HD := mkHid hdone
    have HB := mkHid hbel
    clear hown hdone hbel HO HG hmk
    by_cases hlt : k < n
    · have hxl := HW.out.1
      obtain ⟨v0, c0⟩ : ∃ v, wr.cell? ⟨w.heap.size + 1, k, none⟩ = some v := ⟨_, (HW.out.cellAt k (by omega)).trans (List.getElem?_eq_getElem (by omega))⟩
      have f0 := HW.out.frozenAt k
      clear hxl
      have k3 : (k : Int) < (n : Int) := by omega
      go_wp2
      go_roundw
      case rel =>
        have hs := HW.out.stored k (.int .i64 (-1))
        refine ⟨k + 1, _, by omega, by go_num, hs.1, fun q hq => ?_, HB.out.setCell (p := ⟨w.heap.size + 1, k, none⟩) (Nat.le_refl _) _⟩
        have hml := HW.out.1
        rw [List.getElem?_set]
        rcases (by omega : q < k ∨ q = k) with h | rfl
        · rw [if_neg (by omega)]; exact HD.out q h
        · rw [if_pos rfl, if_pos (by omega)]
      case measure => simp [intOf]; omega
    · have e : k = n := by omega
      subst e
      have hown := HW.out
      rw [values_all (n := k) (by have := HW.out.1; omega) HD.out] at hown
      have HW := mkHid hown
      clear hown HD
      go_wp2
      go_loopw [5] (fun i w' => ∃ (j : Nat), j ≤ es.length ∧ i = .int .i64 j ∧ w'.ownsRow (w.heap.size + 1) 3 1 (.slice (some ⟨w.heap.size + 1, 0, none⟩) k k) k (ints ((es.take j).foldl lstep (List.replicate k (-1)))) ∧ Below (w.heap.size + 1) (w.alloc (.cells #[.int .i64 k, .slice a es.length c] 29)) w') (fun i _ => es.length - (intOf i).toNat)
      case atStart => exact ⟨0, Nat.zero_le _, rfl, HW.out, HB.out⟩
      case round =>
        obtain ⟨j, hj, rfl, hown, hbel⟩ := hrel
        have q0 : wr.cell? ⟨w.heap.size, 0, none⟩ = some (.int .i64 k) := (hbel.cell (p := ⟨w.heap.size, 0, none⟩) (by simp)).trans (by simp [go_sem])
        have q1 : wr.cell? ⟨w.heap.size, 1, none⟩ = some (.slice a es.length c) := (hbel.cell (p := ⟨w.heap.size, 1, none⟩) (by simp)).trans (by simp [go_sem])
        have hb0 : Below w.heap.size w wr := ((Below.refl _ _).alloc (Nat.le_refl _) _).trans (hbel.mono (Nat.le_succ _))
        have hgs : w.heap.size + 1 < wr.heap.size := (hown.lt _ rfl).2
        have hsy : w.heap.size < wr.heap.size := by omega
        have hsn : w.heap.size ≠ wr.heap.size := by omega
        have hgn : w.heap.size + 1 ≠ wr.heap.size := by omega
        have HB0 := mkHid hb0
        have HV := mkHid hown
        have HC := mkHid hbel
        clear hown hbel hb0
        by_cases hlt : j < es.length
        · obtain ⟨x, hx⟩ : ∃ x, es[j]? = some x := ⟨_, List.getElem?_eq_getElem hlt⟩
          have HX := mkHid hx
          obtain ⟨ha0, ha1, ha2, ha3, _, _⟩ := HA.out j x hx
          obtain ⟨xf, xt, xe, xy, ⟨xk, xs', xm, xkk⟩⟩ := x
          dsimp only at ha0 ha1 ha2 ha3
          obtain ⟨t, rfl⟩ : ∃ t : Nat, xt = t := ⟨xt.toNat, by omega⟩
          rcases HL.out with hh | ⟨b, off, rfl, _, hl⟩
          · subst hh; simp at hx
          obtain ⟨xa, xc, hc0, hc1, hc2, hc3, hc4, hc5, hc6, hc7, hs, hkn, hkids⟩ := (hl.below (Nat.zero_le _) HB0.out).at hx
          have FT := mkHid (fold_take hx (List.replicate k (-1)))
          clear hx hs hkn hkids hl
          obtain ⟨l, hle⟩ : ∃ l, l = (es.take j).foldl lstep (List.replicate k (-1)) := ⟨_, rfl⟩
          have hll : l.length = k := by rw [hle, fold_len]; simp
          rw [← hle] at HV FT
          obtain ⟨o, ho⟩ : ∃ o, l[t]? = some o := ⟨_, List.getElem?_eq_getElem (by omega)⟩
          have r0 : (wr.alloc (.cells #[.int .i64 xf, .int .i64 t, .int .i64 xe, .bool xy, .int .i64 xk, .string xs', .int .i64 xm, .slice xa xkk.length xc] 67)).cell? ⟨w.heap.size + 1, t, none⟩ = some (.int .i64 o) := by
            rw [(HV.out.alloc _).cellAt t (by omega), ints_get, ho]; rfl
          have fr0 := (HV.out.alloc (.cells #[.int .i64 xf, .int .i64 t, .int .i64 xe, .bool xy, .int .i64 xk, .string xs', .int .i64 xm, .slice xa xkk.length xc] 67)).frozenAt t
          have HLE := mkHid hle
          have HLL := mkHid hll
          have HOO := mkHid ho
          clear hle hll ho
          have t0 : (0 : Int) ≤ (t : Int) := by omega
          have t1 : (t : Int) < (k : Int) := by omega
          by_cases hge : xf ≥ (t : Int)
          · have hd1 : decide ((t : Int) ≤ xf) = true := by simpa using hge
            by_cases hgt : o < xf
            · have hd2 : decide (o < xf) = true := by simpa using hgt
              go_wp2
              go_quiet (fail)
              go_wp2
              go_roundw
              case rel =>
                refine ⟨j + 1, by omega, by go_num, ?_, ((below_drewN (HC.out.alloc (by omega) _) _).setCell (p := ⟨w.heap.size + 1, t, none⟩) (Nat.le_refl _) _)⟩
                rw [FT.out, lstep_up hge rfl HOO.out hgt, ← ints_set]
                exact (World.ownsRow.stored (owns_drewN (HV.out.alloc _) _) t _).1
              case measure => simp [intOf]; omega
            · have hd2 : decide (o < xf) = false := by simpa using hgt
              go_wp2
              go_quiet (fail)
              go_wp2
              go_roundw
              case rel =>
                refine ⟨j + 1, by omega, by go_num, ?_, below_drewN (HC.out.alloc (by omega) _) _⟩
                rw [FT.out, lstep_stay rfl HOO.out (by dsimp only; omega)]
                exact owns_drewN (HV.out.alloc _) _
              case measure => simp [intOf]; omega
          · have hd1 : decide ((t : Int) ≤ xf) = false := by simpa using hge
            go_wp2
            go_quiet (fail)
            go_wp2
            go_roundw
            case rel =>
              refine ⟨j + 1, by omega, by go_num, ?_, below_drewN (HC.out.alloc (by omega) _) _⟩
              rw [FT.out, lstep_no (by dsimp only; omega)]
              exact owns_drewN (HV.out.alloc _) _
            case measure => simp [intOf]; omega
        · go_wp2
          go_ret
          have hw := HV.out
          rw [List.take_of_length_le (by omega)] at hw
          refine ⟨_, _, rfl, ?_, HB0.out⟩
          unfold OwnI
          rw [lastsL_len]
          exact World.ownsRow.mono hw (Nat.le_succ _)
end Go.Proofs.YtpikgigfeifliaaDoor
