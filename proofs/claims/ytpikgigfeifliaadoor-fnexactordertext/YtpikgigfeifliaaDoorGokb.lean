/-
  CONTRACTS of both GraphOks, at every graph.
-/
import Derived.Test.YtpikgigfeifliaaDoorGok
namespace Go.Proofs.YtpikgigfeifliaaDoor
open Go.RowKit

set_option maxHeartbeats 400000 in
theorem sGraphOk_nil (p : Int) (a : Option Addr) (c : Nat) (w : World) (hp : btw p 1 3000 = true) :
    Calls Tryd.prog 10 #[.agg #[.int .i64 p, .slice a 0 c]] w fun e w' => e = .returned (.bool true) ∧ Below w.heap.size w w' := by
  obtain ⟨p1, p2⟩ := btw_iff.1 hp
  go_enter Tryd.func10, Tryd.ntmps10
  go_wp2_with (go_at_call 23; refine (between_any _ _ _ _).mono ?_; rintro e w' ⟨rfl, rfl⟩)
  go_loopw [3] (fun i w' => i = .int .i64 0 ∧ w' = w.alloc (.cells #[.int .i64 p, .slice a 0 c] 29)) (fun i _ => 0)
  case atStart => exact ⟨rfl, rfl⟩
  case round =>
    obtain ⟨rfl, rfl⟩ := hrel
    go_wp2
    go_ret
    exact ⟨rfl, (Below.refl _ _).alloc (Nat.le_refl _) _⟩
set_option maxHeartbeats 400000 in
theorem sGraphOk_p (p : Int) (a : Option Addr) (n c : Nat) (w : World) (hp : btw p 1 3000 = false) :
    Calls Tryd.prog 10 #[.agg #[.int .i64 p, .slice a n c]] w fun e w' => e = .returned (.bool false) ∧ Below w.heap.size w w' := by
  go_enter Tryd.func10, Tryd.ntmps10
  go_wp2_with (go_at_call 23; refine (between_any _ _ _ _).mono ?_; rintro e w' ⟨rfl, rfl⟩)
  go_ret
  exact ⟨rfl, (Below.refl _ _).alloc (Nat.le_refl _) _⟩
set_option maxHeartbeats 400000 in
theorem sGraphOk_n (p : Int) (a : Option Addr) (n c : Nat) (w : World) (hp : btw p 1 3000 = true) (hn : (n : Int) > 6000) :
    Calls Tryd.prog 10 #[.agg #[.int .i64 p, .slice a n c]] w fun e w' => e = .returned (.bool false) ∧ Below w.heap.size w w' := by
  go_enter Tryd.func10, Tryd.ntmps10
  go_wp2_with (go_at_call 23; refine (between_any _ _ _ _).mono ?_; rintro e w' ⟨rfl, rfl⟩)
  go_ret
  exact ⟨rfl, (Below.refl _ _).alloc (Nat.le_refl _) _⟩
theorem sGraphOk_ok (p : Int) (es : List Ed) (a : Option Addr) (c : Nat) (w : World) (hl : KidsG w 0 a es) :
    Calls Tryd.prog 10 #[.agg #[.int .i64 p, .slice a es.length c]] w fun e w' => e = .returned (.bool (gokB p es)) ∧ Below w.heap.size w w' := by
  cases hp : btw p 1 3000
  · refine (sGraphOk_p p a es.length c w hp).mono ?_
    rintro e w' ⟨rfl, hb⟩
    exact ⟨ret_bool (by simp [gokB, hp]), hb⟩
  · by_cases hn : es.length ≤ 6000
    · rcases hl with rfl | ⟨b, o, rfl, _, hl⟩
      · refine (sGraphOk_nil p a c w hp).mono ?_
        rintro e w' ⟨rfl, hb⟩
        exact ⟨ret_bool (by simp [gokB, hp]), hb⟩
      · refine (sGraphOk_of p es b o c w hp hn hl).mono ?_
        rintro e w' ⟨rfl, hb⟩
        exact ⟨ret_bool (by simp [gokB, hp, hn]), hb⟩
    · refine (sGraphOk_n p a es.length c w hp (by omega)).mono ?_
      rintro e w' ⟨rfl, hb⟩
      exact ⟨ret_bool (by simp [gokB, hp, hn]), hb⟩

set_option maxHeartbeats 1600000 in
theorem iGraphOk_of (p : Int) (es : List Ed) (b off c : Nat) (w : World) (hp : btw p 1 3000 = true) (hn : es.length ≤ 6000) (hl : LiesG w 0 es b off) :
    Calls Tryd.prog 25 #[.agg #[.int .i64 p, .slice (some ⟨b, off, none⟩) es.length c]] w fun e w' => e = .returned (.bool (es.all (edB p))) ∧ Below w.heap.size w w' := by
  have HL := mkHid hl
  clear hl
  obtain ⟨p1, p2⟩ := btw_iff.1 hp
  clear hp
  have hn' : ¬ (es.length : Int) > 6000 := by omega
  go_enter Tryd.func25, Tryd.ntmps25
  go_wp2
  go_loopw [22] (fun i w' => ∃ (k : Nat), k ≤ es.length ∧ i = .int .i64 k ∧ (es.take k).all (edB p) = true ∧ Below (w.heap.size + 1) (w.alloc (.cells #[.int .i64 p, .slice (some ⟨b, off, none⟩) es.length c] 29)) w') (fun i _ => es.length - (intOf i).toNat)
  case atStart => exact ⟨0, Nat.zero_le _, rfl, by simp, Below.refl _ _⟩
  case round =>
    obtain ⟨k, hk, rfl, hall, hbel⟩ := hrel
    have q0 : wr.cell? ⟨w.heap.size, 0, none⟩ = some (.int .i64 p) := (hbel.cell (p := ⟨w.heap.size, 0, none⟩) (by simp)).trans (by simp [go_sem])
    have q1 : wr.cell? ⟨w.heap.size, 1, none⟩ = some (.slice (some ⟨b, off, none⟩) es.length c) := (hbel.cell (p := ⟨w.heap.size, 1, none⟩) (by simp)).trans (by simp [go_sem])
    have HB := mkHid hbel
    have hb0 : Below w.heap.size w wr := ((Below.refl _ _).alloc (Nat.le_refl _) _).trans (hbel.mono (Nat.le_succ _))
    have hsz : w.heap.size + 1 ≤ wr.heap.size := by have := hbel.size; simpa using this
    have hsy : w.heap.size < wr.heap.size := by omega
    have hsn : w.heap.size ≠ wr.heap.size := by omega
    have HB0 := mkHid hb0
    have HA := mkHid hall
    clear hbel hall hb0
    by_cases hlt : k < es.length
    · obtain ⟨x, hx⟩ : ∃ x, es[k]? = some x := ⟨_, List.getElem?_eq_getElem hlt⟩
      have HX := mkHid hx
      obtain ⟨xf, xt, xe, xy, ⟨xk, xs, xm, xkk⟩⟩ := x
      obtain ⟨xa, xc, hc0, hc1, hc2, hc3, hc4, hc5, hc6, hc7, hs, hkn, hkids⟩ := (HL.out.below (Nat.zero_le _) HB0.out).at hx
      clear hx hs hkn hkids
      have AN : edB p ⟨xf, xt, xe, xy, .node xk xs xm xkk⟩ = false → es.all (edB p) = false := fun h => all_no HX.out h
      have AN := mkHid AN
      have AB0 := mkHid (HB0.out.alloc HB0.out.size (.cells #[.int .i64 xf, .int .i64 xt, .int .i64 xe, .bool xy, .int .i64 xk, .string xs, .int .i64 xm, .slice xa xkk.length xc] 67))
      have AB := mkHid (HB.out.alloc hsz (.cells #[.int .i64 xf, .int .i64 xt, .int .i64 xe, .bool xy, .int .i64 xk, .string xs, .int .i64 xm, .slice xa xkk.length xc] 67))
      go_wp2_with fail
      refine (isPoint_any _ _ _ _ _ _).mono ?_
      rintro e w1 ⟨rfl, hb1⟩
      have u0 : w1.cell? ⟨w.heap.size, 0, none⟩ = some (.int .i64 p) := (hb1.cell (p := ⟨w.heap.size, 0, none⟩) (by simp; omega)).trans ((((Below.refl wr.heap.size wr).alloc (Nat.le_refl _) _).cell (p := ⟨w.heap.size, 0, none⟩) hsy).trans q0)
      have u1 : w1.cell? ⟨w.heap.size, 1, none⟩ = some (.slice (some ⟨b, off, none⟩) es.length c) := (hb1.cell (p := ⟨w.heap.size, 1, none⟩) (by simp; omega)).trans ((((Below.refl wr.heap.size wr).alloc (Nat.le_refl _) _).cell (p := ⟨w.heap.size, 1, none⟩) hsy).trans q1)
      have v1 : w1.cell? ⟨wr.heap.size, 1, none⟩ = some (.int .i64 xt) := (hb1.cell (p := ⟨wr.heap.size, 1, none⟩) (by simp)).trans (by simp [go_sem])
      have v2 : w1.cell? ⟨wr.heap.size, 2, none⟩ = some (.int .i64 xe) := (hb1.cell (p := ⟨wr.heap.size, 2, none⟩) (by simp)).trans (by simp [go_sem])
      have B1 := mkHid (AB0.out.trans (hb1.mono AB0.out.size))
      have C1 := mkHid (AB.out.trans (hb1.mono (by simp; omega)))
      have S1 := mkHid hb1.size
      clear hb1 hc0 hc1 hc2 hc3 hc4 hc5 hc6 hc7 AB0 AB q0 q1
      cases h1 : btw xf 0 (p - 1)
      · have e1 := mkHid (AN.out (by simp [edB, h1]))
        go_wp2
        go_ret
        exact ⟨ret_bool e1.out.symm, B1.out⟩
      · go_wp2_with fail
        refine (isPoint_any _ _ _ _ _ _).mono ?_
        rintro e w2 ⟨rfl, hb2⟩
        have hs1 : w.heap.size + 1 ≤ w1.heap.size := by have := C1.out.size; simpa using this
        have t2 : w2.cell? ⟨wr.heap.size, 2, none⟩ = some (.int .i64 xe) := (hb2.cell (p := ⟨wr.heap.size, 2, none⟩) (by have := S1.out; simp at this; simp; omega)).trans v2
        have B2 := mkHid (B1.out.trans (hb2.mono B1.out.size))
        have C2 := mkHid (C1.out.trans (hb2.mono hs1))
        clear hb2 hs1 v1 v2 u0 u1 S1
        cases h2 : btw xt 0 (p - 1)
        · have e1 := mkHid (AN.out (by simp [edB, h2]))
          go_wp2
          go_ret
          exact ⟨ret_bool e1.out.symm, B2.out⟩
        · by_cases h3 : xe < 1
          · have e1 := mkHid (AN.out (by have : btw xe 1 7 = false := btw_not.2 (by omega)
                                         simp [edB, this]))
            go_wp2
            go_ret
            exact ⟨ret_bool e1.out.symm, B2.out⟩
          · by_cases h4 : xe > 7
            · have e1 := mkHid (AN.out (by have : btw xe 1 7 = false := btw_not.2 (by omega)
                                           simp [edB, this]))
              go_wp2
              go_ret
              exact ⟨ret_bool e1.out.symm, B2.out⟩
            · have e1 := mkHid (all_take HX.out HA.out (by have : btw xe 1 7 = true := btw_iff.2 (by omega)
                                                           simp [edB, h1, h2, this]))
              go_wp2
              go_roundw
              case rel => exact ⟨k + 1, by omega, by go_num, e1.out, C2.out⟩
              case measure => simp [intOf]; omega
    · go_wp2
      go_ret
      have h3 := HA.out
      rw [List.take_of_length_le (by omega)] at h3
      exact ⟨ret_bool h3.symm, HB0.out⟩
set_option maxHeartbeats 400000 in
theorem iGraphOk_nil (p : Int) (a : Option Addr) (c : Nat) (w : World) (hp : btw p 1 3000 = true) :
    Calls Tryd.prog 25 #[.agg #[.int .i64 p, .slice a 0 c]] w fun e w' => e = .returned (.bool true) ∧ Below w.heap.size w w' := by
  obtain ⟨p1, p2⟩ := btw_iff.1 hp
  clear hp
  go_enter Tryd.func25, Tryd.ntmps25
  go_wp2
  go_loopw [22] (fun i w' => i = .int .i64 0 ∧ w' = w.alloc (.cells #[.int .i64 p, .slice a 0 c] 29)) (fun i _ => 0)
  case atStart => exact ⟨rfl, rfl⟩
  case round =>
    obtain ⟨rfl, rfl⟩ := hrel
    go_wp2
    go_ret
    exact ⟨rfl, (Below.refl _ _).alloc (Nat.le_refl _) _⟩
set_option maxHeartbeats 400000 in
theorem iGraphOk_no (p : Int) (a : Option Addr) (n c : Nat) (w : World) (hp : p < 1 ∨ p > 3000 ∨ (n : Int) > 6000) :
    Calls Tryd.prog 25 #[.agg #[.int .i64 p, .slice a n c]] w fun e w' => e = .returned (.bool false) ∧ Below w.heap.size w w' := by
  by_cases h1 : p < 1
  · clear hp
    go_enter Tryd.func25, Tryd.ntmps25
    go_wp2
    go_ret
    exact ⟨rfl, (Below.refl _ _).alloc (Nat.le_refl _) _⟩
  · by_cases h2 : p > 3000
    · clear hp
      go_enter Tryd.func25, Tryd.ntmps25
      go_wp2
      go_ret
      exact ⟨rfl, (Below.refl _ _).alloc (Nat.le_refl _) _⟩
    · have h3 : (n : Int) > 6000 := by omega
      clear hp
      go_enter Tryd.func25, Tryd.ntmps25
      go_wp2
      go_ret
      exact ⟨rfl, (Below.refl _ _).alloc (Nat.le_refl _) _⟩
theorem iGraphOk_ok (p : Int) (es : List Ed) (a : Option Addr) (c : Nat) (w : World) (hl : KidsG w 0 a es) :
    Calls Tryd.prog 25 #[.agg #[.int .i64 p, .slice a es.length c]] w fun e w' => e = .returned (.bool (gokB p es)) ∧ Below w.heap.size w w' := by
  cases hp : btw p 1 3000
  · refine (iGraphOk_no p a es.length c w (by have := btw_not.1 hp; omega)).mono ?_
    rintro e w' ⟨rfl, hb⟩
    exact ⟨ret_bool (by simp [gokB, hp]), hb⟩
  · by_cases hn : es.length ≤ 6000
    · rcases hl with rfl | ⟨b, o, rfl, _, hl⟩
      · refine (iGraphOk_nil p a c w hp).mono ?_
        rintro e w' ⟨rfl, hb⟩
        exact ⟨ret_bool (by simp [gokB, hp]), hb⟩
      · refine (iGraphOk_of p es b o c w hp hn hl).mono ?_
        rintro e w' ⟨rfl, hb⟩
        exact ⟨ret_bool (by simp [gokB, hp, hn]), hb⟩
    · refine (iGraphOk_no p a es.length c w (by omega)).mono ?_
      rintro e w' ⟨rfl, hb⟩
      exact ⟨ret_bool (by simp [gokB, hp, hn]), hb⟩
end Go.Proofs.YtpikgigfeifliaaDoor
