/-
  CONTRACTS of both GraphOks, at every graph.
  CONTRACTS of the strings.Builder's copyCheck, WriteByte, WriteString, Len, String at this program.
-/
import Derived.Test.YtedfnadgmhjojaaGreatDoorMGok
import Derived.Test.YtedfnadgmhjojaaGreatDoorMPexb
import Derived.Test.YtedfnadgmhjojaaGreatDoorMSize
import Derived.Shelf.Strings.BuilderK
namespace Go.Proofs.YtedfnadgmhjojaaGreatDoor
open Go.RowKit

set_option maxHeartbeats 400000 in
theorem sGraphOk_nil (p : Int) (a : Option Addr) (c : Nat) (w : World) (hp : btw p 1 3000 = true) :
    Calls Tryz.prog 10 #[.agg #[.int .i64 p, .slice a 0 c]] w fun e w' => e = .returned (.bool true) ∧ Below w.heap.size w w' := by
 obtain ⟨p1, p2⟩ := btw_iff.1 hp
 go_enter Tryz.func10, Tryz.ntmps10
 go_wp2_with (go_at_call 24; refine (between_any _ _ _ _).mono ?_; rintro e w' ⟨rfl, rfl⟩)
 go_loopw [3] (fun i w' => i = .int .i64 0 ∧ w' = w.alloc (.cells #[.int .i64 p, .slice a 0 c] 29)) (fun i _ => 0)
 case atStart => exact ⟨rfl, rfl⟩
 case round =>
  obtain ⟨rfl, rfl⟩ := hrel
  go_wp2
  go_ret
  exact ⟨rfl, (Below.refl _ _).alloc (Nat.le_refl _) _⟩
set_option maxHeartbeats 400000 in
theorem sGraphOk_p (p : Int) (a : Option Addr) (n c : Nat) (w : World) (hp : btw p 1 3000 = false) :
    Calls Tryz.prog 10 #[.agg #[.int .i64 p, .slice a n c]] w fun e w' => e = .returned (.bool false) ∧ Below w.heap.size w w' := by
 go_enter Tryz.func10, Tryz.ntmps10
 go_wp2_with (go_at_call 24; refine (between_any _ _ _ _).mono ?_; rintro e w' ⟨rfl, rfl⟩)
 go_ret
 exact ⟨rfl, (Below.refl _ _).alloc (Nat.le_refl _) _⟩
set_option maxHeartbeats 400000 in
theorem sGraphOk_n (p : Int) (a : Option Addr) (n c : Nat) (w : World) (hp : btw p 1 3000 = true) (hn : (n : Int) > 6000) :
    Calls Tryz.prog 10 #[.agg #[.int .i64 p, .slice a n c]] w fun e w' => e = .returned (.bool false) ∧ Below w.heap.size w w' := by
 go_enter Tryz.func10, Tryz.ntmps10
 go_wp2_with (go_at_call 24; refine (between_any _ _ _ _).mono ?_; rintro e w' ⟨rfl, rfl⟩)
 go_ret
 exact ⟨rfl, (Below.refl _ _).alloc (Nat.le_refl _) _⟩
theorem sGraphOk_ok (p : Int) (es : List Ed) (a : Option Addr) (c : Nat) (w : World) (hl : KidsG w 0 a es) :
    Calls Tryz.prog 10 #[.agg #[.int .i64 p, .slice a es.length c]] w fun e w' => e = .returned (.bool (gokB p es)) ∧ Below w.heap.size w w' := by
 cases hp : btw p 1 3000
 ·refine (sGraphOk_p p a es.length c w hp).mono ?_
  rintro e w' ⟨rfl, hb⟩
  exact ⟨ret_bool (by simp [gokB, hp]), hb⟩
 ·by_cases hn : es.length ≤ 6000
  ·rcases hl with rfl | ⟨b, o, rfl, _, hl⟩
   ·refine (sGraphOk_nil p a c w hp).mono ?_
    rintro e w' ⟨rfl, hb⟩
    exact ⟨ret_bool (by simp [gokB, hp]), hb⟩
   ·refine (sGraphOk_of p es b o c w hp hn hl).mono ?_
    rintro e w' ⟨rfl, hb⟩
    exact ⟨ret_bool (by simp [gokB, hp, hn]), hb⟩
  ·refine (sGraphOk_n p a es.length c w hp (by omega)).mono ?_
   rintro e w' ⟨rfl, hb⟩
   exact ⟨ret_bool (by simp [gokB, hp, hn]), hb⟩

set_option maxHeartbeats 1600000 in
theorem iGraphOk_of (p : Int) (es : List Ed) (b off c : Nat) (w : World) (hp : btw p 1 3000 = true) (hn : es.length ≤ 6000) (hl : LiesG w 0 es b off) :
    Calls Tryz.prog 15 #[.agg #[.int .i64 p, .slice (some ⟨b, off, none⟩) es.length c]] w fun e w' => e = .returned (.bool (es.all (edB p))) ∧ Below w.heap.size w w' := by
 have HL := mkHid hl
 clear hl
 obtain ⟨p1, p2⟩ := btw_iff.1 hp
 clear hp
 have hn' : ¬ (es.length : Int) > 6000 := by omega
 go_enter Tryz.func15, Tryz.ntmps15
 go_wp2
 go_loopw [22] (fun i w' => ∃ (k : Nat), k ≤ es.length ∧ i = .int .i64 k ∧ (es.take k).all (edB p) = true ∧ Below (w.heap.size + 1) (w.alloc (.cells #[.int .i64 p, .slice (some ⟨b, off, none⟩) es.length c] 29)) w') (fun i _ => es.length - (intOf i).toNat)
 case atStart => exact ⟨0, Nat.zero_le _, rfl, by simp, Below.refl _ _⟩
 case round =>
  obtain ⟨k, hk, rfl, hall, hbel⟩ := hrel
  have q0 : wr.cell? ⟨w.heap.size, 0, none⟩ = some (.int .i64 p) := (hbel.cell (p := ⟨w.heap.size, 0, none⟩) (by simp)).trans (by simp [go_sem])
  have q1 : wr.cell? ⟨w.heap.size, 1, none⟩ = some (.slice (some ⟨b, off, none⟩) es.length c) := (hbel.cell (p := ⟨w.heap.size, 1, none⟩) (by simp)).trans (by simp [go_sem])
  have HB := mkHid hbel
  have hb0 : Below w.heap.size w wr := ((Below.refl _ _).alloc (Nat.le_refl _) _).trans (hbel.mono (Nat.le_succ _))
  have hsz : w.heap.size + 1 ≤ wr.heap.size := by have := hbel.size; simpa using this
  have hsy : w.heap.size < wr.heap.size := by omega
  have hsn : w.heap.size ≠ wr.heap.size := by omega
  have HB0 := mkHid hb0
  have HA := mkHid hall
  clear hbel hall hb0
  by_cases hlt : k < es.length
  ·obtain ⟨x, hx⟩ : ∃ x, es[k]? = some x := ⟨_, List.getElem?_eq_getElem hlt⟩
   have HX := mkHid hx
   obtain ⟨xf, xt, xe, xy, ⟨xk, xs, xm, xkk⟩⟩ := x
   obtain ⟨xa, xc, hc0, hc1, hc2, hc3, hc4, hc5, hc6, hc7, hs, hkn, hkids⟩ := (HL.out.below (Nat.zero_le _) HB0.out).at hx
   clear hx hs hkn hkids
   have AN : edB p ⟨xf, xt, xe, xy, .node xk xs xm xkk⟩ = false → es.all (edB p) = false := fun h => all_no HX.out h
   have AN := mkHid AN
   have AB0 := mkHid (HB0.out.alloc HB0.out.size (.cells #[.int .i64 xf, .int .i64 xt, .int .i64 xe, .bool xy, .int .i64 xk, .string xs, .int .i64 xm, .slice xa xkk.length xc] 40))
   have AB := mkHid (HB.out.alloc hsz (.cells #[.int .i64 xf, .int .i64 xt, .int .i64 xe, .bool xy, .int .i64 xk, .string xs, .int .i64 xm, .slice xa xkk.length xc] 40))
   go_wp2_with fail
   refine (isPoint_any _ _ _ _ _ _).mono ?_
   rintro e w1 ⟨rfl, hb1⟩
   have u0 : w1.cell? ⟨w.heap.size, 0, none⟩ = some (.int .i64 p) := (hb1.cell (p := ⟨w.heap.size, 0, none⟩) (by simp; omega)).trans ((((Below.refl wr.heap.size wr).alloc (Nat.le_refl _) _).cell (p := ⟨w.heap.size, 0, none⟩) hsy).trans q0)
   have u1 : w1.cell? ⟨w.heap.size, 1, none⟩ = some (.slice (some ⟨b, off, none⟩) es.length c) := (hb1.cell (p := ⟨w.heap.size, 1, none⟩) (by simp; omega)).trans ((((Below.refl wr.heap.size wr).alloc (Nat.le_refl _) _).cell (p := ⟨w.heap.size, 1, none⟩) hsy).trans q1)
   have v1 : w1.cell? ⟨wr.heap.size, 1, none⟩ = some (.int .i64 xt) := (hb1.cell (p := ⟨wr.heap.size, 1, none⟩) (by simp)).trans (by simp [go_sem])
   have v2 : w1.cell? ⟨wr.heap.size, 2, none⟩ = some (.int .i64 xe) := (hb1.cell (p := ⟨wr.heap.size, 2, none⟩) (by simp)).trans (by simp [go_sem])
   have B1 := mkHid (AB0.out.trans (hb1.mono AB0.out.size))
   have C1 := mkHid (AB.out.trans (hb1.mono (by simp; omega)))
   have S1 := mkHid hb1.size
   clear hb1 hc0 hc1 hc2 hc3 hc4 hc5 hc6 hc7 AB0 AB q0 q1
   cases h1 : btw xf 0 (p - 1)
   ·have e1 := mkHid (AN.out (by simp [edB, h1]))
    go_wp2
    go_ret
    exact ⟨ret_bool e1.out.symm, B1.out⟩
   ·go_wp2_with fail
    refine (isPoint_any _ _ _ _ _ _).mono ?_
    rintro e w2 ⟨rfl, hb2⟩
    have hs1 : w.heap.size + 1 ≤ w1.heap.size := by have := C1.out.size; simpa using this
    have t2 : w2.cell? ⟨wr.heap.size, 2, none⟩ = some (.int .i64 xe) := (hb2.cell (p := ⟨wr.heap.size, 2, none⟩) (by have := S1.out; simp at this; simp; omega)).trans v2
    have B2 := mkHid (B1.out.trans (hb2.mono B1.out.size))
    have C2 := mkHid (C1.out.trans (hb2.mono hs1))
    clear hb2 hs1 v1 v2 u0 u1 S1
    cases h2 : btw xt 0 (p - 1)
    ·have e1 := mkHid (AN.out (by simp [edB, h2]))
     go_wp2
     go_ret
     exact ⟨ret_bool e1.out.symm, B2.out⟩
    ·by_cases h3 : xe < 1
     ·have e1 := mkHid (AN.out (by have : btw xe 1 7 = false := btw_not.2 (by omega)
                                   simp [edB, this]))
      go_wp2
      go_ret
      exact ⟨ret_bool e1.out.symm, B2.out⟩
     ·by_cases h4 : xe > 7
      ·have e1 := mkHid (AN.out (by have : btw xe 1 7 = false := btw_not.2 (by omega)
                                    simp [edB, this]))
       go_wp2
       go_ret
       exact ⟨ret_bool e1.out.symm, B2.out⟩
      ·have e1 := mkHid (all_take HX.out HA.out (by have : btw xe 1 7 = true := btw_iff.2 (by omega)
                                                    simp [edB, h1, h2, this]))
       go_wp2
       go_roundw
       case rel => exact ⟨k + 1, by omega, by go_num, e1.out, C2.out⟩
       case measure => simp [intOf]; omega
  ·go_wp2
   go_ret
   have h3 := HA.out
   rw [List.take_of_length_le (by omega)] at h3
   exact ⟨ret_bool h3.symm, HB0.out⟩
set_option maxHeartbeats 400000 in
theorem iGraphOk_nil (p : Int) (a : Option Addr) (c : Nat) (w : World) (hp : btw p 1 3000 = true) :
    Calls Tryz.prog 15 #[.agg #[.int .i64 p, .slice a 0 c]] w fun e w' => e = .returned (.bool true) ∧ Below w.heap.size w w' := by
 obtain ⟨p1, p2⟩ := btw_iff.1 hp
 clear hp
 go_enter Tryz.func15, Tryz.ntmps15
 go_wp2
 go_loopw [22] (fun i w' => i = .int .i64 0 ∧ w' = w.alloc (.cells #[.int .i64 p, .slice a 0 c] 29)) (fun i _ => 0)
 case atStart => exact ⟨rfl, rfl⟩
 case round =>
  obtain ⟨rfl, rfl⟩ := hrel
  go_wp2
  go_ret
  exact ⟨rfl, (Below.refl _ _).alloc (Nat.le_refl _) _⟩
set_option maxHeartbeats 400000 in
theorem iGraphOk_no (p : Int) (a : Option Addr) (n c : Nat) (w : World) (hp : p < 1 ∨ p > 3000 ∨ (n : Int) > 6000) :
    Calls Tryz.prog 15 #[.agg #[.int .i64 p, .slice a n c]] w fun e w' => e = .returned (.bool false) ∧ Below w.heap.size w w' := by
 by_cases h1 : p < 1
 ·clear hp
  go_enter Tryz.func15, Tryz.ntmps15
  go_wp2
  go_ret
  exact ⟨rfl, (Below.refl _ _).alloc (Nat.le_refl _) _⟩
 ·by_cases h2 : p > 3000
  ·clear hp
   go_enter Tryz.func15, Tryz.ntmps15
   go_wp2
   go_ret
   exact ⟨rfl, (Below.refl _ _).alloc (Nat.le_refl _) _⟩
  ·have h3 : (n : Int) > 6000 := by omega
   clear hp
   go_enter Tryz.func15, Tryz.ntmps15
   go_wp2
   go_ret
   exact ⟨rfl, (Below.refl _ _).alloc (Nat.le_refl _) _⟩
theorem iGraphOk_ok (p : Int) (es : List Ed) (a : Option Addr) (c : Nat) (w : World) (hl : KidsG w 0 a es) :
    Calls Tryz.prog 15 #[.agg #[.int .i64 p, .slice a es.length c]] w fun e w' => e = .returned (.bool (gokB p es)) ∧ Below w.heap.size w w' := by
 cases hp : btw p 1 3000
 ·refine (iGraphOk_no p a es.length c w (by have := btw_not.1 hp; omega)).mono ?_
  rintro e w' ⟨rfl, hb⟩
  exact ⟨ret_bool (by simp [gokB, hp]), hb⟩
 ·by_cases hn : es.length ≤ 6000
  ·rcases hl with rfl | ⟨b, o, rfl, _, hl⟩
   ·refine (iGraphOk_nil p a c w hp).mono ?_
    rintro e w' ⟨rfl, hb⟩
    exact ⟨ret_bool (by simp [gokB, hp]), hb⟩
   ·refine (iGraphOk_of p es b o c w hp hn hl).mono ?_
    rintro e w' ⟨rfl, hb⟩
    exact ⟨ret_bool (by simp [gokB, hp, hn]), hb⟩
  ·refine (iGraphOk_no p a es.length c w (by omega)).mono ?_
   rintro e w' ⟨rfl, hb⟩
   exact ⟨ret_bool (by simp [gokB, hp, hn]), hb⟩
end Go.Proofs.YtedfnadgmhjojaaGreatDoor
namespace Go.Proofs.YtedfnadgmhjojaaGreatDoor
open Go.RowKit

theorem Tryz.bLies46 : liesAt Tryz.prog Tryz.prog.depth 46 (2 / Tryz.prog.cellsOf 46) 0 46 1 = true := by kernel_rfl
set_option maxRecDepth 100000 in
set_option maxHeartbeats 1000000 in
theorem bCheck_fresh (b : Nat) (w : World) (h0 : w.cell? ⟨b, 0, none⟩ = some (.pointer none)) (hsh : w.shape? b = some (46, 2)) (hfz : w.frozen? ⟨b, 0, none⟩ = false) :
    Calls Tryz.prog 33 #[.pointer (some ⟨b, 0, none⟩)] w fun e w' => e = .returned (.tuple #[]) ∧ w' = w.setCell ⟨b, 0, none⟩ (.pointer (some ⟨b, 0, none⟩)) := by
 obtain ⟨j, hj, hjs⟩ := Option.map_eq_some_iff.1 Tryz.info46
 have k1 := Lib.run_to_unsafe (P := Tryz.prog) (src := 44) (dst := 79) (w := w) ⟨b, 0, none⟩ Tryz.underlying44 Tryz.underlying79 hj (by rw [hjs]; decide) hsh (Nat.zero_lt_succ 1)
 have k2 := Lib.run_from_unsafe (P := Tryz.prog) (src := 79) (dst := 44) (w := w) ⟨b, 0, none⟩ Tryz.underlying79 Tryz.underlying44 hj hsh Tryz.bLies46
 have k3 := noEscape_run (.pointer (some ⟨b, 0, none⟩)) w
 go_enter Tryz.func33, Tryz.ntmps33
 go_wp2
 go_end0
 exact ⟨rfl, rfl⟩
/-- copyCheck at a builder, fresh or used. -/
theorem bCheck_any (B b : Nat) (bs : List Value) (w : World) (h : Lib.IsBuilderF 46 5 B b bs w) :
    Calls Tryz.prog 33 #[.pointer (some ⟨b, 0, none⟩)] w fun e w' => e = .returned (.tuple #[]) ∧ (Lib.BuilderAtF 46 5 B b (.pointer (some ⟨b, 0, none⟩)) bs w' ∧ Below B w w' ∧ Lib.OthersKept 5 (some b) w w') := by
 rcases h with h | h
 ·refine (bCheck_fresh b w h.cell0 h.shape h.frozen0).mono ?_
  rintro e w' ⟨rfl, rfl⟩
  exact ⟨rfl, h.used _, (Below.refl B w).setCell (p := ⟨b, 0, none⟩) h.1 _, (Lib.OthersKept.refl _ _ w).setCell ⟨b, 0, none⟩ rfl _⟩
 ·refine (check_used b w h.cell0).mono ?_
  rintro e w' ⟨rfl, rfl⟩
  exact ⟨rfl, h, Below.refl B _, Lib.OthersKept.refl _ _ _⟩

set_option maxRecDepth 100000 in
set_option maxHeartbeats 2000000 in
theorem writeByte_any (B b : Nat) (bs : List Value) (c : Int) (w : World) (h : Lib.IsBuilderF 46 5 B b bs w) (hlen : bs.length + 1 ≤ 140737488355328) (hBw : B ≤ w.heap.size) :
    Calls Tryz.prog 20 #[.pointer (some ⟨b, 0, none⟩), .int .u8 c] w fun e w' => e = .returned .nilIface ∧ (Lib.BuilderAtF 46 5 B b (.pointer (some ⟨b, 0, none⟩)) (bs ++ [.int .u8 c]) w' ∧ Below B w w' ∧ Lib.OthersKept 5 (some b) w w') := by
 obtain ⟨i0, hi, hz⟩ := Option.map_eq_some_iff.1 Tryz.info5
 simp only [Prod.mk.injEq] at hz
 obtain ⟨hz0, hz1, hz2⟩ := hz
 go_enter Tryz.func20, Tryz.ntmps20
 go_wp2_with (go_at_call 33; refine (bCheck_any B b bs _ h).mono ?_)
 rintro e w1 ⟨rfl, h1, hb1, hk1⟩
 obtain ⟨hB, v, hbk, hown, hne⟩ := h1
 have c0 : w1.cell? ⟨b, 0, none⟩ = some (.pointer (some ⟨b, 0, none⟩)) := by rw [Lib.cell_of_heap hbk]; rfl
 have c1 : w1.cell? ⟨b, 1, none⟩ = some v := by rw [Lib.cell_of_heap hbk]; rfl
 go_wp2_with (at_builtin; refine wpList_append_ownF _ rfl _ _ 35 rfl B 5 i0 (.int .u8 0) 1 1 Tryz.underlying35 hi hz0 hz1 hz2 rfl (by decide) _ _ _ rfl (hown.alloc _) ⟨w1.heap.size, 0, none⟩ 1 1 [.int .u8 c] rfl rfl ?c1 ?c2 ?c3 ?c4 ?c5 ?_)
 case c1 =>
  intro j u hj
  match j, hj with
  | 0, hj => simp at hj; subst hj; simp [Addr.add]
 case c2 => intro u hu; simp at hu; subst hu; rfl
 case c3 => unfold maxLen; omega
 case c4 => omega
 case c5 => have := hb1.size; simp; omega
 intro v' w2 hown' hgrow _
 have hlt : b < w1.heap.size := by
  rcases Nat.lt_or_ge b w1.heap.size with h' | h'
  ·exact h'
  ·simp [Array.getElem?_eq_none h'] at hbk
 have hb2 : w2.heap[b]? = some (.cells #[.pointer (some ⟨b, 0, none⟩), v] 46 (0, 0)) := by
  rw [hgrow.block b (by simp; omega) (fun e => hne e.symm), Lib.alloc_old w1 _ b hlt]
  exact hbk
 have d1 : w2.cell? ⟨b, 1, none⟩ = some v := by rw [Lib.cell_of_heap hb2]; rfl
 have f1 : w2.frozen? ⟨b, 1, none⟩ = false := Lib.frozen_of_heap hb2 1
 obtain ⟨g, cap, rfl⟩ : ∃ g cap, v' = .slice (some ⟨g, 0, none⟩) (bs.length + 1) cap := by
  rcases hown'.2 with ⟨_, h0⟩ | ⟨g, cap, cur, fz, hv, _⟩
  ·omega
  ·exact ⟨g, cap, hv⟩
 go_wp2
 go_ret
 refine ⟨rfl, ?_, ?_, ((hk1.alloc _).grown hgrow (Lib.ownsRowF_kind (hown.alloc _))).setCell ⟨b, 1, none⟩ rfl _⟩
 ·exact Lib.BuilderAtF.put (T := 46) (e := 5) hB hb2 (bs' := bs ++ [.int .u8 c]) (by simpa using hown') (by decide)
 ·exact ((hb1.alloc (by have := hb1.size; omega) _).grown hgrow (by have := hb1.size; simp; omega) (fun k hk => (hown.lt k hk).1)).setCell (p := ⟨b, 1, none⟩) hB _

set_option maxRecDepth 100000 in
set_option maxHeartbeats 2000000 in
theorem bWriteString_any (B b : Nat) (bs : List Value) (s : ByteArray) (w : World) (h : Lib.IsBuilderF 46 5 B b bs w) (hlen : bs.length + s.size ≤ 140737488355328) (hBw : B ≤ w.heap.size) :
    Calls Tryz.prog 16 #[.pointer (some ⟨b, 0, none⟩), .string s] w fun e w' => e = .returned (.tuple #[.int .i64 s.size, .nilIface]) ∧ (Lib.BuilderAtF 46 5 B b (.pointer (some ⟨b, 0, none⟩)) (bs ++ Lib.strCells s) w' ∧ Below B w w' ∧ Lib.OthersKept 5 (some b) w w') := by
 obtain ⟨i0, hi, hz⟩ := Option.map_eq_some_iff.1 Tryz.info5
 simp only [Prod.mk.injEq] at hz
 obtain ⟨hz0, hz1, hz2⟩ := hz
 go_enter Tryz.func16, Tryz.ntmps16
 go_wp2_with (go_at_call 33; refine (bCheck_any B b bs _ h).mono ?_)
 rintro e w1 ⟨rfl, h1, hb1, hk1⟩
 obtain ⟨hB, v, hbk, hown, hne⟩ := h1
 have c0 : w1.cell? ⟨b, 0, none⟩ = some (.pointer (some ⟨b, 0, none⟩)) := by rw [Lib.cell_of_heap hbk]; rfl
 have c1 : w1.cell? ⟨b, 1, none⟩ = some v := by rw [Lib.cell_of_heap hbk]; rfl
 go_wp2_with (at_builtin; refine Lib.wpList_append_own_stringF _ rfl _ _ 35 9 rfl B 5 i0 Tryz.underlying35 Tryz.underlying9 hi hz0 hz1 hz2 _ _ _ rfl hown s rfl ?c3 ?c4 ?c5 ?_)
 case c3 => unfold maxLen; omega
 case c4 => omega
 case c5 => have := hb1.size; omega
 intro v' w2 hown' hgrow _
 have hlt : b < w1.heap.size := by
  rcases Nat.lt_or_ge b w1.heap.size with h' | h'
  ·exact h'
  ·simp [Array.getElem?_eq_none h'] at hbk
 have hb2 : w2.heap[b]? = some (.cells #[.pointer (some ⟨b, 0, none⟩), v] 46 (0, 0)) := by
  rw [hgrow.block b hlt (fun e => hne e.symm)]
  exact hbk
 have d1 : w2.cell? ⟨b, 1, none⟩ = some v := by rw [Lib.cell_of_heap hb2]; rfl
 have f1 : w2.frozen? ⟨b, 1, none⟩ = false := Lib.frozen_of_heap hb2 1
 obtain ⟨ao, n', cap, rfl⟩ : ∃ ao n' cap, v' = .slice ao n' cap := by
  rcases hown'.2 with ⟨hv, _⟩ | ⟨g, cap, cur, fz, hv, _⟩
  ·exact ⟨_, _, _, hv⟩
  ·exact ⟨_, _, _, hv⟩
 go_wp2
 go_ret2
 refine ⟨rfl, ?_, ?_, (hk1.grown hgrow (Lib.ownsRowF_kind hown)).setCell ⟨b, 1, none⟩ rfl _⟩
 ·exact Lib.BuilderAtF.put (T := 46) (e := 5) hB hb2 (bs' := bs ++ Lib.strCells s) (by simpa [Lib.strCells_length] using hown') (by decide)
 ·exact (hb1.grown hgrow (by have := hb1.size; omega) (fun k hk => (hown.lt k hk).1)).setCell (p := ⟨b, 1, none⟩) hB _
end Go.Proofs.YtedfnadgmhjojaaGreatDoor
