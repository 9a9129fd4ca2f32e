/-
  CONTRACT of the program's fits.
-/
import Derived.Test.YtedfnadgmhjojaaGreatDoorMFormb
namespace Go.Proofs.YtedfnadgmhjojaaGreatDoor
open Go.RowKit
open Pl

/-- The groups that the kids of a node must have: as many as there are of one, then those given. -/
def wants (r : Rw) (n : Nat) : List Int := List.replicate (n - r.kids.length) r.many ++ r.kids
def headOk (r : Rw) (s : ByteArray) (m g : Int) (n : Nat) : Bool :=
 decide (r.grp = g ∧ r.least ≤ m ∧ m ≤ r.most) && decide (r.named = nameB s ∧ (r.named = true ∨ s.size = 0)) && decide (r.kids.length ≤ n ∧ (n = r.kids.length ∨ r.many ≠ 0))
mutual
def fitsT : T → Int → Bool
 | .node k s m kk, g => headOk (rowI k) s m g kk.length && fitsL kk (wants (rowI k) kk.length)
def fitsL : List T → List Int → Bool
 | [], _ => true
 | t :: r, ws => fitsT t (ws.headD 0) && fitsL r ws.tail
end
def FitOk (t : T) : Prop := match t with
 | .node k s m kk => ∀ (a : Option Addr) (c : Nat) (g : Int) (w : World), s.size ≤ maxLen → kk.length ≤ maxLen → Kids w 0 a kk →
   Calls Tryz.prog 51 #[.agg #[.int .i64 k, .string s, .int .i64 m, .slice a kk.length c], .int .i64 g] w fun e w' => e = .returned (.bool (fitsT t g)) ∧ Below w.heap.size w w'

def Six (w : World) (b : Nat) (r : Rw) (a : Option Addr) (c : Nat) : Prop :=
 w.cell? ⟨b, 0, none⟩ = some (.int .i64 r.grp) ∧ w.cell? ⟨b, 1, none⟩ = some (.bool r.named) ∧ w.cell? ⟨b, 2, none⟩ = some (.int .i64 r.least) ∧ w.cell? ⟨b, 3, none⟩ = some (.int .i64 r.most) ∧ w.cell? ⟨b, 4, none⟩ = some (.int .i64 r.many) ∧ w.cell? ⟨b, 5, none⟩ = some (.slice a r.kids.length c)
theorem Six.below {w w' : World} {b : Nat} {r : Rw} {a : Option Addr} {c : Nat} (h : Six w b r a c) (hb : Below w.heap.size w w') : Six w' b r a c := by
 obtain ⟨h0, h1, h2, h3, h4, h5⟩ := h
 have hlt := World.block_lt_of_cell? w _ h0
 have hc : ∀ q, w'.cell? ⟨b, q, none⟩ = w.cell? ⟨b, q, none⟩ := fun q => hb.cell (p := ⟨b, q, none⟩) hlt
 exact ⟨(hc _).trans h0, (hc _).trans h1, (hc _).trans h2, (hc _).trans h3, (hc _).trans h4, (hc _).trans h5⟩
theorem Grps.below {w w' : World} {a : Option Addr} {l : List Int} (h : Grps w a l) (hb : Below w.heap.size w w') : Grps w' a l := by
 rcases h with h | ⟨b, e, h⟩
 ·exact .inl h
 ·refine .inr ⟨b, e, fun i x hx => ?_⟩
  have h0 := h i x hx
  exact (hb.cell (p := ⟨b, i, none⟩) (World.block_lt_of_cell? w _ h0)).trans h0
theorem toList_empty (s : ByteArray) : s.toList.isEmpty = decide (s.size = 0) := by
 have h := Lib.size_eq s
 rw [ByteArray.toList_eq]
 cases e : s.data.toList with
 | nil =>
   rw [e] at h
   rw [decide_eq_true (by simpa using h)]
   rfl
 | cons x r =>
   rw [e] at h
   rw [decide_eq_false (by rw [h]; simp)]
   rfl
theorem rw0_kids (t : Nat) : (rw0 t).kids.length ≤ 3 := by
 unfold rw0
 split <;> decide
theorem rowI_kids (k : Int) : (rowI k).kids.length ≤ 3 := rw0_kids _
theorem fitsL_iff : ∀ (kk : List T) (ws : List Int), fitsL kk ws = true ↔ ∀ (j : Nat) (t : T), kk[j]? = some t → fitsT t (ws[j]?.getD 0) = true
 | [], ws => by simp [fitsL]
 | x :: r, ws => by
   simp only [fitsL, Bool.and_eq_true, fitsL_iff r ws.tail]
   constructor
   ·rintro ⟨h0, h1⟩ j t hj
    cases j with
    | zero =>
      simp at hj
      subst hj
      cases ws <;> simpa using h0
    | succ j =>
      have := h1 j t (by simpa using hj)
      cases ws <;> simpa using this
   ·intro h
    refine ⟨?_, fun j t hj => ?_⟩
    ·have := h 0 x rfl
     cases ws <;> simpa using this
    ·have := h (j + 1) t (by simpa using hj)
     cases ws <;> simpa using this
theorem wants_get (r : Rw) (n j : Nat) : ((wants r n)[j]?).getD 0 = if j < n - r.kids.length then r.many else (r.kids[j - (n - r.kids.length)]?).getD 0 := by
 unfold wants
 split
 ·rw [List.getElem?_append_left (by simpa using ‹_›)]
  simp [*]
 ·rw [List.getElem?_append_right (by simp; omega)]
  simp

set_option maxRecDepth 100000 in
set_option maxHeartbeats 3200000 in
theorem fits_ok (t : T) : FitOk t := by
 refine T.induct ?_ t
 intro k s m kk IH a c g w hs hn hk
 have HN := mkHid (And.intro hs hn)
 have HI := mkHid IH
 have HK := mkHid hk
 have B0 := mkHid ((Below.refl w.heap.size w).alloc (Nat.le_refl _) (.cells #[.int .i64 k, .string s, .int .i64 m, .slice a kk.length c] 38))
 have F0 := mkHid (Four.new w k s m a kk.length c 38)
 have HF := mkHid (show fitsT (.node k s m kk) g = (headOk (rowI k) s m g kk.length && fitsL kk (wants (rowI k) kk.length)) by simp only [fitsT])
 have hrk := rowI_kids k
 have HQ := mkHid (fun W => isName_any s W hs)
 generalize hq : nameB s = q at HQ
 have HQ' := mkHid hq
 clear hs hn IH hk hq
 go_enter Tryz.func51, Tryz.ntmps51
 go_wp2_with fail
 refine (formOf_any k _).mono ?_
 rintro e w1 ⟨⟨ty, v, f, rfl, hm, hcf, hrow⟩, rfl⟩
 generalize rowI k = r at hrow HF hrk
 have H1 := mkHid hm
 have H2 := mkHid hcf
 have H3 := mkHid hrow
 clear hm hcf hrow
 go_wp2
 rw [H1.out, Result.andThen_ok]
 rw [show ∀ W, Sem.run Tryz.prog (callFunc (f, v).fst #[(f, v).snd]) W = .ok (.enter f #[v]) W from H2.out, Oper.upon_enter]
 refine (H3.out _).mono ?_
 rintro e w1 ⟨⟨ra, rc, rfl, hg⟩, hb1⟩
 have B1 := mkHid (below_step B0.out hb1)
 have F1 := mkHid (F0.out.below hb1)
 have G1 := mkHid hg
 clear hg hb1 F0 B0 H1 H2 H3
 obtain ⟨rg, rn, rl, rm, ry, rk⟩ := r
 obtain ⟨p0, p1, p2, p3⟩ := F1.out
 simp only at G1 HF hrk ⊢
 have hlt1 : w.heap.size < w1.heap.size := World.block_lt_of_cell? w1 _ p0
 have A1 := mkHid ((Below.refl w1.heap.size w1).alloc (Nat.le_refl _) (.cells #[.int .i64 rg, .bool rn, .int .i64 rl, .int .i64 rm, .int .i64 ry, .slice ra rk.length rc] 112))
 have S1 := mkHid (show Six (w1.alloc (.cells #[.int .i64 rg, .bool rn, .int .i64 rl, .int .i64 rm, .int .i64 ry, .slice ra rk.length rc] 112)) w1.heap.size ⟨rg, rn, rl, rm, ry, rk⟩ ra rc from ⟨by simp [go_sem], by simp [go_sem], by simp [go_sem], by simp [go_sem], by simp [go_sem], by simp [go_sem]⟩)
 by_cases c1 : rg = g ∧ rl ≤ m ∧ m ≤ rm
 ·obtain ⟨rfl, c2, c3⟩ := c1
  go_wp2_with fail
  have B2 := mkHid (below_step B1.out A1.out)
  have F2 := mkHid (F1.out.below A1.out)
  have G2 := mkHid (G1.out.below A1.out)
  clear F1 B1 G1 A1 p0 p1 p2 p3
  generalize w1.alloc (.cells #[.int .i64 rg, .bool rn, .int .i64 rl, .int .i64 rm, .int .i64 ry, .slice ra rk.length rc] 112) = w2 at *
  obtain ⟨p0, p1, p2, p3⟩ := F2.out
  obtain ⟨s0, s1, s2, s3, s4, s5⟩ := S1.out
  have l1 : w.heap.size < w2.heap.size := World.block_lt_of_cell? w2 _ p0
  have l2 : w1.heap.size < w2.heap.size := World.block_lt_of_cell? w2 _ s0
  have hund : undef = Value.tuple #[] := rfl
  cases rn
  ·cases q
   ·by_cases hz : s.size = 0
    ·have hse : s.toList.isEmpty = true := by rw [toList_empty, decide_eq_true hz]
     first | (go_region_with (first | (go_at_call 74; refine (HQ.out _).mono ?_; rintro e w3 ⟨rfl, hb3⟩; obtain ⟨hc, hf⟩ := bcell hb3; have z1 : w3.cell? ⟨w1.heap.size, 1, none⟩ = some (.bool false) := (hc _ 1 l2).trans s1; have z2 : w3.cell? ⟨w.heap.size, 1, none⟩ = some (.string s) := (hc _ 1 l1).trans p1; clear hc hf))) | fail
     all_goals clear hund
     all_goals
      (have D3 := mkHid (below_step (Below.refl w2.heap.size w2).drew hb3)
       have B3 := mkHid (below_step B2.out D3.out)
       have F3 := mkHid (F2.out.below D3.out)
       have S3 := mkHid (S1.out.below D3.out)
       have G3 := mkHid (G2.out.below D3.out)
       obtain ⟨P0, P1, P2, P3⟩ := F3.out
       obtain ⟨Z0, Z1, Z2, Z3, Z4, Z5⟩ := S3.out
       clear z1 z2 hb3 D3 B2 F2 S1 G2 p0 p1 p2 p3 s0 s1 s2 s3 s4 s5 l1 l2
       have hn : kk.length ≤ 2 ^ 63 - 1 := HN.out.2
       by_cases t1 : kk.length < rk.length
       ·have HW : Hid (fitsT (.node k s m kk) rg = false) := mkHid (by rw [HF.out]; simp [headOk]; omega)
        have u1 : (kk.length : Int) - (rk.length : Int) < 0 := by omega
        go_wp2
        go_ret
        exact ⟨by rw [HW.out]; rfl, B3.out⟩
       ·by_cases t2 : rk.length < kk.length ∧ ry = 0
        ·have HW : Hid (fitsT (.node k s m kk) rg = false) := mkHid (by rw [HF.out]; simp [headOk]; omega)
         have u1 : (0 : Int) < (kk.length : Int) - (rk.length : Int) := by omega
         obtain ⟨t2, rfl⟩ := t2
         go_wp2
         go_ret
         exact ⟨by rw [HW.out]; rfl, B3.out⟩
        ·have u1 : (0 : Int) ≤ (kk.length : Int) - (rk.length : Int) := by omega
         by_cases u2 : (0 : Int) < (kk.length : Int) - (rk.length : Int)
         ·have u3 : (ry == 0) = false := by simp; omega
          go_wp2
          go_loopw [69] (fun i w' => ∃ (j : Nat), j ≤ kk.length ∧ i = .int .i64 j ∧ (∀ j' t, j' < j → kk[j']? = some t → fitsT t (((wants ⟨rg, false, rl, rm, ry, rk⟩ kk.length)[j']?).getD 0) = true) ∧ Below w3.heap.size w3 w') (fun i _ => kk.length - (intOf i).toNat)
          case atStart => exact ⟨0, Nat.zero_le _, rfl, fun j' t h => by omega, Below.refl _ _⟩
          case round =>
           obtain ⟨j, hj, rfl, hall, hbel⟩ := hrel
           have HA := mkHid hall
           have HB := mkHid hbel
           clear hall hbel P0 P1 P2 P3 Z0 Z1 Z2 Z3 Z4 Z5
           by_cases hjl : j < kk.length
           ·obtain ⟨x, hx⟩ : ∃ x, kk[j]? = some x := ⟨_, List.getElem?_eq_getElem hjl⟩
            have HX := mkHid hx
            obtain ⟨Y0, Y1, Y2, Y3, Y4, Y5⟩ := S3.out.below HB.out
            clear Y0 Y1 Y2 Y3
            rcases (HK.out.below B3.out).below HB.out with h0 | ⟨b, o, hab, _, hll⟩
            ·rw [h0] at hx; simp at hx
            subst hab
            obtain ⟨xk, xs, xm, xkk⟩ := x
            obtain ⟨xa, xc, hc0, hc1, hc2, hc3, hxs, hkn, hkids⟩ := hll.at hx
            have hl9 : w1.heap.size < wr.heap.size := World.block_lt_of_cell? wr _ Y4
            have A9 := mkHid ((Below.refl wr.heap.size wr).alloc (Nat.le_refl _) (.cells #[.int .i64 xk, .string xs, .int .i64 xm, .slice xa xkk.length xc] 38))
            have HC := mkHid (fun y => HI.out _ (List.mem_of_getElem? hx) xa xc y _ hxs hkn (hkids.below A9.out))
            have HWG := mkHid (wants_get ⟨rg, false, rl, rm, ry, rk⟩ kk.length j)
            clear hx hxs hkn hkids hll
            by_cases hw : (kk.length : Int) - (rk.length : Int) ≤ (j : Int)
            ·obtain ⟨y, hy⟩ : ∃ y, rk[j - (kk.length - rk.length)]? = some y := ⟨_, List.getElem?_eq_getElem (by omega)⟩
             have HY : Hid (((wants ⟨rg, false, rl, rm, ry, rk⟩ kk.length)[j]?).getD 0 = y) := mkHid (by
              rw [HWG.out, if_neg (by simp; omega)]
              simp [hy])
             rcases G3.out.below HB.out with h0 | ⟨gb, e0, hcell⟩
             ·rw [h0] at hy; simp at hy
             subst e0
             have hcy := hcell _ _ hy
             obtain ⟨p, hp⟩ : ∃ p : Nat, p = j - (kk.length - rk.length) := ⟨_, rfl⟩
             rw [← hp] at hcy hy
             have hpi : (j : Int) - ((kk.length : Int) - (rk.length : Int)) = (p : Int) := by omega
             have hplt : p < rk.length := by omega
             have hl8 : gb < wr.heap.size := World.block_lt_of_cell? wr _ hcy
             clear hcell hy hp
             go_wp2_with fail
             refine (HC.out y).mono ?_
             rintro e w4 ⟨rfl, hb4⟩
             have HB4 := mkHid (below_step (below_step HB.out A9.out) hb4)
             generalize hbb : fitsT (.node xk xs xm xkk) y = bb
             have HBB := mkHid hbb
             clear hbb hb4
             cases bb
             ·have HW : Hid (fitsT (.node k s m kk) rg = false) := mkHid (by
                rw [HF.out]
                have : fitsL kk (wants ⟨rg, false, rl, rm, ry, rk⟩ kk.length) ≠ true := fun h => by
                 have := (fitsL_iff _ _).1 h j _ HX.out
                 rw [HY.out, HBB.out] at this
                 cases this
                simp [this])
              go_wp2
              go_ret
              exact ⟨by rw [HW.out]; rfl, below_step B3.out HB4.out⟩
             ·go_wp2
              go_roundw
              case rel =>
               refine ⟨j + 1, by omega, by go_num, fun j' t h ht => ?_, HB4.out⟩
               rcases (by omega : j' < j ∨ j' = j) with h | rfl
               ·exact HA.out j' t h ht
               ·have e := HX.out.symm.trans ht
                simp only [Option.some.injEq] at e
                subst e
                rw [HY.out]
                exact HBB.out
              case measure => simp [intOf]; omega
            ·have HY : Hid (((wants ⟨rg, false, rl, rm, ry, rk⟩ kk.length)[j]?).getD 0 = ry) := mkHid (by
               rw [HWG.out, if_pos (by simp; omega)])
             go_wp2_with fail
             refine (HC.out ry).mono ?_
             rintro e w4 ⟨rfl, hb4⟩
             have HB4 := mkHid (below_step (below_step HB.out A9.out) hb4)
             generalize hbb : fitsT (.node xk xs xm xkk) ry = bb
             have HBB := mkHid hbb
             clear hbb hb4
             cases bb
             ·have HW : Hid (fitsT (.node k s m kk) rg = false) := mkHid (by
                rw [HF.out]
                have : fitsL kk (wants ⟨rg, false, rl, rm, ry, rk⟩ kk.length) ≠ true := fun h => by
                 have := (fitsL_iff _ _).1 h j _ HX.out
                 rw [HY.out, HBB.out] at this
                 cases this
                simp [this])
              go_wp2
              go_ret
              exact ⟨by rw [HW.out]; rfl, below_step B3.out HB4.out⟩
             ·go_wp2
              go_roundw
              case rel =>
               refine ⟨j + 1, by omega, by go_num, fun j' t h ht => ?_, HB4.out⟩
               rcases (by omega : j' < j ∨ j' = j) with h | rfl
               ·exact HA.out j' t h ht
               ·have e := HX.out.symm.trans ht
                simp only [Option.some.injEq] at e
                subst e
                rw [HY.out]
                exact HBB.out
              case measure => simp [intOf]; omega
           ·have HW : Hid (fitsT (.node k s m kk) rg = true) := mkHid (by
              rw [HF.out]
              have : fitsL kk (wants ⟨rg, false, rl, rm, ry, rk⟩ kk.length) = true := (fitsL_iff _ _).2 fun j' t ht => HA.out j' t (by have := (List.getElem?_eq_some_iff.1 ht).1; omega) ht
              simp [this, headOk, HQ'.out, hz]
              omega)
            go_wp2
            go_ret
            exact ⟨by rw [HW.out]; rfl, below_step B3.out HB.out⟩
         ·go_wp2
          go_loopw [69] (fun i w' => ∃ (j : Nat), j ≤ kk.length ∧ i = .int .i64 j ∧ (∀ j' t, j' < j → kk[j']? = some t → fitsT t (((wants ⟨rg, false, rl, rm, ry, rk⟩ kk.length)[j']?).getD 0) = true) ∧ Below w3.heap.size w3 w') (fun i _ => kk.length - (intOf i).toNat)
          case atStart => exact ⟨0, Nat.zero_le _, rfl, fun j' t h => by omega, Below.refl _ _⟩
          case round =>
           obtain ⟨j, hj, rfl, hall, hbel⟩ := hrel
           have HA := mkHid hall
           have HB := mkHid hbel
           clear hall hbel P0 P1 P2 P3 Z0 Z1 Z2 Z3 Z4 Z5
           by_cases hjl : j < kk.length
           ·obtain ⟨x, hx⟩ : ∃ x, kk[j]? = some x := ⟨_, List.getElem?_eq_getElem hjl⟩
            have HX := mkHid hx
            obtain ⟨Y0, Y1, Y2, Y3, Y4, Y5⟩ := S3.out.below HB.out
            clear Y0 Y1 Y2 Y3
            rcases (HK.out.below B3.out).below HB.out with h0 | ⟨b, o, hab, _, hll⟩
            ·rw [h0] at hx; simp at hx
            subst hab
            obtain ⟨xk, xs, xm, xkk⟩ := x
            obtain ⟨xa, xc, hc0, hc1, hc2, hc3, hxs, hkn, hkids⟩ := hll.at hx
            have hl9 : w1.heap.size < wr.heap.size := World.block_lt_of_cell? wr _ Y4
            have A9 := mkHid ((Below.refl wr.heap.size wr).alloc (Nat.le_refl _) (.cells #[.int .i64 xk, .string xs, .int .i64 xm, .slice xa xkk.length xc] 38))
            have HC := mkHid (fun y => HI.out _ (List.mem_of_getElem? hx) xa xc y _ hxs hkn (hkids.below A9.out))
            have HWG := mkHid (wants_get ⟨rg, false, rl, rm, ry, rk⟩ kk.length j)
            clear hx hxs hkn hkids hll
            by_cases hw : (kk.length : Int) - (rk.length : Int) ≤ (j : Int)
            ·obtain ⟨y, hy⟩ : ∃ y, rk[j - (kk.length - rk.length)]? = some y := ⟨_, List.getElem?_eq_getElem (by omega)⟩
             have HY : Hid (((wants ⟨rg, false, rl, rm, ry, rk⟩ kk.length)[j]?).getD 0 = y) := mkHid (by
              rw [HWG.out, if_neg (by simp; omega)]
              simp [hy])
             rcases G3.out.below HB.out with h0 | ⟨gb, e0, hcell⟩
             ·rw [h0] at hy; simp at hy
             subst e0
             have hcy := hcell _ _ hy
             obtain ⟨p, hp⟩ : ∃ p : Nat, p = j - (kk.length - rk.length) := ⟨_, rfl⟩
             rw [← hp] at hcy hy
             have hpi : (j : Int) - ((kk.length : Int) - (rk.length : Int)) = (p : Int) := by omega
             have hplt : p < rk.length := by omega
             have hl8 : gb < wr.heap.size := World.block_lt_of_cell? wr _ hcy
             clear hcell hy hp
             go_wp2_with fail
             refine (HC.out y).mono ?_
             rintro e w4 ⟨rfl, hb4⟩
             have HB4 := mkHid (below_step (below_step HB.out A9.out) hb4)
             generalize hbb : fitsT (.node xk xs xm xkk) y = bb
             have HBB := mkHid hbb
             clear hbb hb4
             cases bb
             ·have HW : Hid (fitsT (.node k s m kk) rg = false) := mkHid (by
                rw [HF.out]
                have : fitsL kk (wants ⟨rg, false, rl, rm, ry, rk⟩ kk.length) ≠ true := fun h => by
                 have := (fitsL_iff _ _).1 h j _ HX.out
                 rw [HY.out, HBB.out] at this
                 cases this
                simp [this])
              go_wp2
              go_ret
              exact ⟨by rw [HW.out]; rfl, below_step B3.out HB4.out⟩
             ·go_wp2
              go_roundw
              case rel =>
               refine ⟨j + 1, by omega, by go_num, fun j' t h ht => ?_, HB4.out⟩
               rcases (by omega : j' < j ∨ j' = j) with h | rfl
               ·exact HA.out j' t h ht
               ·have e := HX.out.symm.trans ht
                simp only [Option.some.injEq] at e
                subst e
                rw [HY.out]
                exact HBB.out
              case measure => simp [intOf]; omega
            ·exfalso; omega
           ·have HW : Hid (fitsT (.node k s m kk) rg = true) := mkHid (by
              rw [HF.out]
              have : fitsL kk (wants ⟨rg, false, rl, rm, ry, rk⟩ kk.length) = true := (fitsL_iff _ _).2 fun j' t ht => HA.out j' t (by have := (List.getElem?_eq_some_iff.1 ht).1; omega) ht
              simp [this, headOk, HQ'.out, hz]
              omega)
            go_wp2
            go_ret
            exact ⟨by rw [HW.out]; rfl, below_step B3.out HB.out⟩)
    ·have hse : s.toList.isEmpty = false := by
       rw [toList_empty, decide_eq_false hz]
     have HW : Hid (fitsT (.node k s m kk) rg = false) := mkHid (by rw [HF.out]; simp [headOk, HQ'.out, hz])
     first | (go_region_with (first | (go_at_call 74; refine (HQ.out _).mono ?_; rintro e w3 ⟨rfl, hb3⟩; obtain ⟨hc, hf⟩ := bcell hb3; have z1 : w3.cell? ⟨w1.heap.size, 1, none⟩ = some (.bool false) := (hc _ 1 l2).trans s1; have z2 : w3.cell? ⟨w.heap.size, 1, none⟩ = some (.string s) := (hc _ 1 l1).trans p1; clear hc hf))) | fail
     all_goals clear hund
     all_goals go_wp2
     all_goals go_ret
     all_goals exact ⟨by rw [HW.out]; rfl, below_step B2.out (below_step (Below.refl w2.heap.size w2).drew hb3)⟩
   ·have HW : Hid (fitsT (.node k s m kk) rg = false) := mkHid (by rw [HF.out]; simp [headOk, HQ'.out])
    first | (go_region_with (first | (go_at_call 74; refine (HQ.out _).mono ?_; rintro e w3 ⟨rfl, hb3⟩; obtain ⟨hc, hf⟩ := bcell hb3; have z1 : w3.cell? ⟨w1.heap.size, 1, none⟩ = some (.bool false) := (hc _ 1 l2).trans s1; have z2 : w3.cell? ⟨w.heap.size, 1, none⟩ = some (.string s) := (hc _ 1 l1).trans p1; clear hc hf))) | fail
    all_goals clear hund
    all_goals go_wp2
    all_goals go_ret
    all_goals exact ⟨by rw [HW.out]; rfl, below_step B2.out (below_step (Below.refl w2.heap.size w2).drew hb3)⟩
  ·cases q
   ·have HW : Hid (fitsT (.node k s m kk) rg = false) := mkHid (by rw [HF.out]; simp [headOk, HQ'.out])
    first | (go_region_with (first | (go_at_call 74; refine (HQ.out _).mono ?_; rintro e w3 ⟨rfl, hb3⟩; obtain ⟨hc, hf⟩ := bcell hb3; have z1 : w3.cell? ⟨w1.heap.size, 1, none⟩ = some (.bool true) := (hc _ 1 l2).trans s1; have z2 : w3.cell? ⟨w.heap.size, 1, none⟩ = some (.string s) := (hc _ 1 l1).trans p1; clear hc hf))) | fail
    all_goals clear hund
    all_goals go_wp2
    all_goals go_ret
    all_goals exact ⟨by rw [HW.out]; rfl, below_step B2.out (below_step (Below.refl w2.heap.size w2).drew hb3)⟩
   ·first | (go_region_with (first | (go_at_call 74; refine (HQ.out _).mono ?_; rintro e w3 ⟨rfl, hb3⟩; obtain ⟨hc, hf⟩ := bcell hb3; have z1 : w3.cell? ⟨w1.heap.size, 1, none⟩ = some (.bool true) := (hc _ 1 l2).trans s1; have z2 : w3.cell? ⟨w.heap.size, 1, none⟩ = some (.string s) := (hc _ 1 l1).trans p1; clear hc hf))) | fail
    all_goals clear hund
    all_goals
     (have D3 := mkHid (below_step (Below.refl w2.heap.size w2).drew hb3)
      have B3 := mkHid (below_step B2.out D3.out)
      have F3 := mkHid (F2.out.below D3.out)
      have S3 := mkHid (S1.out.below D3.out)
      have G3 := mkHid (G2.out.below D3.out)
      obtain ⟨P0, P1, P2, P3⟩ := F3.out
      obtain ⟨Z0, Z1, Z2, Z3, Z4, Z5⟩ := S3.out
      clear z1 z2 hb3 D3 B2 F2 S1 G2 p0 p1 p2 p3 s0 s1 s2 s3 s4 s5 l1 l2
      have hn : kk.length ≤ 2 ^ 63 - 1 := HN.out.2
      by_cases t1 : kk.length < rk.length
      ·have HW : Hid (fitsT (.node k s m kk) rg = false) := mkHid (by rw [HF.out]; simp [headOk]; omega)
       have u1 : (kk.length : Int) - (rk.length : Int) < 0 := by omega
       go_wp2
       go_ret
       exact ⟨by rw [HW.out]; rfl, B3.out⟩
      ·by_cases t2 : rk.length < kk.length ∧ ry = 0
       ·have HW : Hid (fitsT (.node k s m kk) rg = false) := mkHid (by rw [HF.out]; simp [headOk]; omega)
        have u1 : (0 : Int) < (kk.length : Int) - (rk.length : Int) := by omega
        obtain ⟨t2, rfl⟩ := t2
        go_wp2
        go_ret
        exact ⟨by rw [HW.out]; rfl, B3.out⟩
       ·have u1 : (0 : Int) ≤ (kk.length : Int) - (rk.length : Int) := by omega
        by_cases u2 : (0 : Int) < (kk.length : Int) - (rk.length : Int)
        ·have u3 : (ry == 0) = false := by simp; omega
         go_wp2
         go_loopw [69] (fun i w' => ∃ (j : Nat), j ≤ kk.length ∧ i = .int .i64 j ∧ (∀ j' t, j' < j → kk[j']? = some t → fitsT t (((wants ⟨rg, true, rl, rm, ry, rk⟩ kk.length)[j']?).getD 0) = true) ∧ Below w3.heap.size w3 w') (fun i _ => kk.length - (intOf i).toNat)
         case atStart => exact ⟨0, Nat.zero_le _, rfl, fun j' t h => by omega, Below.refl _ _⟩
         case round =>
          obtain ⟨j, hj, rfl, hall, hbel⟩ := hrel
          have HA := mkHid hall
          have HB := mkHid hbel
          clear hall hbel P0 P1 P2 P3 Z0 Z1 Z2 Z3 Z4 Z5
          by_cases hjl : j < kk.length
          ·obtain ⟨x, hx⟩ : ∃ x, kk[j]? = some x := ⟨_, List.getElem?_eq_getElem hjl⟩
           have HX := mkHid hx
           obtain ⟨Y0, Y1, Y2, Y3, Y4, Y5⟩ := S3.out.below HB.out
           clear Y0 Y1 Y2 Y3
           rcases (HK.out.below B3.out).below HB.out with h0 | ⟨b, o, hab, _, hll⟩
           ·rw [h0] at hx; simp at hx
           subst hab
           obtain ⟨xk, xs, xm, xkk⟩ := x
           obtain ⟨xa, xc, hc0, hc1, hc2, hc3, hxs, hkn, hkids⟩ := hll.at hx
           have hl9 : w1.heap.size < wr.heap.size := World.block_lt_of_cell? wr _ Y4
           have A9 := mkHid ((Below.refl wr.heap.size wr).alloc (Nat.le_refl _) (.cells #[.int .i64 xk, .string xs, .int .i64 xm, .slice xa xkk.length xc] 38))
           have HC := mkHid (fun y => HI.out _ (List.mem_of_getElem? hx) xa xc y _ hxs hkn (hkids.below A9.out))
           have HWG := mkHid (wants_get ⟨rg, true, rl, rm, ry, rk⟩ kk.length j)
           clear hx hxs hkn hkids hll
           by_cases hw : (kk.length : Int) - (rk.length : Int) ≤ (j : Int)
           ·obtain ⟨y, hy⟩ : ∃ y, rk[j - (kk.length - rk.length)]? = some y := ⟨_, List.getElem?_eq_getElem (by omega)⟩
            have HY : Hid (((wants ⟨rg, true, rl, rm, ry, rk⟩ kk.length)[j]?).getD 0 = y) := mkHid (by
             rw [HWG.out, if_neg (by simp; omega)]
             simp [hy])
            rcases G3.out.below HB.out with h0 | ⟨gb, e0, hcell⟩
            ·rw [h0] at hy; simp at hy
            subst e0
            have hcy := hcell _ _ hy
            obtain ⟨p, hp⟩ : ∃ p : Nat, p = j - (kk.length - rk.length) := ⟨_, rfl⟩
            rw [← hp] at hcy hy
            have hpi : (j : Int) - ((kk.length : Int) - (rk.length : Int)) = (p : Int) := by omega
            have hplt : p < rk.length := by omega
            have hl8 : gb < wr.heap.size := World.block_lt_of_cell? wr _ hcy
            clear hcell hy hp
            go_wp2_with fail
            refine (HC.out y).mono ?_
            rintro e w4 ⟨rfl, hb4⟩
            have HB4 := mkHid (below_step (below_step HB.out A9.out) hb4)
            generalize hbb : fitsT (.node xk xs xm xkk) y = bb
            have HBB := mkHid hbb
            clear hbb hb4
            cases bb
            ·have HW : Hid (fitsT (.node k s m kk) rg = false) := mkHid (by
               rw [HF.out]
               have : fitsL kk (wants ⟨rg, true, rl, rm, ry, rk⟩ kk.length) ≠ true := fun h => by
                have := (fitsL_iff _ _).1 h j _ HX.out
                rw [HY.out, HBB.out] at this
                cases this
               simp [this])
             go_wp2
             go_ret
             exact ⟨by rw [HW.out]; rfl, below_step B3.out HB4.out⟩
            ·go_wp2
             go_roundw
             case rel =>
              refine ⟨j + 1, by omega, by go_num, fun j' t h ht => ?_, HB4.out⟩
              rcases (by omega : j' < j ∨ j' = j) with h | rfl
              ·exact HA.out j' t h ht
              ·have e := HX.out.symm.trans ht
               simp only [Option.some.injEq] at e
               subst e
               rw [HY.out]
               exact HBB.out
             case measure => simp [intOf]; omega
           ·have HY : Hid (((wants ⟨rg, true, rl, rm, ry, rk⟩ kk.length)[j]?).getD 0 = ry) := mkHid (by
              rw [HWG.out, if_pos (by simp; omega)])
            go_wp2_with fail
            refine (HC.out ry).mono ?_
            rintro e w4 ⟨rfl, hb4⟩
            have HB4 := mkHid (below_step (below_step HB.out A9.out) hb4)
            generalize hbb : fitsT (.node xk xs xm xkk) ry = bb
            have HBB := mkHid hbb
            clear hbb hb4
            cases bb
            ·have HW : Hid (fitsT (.node k s m kk) rg = false) := mkHid (by
               rw [HF.out]
               have : fitsL kk (wants ⟨rg, true, rl, rm, ry, rk⟩ kk.length) ≠ true := fun h => by
                have := (fitsL_iff _ _).1 h j _ HX.out
                rw [HY.out, HBB.out] at this
                cases this
               simp [this])
             go_wp2
             go_ret
             exact ⟨by rw [HW.out]; rfl, below_step B3.out HB4.out⟩
            ·go_wp2
             go_roundw
             case rel =>
              refine ⟨j + 1, by omega, by go_num, fun j' t h ht => ?_, HB4.out⟩
              rcases (by omega : j' < j ∨ j' = j) with h | rfl
              ·exact HA.out j' t h ht
              ·have e := HX.out.symm.trans ht
               simp only [Option.some.injEq] at e
               subst e
               rw [HY.out]
               exact HBB.out
             case measure => simp [intOf]; omega
          ·have HW : Hid (fitsT (.node k s m kk) rg = true) := mkHid (by
             rw [HF.out]
             have : fitsL kk (wants ⟨rg, true, rl, rm, ry, rk⟩ kk.length) = true := (fitsL_iff _ _).2 fun j' t ht => HA.out j' t (by have := (List.getElem?_eq_some_iff.1 ht).1; omega) ht
             simp [this, headOk, HQ'.out]
             omega)
           go_wp2
           go_ret
           exact ⟨by rw [HW.out]; rfl, below_step B3.out HB.out⟩
        ·go_wp2
         go_loopw [69] (fun i w' => ∃ (j : Nat), j ≤ kk.length ∧ i = .int .i64 j ∧ (∀ j' t, j' < j → kk[j']? = some t → fitsT t (((wants ⟨rg, true, rl, rm, ry, rk⟩ kk.length)[j']?).getD 0) = true) ∧ Below w3.heap.size w3 w') (fun i _ => kk.length - (intOf i).toNat)
         case atStart => exact ⟨0, Nat.zero_le _, rfl, fun j' t h => by omega, Below.refl _ _⟩
         case round =>
          obtain ⟨j, hj, rfl, hall, hbel⟩ := hrel
          have HA := mkHid hall
          have HB := mkHid hbel
          clear hall hbel P0 P1 P2 P3 Z0 Z1 Z2 Z3 Z4 Z5
          by_cases hjl : j < kk.length
          ·obtain ⟨x, hx⟩ : ∃ x, kk[j]? = some x := ⟨_, List.getElem?_eq_getElem hjl⟩
           have HX := mkHid hx
           obtain ⟨Y0, Y1, Y2, Y3, Y4, Y5⟩ := S3.out.below HB.out
           clear Y0 Y1 Y2 Y3
           rcases (HK.out.below B3.out).below HB.out with h0 | ⟨b, o, hab, _, hll⟩
           ·rw [h0] at hx; simp at hx
           subst hab
           obtain ⟨xk, xs, xm, xkk⟩ := x
           obtain ⟨xa, xc, hc0, hc1, hc2, hc3, hxs, hkn, hkids⟩ := hll.at hx
           have hl9 : w1.heap.size < wr.heap.size := World.block_lt_of_cell? wr _ Y4
           have A9 := mkHid ((Below.refl wr.heap.size wr).alloc (Nat.le_refl _) (.cells #[.int .i64 xk, .string xs, .int .i64 xm, .slice xa xkk.length xc] 38))
           have HC := mkHid (fun y => HI.out _ (List.mem_of_getElem? hx) xa xc y _ hxs hkn (hkids.below A9.out))
           have HWG := mkHid (wants_get ⟨rg, true, rl, rm, ry, rk⟩ kk.length j)
           clear hx hxs hkn hkids hll
           by_cases hw : (kk.length : Int) - (rk.length : Int) ≤ (j : Int)
           ·obtain ⟨y, hy⟩ : ∃ y, rk[j - (kk.length - rk.length)]? = some y := ⟨_, List.getElem?_eq_getElem (by omega)⟩
            have HY : Hid (((wants ⟨rg, true, rl, rm, ry, rk⟩ kk.length)[j]?).getD 0 = y) := mkHid (by
             rw [HWG.out, if_neg (by simp; omega)]
             simp [hy])
            rcases G3.out.below HB.out with h0 | ⟨gb, e0, hcell⟩
            ·rw [h0] at hy; simp at hy
            subst e0
            have hcy := hcell _ _ hy
            obtain ⟨p, hp⟩ : ∃ p : Nat, p = j - (kk.length - rk.length) := ⟨_, rfl⟩
            rw [← hp] at hcy hy
            have hpi : (j : Int) - ((kk.length : Int) - (rk.length : Int)) = (p : Int) := by omega
            have hplt : p < rk.length := by omega
            have hl8 : gb < wr.heap.size := World.block_lt_of_cell? wr _ hcy
            clear hcell hy hp
            go_wp2_with fail
            refine (HC.out y).mono ?_
            rintro e w4 ⟨rfl, hb4⟩
            have HB4 := mkHid (below_step (below_step HB.out A9.out) hb4)
            generalize hbb : fitsT (.node xk xs xm xkk) y = bb
            have HBB := mkHid hbb
            clear hbb hb4
            cases bb
            ·have HW : Hid (fitsT (.node k s m kk) rg = false) := mkHid (by
               rw [HF.out]
               have : fitsL kk (wants ⟨rg, true, rl, rm, ry, rk⟩ kk.length) ≠ true := fun h => by
                have := (fitsL_iff _ _).1 h j _ HX.out
                rw [HY.out, HBB.out] at this
                cases this
               simp [this])
             go_wp2
             go_ret
             exact ⟨by rw [HW.out]; rfl, below_step B3.out HB4.out⟩
            ·go_wp2
             go_roundw
             case rel =>
              refine ⟨j + 1, by omega, by go_num, fun j' t h ht => ?_, HB4.out⟩
              rcases (by omega : j' < j ∨ j' = j) with h | rfl
              ·exact HA.out j' t h ht
              ·have e := HX.out.symm.trans ht
               simp only [Option.some.injEq] at e
               subst e
               rw [HY.out]
               exact HBB.out
             case measure => simp [intOf]; omega
           ·exfalso; omega
          ·have HW : Hid (fitsT (.node k s m kk) rg = true) := mkHid (by
             rw [HF.out]
             have : fitsL kk (wants ⟨rg, true, rl, rm, ry, rk⟩ kk.length) = true := (fitsL_iff _ _).2 fun j' t ht => HA.out j' t (by have := (List.getElem?_eq_some_iff.1 ht).1; omega) ht
             simp [this, headOk, HQ'.out]
             omega)
           go_wp2
           go_ret
           exact ⟨by rw [HW.out]; rfl, below_step B3.out HB.out⟩)
 ·have HW : Hid (fitsT (.node k s m kk) g = false) := mkHid (by rw [HF.out]; simp [headOk, c1])
  by_cases d1 : rg = g
  ·subst d1
   by_cases d2 : m < rl
   ·go_wp2
    go_ret
    exact ⟨by rw [HW.out]; rfl, below_step B1.out A1.out⟩
   ·have d3 : rm < m := by
      simp at c1
      omega
    go_wp2
    go_ret
    exact ⟨by rw [HW.out]; rfl, below_step B1.out A1.out⟩
  ·have d2 : (rg == g) = false := by simpa using d1
   go_wp2
   go_ret
   exact ⟨by rw [HW.out]; rfl, below_step B1.out A1.out⟩
end Go.Proofs.YtedfnadgmhjojaaGreatDoor
