/-
  CONTRACT of the specification's l02Formed.
-/
import Derived.Test.YtedfnadgmhjojaaGreatDoorMShape
namespace Go.Proofs.YtedfnadgmhjojaaGreatDoor
open Go.RowKit
open Pl

def kindT : T → Int
 | .node k _ _ _ => k
def numOk (k m : Int) : Bool := if k = 1 then betw m 0 1000000 else if k = 32 then betw m (-1) 1000000 else (m == 0)
def formHead (k : Int) (s : ByteArray) (n : Nat) : Bool :=
 (shapeI k).2.2 && (decide ((shapeI k).1 < 0 ∨ (n : Int) = (shapeI k).1)) && decide ((shapeI k).2.1 = decide (s.size ≠ 0)) && (!(shapeI k).2.1 || nameB s) && !(decide (k = 40 ∧ n = 0))
mutual
def formedT : T → Bool
 | .node k s m kk => formHead k s kk.length && numOk k m && formedL k kk.length 0 kk
def formedL (k : Int) (n : Nat) : Nat → List T → Bool
 | _, [] => true
 | i, t :: r => kidI k n i (kindT t) && formedT t && formedL k n (i + 1) r
end
theorem formedL_iff (k : Int) (n : Nat) : ∀ (kk : List T) (i : Nat), formedL k n i kk = true ↔ ∀ (j : Nat) (t : T), kk[j]? = some t → (kidI k n (i + j) (kindT t) && formedT t) = true
 | [], i => by simp [formedL]
 | x :: r, i => by
   simp only [formedL, Bool.and_eq_true, formedL_iff k n r (i + 1)]
   constructor
   ·rintro ⟨h0, h1⟩ j t hj
    cases j with
    | zero =>
      simp at hj
      subst hj
      simpa using h0
    | succ j =>
      have := h1 j t (by simpa using hj)
      rwa [show i + 1 + j = i + (j + 1) by omega] at this
   ·intro h
    refine ⟨by simpa using h 0 x rfl, fun j t hj => ?_⟩
    have := h (j + 1) t (by simpa using hj)
    rwa [show i + (j + 1) = i + 1 + j by omega] at this
theorem toList_empty' (s : ByteArray) : s.toList.isEmpty = decide (s.size = 0) := by
 have h := Lib.size_eq s
 rw [ByteArray.toList_eq]
 cases e : s.data.toList with
 | nil =>
   rw [e] at h
   rw [decide_eq_true (by simpa using h)]
   rfl
 | cons x r =>
   rw [e] at h
   rw [decide_eq_false (by rw [h]; simp)]
   rfl

theorem shape_named (k : Int) (h : (shapeI k).2.1 = true) : 0 ≤ (shapeI k).1 := by
 by_cases h1 : k = 1
 ·subst h1; first | decide | exact absurd h (by decide)
 by_cases h28 : k = 28
 ·subst h28; first | decide | exact absurd h (by decide)
 by_cases h29 : k = 29
 ·subst h29; first | decide | exact absurd h (by decide)
 by_cases h2 : k = 2
 ·subst h2; first | decide | exact absurd h (by decide)
 by_cases h4 : k = 4
 ·subst h4; first | decide | exact absurd h (by decide)
 by_cases h23 : k = 23
 ·subst h23; first | decide | exact absurd h (by decide)
 by_cases h31 : k = 31
 ·subst h31; first | decide | exact absurd h (by decide)
 by_cases h32 : k = 32
 ·subst h32; first | decide | exact absurd h (by decide)
 by_cases h3 : k = 3
 ·subst h3; first | decide | exact absurd h (by decide)
 by_cases h21 : k = 21
 ·subst h21; first | decide | exact absurd h (by decide)
 by_cases h5 : k = 5
 ·subst h5; first | decide | exact absurd h (by decide)
 by_cases h27 : k = 27
 ·subst h27; first | decide | exact absurd h (by decide)
 by_cases h6 : k = 6
 ·subst h6; first | decide | exact absurd h (by decide)
 by_cases h7 : k = 7
 ·subst h7; first | decide | exact absurd h (by decide)
 by_cases h8 : k = 8
 ·subst h8; first | decide | exact absurd h (by decide)
 by_cases h11 : k = 11
 ·subst h11; first | decide | exact absurd h (by decide)
 by_cases h12 : k = 12
 ·subst h12; first | decide | exact absurd h (by decide)
 by_cases h13 : k = 13
 ·subst h13; first | decide | exact absurd h (by decide)
 by_cases h14 : k = 14
 ·subst h14; first | decide | exact absurd h (by decide)
 by_cases h15 : k = 15
 ·subst h15; first | decide | exact absurd h (by decide)
 by_cases h16 : k = 16
 ·subst h16; first | decide | exact absurd h (by decide)
 by_cases h25 : k = 25
 ·subst h25; first | decide | exact absurd h (by decide)
 by_cases h22 : k = 22
 ·subst h22; first | decide | exact absurd h (by decide)
 by_cases h24 : k = 24
 ·subst h24; first | decide | exact absurd h (by decide)
 by_cases h26 : k = 26
 ·subst h26; first | decide | exact absurd h (by decide)
 by_cases h30 : k = 30
 ·subst h30; first | decide | exact absurd h (by decide)
 by_cases h40 : k = 40
 ·subst h40; first | decide | exact absurd h (by decide)
 simp [shapeI, h1, h28, h29, h2, h4, h23, h31, h32, h3, h21, h5, h27, h6, h7, h8, h11, h12, h13, h14, h15, h16, h25, h22, h24, h26, h30, h40] at h

def FormOk (t : T) : Prop := match t with
 | .node k s m kk => ∀ (a : Option Addr) (c : Nat) (w : World), s.size ≤ maxLen → kk.length ≤ maxLen → Kids w 0 a kk →
   Calls Tryz.prog 59 #[.agg #[.int .i64 k, .string s, .int .i64 m, .slice a kk.length c]] w fun e w' => e = .returned (.bool (formedT t)) ∧ Below w.heap.size w w'

set_option maxRecDepth 100000 in
set_option maxHeartbeats 3200000 in
theorem formed_ok (t : T) : FormOk t := by
 refine T.induct ?_ t
 intro k s m kk IH a c w hs hn hk
 have HN := mkHid (And.intro hs hn)
 have HI := mkHid IH
 have HK := mkHid hk
 have B0 := mkHid ((Below.refl w.heap.size w).alloc (Nat.le_refl _) (.cells #[.int .i64 k, .string s, .int .i64 m, .slice a kk.length c] 38))
 have F0 := mkHid (Four.new w k s m a kk.length c 38)
 have HF := mkHid (show formedT (.node k s m kk) = (formHead k s kk.length && numOk k m && formedL k kk.length 0 kk) by simp only [formedT])
 have HQ := mkHid (fun W => sName_any s W hs)
 have HH := mkHid (show formHead k s kk.length = ((shapeI k).2.2 && (decide ((shapeI k).1 < 0 ∨ (kk.length : Int) = (shapeI k).1)) && decide ((shapeI k).2.1 = decide (s.size ≠ 0)) && (!(shapeI k).2.1 || nameB s) && !(decide (k = 40 ∧ kk.length = 0))) from rfl)
 generalize hq : nameB s = q at HQ HH
 have hte := toList_empty' s
 generalize hz : decide (s.size = 0) = z at hte
 have hz' : decide (s.size ≠ 0) = !z := by rw [← hz]; simp
 rw [hz'] at HH
 clear hs hn IH hk hq hz hz'
 go_enter Tryz.func59, Tryz.ntmps59
 go_wp2_with fail
 refine (shape_any k _).mono ?_
 rintro e w1 ⟨rfl, rfl⟩
 generalize hsh : shapeI k = sh at HH
 obtain ⟨ks, nm, sm⟩ := sh
 have HSH := mkHid hsh
 clear hsh
 simp only at HH ⊢
 obtain ⟨p0, p1, p2, p3⟩ := F0.out
 generalize w.alloc (.cells #[.int .i64 k, .string s, .int .i64 m, .slice a kk.length c] 38) = w1 at *
 have l1 : w.heap.size < w1.heap.size := World.block_lt_of_cell? w1 _ p0
 cases sm
 ·have HW : Hid (formedT (.node k s m kk) = false) := mkHid (by rw [HF.out, HH.out]; simp)
  go_wp2
  go_ret
  exact ⟨by rw [HW.out]; rfl, B0.out⟩
 ·by_cases hB : ks < 0 ∨ (kk.length : Int) = ks
  ·cases nm
   ·cases z
    ·have HBB := mkHid hB
     by_cases hB0 : ks < 0
     ·clear hB
      have HW : Hid (formedT (.node k s m kk) = false) := mkHid (by rw [HF.out, HH.out]; simp)
      go_wp2
      go_ret
      exact ⟨by rw [HW.out]; rfl, B0.out⟩
     ·have hke : ks = (kk.length : Int) := by omega
      subst hke
      clear hB hB0
      have HW : Hid (formedT (.node k s m kk) = false) := mkHid (by rw [HF.out, HH.out]; simp)
      go_wp2
      go_ret
      exact ⟨by rw [HW.out]; rfl, B0.out⟩
    ·have n32 : k ≠ 32 := by
       rintro rfl
       have := HSH.out
       cases this
     have e32 : (k == 32) = false := by simpa using n32
     by_cases n40 : k = 40
     ·have e40 : (k == 40) = true := by simpa using n40
      have N40 := mkHid n40
      have n1 : k ≠ 1 := by omega
      have e1 : (k == 1) = false := by simpa using n1
      have hks : ks < 0 := by
       have := HSH.out
       rw [n40] at this
       have h2 := congrArg Prod.fst this
       simp [shapeI] at h2
       omega
      clear hB n40
      by_cases h0 : kk.length = 0
      ·have h00 : ((kk.length : Int) == 0) = true := beq_iff_eq.2 (by omega)
       have H0 := mkHid h0
       clear h0
       have HW : Hid (formedT (.node k s m kk) = false) := mkHid (by rw [HF.out, HH.out]; simp [N40.out, H0.out])
       go_wp2
       go_ret
       exact ⟨by rw [HW.out]; rfl, B0.out⟩
      ·have h00 : ((kk.length : Int) == 0) = false := beq_eq_false_iff_ne.2 (by omega)
       have H0 := mkHid h0
       clear h0
       by_cases e4 : m = 0
       ·have e5 : (m == 0) = true := by simpa using e4
        have e6 : (m != 0) = false := by simpa using e4
        have E4 := mkHid e4
        clear e4
        have HHT : Hid (formHead k s kk.length = true) := mkHid (by rw [HH.out]; simp [H0.out, hks])
        have HNT : Hid (numOk k m = true) := mkHid (by simp [numOk, n1, n32, E4.out])
        have hn : kk.length ≤ maxLen := HN.out.2
        have hn2 : kk.length ≤ 2 ^ 63 - 1 := HN.out.2
        go_wp2
        go_loopw [6] (fun i w' => ∃ (j : Nat), j ≤ kk.length ∧ i = .int .i64 j ∧ (∀ j' t, j' < j → kk[j']? = some t → (kidI k kk.length j' (kindT t) && formedT t) = true) ∧ Below w1.heap.size w1 w') (fun i _ => kk.length - (intOf i).toNat)
        case atStart => exact ⟨0, Nat.zero_le _, rfl, fun j' t h => by omega, Below.refl _ _⟩
        case round =>
         obtain ⟨j, hj, rfl, hall, hbel⟩ := hrel
         have HA := mkHid hall
         have HB := mkHid hbel
         clear hall hbel p0 p1 p2 p3
         obtain ⟨P0, P1, P2, P3⟩ := F0.out.below HB.out
         have l9 : w.heap.size < wr.heap.size := World.block_lt_of_cell? wr _ P0
         by_cases hjl : j < kk.length
         ·obtain ⟨x, hx⟩ : ∃ x, kk[j]? = some x := ⟨_, List.getElem?_eq_getElem hjl⟩
          have HX := mkHid hx
          rcases (HK.out.below B0.out).below HB.out with h0 | ⟨b, o, hab, _, hll⟩
          ·rw [h0] at hx; simp at hx
          subst hab
          obtain ⟨xk, xs, xm, xkk⟩ := x
          obtain ⟨xa, xc, hc0, hc1, hc2, hc3, hxs, hkn, hkids⟩ := hll.at hx
          have l8 : b < wr.heap.size := World.block_lt_of_cell? wr _ hc0
          have HC := mkHid (fun W (hW : Below wr.heap.size wr W) => HI.out _ (List.mem_of_getElem? hx) xa xc W hxs hkn (hkids.below hW))
          have HKD := mkHid (fun W => kid_any k s m (some ⟨b, o, none⟩) kk.length c j xk W hn hjl)
          have i0 : (0 : Int) ≤ (j : Int) := by omega
          have i1 : (j : Int) < (kk.length : Int) := by omega
          generalize hkb : kidI k kk.length j xk = kb at HKD
          have HKB := mkHid hkb
          clear hx hxs hkn hkids hll hkb
          go_wp2
          generalize hfb : formedT (.node xk xs xm xkk) = fb at HC
          have HFB := mkHid hfb
          clear hfb
          cases kb
          ·have HW : Hid (formedT (.node k s m kk) = false) := mkHid (by
             rw [HF.out]
             have : formedL k kk.length 0 kk ≠ true := fun h => by
              have := (formedL_iff _ _ _ _).1 h j _ HX.out
              simp [kindT, HKB.out] at this
             simp [this])
           have hund : undef = Value.tuple #[] := rfl
           first | (go_region_with (first | (go_at_call 81; refine (HKD.out _).mono ?_; rintro e w4 ⟨rfl, hb4⟩; clear hc0 hc1 hc2 hc3))) | fail
           all_goals clear hund
           all_goals go_wp2
           all_goals go_ret
           all_goals exact ⟨by rw [HW.out]; rfl, below_step (below_step B0.out HB.out) (below_step (Below.refl _ _).drew hb4)⟩
          ·go_region_held3 (fun w' => w'.cell? ⟨w.heap.size, 0, none⟩ = some (.int .i64 k) ∧ w'.cell? ⟨w.heap.size, 1, none⟩ = some (.string s) ∧ w'.cell? ⟨w.heap.size, 2, none⟩ = some (.int .i64 m) ∧ w'.cell? ⟨w.heap.size, 3, none⟩ = some (.slice (some ⟨b, o, none⟩) kk.length c) ∧ w'.cell? ⟨b, o + j * 4, none⟩ = some (.int .i64 xk) ∧ w'.cell? ⟨b, o + j * 4 + 1, none⟩ = some (.string xs) ∧ w'.cell? ⟨b, o + j * 4 + 2, none⟩ = some (.int .i64 xm) ∧ w'.cell? ⟨b, o + j * 4 + 3, none⟩ = some (.slice xa xkk.length xc)) (first | exact ⟨P0, P1, P2, P3, hc0, hc1, hc2, hc3⟩ | exact ⟨(hc _ _ l9).trans P0, (hc _ _ l9).trans P1, (hc _ _ l9).trans P2, (hc _ _ l9).trans P3, (hc _ _ l8).trans hc0, (hc _ _ l8).trans hc1, (hc _ _ l8).trans hc2, (hc _ _ l8).trans hc3⟩) (first | (go_at_call 81; refine (HKD.out _).mono ?_; rintro e w4 ⟨rfl, hb4⟩; obtain ⟨hc, hf⟩ := bcell hb4) | (go_at_call 59; refine (HC.out _ (below_step (Below.refl _ _).drew hb4)).mono ?_; rintro e w5 ⟨rfl, hb5⟩; obtain ⟨hc', hf'⟩ := bcell hb5; have hc := fun (b o : Nat) (h : b < wr.drew.heap.size) => (hc' b o (Nat.lt_of_lt_of_le h hb4.size)).trans (hc b o h)))
           have HB5 := mkHid (below_step (below_step (below_step HB.out (Below.refl _ _).drew) hb4) hb5)
           clear hc hc' hf hf' hb4 hb5
           cases fb
           ·have HW : Hid (formedT (.node k s m kk) = false) := mkHid (by
              rw [HF.out]
              have : formedL k kk.length 0 kk ≠ true := fun h => by
               have := (formedL_iff _ _ _ _).1 h j _ HX.out
               simp [kindT, HFB.out] at this
              simp [this])
            go_wp2
            go_ret
            exact ⟨by rw [HW.out]; rfl, below_step B0.out HB5.out⟩
           ·go_wp2
            go_roundw
            case rel =>
             refine ⟨j + 1, by omega, by go_num, fun j' t h ht => ?_, HB5.out⟩
             rcases (by omega : j' < j ∨ j' = j) with h | rfl
             ·exact HA.out j' t h ht
             ·have e := HX.out.symm.trans ht
              simp only [Option.some.injEq] at e
              subst e
              simp [kindT, HKB.out, HFB.out]
            case measure => simp [intOf]; omega
         ·have HW : Hid (formedT (.node k s m kk) = true) := mkHid (by
            rw [HF.out, HHT.out, HNT.out]
            have : formedL k kk.length 0 kk = true := (formedL_iff _ _ _ _).2 fun j' t ht => by
             have := HA.out j' t (by have := (List.getElem?_eq_some_iff.1 ht).1; omega) ht
             rwa [Nat.zero_add]
            simp [this])
          go_wp2
          go_ret
          exact ⟨by rw [HW.out]; rfl, below_step B0.out HB.out⟩
       ·have e5 : (m == 0) = false := by simpa using e4
        have HW : Hid (formedT (.node k s m kk) = false) := mkHid (by rw [HF.out, show numOk k m = false by simp [numOk, n1, n32, e4]]; simp)
        go_wp2
        go_ret
        exact ⟨by rw [HW.out]; rfl, B0.out⟩
     ·have e40 : (k == 40) = false := by simpa using n40
      by_cases n1 : k = 1
      ·have e1 : (k == 1) = true := by simpa using n1
       have hks : ks = 0 := by
        have := HSH.out
        rw [n1] at this
        have h2 := congrArg Prod.fst this
        simp [shapeI] at h2
        omega
       have HKL := mkHid (show kk.length = 0 by omega)
       have HBB := mkHid hB
       have N1 := mkHid n1
       have hke : ks = (kk.length : Int) := by omega
       clear hks n1 hB
       subst hke
       have hnum : numOk k m = betw m (0) 1000000 := by have := N1.out; simp [numOk, this]
       generalize hbq : betw m (0) 1000000 = bq at hnum
       have HBT := mkHid (fun W => betw_any m (0) 1000000 W)
       rw [hbq] at HBT
       have HNU := mkHid hnum
       clear hnum hbq
       cases bq
       ·have HW : Hid (formedT (.node k s m kk) = false) := mkHid (by rw [HF.out, HNU.out]; simp)
        go_wp2_with fail
        refine (HBT.out _).mono ?_
        rintro e w8 ⟨rfl, rfl⟩
        go_wp2
        go_ret
        exact ⟨by rw [HW.out]; rfl, B0.out⟩
       ·have HHT : Hid (formHead k s kk.length = true) := mkHid (by rw [HH.out]; simp [n40])
        have HNT := HNU
        have hn : kk.length ≤ maxLen := HN.out.2
        have hn2 : kk.length ≤ 2 ^ 63 - 1 := HN.out.2
        go_wp2_with fail
        refine (HBT.out _).mono ?_
        rintro e w8 ⟨rfl, rfl⟩
        go_wp2
        go_loopw [6] (fun i w' => ∃ (j : Nat), j ≤ kk.length ∧ i = .int .i64 j ∧ (∀ j' t, j' < j → kk[j']? = some t → (kidI k kk.length j' (kindT t) && formedT t) = true) ∧ Below w1.heap.size w1 w') (fun i _ => kk.length - (intOf i).toNat)
        case atStart => exact ⟨0, Nat.zero_le _, rfl, fun j' t h => by omega, Below.refl _ _⟩
        case round =>
         obtain ⟨j, hj, rfl, hall, hbel⟩ := hrel
         have HA := mkHid hall
         have HB := mkHid hbel
         clear hall hbel p0 p1 p2 p3
         obtain ⟨P0, P1, P2, P3⟩ := F0.out.below HB.out
         have l9 : w.heap.size < wr.heap.size := World.block_lt_of_cell? wr _ P0
         by_cases hjl : j < kk.length
         ·exfalso; have := HKL.out; omega
         ·have HW : Hid (formedT (.node k s m kk) = true) := mkHid (by
            rw [HF.out, HHT.out, HNT.out]
            have : formedL k kk.length 0 kk = true := (formedL_iff _ _ _ _).2 fun j' t ht => by
             have := HA.out j' t (by have := (List.getElem?_eq_some_iff.1 ht).1; omega) ht
             rwa [Nat.zero_add]
            simp [this])
          go_wp2
          go_ret
          exact ⟨by rw [HW.out]; rfl, below_step B0.out HB.out⟩
      ·have e1 : (k == 1) = false := by simpa using n1
       by_cases e4 : m = 0
       ·have e5 : (m == 0) = true := by simpa using e4
        have e6 : (m != 0) = false := by simpa using e4
        have E4 := mkHid e4
        clear e4
        have HBB := mkHid hB
        by_cases hB0 : ks < 0
        ·clear hB
         have HHT : Hid (formHead k s kk.length = true) := mkHid (by rw [HH.out]; simp [n40, hB0])
         have HNT : Hid (numOk k m = true) := mkHid (by simp [numOk, n1, n32, E4.out])
         have hn : kk.length ≤ maxLen := HN.out.2
         have hn2 : kk.length ≤ 2 ^ 63 - 1 := HN.out.2
         go_wp2
         go_loopw [6] (fun i w' => ∃ (j : Nat), j ≤ kk.length ∧ i = .int .i64 j ∧ (∀ j' t, j' < j → kk[j']? = some t → (kidI k kk.length j' (kindT t) && formedT t) = true) ∧ Below w1.heap.size w1 w') (fun i _ => kk.length - (intOf i).toNat)
         case atStart => exact ⟨0, Nat.zero_le _, rfl, fun j' t h => by omega, Below.refl _ _⟩
         case round =>
          obtain ⟨j, hj, rfl, hall, hbel⟩ := hrel
          have HA := mkHid hall
          have HB := mkHid hbel
          clear hall hbel p0 p1 p2 p3
          obtain ⟨P0, P1, P2, P3⟩ := F0.out.below HB.out
          have l9 : w.heap.size < wr.heap.size := World.block_lt_of_cell? wr _ P0
          by_cases hjl : j < kk.length
          ·obtain ⟨x, hx⟩ : ∃ x, kk[j]? = some x := ⟨_, List.getElem?_eq_getElem hjl⟩
           have HX := mkHid hx
           rcases (HK.out.below B0.out).below HB.out with h0 | ⟨b, o, hab, _, hll⟩
           ·rw [h0] at hx; simp at hx
           subst hab
           obtain ⟨xk, xs, xm, xkk⟩ := x
           obtain ⟨xa, xc, hc0, hc1, hc2, hc3, hxs, hkn, hkids⟩ := hll.at hx
           have l8 : b < wr.heap.size := World.block_lt_of_cell? wr _ hc0
           have HC := mkHid (fun W (hW : Below wr.heap.size wr W) => HI.out _ (List.mem_of_getElem? hx) xa xc W hxs hkn (hkids.below hW))
           have HKD := mkHid (fun W => kid_any k s m (some ⟨b, o, none⟩) kk.length c j xk W hn hjl)
           have i0 : (0 : Int) ≤ (j : Int) := by omega
           have i1 : (j : Int) < (kk.length : Int) := by omega
           generalize hkb : kidI k kk.length j xk = kb at HKD
           have HKB := mkHid hkb
           clear hx hxs hkn hkids hll hkb
           go_wp2
           generalize hfb : formedT (.node xk xs xm xkk) = fb at HC
           have HFB := mkHid hfb
           clear hfb
           cases kb
           ·have HW : Hid (formedT (.node k s m kk) = false) := mkHid (by
              rw [HF.out]
              have : formedL k kk.length 0 kk ≠ true := fun h => by
               have := (formedL_iff _ _ _ _).1 h j _ HX.out
               simp [kindT, HKB.out] at this
              simp [this])
            have hund : undef = Value.tuple #[] := rfl
            first | (go_region_with (first | (go_at_call 81; refine (HKD.out _).mono ?_; rintro e w4 ⟨rfl, hb4⟩; clear hc0 hc1 hc2 hc3))) | fail
            all_goals clear hund
            all_goals go_wp2
            all_goals go_ret
            all_goals exact ⟨by rw [HW.out]; rfl, below_step (below_step B0.out HB.out) (below_step (Below.refl _ _).drew hb4)⟩
           ·go_region_held3 (fun w' => w'.cell? ⟨w.heap.size, 0, none⟩ = some (.int .i64 k) ∧ w'.cell? ⟨w.heap.size, 1, none⟩ = some (.string s) ∧ w'.cell? ⟨w.heap.size, 2, none⟩ = some (.int .i64 m) ∧ w'.cell? ⟨w.heap.size, 3, none⟩ = some (.slice (some ⟨b, o, none⟩) kk.length c) ∧ w'.cell? ⟨b, o + j * 4, none⟩ = some (.int .i64 xk) ∧ w'.cell? ⟨b, o + j * 4 + 1, none⟩ = some (.string xs) ∧ w'.cell? ⟨b, o + j * 4 + 2, none⟩ = some (.int .i64 xm) ∧ w'.cell? ⟨b, o + j * 4 + 3, none⟩ = some (.slice xa xkk.length xc)) (first | exact ⟨P0, P1, P2, P3, hc0, hc1, hc2, hc3⟩ | exact ⟨(hc _ _ l9).trans P0, (hc _ _ l9).trans P1, (hc _ _ l9).trans P2, (hc _ _ l9).trans P3, (hc _ _ l8).trans hc0, (hc _ _ l8).trans hc1, (hc _ _ l8).trans hc2, (hc _ _ l8).trans hc3⟩) (first | (go_at_call 81; refine (HKD.out _).mono ?_; rintro e w4 ⟨rfl, hb4⟩; obtain ⟨hc, hf⟩ := bcell hb4) | (go_at_call 59; refine (HC.out _ (below_step (Below.refl _ _).drew hb4)).mono ?_; rintro e w5 ⟨rfl, hb5⟩; obtain ⟨hc', hf'⟩ := bcell hb5; have hc := fun (b o : Nat) (h : b < wr.drew.heap.size) => (hc' b o (Nat.lt_of_lt_of_le h hb4.size)).trans (hc b o h)))
            have HB5 := mkHid (below_step (below_step (below_step HB.out (Below.refl _ _).drew) hb4) hb5)
            clear hc hc' hf hf' hb4 hb5
            cases fb
            ·have HW : Hid (formedT (.node k s m kk) = false) := mkHid (by
               rw [HF.out]
               have : formedL k kk.length 0 kk ≠ true := fun h => by
                have := (formedL_iff _ _ _ _).1 h j _ HX.out
                simp [kindT, HFB.out] at this
               simp [this])
             go_wp2
             go_ret
             exact ⟨by rw [HW.out]; rfl, below_step B0.out HB5.out⟩
            ·go_wp2
             go_roundw
             case rel =>
              refine ⟨j + 1, by omega, by go_num, fun j' t h ht => ?_, HB5.out⟩
              rcases (by omega : j' < j ∨ j' = j) with h | rfl
              ·exact HA.out j' t h ht
              ·have e := HX.out.symm.trans ht
               simp only [Option.some.injEq] at e
               subst e
               simp [kindT, HKB.out, HFB.out]
             case measure => simp [intOf]; omega
          ·have HW : Hid (formedT (.node k s m kk) = true) := mkHid (by
             rw [HF.out, HHT.out, HNT.out]
             have : formedL k kk.length 0 kk = true := (formedL_iff _ _ _ _).2 fun j' t ht => by
              have := HA.out j' t (by have := (List.getElem?_eq_some_iff.1 ht).1; omega) ht
              rwa [Nat.zero_add]
             simp [this])
           go_wp2
           go_ret
           exact ⟨by rw [HW.out]; rfl, below_step B0.out HB.out⟩
        ·have hke : ks = (kk.length : Int) := by omega
         subst hke
         clear hB hB0
         have HHT : Hid (formHead k s kk.length = true) := mkHid (by rw [HH.out]; simp [n40])
         have HNT : Hid (numOk k m = true) := mkHid (by simp [numOk, n1, n32, E4.out])
         have hn : kk.length ≤ maxLen := HN.out.2
         have hn2 : kk.length ≤ 2 ^ 63 - 1 := HN.out.2
         go_wp2
         go_loopw [6] (fun i w' => ∃ (j : Nat), j ≤ kk.length ∧ i = .int .i64 j ∧ (∀ j' t, j' < j → kk[j']? = some t → (kidI k kk.length j' (kindT t) && formedT t) = true) ∧ Below w1.heap.size w1 w') (fun i _ => kk.length - (intOf i).toNat)
         case atStart => exact ⟨0, Nat.zero_le _, rfl, fun j' t h => by omega, Below.refl _ _⟩
         case round =>
          obtain ⟨j, hj, rfl, hall, hbel⟩ := hrel
          have HA := mkHid hall
          have HB := mkHid hbel
          clear hall hbel p0 p1 p2 p3
          obtain ⟨P0, P1, P2, P3⟩ := F0.out.below HB.out
          have l9 : w.heap.size < wr.heap.size := World.block_lt_of_cell? wr _ P0
          by_cases hjl : j < kk.length
          ·obtain ⟨x, hx⟩ : ∃ x, kk[j]? = some x := ⟨_, List.getElem?_eq_getElem hjl⟩
           have HX := mkHid hx
           rcases (HK.out.below B0.out).below HB.out with h0 | ⟨b, o, hab, _, hll⟩
           ·rw [h0] at hx; simp at hx
           subst hab
           obtain ⟨xk, xs, xm, xkk⟩ := x
           obtain ⟨xa, xc, hc0, hc1, hc2, hc3, hxs, hkn, hkids⟩ := hll.at hx
           have l8 : b < wr.heap.size := World.block_lt_of_cell? wr _ hc0
           have HC := mkHid (fun W (hW : Below wr.heap.size wr W) => HI.out _ (List.mem_of_getElem? hx) xa xc W hxs hkn (hkids.below hW))
           have HKD := mkHid (fun W => kid_any k s m (some ⟨b, o, none⟩) kk.length c j xk W hn hjl)
           have i0 : (0 : Int) ≤ (j : Int) := by omega
           have i1 : (j : Int) < (kk.length : Int) := by omega
           generalize hkb : kidI k kk.length j xk = kb at HKD
           have HKB := mkHid hkb
           clear hx hxs hkn hkids hll hkb
           go_wp2
           generalize hfb : formedT (.node xk xs xm xkk) = fb at HC
           have HFB := mkHid hfb
           clear hfb
           cases kb
           ·have HW : Hid (formedT (.node k s m kk) = false) := mkHid (by
              rw [HF.out]
              have : formedL k kk.length 0 kk ≠ true := fun h => by
               have := (formedL_iff _ _ _ _).1 h j _ HX.out
               simp [kindT, HKB.out] at this
              simp [this])
            have hund : undef = Value.tuple #[] := rfl
            first | (go_region_with (first | (go_at_call 81; refine (HKD.out _).mono ?_; rintro e w4 ⟨rfl, hb4⟩; clear hc0 hc1 hc2 hc3))) | fail
            all_goals clear hund
            all_goals go_wp2
            all_goals go_ret
            all_goals exact ⟨by rw [HW.out]; rfl, below_step (below_step B0.out HB.out) (below_step (Below.refl _ _).drew hb4)⟩
           ·go_region_held3 (fun w' => w'.cell? ⟨w.heap.size, 0, none⟩ = some (.int .i64 k) ∧ w'.cell? ⟨w.heap.size, 1, none⟩ = some (.string s) ∧ w'.cell? ⟨w.heap.size, 2, none⟩ = some (.int .i64 m) ∧ w'.cell? ⟨w.heap.size, 3, none⟩ = some (.slice (some ⟨b, o, none⟩) kk.length c) ∧ w'.cell? ⟨b, o + j * 4, none⟩ = some (.int .i64 xk) ∧ w'.cell? ⟨b, o + j * 4 + 1, none⟩ = some (.string xs) ∧ w'.cell? ⟨b, o + j * 4 + 2, none⟩ = some (.int .i64 xm) ∧ w'.cell? ⟨b, o + j * 4 + 3, none⟩ = some (.slice xa xkk.length xc)) (first | exact ⟨P0, P1, P2, P3, hc0, hc1, hc2, hc3⟩ | exact ⟨(hc _ _ l9).trans P0, (hc _ _ l9).trans P1, (hc _ _ l9).trans P2, (hc _ _ l9).trans P3, (hc _ _ l8).trans hc0, (hc _ _ l8).trans hc1, (hc _ _ l8).trans hc2, (hc _ _ l8).trans hc3⟩) (first | (go_at_call 81; refine (HKD.out _).mono ?_; rintro e w4 ⟨rfl, hb4⟩; obtain ⟨hc, hf⟩ := bcell hb4) | (go_at_call 59; refine (HC.out _ (below_step (Below.refl _ _).drew hb4)).mono ?_; rintro e w5 ⟨rfl, hb5⟩; obtain ⟨hc', hf'⟩ := bcell hb5; have hc := fun (b o : Nat) (h : b < wr.drew.heap.size) => (hc' b o (Nat.lt_of_lt_of_le h hb4.size)).trans (hc b o h)))
            have HB5 := mkHid (below_step (below_step (below_step HB.out (Below.refl _ _).drew) hb4) hb5)
            clear hc hc' hf hf' hb4 hb5
            cases fb
            ·have HW : Hid (formedT (.node k s m kk) = false) := mkHid (by
               rw [HF.out]
               have : formedL k kk.length 0 kk ≠ true := fun h => by
                have := (formedL_iff _ _ _ _).1 h j _ HX.out
                simp [kindT, HFB.out] at this
               simp [this])
             go_wp2
             go_ret
             exact ⟨by rw [HW.out]; rfl, below_step B0.out HB5.out⟩
            ·go_wp2
             go_roundw
             case rel =>
              refine ⟨j + 1, by omega, by go_num, fun j' t h ht => ?_, HB5.out⟩
              rcases (by omega : j' < j ∨ j' = j) with h | rfl
              ·exact HA.out j' t h ht
              ·have e := HX.out.symm.trans ht
               simp only [Option.some.injEq] at e
               subst e
               simp [kindT, HKB.out, HFB.out]
             case measure => simp [intOf]; omega
          ·have HW : Hid (formedT (.node k s m kk) = true) := mkHid (by
             rw [HF.out, HHT.out, HNT.out]
             have : formedL k kk.length 0 kk = true := (formedL_iff _ _ _ _).2 fun j' t ht => by
              have := HA.out j' t (by have := (List.getElem?_eq_some_iff.1 ht).1; omega) ht
              rwa [Nat.zero_add]
             simp [this])
           go_wp2
           go_ret
           exact ⟨by rw [HW.out]; rfl, below_step B0.out HB.out⟩
       ·have e5 : (m == 0) = false := by simpa using e4
        have HBB := mkHid hB
        by_cases hB0 : ks < 0
        ·clear hB
         have HW : Hid (formedT (.node k s m kk) = false) := mkHid (by rw [HF.out, show numOk k m = false by simp [numOk, n1, n32, e4]]; simp)
         go_wp2
         go_ret
         exact ⟨by rw [HW.out]; rfl, B0.out⟩
        ·have hke : ks = (kk.length : Int) := by omega
         subst hke
         clear hB hB0
         have HW : Hid (formedT (.node k s m kk) = false) := mkHid (by rw [HF.out, show numOk k m = false by simp [numOk, n1, n32, e4]]; simp)
         go_wp2
         go_ret
         exact ⟨by rw [HW.out]; rfl, B0.out⟩
   ·cases z
    ·have HKS : Hid (0 ≤ ks) := mkHid (by
       have h2 := shape_named k (by rw [HSH.out])
       rw [HSH.out] at h2
       exact h2)
     have HBB := mkHid hB
     have hke : ks = (kk.length : Int) := by have := HKS.out; omega
     clear hB
     subst hke
     have n40 : k ≠ 40 := by
      intro h
      have h1 := HSH.out
      rw [h] at h1
      have h2 := congrArg (fun p => p.2.1) h1
      simp [shapeI] at h2
     have e40 : (k == 40) = false := by simpa using n40
     have n1 : k ≠ 1 := by
      intro h
      have h1 := HSH.out
      rw [h] at h1
      have h2 := congrArg (fun p => p.2.1) h1
      simp [shapeI] at h2
     have e1 : (k == 1) = false := by simpa using n1
     cases q
     ·have HW : Hid (formedT (.node k s m kk) = false) := mkHid (by rw [HF.out, HH.out]; simp)
      go_wp2_with fail
      refine (HQ.out _).mono ?_
      rintro e w2 ⟨rfl, hb2⟩
      have BX := mkHid (below_step B0.out hb2)
      clear hb2
      go_wp2
      go_ret
      exact ⟨by rw [HW.out]; rfl, BX.out⟩
     ·go_wp2_with fail
      refine (HQ.out _).mono ?_
      rintro e w2 ⟨rfl, hb2⟩
      have BX := mkHid (below_step B0.out hb2)
      have FX := mkHid (F0.out.below hb2)
      clear hb2 p0 p1 p2 p3 l1
      obtain ⟨p0, p1, p2, p3⟩ := FX.out
      by_cases n32 : k = 32
      ·have e32 : (k == 32) = true := by simpa using n32
       have HKL := mkHid (show kk.length = 0 by
        have := HSH.out
        rw [n32] at this
        have h2 := congrArg Prod.fst this
        simp [shapeI] at h2
        omega)
       have N1 := mkHid n32
       clear n32
       have hnum : numOk k m = betw m (-1) 1000000 := by have := N1.out; simp [numOk, this]
       generalize hbq : betw m (-1) 1000000 = bq at hnum
       have HBT := mkHid (fun W => betw_any m (-1) 1000000 W)
       rw [hbq] at HBT
       have HNU := mkHid hnum
       clear hnum hbq
       cases bq
       ·have HW : Hid (formedT (.node k s m kk) = false) := mkHid (by rw [HF.out, HNU.out]; simp)
        go_wp2_with fail
        refine (HBT.out _).mono ?_
        rintro e w8 ⟨rfl, rfl⟩
        go_wp2
        go_ret
        exact ⟨by rw [HW.out]; rfl, BX.out⟩
       ·have HHT : Hid (formHead k s kk.length = true) := mkHid (by rw [HH.out]; simp [n40])
        have HNT := HNU
        have hn : kk.length ≤ maxLen := HN.out.2
        have hn2 : kk.length ≤ 2 ^ 63 - 1 := HN.out.2
        go_wp2_with fail
        refine (HBT.out _).mono ?_
        rintro e w8 ⟨rfl, rfl⟩
        go_wp2
        go_loopw [6] (fun i w' => ∃ (j : Nat), j ≤ kk.length ∧ i = .int .i64 j ∧ (∀ j' t, j' < j → kk[j']? = some t → (kidI k kk.length j' (kindT t) && formedT t) = true) ∧ Below w2.heap.size w2 w') (fun i _ => kk.length - (intOf i).toNat)
        case atStart => exact ⟨0, Nat.zero_le _, rfl, fun j' t h => by omega, Below.refl _ _⟩
        case round =>
         obtain ⟨j, hj, rfl, hall, hbel⟩ := hrel
         have HA := mkHid hall
         have HB := mkHid hbel
         clear hall hbel p0 p1 p2 p3
         obtain ⟨P0, P1, P2, P3⟩ := FX.out.below HB.out
         have l9 : w.heap.size < wr.heap.size := World.block_lt_of_cell? wr _ P0
         by_cases hjl : j < kk.length
         ·exfalso; have := HKL.out; omega
         ·have HW : Hid (formedT (.node k s m kk) = true) := mkHid (by
            rw [HF.out, HHT.out, HNT.out]
            have : formedL k kk.length 0 kk = true := (formedL_iff _ _ _ _).2 fun j' t ht => by
             have := HA.out j' t (by have := (List.getElem?_eq_some_iff.1 ht).1; omega) ht
             rwa [Nat.zero_add]
            simp [this])
          go_wp2
          go_ret
          exact ⟨by rw [HW.out]; rfl, below_step BX.out HB.out⟩
      ·have e32 : (k == 32) = false := by simpa using n32
       by_cases e4 : m = 0
       ·have e5 : (m == 0) = true := by simpa using e4
        have e6 : (m != 0) = false := by simpa using e4
        have E4 := mkHid e4
        clear e4
        have HHT : Hid (formHead k s kk.length = true) := mkHid (by rw [HH.out]; simp [n40])
        have HNT : Hid (numOk k m = true) := mkHid (by simp [numOk, n1, n32, E4.out])
        have hn : kk.length ≤ maxLen := HN.out.2
        have hn2 : kk.length ≤ 2 ^ 63 - 1 := HN.out.2
        go_wp2
        go_loopw [6] (fun i w' => ∃ (j : Nat), j ≤ kk.length ∧ i = .int .i64 j ∧ (∀ j' t, j' < j → kk[j']? = some t → (kidI k kk.length j' (kindT t) && formedT t) = true) ∧ Below w2.heap.size w2 w') (fun i _ => kk.length - (intOf i).toNat)
        case atStart => exact ⟨0, Nat.zero_le _, rfl, fun j' t h => by omega, Below.refl _ _⟩
        case round =>
         obtain ⟨j, hj, rfl, hall, hbel⟩ := hrel
         have HA := mkHid hall
         have HB := mkHid hbel
         clear hall hbel p0 p1 p2 p3
         obtain ⟨P0, P1, P2, P3⟩ := FX.out.below HB.out
         have l9 : w.heap.size < wr.heap.size := World.block_lt_of_cell? wr _ P0
         by_cases hjl : j < kk.length
         ·obtain ⟨x, hx⟩ : ∃ x, kk[j]? = some x := ⟨_, List.getElem?_eq_getElem hjl⟩
          have HX := mkHid hx
          rcases (HK.out.below BX.out).below HB.out with h0 | ⟨b, o, hab, _, hll⟩
          ·rw [h0] at hx; simp at hx
          subst hab
          obtain ⟨xk, xs, xm, xkk⟩ := x
          obtain ⟨xa, xc, hc0, hc1, hc2, hc3, hxs, hkn, hkids⟩ := hll.at hx
          have l8 : b < wr.heap.size := World.block_lt_of_cell? wr _ hc0
          have HC := mkHid (fun W (hW : Below wr.heap.size wr W) => HI.out _ (List.mem_of_getElem? hx) xa xc W hxs hkn (hkids.below hW))
          have HKD := mkHid (fun W => kid_any k s m (some ⟨b, o, none⟩) kk.length c j xk W hn hjl)
          have i0 : (0 : Int) ≤ (j : Int) := by omega
          have i1 : (j : Int) < (kk.length : Int) := by omega
          generalize hkb : kidI k kk.length j xk = kb at HKD
          have HKB := mkHid hkb
          clear hx hxs hkn hkids hll hkb
          go_wp2
          generalize hfb : formedT (.node xk xs xm xkk) = fb at HC
          have HFB := mkHid hfb
          clear hfb
          cases kb
          ·have HW : Hid (formedT (.node k s m kk) = false) := mkHid (by
             rw [HF.out]
             have : formedL k kk.length 0 kk ≠ true := fun h => by
              have := (formedL_iff _ _ _ _).1 h j _ HX.out
              simp [kindT, HKB.out] at this
             simp [this])
           have hund : undef = Value.tuple #[] := rfl
           first | (go_region_with (first | (go_at_call 81; refine (HKD.out _).mono ?_; rintro e w4 ⟨rfl, hb4⟩; clear hc0 hc1 hc2 hc3))) | fail
           all_goals clear hund
           all_goals go_wp2
           all_goals go_ret
           all_goals exact ⟨by rw [HW.out]; rfl, below_step (below_step BX.out HB.out) (below_step (Below.refl _ _).drew hb4)⟩
          ·go_region_held3 (fun w' => w'.cell? ⟨w.heap.size, 0, none⟩ = some (.int .i64 k) ∧ w'.cell? ⟨w.heap.size, 1, none⟩ = some (.string s) ∧ w'.cell? ⟨w.heap.size, 2, none⟩ = some (.int .i64 m) ∧ w'.cell? ⟨w.heap.size, 3, none⟩ = some (.slice (some ⟨b, o, none⟩) kk.length c) ∧ w'.cell? ⟨b, o + j * 4, none⟩ = some (.int .i64 xk) ∧ w'.cell? ⟨b, o + j * 4 + 1, none⟩ = some (.string xs) ∧ w'.cell? ⟨b, o + j * 4 + 2, none⟩ = some (.int .i64 xm) ∧ w'.cell? ⟨b, o + j * 4 + 3, none⟩ = some (.slice xa xkk.length xc)) (first | exact ⟨P0, P1, P2, P3, hc0, hc1, hc2, hc3⟩ | exact ⟨(hc _ _ l9).trans P0, (hc _ _ l9).trans P1, (hc _ _ l9).trans P2, (hc _ _ l9).trans P3, (hc _ _ l8).trans hc0, (hc _ _ l8).trans hc1, (hc _ _ l8).trans hc2, (hc _ _ l8).trans hc3⟩) (first | (go_at_call 81; refine (HKD.out _).mono ?_; rintro e w4 ⟨rfl, hb4⟩; obtain ⟨hc, hf⟩ := bcell hb4) | (go_at_call 59; refine (HC.out _ (below_step (Below.refl _ _).drew hb4)).mono ?_; rintro e w5 ⟨rfl, hb5⟩; obtain ⟨hc', hf'⟩ := bcell hb5; have hc := fun (b o : Nat) (h : b < wr.drew.heap.size) => (hc' b o (Nat.lt_of_lt_of_le h hb4.size)).trans (hc b o h)))
           have HB5 := mkHid (below_step (below_step (below_step HB.out (Below.refl _ _).drew) hb4) hb5)
           clear hc hc' hf hf' hb4 hb5
           cases fb
           ·have HW : Hid (formedT (.node k s m kk) = false) := mkHid (by
              rw [HF.out]
              have : formedL k kk.length 0 kk ≠ true := fun h => by
               have := (formedL_iff _ _ _ _).1 h j _ HX.out
               simp [kindT, HFB.out] at this
              simp [this])
            go_wp2
            go_ret
            exact ⟨by rw [HW.out]; rfl, below_step BX.out HB5.out⟩
           ·go_wp2
            go_roundw
            case rel =>
             refine ⟨j + 1, by omega, by go_num, fun j' t h ht => ?_, HB5.out⟩
             rcases (by omega : j' < j ∨ j' = j) with h | rfl
             ·exact HA.out j' t h ht
             ·have e := HX.out.symm.trans ht
              simp only [Option.some.injEq] at e
              subst e
              simp [kindT, HKB.out, HFB.out]
            case measure => simp [intOf]; omega
         ·have HW : Hid (formedT (.node k s m kk) = true) := mkHid (by
            rw [HF.out, HHT.out, HNT.out]
            have : formedL k kk.length 0 kk = true := (formedL_iff _ _ _ _).2 fun j' t ht => by
             have := HA.out j' t (by have := (List.getElem?_eq_some_iff.1 ht).1; omega) ht
             rwa [Nat.zero_add]
            simp [this])
          go_wp2
          go_ret
          exact ⟨by rw [HW.out]; rfl, below_step BX.out HB.out⟩
       ·have e5 : (m == 0) = false := by simpa using e4
        have HW : Hid (formedT (.node k s m kk) = false) := mkHid (by rw [HF.out, show numOk k m = false by simp [numOk, n1, n32, e4]]; simp)
        go_wp2
        go_ret
        exact ⟨by rw [HW.out]; rfl, BX.out⟩
    ·have HBB := mkHid hB
     by_cases hB0 : ks < 0
     ·clear hB
      have HW : Hid (formedT (.node k s m kk) = false) := mkHid (by rw [HF.out, HH.out]; simp)
      go_wp2
      go_ret
      exact ⟨by rw [HW.out]; rfl, B0.out⟩
     ·have hke : ks = (kk.length : Int) := by omega
      subst hke
      clear hB hB0
      have HW : Hid (formedT (.node k s m kk) = false) := mkHid (by rw [HF.out, HH.out]; simp)
      go_wp2
      go_ret
      exact ⟨by rw [HW.out]; rfl, B0.out⟩
  ·have hB1 : ((kk.length : Int) == ks) = false := beq_eq_false_iff_ne.2 (by omega)
   have hB2 : (0 : Int) ≤ ks := by omega
   have HW : Hid (formedT (.node k s m kk) = false) := mkHid (by rw [HF.out, HH.out]; simp [hB])
   go_wp2
   go_ret
   exact ⟨by rw [HW.out]; rfl, B0.out⟩
end Go.Proofs.YtedfnadgmhjojaaGreatDoor
