/-
  CONTRACTS of the law's markSymS.
  CONTRACTS of the law's heldSymS.
  CONTRACTS of the law's eqSymSS, markSymSS, heldSymSS.
-/
import Derived.Test.YtodjmpocpfkpaaaGreatKx03
import Derived.Test.YtodjmpocpfkpaaaGreatKx04
namespace Go.Proofs.YtodjmpocpfkpaaaGreat
open Go.RowKit

set_option maxRecDepth 100000 in
set_option maxHeartbeats 1600000 in
theorem markSymS_of (l : List Y) (g cap base : Nat) (k0 : Int) (w : World) (hn : l.length ≤ 10000000) (h0 : 0 ≤ k0) (h1 : k0 ≤ 100000000) (hown : Own eY 65 w base (.slice (some ⟨g, 0, none⟩) l.length cap) l) :
  Calls Tryz.prog 53 #[.slice (some ⟨g, 0, none⟩) l.length cap, .int .i64 k0] w fun e w' => e = .returned (.int .i64 (k0 + (l.length : Int) * 2)) ∧ Own eY 65 w' base (.slice (some ⟨g, 0, none⟩) l.length cap) (marksY k0 l.length) ∧ w.grownBy w' (some g) := by
 have HO : Hid (w.ownsRow base 65 2 (.slice (some ⟨g, 0, none⟩) l.length cap) l.length (eY.flat l)) := mkHid hown
 clear hown
 go_enter Tryz.func53, Tryz.ntmps53
 go_wp2
 go_loopw [1, 5] (fun kv i w' => ∃ (k : Nat) (xs : List Value), k ≤ l.length ∧ i = .int .i64 k ∧ kv = .int .i64 (k0 + (k : Int) * 2) ∧ w'.ownsRow base 65 2 (.slice (some ⟨g, 0, none⟩) l.length cap) l.length xs ∧ xs.take (k * 2) = eY.flat ((marksY k0 l.length).take k) ∧ w.grownBy w' (some g)) (fun _ i _ => l.length - (intOf i).toNat)
 case atStart => exact ⟨0, _, Nat.zero_le _, rfl, by simp, HO.out, by simp [El.flat], World.grownBy.refl _ _⟩
 case round =>
  obtain ⟨k, xs, hk, rfl, rfl, hown, htake, hg⟩ := hrel
  have HW := mkHid hown
  have HT := mkHid htake
  have HG := mkHid hg
  clear hown htake hg HO
  by_cases hlt : k < l.length
  ·have HX := mkHid (marksY_get (k0 := k0) hlt)
   obtain ⟨z, hz⟩ : ∃ z, k0 + (k : Int) * 2 = z := ⟨_, rfl⟩
   have HZ := mkHid hz
   have hz0 : 0 ≤ z := by omega
   have hz1 : z ≤ 200000000 := by omega
   rw [hz] at HX
   rw [hz]
   clear hz
   have hxl := HW.out.1
   obtain ⟨u0, y0⟩ : ∃ v, wr.cell? ⟨g, k * 2, none⟩ = some v := ⟨_, (HW.out.cellAt (k * 2) (by omega)).trans (List.getElem?_eq_getElem (by omega))⟩
   have f0 := HW.out.frozenAt (k * 2)
   obtain ⟨u1, y1⟩ : ∃ v, wr.cell? ⟨g, k * 2 + 1, none⟩ = some v := ⟨_, (HW.out.cellAt (k * 2 + 1) (by omega)).trans (List.getElem?_eq_getElem (by omega))⟩
   have f1 := HW.out.frozenAt (k * 2 + 1)
   clear hxl
   have i0 : (0 : Int) ≤ (k : Int) := by omega
   have i1 : (k : Int) < (l.length : Int) := by omega
   have HA0 := mkHid (HW.out.stored (k * 2) (.int .i64 (z)))
   have HA1 := mkHid (HA0.out.1.stored (k * 2 + 1) (.int .i64 (z + 1)))
   go_wp2
   go_roundw
   case rel =>
    refine ⟨k + 1, _, by omega, by go_num, by congr 1; rw [← HZ.out]; omega, HA1.out.1, step_y HX.out (by rw [marksY_len]; exact HW.out.1) HT.out, (grown_trans (grown_trans HG.out HA0.out.2) HA1.out.2)⟩
   case measure => simp [intOf]; omega
  ·have e : k = l.length := by omega
   subst e
   have hown := HW.out
   have ht := HT.out
   rw [flat_upto (E := eY) (xs := xs) (l := marksY k0 l.length) (by rw [marksY_len]; exact HW.out.1) (by rw [marksY_len]; exact ht)] at hown
   have HW := mkHid hown
   clear hown ht HT
   go_wp2
   go_ret
   refine ⟨ret_int' (by omega), ?_, HG.out⟩
   unfold Own
   rw [marksY_len]
   exact HW.out
set_option maxRecDepth 100000 in
set_option maxHeartbeats 400000 in
theorem markSymS_nil (a : Option Addr) (c : Nat) (k0 : Int) (w : World) :
  Calls Tryz.prog 53 #[.slice a 0 c, .int .i64 k0] w fun e w' => e = .returned (.int .i64 k0) ∧ w' = w := by
 go_enter Tryz.func53, Tryz.ntmps53
 go_wp2
 go_loopw [1, 5] (fun kv i w' => i = .int .i64 0 ∧ kv = .int .i64 k0 ∧ w' = w) (fun _ i _ => 0)
 case atStart => exact ⟨rfl, rfl, rfl⟩
 case round =>
  obtain ⟨rfl, rfl, rfl⟩ := hrel
  go_wp2
  go_ret
  exact ⟨rfl, rfl⟩
theorem markSymS_ok (l : List Y) (ao : Option Addr) (cap base : Nat) (k0 : Int) (w : World) (hn : l.length ≤ 10000000) (h0 : 0 ≤ k0) (h1 : k0 ≤ 100000000) (hown : Own eY 65 w base (.slice ao l.length cap) l) :
  Calls Tryz.prog 53 #[.slice ao l.length cap, .int .i64 k0] w fun e w' => e = .returned (.int .i64 (k0 + (l.length : Int) * 2)) ∧ Own eY 65 w' base (.slice ao l.length cap) (marksY k0 l.length) ∧ w.grownBy w' (Value.ownBlock (.slice ao l.length cap)) := by
 rcases hown.2 with ⟨e, h⟩ | ⟨g, cap', cur, e, _⟩
 ·have hl := List.length_eq_zero_iff.1 h
  subst hl
  refine (markSymS_nil ao cap k0 w).mono ?_
  rintro e w' ⟨rfl, rfl⟩
  exact ⟨ret_int' (by simp), hown, World.grownBy.refl _ _⟩
 ·simp at e
  obtain ⟨rfl, rfl⟩ := e
  exact markSymS_of l g cap base k0 w hn h0 h1 hown
end Go.Proofs.YtodjmpocpfkpaaaGreat
namespace Go.Proofs.YtodjmpocpfkpaaaGreat
open Go.RowKit

set_option maxRecDepth 100000 in
set_option maxHeartbeats 1600000 in
theorem heldSymS_of (n : Nat) (a : Option Addr) (c : Nat) (k0 : Int) (w : World) (hp : 0 < n) (hn : n ≤ 10000000) (h0 : 0 ≤ k0) (h1 : k0 ≤ 100000000) (hl : At eY w a (marksY k0 n)) :
  Calls Tryz.prog 54 #[.slice a n c, .int .i64 k0] w fun e w' => e = .returned (.int .i64 (k0 + (n : Int) * 2)) ∧ Below w.heap.size w w' := by
 obtain ⟨b, off, rfl, hlb, _⟩ := hl.cons (by rw [marksY_len]; exact hp)
 have HL := mkHid hl
 clear hl
 go_enter Tryz.func54, Tryz.ntmps54
 go_wp2
 go_loopw [1, 5] (fun kv i w' => ∃ (k : Nat), k ≤ n ∧ i = .int .i64 k ∧ kv = .int .i64 (k0 + (k : Int) * 2) ∧ Below w.heap.size w w') (fun _ i _ => n - (intOf i).toNat)
 case atStart => exact ⟨0, Nat.zero_le _, rfl, by simp, Below.refl _ _⟩
 case round =>
  obtain ⟨k, hk, rfl, rfl, hbel⟩ := hrel
  have HB := mkHid hbel
  by_cases hlt : k < n
  ·obtain ⟨_, _, e, hlc, hq⟩ := (HL.out.below hbel).cons (by rw [marksY_len]; exact hp)
   cases e
   have hx := marksY_get (k0 := k0) hlt
   obtain ⟨z, hz⟩ : ∃ z, k0 + (k : Int) * 2 = z := ⟨_, rfl⟩
   have HZ := mkHid hz
   have hz0 : 0 ≤ z := by omega
   have hz1 : z ≤ 200000000 := by omega
   rw [hz] at hx
   rw [hz]
   clear hz
   obtain ⟨c0, c1⟩ := get_y hq hx
   clear hx hbel hq
   have i0 : (0 : Int) ≤ (k : Int) := by omega
   have i1 : (k : Int) < (n : Int) := by omega
   have hnz0 : (z != z) = false := by simp
   have hnz1 : (z + 1 != z + 1) = false := by simp
   have HB1 := HB
   go_wp2
   go_roundw
   case rel => exact ⟨k + 1, by omega, by go_num, by congr 1; rw [← HZ.out]; omega, HB1.out⟩
   case measure => simp [intOf]; omega
  ·have e : k = n := by omega
   subst e
   go_wp2
   go_ret
   exact ⟨ret_int' (by omega), HB.out⟩
set_option maxRecDepth 100000 in
set_option maxHeartbeats 400000 in
theorem heldSymS_nil (a : Option Addr) (c : Nat) (k0 : Int) (w : World) :
  Calls Tryz.prog 54 #[.slice a 0 c, .int .i64 k0] w fun e w' => e = .returned (.int .i64 k0) ∧ w' = w := by
 go_enter Tryz.func54, Tryz.ntmps54
 go_wp2
 go_loopw [1, 5] (fun kv i w' => i = .int .i64 0 ∧ kv = .int .i64 k0 ∧ w' = w) (fun _ i _ => 0)
 case atStart => exact ⟨rfl, rfl, rfl⟩
 case round =>
  obtain ⟨rfl, rfl, rfl⟩ := hrel
  go_wp2
  go_ret
  exact ⟨rfl, rfl⟩
theorem heldSymS_ok (n : Nat) (a : Option Addr) (c : Nat) (k0 : Int) (w : World) (hn : n ≤ 10000000) (h0 : 0 ≤ k0) (h1 : k0 ≤ 100000000) (hl : At eY w a (marksY k0 n)) :
  Calls Tryz.prog 54 #[.slice a n c, .int .i64 k0] w fun e w' => e = .returned (.int .i64 (k0 + (n : Int) * 2)) ∧ Below w.heap.size w w' := by
 rcases Nat.eq_zero_or_pos n with rfl | h
 ·refine (heldSymS_nil a c k0 w).mono ?_
  rintro e w' ⟨rfl, rfl⟩
  exact ⟨ret_int' (by simp), Below.refl _ _⟩
 ·exact heldSymS_of n a c k0 w h hn h0 h1 hl
end Go.Proofs.YtodjmpocpfkpaaaGreat
namespace Go.Proofs.YtodjmpocpfkpaaaGreat
open Go.RowKit

set_option maxRecDepth 100000 in
set_option maxHeartbeats 800000 in
theorem eqSymSS_of (ls : List (List Y)) (b off c b' off' c' : Nat) (w : World) (hn : ls.length ≤ maxLen) (hr : ∀ (i : Nat) (l : List Y), ls[i]? = some l → l.length ≤ maxLen)
  (hl : ∀ (i : Nat) (l : List Y), ls[i]? = some l → ∃ ao cap, w.cell? ⟨b, off + i, none⟩ = some (.slice ao l.length cap) ∧ At eY w ao l)
  (hl' : ∀ (i : Nat) (l : List Y), ls[i]? = some l → ∃ ao cap, w.cell? ⟨b', off' + i, none⟩ = some (.slice ao l.length cap) ∧ At eY w ao l) :
  Calls Tryz.prog 26 #[.slice (some ⟨b, off, none⟩) ls.length c, .slice (some ⟨b', off', none⟩) ls.length c'] w fun e w' => e = .returned (.bool true) ∧ Below w.heap.size w w' := by
 unfold maxLen at hn
 have HR := mkHid hr
 have HL := mkHid hl
 have HL' := mkHid hl'
 clear hl hl' hr
 go_enter Tryz.func26, Tryz.ntmps26
 go_wp2
 go_loopw [5] (fun i w' => ∃ (k : Nat), k ≤ ls.length ∧ i = .int .i64 k ∧ Below w.heap.size w w') (fun i _ => ls.length - (intOf i).toNat)
 case atStart => exact ⟨0, Nat.zero_le _, rfl, Below.refl _ _⟩
 case round =>
  obtain ⟨k, hk, rfl, hbel⟩ := hrel
  have HB := mkHid hbel
  by_cases hlt : k < ls.length
  ·obtain ⟨l, hx⟩ : ∃ l, ls[k]? = some l := ⟨_, List.getElem?_eq_getElem hlt⟩
   obtain ⟨xa, xc, h1, hi1⟩ := HL.out k l hx
   obtain ⟨ya, yc, h2, hi2⟩ := HL'.out k l hx
   have HM := mkHid (HR.out k l hx)
   have hc1 : wr.cell? ⟨b, off + k, none⟩ = some (.slice xa l.length xc) := (hbel.cell (p := ⟨b, off + k, none⟩) (World.block_lt_of_cell? w _ h1)).trans h1
   have hc2 : wr.cell? ⟨b', off' + k, none⟩ = some (.slice ya l.length yc) := (hbel.cell (p := ⟨b', off' + k, none⟩) (World.block_lt_of_cell? w _ h2)).trans h2
   have HK := mkHid (hi1.below hbel)
   have HK' := mkHid (hi2.below hbel)
   have hlb := World.block_lt_of_cell? wr _ hc1
   have hlb' := World.block_lt_of_cell? wr _ hc2
   dsimp only at hlb hlb'
   clear hx h1 h2 hbel hi1 hi2
   have i0 : (0 : Int) ≤ (k : Int) := by omega
   have i1 : (k : Int) < (ls.length : Int) := by omega
   go_wp2
   go_region_held3 (fun w' => w'.cell? ⟨b, off + k, none⟩ = some (.slice xa l.length xc) ∧ w'.cell? ⟨b', off' + k, none⟩ = some (.slice ya l.length yc)) (first | exact ⟨hc1, hc2⟩ | exact ⟨(hc _ _ hlb).trans hc1, (hc _ _ hlb').trans hc2⟩)
    (first | (go_at_call 51; refine (eqSymS_same l xa ya xc yc _ HM.out (HK.out.below (Below.refl _ _).drew) (HK'.out.below (Below.refl _ _).drew)).mono ?_; rintro e w1 ⟨rfl, hb1⟩; obtain ⟨hc, hf⟩ := bcell hb1))
   have HB1 : Hid (Below w.heap.size w w1) := HB.out.drew.trans (hb1.mono HB.out.drew.size)
   clear hb1 hc hf
   go_wp2
   go_roundw
   case rel => exact ⟨k + 1, by omega, by go_num, HB1.out⟩
   case measure => simp [intOf]; omega
  ·go_wp2
   go_ret
   exact ⟨rfl, HB.out⟩
set_option maxRecDepth 100000 in
set_option maxHeartbeats 400000 in
theorem eqSymSS_nil (a a' : Option Addr) (c c' : Nat) (w : World) : Calls Tryz.prog 26 #[.slice a 0 c, .slice a' 0 c'] w fun e w' => e = .returned (.bool true) ∧ Below w.heap.size w w' := by
 go_enter Tryz.func26, Tryz.ntmps26
 go_wp2
 go_loopw [5] (fun i w' => i = .int .i64 0 ∧ w' = w) (fun i _ => 0)
 case atStart => exact ⟨rfl, rfl⟩
 case round =>
  obtain ⟨rfl, rfl⟩ := hrel
  go_wp2
  go_ret
  exact ⟨rfl, Below.refl _ _⟩
theorem eqSymSS_ok (ls : List (List Y)) (a a' : Option Addr) (c c' : Nat) (w : World) (hn : ls.length ≤ maxLen) (hr : ∀ (i : Nat) (l : List Y), ls[i]? = some l → l.length ≤ maxLen) (hl : BndsAt w a ls) (hl' : BndsAt w a' ls) :
  Calls Tryz.prog 26 #[.slice a ls.length c, .slice a' ls.length c'] w fun e w' => e = .returned (.bool true) ∧ Below w.heap.size w w' := by
 rcases hl with rfl | ⟨b, o, rfl, hl⟩
 ·exact eqSymSS_nil a a' c c' w
 ·rcases hl' with rfl | ⟨b', o', rfl, hl'⟩
  ·exact eqSymSS_nil _ a' c c' w
  ·exact eqSymSS_of ls b o c b' o' c' w hn hr hl hl'

set_option maxRecDepth 100000 in
set_option maxHeartbeats 800000 in
theorem markSymSS_of (ls : List (List Y)) (g cap base : Nat) (k0 : Int) (w : World) (hn : ls.length ≤ 2000000) (hr : ∀ (i : Nat) (l : List Y), ls[i]? = some l → l.length ≤ 2000000) (ht : tot ls ≤ 2000000) (h0 : 0 ≤ k0) (h1 : k0 ≤ 20000000) (hi : Nat) (vs : List Value) (hv1 : w.ownsRow base 63 1 (.slice (some ⟨g, 0, none⟩) ls.length cap) ls.length vs) (hv2 : Inn w base vs ls) (htop : ∀ (i : Nat) (u : Value) (q : Nat), vs[i]? = some u → u.ownBlock = some q → q < hi) :
  Calls Tryz.prog 29 #[.slice (some ⟨g, 0, none⟩) ls.length cap, .int .i64 k0] w fun e w' => e = .returned (.int .i64 (k0 + (tot ls : Int) * 2)) ∧ w'.ownsRow base 63 1 (.slice (some ⟨g, 0, none⟩) ls.length cap) ls.length vs ∧ Inn w' base vs (marksYY k0 ls) ∧ Outs base hi w w' ∧ Keeps 65 w w' := by
 have HTOP := mkHid htop
 clear htop
 have HV := mkHid hv1
 have HI := mkHid hv2
 have HR := mkHid hr
 have hvl := hv2.1
 clear hv1 hv2 hr
 go_enter Tryz.func29, Tryz.ntmps29
 go_wp2
 go_loopw [1, 5] (fun kv i w' => ∃ (j : Nat), j ≤ ls.length ∧ i = .int .i64 j ∧ kv = .int .i64 (k0 + (tot (ls.take j) : Int) * 2) ∧ w'.ownsRow base 63 1 (.slice (some ⟨g, 0, none⟩) ls.length cap) ls.length vs ∧ Inn w' base vs (partYY k0 ls j) ∧ Outs base hi w w' ∧ Keeps 65 w w') (fun _ i _ => ls.length - (intOf i).toNat)
 case atStart => exact ⟨0, Nat.zero_le _, rfl, by simp [tot], HV.out, by rw [partYY_zero]; exact HI.out, Outs.refl _ _ _, Keeps.refl _ _⟩
 case round =>
  obtain ⟨j, hj, rfl, rfl, hown, hinn, hbel, hkee⟩ := hrel
  have HKE := mkHid hkee
  clear hkee
  have HW := mkHid hown
  have HN := mkHid hinn
  have HB := mkHid hbel
  clear hown hinn hbel HV HI
  by_cases hlt : j < ls.length
  ·obtain ⟨l, hx⟩ : ∃ l, ls[j]? = some l := ⟨_, List.getElem?_eq_getElem hlt⟩
   obtain ⟨v, hv⟩ : ∃ v, vs[j]? = some v := ⟨_, List.getElem?_eq_getElem (by omega)⟩
   have ho := HN.out.2.1 j v l hv (partYY_get hx)
   obtain ⟨ao, cp, rfl⟩ := ho.form
   have c0 : wr.cell? ⟨g, j, none⟩ = some (.slice ao l.length cp) := (HW.out.cellAt j (by omega)).trans hv
   have hll := HR.out j l hx
   have ht1 := tot_take_le ls j
   have ht2 := tot_take_succ hx
   have ht3 := tot_take_le ls (j + 1)
   have HX := mkHid hx
   have HVJ := mkHid hv
   have HO := mkHid ho
   have HT2 := mkHid ht2
   clear hx hv ho ht2
   go_wp2_with fail
   refine (markSymS_ok l ao cp base _ _ (by omega) (by omega) (by omega) HO.out).mono ?_
   rintro e w1 ⟨rfl, ho1, hg1⟩
   have N1 : Hid (Inn w1 base vs (partYY k0 ls (j + 1))) := mkHid (by rw [← partYY_set HX.out]; exact HN.out.wrote HVJ.out ho1 hg1)
   have K1 : Hid (Keeps 65 w w1) := mkHid (HKE.out.trans (Keeps.grown hg1 fun q hq => by obtain ⟨cur, hc⟩ := HO.out.block hq; exact ⟨cur, _, hc⟩))
   have B1 : Hid (Outs base hi w w1) := mkHid (HB.out.grown hg1 (fun q hq => ⟨(HO.out.lt hq).1, HTOP.out j _ q HVJ.out hq⟩))
   have W1 : Hid (w1.ownsRow base 63 1 (.slice (some ⟨g, 0, none⟩) ls.length cap) ls.length vs) := mkHid (World.ownsRow.kept HW.out hg1 (.inr fun e => by
    obtain ⟨cur, hcur⟩ := HO.out.block (q := g) (by rw [← e]; rfl)
    rcases HW.out.2 with ⟨e2, _⟩ | ⟨g2, _, cur2, e2, _, hg2, _⟩
    ·simp at e2
    ·simp at e2
     obtain ⟨rfl, rfl⟩ := e2
     rw [hcur] at hg2
     simp at hg2))
   clear ho1 hg1 HN HB HW
   go_wp2
   go_roundw
   case rel => exact ⟨j + 1, by omega, by go_num, by rw [HT2.out]; congr 1; omega, W1.out, N1.out, B1.out, K1.out⟩
   case measure => simp [intOf]; omega
  ·have e : j = ls.length := by omega
   subst e
   have hN := HN.out
   rw [partYY_all] at hN
   have HN := mkHid hN
   rw [List.take_length]
   clear hN
   go_wp2
   go_ret
   exact ⟨rfl, HW.out, HN.out, HB.out, HKE.out⟩
set_option maxRecDepth 100000 in
set_option maxHeartbeats 400000 in
theorem markSymSS_nil (a : Option Addr) (c : Nat) (k0 : Int) (w : World) :
  Calls Tryz.prog 29 #[.slice a 0 c, .int .i64 k0] w fun e w' => e = .returned (.int .i64 k0) ∧ w' = w := by
 go_enter Tryz.func29, Tryz.ntmps29
 go_wp2
 go_loopw [1, 5] (fun kv i w' => i = .int .i64 0 ∧ kv = .int .i64 k0 ∧ w' = w) (fun _ i _ => 0)
 case atStart => exact ⟨rfl, rfl, rfl⟩
 case round =>
  obtain ⟨rfl, rfl, rfl⟩ := hrel
  go_wp2
  go_ret
  exact ⟨rfl, rfl⟩
theorem markSymSS_ok (ls : List (List Y)) (ao : Option Addr) (cap base hi : Nat) (k0 : Int) (w : World) (hn : ls.length ≤ 2000000) (hr : ∀ (i : Nat) (l : List Y), ls[i]? = some l → l.length ≤ 2000000) (ht : tot ls ≤ 2000000) (h0 : 0 ≤ k0) (h1 : k0 ≤ 20000000) (hown : OwnT w base hi (.slice ao ls.length cap) ls) :
  Calls Tryz.prog 29 #[.slice ao ls.length cap, .int .i64 k0] w fun e w' => e = .returned (.int .i64 (k0 + (tot ls : Int) * 2)) ∧ OwnT w' base hi (.slice ao ls.length cap) (marksYY k0 ls) ∧ Outs base hi w w' ∧ Keeps 65 w w' := by
 obtain ⟨vs, hv1, hv2, hv3, hv4⟩ := hown
 rcases hv1.2 with ⟨e, h⟩ | ⟨g, cap', cur, e, _⟩
 ·have hl := List.length_eq_zero_iff.1 h
  subst hl
  refine (markSymSS_nil ao cap k0 w).mono ?_
  rintro e w' ⟨rfl, rfl⟩
  exact ⟨ret_int' (by simp [tot]), ⟨vs, hv1, hv2, hv3, hv4⟩, Outs.refl _ _ _, Keeps.refl _ _⟩
 ·simp at e
  obtain ⟨rfl, rfl⟩ := e
  refine (markSymSS_of ls g cap base k0 w hn hr ht h0 h1 hi vs hv1 hv2 hv4).mono ?_
  rintro e w' ⟨rfl, h1, h2, h3⟩
  exact ⟨rfl, ⟨vs, by rw [marksYY_len]; exact h1, h2, hv3, hv4⟩, h3⟩

set_option maxRecDepth 100000 in
set_option maxHeartbeats 800000 in
theorem heldSymSS_of (ls : List (List Y)) (b off c : Nat) (k0 : Int) (w : World) (hn : ls.length ≤ 2000000) (hr : ∀ (i : Nat) (l : List Y), ls[i]? = some l → l.length ≤ 2000000) (ht : tot ls ≤ 2000000) (h0 : 0 ≤ k0) (h1 : k0 ≤ 20000000)
  (hl : ∀ (i : Nat) (l : List Y), (marksYY k0 ls)[i]? = some l → ∃ ao cap, w.cell? ⟨b, off + i, none⟩ = some (.slice ao l.length cap) ∧ At eY w ao l) :
  Calls Tryz.prog 32 #[.slice (some ⟨b, off, none⟩) ls.length c, .int .i64 k0] w fun e w' => e = .returned (.int .i64 (k0 + (tot ls : Int) * 2)) ∧ Below w.heap.size w w' := by
 have HL := mkHid hl
 have HR := mkHid hr
 clear hl hr
 go_enter Tryz.func32, Tryz.ntmps32
 go_wp2
 go_loopw [1, 5] (fun kv i w' => ∃ (j : Nat), j ≤ ls.length ∧ i = .int .i64 j ∧ kv = .int .i64 (k0 + (tot (ls.take j) : Int) * 2) ∧ Below w.heap.size w w') (fun _ i _ => ls.length - (intOf i).toNat)
 case atStart => exact ⟨0, Nat.zero_le _, rfl, by simp [tot], Below.refl _ _⟩
 case round =>
  obtain ⟨j, hj, rfl, rfl, hbel⟩ := hrel
  have HB := mkHid hbel
  by_cases hlt : j < ls.length
  ·obtain ⟨l, hx⟩ : ∃ l, ls[j]? = some l := ⟨_, List.getElem?_eq_getElem hlt⟩
   obtain ⟨ao, cp, c00, hat0⟩ := HL.out j _ (marksYY_get hx)
   rw [marksY_len] at c00
   have c0 : wr.cell? ⟨b, off + j, none⟩ = some (.slice ao l.length cp) := (hbel.cell (p := ⟨b, off + j, none⟩) (World.block_lt_of_cell? w _ c00)).trans c00
   have hat := hat0.below hbel
   clear c00 hat0 hbel
   have hll := HR.out j l hx
   have ht1 := tot_take_le ls j
   have ht2 := tot_take_succ hx
   have ht3 := tot_take_le ls (j + 1)
   have HT2 := mkHid ht2
   have HAT := mkHid hat
   have hq : ¬ (k0 + (tot (ls.take j) : Int) * 2 + (l.length : Int) * 2 < 0) := by omega
   clear hx ht2 hat
   go_wp2_with fail
   refine (heldSymS_ok l.length ao cp _ _ (by omega) (by omega) (by omega) HAT.out).mono ?_
   rintro e w1 ⟨rfl, hb1⟩
   have HB1 := mkHid (below_step HB.out hb1)
   clear hb1
   go_wp2
   go_roundw
   case rel => exact ⟨j + 1, by omega, by go_num, by rw [HT2.out]; congr 1; omega, HB1.out⟩
   case measure => simp [intOf]; omega
  ·have e : j = ls.length := by omega
   subst e
   rw [List.take_length]
   go_wp2
   go_ret
   exact ⟨rfl, HB.out⟩
set_option maxRecDepth 100000 in
set_option maxHeartbeats 400000 in
theorem heldSymSS_nil (a : Option Addr) (c : Nat) (k0 : Int) (w : World) :
  Calls Tryz.prog 32 #[.slice a 0 c, .int .i64 k0] w fun e w' => e = .returned (.int .i64 k0) ∧ w' = w := by
 go_enter Tryz.func32, Tryz.ntmps32
 go_wp2
 go_loopw [1, 5] (fun kv i w' => i = .int .i64 0 ∧ kv = .int .i64 k0 ∧ w' = w) (fun _ i _ => 0)
 case atStart => exact ⟨rfl, rfl, rfl⟩
 case round =>
  obtain ⟨rfl, rfl, rfl⟩ := hrel
  go_wp2
  go_ret
  exact ⟨rfl, rfl⟩
theorem heldSymSS_ok (ls : List (List Y)) (a : Option Addr) (c : Nat) (k0 : Int) (w : World) (hn : ls.length ≤ 2000000) (hr : ∀ (i : Nat) (l : List Y), ls[i]? = some l → l.length ≤ 2000000) (ht : tot ls ≤ 2000000) (h0 : 0 ≤ k0) (h1 : k0 ≤ 20000000) (hl : BndsAt w a (marksYY k0 ls)) :
  Calls Tryz.prog 32 #[.slice a ls.length c, .int .i64 k0] w fun e w' => e = .returned (.int .i64 (k0 + (tot ls : Int) * 2)) ∧ Below w.heap.size w w' := by
 rcases hl with h | ⟨b, o, rfl, hl⟩
 ·have h' : ls = [] := by
   have := marksYY_len k0 ls
   rw [h] at this
   exact List.length_eq_zero_iff.1 this.symm
  subst h'
  refine (heldSymSS_nil a c k0 w).mono ?_
  rintro e w' ⟨rfl, rfl⟩
  exact ⟨ret_int' (by simp [tot]), Below.refl _ _⟩
 ·exact heldSymSS_of ls b o c k0 w hn hr ht h0 h1 hl
end Go.Proofs.YtodjmpocpfkpaaaGreat
