/-
  CONTRACTS of the law's eqSymSS, markSymSS, heldSymSS.
  CONTRACTS of the law's eqSeg, markSeg, heldSeg.
  PURE: what the specification asks of a Seg, row by row.
-/
import Derived.Test.YtihpajiololfoaaGreatSh02
import Derived.Test.YtihpajiololfoaaGreatSh04
import Derived.Test.YtihpajiololfoaaGreatSh03
namespace Go.Proofs.YtihpajiololfoaaGreat
open Go.RowKit

set_option maxRecDepth 100000 in
set_option maxHeartbeats 800000 in
theorem eqSymSS_of (ls : List (List Y)) (b off c b' off' c' : Nat) (w : World) (hn : ls.length ≤ maxLen) (hr : ∀ (i : Nat) (l : List Y), ls[i]? = some l → l.length ≤ maxLen)
  (hl : ∀ (i : Nat) (l : List Y), ls[i]? = some l → ∃ ao cap, w.cell? ⟨b, off + i, none⟩ = some (.slice ao l.length cap) ∧ At eY w ao l)
  (hl' : ∀ (i : Nat) (l : List Y), ls[i]? = some l → ∃ ao cap, w.cell? ⟨b', off' + i, none⟩ = some (.slice ao l.length cap) ∧ At eY w ao l) :
  Calls Tryz.prog 46 #[.slice (some ⟨b, off, none⟩) ls.length c, .slice (some ⟨b', off', none⟩) ls.length c'] w fun e w' => e = .returned (.bool true) ∧ Below w.heap.size w w' := by
 unfold maxLen at hn
 have HR := mkHid hr
 have HL := mkHid hl
 have HL' := mkHid hl'
 clear hl hl' hr
 go_enter Tryz.func46, Tryz.ntmps46
 go_wp2
 go_loopw [5] (fun i w' => ∃ (k : Nat), k ≤ ls.length ∧ i = .int .i64 k ∧ Below w.heap.size w w') (fun i _ => ls.length - (intOf i).toNat)
 case atStart => exact ⟨0, Nat.zero_le _, rfl, Below.refl _ _⟩
 case round =>
  obtain ⟨k, hk, rfl, hbel⟩ := hrel
  have HB := mkHid hbel
  by_cases hlt : k < ls.length
  ·obtain ⟨l, hx⟩ : ∃ l, ls[k]? = some l := ⟨_, List.getElem?_eq_getElem hlt⟩
   obtain ⟨xa, xc, h1, hi1⟩ := HL.out k l hx
   obtain ⟨ya, yc, h2, hi2⟩ := HL'.out k l hx
   have HM := mkHid (HR.out k l hx)
   have hc1 : wr.cell? ⟨b, off + k, none⟩ = some (.slice xa l.length xc) := (hbel.cell (p := ⟨b, off + k, none⟩) (World.block_lt_of_cell? w _ h1)).trans h1
   have hc2 : wr.cell? ⟨b', off' + k, none⟩ = some (.slice ya l.length yc) := (hbel.cell (p := ⟨b', off' + k, none⟩) (World.block_lt_of_cell? w _ h2)).trans h2
   have HK := mkHid (hi1.below hbel)
   have HK' := mkHid (hi2.below hbel)
   have hlb := World.block_lt_of_cell? wr _ hc1
   have hlb' := World.block_lt_of_cell? wr _ hc2
   dsimp only at hlb hlb'
   clear hx h1 h2 hbel hi1 hi2
   have i0 : (0 : Int) ≤ (k : Int) := by omega
   have i1 : (k : Int) < (ls.length : Int) := by omega
   go_wp2
   go_region_held3 (fun w' => w'.cell? ⟨b, off + k, none⟩ = some (.slice xa l.length xc) ∧ w'.cell? ⟨b', off' + k, none⟩ = some (.slice ya l.length yc)) (first | exact ⟨hc1, hc2⟩ | exact ⟨(hc _ _ hlb).trans hc1, (hc _ _ hlb').trans hc2⟩)
    (first | (go_at_call 92; refine (eqSymS_same l xa ya xc yc _ HM.out (HK.out.below (Below.refl _ _).drew) (HK'.out.below (Below.refl _ _).drew)).mono ?_; rintro e w1 ⟨rfl, hb1⟩; obtain ⟨hc, hf⟩ := bcell hb1))
   have HB1 : Hid (Below w.heap.size w w1) := HB.out.drew.trans (hb1.mono HB.out.drew.size)
   clear hb1 hc hf
   go_wp2
   go_roundw
   case rel => exact ⟨k + 1, by omega, by go_num, HB1.out⟩
   case measure => simp [intOf]; omega
  ·go_wp2
   go_ret
   exact ⟨rfl, HB.out⟩
set_option maxRecDepth 100000 in
set_option maxHeartbeats 400000 in
theorem eqSymSS_nil (a a' : Option Addr) (c c' : Nat) (w : World) : Calls Tryz.prog 46 #[.slice a 0 c, .slice a' 0 c'] w fun e w' => e = .returned (.bool true) ∧ Below w.heap.size w w' := by
 go_enter Tryz.func46, Tryz.ntmps46
 go_wp2
 go_loopw [5] (fun i w' => i = .int .i64 0 ∧ w' = w) (fun i _ => 0)
 case atStart => exact ⟨rfl, rfl⟩
 case round =>
  obtain ⟨rfl, rfl⟩ := hrel
  go_wp2
  go_ret
  exact ⟨rfl, Below.refl _ _⟩
theorem eqSymSS_ok (ls : List (List Y)) (a a' : Option Addr) (c c' : Nat) (w : World) (hn : ls.length ≤ maxLen) (hr : ∀ (i : Nat) (l : List Y), ls[i]? = some l → l.length ≤ maxLen) (hl : BndsAt w a ls) (hl' : BndsAt w a' ls) :
  Calls Tryz.prog 46 #[.slice a ls.length c, .slice a' ls.length c'] w fun e w' => e = .returned (.bool true) ∧ Below w.heap.size w w' := by
 rcases hl with rfl | ⟨b, o, rfl, hl⟩
 ·exact eqSymSS_nil a a' c c' w
 ·rcases hl' with rfl | ⟨b', o', rfl, hl'⟩
  ·exact eqSymSS_nil _ a' c c' w
  ·exact eqSymSS_of ls b o c b' o' c' w hn hr hl hl'

set_option maxRecDepth 100000 in
set_option maxHeartbeats 800000 in
theorem markSymSS_of (ls : List (List Y)) (g cap base : Nat) (k0 : Int) (w : World) (hn : ls.length ≤ 2000000) (hr : ∀ (i : Nat) (l : List Y), ls[i]? = some l → l.length ≤ 2000000) (ht : tot ls ≤ 2000000) (h0 : 0 ≤ k0) (h1 : k0 ≤ 20000000) (hi : Nat) (vs : List Value) (hv1 : w.ownsRow base 113 1 (.slice (some ⟨g, 0, none⟩) ls.length cap) ls.length vs) (hv2 : Inn w base vs ls) (htop : ∀ (i : Nat) (u : Value) (q : Nat), vs[i]? = some u → u.ownBlock = some q → q < hi) :
  Calls Tryz.prog 50 #[.slice (some ⟨g, 0, none⟩) ls.length cap, .int .i64 k0] w fun e w' => e = .returned (.int .i64 (k0 + (tot ls : Int) * 2)) ∧ w'.ownsRow base 113 1 (.slice (some ⟨g, 0, none⟩) ls.length cap) ls.length vs ∧ Inn w' base vs (marksYY k0 ls) ∧ Outs base hi w w' ∧ Keeps 49 w w' := by
 have HTOP := mkHid htop
 clear htop
 have HV := mkHid hv1
 have HI := mkHid hv2
 have HR := mkHid hr
 have hvl := hv2.1
 clear hv1 hv2 hr
 go_enter Tryz.func50, Tryz.ntmps50
 go_wp2
 go_loopw [1, 5] (fun kv i w' => ∃ (j : Nat), j ≤ ls.length ∧ i = .int .i64 j ∧ kv = .int .i64 (k0 + (tot (ls.take j) : Int) * 2) ∧ w'.ownsRow base 113 1 (.slice (some ⟨g, 0, none⟩) ls.length cap) ls.length vs ∧ Inn w' base vs (partYY k0 ls j) ∧ Outs base hi w w' ∧ Keeps 49 w w') (fun _ i _ => ls.length - (intOf i).toNat)
 case atStart => exact ⟨0, Nat.zero_le _, rfl, by simp [tot], HV.out, by rw [partYY_zero]; exact HI.out, Outs.refl _ _ _, Keeps.refl _ _⟩
 case round =>
  obtain ⟨j, hj, rfl, rfl, hown, hinn, hbel, hkee⟩ := hrel
  have HKE := mkHid hkee
  clear hkee
  have HW := mkHid hown
  have HN := mkHid hinn
  have HB := mkHid hbel
  clear hown hinn hbel HV HI
  by_cases hlt : j < ls.length
  ·obtain ⟨l, hx⟩ : ∃ l, ls[j]? = some l := ⟨_, List.getElem?_eq_getElem hlt⟩
   obtain ⟨v, hv⟩ : ∃ v, vs[j]? = some v := ⟨_, List.getElem?_eq_getElem (by omega)⟩
   have ho := HN.out.2.1 j v l hv (partYY_get hx)
   obtain ⟨ao, cp, rfl⟩ := ho.form
   have c0 : wr.cell? ⟨g, j, none⟩ = some (.slice ao l.length cp) := (HW.out.cellAt j (by omega)).trans hv
   have hll := HR.out j l hx
   have ht1 := tot_take_le ls j
   have ht2 := tot_take_succ hx
   have ht3 := tot_take_le ls (j + 1)
   have HX := mkHid hx
   have HVJ := mkHid hv
   have HO := mkHid ho
   have HT2 := mkHid ht2
   clear hx hv ho ht2
   go_wp2_with fail
   refine (markSymS_ok l ao cp base _ _ (by omega) (by omega) (by omega) HO.out).mono ?_
   rintro e w1 ⟨rfl, ho1, hg1⟩
   have N1 : Hid (Inn w1 base vs (partYY k0 ls (j + 1))) := mkHid (by rw [← partYY_set HX.out]; exact HN.out.wrote HVJ.out ho1 hg1)
   have K1 : Hid (Keeps 49 w w1) := mkHid (HKE.out.trans (Keeps.grown hg1 fun q hq => by obtain ⟨cur, hc⟩ := HO.out.block hq; exact ⟨cur, _, hc⟩))
   have B1 : Hid (Outs base hi w w1) := mkHid (HB.out.grown hg1 (fun q hq => ⟨(HO.out.lt hq).1, HTOP.out j _ q HVJ.out hq⟩))
   have W1 : Hid (w1.ownsRow base 113 1 (.slice (some ⟨g, 0, none⟩) ls.length cap) ls.length vs) := mkHid (World.ownsRow.kept HW.out hg1 (.inr fun e => by
    obtain ⟨cur, hcur⟩ := HO.out.block (q := g) (by rw [← e]; rfl)
    rcases HW.out.2 with ⟨e2, _⟩ | ⟨g2, _, cur2, e2, _, hg2, _⟩
    ·simp at e2
    ·simp at e2
     obtain ⟨rfl, rfl⟩ := e2
     rw [hcur] at hg2
     simp at hg2))
   clear ho1 hg1 HN HB HW
   go_wp2
   go_roundw
   case rel => exact ⟨j + 1, by omega, by go_num, by rw [HT2.out]; congr 1; omega, W1.out, N1.out, B1.out, K1.out⟩
   case measure => simp [intOf]; omega
  ·have e : j = ls.length := by omega
   subst e
   have hN := HN.out
   rw [partYY_all] at hN
   have HN := mkHid hN
   rw [List.take_length]
   clear hN
   go_wp2
   go_ret
   exact ⟨rfl, HW.out, HN.out, HB.out, HKE.out⟩
set_option maxRecDepth 100000 in
set_option maxHeartbeats 400000 in
theorem markSymSS_nil (a : Option Addr) (c : Nat) (k0 : Int) (w : World) :
  Calls Tryz.prog 50 #[.slice a 0 c, .int .i64 k0] w fun e w' => e = .returned (.int .i64 k0) ∧ w' = w := by
 go_enter Tryz.func50, Tryz.ntmps50
 go_wp2
 go_loopw [1, 5] (fun kv i w' => i = .int .i64 0 ∧ kv = .int .i64 k0 ∧ w' = w) (fun _ i _ => 0)
 case atStart => exact ⟨rfl, rfl, rfl⟩
 case round =>
  obtain ⟨rfl, rfl, rfl⟩ := hrel
  go_wp2
  go_ret
  exact ⟨rfl, rfl⟩
theorem markSymSS_ok (ls : List (List Y)) (ao : Option Addr) (cap base hi : Nat) (k0 : Int) (w : World) (hn : ls.length ≤ 2000000) (hr : ∀ (i : Nat) (l : List Y), ls[i]? = some l → l.length ≤ 2000000) (ht : tot ls ≤ 2000000) (h0 : 0 ≤ k0) (h1 : k0 ≤ 20000000) (hown : OwnT w base hi (.slice ao ls.length cap) ls) :
  Calls Tryz.prog 50 #[.slice ao ls.length cap, .int .i64 k0] w fun e w' => e = .returned (.int .i64 (k0 + (tot ls : Int) * 2)) ∧ OwnT w' base hi (.slice ao ls.length cap) (marksYY k0 ls) ∧ Outs base hi w w' ∧ Keeps 49 w w' := by
 obtain ⟨vs, hv1, hv2, hv3, hv4⟩ := hown
 rcases hv1.2 with ⟨e, h⟩ | ⟨g, cap', cur, e, _⟩
 ·have hl := List.length_eq_zero_iff.1 h
  subst hl
  refine (markSymSS_nil ao cap k0 w).mono ?_
  rintro e w' ⟨rfl, rfl⟩
  exact ⟨ret_int' (by simp [tot]), ⟨vs, hv1, hv2, hv3, hv4⟩, Outs.refl _ _ _, Keeps.refl _ _⟩
 ·simp at e
  obtain ⟨rfl, rfl⟩ := e
  refine (markSymSS_of ls g cap base k0 w hn hr ht h0 h1 hi vs hv1 hv2 hv4).mono ?_
  rintro e w' ⟨rfl, h1, h2, h3⟩
  exact ⟨rfl, ⟨vs, by rw [marksYY_len]; exact h1, h2, hv3, hv4⟩, h3⟩

set_option maxRecDepth 100000 in
set_option maxHeartbeats 800000 in
theorem heldSymSS_of (ls : List (List Y)) (b off c : Nat) (k0 : Int) (w : World) (hn : ls.length ≤ 2000000) (hr : ∀ (i : Nat) (l : List Y), ls[i]? = some l → l.length ≤ 2000000) (ht : tot ls ≤ 2000000) (h0 : 0 ≤ k0) (h1 : k0 ≤ 20000000)
  (hl : ∀ (i : Nat) (l : List Y), (marksYY k0 ls)[i]? = some l → ∃ ao cap, w.cell? ⟨b, off + i, none⟩ = some (.slice ao l.length cap) ∧ At eY w ao l) :
  Calls Tryz.prog 54 #[.slice (some ⟨b, off, none⟩) ls.length c, .int .i64 k0] w fun e w' => e = .returned (.int .i64 (k0 + (tot ls : Int) * 2)) ∧ Below w.heap.size w w' := by
 have HL := mkHid hl
 have HR := mkHid hr
 clear hl hr
 go_enter Tryz.func54, Tryz.ntmps54
 go_wp2
 go_loopw [1, 5] (fun kv i w' => ∃ (j : Nat), j ≤ ls.length ∧ i = .int .i64 j ∧ kv = .int .i64 (k0 + (tot (ls.take j) : Int) * 2) ∧ Below w.heap.size w w') (fun _ i _ => ls.length - (intOf i).toNat)
 case atStart => exact ⟨0, Nat.zero_le _, rfl, by simp [tot], Below.refl _ _⟩
 case round =>
  obtain ⟨j, hj, rfl, rfl, hbel⟩ := hrel
  have HB := mkHid hbel
  by_cases hlt : j < ls.length
  ·obtain ⟨l, hx⟩ : ∃ l, ls[j]? = some l := ⟨_, List.getElem?_eq_getElem hlt⟩
   obtain ⟨ao, cp, c00, hat0⟩ := HL.out j _ (marksYY_get hx)
   rw [marksY_len] at c00
   have c0 : wr.cell? ⟨b, off + j, none⟩ = some (.slice ao l.length cp) := (hbel.cell (p := ⟨b, off + j, none⟩) (World.block_lt_of_cell? w _ c00)).trans c00
   have hat := hat0.below hbel
   clear c00 hat0 hbel
   have hll := HR.out j l hx
   have ht1 := tot_take_le ls j
   have ht2 := tot_take_succ hx
   have ht3 := tot_take_le ls (j + 1)
   have HT2 := mkHid ht2
   have HAT := mkHid hat
   have hq : ¬ (k0 + (tot (ls.take j) : Int) * 2 + (l.length : Int) * 2 < 0) := by omega
   clear hx ht2 hat
   go_wp2_with fail
   refine (heldSymS_ok l.length ao cp _ _ (by omega) (by omega) (by omega) HAT.out).mono ?_
   rintro e w1 ⟨rfl, hb1⟩
   have HB1 := mkHid (below_step HB.out hb1)
   clear hb1
   go_wp2
   go_roundw
   case rel => exact ⟨j + 1, by omega, by go_num, by rw [HT2.out]; congr 1; omega, HB1.out⟩
   case measure => simp [intOf]; omega
  ·have e : j = ls.length := by omega
   subst e
   rw [List.take_length]
   go_wp2
   go_ret
   exact ⟨rfl, HB.out⟩
set_option maxRecDepth 100000 in
set_option maxHeartbeats 400000 in
theorem heldSymSS_nil (a : Option Addr) (c : Nat) (k0 : Int) (w : World) :
  Calls Tryz.prog 54 #[.slice a 0 c, .int .i64 k0] w fun e w' => e = .returned (.int .i64 k0) ∧ w' = w := by
 go_enter Tryz.func54, Tryz.ntmps54
 go_wp2
 go_loopw [1, 5] (fun kv i w' => i = .int .i64 0 ∧ kv = .int .i64 k0 ∧ w' = w) (fun _ i _ => 0)
 case atStart => exact ⟨rfl, rfl, rfl⟩
 case round =>
  obtain ⟨rfl, rfl, rfl⟩ := hrel
  go_wp2
  go_ret
  exact ⟨rfl, rfl⟩
theorem heldSymSS_ok (ls : List (List Y)) (a : Option Addr) (c : Nat) (k0 : Int) (w : World) (hn : ls.length ≤ 2000000) (hr : ∀ (i : Nat) (l : List Y), ls[i]? = some l → l.length ≤ 2000000) (ht : tot ls ≤ 2000000) (h0 : 0 ≤ k0) (h1 : k0 ≤ 20000000) (hl : BndsAt w a (marksYY k0 ls)) :
  Calls Tryz.prog 54 #[.slice a ls.length c, .int .i64 k0] w fun e w' => e = .returned (.int .i64 (k0 + (tot ls : Int) * 2)) ∧ Below w.heap.size w w' := by
 rcases hl with h | ⟨b, o, rfl, hl⟩
 ·have h' : ls = [] := by
   have := marksYY_len k0 ls
   rw [h] at this
   exact List.length_eq_zero_iff.1 this.symm
  subst h'
  refine (heldSymSS_nil a c k0 w).mono ?_
  rintro e w' ⟨rfl, rfl⟩
  exact ⟨ret_int' (by simp [tot]), Below.refl _ _⟩
 ·exact heldSymSS_of ls b o c k0 w hn hr ht h0 h1 hl
end Go.Proofs.YtihpajiololfoaaGreat
namespace Go.Proofs.YtihpajiololfoaaGreat
open Go.RowKit

structure Small (S : SG) : Prop where
 b : S.B.length ≤ 1048576
 t : tot S.B ≤ 1048576
 v : S.V.length ≤ 1048576
 m : S.M.length ≤ 1048576
theorem Small.row {S : SG} (h : Small S) (i : Nat) (l : List Y) (hl : S.B[i]? = some l) : l.length ≤ 1048576 := Nat.le_trans (tot_get hl) h.t
set_option maxRecDepth 100000 in
set_option maxHeartbeats 1600000 in
theorem eqSeg_same (S : SG) (A A' : SAd) (w : World) (hs : Small S) (hl : SegAt w A S) (hl' : SegAt w A' S) :
  Calls Tryz.prog 14 #[.agg #[.slice A.a0 S.B.length A.c0, .slice A.a1 S.V.length A.c1, .slice A.a2 S.M.length A.c2], .agg #[.slice A'.a0 S.B.length A'.c0, .slice A'.a1 S.V.length A'.c1, .slice A'.a2 S.M.length A'.c2]] w fun e w' => e = .returned (.bool true) ∧ Below w.heap.size w w' := by
 have HS := mkHid hs
 have HL := mkHid hl
 have HL' := mkHid hl'
 clear hs hl hl'
 obtain ⟨w0, hw0⟩ : ∃ x : World, (w.alloc (.cells #[.slice A.a0 S.B.length A.c0, .slice A.a1 S.V.length A.c1, .slice A.a2 S.M.length A.c2] 35)).alloc (.cells #[.slice A'.a0 S.B.length A'.c0, .slice A'.a1 S.V.length A'.c1, .slice A'.a2 S.M.length A'.c2] 35) = x := ⟨_, rfl⟩
 obtain ⟨X, hX⟩ : ∃ x, w.heap.size = x := ⟨_, rfl⟩
 have HB : Hid (Below X w w0) := mkHid (by rw [← hw0, ← hX]; exact bl_alloc (bl_alloc (Below.refl _ _) _) _)
 have P0 : Hid (G3 w0 X (.slice A.a0 S.B.length A.c0) (.slice A.a1 S.V.length A.c1) (.slice A.a2 S.M.length A.c2)) := mkHid (by rw [← hw0, ← hX]; constructor <;> simp [go_sem])
 have P1 : Hid (G3 w0 (X + 1) (.slice A'.a0 S.B.length A'.c0) (.slice A'.a1 S.V.length A'.c1) (.slice A'.a2 S.M.length A'.c2)) := mkHid (by rw [← hw0, ← hX]; constructor <;> simp [go_sem])
 have HX := mkHid hX
 have L0 : Hid (SegAt w0 A S) := mkHid (HL.out.below (by rw [hX]; exact HB.out))
 have L1 : Hid (SegAt w0 A' S) := mkHid (HL'.out.below (by rw [hX]; exact HB.out))
 obtain ⟨q0, q1, q2, _, _, _⟩ := P0.out
 obtain ⟨p0, p1, p2, _, _, _⟩ := P1.out
 clear HL HL'
 go_enter Tryz.func14, Tryz.ntmps14
 go_wp2_with fail
 clear hw0 hX q0 q1 q2 p0 p1 p2
 refine (eqSymSS_ok S.B A.a0 A'.a0 A.c0 A'.c0 _ (by have := HS.out.b; unfold maxLen; omega) (fun i l hl => by have := HS.out.row i l hl; unfold maxLen; omega) L0.out.b L1.out.b).mono ?_
 rintro e w1 ⟨rfl, hb⟩
 have R0 := mkHid (P0.out.below hb)
 have R1 := mkHid (P1.out.below hb)
 have M0 := mkHid (L0.out.below hb)
 have M1 := mkHid (L1.out.below hb)
 have HB1 : Hid (Below X w w1) := mkHid (HB.out.trans (hb.mono (by have := HX.out; have := HB.out.size; omega)))
 have HS1 : Hid (X ≤ w1.heap.size) := mkHid (by have := HX.out; have := HB1.out.size; omega)
 clear hb P0 P1 L0 L1 HB
 obtain ⟨q0, q1, q2, _, _, _⟩ := R0.out
 obtain ⟨p0, p1, p2, _, _, _⟩ := R1.out
 go_wp2_with fail
 clear q0 q1 q2 p0 p1 p2
 refine (eqValS_same S.V A.a1 A'.a1 A.c1 A'.c1 _ (by have := HS.out.v; unfold maxLen; omega) M0.out.v M1.out.v).mono ?_
 rintro e w2 ⟨rfl, hb⟩
 have P0 := mkHid (R0.out.below hb)
 have P1 := mkHid (R1.out.below hb)
 have L0 := mkHid (M0.out.below hb)
 have L1 := mkHid (M1.out.below hb)
 have HB2 : Hid (Below X w w2) := mkHid (HB1.out.trans (hb.mono HS1.out))
 have HS2 : Hid (X ≤ w2.heap.size) := mkHid (by have := HX.out; have := HB2.out.size; omega)
 clear hb R0 R1 M0 M1 HB1
 obtain ⟨q0, q1, q2, _, _, _⟩ := P0.out
 obtain ⟨p0, p1, p2, _, _, _⟩ := P1.out
 go_wp2_with fail
 clear q0 q1 q2 p0 p1 p2
 refine (eqBoolS_same S.M A.a2 A'.a2 A.c2 A'.c2 _ (by have := HS.out.m; unfold maxLen; omega) L0.out.m L1.out.m).mono ?_
 rintro e w3 ⟨rfl, hb⟩
 have HB3 : Hid (Below X w w3) := mkHid (HB2.out.trans (hb.mono HS2.out))
 clear hb
 go_wp2
 go_ret
 exact ⟨rfl, by rw [HX.out]; exact HB3.out⟩
def marksS (k0 : Int) (S : SG) : SG := ⟨marksYY k0 S.B, marksV (k0 + (tot S.B : Int) * 2) S.V.length, marksB (k0 + (tot S.B : Int) * 2 + (S.V.length : Int) * 3) S.M.length⟩
def cntS (S : SG) : Int := (tot S.B : Int) * 2 + (S.V.length : Int) * 3 + (S.M.length : Int)
theorem cntS_nonneg (S : SG) : 0 ≤ cntS S := by unfold cntS; omega
theorem Small.cnt {S : SG} (h : Small S) : cntS S ≤ 6291456 := by have := h.t; have := h.v; have := h.m; unfold cntS; omega
theorem Outs.alloc {lo hi : Nat} {a b : World} (h : Outs lo hi a b) (o : Obj) : Outs lo hi a (b.alloc o) := h.step ((Below.refl _ _).alloc (Nat.le_refl _) _)
set_option maxRecDepth 100000 in
set_option maxHeartbeats 1600000 in
theorem markSeg_ok (S : SG) (A : SAd) (lo hi : Nat) (k0 : Int) (w : World) (hs : Small S) (h0 : 0 ≤ k0) (h1 : k0 ≤ 10000000) (hhi : hi ≤ w.heap.size) (hl : OwnS w lo hi A S) :
  Calls Tryz.prog 16 #[.agg #[.slice A.a0 S.B.length A.c0, .slice A.a1 S.V.length A.c1, .slice A.a2 S.M.length A.c2], .int .i64 k0] w fun e w' => e = .returned (.int .i64 (k0 + cntS S)) ∧ OwnS w' lo hi A (marksS k0 S) ∧ Outs lo hi w w' := by
 have HS := mkHid hs
 have hs1 := hs.t
 have hs2 := hs.v
 have hs3 := hs.m
 have HL := mkHid hl
 clear hs hl
 obtain ⟨w0, hw0⟩ : ∃ x : World, w.alloc (.cells #[.slice A.a0 S.B.length A.c0, .slice A.a1 S.V.length A.c1, .slice A.a2 S.M.length A.c2] 35) = x := ⟨_, rfl⟩
 obtain ⟨X, hX⟩ : ∃ x, w.heap.size = x := ⟨_, rfl⟩
 rw [hX] at hhi
 have HB : Hid (Below w.heap.size w w0) := mkHid (by rw [← hw0]; exact bl_alloc (Below.refl _ _) _)
 have P0 : Hid (G3 w0 X (.slice A.a0 S.B.length A.c0) (.slice A.a1 S.V.length A.c1) (.slice A.a2 S.M.length A.c2)) := mkHid (by rw [← hw0, ← hX]; exact G3.new _ _ _ _ _)
 have L0 := mkHid (HL.out.below HB.out)
 have U0 : Hid (Outs lo hi w w0) := mkHid ((Outs.refl lo hi w).step HB.out)
 obtain ⟨q0, q1, q2, _, _, _⟩ := P0.out
 clear HL HB
 go_enter Tryz.func16, Tryz.ntmps16
 go_wp2_with fail
 clear hw0 hX q0 q1 q2
 refine (markSymSS_ok S.B A.a0 A.c0 lo hi k0 _ (by have := HS.out.b; omega) (fun i l hl => by have := HS.out.row i l hl; omega) (by omega) h0 (by omega) L0.out.b).mono ?_
 rintro e w1 ⟨rfl, hb, hu, hk⟩
 have B1 := mkHid hb
 have U1 := mkHid (U0.out.trans hu)
 have P1 := mkHid (P0.out.outs hu (.inr hhi))
 have V1 : Hid (Own eV 55 w1 lo (.slice A.a1 S.V.length A.c1) S.V) := mkHid (owns_keeps L0.out.v hk (by decide))
 have M1 : Hid (Own eB 4 w1 lo (.slice A.a2 S.M.length A.c2) S.M) := mkHid (owns_keeps L0.out.m hk (by decide))
 have VT := mkHid L0.out.vt
 have MT := mkHid L0.out.mt
 clear hb hu hk U0 P0 L0
 obtain ⟨k1, hk1⟩ : ∃ k, k0 + (tot S.B : Int) * 2 = k := ⟨_, rfl⟩
 have HK1 := mkHid hk1
 have hk1a : 0 ≤ k1 := by omega
 have hk1b : k1 ≤ 20000000 := by omega
 rw [hk1]
 clear hk1
 obtain ⟨q0, q1, q2, _, _, _⟩ := P1.out
 go_wp2_with fail
 clear q0 q1 q2
 refine (markValS_ok S.V A.a1 A.c1 lo k1 _ (by omega) hk1a (by omega) V1.out).mono ?_
 rintro e w2 ⟨rfl, hv, hg⟩
 have V2 := mkHid hv
 have hk : Keeps 55 w1 w2 := Keeps.grown hg fun q hq => by obtain ⟨cur, hc⟩ := V1.out.block hq; exact ⟨cur, _, hc⟩
 have U2 := mkHid (U1.out.grown hg fun q hq => ⟨(V1.out.lt hq).1, VT.out q hq⟩)
 have B2 := mkHid (B1.out.keeps hk (by decide) (by decide))
 have M2 : Hid (Own eB 4 w2 lo (.slice A.a2 S.M.length A.c2) S.M) := mkHid (owns_keeps M1.out hk (by decide))
 have P2 := mkHid (P1.out.outs ((Outs.refl lo hi w1).grown hg fun q hq => ⟨(V1.out.lt hq).1, VT.out q hq⟩) (.inr hhi))
 clear hv hg hk U1 B1 M1 P1 V1
 obtain ⟨k2, hk2⟩ : ∃ k, k1 + (S.V.length : Int) * 3 = k := ⟨_, rfl⟩
 have HK2 := mkHid hk2
 have hk2a : 0 ≤ k2 := by omega
 have hk2b : k2 ≤ 30000000 := by omega
 rw [hk2]
 clear hk2
 obtain ⟨q0, q1, q2, _, _, _⟩ := P2.out
 go_wp2_with fail
 clear q0 q1 q2
 refine (markBoolS_ok S.M A.a2 A.c2 lo k2 _ (by omega) hk2a (by omega) M2.out).mono ?_
 rintro e w3 ⟨rfl, hm, hg⟩
 have hk : Keeps 4 w2 w3 := Keeps.grown hg fun q hq => by obtain ⟨cur, hc⟩ := M2.out.block hq; exact ⟨cur, _, hc⟩
 have U3 := mkHid (U2.out.grown hg fun q hq => ⟨(M2.out.lt hq).1, MT.out q hq⟩)
 have OS : Hid (OwnS w3 lo hi A (marksS k0 S)) := mkHid (by
  have e1 : k0 + (tot S.B : Int) * 2 = k1 := HK1.out
  have e2 : k1 + (S.V.length : Int) * 3 = k2 := HK2.out
  unfold marksS
  rw [e1, e2]
  refine ⟨?_, ?_, ?_, ?_, ?_⟩
  ·show OwnT w3 lo hi (.slice A.a0 (marksYY k0 S.B).length A.c0) _
   rw [marksYY_len]
   exact B2.out.keeps hk (by decide) (by decide)
  ·show Own eV 55 w3 lo (.slice A.a1 (marksV k1 S.V.length).length A.c1) _
   rw [marksV_len]
   exact owns_keeps V2.out hk (by decide)
  ·show ∀ q, Value.ownBlock (.slice A.a1 (marksV k1 S.V.length).length A.c1) = some q → q < hi
   rw [marksV_len]
   exact VT.out
  ·show Own eB 4 w3 lo (.slice A.a2 (marksB k2 S.M.length).length A.c2) _
   rw [marksB_len]
   exact hm
  ·show ∀ q, Value.ownBlock (.slice A.a2 (marksB k2 S.M.length).length A.c2) = some q → q < hi
   rw [marksB_len]
   exact MT.out)
 clear hm hg hk U2 B2 M2 V2 P2
 go_wp2
 go_ret
 exact ⟨ret_int' (by rw [← HK2.out, ← HK1.out]; unfold cntS; omega), OS.out, U3.out⟩
set_option maxRecDepth 100000 in
set_option maxHeartbeats 1600000 in
theorem heldSeg_ok (S : SG) (A : SAd) (k0 : Int) (w : World) (hs : Small S) (h0 : 0 ≤ k0) (h1 : k0 ≤ 10000000) (hl : SegAt w A (marksS k0 S)) :
  Calls Tryz.prog 18 #[.agg #[.slice A.a0 S.B.length A.c0, .slice A.a1 S.V.length A.c1, .slice A.a2 S.M.length A.c2], .int .i64 k0] w fun e w' => e = .returned (.int .i64 (k0 + cntS S)) ∧ Below w.heap.size w w' := by
 have HS := mkHid hs
 have hs1 := hs.t
 have hs2 := hs.v
 have hs3 := hs.m
 have HL := mkHid hl
 clear hs hl
 obtain ⟨w0, hw0⟩ : ∃ x : World, w.alloc (.cells #[.slice A.a0 S.B.length A.c0, .slice A.a1 S.V.length A.c1, .slice A.a2 S.M.length A.c2] 35) = x := ⟨_, rfl⟩
 obtain ⟨X, hX⟩ : ∃ x, w.heap.size = x := ⟨_, rfl⟩
 have HB : Hid (Below w.heap.size w w0) := mkHid (by rw [← hw0]; exact bl_alloc (Below.refl _ _) _)
 have P0 : Hid (G3 w0 X (.slice A.a0 S.B.length A.c0) (.slice A.a1 S.V.length A.c1) (.slice A.a2 S.M.length A.c2)) := mkHid (by rw [← hw0, ← hX]; exact G3.new _ _ _ _ _)
 have L0 := mkHid (HL.out.below HB.out)
 obtain ⟨q0, q1, q2, _, _, _⟩ := P0.out
 clear HL
 go_enter Tryz.func18, Tryz.ntmps18
 go_wp2_with fail
 clear hw0 hX q0 q1 q2
 refine (heldSymSS_ok S.B A.a0 A.c0 k0 _ (by have := HS.out.b; omega) (fun i l hl => by have := HS.out.row i l hl; omega) (by omega) h0 (by omega) L0.out.b).mono ?_
 rintro e w1 ⟨rfl, hb⟩
 have HB1 := mkHid (below_step HB.out hb)
 have P1 := mkHid (P0.out.below hb)
 have L1 := mkHid (L0.out.below hb)
 clear hb HB P0 L0
 obtain ⟨k1, hk1⟩ : ∃ k, k0 + (tot S.B : Int) * 2 = k := ⟨_, rfl⟩
 have HK1 := mkHid hk1
 have hk1a : 0 ≤ k1 := by omega
 have hk1b : k1 ≤ 20000000 := by omega
 have hk1c : ¬ k1 < 0 := by omega
 have V1 : Hid (At eV w1 A.a1 (marksV k1 S.V.length)) := mkHid (by rw [← hk1]; exact L1.out.v)
 have M1 : Hid (At eB w1 A.a2 (marksB (k1 + (S.V.length : Int) * 3) S.M.length)) := mkHid (by rw [← hk1]; exact L1.out.m)
 rw [hk1]
 clear hk1 L1
 obtain ⟨q0, q1, q2, _, _, _⟩ := P1.out
 go_wp2_with fail
 clear q0 q1 q2
 refine (heldValS_ok S.V.length A.a1 A.c1 k1 _ (by omega) hk1a (by omega) V1.out).mono ?_
 rintro e w2 ⟨rfl, hb⟩
 have HB2 := mkHid (below_step HB1.out hb)
 have P2 := mkHid (P1.out.below hb)
 have M2 := mkHid (M1.out.below hb)
 clear hb HB1 P1 V1 M1
 obtain ⟨k2, hk2⟩ : ∃ k, k1 + (S.V.length : Int) * 3 = k := ⟨_, rfl⟩
 have HK2 := mkHid hk2
 have hk2a : 0 ≤ k2 := by omega
 have hk2b : k2 ≤ 30000000 := by omega
 have hk2c : ¬ k2 < 0 := by omega
 rw [hk2] at M2
 rw [hk2]
 clear hk2
 obtain ⟨q0, q1, q2, _, _, _⟩ := P2.out
 go_wp2_with fail
 clear q0 q1 q2
 refine (heldBoolS_ok S.M.length A.a2 A.c2 k2 _ (by omega) hk2a (by omega) M2.out).mono ?_
 rintro e w3 ⟨rfl, hb⟩
 have HB3 := mkHid (below_step HB2.out hb)
 clear hb HB2 P2 M2
 obtain ⟨k3, hk3⟩ : ∃ k, k2 + (S.M.length : Int) * 1 = k := ⟨_, rfl⟩
 have hk3c : ¬ k3 < 0 := by omega
 have HK3 : Hid (k3 = k0 + cntS S) := mkHid (by rw [← hk3, ← HK2.out, ← HK1.out]; unfold cntS; omega)
 rw [hk3]
 clear hk3
 go_wp2
 go_ret
 exact ⟨ret_int' HK3.out, HB3.out⟩
end Go.Proofs.YtihpajiololfoaaGreat
namespace Go.Proofs.YtihpajiololfoaaGreat
open Go.RowKit

structure RowS (n : Int) (B : List (List Y)) (i : Nat) (b : List Y) : Prop where
 ne : b ≠ []
 sym : ∀ p, p ∈ b → symP n p
 asc : b.Pairwise LtY
 inn : ∀ p, p ∈ b → inY B p = some i
theorem OkS.row {n l : Int} {B : List (List Y)} {V : List VV} {M : List Bool} (h : OkS n l B V M) {i : Nat} {b : List Y} (hb : B[i]? = some b) : RowS n B i b :=
 have hm := List.mem_of_getElem? hb
 ⟨(h.rows b hm).ne, (h.rows b hm).sym, (h.rows b hm).asc, fun _ hp => in_of_nodup h.nodup hb hp⟩
theorem last_get {B : List (List Y)} (h : 1 ≤ B.length) : ∃ b, B[B.length - 1]? = some b ∧ B.getLastD [] = b := by
 refine ⟨B[B.length - 1], List.getElem?_eq_getElem (by omega), ?_⟩
 have hne : B ≠ [] := by intro e; rw [e] at h; simp at h
 rw [List.getLastD_eq_getLast?, List.getLast?_eq_getElem?, List.getElem?_eq_getElem (by omega)]; rfl
theorem head_get {B : List (List Y)} (h : 1 ≤ B.length) : ∃ b, B[0]? = some b ∧ B.headD [] = b := by
 cases B with
 | nil => simp at h
 | cons b B => exact ⟨b, rfl, rfl⟩
theorem ok_ends {n l : Int} {B : List (List Y)} {V : List VV} {M : List Bool} (h : OkS n l B V M) : toI (inY B (0, 0)) = 0 ∧ toI (inY B (l, 0)) = (B.length : Int) - 1 := by
 obtain ⟨b, h1, h2⟩ := head_get h.k1
 obtain ⟨c, h3, h4⟩ := last_get h.k1
 have hf := h.first
 have hl := h.last
 rw [h2] at hf
 rw [h4] at hl
 have k1 := h.k1
 rw [in_of_nodup h.nodup h1 hf, in_of_nodup h.nodup h3 hl]
 exact ⟨rfl, by show ((B.length - 1 : Nat) : Int) = _; omega⟩
theorem ok_of {n l : Int} {B : List (List Y)} {V : List VV} {M : List Bool} (h1 : lenP n l) (h2 : 1 ≤ B.length) (h3 : B.length ≤ 16) (h4 : V.length + 1 = B.length) (h5 : M.length + 1 = B.length) (h6 : B.flatten.length ≤ 40)
  (hr : ∀ (i : Nat) (b : List Y), B[i]? = some b → RowS n B i b) (hv : ∀ v, v ∈ V → okB v.1 v.2.1 = true) (e0 : toI (inY B (0, 0)) = 0) (e1 : toI (inY B (l, 0)) = (B.length : Int) - 1) : OkS n l B V M := by
 have rows : ∀ b, b ∈ B → RowP n b := fun b hb => by
  obtain ⟨i, hi, rfl⟩ := List.getElem_of_mem hb
  have := hr i _ (List.getElem?_eq_getElem hi)
  exact ⟨this.ne, this.sym, this.asc⟩
 refine ⟨h1, h2, h3, h4, h5, h6, rows, nodup_of_in (fun b hb => (rows b hb).asc) fun i b hb p hp => (hr i b hb).inn p hp, hv, ?_, ?_⟩
 ·obtain ⟨b, g1, g2⟩ := head_get h2
  obtain ⟨hi, hm, _⟩ := inY_some.1 (toI_eq.1 (show toI (inY B (0, 0)) = ((0 : Nat) : Int) from e0))
  rw [List.getElem?_eq_getElem hi] at g1
  rw [g2, ← Option.some.inj g1]
  exact hm
 ·obtain ⟨b, g1, g2⟩ := last_get h2
  obtain ⟨hi, hm, _⟩ := inY_some.1 (toI_eq.1 (show toI (inY B (l, 0)) = ((B.length - 1 : Nat) : Int) by rw [e1]; omega))
  rw [List.getElem?_eq_getElem hi] at g1
  rw [g2, ← Option.some.inj g1]
  exact hm
/-- From one to the next it ascends: so it does. -/
theorem asc_steps : ∀ {b : List Y}, (∀ (q : Nat) (x y : Y), b[q]? = some x → b[q + 1]? = some y → LtY x y) → b.Pairwise LtY
 | [], _ => List.Pairwise.nil
 | [a], _ => by simp
 | a :: b :: l, h => by
  have ih : (b :: l).Pairwise LtY := asc_steps fun q x y hx hy => h (q + 1) x y (by simpa using hx) (by simpa using hy)
  refine List.pairwise_cons.2 ⟨fun p hp => ?_, ih⟩
  have hab := h 0 a b rfl rfl
  rcases List.mem_cons.1 hp with rfl | hp
  ·exact hab
  ·exact hab.trans ((List.pairwise_cons.1 ih).1 p hp)
theorem asc_at {b : List Y} (h : b.Pairwise LtY) {q : Nat} {x y : Y} (hx : b[q]? = some x) (hy : b[q + 1]? = some y) : LtY x y := by
 obtain ⟨hi, rfl⟩ := List.getElem?_eq_some_iff.1 hx
 obtain ⟨hj, rfl⟩ := List.getElem?_eq_some_iff.1 hy
 rw [List.pairwise_iff_getElem] at h
 exact h q (q + 1) hi hj (by omega)
theorem lessB_iff (x y : Y) : lessB x.1 x.2 y.1 y.2 = true ↔ LtY x y := by unfold lessB LtY; simp
theorem symB_iff (n : Int) (x : Y) : symOkB n x.1 x.2 = true ↔ symP n x := by unfold symOkB btw symP; simp [and_assoc]
/-- What is known of a row behind its first j terms. -/
structure Part (n : Int) (B : List (List Y)) (i : Nat) (b : List Y) (j : Nat) : Prop where
 each : ∀ (q : Nat) (x : Y), q < j → b[q]? = some x → symP n x ∧ inY B x = some i
 step : ∀ (q : Nat) (x y : Y), q + 1 < j → b[q]? = some x → b[q + 1]? = some y → LtY x y
theorem Part.zero (n : Int) (B : List (List Y)) (i : Nat) (b : List Y) : Part n B i b 0 := ⟨fun q x h => by omega, fun q x y h => by omega⟩
theorem Part.next {n : Int} {B : List (List Y)} {i : Nat} {b : List Y} {j : Nat} (h : Part n B i b j) {x : Y} (hx : b[j]? = some x) (h1 : symP n x) (h2 : inY B x = some i) (h3 : ∀ q y, j = q + 1 → b[q]? = some y → LtY y x) : Part n B i b (j + 1) :=
 ⟨fun q y hq hy => by
  rcases (by omega : q < j ∨ q = j) with h' | rfl
  ·exact h.each q y h' hy
  ·rw [hx] at hy; cases hy; exact ⟨h1, h2⟩, fun q y z hq hy hz => by
  rcases (by omega : q + 1 < j ∨ j = q + 1) with h' | h'
  ·exact h.step q y z h' hy hz
  ·subst h'; rw [hx] at hz; cases hz; exact h3 q y rfl hy⟩
theorem Part.next2 {n : Int} {B : List (List Y)} {i : Nat} {b : List Y} {j jm : Nat} (h : Part n B i b j) {x y : Y} (hx : b[j]? = some x) (h1 : symP n x) (h2 : inY B x = some i) (hj : j = jm + 1) (hy : b[jm]? = some y) (hl : LtY y x) : Part n B i b (j + 1) :=
 h.next hx h1 h2 fun q y' hq hy' => by
  obtain rfl : q = jm := by omega
  rw [hy] at hy'
  cases hy'
  exact hl
theorem Part.all {n : Int} {B : List (List Y)} {i : Nat} {b : List Y} (h : Part n B i b b.length) (hne : b ≠ []) : RowS n B i b :=
 ⟨hne, fun p hp => by obtain ⟨q, hq, rfl⟩ := List.getElem_of_mem hp; exact (h.each q _ hq (List.getElem?_eq_getElem hq)).1, asc_steps fun q x y hx hy => h.step q x y (List.getElem?_eq_some_iff.1 hy).1 hx hy, fun p hp => by obtain ⟨q, hq, rfl⟩ := List.getElem_of_mem hp; exact (h.each q _ hq (List.getElem?_eq_getElem hq)).2⟩
/-- A call tells whether something is so. -/
def Tells (w w' : World) (e : Ending) (p : Prop) : Prop := Below w.heap.size w w' ∧ ∃ r : Bool, e = .returned (.bool r) ∧ (r = true ↔ p)
theorem Tells.no {w w' : World} {p : Prop} (hb : Below w.heap.size w w') (h : ¬ p) : Tells w w' (.returned (.bool false)) p := ⟨hb, false, rfl, fun e => (by cases e), fun e => absurd e h⟩
theorem Tells.yes {w w' : World} {p : Prop} (hb : Below w.heap.size w w') (h : p) : Tells w w' (.returned (.bool true)) p := ⟨hb, true, rfl, fun _ => h, fun _ => rfl⟩
end Go.Proofs.YtihpajiololfoaaGreat
