/-
  CONTRACTS of the law's markSymS.
  CONTRACTS of the law's heldSymS.
  CONTRACTS of the law's eqSymSS, markSymSS, heldSymSS.
  CONTRACTS of the law's szSymSS, szSeg, toSeg, eqSeg.
-/
import Derived.Test.YtbfmljogfljhdaaGreatMm
import Derived.Test.YtbfmljogfljhdaaGreatLty
namespace Go.Proofs.YtbfmljogfljhdaaGreat
open Go.RowKit

set_option maxRecDepth 100000 in
set_option maxHeartbeats 1600000 in
theorem markSymS_of (l : List Y) (g cap base : Nat) (k0 : Int) (w : World) (hn : l.length ≤ 10000000) (h0 : 0 ≤ k0) (h1 : k0 ≤ 100000000) (hown : Own eY 39 w base (.slice (some ⟨g, 0, none⟩) l.length cap) l) :
    Calls Tryz.prog 29 #[.slice (some ⟨g, 0, none⟩) l.length cap, .int .i64 k0] w fun e w' => e = .returned (.int .i64 (k0 + (l.length : Int) * 2)) ∧ Own eY 39 w' base (.slice (some ⟨g, 0, none⟩) l.length cap) (marksY k0 l.length) ∧ w.grownBy w' (some g) := by
  have HO : Hid (w.ownsRow base 39 2 (.slice (some ⟨g, 0, none⟩) l.length cap) l.length (eY.flat l)) := mkHid hown
  clear hown
  go_enter Tryz.func29, Tryz.ntmps29
  go_wp2
  go_loopw [1, 5] (fun kv i w' => ∃ (k : Nat) (xs : List Value), k ≤ l.length ∧ i = .int .i64 k ∧ kv = .int .i64 (k0 + (k : Int) * 2) ∧ w'.ownsRow base 39 2 (.slice (some ⟨g, 0, none⟩) l.length cap) l.length xs ∧ xs.take (k * 2) = eY.flat ((marksY k0 l.length).take k) ∧ w.grownBy w' (some g)) (fun _ i _ => l.length - (intOf i).toNat)
  case atStart => exact ⟨0, _, Nat.zero_le _, rfl, by simp, HO.out, by simp [El.flat], World.grownBy.refl _ _⟩
  case round =>
    obtain ⟨k, xs, hk, rfl, rfl, hown, htake, hg⟩ := hrel
    have HW := mkHid hown
    have HT := mkHid htake
    have HG := mkHid hg
    clear hown htake hg HO
    by_cases hlt : k < l.length
    · have HX := mkHid (marksY_get (k0 := k0) hlt)
      obtain ⟨z, hz⟩ : ∃ z, k0 + (k : Int) * 2 = z := ⟨_, rfl⟩
      have HZ := mkHid hz
      have hz0 : 0 ≤ z := by omega
      have hz1 : z ≤ 200000000 := by omega
      rw [hz] at HX
      rw [hz]
      clear hz
      have hxl := HW.out.1
      obtain ⟨u0, y0⟩ : ∃ v, wr.cell? ⟨g, k * 2, none⟩ = some v := ⟨_, (HW.out.cellAt (k * 2) (by omega)).trans (List.getElem?_eq_getElem (by omega))⟩
      have f0 := HW.out.frozenAt (k * 2)
      obtain ⟨u1, y1⟩ : ∃ v, wr.cell? ⟨g, k * 2 + 1, none⟩ = some v := ⟨_, (HW.out.cellAt (k * 2 + 1) (by omega)).trans (List.getElem?_eq_getElem (by omega))⟩
      have f1 := HW.out.frozenAt (k * 2 + 1)
      clear hxl
      have i0 : (0 : Int) ≤ (k : Int) := by omega
      have i1 : (k : Int) < (l.length : Int) := by omega
      have HA0 := mkHid (HW.out.stored (k * 2) (.int .i64 (z)))
      have HA1 := mkHid (HA0.out.1.stored (k * 2 + 1) (.int .i64 (z + 1)))
      go_wp2
      go_roundw
      case rel =>
        refine ⟨k + 1, _, by omega, by go_num, by congr 1; rw [← HZ.out]; omega, HA1.out.1, step_y HX.out (by rw [marksY_len]; exact HW.out.1) HT.out, (grown_trans (grown_trans HG.out HA0.out.2) HA1.out.2)⟩
      case measure => simp [intOf]; omega
    · have e : k = l.length := by omega
      subst e
      have hown := HW.out
      have ht := HT.out
      rw [flat_upto (E := eY) (xs := xs) (l := marksY k0 l.length) (by rw [marksY_len]; exact HW.out.1) (by rw [marksY_len]; exact ht)] at hown
      have HW := mkHid hown
      clear hown ht HT
      go_wp2
      go_ret
      refine ⟨ret_int' (by omega), ?_, HG.out⟩
      unfold Own
      rw [marksY_len]
      exact HW.out
set_option maxRecDepth 100000 in
set_option maxHeartbeats 400000 in
theorem markSymS_nil (a : Option Addr) (c : Nat) (k0 : Int) (w : World) :
    Calls Tryz.prog 29 #[.slice a 0 c, .int .i64 k0] w fun e w' => e = .returned (.int .i64 k0) ∧ w' = w := by
  go_enter Tryz.func29, Tryz.ntmps29
  go_wp2
  go_loopw [1, 5] (fun kv i w' => i = .int .i64 0 ∧ kv = .int .i64 k0 ∧ w' = w) (fun _ i _ => 0)
  case atStart => exact ⟨rfl, rfl, rfl⟩
  case round =>
    obtain ⟨rfl, rfl, rfl⟩ := hrel
    go_wp2
    go_ret
    exact ⟨rfl, rfl⟩
theorem markSymS_ok (l : List Y) (ao : Option Addr) (cap base : Nat) (k0 : Int) (w : World) (hn : l.length ≤ 10000000) (h0 : 0 ≤ k0) (h1 : k0 ≤ 100000000) (hown : Own eY 39 w base (.slice ao l.length cap) l) :
    Calls Tryz.prog 29 #[.slice ao l.length cap, .int .i64 k0] w fun e w' => e = .returned (.int .i64 (k0 + (l.length : Int) * 2)) ∧ Own eY 39 w' base (.slice ao l.length cap) (marksY k0 l.length) ∧ w.grownBy w' (Value.ownBlock (.slice ao l.length cap)) := by
  rcases hown.2 with ⟨e, h⟩ | ⟨g, cap', cur, e, _⟩
  · have hl := List.length_eq_zero_iff.1 h
    subst hl
    refine (markSymS_nil ao cap k0 w).mono ?_
    rintro e w' ⟨rfl, rfl⟩
    exact ⟨ret_int' (by simp), hown, World.grownBy.refl _ _⟩
  · simp at e
    obtain ⟨rfl, rfl⟩ := e
    exact markSymS_of l g cap base k0 w hn h0 h1 hown
end Go.Proofs.YtbfmljogfljhdaaGreat
namespace Go.Proofs.YtbfmljogfljhdaaGreat
open Go.RowKit

set_option maxRecDepth 100000 in
set_option maxHeartbeats 1600000 in
theorem heldSymS_of (n : Nat) (a : Option Addr) (c : Nat) (k0 : Int) (w : World) (hp : 0 < n) (hn : n ≤ 10000000) (h0 : 0 ≤ k0) (h1 : k0 ≤ 100000000) (hl : At eY w a (marksY k0 n)) :
    Calls Tryz.prog 112 #[.slice a n c, .int .i64 k0] w fun e w' => e = .returned (.int .i64 (k0 + (n : Int) * 2)) ∧ Below w.heap.size w w' := by
  obtain ⟨b, off, rfl, hlb, _⟩ := hl.cons (by rw [marksY_len]; exact hp)
  have HL := mkHid hl
  clear hl
  go_enter Tryz.func112, Tryz.ntmps112
  go_wp2
  go_loopw [1, 5] (fun kv i w' => ∃ (k : Nat), k ≤ n ∧ i = .int .i64 k ∧ kv = .int .i64 (k0 + (k : Int) * 2) ∧ Below w.heap.size w w') (fun _ i _ => n - (intOf i).toNat)
  case atStart => exact ⟨0, Nat.zero_le _, rfl, by simp, Below.refl _ _⟩
  case round =>
    obtain ⟨k, hk, rfl, rfl, hbel⟩ := hrel
    have HB := mkHid hbel
    by_cases hlt : k < n
    · obtain ⟨_, _, e, hlc, hq⟩ := (HL.out.below hbel).cons (by rw [marksY_len]; exact hp)
      cases e
      have hx := marksY_get (k0 := k0) hlt
      obtain ⟨z, hz⟩ : ∃ z, k0 + (k : Int) * 2 = z := ⟨_, rfl⟩
      have HZ := mkHid hz
      have hz0 : 0 ≤ z := by omega
      have hz1 : z ≤ 200000000 := by omega
      rw [hz] at hx
      rw [hz]
      clear hz
      obtain ⟨c0, c1⟩ := get_y hq hx
      clear hx hbel hq
      have i0 : (0 : Int) ≤ (k : Int) := by omega
      have i1 : (k : Int) < (n : Int) := by omega
      have hnz0 : (z != z) = false := by simp
      have hnz1 : (z + 1 != z + 1) = false := by simp
      have HB1 := HB
      go_wp2
      go_roundw
      case rel => exact ⟨k + 1, by omega, by go_num, by congr 1; rw [← HZ.out]; omega, HB1.out⟩
      case measure => simp [intOf]; omega
    · have e : k = n := by omega
      subst e
      go_wp2
      go_ret
      exact ⟨ret_int' (by omega), HB.out⟩
set_option maxRecDepth 100000 in
set_option maxHeartbeats 400000 in
theorem heldSymS_nil (a : Option Addr) (c : Nat) (k0 : Int) (w : World) :
    Calls Tryz.prog 112 #[.slice a 0 c, .int .i64 k0] w fun e w' => e = .returned (.int .i64 k0) ∧ w' = w := by
  go_enter Tryz.func112, Tryz.ntmps112
  go_wp2
  go_loopw [1, 5] (fun kv i w' => i = .int .i64 0 ∧ kv = .int .i64 k0 ∧ w' = w) (fun _ i _ => 0)
  case atStart => exact ⟨rfl, rfl, rfl⟩
  case round =>
    obtain ⟨rfl, rfl, rfl⟩ := hrel
    go_wp2
    go_ret
    exact ⟨rfl, rfl⟩
theorem heldSymS_ok (n : Nat) (a : Option Addr) (c : Nat) (k0 : Int) (w : World) (hn : n ≤ 10000000) (h0 : 0 ≤ k0) (h1 : k0 ≤ 100000000) (hl : At eY w a (marksY k0 n)) :
    Calls Tryz.prog 112 #[.slice a n c, .int .i64 k0] w fun e w' => e = .returned (.int .i64 (k0 + (n : Int) * 2)) ∧ Below w.heap.size w w' := by
  rcases Nat.eq_zero_or_pos n with rfl | h
  · refine (heldSymS_nil a c k0 w).mono ?_
    rintro e w' ⟨rfl, rfl⟩
    exact ⟨ret_int' (by simp), Below.refl _ _⟩
  · exact heldSymS_of n a c k0 w h hn h0 h1 hl
end Go.Proofs.YtbfmljogfljhdaaGreat
namespace Go.Proofs.YtbfmljogfljhdaaGreat
open Go.RowKit

set_option maxRecDepth 100000 in
set_option maxHeartbeats 800000 in
theorem eqSymSS_of (ls : List (List Y)) (b off c b' off' c' : Nat) (w : World) (hn : ls.length ≤ maxLen) (hr : ∀ (i : Nat) (l : List Y), ls[i]? = some l → l.length ≤ maxLen)
    (hl : ∀ (i : Nat) (l : List Y), ls[i]? = some l → ∃ ao cap, w.cell? ⟨b, off + i, none⟩ = some (.slice ao l.length cap) ∧ At eY w ao l)
    (hl' : ∀ (i : Nat) (l : List Y), ls[i]? = some l → ∃ ao cap, w.cell? ⟨b', off' + i, none⟩ = some (.slice ao l.length cap) ∧ At eY w ao l) :
    Calls Tryz.prog 66 #[.slice (some ⟨b, off, none⟩) ls.length c, .slice (some ⟨b', off', none⟩) ls.length c'] w fun e w' => e = .returned (.bool true) ∧ Below w.heap.size w w' := by
  unfold maxLen at hn
  have HR := mkHid hr
  have HL := mkHid hl
  have HL' := mkHid hl'
  clear hl hl' hr
  go_enter Tryz.func66, Tryz.ntmps66
  go_wp2
  go_loopw [5] (fun i w' => ∃ (k : Nat), k ≤ ls.length ∧ i = .int .i64 k ∧ Below w.heap.size w w') (fun i _ => ls.length - (intOf i).toNat)
  case atStart => exact ⟨0, Nat.zero_le _, rfl, Below.refl _ _⟩
  case round =>
    obtain ⟨k, hk, rfl, hbel⟩ := hrel
    have HB := mkHid hbel
    by_cases hlt : k < ls.length
    · obtain ⟨l, hx⟩ : ∃ l, ls[k]? = some l := ⟨_, List.getElem?_eq_getElem hlt⟩
      obtain ⟨xa, xc, h1, hi1⟩ := HL.out k l hx
      obtain ⟨ya, yc, h2, hi2⟩ := HL'.out k l hx
      have HM := mkHid (HR.out k l hx)
      have hc1 : wr.cell? ⟨b, off + k, none⟩ = some (.slice xa l.length xc) := (hbel.cell (p := ⟨b, off + k, none⟩) (World.block_lt_of_cell? w _ h1)).trans h1
      have hc2 : wr.cell? ⟨b', off' + k, none⟩ = some (.slice ya l.length yc) := (hbel.cell (p := ⟨b', off' + k, none⟩) (World.block_lt_of_cell? w _ h2)).trans h2
      have HK := mkHid (hi1.below hbel)
      have HK' := mkHid (hi2.below hbel)
      have hlb := World.block_lt_of_cell? wr _ hc1
      have hlb' := World.block_lt_of_cell? wr _ hc2
      dsimp only at hlb hlb'
      clear hx h1 h2 hbel hi1 hi2
      have i0 : (0 : Int) ≤ (k : Int) := by omega
      have i1 : (k : Int) < (ls.length : Int) := by omega
      go_wp2
      go_region_held3 (fun w' => w'.cell? ⟨b, off + k, none⟩ = some (.slice xa l.length xc) ∧ w'.cell? ⟨b', off' + k, none⟩ = some (.slice ya l.length yc)) (first | exact ⟨hc1, hc2⟩ | exact ⟨(hc _ _ hlb).trans hc1, (hc _ _ hlb').trans hc2⟩)
        (first | (go_at_call 27; refine (eqSymS_same l xa ya xc yc _ HM.out (HK.out.below (Below.refl _ _).drew) (HK'.out.below (Below.refl _ _).drew)).mono ?_; rintro e w1 ⟨rfl, hb1⟩; obtain ⟨hc, hf⟩ := bcell hb1))
      have HB1 : Hid (Below w.heap.size w w1) := HB.out.drew.trans (hb1.mono HB.out.drew.size)
      clear hb1 hc hf
      go_wp2
      go_roundw
      case rel => exact ⟨k + 1, by omega, by go_num, HB1.out⟩
      case measure => simp [intOf]; omega
    · go_wp2
      go_ret
      exact ⟨rfl, HB.out⟩
set_option maxRecDepth 100000 in
set_option maxHeartbeats 400000 in
theorem eqSymSS_nil (a a' : Option Addr) (c c' : Nat) (w : World) : Calls Tryz.prog 66 #[.slice a 0 c, .slice a' 0 c'] w fun e w' => e = .returned (.bool true) ∧ Below w.heap.size w w' := by
  go_enter Tryz.func66, Tryz.ntmps66
  go_wp2
  go_loopw [5] (fun i w' => i = .int .i64 0 ∧ w' = w) (fun i _ => 0)
  case atStart => exact ⟨rfl, rfl⟩
  case round =>
    obtain ⟨rfl, rfl⟩ := hrel
    go_wp2
    go_ret
    exact ⟨rfl, Below.refl _ _⟩
theorem eqSymSS_ok (ls : List (List Y)) (a a' : Option Addr) (c c' : Nat) (w : World) (hn : ls.length ≤ maxLen) (hr : ∀ (i : Nat) (l : List Y), ls[i]? = some l → l.length ≤ maxLen) (hl : BndsAt w a ls) (hl' : BndsAt w a' ls) :
    Calls Tryz.prog 66 #[.slice a ls.length c, .slice a' ls.length c'] w fun e w' => e = .returned (.bool true) ∧ Below w.heap.size w w' := by
  rcases hl with rfl | ⟨b, o, rfl, hl⟩
  · exact eqSymSS_nil a a' c c' w
  · rcases hl' with rfl | ⟨b', o', rfl, hl'⟩
    · exact eqSymSS_nil _ a' c c' w
    · exact eqSymSS_of ls b o c b' o' c' w hn hr hl hl'

set_option maxRecDepth 100000 in
set_option maxHeartbeats 800000 in
theorem markSymSS_of (ls : List (List Y)) (g cap base : Nat) (k0 : Int) (w : World) (hn : ls.length ≤ 2000000) (hr : ∀ (i : Nat) (l : List Y), ls[i]? = some l → l.length ≤ 2000000) (ht : tot ls ≤ 2000000) (h0 : 0 ≤ k0) (h1 : k0 ≤ 20000000) (hi : Nat) (vs : List Value) (hv1 : w.ownsRow base 34 1 (.slice (some ⟨g, 0, none⟩) ls.length cap) ls.length vs) (hv2 : Inn w base vs ls) (htop : ∀ (i : Nat) (u : Value) (q : Nat), vs[i]? = some u → u.ownBlock = some q → q < hi) :
    Calls Tryz.prog 72 #[.slice (some ⟨g, 0, none⟩) ls.length cap, .int .i64 k0] w fun e w' => e = .returned (.int .i64 (k0 + (tot ls : Int) * 2)) ∧ w'.ownsRow base 34 1 (.slice (some ⟨g, 0, none⟩) ls.length cap) ls.length vs ∧ Inn w' base vs (marksYY k0 ls) ∧ Outs base hi w w' ∧ Keeps 39 w w' := by
  have HTOP := mkHid htop
  clear htop
  have HV := mkHid hv1
  have HI := mkHid hv2
  have HR := mkHid hr
  have hvl := hv2.1
  clear hv1 hv2 hr
  go_enter Tryz.func72, Tryz.ntmps72
  go_wp2
  go_loopw [1, 5] (fun kv i w' => ∃ (j : Nat), j ≤ ls.length ∧ i = .int .i64 j ∧ kv = .int .i64 (k0 + (tot (ls.take j) : Int) * 2) ∧ w'.ownsRow base 34 1 (.slice (some ⟨g, 0, none⟩) ls.length cap) ls.length vs ∧ Inn w' base vs (partYY k0 ls j) ∧ Outs base hi w w' ∧ Keeps 39 w w') (fun _ i _ => ls.length - (intOf i).toNat)
  case atStart => exact ⟨0, Nat.zero_le _, rfl, by simp [tot], HV.out, by rw [partYY_zero]; exact HI.out, Outs.refl _ _ _, Keeps.refl _ _⟩
  case round =>
    obtain ⟨j, hj, rfl, rfl, hown, hinn, hbel, hkee⟩ := hrel
    have HKE := mkHid hkee
    clear hkee
    have HW := mkHid hown
    have HN := mkHid hinn
    have HB := mkHid hbel
    clear hown hinn hbel HV HI
    by_cases hlt : j < ls.length
    · obtain ⟨l, hx⟩ : ∃ l, ls[j]? = some l := ⟨_, List.getElem?_eq_getElem hlt⟩
      obtain ⟨v, hv⟩ : ∃ v, vs[j]? = some v := ⟨_, List.getElem?_eq_getElem (by omega)⟩
      have ho := HN.out.2.1 j v l hv (partYY_get hx)
      obtain ⟨ao, cp, rfl⟩ := ho.form
      have c0 : wr.cell? ⟨g, j, none⟩ = some (.slice ao l.length cp) := (HW.out.cellAt j (by omega)).trans hv
      have hll := HR.out j l hx
      have ht1 := tot_take_le ls j
      have ht2 := tot_take_succ hx
      have ht3 := tot_take_le ls (j + 1)
      have HX := mkHid hx
      have HVJ := mkHid hv
      have HO := mkHid ho
      have HT2 := mkHid ht2
      clear hx hv ho ht2
      go_wp2_with fail
      refine (markSymS_ok l ao cp base _ _ (by omega) (by omega) (by omega) HO.out).mono ?_
      rintro e w1 ⟨rfl, ho1, hg1⟩
      have N1 : Hid (Inn w1 base vs (partYY k0 ls (j + 1))) := mkHid (by rw [← partYY_set HX.out]; exact HN.out.wrote HVJ.out ho1 hg1)
      have K1 : Hid (Keeps 39 w w1) := mkHid (HKE.out.trans (Keeps.grown hg1 fun q hq => by obtain ⟨cur, hc⟩ := HO.out.block hq; exact ⟨cur, _, hc⟩))
      have B1 : Hid (Outs base hi w w1) := mkHid (HB.out.grown hg1 (fun q hq => ⟨(HO.out.lt hq).1, HTOP.out j _ q HVJ.out hq⟩))
      have W1 : Hid (w1.ownsRow base 34 1 (.slice (some ⟨g, 0, none⟩) ls.length cap) ls.length vs) := mkHid (World.ownsRow.kept HW.out hg1 (.inr fun e => by
        obtain ⟨cur, hcur⟩ := HO.out.block (q := g) (by rw [← e]; rfl)
        rcases HW.out.2 with ⟨e2, _⟩ | ⟨g2, _, cur2, e2, _, hg2, _⟩
        · simp at e2
        · simp at e2
          obtain ⟨rfl, rfl⟩ := e2
          rw [hcur] at hg2
          simp at hg2))
      clear ho1 hg1 HN HB HW
      go_wp2
      go_roundw
      case rel => exact ⟨j + 1, by omega, by go_num, by rw [HT2.out]; congr 1; omega, W1.out, N1.out, B1.out, K1.out⟩
      case measure => simp [intOf]; omega
    · have e : j = ls.length := by omega
      subst e
      have hN := HN.out
      rw [partYY_all] at hN
      have HN := mkHid hN
      rw [List.take_length]
      clear hN
      go_wp2
      go_ret
      exact ⟨rfl, HW.out, HN.out, HB.out, HKE.out⟩
set_option maxRecDepth 100000 in
set_option maxHeartbeats 400000 in
theorem markSymSS_nil (a : Option Addr) (c : Nat) (k0 : Int) (w : World) :
    Calls Tryz.prog 72 #[.slice a 0 c, .int .i64 k0] w fun e w' => e = .returned (.int .i64 k0) ∧ w' = w := by
  go_enter Tryz.func72, Tryz.ntmps72
  go_wp2
  go_loopw [1, 5] (fun kv i w' => i = .int .i64 0 ∧ kv = .int .i64 k0 ∧ w' = w) (fun _ i _ => 0)
  case atStart => exact ⟨rfl, rfl, rfl⟩
  case round =>
    obtain ⟨rfl, rfl, rfl⟩ := hrel
    go_wp2
    go_ret
    exact ⟨rfl, rfl⟩
theorem markSymSS_ok (ls : List (List Y)) (ao : Option Addr) (cap base hi : Nat) (k0 : Int) (w : World) (hn : ls.length ≤ 2000000) (hr : ∀ (i : Nat) (l : List Y), ls[i]? = some l → l.length ≤ 2000000) (ht : tot ls ≤ 2000000) (h0 : 0 ≤ k0) (h1 : k0 ≤ 20000000) (hown : OwnT w base hi (.slice ao ls.length cap) ls) :
    Calls Tryz.prog 72 #[.slice ao ls.length cap, .int .i64 k0] w fun e w' => e = .returned (.int .i64 (k0 + (tot ls : Int) * 2)) ∧ OwnT w' base hi (.slice ao ls.length cap) (marksYY k0 ls) ∧ Outs base hi w w' ∧ Keeps 39 w w' := by
  obtain ⟨vs, hv1, hv2, hv3, hv4⟩ := hown
  rcases hv1.2 with ⟨e, h⟩ | ⟨g, cap', cur, e, _⟩
  · have hl := List.length_eq_zero_iff.1 h
    subst hl
    refine (markSymSS_nil ao cap k0 w).mono ?_
    rintro e w' ⟨rfl, rfl⟩
    exact ⟨ret_int' (by simp [tot]), ⟨vs, hv1, hv2, hv3, hv4⟩, Outs.refl _ _ _, Keeps.refl _ _⟩
  · simp at e
    obtain ⟨rfl, rfl⟩ := e
    refine (markSymSS_of ls g cap base k0 w hn hr ht h0 h1 hi vs hv1 hv2 hv4).mono ?_
    rintro e w' ⟨rfl, h1, h2, h3⟩
    exact ⟨rfl, ⟨vs, by rw [marksYY_len]; exact h1, h2, hv3, hv4⟩, h3⟩

set_option maxRecDepth 100000 in
set_option maxHeartbeats 800000 in
theorem heldSymSS_of (ls : List (List Y)) (b off c : Nat) (k0 : Int) (w : World) (hn : ls.length ≤ 2000000) (hr : ∀ (i : Nat) (l : List Y), ls[i]? = some l → l.length ≤ 2000000) (ht : tot ls ≤ 2000000) (h0 : 0 ≤ k0) (h1 : k0 ≤ 20000000)
    (hl : ∀ (i : Nat) (l : List Y), (marksYY k0 ls)[i]? = some l → ∃ ao cap, w.cell? ⟨b, off + i, none⟩ = some (.slice ao l.length cap) ∧ At eY w ao l) :
    Calls Tryz.prog 75 #[.slice (some ⟨b, off, none⟩) ls.length c, .int .i64 k0] w fun e w' => e = .returned (.int .i64 (k0 + (tot ls : Int) * 2)) ∧ Below w.heap.size w w' := by
  have HL := mkHid hl
  have HR := mkHid hr
  clear hl hr
  go_enter Tryz.func75, Tryz.ntmps75
  go_wp2
  go_loopw [1, 5] (fun kv i w' => ∃ (j : Nat), j ≤ ls.length ∧ i = .int .i64 j ∧ kv = .int .i64 (k0 + (tot (ls.take j) : Int) * 2) ∧ Below w.heap.size w w') (fun _ i _ => ls.length - (intOf i).toNat)
  case atStart => exact ⟨0, Nat.zero_le _, rfl, by simp [tot], Below.refl _ _⟩
  case round =>
    obtain ⟨j, hj, rfl, rfl, hbel⟩ := hrel
    have HB := mkHid hbel
    by_cases hlt : j < ls.length
    · obtain ⟨l, hx⟩ : ∃ l, ls[j]? = some l := ⟨_, List.getElem?_eq_getElem hlt⟩
      obtain ⟨ao, cp, c00, hat0⟩ := HL.out j _ (marksYY_get hx)
      rw [marksY_len] at c00
      have c0 : wr.cell? ⟨b, off + j, none⟩ = some (.slice ao l.length cp) := (hbel.cell (p := ⟨b, off + j, none⟩) (World.block_lt_of_cell? w _ c00)).trans c00
      have hat := hat0.below hbel
      clear c00 hat0 hbel
      have hll := HR.out j l hx
      have ht1 := tot_take_le ls j
      have ht2 := tot_take_succ hx
      have ht3 := tot_take_le ls (j + 1)
      have HT2 := mkHid ht2
      have HAT := mkHid hat
      have hq : ¬ (k0 + (tot (ls.take j) : Int) * 2 + (l.length : Int) * 2 < 0) := by omega
      clear hx ht2 hat
      go_wp2_with fail
      refine (heldSymS_ok l.length ao cp _ _ (by omega) (by omega) (by omega) HAT.out).mono ?_
      rintro e w1 ⟨rfl, hb1⟩
      have HB1 := mkHid (below_step HB.out hb1)
      clear hb1
      go_wp2
      go_roundw
      case rel => exact ⟨j + 1, by omega, by go_num, by rw [HT2.out]; congr 1; omega, HB1.out⟩
      case measure => simp [intOf]; omega
    · have e : j = ls.length := by omega
      subst e
      rw [List.take_length]
      go_wp2
      go_ret
      exact ⟨rfl, HB.out⟩
set_option maxRecDepth 100000 in
set_option maxHeartbeats 400000 in
theorem heldSymSS_nil (a : Option Addr) (c : Nat) (k0 : Int) (w : World) :
    Calls Tryz.prog 75 #[.slice a 0 c, .int .i64 k0] w fun e w' => e = .returned (.int .i64 k0) ∧ w' = w := by
  go_enter Tryz.func75, Tryz.ntmps75
  go_wp2
  go_loopw [1, 5] (fun kv i w' => i = .int .i64 0 ∧ kv = .int .i64 k0 ∧ w' = w) (fun _ i _ => 0)
  case atStart => exact ⟨rfl, rfl, rfl⟩
  case round =>
    obtain ⟨rfl, rfl, rfl⟩ := hrel
    go_wp2
    go_ret
    exact ⟨rfl, rfl⟩
theorem heldSymSS_ok (ls : List (List Y)) (a : Option Addr) (c : Nat) (k0 : Int) (w : World) (hn : ls.length ≤ 2000000) (hr : ∀ (i : Nat) (l : List Y), ls[i]? = some l → l.length ≤ 2000000) (ht : tot ls ≤ 2000000) (h0 : 0 ≤ k0) (h1 : k0 ≤ 20000000) (hl : BndsAt w a (marksYY k0 ls)) :
    Calls Tryz.prog 75 #[.slice a ls.length c, .int .i64 k0] w fun e w' => e = .returned (.int .i64 (k0 + (tot ls : Int) * 2)) ∧ Below w.heap.size w w' := by
  rcases hl with h | ⟨b, o, rfl, hl⟩
  · have h' : ls = [] := by
      have := marksYY_len k0 ls
      rw [h] at this
      exact List.length_eq_zero_iff.1 this.symm
    subst h'
    refine (heldSymSS_nil a c k0 w).mono ?_
    rintro e w' ⟨rfl, rfl⟩
    exact ⟨ret_int' (by simp [tot]), Below.refl _ _⟩
  · exact heldSymSS_of ls b o c k0 w hn hr ht h0 h1 hl
end Go.Proofs.YtbfmljogfljhdaaGreat
namespace Go.Proofs.YtbfmljogfljhdaaGreat
open Go.RowKit

set_option maxRecDepth 100000 in
set_option maxHeartbeats 1600000 in
theorem szSymSS_of (ls : List (List Y)) (a : Option Addr) (c : Nat) (left : Int) (w : World) (hn : ls.length ≤ maxLen) (hr : ∀ (i : Nat) (l : List Y), ls[i]? = some l → l.length ≤ maxLen) (h0 : 0 ≤ left) (h1 : left ≤ 1048576) (hl : BndsAt w a ls) :
    Calls Tryz.prog 59 #[.slice a ls.length c, .int .i64 left] w fun e w' => w = w' ∧ ∃ r : Int, e = .returned (.int .i64 r) ∧ (0 ≤ r → ls.length ≤ 1048576 ∧ tot ls ≤ 1048576 ∧ r ≤ 1048576) := by
  unfold maxLen at hn
  have HL := mkHid hl
  have HR := mkHid hr
  clear hl hr
  by_cases hbig : left - ls.length < 0
  · go_enter Tryz.func59, Tryz.ntmps59
    go_wp2
    go_ret
    exact ⟨rfl, -1, rfl, fun h => absurd h (by omega)⟩
  go_enter Tryz.func59, Tryz.ntmps59
  go_wp2
  go_loopw [1, 5] (fun lv i w' => ∃ (k : Nat) (z : Int), k ≤ ls.length ∧ i = .int .i64 k ∧ lv = .int .i64 z ∧ 0 ≤ z ∧ z + tot (ls.take k) ≤ 1048576 ∧ w' = w) (fun _ i _ => ls.length - (intOf i).toNat)
  case atStart => exact ⟨0, _, Nat.zero_le _, rfl, rfl, by omega, by simp [tot]; omega, rfl⟩
  case round =>
    obtain ⟨k, z, hk, rfl, rfl, hz0, hz1, rfl⟩ := hrel
    by_cases hlt : k < ls.length
    · obtain ⟨l, hx⟩ : ∃ x, ls[k]? = some x := ⟨_, List.getElem?_eq_getElem hlt⟩
      obtain ⟨b, o, rfl, _, hl⟩ := HL.out.cons (by omega)
      obtain ⟨ao, cp, c0, _⟩ := hl k l hx
      have HM := mkHid (HR.out k l hx)
      have HT := mkHid (tot_take_succ hx)
      have HZ := mkHid hz1
      have hz2 : z ≤ 1048576 := by omega
      clear hl hx hz1
      have i0 : (0 : Int) ≤ (k : Int) := by omega
      have i1 : (k : Int) < (ls.length : Int) := by omega
      go_wp2_with fail
      refine (szSymS_any ao l.length cp z _ HM.out hz0 hz2).mono ?_
      rintro e w2 ⟨rfl, rfl⟩
      obtain ⟨r, hr⟩ : ∃ r, szN z l.length = r := ⟨_, rfl⟩
      have HQ : Hid (¬ r < 0 → 0 ≤ r ∧ r + l.length ≤ z) := mkHid fun h => by unfold szN at hr; split at hr <;> omega
      rw [hr]
      clear hr
      by_cases hneg : r < 0
      · go_wp2
        go_ret
        exact ⟨rfl, -1, rfl, fun h => absurd h (by omega)⟩
      · obtain ⟨hq0, hq1⟩ := HQ.out hneg
        have HQ1 := mkHid hq1
        clear hq1
        go_wp2
        go_roundw
        case rel => exact ⟨k + 1, r, by omega, by go_num, rfl, hq0, by have := HT.out; have := HZ.out; have := HQ1.out; omega, by trivial⟩
        case measure => simp [intOf]; omega
    · have e : k = ls.length := by omega
      subst e
      have HZ := mkHid hz1
      clear hz1
      go_wp2
      go_ret
      exact ⟨rfl, z, rfl, fun _ => ⟨by omega, by have := HZ.out; rw [List.take_length] at this; omega, by have := HZ.out; omega⟩⟩
set_option maxRecDepth 100000 in
set_option maxHeartbeats 1600000 in
theorem szSeg_any (S : SG) (A : SAd) (w : World) (hb : S.B.length ≤ maxLen) (hr : ∀ (i : Nat) (l : List Y), S.B[i]? = some l → l.length ≤ maxLen) (hv : S.V.length ≤ maxLen) (hm : S.M.length ≤ maxLen) (left : Int) (h0 : 0 ≤ left) (h1 : left ≤ 1048576) (hl : SegAt w A S) :
    Calls Tryz.prog 17 #[.agg #[.slice A.a0 S.B.length A.c0, .slice A.a1 S.V.length A.c1, .slice A.a2 S.M.length A.c2], .int .i64 left] w fun e w' => Below w.heap.size w w' ∧ ∃ r : Int, e = .returned (.int .i64 r) ∧ (0 ≤ r → S.B.length ≤ 1048576 ∧ tot S.B ≤ 1048576 ∧ S.V.length ≤ 1048576 ∧ S.M.length ≤ 1048576 ∧ r ≤ 1048576) := by
  have HB := mkHid hb
  have HR := mkHid hr
  have HV := mkHid hv
  have HM := mkHid hm
  have HL := mkHid hl
  clear hb hr hv hm hl
  go_enter Tryz.func17, Tryz.ntmps17
  go_wp2_with fail
  obtain ⟨w0, hw0⟩ : ∃ x : World, w.alloc (.cells #[.slice A.a0 S.B.length A.c0, .slice A.a1 S.V.length A.c1, .slice A.a2 S.M.length A.c2] 47) = x := ⟨_, rfl⟩
  have HBe : Hid (Below w.heap.size w w0) := mkHid (by rw [← hw0]; exact bl_alloc (Below.refl _ _) _)
  obtain ⟨q0, q1, q2, _, _, _⟩ : G3 w0 w.heap.size (.slice A.a0 S.B.length A.c0) (.slice A.a1 S.V.length A.c1) (.slice A.a2 S.M.length A.c2) := by rw [← hw0]; exact G3.new _ _ _ _ _
  rw [hw0]
  clear hw0
  refine (szSymSS_of S.B A.a0 A.c0 left _ HB.out HR.out h0 h1 (HL.out.b.below HBe.out)).mono ?_
  rintro e _ ⟨rfl, r, rfl, hr⟩
  have HR1 := mkHid hr
  clear hr
  by_cases hneg : r < 0
  · go_wp2
    go_ret
    exact ⟨HBe.out, -1, rfl, fun h => absurd h (by omega)⟩
  obtain ⟨_, _, hr1⟩ := HR1.out (by omega)
  go_wp2_with fail
  refine (szValS_any A.a1 S.V.length A.c1 r _ HV.out (by omega) hr1).mono ?_
  rintro e _ ⟨rfl, rfl⟩
  obtain ⟨r2, hr2⟩ : ∃ z, szN r S.V.length = z := ⟨_, rfl⟩
  have HQ2 : Hid (¬ r2 < 0 → S.V.length ≤ 1048576 ∧ 0 ≤ r2 ∧ r2 ≤ 1048576) := mkHid fun h => by unfold szN at hr2; split at hr2 <;> omega
  rw [hr2]
  clear hr2
  by_cases hneg2 : r2 < 0
  · go_wp2
    go_ret
    exact ⟨HBe.out, -1, rfl, fun h => absurd h (by omega)⟩
  obtain ⟨_, _, hr3⟩ := HQ2.out hneg2
  go_wp2_with fail
  refine (szBoolS_any A.a2 S.M.length A.c2 r2 _ HM.out (by omega) hr3).mono ?_
  rintro e _ ⟨rfl, rfl⟩
  obtain ⟨r3, hr4⟩ : ∃ z, szN r2 S.M.length = z := ⟨_, rfl⟩
  have HQ3 : Hid (¬ r3 < 0 → S.M.length ≤ 1048576 ∧ 0 ≤ r3 ∧ r3 ≤ 1048576) := mkHid fun h => by unfold szN at hr4; split at hr4 <;> omega
  rw [hr4]
  clear hr4
  by_cases hneg3 : r3 < 0
  · go_wp2
    go_ret
    exact ⟨HBe.out, -1, rfl, fun h => absurd h (by omega)⟩
  go_wp2
  go_ret
  exact ⟨HBe.out, r3, rfl, fun h => ⟨(HR1.out (by omega)).1, (HR1.out (by omega)).2.1, (HQ2.out hneg2).1, (HQ3.out h).1, (HQ3.out h).2.2⟩⟩
set_option maxRecDepth 100000 in
set_option maxHeartbeats 3200000 in
theorem toSeg_any (S : SG) (A : SAd) (w : World) (hb : S.B.length ≤ 1048576) (ht : tot S.B ≤ 1048576) (hv : S.V.length ≤ 1048576) (hm : S.M.length ≤ 1048576) (hl : SegAt w A S) :
    Calls Tryz.prog 19 #[.agg #[.slice A.a0 S.B.length A.c0, .slice A.a1 S.V.length A.c1, .slice A.a2 S.M.length A.c2]] w fun e w' => ∃ A' : SAd, e = .returned (.agg #[.slice A'.a0 S.B.length A'.c0, .slice A'.a1 S.V.length A'.c1, .slice A'.a2 S.M.length A'.c2]) ∧ OwnS w' w.heap.size w'.heap.size A' S ∧ Below w.heap.size w w' := by
  have HB := mkHid hb
  have HT := mkHid ht
  have HV := mkHid hv
  have HM := mkHid hm
  have HL := mkHid hl
  clear hb ht hv hm hl
  obtain ⟨w0, hw0⟩ : ∃ x : World, ((w.alloc (.cells #[.slice A.a0 S.B.length A.c0, .slice A.a1 S.V.length A.c1, .slice A.a2 S.M.length A.c2] 47)).alloc (.cells #[.slice none 0 0, .slice none 0 0, .slice none 0 0] 28)).alloc (.cells #[.slice none 0 0, .slice none 0 0, .slice none 0 0] 28) = x := ⟨_, rfl⟩
  obtain ⟨X, hX⟩ : ∃ x, w.heap.size = x := ⟨_, rfl⟩
  have HBe : Hid (Below X w w0) := mkHid (by rw [← hw0, ← hX]; exact bl_alloc (bl_alloc (bl_alloc (Below.refl _ _) _) _) _)
  have P0 : Hid (G3 w0 X (.slice A.a0 S.B.length A.c0) (.slice A.a1 S.V.length A.c1) (.slice A.a2 S.M.length A.c2)) := mkHid (by rw [← hw0, ← hX]; constructor <;> simp [go_sem])
  have P1 : Hid (G3 w0 (X + 1) (.slice none 0 0) (.slice none 0 0) (.slice none 0 0)) := mkHid (by rw [← hw0, ← hX]; constructor <;> simp [go_sem])
  have P2 : Hid (G3 w0 (X + 1 + 1) (.slice none 0 0) (.slice none 0 0) (.slice none 0 0)) := mkHid (by rw [← hw0, ← hX]; constructor <;> simp [go_sem])
  have HS : Hid (w0.heap.size = X + 1 + 1 + 1) := mkHid (by rw [← hw0, ← hX]; simp)
  have HX := mkHid hX
  have HL0 : Hid (SegAt w0 A S) := mkHid (HL.out.below (by rw [hX]; exact HBe.out))
  obtain ⟨q0, q1, q2, _, _, _⟩ := P0.out
  go_enter Tryz.func19, Tryz.ntmps19
  go_wp2_with fail
  clear hw0 hX
  refine (toSymSS_any S.B A.a0 A.c0 _ HB.out HT.out HL0.out.b).mono ?_
  rintro e w1 ⟨g0, rfl, ho0, hb0⟩
  have HO0 := mkHid ho0
  have R0 := mkHid (P0.out.below hb0)
  have R1 := mkHid (P1.out.below hb0)
  have R2 := mkHid (P2.out.below hb0)
  have HL1 := mkHid (HL0.out.below hb0)
  have HB1 : Hid (Below X w w1) := mkHid (HBe.out.trans (hb0.mono (by have := HS.out; omega)))
  have S1 : Hid (w0.heap.size ≤ w1.heap.size) := mkHid hb0.size
  clear q0 q1 q2 ho0 hb0 P0 P1 P2 HL0 HBe
  obtain ⟨wa, hwa⟩ : ∃ x : World, w1.setCell ⟨X + 1 + 1, 0, none⟩ (.slice (some ⟨g0, 0, none⟩) S.B.length S.B.length) = x := ⟨_, rfl⟩
  have SA : Hid (wa.heap.size = w1.heap.size) := mkHid (by rw [← hwa]; simp)
  have OA : Hid (OwnT wa (X + 1 + 1 + 1) w1.heap.size (.slice (some ⟨g0, 0, none⟩) S.B.length S.B.length) S.B) := mkHid (by rw [← hwa]; exact (HO0.out.top.mono (Nat.le_of_eq HS.out.symm) (Nat.le_refl _)).outs (outs_set w1 (X + 1 + 1) 0 _) (.inr (Nat.le_refl _)))
  have BA : Hid (Below X w wa) := mkHid (by rw [← hwa]; exact HB1.out.setCell (p := ⟨X + 1 + 1, 0, none⟩) (by show X ≤ X + 1 + 1; omega) _)
  have T0 : Hid (G3 wa X (.slice A.a0 S.B.length A.c0) (.slice A.a1 S.V.length A.c1) (.slice A.a2 S.M.length A.c2)) := mkHid (by rw [← hwa]; exact R0.out.far (by omega) _ _)
  have T1 : Hid (G3 wa (X + 1) (.slice none 0 0) (.slice none 0 0) (.slice none 0 0)) := mkHid (by rw [← hwa]; exact R1.out.far (by omega) _ _)
  have T2 : Hid (G3 wa (X + 1 + 1) (.slice (some ⟨g0, 0, none⟩) S.B.length S.B.length) (.slice none 0 0) (.slice none 0 0)) := mkHid (by rw [← hwa]; exact R2.out.set0 _)
  have LA : Hid (SegAt wa A S) := mkHid (HL.out.below (by rw [HX.out]; exact BA.out))
  obtain ⟨p0, _, _, f0, _, _⟩ := R2.out
  obtain ⟨q0, q1, q2, _, _, _⟩ := T0.out
  clear R0 R1 R2 HO0 HB1 HL1
  go_wp2_with fail
  clear hwa q0 q1 q2 p0 f0
  refine (toValS_any S.V A.a1 A.c1 _ HV.out LA.out.v).mono ?_
  rintro e w2 ⟨g1, rfl, ho1, hb1⟩
  have HO1 := mkHid ho1
  have OA2 := mkHid (OA.out.below hb1)
  have R0 := mkHid (T0.out.below hb1)
  have R1 := mkHid (T1.out.below hb1)
  have R2 := mkHid (T2.out.below hb1)
  have S2 : Hid (w1.heap.size ≤ w2.heap.size) := mkHid (by have := SA.out; have := hb1.size; omega)
  have HB2 : Hid (Below X w w2) := mkHid (BA.out.trans (hb1.mono (by have := HS.out; have := S1.out; have := SA.out; omega)))
  clear ho1 hb1 OA T0 T1 T2 LA BA
  obtain ⟨wb, hwb⟩ : ∃ x : World, w2.setCell ⟨X + 1 + 1, 1, none⟩ (.slice (some ⟨g1, 0, none⟩) S.V.length S.V.length) = x := ⟨_, rfl⟩
  have SB : Hid (wb.heap.size = w2.heap.size) := mkHid (by rw [← hwb]; simp)
  have OA : Hid (OwnT wb (X + 1 + 1 + 1) w1.heap.size (.slice (some ⟨g0, 0, none⟩) S.B.length S.B.length) S.B) := mkHid (by rw [← hwb]; exact OA2.out.outs (outs_set w2 (X + 1 + 1) 1 _) (.inr (Nat.le_refl _)))
  have OV : Hid (Own eV 82 wb (X + 1 + 1 + 1) (.slice (some ⟨g1, 0, none⟩) S.V.length S.V.length) S.V ∧ ∀ q, Value.ownBlock (.slice (some ⟨g1, 0, none⟩) S.V.length S.V.length) = some q → q < w2.heap.size) := mkHid (by
    have h := HO1.out.mono (base' := X + 1 + 1 + 1) (by have := HS.out; have := S1.out; have := SA.out; omega)
    refine ⟨?_, fun q hq => (HO1.out.lt hq).2⟩
    rw [← hwb]; exact h.outs (fun q hq => (h.lt hq).2) (outs_set w2 (X + 1 + 1) 1 _) (.inr (Nat.le_refl _)))
  have BA : Hid (Below X w wb) := mkHid (by rw [← hwb]; exact HB2.out.setCell (p := ⟨X + 1 + 1, 1, none⟩) (by show X ≤ X + 1 + 1; omega) _)
  have T0 : Hid (G3 wb X (.slice A.a0 S.B.length A.c0) (.slice A.a1 S.V.length A.c1) (.slice A.a2 S.M.length A.c2)) := mkHid (by rw [← hwb]; exact R0.out.far (by omega) _ _)
  have T1 : Hid (G3 wb (X + 1) (.slice none 0 0) (.slice none 0 0) (.slice none 0 0)) := mkHid (by rw [← hwb]; exact R1.out.far (by omega) _ _)
  have T2 : Hid (G3 wb (X + 1 + 1) (.slice (some ⟨g0, 0, none⟩) S.B.length S.B.length) (.slice (some ⟨g1, 0, none⟩) S.V.length S.V.length) (.slice none 0 0)) := mkHid (by rw [← hwb]; exact R2.out.set1 _)
  have LA : Hid (SegAt wb A S) := mkHid (HL.out.below (by rw [HX.out]; exact BA.out))
  obtain ⟨_, p1, _, _, f1, _⟩ := R2.out
  obtain ⟨q0, q1, q2, _, _, _⟩ := T0.out
  clear R0 R1 R2 HO1 HB2 OA2
  go_wp2_with fail
  clear hwb q0 q1 q2 p1 f1
  refine (toBoolS_any S.M A.a2 A.c2 _ HM.out LA.out.m).mono ?_
  rintro e w3 ⟨g2, rfl, ho2, hb2⟩
  have HO2 := mkHid ho2
  have OA3 := mkHid (OA.out.below hb2)
  have OV3 := mkHid (And.intro (OV.out.1.below hb2) OV.out.2)
  have R1 := mkHid (T1.out.below hb2)
  have R2 := mkHid (T2.out.below hb2)
  have S3 : Hid (w2.heap.size ≤ w3.heap.size) := mkHid (by have := SB.out; have := hb2.size; omega)
  have HB3 : Hid (Below X w w3) := mkHid (BA.out.trans (hb2.mono (by have := HS.out; have := S1.out; have := S2.out; have := SB.out; omega)))
  clear ho2 hb2 OA OV T0 T1 T2 LA BA
  obtain ⟨wc, hwc⟩ : ∃ x : World, w3.setCell ⟨X + 1 + 1, 2, none⟩ (.slice (some ⟨g2, 0, none⟩) S.M.length S.M.length) = x := ⟨_, rfl⟩
  have SC : Hid (wc.heap.size = w3.heap.size) := mkHid (by rw [← hwc]; simp)
  have OM : Hid (Own eB 4 w3 (X + 1 + 1 + 1) (.slice (some ⟨g2, 0, none⟩) S.M.length S.M.length) S.M ∧ ∀ q, Value.ownBlock (.slice (some ⟨g2, 0, none⟩) S.M.length S.M.length) = some q → q < w3.heap.size) := mkHid (by
    have h := HO2.out.mono (base' := X + 1 + 1 + 1) (by have := HS.out; have := S1.out; have := S2.out; have := SB.out; omega)
    exact ⟨h, fun q hq => (h.lt hq).2⟩)
  have OS : Hid (OwnS w3 (X + 1 + 1 + 1) w3.heap.size ⟨some ⟨g0, 0, none⟩, S.B.length, some ⟨g1, 0, none⟩, S.V.length, some ⟨g2, 0, none⟩, S.M.length⟩ S) := mkHid ⟨OA3.out.mono (Nat.le_refl _) (by have := S2.out; have := S3.out; omega), OV3.out.1, fun q hq => by have := OV3.out.2 q hq; have := S3.out; omega, OM.out.1, OM.out.2⟩
  have OC := mkHid ((OS.out.outs (outs_set w3 (X + 1 + 1) 2 (.slice (some ⟨g2, 0, none⟩) S.M.length S.M.length)) (.inr (Nat.le_refl _))))
  have BC : Hid (Below X w wc) := mkHid (by rw [← hwc]; exact HB3.out.setCell (p := ⟨X + 1 + 1, 2, none⟩) (by show X ≤ X + 1 + 1; omega) _)
  have T1 : Hid (G3 wc (X + 1) (.slice none 0 0) (.slice none 0 0) (.slice none 0 0)) := mkHid (by rw [← hwc]; exact R1.out.far (by omega) _ _)
  have T2 : Hid (G3 wc (X + 1 + 1) (.slice (some ⟨g0, 0, none⟩) S.B.length S.B.length) (.slice (some ⟨g1, 0, none⟩) S.V.length S.V.length) (.slice (some ⟨g2, 0, none⟩) S.M.length S.M.length)) := mkHid (by rw [← hwc]; exact R2.out.set2 _)
  rw [hwc] at OC
  obtain ⟨_, _, p2, _, _, f2⟩ := R2.out
  obtain ⟨q0, q1, q2, _, _, _⟩ := T2.out
  obtain ⟨r0, r1, r2, t0, t1, t2⟩ := T1.out
  clear R1 R2 HO2 HB3 OA3 OV3 OM OS
  have OD := mkHid (((OC.out.outs (outs_set wc (X + 1) 0 (.slice (some ⟨g0, 0, none⟩) S.B.length S.B.length)) (.inr (by omega))).outs (outs_set _ (X + 1) 1 (.slice (some ⟨g1, 0, none⟩) S.V.length S.V.length)) (.inr (by omega))).outs (outs_set _ (X + 1) 2 (.slice (some ⟨g2, 0, none⟩) S.M.length S.M.length)) (.inr (by omega)))
  have BD := mkHid (((BC.out.setCell (p := ⟨X + 1, 0, none⟩) (by show X ≤ X + 1; omega) (.slice (some ⟨g0, 0, none⟩) S.B.length S.B.length)).setCell (p := ⟨X + 1, 1, none⟩) (by show X ≤ X + 1; omega) (.slice (some ⟨g1, 0, none⟩) S.V.length S.V.length)).setCell (p := ⟨X + 1, 2, none⟩) (by show X ≤ X + 1; omega) (.slice (some ⟨g2, 0, none⟩) S.M.length S.M.length))
  go_wp2
  refine bodyPost_ret (v := .agg #[.slice (some ⟨g0, 0, none⟩) S.B.length S.B.length, .slice (some ⟨g1, 0, none⟩) S.V.length S.V.length, .slice (some ⟨g2, 0, none⟩) S.M.length S.M.length]) (by simp [results, Tryz.results19, go_sem, *]) rfl ⟨⟨some ⟨g0, 0, none⟩, S.B.length, some ⟨g1, 0, none⟩, S.V.length, some ⟨g2, 0, none⟩, S.M.length⟩, rfl, ?_, ?_⟩
  · rw [HX.out]
    exact OD.out.mono (by omega) (by have := SC.out; simp; omega)
  · rw [HX.out]
    exact BD.out
end Go.Proofs.YtbfmljogfljhdaaGreat
