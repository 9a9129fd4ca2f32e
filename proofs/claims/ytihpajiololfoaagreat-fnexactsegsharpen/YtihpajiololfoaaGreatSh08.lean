/-
  CONTRACT of slices.CompactFunc at a sorted row of terms of our own: the walk.
  LAYING at this program of the library's contract of slices.Grow.
  CONTRACT of slices.Concat at rows of terms: a row of our own that holds all of them.
-/
import Derived.Test.YtihpajiololfoaaGreatSh07
import Derived.Shelf.Spec.SlicesGrow
import Derived.Shelf.SlSortCmp.NoneTotal
import Derived.Test.YtihpajiololfoaaGreatSh00
import Derived.Test.YtihpajiololfoaaGreatSh02
import Derived.Deep.AppendLies
import Derived.Deep.Upon
import Derived.OwnWalk
namespace Go.Proofs.YtihpajiololfoaaGreat
open Go.RowKit

set_option maxRecDepth 100000 in
set_option maxHeartbeats 6400000 in
theorem compact_own (l : List Y) (g cap base bx : Nat) (w : World) (hn : l.length ≤ 1048576) (hs : l.Pairwise fun a b => ¬ LtY b a) (ho : Own eY 49 w base (.slice (some ⟨g, 0, none⟩) l.length cap) l) (hcap : l.length ≤ cap) (hcm : cap ≤ maxLen)
  (hbx : w.cell? ⟨bx, 0, none⟩ = some (.func (.func 132) #[] #[])) (hbg : bx ≠ g) :
  Calls Tryz.prog 155 #[.slice (some ⟨g, 0, none⟩) l.length cap, .func (.func 154) #[] #[.pointer (some ⟨bx, 0, none⟩)]] w fun e w' => w.grownBy w' (some g) ∧ ∃ m : List Y, e = .returned (.slice (some ⟨g, 0, none⟩) m.length cap) ∧ IsSet m l ∧ Own eY 49 w' base (.slice (some ⟨g, 0, none⟩) m.length cap) m := by
 unfold maxLen at hcm
 have HO := mkHid ho
 have HSO := mkHid hs
 have HBX := mkHid hbx
 clear ho hs hbx
 by_cases hsm : l.length < 2
 ·have hsi : (l.length : Int) < 2 := by omega
  have HA : Hid (l.Pairwise LtY) := mkHid (by
   match l, hsm with
   | [], _ => exact List.Pairwise.nil
   | [a], _ => simp)
  go_enter Tryz.func155, Tryz.ntmps155
  go_wp2
  go_ret
  exact ⟨World.grownBy.refl _ _, l, rfl, IsSet.self HA.out, HO.out⟩
 have hsi : ¬ (l.length : Int) < 2 := by omega
 go_enter Tryz.func155, Tryz.ntmps155
 go_wp2
 go_loopg [5] l.length (fun gk s5 wr => ∃ k : Nat, 1 ≤ k ∧ k ≤ l.length ∧ l.length - k ≤ gk ∧ s5 = .int .i64 k ∧ (l.take k).Pairwise LtY ∧ Below w.heap.size w wr)
 case atStart => exact ⟨1, Nat.le_refl _, by omega, by omega, rfl, by
  have : l.take 1 = [l[0]] := by rw [List.take_succ_eq_append_getElem (by omega)]; simp
  rw [this]; simp, Below.refl _ _⟩
 case round =>
  obtain ⟨k, hk1, hk, hgk, rfl, hasc, hbel⟩ := hrel
  have HA := mkHid hasc
  have HB := mkHid hbel
  have HOr := mkHid (HO.out.below hbel)
  have HBr : Hid (wr.cell? ⟨bx, 0, none⟩ = some (.func (.func 132) #[] #[])) := mkHid ((hbel.cell (p := ⟨bx, 0, none⟩) (World.block_lt_of_cell? w _ HBX.out)).trans HBX.out)
  clear hasc hbel
  by_cases hlt : k < l.length
  ·obtain ⟨x, hx⟩ : ∃ x, l[k]? = some x := ⟨_, List.getElem?_eq_getElem hlt⟩
   obtain ⟨y, hy⟩ : ∃ x, l[k - 1]? = some x := ⟨_, List.getElem?_eq_getElem (by omega)⟩
   obtain ⟨km, hkm⟩ : ∃ km, k - 1 = km := ⟨_, rfl⟩
   rw [hkm] at hy
   obtain ⟨b, o, e, hlb, hq⟩ := HOr.out.at.cons (by omega)
   cases e
   obtain ⟨c0, c1⟩ := get_y hq hx
   obtain ⟨d0, d1⟩ := get_y hq hy
   rw [Nat.zero_add] at c0 c1 d0 d1
   have HX := mkHid hx
   have HY := mkHid hy
   have HKM := mkHid hkm
   have hwk : IntKind.i64.wrap ((k : Int) - 1) = (km : Int) := by rw [IntWalk.i64_in _ (by omega)]; omega
   have hwk2 : wrap64 ((k : Int) - 1) = (km : Int) := by unfold wrap64; omega
   have i0 : (0 : Int) ≤ (k : Int) := by omega
   have i1 : (k : Int) < (l.length : Int) := by omega
   have i2 : (0 : Int) ≤ (km : Int) := by omega
   have i3 : (km : Int) < (l.length : Int) := by omega
   have e0 := HBr.out
   have hle := World.block_lt_of_cell? wr _ e0
   clear hq hx hy hkm
   by_cases hxy : x = y
   ·have hd : decide (x = y) = true := decide_eq_true hxy
    have HXY := mkHid hxy
    clear hxy
    go_wp2_with fail
    go_region_held3 (fun w' => w'.cell? ⟨g, k * 2, none⟩ = some (.int .i64 x.1) ∧ w'.cell? ⟨g, k * 2 + 1, none⟩ = some (.int .i64 x.2) ∧ w'.cell? ⟨g, km * 2, none⟩ = some (.int .i64 y.1) ∧ w'.cell? ⟨g, km * 2 + 1, none⟩ = some (.int .i64 y.2)) (first | exact ⟨c0, c1, d0, d1⟩ | exact ⟨(hc _ _ hlb).trans c0, (hc _ _ hlb).trans c1, (hc _ _ hlb).trans d0, (hc _ _ hlb).trans d1⟩)
     (first | (go_at_call 154; refine (alike_any x y bx wr.drew e0).mono ?_; rintro e w1 ⟨rfl, hb1⟩; rw [hd]; obtain ⟨hc, hf⟩ := bcell hb1))
    have HB1 : Hid (Below w.heap.size w w1) := HB.out.drew.trans (hb1.mono HB.out.drew.size)
    clear hb1 hc hf c0 c1 d0 d1 e0
    have s0 : ¬ ((k : Int) = (cap : Int)) := by omega
    have s1 : (k : Int) ≤ (cap : Int) := by omega
    obtain ⟨n2, hn2⟩ : ∃ n2, l.length - k = n2 := ⟨_, rfl⟩
    have hn2a : l.length ≤ k + n2 := by omega
    have hn2b : k + n2 ≤ l.length := by omega
    have HKS := mkHid (Kept.start hk1 HX.out (by have h := HY.out; rw [← HKM.out, ← HXY.out] at h; exact h) HA.out)
    have HO1 := mkHid (HO.out.below HB1.out)
    have HG1 : Hid (w.grownBy w1 (some g)) := mkHid (grown_below HB1.out)
    have HBX1 : Hid (w1.cell? ⟨bx, 0, none⟩ = some (.func (.func 132) #[] #[])) := mkHid ((HB1.out.cell (p := ⟨bx, 0, none⟩) (World.block_lt_of_cell? w _ HBX.out)).trans HBX.out)
    go_wp2
    obtain ⟨wo, hwo⟩ : ∃ x, x = wr := ⟨_, rfl⟩
    subst hwo
    clear hn2
    go_loopg [5, 7] l.length (fun gk s5 s7 wr => ∃ (p q : Nat) (ms : List Y), s5 = .int .i64 p ∧ s7 = .int .i64 q ∧ 1 ≤ q ∧ q ≤ n2 ∧ n2 - q ≤ gk ∧ Kept l ms p (k + q) ∧ Own eY 49 wr base (.slice (some ⟨g, 0, none⟩) l.length cap) ms ∧ w.grownBy wr (some g))
    case atStart => exact ⟨k, 1, l, rfl, rfl, Nat.le_refl _, by omega, by omega, HKS.out, HO1.out, HG1.out⟩
    case round =>
     obtain ⟨p, q, ms, rfl, rfl, hq1, hqn, hgq, hkept, hown, hgr⟩ := hrel
     have HKE := mkHid hkept
     have HOW := mkHid hown
     have HGR := mkHid hgr
     have hp1 := hkept.p1
     have hpj := hkept.pj
     have hml := hkept.len
     have hbr : wr.cell? ⟨bx, 0, none⟩ = some (.func (.func 132) #[] #[]) := hgr.cell HBX.out (fun e => hbg (Option.some.inj e))
     have hle2 := World.block_lt_of_cell? wr _ hbr
     clear HKS HO1 HG1 HB1 HBX1 HOr HBr HX HY HKM HXY HA HB
     by_cases hlt2 : q < n2
     ·obtain ⟨u, hu⟩ : ∃ x, l[k + q]? = some x := ⟨_, List.getElem?_eq_getElem (by omega)⟩
      obtain ⟨v, hv⟩ : ∃ x, l[k + q - 1]? = some x := ⟨_, List.getElem?_eq_getElem (by omega)⟩
      obtain ⟨qm, hqm⟩ : ∃ qm, q - 1 = qm := ⟨_, rfl⟩
      obtain ⟨b, o, e, hlb, hq⟩ := hown.at.cons (by omega)
      cases e
      obtain ⟨c0, c1⟩ := get_y hq ((hkept.rest (k + q) (by omega)).trans hu)
      obtain ⟨d0, d1⟩ := get_y hq ((hkept.rest (k + q - 1) (by omega)).trans hv)
      rw [show 0 + (k + q) * 2 = k * 2 + q * 2 by omega] at c0 c1
      rw [show 0 + (k + q - 1) * 2 = k * 2 + qm * 2 by omega] at d0 d1
      have HU := mkHid hu
      have HV := mkHid hv
      have HQM := mkHid hqm
      have hwq : IntKind.i64.wrap ((q : Int) - 1) = (qm : Int) := by rw [IntWalk.i64_in _ (by omega)]; omega
      have hwq2 : wrap64 ((q : Int) - 1) = (qm : Int) := by unfold wrap64; omega
      have j0 : (0 : Int) ≤ (q : Int) := by omega
      have j1 : (q : Int) < (n2 : Int) := by omega
      have j2 : (0 : Int) ≤ (qm : Int) := by omega
      have j3 : (qm : Int) < (n2 : Int) := by omega
      have k0 : (0 : Int) ≤ (p : Int) := by omega
      have k1 : (p : Int) < (l.length : Int) := by omega
      have hxl : (eY.flat ms).length = l.length * 2 := by rw [El.flat_len, hml]; rfl
      have HOQ : Hid (wr.ownsRow base 49 2 (.slice (some ⟨g, 0, none⟩) l.length cap) l.length (eY.flat ms)) := mkHid (by have h := hown; unfold Own at h; rw [hml] at h; exact h)
      clear hq hu hv hqm hkept hown hgr
      by_cases huv : u = v
      ·have hd2 : decide (u = v) = true := decide_eq_true huv
       have HUV := mkHid huv
       clear huv
       go_wp2_with fail
       go_region_held3 (fun w' => w'.cell? ⟨g, k * 2 + q * 2, none⟩ = some (.int .i64 u.1) ∧ w'.cell? ⟨g, k * 2 + q * 2 + 1, none⟩ = some (.int .i64 u.2) ∧ w'.cell? ⟨g, k * 2 + qm * 2, none⟩ = some (.int .i64 v.1) ∧ w'.cell? ⟨g, k * 2 + qm * 2 + 1, none⟩ = some (.int .i64 v.2)) (first | exact ⟨c0, c1, d0, d1⟩ | exact ⟨(hc _ _ hlb).trans c0, (hc _ _ hlb).trans c1, (hc _ _ hlb).trans d0, (hc _ _ hlb).trans d1⟩)
        (first | (go_at_call 154; refine (alike_any u v bx wr.drew hbr).mono ?_; rintro e w2 ⟨rfl, hb1⟩; rw [hd2]; obtain ⟨hc, hf⟩ := bcell hb1))
       have HB2 : Hid (Below wr.heap.size wr w2) := mkHid (bdrew hb1)
       clear hb1 hc hf c0 c1 d0 d1 hbr
       have HK2 := mkHid (HKE.out.skip HU.out (by rw [HV.out, HUV.out]))
       have HO2 := mkHid (HOW.out.below HB2.out)
       have HG2 := mkHid (grown_trans HGR.out (grown_below HB2.out))
       go_wp2
       go_roundg (n2 - (q + 1))
       case measure => omega
       case rel => exact ⟨p, q + 1, ms, rfl, by go_num, by omega, by omega, Nat.le_refl _, HK2.out, HO2.out, HG2.out⟩
      ·have hd2 : decide (u = v) = false := decide_eq_false huv
       have HUV := mkHid huv
       clear huv
       go_wp2_with fail
       go_region_held3 (fun w' => w'.cell? ⟨g, k * 2 + q * 2, none⟩ = some (.int .i64 u.1) ∧ w'.cell? ⟨g, k * 2 + q * 2 + 1, none⟩ = some (.int .i64 u.2) ∧ w'.cell? ⟨g, k * 2 + qm * 2, none⟩ = some (.int .i64 v.1) ∧ w'.cell? ⟨g, k * 2 + qm * 2 + 1, none⟩ = some (.int .i64 v.2)) (first | exact ⟨c0, c1, d0, d1⟩ | exact ⟨(hc _ _ hlb).trans c0, (hc _ _ hlb).trans c1, (hc _ _ hlb).trans d0, (hc _ _ hlb).trans d1⟩)
        (first | (go_at_call 154; refine (alike_any u v bx wr.drew hbr).mono ?_; rintro e w2 ⟨rfl, hb1⟩; rw [hd2]; obtain ⟨hc, hf⟩ := bcell hb1))
       have c0' := (hc _ _ hlb).trans c0
       have c1' := (hc _ _ hlb).trans c1
       have c0 : w2.cell? ⟨g, k * 2 + q * 2, none⟩ = some (.int .i64 u.1) := c0'
       have c1 : w2.cell? ⟨g, k * 2 + q * 2 + 1, none⟩ = some (.int .i64 u.2) := c1'
       have HB2 : Hid (Below wr.heap.size wr w2) := mkHid (bdrew hb1)
       clear hb1 hc hf d0 d1 hbr c0' c1'
       have HOQ2 := mkHid (owns_below HOQ.out HB2.out)
       obtain ⟨u0, y0⟩ : ∃ v, w2.cell? ⟨g, p * 2, none⟩ = some v := ⟨_, (HOQ2.out.cellAt (p * 2) (by omega)).trans (List.getElem?_eq_getElem (by omega))⟩
       obtain ⟨u1, y1⟩ : ∃ v, w2.cell? ⟨g, p * 2 + 1, none⟩ = some v := ⟨_, (HOQ2.out.cellAt (p * 2 + 1) (by omega)).trans (List.getElem?_eq_getElem (by omega))⟩
       have z0 := HOQ2.out.frozenAt (p * 2)
       have z1 := HOQ2.out.frozenAt (p * 2 + 1)
       have HA0 := mkHid (HOQ2.out.stored (p * 2) (.int .i64 u.1))
       have HA1 := mkHid (HA0.out.1.stored (p * 2 + 1) (.int .i64 u.2))
       have HK2 := mkHid (HKE.out.keep HSO.out HU.out HV.out HUV.out)
       have HG2 := mkHid (grown_trans (grown_trans (grown_trans HGR.out (grown_below HB2.out)) HA0.out.2) HA1.out.2)
       have HML := mkHid hml
       clear hml hxl
       go_wp2
       go_roundg (n2 - (q + 1))
       case measure => omega
       case rel =>
        refine ⟨p + 1, q + 1, ms.set p u, by go_num, by go_num, by omega, by omega, Nat.le_refl _, HK2.out, ?_, HG2.out⟩
        have h := HA1.out.1
        rw [flat_set (by have := HML.out; omega)] at h
        unfold Own
        rw [List.length_set, HML.out]
        exact h
     ·have hqe : q = n2 := by omega
      have HSET : Hid (IsSet (ms.take p) l) := mkHid (by have h := hkept.set; rw [hqe, show k + n2 = l.length by omega, List.take_length] at h; exact h)
      have HOQ : Hid (wr.ownsRow base 49 2 (.slice (some ⟨g, 0, none⟩) l.length cap) l.length (eY.flat ms)) := mkHid (by have h := hown; unfold Own at h; rw [hml] at h; exact h)
      obtain ⟨np, hnp⟩ : ∃ np, l.length - p = np := ⟨_, rfl⟩
      have hnpa : l.length ≤ p + np := by omega
      have hnpb : p + np ≤ l.length := by omega
      have hnp0 : 0 < np := by omega
      have hfl : (eY.flat ms).length = l.length * 2 := by rw [El.flat_len, hml]; rfl
      have hcl : ∀ ty, (Builtin.clear_ #[113] ty #[.slice (some ⟨g, p * 2, none⟩) np (cap - p)]).run Tryz.prog wr = .ok (.tuple #[]) (wr.setCells g (p * 2) (List.replicate (np * 2) (.int .i64 0))) :=
       fun ty => run_clear_two wr ty g (p * 2) np _ hnp0 (fun j hj => by rw [HOQ.out.cellAt (p * 2 + j) (by omega), List.getElem?_eq_getElem (by omega)]; rfl) (fun j _ => HOQ.out.frozenAt _)
      obtain ⟨wc, hwc⟩ : ∃ x, wr.setCells g (p * 2) (List.replicate (np * 2) (.int .i64 0)) = x := ⟨_, rfl⟩
      obtain ⟨xs', ho', ht', hg'⟩ := own_cleared (List.replicate (np * 2) (.int .i64 0)) (p * 2) HOQ.out
      rw [hwc] at ho' hg' hcl
      have hlp : (ms.take p).length = p := by rw [List.length_take]; omega
      have HOF : Hid (Own eY 49 wc base (.slice (some ⟨g, 0, none⟩) p cap) (ms.take p)) := mkHid (by
       have h := own_cut ho' (p := p) (by omega)
       rw [ht'] at h
       have e := eY.flat_take ms p
       unfold Own
       rw [hlp, ← e]
       exact h)
      have HGF := mkHid (grown_trans HGR.out hg')
      have HLP := mkHid hlp
      have k0 : (0 : Int) ≤ (p : Int) := by omega
      have k1 : (p : Int) < (l.length : Int) := by omega
      have k2 : (p : Int) < (cap : Int) := by omega
      have j1 : ¬ (q : Int) < (n2 : Int) := by omega
      clear ho' ht' hg' hwc hkept hown hgr hml hlp hbr hfl hqe
      go_wp2
      go_ret
      exact ⟨HGF.out, ms.take p, by rw [HLP.out]; rfl, HSET.out, by rw [HLP.out]; exact HOF.out⟩
   ·have hd : decide (x = y) = false := decide_eq_false hxy
    have HNX := mkHid (asc_take_succ hk1 HSO.out HA.out HX.out (by rw [HKM.out]; exact HY.out) hxy)
    clear hxy
    go_wp2_with fail
    go_region_held3 (fun w' => w'.cell? ⟨g, k * 2, none⟩ = some (.int .i64 x.1) ∧ w'.cell? ⟨g, k * 2 + 1, none⟩ = some (.int .i64 x.2) ∧ w'.cell? ⟨g, km * 2, none⟩ = some (.int .i64 y.1) ∧ w'.cell? ⟨g, km * 2 + 1, none⟩ = some (.int .i64 y.2)) (first | exact ⟨c0, c1, d0, d1⟩ | exact ⟨(hc _ _ hlb).trans c0, (hc _ _ hlb).trans c1, (hc _ _ hlb).trans d0, (hc _ _ hlb).trans d1⟩)
     (first | (go_at_call 154; refine (alike_any x y bx wr.drew e0).mono ?_; rintro e w1 ⟨rfl, hb1⟩; rw [hd]; obtain ⟨hc, hf⟩ := bcell hb1))
    have HB1 : Hid (Below w.heap.size w w1) := HB.out.drew.trans (hb1.mono HB.out.drew.size)
    clear hb1 hc hf c0 c1 d0 d1 e0
    go_wp2
    go_roundg (l.length - (k + 1))
    case measure => omega
    case rel => exact ⟨k + 1, by omega, by omega, Nat.le_refl _, by go_num, HNX.out, HB1.out⟩
  ·have e : k = l.length := by omega
   have HAL : Hid (l.Pairwise LtY) := mkHid (by have h := HA.out; rw [e, List.take_length] at h; exact h)
   have i1 : ¬ (k : Int) < (l.length : Int) := by omega
   go_wp2
   go_ret
   exact ⟨grown_below HB.out, l, rfl, IsSet.self HAL.out, HOr.out⟩
end Go.Proofs.YtihpajiololfoaaGreat
namespace Go.Proofs.YtihpajiololfoaaGreat
open Go.Shelf
def Tryz.growY_ren : Go.Shelf.Ren := ⟨fun | 4 => 162 | n => n, fun | 22 => 113 | 25 => 49 | 3 => 3 | 4 => 4 | 9 => 9 | 20 => 20 | 0 => 0 | 2 => 3 | n => n, fun | n => n⟩
theorem Tryz.growY : Go.Proofs.Lays8.n4 Tryz.prog Tryz.growY_ren := {
  mixed := by kernel_rfl
  f4 := ⟨Tryz.f162.name, by decide, Tryz.func162.trans (congrArg some (by kernel_rfl))⟩
  t0 := Tryz.underlying0
  a0 := Tryz.isAgg0
  z0 := Tryz.sizeOf0
  v0 := Tryz.zeroValue0
  t3 := Tryz.underlying3
  a3 := Tryz.isAgg3
  z3 := Tryz.sizeOf3
  v3 := Tryz.zeroValue3
  t4 := Tryz.underlying4
  a4 := Tryz.isAgg4
  z4 := Tryz.sizeOf4
  v4 := Tryz.zeroValue4
  t9 := Tryz.underlying9
  a9 := Tryz.isAgg9
  z9 := Tryz.sizeOf9
  v9 := Tryz.zeroValue9
  t20 := Tryz.underlying20
  a20 := Tryz.isAgg20
  z20 := Tryz.sizeOf20
  v20 := Tryz.zeroValue20
  t22 := Tryz.underlying113
  a22 := Tryz.isAgg113
  z22 := Tryz.sizeOf113
  v22 := Tryz.zeroValue113 }
end Go.Proofs.YtihpajiololfoaaGreat
namespace Go.Proofs.YtihpajiololfoaaGreat
open Go.RowKit

theorem Tryz.info49c : (Tryz.prog.info? 49).map (fun i => (i.zero, i.size, i.bytes)) = some (some (.agg #[.int .i64 0, .int .i64 0]), 2, 16) := by kernel_rfl
theorem wpList_append_zero {P : Program} (w : World) {ops : Array Oper} {rest : List Oper} {o : Oper} {a : Act} {Q : Exit → Act → World → Prop} (hgd : o.guard = none) (s x : Operand) (t : TypeId)
  (ho : o.op = .call { callee := .builtin .append, args := #[s, x], argTypes := #[t, t] }) (e : TypeId) (i : TypeInfo) (ht : P.underlying t = some (.slice e)) (hi : P.info? e = some i)
  (base : Option Addr) (n cap : Nat) (hle : n ≤ cap) (hs : a.eval s = .slice base n cap) (ax : Option Addr) (c : Nat) (hx : a.eval x = .slice ax 0 c)
  (h : wpList P ops Q rest (a.put o.dst (.slice base n cap)) w) : wpList P ops Q (o :: rest) a w :=
 wpList_plain hgd fun K hK => by
  have hr : (Builtin.append_ #[t, t] o.type #[.slice base n cap, .slice ax 0 c]).run P w = .ok (.slice base n cap) w := by
   cases ax with
   | none => exact run_append_nothing w t t o.type e i ht hi base n cap hle _ (Src.ofNil w ht c)
   | some ad => exact run_append_nothing w t t o.type e i ht hi base n cap hle _ (Src.ofSlice w ht ad 0 c [] (by simp) (fun j u hu => by simp at hu) (fun u hu => by simp at hu))
  unfold Oper.wp execOp
  simp only [ho, resolve, invoke, builtin, Sem.run_bind, Sem.run_pure, Result.andThen_ok, List.map_toArray, List.map_cons, List.map_nil, hs, hx, hr]
  exact hK _ _ h
/-- slices.Grow of no slice. -/
theorem grow_any (n : Nat) (w : World) (hn : n ≤ 1048576) : Calls Tryz.prog 162 #[.slice none 0 0, .int .i64 n] w fun e w' => Below w.heap.size w w' ∧ ∃ ao cap, e = .returned (.slice ao 0 cap) ∧ Own eY 49 w' w.heap.size (.slice ao 0 cap) [] := by
 rcases Nat.eq_zero_or_pos n with rfl | hp
 ·have h : Calls Tryz.prog 162 #[.slice none 0 0, .int .i64 ((0 : Nat) : Int)] w fun e w' => e = .returned (.slice none 0 0) ∧ w' = w := Any8.slices_Grow_room Tryz.growY none 0 0 0 w (by omega) (by omega) (by omega) (by omega)
  refine h.mono ?_
  rintro e w' ⟨rfl, rfl⟩
  exact ⟨Below.refl _ _, none, 0, rfl, Own.nil _ _ _ _⟩
 ·obtain ⟨i0, hi, hz⟩ := Option.map_eq_some_iff.1 Tryz.info49c
  simp only [Prod.mk.injEq] at hz
  obtain ⟨hz0, hz1, hz2⟩ := hz
  have h : Calls Tryz.prog 162 #[.slice none 0 0, .int .i64 (n : Int)] w fun e w' => e = .returned (.slice (some ⟨w.heap.size, 0, none⟩) 0 (grownCap w (0 + n) 0 49)) ∧ w' = w.drew.alloc (.cells (([] : List Value).toArray ++ Builtin.zeroCells (Value.agg #[.int .i64 0, .int .i64 0]).cells (0 + n - 0) ++ Builtin.zeroCells (Value.agg #[.int .i64 0, .int .i64 0]).cells (grownCap w (0 + n) 0 49 - (0 + n))) 49) :=
   Any8.slices_Grow_grow Tryz.growY i0 _ hi hz0 (by omega) none 0 0 n [] w (by omega) (by omega) (by rw [hz2]; omega) (by omega) (by simp) (fun _ => rfl) (fun a h => by cases h)
  refine h.mono ?_
  rintro e w' ⟨rfl, rfl⟩
  have hge := grownCap_ge w (0 + n) 0 49
  have hle := grownCap_le_maxLen w (0 + n) 0 49 (by unfold maxLen; omega)
  refine ⟨(Below.refl _ _).drew.alloc (Nat.le_refl _) _, _, _, rfl, by simp [El.flat], .inr ⟨w.heap.size, _, _, rfl, Nat.le_refl _, heap_alloc_new w.drew _, Nat.zero_le _, hle, ?_, by simp [El.flat]⟩⟩
  simp only [Array.size_append, size_zeroCells]
  show 0 + (0 + n - 0) * 2 + (grownCap w (0 + n) 0 49 - (0 + n)) * 2 = grownCap w (0 + n) 0 49 * 2
  omega
set_option maxRecDepth 100000 in
set_option maxHeartbeats 3200000 in
theorem concat_any (L : List (List Y)) (a : Option Addr) (c : Nat) (w : World) (hn : L.length ≤ 1048576) (ht : L.flatten.length ≤ 1048576) (hl : BndsAt w a L) :
  Calls Tryz.prog 152 #[.slice a L.length c] w fun e w' => Below w.heap.size w w' ∧ ∃ ao cap, e = .returned (.slice ao L.flatten.length cap) ∧ Own eY 49 w' w.heap.size (.slice ao L.flatten.length cap) L.flatten := by
 obtain ⟨F, hF⟩ : ∃ F, L.flatten = F := ⟨_, rfl⟩
 have HF := mkHid hF
 rw [hF] at ht ⊢
 clear hF
 obtain ⟨i0, hi, hz⟩ := Option.map_eq_some_iff.1 Tryz.info49c
 simp only [Prod.mk.injEq] at hz
 have HI := mkHid (And.intro hi hz)
 have HL := mkHid hl
 clear hi hz hl
 go_enter Tryz.func152, Tryz.ntmps152
 go_wp2
 go_loopg [3, 11, 5] L.length (fun g s3 s11 s5 wr => ∃ (k : Nat), k ≤ L.length ∧ s11 = .int .i64 k ∧ s3 = .int .i64 ((L.take k).flatten.length : Nat) ∧ L.length - k ≤ g ∧ wr = w)
 case atStart => exact ⟨0, Nat.zero_le _, rfl, rfl, by omega, rfl⟩
 case round =>
  obtain ⟨k, hk, rfl, rfl, hgk, rfl⟩ := hrel
  obtain ⟨tt, htt⟩ : ∃ tt, (L.take k).flatten.length = tt := ⟨_, rfl⟩
  have HTT := mkHid htt
  have hle1 : tt ≤ 1048576 := by have h1 := tot_take L k; rw [HF.out] at h1; omega
  rw [htt]
  clear htt
  by_cases hlt : k < L.length
  ·obtain ⟨l, hx⟩ : ∃ x, L[k]? = some x := ⟨_, List.getElem?_eq_getElem hlt⟩
   obtain ⟨b, off, rfl, _, hq⟩ := HL.out.cons (by omega)
   obtain ⟨ao, cp, c0, _⟩ := hq k l hx
   have HS := mkHid (tot_succ hx)
   have hle2 : tt + l.length ≤ 1048576 := by have h1 := tot_take L (k + 1); rw [HF.out, HS.out, HTT.out] at h1; omega
   clear hq hx
   have i0' : (0 : Int) ≤ (k : Int) := by omega
   have i1 : (k : Int) < (L.length : Int) := by omega
   have i2 : ¬ ((tt : Int) + (l.length : Int) < 0) := by omega
   go_wp2
   go_roundg (L.length - (k + 1))
   case measure => omega
   case rel => exact ⟨k + 1, by omega, by go_num, by rw [HS.out, HTT.out]; simp, Nat.le_refl _, by trivial⟩
  ·have e : k = L.length := by omega
   have HT2 : Hid (tt = F.length) := mkHid (by rw [← HTT.out, e, List.take_length, HF.out])
   have i1 : ¬ (k : Int) < (L.length : Int) := by omega
   clear e
   go_wp2_with fail
   refine (grow_any tt wr hle1).mono ?_
   rintro e w1 ⟨hb, ao, cap, rfl, ho⟩
   have HB1 := mkHid hb
   have HO1 := mkHid ho
   clear hb ho
   go_wp2
   obtain ⟨wo, hwo⟩ : ∃ x, x = wr := ⟨_, rfl⟩
   subst hwo
   go_loopg [6, 27, 8] L.length (fun g s6 s27 s8 wr => ∃ (q : Nat) (a6 : Option Addr) (c6 : Nat), q ≤ L.length ∧ s27 = .int .i64 q ∧ s6 = .slice a6 (L.take q).flatten.length c6 ∧ L.length - q ≤ g ∧ Own eY 49 wr wo.heap.size (.slice a6 (L.take q).flatten.length c6) (L.take q).flatten ∧ Below wo.heap.size wo wr)
   case atStart => exact ⟨0, ao, cap, Nat.zero_le _, rfl, rfl, by omega, HO1.out, HB1.out⟩
   case round =>
    obtain ⟨q, a6, c6, hq0, rfl, rfl, hgq, hown, hbel⟩ := hrel
    have HO := mkHid hown
    have HB := mkHid hbel
    clear HB1 HO1
    by_cases hlt2 : q < L.length
    ·obtain ⟨l, hx⟩ : ∃ x, L[q]? = some x := ⟨_, List.getElem?_eq_getElem hlt2⟩
     obtain ⟨b, off, rfl, _, hq⟩ := (HL.out.below hbel).cons (by omega)
     obtain ⟨al, cp, c0, hat⟩ := hq q l hx
     have HX := mkHid hx
     have HS : Hid ((L.take (q + 1)).flatten = (L.take q).flatten ++ l) := mkHid (by rw [List.take_add_one, hx]; simp)
     have HLE : Hid ((L.take (q + 1)).flatten.length ≤ 1048576) := mkHid (by have h1 := tot_take L (q + 1); rw [HF.out] at h1; omega)
     have HAT := mkHid hat
     clear hq hx hbel hat
     have j0 : (0 : Int) ≤ (q : Int) := by omega
     have j1 : (q : Int) < (L.length : Int) := by omega
     by_cases hne : l.length = 0
     ·obtain ⟨ao', cap', e, hcap, _⟩ := hown.form2
      simp only [Value.slice.injEq] at e
      obtain ⟨rfl, _, rfl⟩ := e
      have HL0 := mkHid (List.length_eq_zero_iff.1 hne)
      rw [hne] at c0
      obtain ⟨m, hm⟩ : ∃ m, (L.take q).flatten.length = m := ⟨_, rfl⟩
      have HM := mkHid hm
      rw [hm] at hcap
      rw [hm]
      clear hown hne hm
      go_wp2_with (at_builtin; refine wpList_append_zero _ rfl _ _ 113 rfl 49 i0 Tryz.underlying113 HI.out.1 _ _ _ hcap rfl _ _ rfl ?_)
      have HS2 : Hid ((L.take (q + 1)).flatten = (L.take q).flatten) := mkHid (by rw [HS.out, HL0.out, List.append_nil])
      go_wp2
      go_roundg (L.length - (q + 1))
      case measure => omega
      case rel => exact ⟨q + 1, a6, c6, by omega, by go_num, by rw [HS2.out, HM.out], Nat.le_refl _, by rw [HS2.out]; exact HO.out, HB.out⟩
     ·obtain ⟨bl, ol, rfl, _, hqc⟩ := HAT.out.cons (by omega)
      have HQC := mkHid hqc
      obtain ⟨m, hm⟩ : ∃ m, (L.take q).flatten.length = m := ⟨_, rfl⟩
      have HM := mkHid hm
      have hml : m + l.length ≤ 1048576 := by have := HLE.out; rw [HS.out, List.length_append] at this; omega
      rw [hm] at HO
      rw [hm]
      clear hm hown hqc
      go_wp2_with (at_builtin; refine wpList_append_lies _ rfl _ _ 113 rfl wo.heap.size 49 i0 (.agg #[.int .i64 0, .int .i64 0]) 2 16 Tryz.underlying113 HI.out.1 HI.out.2.1 HI.out.2.2.1 HI.out.2.2.2 rfl (by decide) _ m (eY.flat (L.take q).flatten) rfl ?c0 ⟨bl, ol, none⟩ l.length cp (eY.flat l) rfl (eY.flat_len l) ?c1 ?c2 (by omega) ?c3 ?c4 ?c5 wr.heap.size rfl ?_)
      case c0 => have h := HO.out; unfold Own at h; rw [HM.out] at h; exact h
      case c1 =>
       intro j u hu
       have hj : j < l.length * 2 := by have := (List.getElem?_eq_some_iff.1 hu).1; rw [El.flat_len] at this; exact this
       obtain ⟨x, hx⟩ : ∃ x, l[j / 2]? = some x := ⟨_, List.getElem?_eq_getElem (by omega)⟩
       have e : j / 2 * eY.k + j % 2 = j := by show j / 2 * 2 + j % 2 = j; omega
       have h1 := eY.flat_get hx (j := j % 2) (by show j % 2 < 2; omega)
       rw [e, hu] at h1
       have h2 := HQC.out (j / 2) x hx (j % 2) u h1.symm
       rw [Nat.add_assoc, e] at h2
       rw [Addr.add_lit]
       exact h2
      case c2 =>
       intro u hu
       simp only [El.flat, List.mem_flatMap] at hu
       obtain ⟨x, _, hu⟩ := hu
       simp [eY] at hu
       rcases hu with rfl | rfl <;> rfl
      case c3 => unfold maxLen; omega
      case c4 => omega
      case c5 => have := HB.out.size; omega
      intro g' cap' w3 hown' hgrow _ _
      have HO2 : Hid (Own eY 49 w3 wo.heap.size (.slice (some ⟨g', 0, none⟩) (L.take (q + 1)).flatten.length cap') (L.take (q + 1)).flatten) := mkHid (by
       unfold Own
       rw [HS.out, List.length_append, HM.out, El.flat_app]
       exact hown')
      have HB2 := mkHid (HB.out.grown hgrow HB.out.size (fun k hk => (HO.out.lt hk).1))
      have HSM : Hid ((L.take (q + 1)).flatten.length = m + l.length) := mkHid (by rw [HS.out, List.length_append, HM.out])
      clear hown' hgrow
      go_wp2
      go_roundg (L.length - (q + 1))
      case measure => omega
      case rel => exact ⟨q + 1, some ⟨g', 0, none⟩, cap', by omega, by go_num, by rw [HSM.out], Nat.le_refl _, HO2.out, HB2.out⟩
    ·have e : q = L.length := by omega
     have HO2 : Hid (Own eY 49 wr wo.heap.size (.slice a6 F.length c6) F) := mkHid (by have h := HO.out; rw [e, List.take_length, HF.out] at h; exact h)
     have HLn : Hid ((L.take q).flatten.length = F.length) := mkHid (by rw [e, List.take_length, HF.out])
     have j1 : ¬ (q : Int) < (L.length : Int) := by omega
     rw [HLn.out]
     clear e hbel hown HO
     go_wp2
     go_ret
     exact ⟨HB.out, a6, c6, rfl, HO2.out⟩
end Go.Proofs.YtihpajiololfoaaGreat
