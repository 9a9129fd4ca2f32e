/-
  CONTRACT of slices.CompactFunc at a sorted row of terms of our own: the walk.
-/
import Derived.Test.YtbfmljogfljhdaaGreatCf
namespace Go.Proofs.YtbfmljogfljhdaaGreat
open Go.RowKit

set_option maxRecDepth 100000 in
set_option maxHeartbeats 6400000 in
theorem compact_own (l : List Y) (g cap base bx : Nat) (w : World) (hn : l.length ≤ 1048576) (hs : l.Pairwise fun a b => ¬ LtY b a) (ho : Own eY 39 w base (.slice (some ⟨g, 0, none⟩) l.length cap) l) (hcap : l.length ≤ cap) (hcm : cap ≤ maxLen)
    (hbx : w.cell? ⟨bx, 0, none⟩ = some (.func (.func 101) #[] #[])) (hbg : bx ≠ g) :
    Calls Tryz.prog 126 #[.slice (some ⟨g, 0, none⟩) l.length cap, .func (.func 125) #[] #[.pointer (some ⟨bx, 0, none⟩)]] w fun e w' => w.grownBy w' (some g) ∧ ∃ m : List Y, e = .returned (.slice (some ⟨g, 0, none⟩) m.length cap) ∧ IsSet m l ∧ Own eY 39 w' base (.slice (some ⟨g, 0, none⟩) m.length cap) m := by
  unfold maxLen at hcm
  have HO := mkHid ho
  have HSO := mkHid hs
  have HBX := mkHid hbx
  clear ho hs hbx
  by_cases hsm : l.length < 2
  · have hsi : (l.length : Int) < 2 := by omega
    have HA : Hid (l.Pairwise LtY) := mkHid (by
      match l, hsm with
      | [], _ => exact List.Pairwise.nil
      | [a], _ => simp)
    go_enter Tryz.func126, Tryz.ntmps126
    go_wp2
    go_ret
    exact ⟨World.grownBy.refl _ _, l, rfl, IsSet.self HA.out, HO.out⟩
  have hsi : ¬ (l.length : Int) < 2 := by omega
  go_enter Tryz.func126, Tryz.ntmps126
  go_wp2
  go_loopg [5] l.length (fun gk s5 wr => ∃ k : Nat, 1 ≤ k ∧ k ≤ l.length ∧ l.length - k ≤ gk ∧ s5 = .int .i64 k ∧ (l.take k).Pairwise LtY ∧ Below w.heap.size w wr)
  case atStart => exact ⟨1, Nat.le_refl _, by omega, by omega, rfl, by
    have : l.take 1 = [l[0]] := by rw [List.take_succ_eq_append_getElem (by omega)]; simp
    rw [this]; simp, Below.refl _ _⟩
  case round =>
    obtain ⟨k, hk1, hk, hgk, rfl, hasc, hbel⟩ := hrel
    have HA := mkHid hasc
    have HB := mkHid hbel
    have HOr := mkHid (HO.out.below hbel)
    have HBr : Hid (wr.cell? ⟨bx, 0, none⟩ = some (.func (.func 101) #[] #[])) := mkHid ((hbel.cell (p := ⟨bx, 0, none⟩) (World.block_lt_of_cell? w _ HBX.out)).trans HBX.out)
    clear hasc hbel
    by_cases hlt : k < l.length
    · obtain ⟨x, hx⟩ : ∃ x, l[k]? = some x := ⟨_, List.getElem?_eq_getElem hlt⟩
      obtain ⟨y, hy⟩ : ∃ x, l[k - 1]? = some x := ⟨_, List.getElem?_eq_getElem (by omega)⟩
      obtain ⟨km, hkm⟩ : ∃ km, k - 1 = km := ⟨_, rfl⟩
      rw [hkm] at hy
      obtain ⟨b, o, e, hlb, hq⟩ := HOr.out.at.cons (by omega)
      cases e
      obtain ⟨c0, c1⟩ := get_y hq hx
      obtain ⟨d0, d1⟩ := get_y hq hy
      rw [Nat.zero_add] at c0 c1 d0 d1
      have HX := mkHid hx
      have HY := mkHid hy
      have HKM := mkHid hkm
      have hwk : IntKind.i64.wrap ((k : Int) - 1) = (km : Int) := by rw [IntWalk.i64_in _ (by omega)]; omega
      have hwk2 : wrap64 ((k : Int) - 1) = (km : Int) := by unfold wrap64; omega
      have i0 : (0 : Int) ≤ (k : Int) := by omega
      have i1 : (k : Int) < (l.length : Int) := by omega
      have i2 : (0 : Int) ≤ (km : Int) := by omega
      have i3 : (km : Int) < (l.length : Int) := by omega
      have e0 := HBr.out
      have hle := World.block_lt_of_cell? wr _ e0
      clear hq hx hy hkm
      by_cases hxy : x = y
      · have hd : decide (x = y) = true := decide_eq_true hxy
        have HXY := mkHid hxy
        clear hxy
        go_wp2_with fail
        go_region_held3 (fun w' => w'.cell? ⟨g, k * 2, none⟩ = some (.int .i64 x.1) ∧ w'.cell? ⟨g, k * 2 + 1, none⟩ = some (.int .i64 x.2) ∧ w'.cell? ⟨g, km * 2, none⟩ = some (.int .i64 y.1) ∧ w'.cell? ⟨g, km * 2 + 1, none⟩ = some (.int .i64 y.2)) (first | exact ⟨c0, c1, d0, d1⟩ | exact ⟨(hc _ _ hlb).trans c0, (hc _ _ hlb).trans c1, (hc _ _ hlb).trans d0, (hc _ _ hlb).trans d1⟩)
          (first | (go_at_call 125; refine (alike_any x y bx wr.drew e0).mono ?_; rintro e w1 ⟨rfl, hb1⟩; rw [hd]; obtain ⟨hc, hf⟩ := bcell hb1))
        have HB1 : Hid (Below w.heap.size w w1) := HB.out.drew.trans (hb1.mono HB.out.drew.size)
        clear hb1 hc hf c0 c1 d0 d1 e0
        have s0 : ¬ ((k : Int) = (cap : Int)) := by omega
        have s1 : (k : Int) ≤ (cap : Int) := by omega
        obtain ⟨n2, hn2⟩ : ∃ n2, l.length - k = n2 := ⟨_, rfl⟩
        have hn2a : l.length ≤ k + n2 := by omega
        have hn2b : k + n2 ≤ l.length := by omega
        have HKS := mkHid (Kept.start hk1 HX.out (by have h := HY.out; rw [← HKM.out, ← HXY.out] at h; exact h) HA.out)
        have HO1 := mkHid (HO.out.below HB1.out)
        have HG1 : Hid (w.grownBy w1 (some g)) := mkHid (grown_below HB1.out)
        have HBX1 : Hid (w1.cell? ⟨bx, 0, none⟩ = some (.func (.func 101) #[] #[])) := mkHid ((HB1.out.cell (p := ⟨bx, 0, none⟩) (World.block_lt_of_cell? w _ HBX.out)).trans HBX.out)
        go_wp2
        obtain ⟨wo, hwo⟩ : ∃ x, x = wr := ⟨_, rfl⟩
        subst hwo
        clear hn2
        go_loopg [5, 7] l.length (fun gk s5 s7 wr => ∃ (p q : Nat) (ms : List Y), s5 = .int .i64 p ∧ s7 = .int .i64 q ∧ 1 ≤ q ∧ q ≤ n2 ∧ n2 - q ≤ gk ∧ Kept l ms p (k + q) ∧ Own eY 39 wr base (.slice (some ⟨g, 0, none⟩) l.length cap) ms ∧ w.grownBy wr (some g))
        case atStart => exact ⟨k, 1, l, rfl, rfl, Nat.le_refl _, by omega, by omega, HKS.out, HO1.out, HG1.out⟩
        case round =>
          obtain ⟨p, q, ms, rfl, rfl, hq1, hqn, hgq, hkept, hown, hgr⟩ := hrel
          have HKE := mkHid hkept
          have HOW := mkHid hown
          have HGR := mkHid hgr
          have hp1 := hkept.p1
          have hpj := hkept.pj
          have hml := hkept.len
          have hbr : wr.cell? ⟨bx, 0, none⟩ = some (.func (.func 101) #[] #[]) := hgr.cell HBX.out (fun e => hbg (Option.some.inj e))
          have hle2 := World.block_lt_of_cell? wr _ hbr
          clear HKS HO1 HG1 HB1 HBX1 HOr HBr HX HY HKM HXY HA HB
          by_cases hlt2 : q < n2
          · obtain ⟨u, hu⟩ : ∃ x, l[k + q]? = some x := ⟨_, List.getElem?_eq_getElem (by omega)⟩
            obtain ⟨v, hv⟩ : ∃ x, l[k + q - 1]? = some x := ⟨_, List.getElem?_eq_getElem (by omega)⟩
            obtain ⟨qm, hqm⟩ : ∃ qm, q - 1 = qm := ⟨_, rfl⟩
            obtain ⟨b, o, e, hlb, hq⟩ := hown.at.cons (by omega)
            cases e
            obtain ⟨c0, c1⟩ := get_y hq ((hkept.rest (k + q) (by omega)).trans hu)
            obtain ⟨d0, d1⟩ := get_y hq ((hkept.rest (k + q - 1) (by omega)).trans hv)
            rw [show 0 + (k + q) * 2 = k * 2 + q * 2 by omega] at c0 c1
            rw [show 0 + (k + q - 1) * 2 = k * 2 + qm * 2 by omega] at d0 d1
            have HU := mkHid hu
            have HV := mkHid hv
            have HQM := mkHid hqm
            have hwq : IntKind.i64.wrap ((q : Int) - 1) = (qm : Int) := by rw [IntWalk.i64_in _ (by omega)]; omega
            have hwq2 : wrap64 ((q : Int) - 1) = (qm : Int) := by unfold wrap64; omega
            have j0 : (0 : Int) ≤ (q : Int) := by omega
            have j1 : (q : Int) < (n2 : Int) := by omega
            have j2 : (0 : Int) ≤ (qm : Int) := by omega
            have j3 : (qm : Int) < (n2 : Int) := by omega
            have k0 : (0 : Int) ≤ (p : Int) := by omega
            have k1 : (p : Int) < (l.length : Int) := by omega
            have hxl : (eY.flat ms).length = l.length * 2 := by rw [El.flat_len, hml]; rfl
            have HOQ : Hid (wr.ownsRow base 39 2 (.slice (some ⟨g, 0, none⟩) l.length cap) l.length (eY.flat ms)) := mkHid (by have h := hown; unfold Own at h; rw [hml] at h; exact h)
            clear hq hu hv hqm hkept hown hgr
            by_cases huv : u = v
            · have hd2 : decide (u = v) = true := decide_eq_true huv
              have HUV := mkHid huv
              clear huv
              go_wp2_with fail
              go_region_held3 (fun w' => w'.cell? ⟨g, k * 2 + q * 2, none⟩ = some (.int .i64 u.1) ∧ w'.cell? ⟨g, k * 2 + q * 2 + 1, none⟩ = some (.int .i64 u.2) ∧ w'.cell? ⟨g, k * 2 + qm * 2, none⟩ = some (.int .i64 v.1) ∧ w'.cell? ⟨g, k * 2 + qm * 2 + 1, none⟩ = some (.int .i64 v.2)) (first | exact ⟨c0, c1, d0, d1⟩ | exact ⟨(hc _ _ hlb).trans c0, (hc _ _ hlb).trans c1, (hc _ _ hlb).trans d0, (hc _ _ hlb).trans d1⟩)
                (first | (go_at_call 125; refine (alike_any u v bx wr.drew hbr).mono ?_; rintro e w2 ⟨rfl, hb1⟩; rw [hd2]; obtain ⟨hc, hf⟩ := bcell hb1))
              have HB2 : Hid (Below wr.heap.size wr w2) := mkHid (bdrew hb1)
              clear hb1 hc hf c0 c1 d0 d1 hbr
              have HK2 := mkHid (HKE.out.skip HU.out (by rw [HV.out, HUV.out]))
              have HO2 := mkHid (HOW.out.below HB2.out)
              have HG2 := mkHid (grown_trans HGR.out (grown_below HB2.out))
              go_wp2
              go_roundg (n2 - (q + 1))
              case measure => omega
              case rel => exact ⟨p, q + 1, ms, rfl, by go_num, by omega, by omega, Nat.le_refl _, HK2.out, HO2.out, HG2.out⟩
            · have hd2 : decide (u = v) = false := decide_eq_false huv
              have HUV := mkHid huv
              clear huv
              go_wp2_with fail
              go_region_held3 (fun w' => w'.cell? ⟨g, k * 2 + q * 2, none⟩ = some (.int .i64 u.1) ∧ w'.cell? ⟨g, k * 2 + q * 2 + 1, none⟩ = some (.int .i64 u.2) ∧ w'.cell? ⟨g, k * 2 + qm * 2, none⟩ = some (.int .i64 v.1) ∧ w'.cell? ⟨g, k * 2 + qm * 2 + 1, none⟩ = some (.int .i64 v.2)) (first | exact ⟨c0, c1, d0, d1⟩ | exact ⟨(hc _ _ hlb).trans c0, (hc _ _ hlb).trans c1, (hc _ _ hlb).trans d0, (hc _ _ hlb).trans d1⟩)
                (first | (go_at_call 125; refine (alike_any u v bx wr.drew hbr).mono ?_; rintro e w2 ⟨rfl, hb1⟩; rw [hd2]; obtain ⟨hc, hf⟩ := bcell hb1))
              have c0' := (hc _ _ hlb).trans c0
              have c1' := (hc _ _ hlb).trans c1
              have c0 : w2.cell? ⟨g, k * 2 + q * 2, none⟩ = some (.int .i64 u.1) := c0'
              have c1 : w2.cell? ⟨g, k * 2 + q * 2 + 1, none⟩ = some (.int .i64 u.2) := c1'
              have HB2 : Hid (Below wr.heap.size wr w2) := mkHid (bdrew hb1)
              clear hb1 hc hf d0 d1 hbr c0' c1'
              have HOQ2 := mkHid (owns_below HOQ.out HB2.out)
              obtain ⟨u0, y0⟩ : ∃ v, w2.cell? ⟨g, p * 2, none⟩ = some v := ⟨_, (HOQ2.out.cellAt (p * 2) (by omega)).trans (List.getElem?_eq_getElem (by omega))⟩
              obtain ⟨u1, y1⟩ : ∃ v, w2.cell? ⟨g, p * 2 + 1, none⟩ = some v := ⟨_, (HOQ2.out.cellAt (p * 2 + 1) (by omega)).trans (List.getElem?_eq_getElem (by omega))⟩
              have z0 := HOQ2.out.frozenAt (p * 2)
              have z1 := HOQ2.out.frozenAt (p * 2 + 1)
              have HA0 := mkHid (HOQ2.out.stored (p * 2) (.int .i64 u.1))
              have HA1 := mkHid (HA0.out.1.stored (p * 2 + 1) (.int .i64 u.2))
              have HK2 := mkHid (HKE.out.keep HSO.out HU.out HV.out HUV.out)
              have HG2 := mkHid (grown_trans (grown_trans (grown_trans HGR.out (grown_below HB2.out)) HA0.out.2) HA1.out.2)
              have HML := mkHid hml
              clear hml hxl
              go_wp2
              go_roundg (n2 - (q + 1))
              case measure => omega
              case rel =>
                refine ⟨p + 1, q + 1, ms.set p u, by go_num, by go_num, by omega, by omega, Nat.le_refl _, HK2.out, ?_, HG2.out⟩
                have h := HA1.out.1
                rw [flat_set (by have := HML.out; omega)] at h
                unfold Own
                rw [List.length_set, HML.out]
                exact h
          · have hqe : q = n2 := by omega
            have HSET : Hid (IsSet (ms.take p) l) := mkHid (by have h := hkept.set; rw [hqe, show k + n2 = l.length by omega, List.take_length] at h; exact h)
            have HOQ : Hid (wr.ownsRow base 39 2 (.slice (some ⟨g, 0, none⟩) l.length cap) l.length (eY.flat ms)) := mkHid (by have h := hown; unfold Own at h; rw [hml] at h; exact h)
            obtain ⟨np, hnp⟩ : ∃ np, l.length - p = np := ⟨_, rfl⟩
            have hnpa : l.length ≤ p + np := by omega
            have hnpb : p + np ≤ l.length := by omega
            have hnp0 : 0 < np := by omega
            have hfl : (eY.flat ms).length = l.length * 2 := by rw [El.flat_len, hml]; rfl
            have hcl : ∀ ty, (Builtin.clear_ #[34] ty #[.slice (some ⟨g, p * 2, none⟩) np (cap - p)]).run Tryz.prog wr = .ok (.tuple #[]) (wr.setCells g (p * 2) (List.replicate (np * 2) (.int .i64 0))) :=
              fun ty => run_clear_two wr ty g (p * 2) np _ hnp0 (fun j hj => by rw [HOQ.out.cellAt (p * 2 + j) (by omega), List.getElem?_eq_getElem (by omega)]; rfl) (fun j _ => HOQ.out.frozenAt _)
            obtain ⟨wc, hwc⟩ : ∃ x, wr.setCells g (p * 2) (List.replicate (np * 2) (.int .i64 0)) = x := ⟨_, rfl⟩
            obtain ⟨xs', ho', ht', hg'⟩ := own_cleared (List.replicate (np * 2) (.int .i64 0)) (p * 2) HOQ.out
            rw [hwc] at ho' hg' hcl
            have hlp : (ms.take p).length = p := by rw [List.length_take]; omega
            have HOF : Hid (Own eY 39 wc base (.slice (some ⟨g, 0, none⟩) p cap) (ms.take p)) := mkHid (by
              have h := own_cut ho' (p := p) (by omega)
              rw [ht'] at h
              have e := eY.flat_take ms p
              unfold Own
              rw [hlp, ← e]
              exact h)
            have HGF := mkHid (grown_trans HGR.out hg')
            have HLP := mkHid hlp
            have k0 : (0 : Int) ≤ (p : Int) := by omega
            have k1 : (p : Int) < (l.length : Int) := by omega
            have k2 : (p : Int) < (cap : Int) := by omega
            have j1 : ¬ (q : Int) < (n2 : Int) := by omega
            clear ho' ht' hg' hwc hkept hown hgr hml hlp hbr hfl hqe
            go_wp2
            go_ret
            exact ⟨HGF.out, ms.take p, by rw [HLP.out]; rfl, HSET.out, by rw [HLP.out]; exact HOF.out⟩
      · have hd : decide (x = y) = false := decide_eq_false hxy
        have HNX := mkHid (asc_take_succ hk1 HSO.out HA.out HX.out (by rw [HKM.out]; exact HY.out) hxy)
        clear hxy
        go_wp2_with fail
        go_region_held3 (fun w' => w'.cell? ⟨g, k * 2, none⟩ = some (.int .i64 x.1) ∧ w'.cell? ⟨g, k * 2 + 1, none⟩ = some (.int .i64 x.2) ∧ w'.cell? ⟨g, km * 2, none⟩ = some (.int .i64 y.1) ∧ w'.cell? ⟨g, km * 2 + 1, none⟩ = some (.int .i64 y.2)) (first | exact ⟨c0, c1, d0, d1⟩ | exact ⟨(hc _ _ hlb).trans c0, (hc _ _ hlb).trans c1, (hc _ _ hlb).trans d0, (hc _ _ hlb).trans d1⟩)
          (first | (go_at_call 125; refine (alike_any x y bx wr.drew e0).mono ?_; rintro e w1 ⟨rfl, hb1⟩; rw [hd]; obtain ⟨hc, hf⟩ := bcell hb1))
        have HB1 : Hid (Below w.heap.size w w1) := HB.out.drew.trans (hb1.mono HB.out.drew.size)
        clear hb1 hc hf c0 c1 d0 d1 e0
        go_wp2
        go_roundg (l.length - (k + 1))
        case measure => omega
        case rel => exact ⟨k + 1, by omega, by omega, Nat.le_refl _, by go_num, HNX.out, HB1.out⟩
    · have e : k = l.length := by omega
      have HAL : Hid (l.Pairwise LtY) := mkHid (by have h := HA.out; rw [e, List.take_length] at h; exact h)
      have i1 : ¬ (k : Int) < (l.length : Int) := by omega
      go_wp2
      go_ret
      exact ⟨grown_below HB.out, l, rfl, IsSet.self HAL.out, HOr.out⟩
end Go.Proofs.YtbfmljogfljhdaaGreat
