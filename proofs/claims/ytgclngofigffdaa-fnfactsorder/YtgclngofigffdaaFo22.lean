/-
  CONTRACT of DrawFactsLeq.
  CONTRACTS: the law's own sameInts, sameFacts (at what is the same), and DrawFactsClose.
-/
import Derived.Test.YtgclngofigffdaaFo20
import Derived.Test.YtgclngofigffdaaFo21
import Derived.Test.YtgclngofigffdaaFo18
import Derived.Test.YtgclngofigffdaaFo16
import Derived.Test.YtgclngofigffdaaFo19
namespace Go.Proofs.Ytgclngofigffdaa
open Go.RowKit

theorem Fc.set {v : World} {b p i : Nat} {z : Int} {a : Option Addr} {n c : Nat} {u : Value} (h : Fc v b z a n c) (hne : b ≠ p) : Fc (v.setCell ⟨p, i, none⟩ u) b z a n c :=
  ⟨by rw [World.cell?_setCell_other _ _ _ _ (fun e => hne (congrArg Addr.block e).symm)]; exact h.1, by rw [World.cell?_setCell_other _ _ _ _ (fun e => hne (congrArg Addr.block e).symm)]; exact h.2⟩
theorem Fz.set {v : World} {b p i : Nat} {u : Value} (h : Fz v b) (hne : b ≠ p) : Fz (v.setCell ⟨p, i, none⟩ u) b := ⟨h.1.set hne, by rw [World.frozen?_setCell]; exact h.2.1, by rw [World.frozen?_setCell]; exact h.2.2⟩
theorem Fc.put {v : World} {b : Nat} {z z' : Int} {a a' : Option Addr} {n c n' c' : Nat} (h : Fc v b z a n c) : Fc ((v.setCell ⟨b, 0, none⟩ (.int .i64 z')).setCell ⟨b, 1, none⟩ (.slice a' n' c')) b z' a' n' c' := by
  have h1 : (v.setCell ⟨b, 0, none⟩ (.int .i64 z')).cell? ⟨b, 1, none⟩ = some (.slice a n c) := by rw [World.cell?_setCell_other _ _ _ _ (fun e => by cases e)]; exact h.2
  exact ⟨by rw [World.cell?_setCell_other _ _ _ _ (fun e => by cases e)]; exact World.cell?_setCell_same _ _ _ h.1, World.cell?_setCell_same _ _ _ h1⟩
set_option maxRecDepth 100000 in
set_option maxHeartbeats 3200000 in
theorem drawLeq_any (n cap : Nat) (a : Option Addr) (w : World) (hn : n ≤ 1048576) (hb0 : Bytes w w.heap.size a n) :
    Calls Try.prog 31 #[.slice a n cap] w fun e w' => ∃ (z : Int) (l : List Int) (ao : Option Addr) (cp : Nat) (z' : Int) (l' : List Int) (ao' : Option Addr) (cp' : Nat), e = .returned (.tuple #[.agg #[.int .i64 z, .slice ao l.length cp], .agg #[.int .i64 z', .slice ao' l'.length cp']]) ∧ (l.length ≤ 169 ∧ l.length ≤ cp) ∧ (l'.length ≤ 169 ∧ l'.length ≤ cp') ∧ OwnI w' w.heap.size (.slice ao l.length cp) l ∧ OwnI w' w.heap.size (.slice ao' l'.length cp') l' ∧ Below w.heap.size w w' := by
  have HN := mkHid hn
  have HBY := mkHid hb0
  have B0 := mkHid (((Below.refl w.heap.size w).alloc (Nat.le_refl _) (.cells #[.int .i64 0, .slice none 0 0] 26)).alloc (by simp) (.cells #[.int .i64 0, .slice none 0 0] 26))
  have Z0 : Hid (Fz ((w.alloc (.cells #[.int .i64 0, .slice none 0 0] 26)).alloc (.cells #[.int .i64 0, .slice none 0 0] 26)) w.heap.size) := mkHid ((Fz.new w).below (below_alloc _ _))
  have Y0 : Hid (Fz ((w.alloc (.cells #[.int .i64 0, .slice none 0 0] 26)).alloc (.cells #[.int .i64 0, .slice none 0 0] 26)) (w.heap.size + 1)) := mkHid (by have := Fz.new (w.alloc (.cells #[.int .i64 0, .slice none 0 0] 26)); simpa using this)
  clear hn hb0
  go_enter Try.func31, Try.ntmps31
  go_wp2_with fail
  refine (openC_any n cap a _ HN.out (HBY.out.up B0.out.size B0.out)).mono ?_
  rintro e w1 ⟨cb, rfl, hcb, hC, hb⟩
  have l0 := Y0.out.lt
  have C1 := mkHid (hC.less (bud' := 1000 + 420) (by omega))
  have B1 := mkHid (below_step B0.out hb)
  have Z1 := mkHid (Z0.out.below hb)
  have Y1 := mkHid (Y0.out.below hb)
  have hcw : w.heap.size + 1 < cb := by omega
  clear hC hb hcb l0 B0 Z0 Y0
  go_wp2_with fail
  refine (drawTwo_any cb n cap 1000 a _ C1.out).mono ?_
  rintro e w3 ⟨z, l, ao, cp, z', l', ao', cp', rfl, hz, hz', ho, ho', hC, hG⟩
  have hl3 := hC.lt
  have sz2 := Y1.out.lt
  obtain ⟨P, hP⟩ : ∃ q, w3.heap.size = q := ⟨_, rfl⟩
  obtain ⟨w4, hw4⟩ : ∃ x, (w3.alloc (.cells #[.int .i64 z, .slice ao l.length cp] 26)).alloc (.cells #[.int .i64 z', .slice ao' l'.length cp'] 26) = x := ⟨_, rfl⟩
  have A4 : Below w3.heap.size w3 w4 := by rw [← hw4]; exact bl_alloc (bl_alloc (Below.refl _ _) _) _
  have B4 := mkHid (below_step (B1.out.grown hG B1.out.size (fun q hq => by cases hq; omega)) A4)
  have Z4 := mkHid ((Z1.out.grown hG (some_ne (by omega))).below A4)
  have Y4 := mkHid ((Y1.out.grown hG (some_ne (by omega))).below A4)
  have C4 := mkHid (hC.below A4)
  have F4 : Hid (Fc w4 P z ao l.length cp) := mkHid (by rw [← hw4, ← hP]; exact (Fc.new w3 z ao l.length cp 26).below (below_alloc _ _))
  have E4 : Hid (Fc w4 (P + 1) z' ao' l'.length cp') := mkHid (by rw [← hw4, ← hP]; have := Fc.new (w3.alloc (.cells #[.int .i64 z, .slice ao l.length cp] 26)) z' ao' l'.length cp' 26; simpa using this)
  have U4 : Hid (w4.frozen? ⟨P + 1, 0, none⟩ = false ∧ w4.frozen? ⟨P + 1, 1, none⟩ = false) := mkHid (by rw [← hw4, ← hP]; exact ⟨by simp [go_sem], by simp [go_sem]⟩)
  have hcb1 : cb < w1.heap.size := C1.out.lt
  have OA := mkHid ((ho.below A4).mono (base' := cb + 1) hcb1)
  have OB := mkHid ((ho'.below A4).mono (base' := cb + 1) hcb1)
  have HOP : Hid (∀ q, Value.ownBlock (.slice ao l.length cp) = some q → P + 1 ≠ q) := mkHid (fun q hq => by have := (ho.lt hq).2; omega)
  have hPc : cb < P := by omega
  have HA := mkHid hz.2
  have HB := mkHid hz'.2
  have HW4 := mkHid hw4
  have HPP := mkHid hP
  clear hC hG A4 hw4 hl3 C1 B1 Z1 Y1 ho ho' hz hz'
  go_wp2_with fail
  rw [HW4.out]
  first | rw [HPP.out] | skip
  clear HW4 HPP hP
  refine (once_any 3 cb n cap 900 a _ (by omega) (by omega) (C4.out.less (by omega))).mono ?_
  rintro e w5 ⟨r, rfl, hC5, hG5⟩
  have BB := mkHid (B4.out.grown hG5 B4.out.size (fun q hq => by cases hq; omega))
  have l1 := F4.out.lt
  have l2 := E4.out.lt
  have l3 := Y4.out.lt
  have Z5 := mkHid (Z4.out.grown hG5 (some_ne (by omega)))
  have Y5 := mkHid (Y4.out.grown hG5 (some_ne (by omega)))
  have F5 := mkHid (F4.out.grown hG5 (some_ne (by omega)))
  have E5 := mkHid (E4.out.grown hG5 (some_ne (by omega)))
  have U5 := mkHid (And.intro ((hG5.frozen_far ⟨P + 1, 0, none⟩ l2 (some_ne (show P + 1 ≠ cb by omega))).trans U4.out.1) ((hG5.frozen_far ⟨P + 1, 1, none⟩ l2 (some_ne (show P + 1 ≠ cb by omega))).trans U4.out.2))
  have OA := mkHid (OA.out.farg hG5 (by omega))
  have OB := mkHid (OB.out.farg hG5 (by omega))
  clear hC5 hG5 Z4 Y4 F4 E4 U4 B4 C4 l1 l3
  cases r
  · clear U5
    obtain ⟨y0, y1⟩ := F5.out
    obtain ⟨y2, y3⟩ := E5.out
    obtain ⟨⟨z0, z1⟩, z2, z3⟩ := Z5.out
    obtain ⟨⟨x0, x1⟩, x2, x3⟩ := Y5.out
    have OA' := OA.out.drew
    have OB' := OB.out.drew
    have BB' := BB.out.drew
    have H1 := mkHid (fun u0 u1 u2 u3 => (((((OA'.mono (base' := w.heap.size + 2) (by omega))).far (p := ⟨w.heap.size, 0, none⟩) (show w.heap.size < w.heap.size + 2 by omega) u0).far (p := ⟨w.heap.size, 1, none⟩) (show w.heap.size < w.heap.size + 2 by omega) u1).far (p := ⟨w.heap.size + 1, 0, none⟩) (show w.heap.size + 1 < w.heap.size + 2 by omega) u2).far (p := ⟨w.heap.size + 1, 1, none⟩) (show w.heap.size + 1 < w.heap.size + 2 by omega) u3)
    have H2 := mkHid (fun u0 u1 u2 u3 => (((((OB'.mono (base' := w.heap.size + 2) (by omega))).far (p := ⟨w.heap.size, 0, none⟩) (show w.heap.size < w.heap.size + 2 by omega) u0).far (p := ⟨w.heap.size, 1, none⟩) (show w.heap.size < w.heap.size + 2 by omega) u1).far (p := ⟨w.heap.size + 1, 0, none⟩) (show w.heap.size + 1 < w.heap.size + 2 by omega) u2).far (p := ⟨w.heap.size + 1, 1, none⟩) (show w.heap.size + 1 < w.heap.size + 2 by omega) u3)
    have H3 := mkHid (fun u0 u1 u2 u3 => ((((BB'.setCell (p := ⟨w.heap.size, 0, none⟩) (Nat.le_refl _) u0).setCell (p := ⟨w.heap.size, 1, none⟩) (Nat.le_refl _) u1).setCell (p := ⟨w.heap.size + 1, 0, none⟩) (Nat.le_succ _) u2).setCell (p := ⟨w.heap.size + 1, 1, none⟩) (Nat.le_succ _) u3))
    have K1 := mkHid (fun u0 u1 u2 u3 => (((((OA'.mono (base' := w.heap.size + 2) (by omega))).far (p := ⟨w.heap.size + 1, 0, none⟩) (show w.heap.size + 1 < w.heap.size + 2 by omega) u0).far (p := ⟨w.heap.size + 1, 1, none⟩) (show w.heap.size + 1 < w.heap.size + 2 by omega) u1).far (p := ⟨w.heap.size, 0, none⟩) (show w.heap.size < w.heap.size + 2 by omega) u2).far (p := ⟨w.heap.size, 1, none⟩) (show w.heap.size < w.heap.size + 2 by omega) u3)
    have K2 := mkHid (fun u0 u1 u2 u3 => (((((OB'.mono (base' := w.heap.size + 2) (by omega))).far (p := ⟨w.heap.size + 1, 0, none⟩) (show w.heap.size + 1 < w.heap.size + 2 by omega) u0).far (p := ⟨w.heap.size + 1, 1, none⟩) (show w.heap.size + 1 < w.heap.size + 2 by omega) u1).far (p := ⟨w.heap.size, 0, none⟩) (show w.heap.size < w.heap.size + 2 by omega) u2).far (p := ⟨w.heap.size, 1, none⟩) (show w.heap.size < w.heap.size + 2 by omega) u3)
    have K3 := mkHid (fun u0 u1 u2 u3 => ((((BB'.setCell (p := ⟨w.heap.size + 1, 0, none⟩) (Nat.le_succ _) u0).setCell (p := ⟨w.heap.size + 1, 1, none⟩) (Nat.le_succ _) u1).setCell (p := ⟨w.heap.size, 0, none⟩) (Nat.le_refl _) u2).setCell (p := ⟨w.heap.size, 1, none⟩) (Nat.le_refl _) u3))
    clear OA' OB' BB' F5 E5 Z5 Y5
    go_wp2_with fail
    go_region_held3 (fun v => (v.cell? ⟨P, 0, none⟩ = some (.int .i64 z) ∧ v.cell? ⟨P, 1, none⟩ = some (.slice ao l.length cp)) ∧ (v.cell? ⟨P + 1, 0, none⟩ = some (.int .i64 z') ∧ v.cell? ⟨P + 1, 1, none⟩ = some (.slice ao' l'.length cp')))
      (first | exact ⟨⟨y0, y1⟩, ⟨y2, y3⟩⟩ | assumption | (simp [*, go_sem]; done))
      (fail)
    all_goals
      go_wp2
      first
      | exact bodyPost_ret (v := .tuple #[.agg #[.int .i64 z, .slice ao l.length cp], .agg #[.int .i64 z', .slice ao' l'.length cp']]) (by simp [results, Try.results31, go_sem, *]) rfl ⟨z, l, ao, cp, z', l', ao', cp', rfl, HA.out, HB.out, (H1.out _ _ _ _).mono (by omega), (H2.out _ _ _ _).mono (by omega), H3.out _ _ _ _⟩
      | exact bodyPost_ret (v := .tuple #[.agg #[.int .i64 z, .slice ao l.length cp], .agg #[.int .i64 z', .slice ao' l'.length cp']]) (by simp [results, Try.results31, go_sem, *]) rfl ⟨z, l, ao, cp, z', l', ao', cp', rfl, HA.out, HB.out, (K1.out _ _ _ _).mono (by omega), (K2.out _ _ _ _).mono (by omega), K3.out _ _ _ _⟩
  · obtain ⟨y0, y1⟩ := F5.out
    obtain ⟨y2, y3⟩ := E5.out
    go_wp2_with fail
    refine (sJoin_any z l ao cp z' l' ao' cp' _ OA.out.at OB.out.at).mono ?_
    rintro e w6 ⟨aj, cj, rfl, hO, hb⟩
    have HB := mkHid (And.intro (joinR_len z l z' l') (own_cap hO))
    obtain ⟨zj, hzj⟩ : ∃ q, (joinR z l z' l').1 = q := ⟨_, rfl⟩
    obtain ⟨lj, hlj⟩ : ∃ q, (joinR z l z' l').2 = q := ⟨_, rfl⟩
    rw [hzj, hlj]
    rw [hlj] at hO HB
    have hP5 : P + 1 < w5.heap.size := E5.out.lt
    obtain ⟨e0, e1⟩ := E5.out.below hb
    have e2 := (hb.frozen (p := ⟨P + 1, 0, none⟩) hP5).trans U5.out.1
    have e3 := (hb.frozen (p := ⟨P + 1, 1, none⟩) hP5).trans U5.out.2
    obtain ⟨w7, hw7⟩ : ∃ x, (w6.setCell ⟨P + 1, 0, none⟩ (.int .i64 zj)).setCell ⟨P + 1, 1, none⟩ (.slice aj lj.length cj) = x := ⟨_, rfl⟩
    have E7 : Hid (Fc w7 (P + 1) zj aj lj.length cj) := mkHid (by rw [← hw7]; exact (E5.out.below hb).put)
    have F7 : Hid (Fc w7 P z ao l.length cp) := mkHid (by rw [← hw7]; exact ((F5.out.below hb).set (by omega)).set (by omega))
    have Z7 : Hid (Fz w7 w.heap.size) := mkHid (by rw [← hw7]; exact ((Z5.out.below hb).set (by omega)).set (by omega))
    have Y7 : Hid (Fz w7 (w.heap.size + 1)) := mkHid (by rw [← hw7]; exact ((Y5.out.below hb).set (by omega)).set (by omega))
    have BB : Hid (Below w.heap.size w w7) := mkHid (by rw [← hw7]; exact ((below_step BB.out hb).setCell (p := ⟨P + 1, 0, none⟩) (show w.heap.size ≤ P + 1 by omega) _).setCell (p := ⟨P + 1, 1, none⟩) (show w.heap.size ≤ P + 1 by omega) _)
    have OB : Hid (OwnI w7 (cb + 1) (.slice aj lj.length cj) lj) := mkHid (by rw [← hw7]; exact (((hO.far (p := ⟨P + 1, 0, none⟩) hP5 _).far (p := ⟨P + 1, 1, none⟩) hP5 _).mono (by omega)))
    have OA : Hid (OwnI w7 (cb + 1) (.slice ao l.length cp) l) := mkHid (by rw [← hw7]; exact ((OA.out.below hb).grown (grown_setCell _ _ _) (fun q hq e => HOP.out q hq (Option.some.inj e))).grown (grown_setCell _ _ _) (fun q hq e => HOP.out q hq (Option.some.inj e)))
    have HW7 := mkHid hw7
    clear hO hb F5 E5 Z5 Y5 U5 y0 y1 y2 y3 hzj hlj hw7
    go_wp2_with fail
    rw [HW7.out]
    clear HW7 e0 e1 e2 e3
    obtain ⟨y0, y1⟩ := F7.out
    obtain ⟨y2, y3⟩ := E7.out
    obtain ⟨⟨z0, z1⟩, z2, z3⟩ := Z7.out
    obtain ⟨⟨x0, x1⟩, x2, x3⟩ := Y7.out
    have OA' := OA.out.drew
    have OB' := OB.out.drew
    have BB' := BB.out.drew
    have H1 := mkHid (fun u0 u1 u2 u3 => (((((OA'.mono (base' := w.heap.size + 2) (by omega))).far (p := ⟨w.heap.size, 0, none⟩) (show w.heap.size < w.heap.size + 2 by omega) u0).far (p := ⟨w.heap.size, 1, none⟩) (show w.heap.size < w.heap.size + 2 by omega) u1).far (p := ⟨w.heap.size + 1, 0, none⟩) (show w.heap.size + 1 < w.heap.size + 2 by omega) u2).far (p := ⟨w.heap.size + 1, 1, none⟩) (show w.heap.size + 1 < w.heap.size + 2 by omega) u3)
    have H2 := mkHid (fun u0 u1 u2 u3 => (((((OB'.mono (base' := w.heap.size + 2) (by omega))).far (p := ⟨w.heap.size, 0, none⟩) (show w.heap.size < w.heap.size + 2 by omega) u0).far (p := ⟨w.heap.size, 1, none⟩) (show w.heap.size < w.heap.size + 2 by omega) u1).far (p := ⟨w.heap.size + 1, 0, none⟩) (show w.heap.size + 1 < w.heap.size + 2 by omega) u2).far (p := ⟨w.heap.size + 1, 1, none⟩) (show w.heap.size + 1 < w.heap.size + 2 by omega) u3)
    have H3 := mkHid (fun u0 u1 u2 u3 => ((((BB'.setCell (p := ⟨w.heap.size, 0, none⟩) (Nat.le_refl _) u0).setCell (p := ⟨w.heap.size, 1, none⟩) (Nat.le_refl _) u1).setCell (p := ⟨w.heap.size + 1, 0, none⟩) (Nat.le_succ _) u2).setCell (p := ⟨w.heap.size + 1, 1, none⟩) (Nat.le_succ _) u3))
    have K1 := mkHid (fun u0 u1 u2 u3 => (((((OA'.mono (base' := w.heap.size + 2) (by omega))).far (p := ⟨w.heap.size + 1, 0, none⟩) (show w.heap.size + 1 < w.heap.size + 2 by omega) u0).far (p := ⟨w.heap.size + 1, 1, none⟩) (show w.heap.size + 1 < w.heap.size + 2 by omega) u1).far (p := ⟨w.heap.size, 0, none⟩) (show w.heap.size < w.heap.size + 2 by omega) u2).far (p := ⟨w.heap.size, 1, none⟩) (show w.heap.size < w.heap.size + 2 by omega) u3)
    have K2 := mkHid (fun u0 u1 u2 u3 => (((((OB'.mono (base' := w.heap.size + 2) (by omega))).far (p := ⟨w.heap.size + 1, 0, none⟩) (show w.heap.size + 1 < w.heap.size + 2 by omega) u0).far (p := ⟨w.heap.size + 1, 1, none⟩) (show w.heap.size + 1 < w.heap.size + 2 by omega) u1).far (p := ⟨w.heap.size, 0, none⟩) (show w.heap.size < w.heap.size + 2 by omega) u2).far (p := ⟨w.heap.size, 1, none⟩) (show w.heap.size < w.heap.size + 2 by omega) u3)
    have K3 := mkHid (fun u0 u1 u2 u3 => ((((BB'.setCell (p := ⟨w.heap.size + 1, 0, none⟩) (Nat.le_succ _) u0).setCell (p := ⟨w.heap.size + 1, 1, none⟩) (Nat.le_succ _) u1).setCell (p := ⟨w.heap.size, 0, none⟩) (Nat.le_refl _) u2).setCell (p := ⟨w.heap.size, 1, none⟩) (Nat.le_refl _) u3))
    clear OA' OB' BB' F7 E7 Z7 Y7
    go_wp2_with fail
    go_region_held3 (fun v => (v.cell? ⟨P, 0, none⟩ = some (.int .i64 z) ∧ v.cell? ⟨P, 1, none⟩ = some (.slice ao l.length cp)) ∧ (v.cell? ⟨P + 1, 0, none⟩ = some (.int .i64 zj) ∧ v.cell? ⟨P + 1, 1, none⟩ = some (.slice aj lj.length cj)))
      (first | exact ⟨⟨y0, y1⟩, ⟨y2, y3⟩⟩ | assumption | (simp [*, go_sem]; done))
      (fail)
    all_goals
      go_wp2
      first
      | exact bodyPost_ret (v := .tuple #[.agg #[.int .i64 z, .slice ao l.length cp], .agg #[.int .i64 zj, .slice aj lj.length cj]]) (by simp [results, Try.results31, go_sem, *]) rfl ⟨z, l, ao, cp, zj, lj, aj, cj, rfl, HA.out, HB.out, (H1.out _ _ _ _).mono (by omega), (H2.out _ _ _ _).mono (by omega), H3.out _ _ _ _⟩
      | exact bodyPost_ret (v := .tuple #[.agg #[.int .i64 z, .slice ao l.length cp], .agg #[.int .i64 zj, .slice aj lj.length cj]]) (by simp [results, Try.results31, go_sem, *]) rfl ⟨z, l, ao, cp, zj, lj, aj, cj, rfl, HA.out, HB.out, (K1.out _ _ _ _).mono (by omega), (K2.out _ _ _ _).mono (by omega), K3.out _ _ _ _⟩
end Go.Proofs.Ytgclngofigffdaa
namespace Go.Proofs.Ytgclngofigffdaa
open Go.RowKit

set_option maxRecDepth 100000 in
set_option maxHeartbeats 1600000 in
theorem sameInts_ok (l : List Int) (a a' : Option Addr) (c c' : Nat) (w : World) (hn : l.length ≤ maxLen) (hl : IntsAt w a l) (hl' : IntsAt w a' l) :
    Calls Try.prog 49 #[.slice a l.length c, .slice a' l.length c'] w fun e w' => e = .returned (.bool true) ∧ Below w.heap.size w w' := by
  have HL := mkHid hl
  have HL' := mkHid hl'
  unfold maxLen at hn
  clear hl hl'
  have hne : ((l.length : Int) != (l.length : Int)) = false := by simp
  go_enter Try.func49, Try.ntmps49
  go_wp2
  go_loopg [5] l.length (fun g s wr => ∃ k : Nat, k + g = l.length ∧ s = .int .i64 k ∧ Below w.heap.size w wr)
  case atStart => exact ⟨0, by omega, rfl, Below.refl _ _⟩
  case round =>
    obtain ⟨k, hk, rfl, hB⟩ := hrel
    have HB := mkHid hB
    clear hB
    cases gk with
    | zero =>
      have hlt : ¬ ((k : Int) < (l.length : Int)) := by omega
      go_wp2
      go_ret
      exact ⟨rfl, HB.out⟩
    | succ g =>
      have hlt : (k : Int) < (l.length : Int) := by omega
      obtain ⟨b, o, rfl, c0⟩ := IntsAt.get' (HL.out.below HB.out) (k := k) (by omega)
      obtain ⟨b', o', rfl, c1⟩ := IntsAt.get' (HL'.out.below HB.out) (k := k) (by omega)
      obtain ⟨x, hx⟩ : ∃ x, l.getD k 0 = x := ⟨_, rfl⟩
      rw [hx] at c0 c1
      clear hx
      have hxx : (x != x) = false := by simp
      have k0 : (0 : Int) ≤ (k : Int) := by omega
      go_wp2_with fail
      go_quiet (fail)
      go_wp2
      go_roundg g
      case measure => omega
      case rel => exact ⟨k + 1, by omega, by go_num, HB.out.trans ⟨rfl, rfl, rfl, Nat.le_refl _, fun _ _ => rfl⟩⟩

set_option maxRecDepth 100000 in
set_option maxHeartbeats 1600000 in
theorem sameFacts_ok (z : Int) (l : List Int) (a a' : Option Addr) (c c' : Nat) (w : World) (hn : l.length ≤ maxLen) (hl : IntsAt w a l) (hl' : IntsAt w a' l) :
    Calls Try.prog 13 #[.agg #[.int .i64 z, .slice a l.length c], .agg #[.int .i64 z, .slice a' l.length c']] w fun e w' => e = .returned (.bool true) ∧ Below w.heap.size w w' := by
  have HL := mkHid hl
  have HL' := mkHid hl'
  have HN := mkHid hn
  clear hl hl' hn
  have hzz : (z == z) = true := by simp
  have B0 := mkHid (bl_alloc (bl_alloc (Below.refl w.heap.size w) (.cells #[.int .i64 z, .slice a l.length c] 26)) (.cells #[.int .i64 z, .slice a' l.length c'] 26))
  go_enter Try.func13, Try.ntmps13
  go_wp2_with fail
  refine (sameInts_ok l a a' c c' _ HN.out (HL.out.below B0.out) (HL'.out.below B0.out)).mono ?_
  rintro e w1 ⟨rfl, hb⟩
  have B1 := mkHid (below_step B0.out hb)
  clear hb
  go_wp2
  go_ret
  exact ⟨rfl, B1.out⟩

end Go.Proofs.Ytgclngofigffdaa
