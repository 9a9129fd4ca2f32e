/-
  CONTRACT of orderedSet.without over terms.
  CONTRACTS of slices.Clone over terms and of orderedSet.isEmpty.
  CONTRACT of the program's link.termsWith.
-/
import Derived.Test.YtodjmpocpfkpaaaGreatKx19
import Derived.Test.YtodjmpocpfkpaaaGreatKx09
namespace Go.Proofs.YtodjmpocpfkpaaaGreat
open Go.RowKit

theorem infoY : (Tryz.prog.info? 65).map (fun i => (i.zero, i.size, i.bytes)) = some (some (.agg #[.int .i64 0, .int .i64 0]), 2, 16) := by kernel_rfl
def outS (l m : List Y) : List Y := l.filter fun p => decide (p ∉ m)
theorem two_new (w : World) (a b : Value) (T : TypeId) (j : Nat) (u : Value) (h : [a, b][j]? = some u) : (w.alloc (.cells #[a, b] T)).cell? ((⟨w.heap.size, 0, none⟩ : Addr).add j) = some u := by
 rw [WideShapes.add_plain, Nat.zero_add, World.cell?_alloc_new]
 simpa using h
/-- The boxes of without: the others, the answer's, what is left. -/
structure WoAt (v : World) (X : Nat) (am : Option Addr) (k cm : Nat) (s : Value) : Prop where
 sz : X + 4 ≤ v.heap.size
 o0 : v.cell? ⟨X + 1, 0, none⟩ = some (.slice am k cm)
 o1 : v.cell? ⟨X + 1, 1, none⟩ = some (.func (.func 91) #[] #[])
 r0 : v.cell? ⟨X + 1 + 1, 0, none⟩ = some (.slice none 0 0)
 r1 : v.cell? ⟨X + 1 + 1, 1, none⟩ = some .nilFunc
 f0 : v.frozen? ⟨X + 1 + 1, 0, none⟩ = false
 f1 : v.frozen? ⟨X + 1 + 1, 1, none⟩ = false
 l0 : v.cell? ⟨X + 1 + 1 + 1, 0, none⟩ = some s
 l1 : v.cell? ⟨X + 1 + 1 + 1, 1, none⟩ = some (.func (.func 91) #[] #[])
 g0 : v.frozen? ⟨X + 1 + 1 + 1, 0, none⟩ = false
 g1 : v.frozen? ⟨X + 1 + 1 + 1, 1, none⟩ = false
theorem WoAt.keep {v v' : World} {X : Nat} {am : Option Addr} {k cm : Nat} {s : Value} (h : WoAt v X am k cm s) (hz : v.heap.size ≤ v'.heap.size) (hb : ∀ q, q < X + 4 → v'.heap[q]? = v.heap[q]?) : WoAt v' X am k cm s := by
 have e1 := hb (X + 1) (by omega)
 have e2 := hb (X + 1 + 1) (by omega)
 have e3 := hb (X + 1 + 1 + 1) (by omega)
 exact ⟨Nat.le_trans h.sz hz, (World.cell?_of_block (a := ⟨X + 1, 0, none⟩) e1).trans h.o0, (World.cell?_of_block (a := ⟨X + 1, 1, none⟩) e1).trans h.o1,
  (World.cell?_of_block (a := ⟨X + 1 + 1, 0, none⟩) e2).trans h.r0, (World.cell?_of_block (a := ⟨X + 1 + 1, 1, none⟩) e2).trans h.r1, (World.frozen?_of_block (a := ⟨X + 1 + 1, 0, none⟩) e2).trans h.f0, (World.frozen?_of_block (a := ⟨X + 1 + 1, 1, none⟩) e2).trans h.f1,
  (World.cell?_of_block (a := ⟨X + 1 + 1 + 1, 0, none⟩) e3).trans h.l0, (World.cell?_of_block (a := ⟨X + 1 + 1 + 1, 1, none⟩) e3).trans h.l1, (World.frozen?_of_block (a := ⟨X + 1 + 1 + 1, 0, none⟩) e3).trans h.g0, (World.frozen?_of_block (a := ⟨X + 1 + 1 + 1, 1, none⟩) e3).trans h.g1⟩
theorem WoAt.below {v v' : World} {X : Nat} {am : Option Addr} {k cm : Nat} {s : Value} (h : WoAt v X am k cm s) (hb : Below v.heap.size v v') : WoAt v' X am k cm s := h.keep hb.size fun q hq => hb.block q (by have := h.sz; omega)
theorem WoAt.put {v : World} {X : Nat} {am : Option Addr} {k cm : Nat} {s : Value} (h : WoAt v X am k cm s) (s' : Value) : WoAt (v.setCell ⟨X + 1 + 1 + 1, 0, none⟩ s') X am k cm s' := by
 obtain ⟨h0, h1, h2, h3, h4, h5, h6, h7, h8, h9, h10⟩ := h
 refine ⟨by simpa [go_sem] using h0, ?_, ?_, ?_, ?_, ?_, ?_, ?_, ?_, ?_, ?_⟩
 all_goals simp [go_sem, *]
theorem outS_yes {l m : List Y} {i : Nat} {x : Y} (hx : l[i]? = some x) (h : x ∈ m) : outS (l.take (i + 1)) m = outS (l.take i) m := by
 obtain ⟨hi, rfl⟩ := List.getElem?_eq_some_iff.1 hx
 unfold outS
 rw [List.take_succ_eq_append_getElem hi, List.filter_append]
 simp [h]
theorem outS_no {l m : List Y} {i : Nat} {x : Y} (hx : l[i]? = some x) (h : x ∉ m) : outS (l.take (i + 1)) m = outS (l.take i) m ++ [x] := by
 obtain ⟨hi, rfl⟩ := List.getElem?_eq_some_iff.1 hx
 unfold outS
 rw [List.take_succ_eq_append_getElem hi, List.filter_append]
 simp [h]
theorem outS_len (l m : List Y) : (outS l m).length ≤ l.length := List.length_filter_le _ _
set_option maxRecDepth 100000 in
set_option maxHeartbeats 3200000 in
theorem without_any (l m : List Y) (ao am : Option Addr) (cap cm : Nat) (w : World) (hn : l.length ≤ 1048576) (hm : m.length ≤ 1048576) (ha : m.Pairwise LtY) (hl : At eY w ao l) (hlm : At eY w am m) :
  Calls Tryz.prog 87 #[.agg #[.slice ao l.length cap, .func (.func 91) #[] #[]], .agg #[.slice am m.length cm, .func (.func 91) #[] #[]]] w fun e w' => Below w.heap.size w w' ∧ ∃ (g : Option Addr) (c : Nat), e = .returned (.agg #[.slice g (outS l m).length c, .func (.func 91) #[] #[]]) ∧ Own eY 65 w' w.heap.size (.slice g (outS l m).length c) (outS l m) := by
 have HA := mkHid ha
 have HM := mkHid hm
 clear ha hm
 obtain ⟨ti, hti, hz⟩ := Option.map_eq_some_iff.1 infoY
 simp only [Prod.mk.injEq] at hz
 obtain ⟨hz0, hz1, hz2⟩ := hz
 have HI := mkHid (show Tryz.prog.info? 65 = some ti ∧ ti.zero = some (.agg #[.int .i64 0, .int .i64 0]) ∧ ti.size = 2 ∧ ti.bytes = 16 from ⟨hti, hz0, hz1, hz2⟩)
 clear hti hz0 hz1 hz2
 obtain ⟨w0, hw0⟩ : ∃ z : World, (((w.alloc (.cells #[.slice ao l.length cap, .func (.func 91) #[] #[]] 103)).alloc (.cells #[.slice am m.length cm, .func (.func 91) #[] #[]] 103)).alloc (.cells #[.slice none 0 0, .nilFunc] 103)).alloc (.cells #[.slice none 0 0, .nilFunc] 103) = z := ⟨_, rfl⟩
 obtain ⟨X, hX⟩ : ∃ z, w.heap.size = z := ⟨_, rfl⟩
 have HX := mkHid hX
 have HB : Hid (Below X w w0) := mkHid (by rw [← hw0, ← hX]; exact bl_alloc (bl_alloc (bl_alloc (bl_alloc (Below.refl _ _) _) _) _) _)
 have q0 : w0.cell? ⟨X, 0, none⟩ = some (.slice ao l.length cap) := by rw [← hw0, ← hX]; simp [go_sem]
 have q1 : w0.cell? ⟨X, 1, none⟩ = some (.func (.func 91) #[] #[]) := by rw [← hw0, ← hX]; simp [go_sem]
 have l0 : w0.cell? ⟨X + 1 + 1 + 1, 0, none⟩ = some (.slice none 0 0) := by rw [← hw0, ← hX]; simp [go_sem]
 have l1 : w0.cell? ⟨X + 1 + 1 + 1, 1, none⟩ = some .nilFunc := by rw [← hw0, ← hX]; simp [go_sem]
 have g0 : w0.frozen? ⟨X + 1 + 1 + 1, 0, none⟩ = false := by rw [← hw0, ← hX]; simp [go_sem]
 have g1 : w0.frozen? ⟨X + 1 + 1 + 1, 1, none⟩ = false := by rw [← hw0, ← hX]; simp [go_sem]
 have HW0 : Hid (WoAt ((w0.setCell ⟨X + 1 + 1 + 1, 0, none⟩ (.slice none 0 0)).setCell ⟨X + 1 + 1 + 1, 1, none⟩ (.func (.func 91) #[] #[])) X am m.length cm (.slice none 0 0)) := mkHid (by
  rw [← hw0, ← hX]
  refine ⟨by simp [go_sem], ?_, ?_, ?_, ?_, ?_, ?_, ?_, ?_, ?_, ?_⟩
  all_goals simp [go_sem])
 have HSZ0 : Hid (w0.heap.size = X + 4) := mkHid (by rw [← hw0, ← hX]; simp)
 have HL := mkHid hl
 have HLM := mkHid hlm
 clear hl hlm
 go_enter Tryz.func87, Tryz.ntmps87
 go_wp2
 clear hw0 hX q0 q1 l0 l1 g0 g1
 go_loopg [14, 7] l.length (fun g s14 s7 wr => ∃ (i : Nat) (a : Option Addr) (c : Nat), i ≤ l.length ∧ s14 = .int .i64 i ∧ l.length - i ≤ g ∧ WoAt wr X am m.length cm (.slice a (outS (l.take i) m).length c) ∧ Own eY 65 wr (X + 4) (.slice a (outS (l.take i) m).length c) (outS (l.take i) m) ∧ Below X w wr)
 case atStart => exact ⟨0, none, 0, Nat.zero_le _, rfl, by omega, HW0.out, Own.nil _ _ _ _, (HB.out.setCell (p := ⟨X + 1 + 1 + 1, 0, none⟩) (by show X ≤ X + 1 + 1 + 1; omega) _).setCell (p := ⟨X + 1 + 1 + 1, 1, none⟩) (by show X ≤ X + 1 + 1 + 1; omega) _⟩
 case round =>
  clear HW0 HB HSZ0
  obtain ⟨i, a, c, hi, rfl, hg, hwo, hown, hbel⟩ := hrel
  have HOW := mkHid hown
  have HBE := mkHid hbel
  have hsz := hwo.sz
  obtain ⟨kk, hkk⟩ : ∃ kk, (outS (l.take i) m).length = kk := ⟨_, rfl⟩
  have hkl : kk ≤ l.length := by rw [← hkk]; exact Nat.le_trans (outS_len _ _) (by simp; omega)
  have HKK := mkHid hkk
  rw [hkk] at hwo
  have HWO := mkHid hwo
  clear hwo hown hkk
  by_cases hlt : i < l.length
  ·obtain ⟨x, hx⟩ : ∃ x, l[i]? = some x := ⟨_, List.getElem?_eq_getElem hlt⟩
   obtain ⟨b, off, rfl, _, hq⟩ := (HL.out.below (by rw [HX.out]; exact hbel)).cons (by omega)
   obtain ⟨c0, c1⟩ := get_y hq hx
   have HXX := mkHid hx
   have i0 : (0 : Int) ≤ (i : Int) := by omega
   have i1 : (i : Int) < (l.length : Int) := by omega
   clear hq hx hbel
   obtain ⟨w5, hw5⟩ : ∃ z : World, wr.alloc (.cells #[.int .i64 x.1, .int .i64 x.2] 65) = z := ⟨_, rfl⟩
   obtain ⟨Z, hZ⟩ : ∃ z, wr.heap.size = z := ⟨_, rfl⟩
   have HB5 : Hid (Below wr.heap.size wr w5) := mkHid (by rw [← hw5]; exact bl_alloc (Below.refl _ _) _)
   have D5 : Hid (w5.cell? ⟨Z, 0, none⟩ = some (.int .i64 x.1) ∧ w5.cell? ⟨Z, 1, none⟩ = some (.int .i64 x.2)) := mkHid (by rw [← hw5, ← hZ]; exact ⟨by simp [go_sem], by simp [go_sem]⟩)
   have W5 := mkHid (HWO.out.below HB5.out)
   have O5 := mkHid (HOW.out.below HB5.out)
   have BE5 : Hid (Below X w w5) := mkHid (HBE.out.trans (HB5.out.mono (by omega)))
   have d0 := D5.out.1
   have d1 := D5.out.2
   have o0 := W5.out.o0
   have o1 := W5.out.o1
   go_wp2_with fail
   clear hw5 hZ d0 d1 o0 o1 c0 c1 HWO HOW HBE HB5
   refine (setHas_any m am cm x _ HM.out HA.out (HLM.out.below (by rw [HX.out]; exact BE5.out))).mono ?_
   rintro e w6 ⟨hb, r, rfl, hr⟩
   have HR := mkHid hr
   have W6 := mkHid (W5.out.below hb)
   have O6 := mkHid (O5.out.below hb)
   have BE6 : Hid (Below X w w6) := mkHid (BE5.out.trans (hb.mono (by have := W5.out.sz; omega)))
   have D6 : Hid (w6.cell? ⟨Z, 0, none⟩ = some (.int .i64 x.1) ∧ w6.cell? ⟨Z, 1, none⟩ = some (.int .i64 x.2)) := mkHid (by
    obtain ⟨hc, _⟩ := bcell hb
    have := World.block_lt_of_cell? w5 _ D5.out.1
    exact ⟨(hc _ _ this).trans D5.out.1, (hc _ _ this).trans D5.out.2⟩)
   clear hb hr W5 O5 BE5 D5
   cases hrb : r
   ·have HNM : Hid (x ∉ m) := mkHid fun h => by have := HR.out.2 h; rw [hrb] at this; cases this
    subst hrb
    have l0 := W6.out.l0
    have g0 := W6.out.g0
    have d0 := D6.out.1
    have d1 := D6.out.2
    have hz6 := W6.out.sz
    have HO4 : Hid (w6.ownsRow (X + 4) 65 2 (.slice a kk c) kk (eY.flat (outS (l.take i) m))) := mkHid (by have h := O6.out; unfold Own at h; rw [HKK.out] at h; exact h)
    go_wp2_with (at_builtin; refine wpList_append_lies _ rfl _ _ 63 rfl (X + 4) 65 ti (.agg #[.int .i64 0, .int .i64 0]) 2 16 Tryz.underlying63 HI.out.1 HI.out.2.1 HI.out.2.2.1 HI.out.2.2.2 rfl (by decide) _ _ _ rfl (World.ownsRow.alloc HO4.out _) ⟨w6.heap.size, 0, none⟩ 1 1 [.int .i64 x.1, .int .i64 x.2] rfl rfl ?c1 ?c2 (by decide) ?c3 ?c4 ?c5 (w6.heap.size + 1) (by simp) ?_)
    case c1 => exact two_new _ _ _ _
    case c2 => first | rfl | (intro u hu; simp at hu; rcases hu with rfl | rfl <;> rfl) | exact ⟨rfl, rfl⟩
    case c3 => unfold maxLen; omega
    case c4 => omega
    case c5 => first | omega | (simp; omega)
    intro g' c' w7 hown' hgrow hat' _
    have HE := mkHid (outS_no HXX.out HNM.out)
    have HK1 : Hid ((outS (l.take (i + 1)) m).length = kk + 1) := mkHid (by rw [HE.out, List.length_append, HKK.out]; rfl)
    have O7 : Hid (Own eY 65 w7 (X + 4) (.slice (some ⟨g', 0, none⟩) (kk + 1) c') (outS (l.take (i + 1)) m)) := mkHid (by
     unfold Own
     rw [HK1.out, HE.out, El.flat_app]
     exact hown')
    have W7 : Hid (WoAt w7 X am m.length cm (.slice a kk c)) := mkHid ((W6.out.below ((Below.refl _ _).alloc (Nat.le_refl _) _)).keep hgrow.size (fun q hq => hgrow.block q (by simp; omega) (fun e => by have := (World.ownsRow.lt HO4.out q e.symm).1; omega)))
    have BE7 : Hid (Below X w w7) := mkHid ((BE6.out.alloc (by omega) _).grown hgrow (by simp; omega) (fun q hq => by have := (World.ownsRow.lt HO4.out q hq).1; omega))
    clear hown' hgrow hat' l0 g0 d0 d1
    have l0 := W7.out.l0
    have g0 := W7.out.g0
    have O8 : Hid (Own eY 65 (w7.setCell ⟨X + 1 + 1 + 1, 0, none⟩ (.slice (some ⟨g', 0, none⟩) (kk + 1) c')) (X + 4) (.slice (some ⟨g', 0, none⟩) (kk + 1) c') (outS (l.take (i + 1)) m)) := mkHid (O7.out.outs (fun q hq => (O7.out.lt hq).2) (outs_set w7 (X + 1 + 1 + 1) 0 _) (.inr (by omega)))
    have W8 := mkHid (W7.out.put (.slice (some ⟨g', 0, none⟩) (kk + 1) c'))
    have BE8 := mkHid (BE7.out.setCell (p := ⟨X + 1 + 1 + 1, 0, none⟩) (by show X ≤ X + 1 + 1 + 1; omega) (.slice (some ⟨g', 0, none⟩) (kk + 1) c'))
    go_wp2
    go_roundg (l.length - (i + 1))
    case measure => omega
    case rel => exact ⟨i + 1, some ⟨g', 0, none⟩, c', by omega, by go_num, Nat.le_refl _, by rw [HK1.out]; exact W8.out, by rw [HK1.out]; exact O8.out, BE8.out⟩
   ·have HYM : Hid (x ∈ m) := mkHid (HR.out.1 hrb)
    subst hrb
    have HE := mkHid (outS_yes HXX.out HYM.out)
    go_wp2
    go_roundg (l.length - (i + 1))
    case measure => omega
    case rel => exact ⟨i + 1, a, c, by omega, by go_num, Nat.le_refl _, by rw [HE.out, HKK.out]; exact W6.out, by rw [HE.out]; exact O6.out, BE6.out⟩
  ·have i1 : ¬ (i : Int) < (l.length : Int) := by omega
   have el : l.take i = l := List.take_of_length_le (by omega)
   have HO : Hid (Own eY 65 wr (X + 4) (.slice a kk c) (outS l m)) := mkHid (by have h := HOW.out; rw [HKK.out, el] at h; exact h)
   have HK : Hid ((outS l m).length = kk) := mkHid (by have h := HKK.out; rw [el] at h; exact h)
   clear el HOW HKK
   have r0 := HWO.out.r0
   have r1 := HWO.out.r1
   have f0 := HWO.out.f0
   have f1 := HWO.out.f1
   have l0 := HWO.out.l0
   have l1 := HWO.out.l1
   go_wp2
   have HOF : Hid (Own eY 65 ((wr.setCell ⟨X + 1 + 1, 0, none⟩ (.slice a kk c)).setCell ⟨X + 1 + 1, 1, none⟩ (.func (.func 91) #[] #[])) X (.slice a kk c) (outS l m)) := mkHid (by
    have h1 := HO.out.outs (fun q hq => (HO.out.lt hq).2) (outs_set wr (X + 1 + 1) 0 (.slice a kk c)) (.inr (by omega))
    exact (h1.outs (fun q hq => (h1.lt hq).2) (outs_set _ (X + 1 + 1) 1 (.func (.func 91) #[] #[])) (.inr (by omega))).mono (by omega))
   have HBF := mkHid ((HBE.out.setCell (p := ⟨X + 1 + 1, 0, none⟩) (by show X ≤ X + 1 + 1; omega) (.slice a kk c)).setCell (p := ⟨X + 1 + 1, 1, none⟩) (by show X ≤ X + 1 + 1; omega) (.func (.func 91) #[] #[]))
   refine bodyPost_ret (v := .agg #[.slice a kk c, .func (.func 91) #[] #[]]) (by simp [results, Tryz.results87, go_sem, *]) rfl ⟨?_, a, c, ?_, ?_⟩
   ·rw [HX.out]; exact HBF.out
   ·rw [HK.out]
   ·rw [HX.out, HK.out]; exact HOF.out
end Go.Proofs.YtodjmpocpfkpaaaGreat
namespace Go.Proofs.YtodjmpocpfkpaaaGreat
open Go.RowKit

set_option maxHeartbeats 800000 in
theorem isEmpty_any (l : List Y) (ao : Option Addr) (cap : Nat) (w : World) :
  Calls Tryz.prog 88 #[.agg #[.slice ao l.length cap, .func (.func 91) #[] #[]]] w fun e w' => Tells w w' e (l = []) := by
 go_enter Tryz.func88, Tryz.ntmps88
 go_wp2
 go_ret
 refine ⟨bl_alloc (Below.refl _ _) _, _, rfl, ?_⟩
 simp
theorem fresh_y {w' : World} {g base : Nat} (hb : base ≤ g) (hg : w'.heap[g]? = some (.cells #[] 65 (0, 0))) : Own eY 65 w' base (.slice (some ⟨g, 0, none⟩) 0 0) [] :=
 ⟨rfl, .inr ⟨g, 0, #[], rfl, hb, hg, Nat.le_refl _, by unfold maxLen; omega, rfl, rfl⟩⟩
set_option maxRecDepth 100000 in
set_option maxHeartbeats 1600000 in
theorem clone_any (l : List Y) (ao : Option Addr) (cap : Nat) (w : World) (hn : l.length ≤ 1048576) (hl : At eY w ao l) :
  Calls Tryz.prog 77 #[.slice ao l.length cap] w fun e w' => Below w.heap.size w w' ∧ ∃ (g : Option Addr) (c : Nat), e = .returned (.slice g l.length c) ∧ Own eY 65 w' w.heap.size (.slice g l.length c) l := by
 obtain ⟨ti, hti, hz⟩ := Option.map_eq_some_iff.1 infoY
 simp only [Prod.mk.injEq] at hz
 obtain ⟨hz0, hz1, hz2⟩ := hz
 have HI := mkHid (show Tryz.prog.info? 65 = some ti ∧ ti.zero = some (.agg #[.int .i64 0, .int .i64 0]) ∧ ti.size = 2 ∧ ti.bytes = 16 from ⟨hti, hz0, hz1, hz2⟩)
 clear hti hz0 hz1 hz2
 have q34 : ∀ (w : World) (a : Option Addr) (n c n' c' : Nat), (binOp .eql 63 (.slice a n c) (.slice none n' c')).run Tryz.prog w = .ok (.bool a.isNone) w := fun w a n c n' c' => Lib.run_eql_slice_nil w 63 65 a n c n' c' Tryz.underlying63
 cases ao with
 | none =>
  obtain rfl : l = [] := by rcases hl with h | ⟨b, o, e, _⟩; exact h; cases e
  go_enter Tryz.func77, Tryz.ntmps77
  go_wp2
  go_ret
  exact ⟨Below.refl _ _, none, 0, rfl, Own.nil _ _ _ _⟩
 | some ad =>
  have HF : Hid (Own eY 65 (w.alloc (.cells #[] 65)) w.heap.size (.slice (some ⟨w.heap.size, 0, none⟩) 0 0) []) := mkHid (fresh_y (Nat.le_refl _) (by have := heap_alloc_new w (.cells #[] 65); simpa using this))
  have HL := mkHid hl
  clear hl
  rcases Nat.eq_zero_or_pos l.length with h0 | h0
  ·obtain rfl : l = [] := List.length_eq_zero_iff.1 h0
   go_enter Tryz.func77, Tryz.ntmps77
   go_wp2_with (at_builtin; refine wpList_append_zero _ rfl _ _ 63 rfl 65 ti Tryz.underlying63 HI.out.1 _ _ _ (Nat.le_refl 0) rfl _ _ rfl ?_)
   go_wp2
   go_ret
   exact ⟨bl_alloc (Below.refl _ _) _, _, 0, rfl, HF.out⟩
  ·obtain ⟨b, off, e, hlb, hq⟩ := HL.out.cons h0
   cases e
   go_enter Tryz.func77, Tryz.ntmps77
   go_wp2_with (at_builtin; refine wpList_append_lies _ rfl _ _ 63 rfl w.heap.size 65 ti (.agg #[.int .i64 0, .int .i64 0]) 2 16 Tryz.underlying63 HI.out.1 HI.out.2.1 HI.out.2.2.1 HI.out.2.2.2 rfl (by decide) _ 0 [] rfl HF.out ⟨b, off, none⟩ l.length cap (eY.flat l) rfl (eY.flat_len l) ?c1 ?c2 h0 ?c3 ?c4 ?c5 (w.heap.size + 1) (by simp) ?_)
   case c1 =>
    intro j u hu
    have hj : j < l.length * 2 := by have := (List.getElem?_eq_some_iff.1 hu).1; rw [El.flat_len] at this; exact this
    obtain ⟨x, hx⟩ : ∃ x, l[j / 2]? = some x := ⟨_, List.getElem?_eq_getElem (by omega)⟩
    have e : j / 2 * eY.k + j % 2 = j := by show j / 2 * 2 + j % 2 = j; omega
    have h1 := eY.flat_get hx (j := j % 2) (by show j % 2 < 2; omega)
    rw [e, hu] at h1
    have h2 := hq (j / 2) x hx (j % 2) u h1.symm
    rw [Nat.add_assoc, e] at h2
    rw [Addr.add_lit]
    exact ((bl_alloc (Below.refl w.heap.size w) _).cell (p := ⟨b, off + j, none⟩) hlb).trans h2
   case c2 =>
    intro u hu
    simp [El.flat, eY] at hu
    obtain ⟨p, q, _, h⟩ := hu
    rcases h with rfl | rfl <;> rfl
   case c3 => unfold maxLen; omega
   case c4 => omega
   case c5 => first | omega | (simp; done) | (simp; omega)
   intro g' c' w7 hown' hgrow hat' _
   have HB : Hid (Below w.heap.size w w7) := mkHid (((Below.refl w.heap.size w).alloc (Nat.le_refl _) _).grown hgrow (by simp) (fun q hq => by have := (HF.out.lt hq).1; omega))
   have HO : Hid (Own eY 65 w7 w.heap.size (.slice (some ⟨g', 0, none⟩) l.length c') l) := mkHid hown'
   clear hown' hgrow hat' hq
   go_wp2
   go_ret
   exact ⟨HB.out, _, c', rfl, HO.out⟩
end Go.Proofs.YtodjmpocpfkpaaaGreat
namespace Go.Proofs.YtodjmpocpfkpaaaGreat
open Go.RowKit

set_option maxRecDepth 100000 in
set_option maxHeartbeats 3200000 in
theorem termsWith_any (ks : List Lk) (X : Nat) (v : Int) (w : World) (hn : tot (ks.map Lk.b) ≤ 1048576) (hc : Chain w X ks) :
    Calls Tryz.prog 74 #[.pointer (some ⟨X, 0, none⟩), .int .i64 v] w fun e w' => Below w.heap.size w w' ∧ ∃ (g : Option Addr) (c : Nat), e = .returned (.slice g (tv v (ks.map Lk.b)).length c) ∧ Own eY 65 w' w.heap.size (.slice g (tv v (ks.map Lk.b)).length c) (tv v (ks.map Lk.b)) := by
  obtain ⟨ti, hti, hz⟩ := Option.map_eq_some_iff.1 infoY
  simp only [Prod.mk.injEq] at hz
  obtain ⟨hz0, hz1, hz2⟩ := hz
  have HI := mkHid (show Tryz.prog.info? 65 = some ti ∧ ti.zero = some (.agg #[.int .i64 0, .int .i64 0]) ∧ ti.size = 2 ∧ ti.bytes = 16 from ⟨hti, hz0, hz1, hz2⟩)
  clear hti hz0 hz1 hz2
  have HR0 := mkHid (Rest.start hc)
  have HN := mkHid hn
  clear hn hc
  go_enter Tryz.func74, Tryz.ntmps74
  go_wp2
  go_loopg [5, 6] ks.length (fun g s5 s6 wr => ∃ (d r : List Lk) (p : Option Addr) (a : Option Addr) (c : Nat), d ++ r = ks ∧ r.length ≤ g ∧ s6 = .pointer p ∧ s5 = .slice a (tv v (d.map Lk.b)).length c ∧ Own eY 65 wr w.heap.size (.slice a (tv v (d.map Lk.b)).length c) (tv v (d.map Lk.b)) ∧ Rest w p r ∧ Below w.heap.size w wr)
  case atStart => exact ⟨[], ks, _, none, 0, rfl, Nat.le_refl _, rfl, rfl, Own.nil _ _ _ _, HR0.out, Below.refl _ _⟩
  case round =>
    clear HR0
    obtain ⟨d, r, p, a, c, hdr, hg, rfl, rfl, hown, hrest, hbel⟩ := hrel
    obtain ⟨T0, hT0⟩ : ∃ z, tv v (d.map Lk.b) = z := ⟨_, rfl⟩
    rw [hT0] at hown ⊢
    have HDR := mkHid hdr
    have HOW := mkHid hown
    have HBE := mkHid hbel
    have HT0 := mkHid hT0
    clear hown hT0 hdr
    cases r with
    | nil =>
      obtain rfl : p = none := hrest
      have HD : Hid (tv v (ks.map Lk.b) = T0) := mkHid (by rw [← HDR.out, List.append_nil]; exact HT0.out)
      clear hbel hg
      go_wp2
      go_ret
      rw [HD.out]
      exact ⟨HBE.out, a, c, rfl, HOW.out⟩
    | cons k r =>
      obtain ⟨Xk, q, hp, hk, hr⟩ := hrest.next
      subst hp
      have HRN := mkHid hr
      have HNX : Hid (∀ v, Below w.heap.size w v → v.cell? ⟨Xk, 6, none⟩ = some (.pointer q)) := mkHid fun v h => (hk.below h).nx
      obtain ⟨ao, cap, e0, hat⟩ := hk.mem
      have e0 := (bcell hbel).1 _ _ hk.lt |>.trans e0
      obtain ⟨l, hl⟩ : ∃ z, k.b = z := ⟨_, rfl⟩
      rw [hl] at e0 hat
      have HL := mkHid hl
      have HAT := mkHid hat
      have HLN : Hid (T0.length + l.length ≤ 1048576) := mkHid (by
        have h := HN.out
        rw [← HDR.out] at h
        have h2 := tv_len v (d.map Lk.b)
        rw [HT0.out] at h2
        simp only [List.map_append, List.map_cons, tot_append, tot, hl] at h
        omega)
      have hln := HLN.out
      clear hr hat hl hk hrest hbel
      go_wp2
      clear e0
      go_loopg [5, 22] l.length (fun g s5 s22 wr2 => ∃ (j : Nat) (a : Option Addr) (c : Nat), j ≤ l.length ∧ s22 = .int .i64 j ∧ l.length - j ≤ g ∧ s5 = .slice a (T0 ++ wv v (l.take j)).length c ∧ Own eY 65 wr2 w.heap.size (.slice a (T0 ++ wv v (l.take j)).length c) (T0 ++ wv v (l.take j)) ∧ Below w.heap.size w wr2)
      case atStart => exact ⟨0, a, c, Nat.zero_le _, rfl, by omega, by simp [wv], by simpa [wv] using HOW.out, HBE.out⟩
      case round =>
        clear HOW HBE
        obtain ⟨j, a, c, hj, rfl, hgj, rfl, hown, hbel⟩ := hrel
        obtain ⟨L0, hL0⟩ : ∃ z, T0 ++ wv v (l.take j) = z := ⟨_, rfl⟩
        rw [hL0] at hown ⊢
        obtain ⟨kk, hkk⟩ : ∃ kk, L0.length = kk := ⟨_, rfl⟩
        have hkl : kk ≤ 1048576 := by rw [← hkk, ← hL0, List.length_append]; have := wv_len v (l.take j); rw [List.length_take] at this; omega
        have HOW := mkHid hown
        have HKK := mkHid hkk
        rw [hkk]
        have HBE := mkHid hbel
        have hszr := hbel.size
        have HL0 := mkHid hL0
        clear hown hL0 hkk
        by_cases hlt : j < l.length
        · obtain ⟨x, hx⟩ : ∃ x, l[j]? = some x := ⟨_, List.getElem?_eq_getElem hlt⟩
          obtain ⟨b, off, rfl, _, hq⟩ := (HAT.out.below hbel).cons (by omega)
          obtain ⟨c0, c1⟩ := get_y hq hx
          have HXX := mkHid hx
          have i0 : (0 : Int) ≤ (j : Int) := by omega
          have i1 : (j : Int) < (l.length : Int) := by omega
          clear hq hx hbel
          obtain ⟨w5, hw5⟩ : ∃ z : World, wr.alloc (.cells #[.int .i64 x.1, .int .i64 x.2] 65) = z := ⟨_, rfl⟩
          obtain ⟨Z, hZ⟩ : ∃ z, wr.heap.size = z := ⟨_, rfl⟩
          have HB5 : Hid (Below wr.heap.size wr w5) := mkHid (by rw [← hw5]; exact bl_alloc (Below.refl _ _) _)
          have d0 : w5.cell? ⟨Z, 0, none⟩ = some (.int .i64 x.1) := by rw [← hw5, ← hZ]; simp [go_sem]
          have d1 : w5.cell? ⟨Z, 1, none⟩ = some (.int .i64 x.2) := by rw [← hw5, ← hZ]; simp [go_sem]
          have O5 := mkHid (HOW.out.below HB5.out)
          have BE5 := mkHid (below_step HBE.out HB5.out)
          have hsz5 := BE5.out.size
          have HO4 : Hid (w5.ownsRow w.heap.size 65 2 (.slice a kk c) kk (eY.flat L0)) := mkHid (by have h := O5.out; unfold Own at h; rw [HKK.out] at h; exact h)
          by_cases hxv : x.1 = v
          · have hev : (x.1 == v) = true := beq_iff_eq.2 hxv
            have HXV := mkHid hxv
            clear hxv
            go_wp2_with (at_builtin; refine wpList_append_lies _ rfl _ _ 63 rfl w.heap.size 65 ti (.agg #[.int .i64 0, .int .i64 0]) 2 16 Tryz.underlying63 HI.out.1 HI.out.2.1 HI.out.2.2.1 HI.out.2.2.2 rfl (by decide) _ _ _ rfl (World.ownsRow.alloc HO4.out _) ⟨w5.heap.size, 0, none⟩ 1 1 [.int .i64 x.1, .int .i64 x.2] rfl rfl ?c1 ?c2 (by decide) ?c3 ?c4 ?c5 (w5.heap.size + 1) (by simp) ?_)
            case c1 => exact two_new _ _ _ _
            case c2 => first | rfl | (intro u hu; simp at hu; rcases hu with rfl | rfl <;> rfl) | exact ⟨rfl, rfl⟩
            case c3 => unfold maxLen; omega
            case c4 => omega
            case c5 => first | omega | (simp; omega)
            intro g' c' w7 hown' hgrow hat' _
            have HE : Hid (T0 ++ wv v (l.take (j + 1)) = L0 ++ [x]) := mkHid (by rw [wv_yes HXX.out HXV.out, ← List.append_assoc, HL0.out])
            have HK1 : Hid ((L0 ++ [x]).length = kk + 1) := mkHid (by rw [List.length_append, HKK.out]; rfl)
            have O7 : Hid (Own eY 65 w7 w.heap.size (.slice (some ⟨g', 0, none⟩) (kk + 1) c') (L0 ++ [x])) := mkHid (by
              unfold Own
              rw [HK1.out, El.flat_app]
              exact hown')
            have BE7 : Hid (Below w.heap.size w w7) := mkHid ((BE5.out.alloc BE5.out.size _).grown hgrow (by simp; omega) (fun q hq => by have := (World.ownsRow.lt HO4.out q hq).1; omega))
            clear hown' hgrow hat' c0 c1 d0 d1 hw5 hZ
            go_wp2
            go_roundg (l.length - (j + 1))
            case measure => omega
            case rel => exact ⟨j + 1, some ⟨g', 0, none⟩, c', by omega, by go_num, Nat.le_refl _, by rw [HE.out, HK1.out], by rw [HE.out, HK1.out]; exact O7.out, BE7.out⟩
          · have hev : (x.1 == v) = false := beq_eq_false_iff_ne.2 hxv
            have HE : Hid (T0 ++ wv v (l.take (j + 1)) = L0) := mkHid (by rw [wv_no HXX.out hxv, HL0.out])
            clear hxv
            go_wp2
            clear c0 c1 d0 d1 hw5 hZ
            go_roundg (l.length - (j + 1))
            case measure => omega
            case rel => exact ⟨j + 1, a, c, by omega, by go_num, Nat.le_refl _, by rw [HE.out, HKK.out], by rw [HE.out]; exact O5.out, BE5.out⟩
        · have i1 : ¬ (j : Int) < (l.length : Int) := by omega
          have el : l.take j = l := List.take_of_length_le (by omega)
          have HLE : Hid (tv v ((d ++ [k]).map Lk.b) = L0) := mkHid (by rw [List.map_append]; show tv v (_ ++ [k.b]) = _; rw [tv_snoc, HT0.out, HL.out, ← HL0.out, el])
          have nx := HNX.out _ hbel
          clear el hbel
          go_wp2
          clear nx
          go_roundg r.length
          case measure => simp at hg; omega
          case rel => exact ⟨d ++ [k], r, q, a, c, by rw [← HDR.out]; simp, Nat.le_refl _, rfl, by rw [HLE.out, HKK.out], by rw [HLE.out]; exact HOW.out, HRN.out, HBE.out⟩
end Go.Proofs.YtodjmpocpfkpaaaGreat
