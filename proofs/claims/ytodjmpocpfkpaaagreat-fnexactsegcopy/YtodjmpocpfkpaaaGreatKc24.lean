/-
  CONTRACT of the specification's l10Without.
-/
import Derived.Test.YtodjmpocpfkpaaaGreatKc20
import Derived.Test.YtodjmpocpfkpaaaGreatKc08
namespace Go.Proofs.YtodjmpocpfkpaaaGreat
open Go.RowKit

def keepD (lv : Int) (T : List Y) (p : Y) : Bool := decide (p = (0, 0)) || (decide (p = (lv, 0)) || decide (p ∉ T))
def outD (lv : Int) (T l : List Y) : List Y := l.filter (keepD lv T)
theorem outD_no {lv : Int} {T l : List Y} {i : Nat} {x : Y} (hx : l[i]? = some x) (h : keepD lv T x = false) : outD lv T (l.take (i + 1)) = outD lv T (l.take i) := by
 obtain ⟨hi, rfl⟩ := List.getElem?_eq_some_iff.1 hx
 unfold outD
 rw [List.take_succ_eq_append_getElem hi, List.filter_append]
 simp [h]
theorem outD_yes {lv : Int} {T l : List Y} {i : Nat} {x : Y} (hx : l[i]? = some x) (h : keepD lv T x = true) : outD lv T (l.take (i + 1)) = outD lv T (l.take i) ++ [x] := by
 obtain ⟨hi, rfl⟩ := List.getElem?_eq_some_iff.1 hx
 unfold outD
 rw [List.take_succ_eq_append_getElem hi, List.filter_append]
 simp [h]
theorem outD_len (lv : Int) (T l : List Y) : (outD lv T l).length ≤ l.length := List.length_filter_le _ _
theorem eqB_yes {x : Y} {c d : Int} (h : eqB x.1 x.2 c d = true) : x = (c, d) := by
 unfold eqB at h
 obtain ⟨a, b⟩ := x
 simp at h
 simp [h]
theorem eqB_no {x : Y} {c d : Int} (h : eqB x.1 x.2 c d = false) : x ≠ (c, d) := by
 unfold eqB at h
 obtain ⟨a, b⟩ := x
 simp at h
 intro e
 simp at e
 exact absurd e.2 (h e.1)
set_option maxRecDepth 100000 in
set_option maxHeartbeats 3200000 in
theorem sWithout_any (l T : List Y) (lv : Int) (ao aT : Option Addr) (cap cT : Nat) (w : World) (hn : l.length ≤ 1048576) (hT : T.length ≤ 1048576) (hl : At eY w ao l) (hlT : At eY w aT T) :
  Calls Tryz.prog 62 #[.slice ao l.length cap, .int .i64 lv, .slice aT T.length cT] w fun e w' => Below w.heap.size w w' ∧ ∃ (g : Option Addr) (c : Nat), e = .returned (.slice g (outD lv T l).length c) ∧ Own eY 65 w' w.heap.size (.slice g (outD lv T l).length c) (outD lv T l) := by
 obtain ⟨ti, hti, hz⟩ := Option.map_eq_some_iff.1 infoY
 simp only [Prod.mk.injEq] at hz
 obtain ⟨hz0, hz1, hz2⟩ := hz
 have HI := mkHid (show Tryz.prog.info? 65 = some ti ∧ ti.zero = some (.agg #[.int .i64 0, .int .i64 0]) ∧ ti.size = 2 ∧ ti.bytes = 16 from ⟨hti, hz0, hz1, hz2⟩)
 clear hti hz0 hz1 hz2
 have HF : Hid (Own eY 65 (w.alloc (.cells #[] 65)) w.heap.size (.slice (some ⟨w.heap.size, 0, none⟩) 0 0) []) := mkHid (fresh_y (Nat.le_refl _) (by have := heap_alloc_new w (.cells #[] 65); simpa using this))
 have HL := mkHid hl
 have HLT := mkHid hlT
 have HT := mkHid hT
 clear hl hlT hT
 go_enter Tryz.func62, Tryz.ntmps62
 go_wp2
 go_loopg [7, 8, 9] l.length (fun g s7 s8 s9 wr => ∃ (i : Nat) (a : Option Addr) (c : Nat), i ≤ l.length ∧ s8 = .int .i64 i ∧ l.length - i ≤ g ∧ s7 = .slice a (outD lv T (l.take i)).length c ∧ Own eY 65 wr w.heap.size (.slice a (outD lv T (l.take i)).length c) (outD lv T (l.take i)) ∧ Below w.heap.size w wr)
 case atStart => exact ⟨0, _, 0, Nat.zero_le _, rfl, by omega, rfl, HF.out, bl_alloc (Below.refl _ _) _⟩
 case round =>
  clear HF
  obtain ⟨i, a, c, hi, rfl, hg, rfl, hown, hbel⟩ := hrel
  have HOW := mkHid hown
  have HBE := mkHid hbel
  have hszr := hbel.size
  obtain ⟨kk, hkk⟩ : ∃ kk, (outD lv T (l.take i)).length = kk := ⟨_, rfl⟩
  have hkl : kk ≤ l.length := by rw [← hkk]; exact Nat.le_trans (outD_len _ _ _) (by simp; omega)
  have HKK := mkHid hkk
  rw [hkk]
  clear hown hkk
  by_cases hlt : i < l.length
  ·obtain ⟨x, hx⟩ : ∃ x, l[i]? = some x := ⟨_, List.getElem?_eq_getElem hlt⟩
   obtain ⟨b, off, rfl, _, hq⟩ := (HL.out.below hbel).cons (by omega)
   obtain ⟨c0, c1⟩ := get_y hq hx
   have HXX := mkHid hx
   have i0 : (0 : Int) ≤ (i : Int) := by omega
   have i1 : (i : Int) < (l.length : Int) := by omega
   clear hq hx hbel
   have hEq := eql_sym
   cases h1 : eqB x.1 x.2 0 0
   ·cases h2 : eqB x.1 x.2 lv 0
    ·go_wp2_with fail
     clear c0 c1 hEq
     refine (l10Find_any T aT cT x _ (by have := HT.out; unfold maxLen; omega) (HLT.out.below HBE.out)).mono ?_
     rintro e w1 ⟨hb, r, rfl, hr⟩
     have HR := mkHid hr
     have BE1 := mkHid (below_step HBE.out hb)
     have OW1 := mkHid (HOW.out.below hb)
     have hsz1 := BE1.out.size
     obtain ⟨_, _, e, _, hq⟩ := (HL.out.below BE1.out).cons (by omega)
     cases e
     obtain ⟨c0, c1⟩ := get_y hq HXX.out
     clear hb hr hq
     by_cases hr0 : r < 0
     ·have HKP : Hid (keepD lv T x = true) := mkHid (by unfold keepD; have : x ∉ T := fun h => by { have := HR.out.2 h; omega }; simp [this])
      have hrd : decide (r < 0) = true := decide_eq_true hr0
      have HO4 : Hid (w1.ownsRow w.heap.size 65 2 (.slice a kk c) kk (eY.flat (outD lv T (l.take i)))) := mkHid (by have h := OW1.out; unfold Own at h; rw [HKK.out] at h; exact h)
      go_wp2_with (at_builtin; refine wpList_append_lies _ rfl _ _ 63 rfl w.heap.size 65 ti (.agg #[.int .i64 0, .int .i64 0]) 2 16 Tryz.underlying63 HI.out.1 HI.out.2.1 HI.out.2.2.1 HI.out.2.2.2 rfl (by decide) _ _ _ rfl (World.ownsRow.alloc HO4.out _) ⟨w1.heap.size, 0, none⟩ 1 1 [.int .i64 x.1, .int .i64 x.2] rfl rfl ?c1 ?c2 (by decide) ?c3 ?c4 ?c5 (w1.heap.size + 1) (by simp) ?_)
      case c1 => exact two_new _ _ _ _
      case c2 => first | rfl | (intro u hu; simp at hu; rcases hu with rfl | rfl <;> rfl) | exact ⟨rfl, rfl⟩
      case c3 => unfold maxLen; omega
      case c4 => omega
      case c5 => first | omega | (simp; omega)
      intro g' c' w7 hown' hgrow hat' _
      have HE := mkHid (outD_yes HXX.out HKP.out)
      have HK1 : Hid ((outD lv T (l.take (i + 1))).length = kk + 1) := mkHid (by rw [HE.out, List.length_append, HKK.out]; rfl)
      have O7 : Hid (Own eY 65 w7 w.heap.size (.slice (some ⟨g', 0, none⟩) (kk + 1) c') (outD lv T (l.take (i + 1)))) := mkHid (by
       unfold Own
       rw [HK1.out, HE.out, El.flat_app]
       exact hown')
      have BE7 : Hid (Below w.heap.size w w7) := mkHid ((BE1.out.alloc BE1.out.size _).grown hgrow (by simp; omega) (fun q hq => by have := (World.ownsRow.lt HO4.out q hq).1; omega))
      clear hown' hgrow hat' c0 c1
      go_wp2
      go_roundg (l.length - (i + 1))
      case measure => omega
      case rel => exact ⟨i + 1, some ⟨g', 0, none⟩, c', by omega, by go_num, Nat.le_refl _, by rw [HK1.out], by rw [HK1.out]; exact O7.out, BE7.out⟩
     ·have HKP : Hid (keepD lv T x = false) := mkHid (by unfold keepD; have h3 : x ∈ T := HR.out.1 (by omega); have a1 := eqB_no h1; have a2 := eqB_no h2; simp [h3, a1, a2])
      have hrd : decide (r < 0) = false := decide_eq_false hr0
      have HE := mkHid (outD_no HXX.out HKP.out)
      go_wp2
      go_roundg (l.length - (i + 1))
      case measure => omega
      case rel => exact ⟨i + 1, a, c, by omega, by go_num, Nat.le_refl _, by rw [HE.out, HKK.out], by rw [HE.out]; exact OW1.out, BE1.out⟩
    ·have HKP : Hid (keepD lv T x = true) := mkHid (by unfold keepD; simp [eqB_yes h2])
     have HO4 : Hid (wr.ownsRow w.heap.size 65 2 (.slice a kk c) kk (eY.flat (outD lv T (l.take i)))) := mkHid (by have h := HOW.out; unfold Own at h; rw [HKK.out] at h; exact h)
     go_wp2_with (at_builtin; refine wpList_append_lies _ rfl _ _ 63 rfl w.heap.size 65 ti (.agg #[.int .i64 0, .int .i64 0]) 2 16 Tryz.underlying63 HI.out.1 HI.out.2.1 HI.out.2.2.1 HI.out.2.2.2 rfl (by decide) _ _ _ rfl (World.ownsRow.alloc HO4.out _) ⟨wr.heap.size, 0, none⟩ 1 1 [.int .i64 x.1, .int .i64 x.2] rfl rfl ?c1 ?c2 (by decide) ?c3 ?c4 ?c5 (wr.heap.size + 1) (by simp) ?_)
     case c1 => exact two_new _ _ _ _
     case c2 => first | rfl | (intro u hu; simp at hu; rcases hu with rfl | rfl <;> rfl) | exact ⟨rfl, rfl⟩
     case c3 => unfold maxLen; omega
     case c4 => omega
     case c5 => first | omega | (simp; omega)
     intro g' c' w7 hown' hgrow hat' _
     have HE := mkHid (outD_yes HXX.out HKP.out)
     have HK1 : Hid ((outD lv T (l.take (i + 1))).length = kk + 1) := mkHid (by rw [HE.out, List.length_append, HKK.out]; rfl)
     have O7 : Hid (Own eY 65 w7 w.heap.size (.slice (some ⟨g', 0, none⟩) (kk + 1) c') (outD lv T (l.take (i + 1)))) := mkHid (by
      unfold Own
      rw [HK1.out, HE.out, El.flat_app]
      exact hown')
     have BE7 : Hid (Below w.heap.size w w7) := mkHid ((HBE.out.alloc HBE.out.size _).grown hgrow (by simp; omega) (fun q hq => by have := (World.ownsRow.lt HO4.out q hq).1; omega))
     clear hown' hgrow hat' c0 c1
     go_wp2
     go_roundg (l.length - (i + 1))
     case measure => omega
     case rel => exact ⟨i + 1, some ⟨g', 0, none⟩, c', by omega, by go_num, Nat.le_refl _, by rw [HK1.out], by rw [HK1.out]; exact O7.out, BE7.out⟩
   ·have HKP : Hid (keepD lv T x = true) := mkHid (by unfold keepD; simp [eqB_yes h1])
    have HO4 : Hid (wr.ownsRow w.heap.size 65 2 (.slice a kk c) kk (eY.flat (outD lv T (l.take i)))) := mkHid (by have h := HOW.out; unfold Own at h; rw [HKK.out] at h; exact h)
    go_wp2_with (at_builtin; refine wpList_append_lies _ rfl _ _ 63 rfl w.heap.size 65 ti (.agg #[.int .i64 0, .int .i64 0]) 2 16 Tryz.underlying63 HI.out.1 HI.out.2.1 HI.out.2.2.1 HI.out.2.2.2 rfl (by decide) _ _ _ rfl (World.ownsRow.alloc HO4.out _) ⟨wr.heap.size, 0, none⟩ 1 1 [.int .i64 x.1, .int .i64 x.2] rfl rfl ?c1 ?c2 (by decide) ?c3 ?c4 ?c5 (wr.heap.size + 1) (by simp) ?_)
    case c1 => exact two_new _ _ _ _
    case c2 => first | rfl | (intro u hu; simp at hu; rcases hu with rfl | rfl <;> rfl) | exact ⟨rfl, rfl⟩
    case c3 => unfold maxLen; omega
    case c4 => omega
    case c5 => first | omega | (simp; omega)
    intro g' c' w7 hown' hgrow hat' _
    have HE := mkHid (outD_yes HXX.out HKP.out)
    have HK1 : Hid ((outD lv T (l.take (i + 1))).length = kk + 1) := mkHid (by rw [HE.out, List.length_append, HKK.out]; rfl)
    have O7 : Hid (Own eY 65 w7 w.heap.size (.slice (some ⟨g', 0, none⟩) (kk + 1) c') (outD lv T (l.take (i + 1)))) := mkHid (by
     unfold Own
     rw [HK1.out, HE.out, El.flat_app]
     exact hown')
    have BE7 : Hid (Below w.heap.size w w7) := mkHid ((HBE.out.alloc HBE.out.size _).grown hgrow (by simp; omega) (fun q hq => by have := (World.ownsRow.lt HO4.out q hq).1; omega))
    clear hown' hgrow hat' c0 c1
    go_wp2
    go_roundg (l.length - (i + 1))
    case measure => omega
    case rel => exact ⟨i + 1, some ⟨g', 0, none⟩, c', by omega, by go_num, Nat.le_refl _, by rw [HK1.out], by rw [HK1.out]; exact O7.out, BE7.out⟩
  ·have i1 : ¬ (i : Int) < (l.length : Int) := by omega
   have el : l.take i = l := List.take_of_length_le (by omega)
   have HO : Hid (Own eY 65 wr w.heap.size (.slice a kk c) (outD lv T l)) := mkHid (by have h := HOW.out; rw [HKK.out, el] at h; exact h)
   have HK : Hid ((outD lv T l).length = kk) := mkHid (by have h := HKK.out; rw [el] at h; exact h)
   clear el HOW HKK hbel
   go_wp2
   go_ret
   exact ⟨HBE.out, a, c, by rw [HK.out]; rfl, by rw [HK.out]; exact HO.out⟩
end Go.Proofs.YtodjmpocpfkpaaaGreat
