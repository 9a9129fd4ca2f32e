/-
  CONTRACT of the drawing of ranges: l06DrawRange: it answers some range, and writes the cursor's own block alone.
  CONTRACT of the drawing of steps: l06DrawSteps: it answers a row of its own, and writes the cursor's own block alone.
  CONTRACTS of DrawRangeWiden, and of the law's own pick and big.
-/
import Derived.Test.YtgclngofigffdaaFo09
import Derived.Test.YtgclngofigffdaaFo19
import Derived.Test.YtgclngofigffdaaFo07
import Derived.Deep.AppendLies
import Derived.OwnWalk
namespace Go.Proofs.Ytgclngofigffdaa
open Go.RowKit
attribute [local go_sem] nlt2 nlt3 nlt4 nle2 nle3 nle4 drew_size drew_cell drew_frozen

theorem Cur.belowB {w w' : World} {B cb n cap bud : Nat} {a : Option Addr} (h : Cur w cb a n cap bud) (hB : cb < B) (hb : Below B w w') : Cur w' cb a n cap bud := by
  obtain ⟨x, seed, hh, h1, h2, h3, h4, hby⟩ := h
  refine ⟨x, seed, (hb.block cb hB).trans hh, h1, h2, h3, h4, ?_⟩
  rcases hby with h | ⟨b, off, e, hbl, hc⟩
  · exact .inl h
  · refine .inr ⟨b, off, e, hbl, fun i hi => ?_⟩
    obtain ⟨z, z0, z1, hz⟩ := hc i hi
    exact ⟨z, z0, z1, (hb.cell (p := ⟨b, off + i, none⟩) (by show b < _; omega)).trans hz⟩
theorem grown_belowB {w a b : World} {r : Option Nat} (hg : w.grownBy a r) (hb : Below w.heap.size a b) : w.grownBy b r :=
  ⟨hb.os.trans hg.os, hb.tape.trans hg.tape, hb.output.trans hg.output, Nat.le_trans hg.size hb.size, fun i hi hne => (hb.block i hi).trans (hg.block i hi hne)⟩
theorem below_two (B : Nat) (v : World) (x y : Value) : Below B v ((v.setCell ⟨B, 0, none⟩ x).setCell ⟨B, 1, none⟩ y) := ((Below.refl B v).setCell (p := ⟨B, 0, none⟩) (Nat.le_refl _) x).setCell (p := ⟨B, 1, none⟩) (Nat.le_refl _) y
/-- The result's box inside the call. -/
theorem Box.grownE {v v' : World} {cb b : Nat} {x y : Int} (h : Box v b x y) (hg : v.grownBy v' (some cb)) (hne : b ≠ cb) : Box v' b x y := by
  obtain ⟨h0, h1, h2, h3⟩ := h
  have hlt := World.block_lt_of_cell? v _ h0
  exact ⟨(grown_cell hg hlt hne).trans h0, (grown_cell hg hlt hne).trans h1, (grown_frozen hg hlt hne).trans h2, (grown_frozen hg hlt hne).trans h3⟩


set_option maxHeartbeats 3200000 in
theorem drawRange_any (cb n cap bud : Nat) (a : Option Addr) (w : World) (hC : Cur w cb a n cap (bud + 5)) :
    Calls Try.prog 71 #[.pointer (some ⟨cb, 0, none⟩)] w fun e w' => ∃ x y : Int, e = .returned (.agg #[.int .i64 x, .int .i64 y]) ∧ Cur w' cb a n cap bud ∧ w.grownBy w' (some cb) := by
  have HC := mkHid hC
  have hlt := hC.lt
  have hne : w.heap.size ≠ cb := by omega
  have HX := mkHid (show Box (w.alloc (.cells #[.int .i64 0, .int .i64 0] 44)) w.heap.size 0 0 by refine ⟨?_, ?_, ?_, ?_⟩ <;> simp [go_sem])
  have HC := mkHid (HC.out.alloc (.cells #[.int .i64 0, .int .i64 0] 44))
  have HG := mkHid (grown_of_below (below_alloc w (.cells #[.int .i64 0, .int .i64 0] 44)) (some cb))
  clear hC
  go_enter Try.func71, Try.ntmps71
  go_wp2_with fail
  refine (pick_any 9 cb n cap (bud + 4) a _ (by omega) HC.out).mono ?_
  rintro e w1 ⟨r, rfl, r0, r1, hC', hG'⟩
  have HC := mkHid hC'
  have HX := mkHid (HX.out.grownE hG' hne)
  have HG := mkHid (grown_trans HG.out hG')
  clear hC' hG'
  obtain ⟨p0, p1, p2, p3⟩ := HX.out
  by_cases e0 : r = 0
  · subst e0
    go_wp2_with fail
    refine (sNone_any _).mono ?_
    rintro e w2 ⟨rfl, hb⟩
    have HC := mkHid (HC.out.below hb)
    have HX := mkHid (HX.out.below hb)
    have HG := mkHid (grown_trans HG.out (grown_of_below hb (some cb)))
    clear hb
    obtain ⟨p0, p1, p2, p3⟩ := HX.out
    go_wp2
    have hb9 : Below w.heap.size w2 ((w2.setCell ⟨w.heap.size, 0, none⟩ (.int .i64 1)).setCell ⟨w.heap.size, 1, none⟩ (.int .i64 0)) := below_two _ _ _ _
    exact bodyPost_ret (v := .agg #[.int .i64 1, .int .i64 0]) (by simp [results, Try.results71, go_sem, *]) rfl ⟨_, _, rfl, (HC.out.belowB hlt hb9).less (by omega), grown_belowB HG.out hb9⟩
  by_cases e1 : r = 1
  · subst e1
    go_wp2
    have hb9 : Below w.heap.size w1 ((w1.setCell ⟨w.heap.size, 0, none⟩ (.int .i64 (-1000000))).setCell ⟨w.heap.size, 1, none⟩ (.int .i64 1000000)) := below_two _ _ _ _
    exact bodyPost_ret (v := .agg #[.int .i64 (-1000000), .int .i64 1000000]) (by simp [results, Try.results71, go_sem, *]) rfl ⟨_, _, rfl, (HC.out.belowB hlt hb9).less (by omega), grown_belowB HG.out hb9⟩
  by_cases e2 : r = 2
  · subst e2
    go_wp2_with fail
    refine (pick_any 9 cb n cap (bud + 3) a _ (by omega) HC.out).mono ?_
    rintro e w2 ⟨q, rfl, q0, q1, hC', hG'⟩
    have HC := mkHid hC'
    have HX := mkHid (HX.out.grownE hG' hne)
    have HG := mkHid (grown_trans HG.out hG')
    clear hC' hG'
    obtain ⟨p0, p1, p2, p3⟩ := HX.out
    have q2 : q ≤ 9 := by omega
    go_wp2
    have hb9 : Below w.heap.size w2 ((w2.setCell ⟨w.heap.size, 0, none⟩ (.int .i64 (q - 3))).setCell ⟨w.heap.size, 1, none⟩ (.int .i64 (q - 3))) := below_two _ _ _ _
    exact bodyPost_ret (v := .agg #[.int .i64 (q - 3), .int .i64 (q - 3)]) (by simp [results, Try.results71, go_sem, *]) rfl ⟨_, _, rfl, (HC.out.belowB hlt hb9).less (by omega), grown_belowB HG.out hb9⟩
  by_cases e3 : r = 3
  · subst e3
    go_wp2_with fail
    refine (number_any cb n cap (bud + 2) a _ HC.out).mono ?_
    rintro e w2 ⟨q, rfl, q0, q1, hC', hG'⟩
    have HC := mkHid hC'
    have HX := mkHid (HX.out.grownE hG' hne)
    have HG := mkHid (grown_trans HG.out hG')
    clear hC' hG'
    obtain ⟨p0, p1, p2, p3⟩ := HX.out
    go_wp2_with fail
    refine (number_any cb n cap bud a _ HC.out).mono ?_
    rintro e w3 ⟨s, rfl, s0, s1, hC', hG'⟩
    have HC := mkHid hC'
    have HX := mkHid (HX.out.grownE hG' hne)
    have HG := mkHid (grown_trans HG.out hG')
    clear hC' hG'
    obtain ⟨p0, p1, p2, p3⟩ := HX.out
    go_wp2
    have hb9 : Below w.heap.size w3 ((w3.setCell ⟨w.heap.size, 0, none⟩ (.int .i64 q)).setCell ⟨w.heap.size, 1, none⟩ (.int .i64 s)) := below_two _ _ _ _
    exact bodyPost_ret (v := .agg #[.int .i64 q, .int .i64 s]) (by simp [results, Try.results71, go_sem, *]) rfl ⟨_, _, rfl, (HC.out.belowB hlt hb9).less (by omega), grown_belowB HG.out hb9⟩
  go_wp2_with fail
  refine (number_any cb n cap (bud + 2) a _ HC.out).mono ?_
  rintro e w2 ⟨q, rfl, q0, q1, hC', hG'⟩
  have HC := mkHid hC'
  have HX := mkHid (HX.out.grownE hG' hne)
  have HG := mkHid (grown_trans HG.out hG')
  clear hC' hG'
  obtain ⟨p0, p1, p2, p3⟩ := HX.out
  cases hv : valB q
  · go_wp2_with (first | (go_at_call 76; refine (sVal_any _ _).mono ?_; rintro e w' ⟨rfl, rfl⟩))
    refine (pick_any 20 cb n cap (bud + 1) a _ (by omega) HC.out).mono ?_
    rintro e w3 ⟨s, rfl, s0, s1, hC', hG'⟩
    have HC := mkHid hC'
    have HX := mkHid (HX.out.grownE hG' hne)
    have HG := mkHid (grown_trans HG.out hG')
    clear hC' hG'
    obtain ⟨p0, p1, p2, p3⟩ := HX.out
    have s2 : s ≤ 20 := by omega
    go_wp2_with fail
    refine (sMake_any 0 s _).mono ?_
    rintro e w4 ⟨rfl, hb⟩
    have HC := mkHid (HC.out.below hb)
    have HX := mkHid (HX.out.below hb)
    have HG := mkHid (grown_trans HG.out (grown_of_below hb (some cb)))
    clear hb
    obtain ⟨p0, p1, p2, p3⟩ := HX.out
    go_wp2
    have hb9 : Below w.heap.size w4 ((w4.setCell ⟨w.heap.size, 0, none⟩ (.int .i64 (mkM 0 s).1)).setCell ⟨w.heap.size, 1, none⟩ (.int .i64 (mkM 0 s).2)) := below_two _ _ _ _
    exact bodyPost_ret (v := .agg #[.int .i64 (mkM 0 s).1, .int .i64 (mkM 0 s).2]) (by simp [results, Try.results71, go_sem, *]) rfl ⟨_, _, rfl, (HC.out.belowB hlt hb9).less (by omega), grown_belowB HG.out hb9⟩
  · have q4 : -1000000 ≤ q ∧ q ≤ 1000000 := by unfold valB at hv; simpa using hv
    obtain ⟨q5, q6⟩ := q4
    go_wp2_with (first | (go_at_call 76; refine (sVal_any _ _).mono ?_; rintro e w' ⟨rfl, rfl⟩))
    refine (pick_any 20 cb n cap (bud + 1) a _ (by omega) HC.out).mono ?_
    rintro e w3 ⟨s, rfl, s0, s1, hC', hG'⟩
    have HC := mkHid hC'
    have HX := mkHid (HX.out.grownE hG' hne)
    have HG := mkHid (grown_trans HG.out hG')
    clear hC' hG'
    obtain ⟨p0, p1, p2, p3⟩ := HX.out
    have s2 : s ≤ 20 := by omega
    go_wp2_with fail
    refine (sMake_any q (q + s) _).mono ?_
    rintro e w4 ⟨rfl, hb⟩
    have HC := mkHid (HC.out.below hb)
    have HX := mkHid (HX.out.below hb)
    have HG := mkHid (grown_trans HG.out (grown_of_below hb (some cb)))
    clear hb
    obtain ⟨p0, p1, p2, p3⟩ := HX.out
    go_wp2
    have hb9 : Below w.heap.size w4 ((w4.setCell ⟨w.heap.size, 0, none⟩ (.int .i64 (mkM q (q + s)).1)).setCell ⟨w.heap.size, 1, none⟩ (.int .i64 (mkM q (q + s)).2)) := below_two _ _ _ _
    exact bodyPost_ret (v := .agg #[.int .i64 (mkM q (q + s)).1, .int .i64 (mkM q (q + s)).2]) (by simp [results, Try.results71, go_sem, *]) rfl ⟨_, _, rfl, (HC.out.belowB hlt hb9).less (by omega), grown_belowB HG.out hb9⟩
end Go.Proofs.Ytgclngofigffdaa
namespace Go.Proofs.Ytgclngofigffdaa
open Go.RowKit

def intsE (l : List Int) : List Value := l.map (Value.int .i64)
theorem ints_getE {l : List Int} {i : Nat} : (intsE l)[i]? = (l[i]?).map (Value.int .i64) := by simp [intsE]
theorem ints_snocE (l : List Int) (x : Int) : intsE l ++ [.int .i64 x] = intsE (l ++ [x]) := by simp [intsE]
theorem Try.info3E : (Try.prog.info? 3).map (fun i => (i.zero, i.size, i.bytes)) = some (some (.int .i64 0), 1, 8) := by kernel_rfl
theorem one_new (w : World) (a : Value) (T : TypeId) (j : Nat) (u : Value) (h : [a][j]? = some u) : (w.alloc (.cells #[a] T)).cell? ((⟨w.heap.size, 0, none⟩ : Addr).add j) = some u := by
  rw [WideShapes.add_plain, Nat.zero_add, World.cell?_alloc_new]
  simpa using h
/-- What is known inside the call: the row of one's own, the cursor, that nothing else has turned. -/
def Row (w v : World) (g cp : Nat) (l : List Int) (cb n cap bud : Nat) (a : Option Addr) : Prop :=
  v.ownsRow w.heap.size 3 1 (.slice (some ⟨g, 0, none⟩) l.length cp) l.length (intsE l) ∧ Cur v cb a n cap bud ∧ cb < w.heap.size ∧ w.grownBy v (some cb)
theorem Row.pick {w v v' : World} {g cp : Nat} {l : List Int} {cb n cap bud bud' : Nat} {a : Option Addr} (h : Row w v g cp l cb n cap bud a) (hC : Cur v' cb a n cap bud') (hG : v.grownBy v' (some cb)) : Row w v' g cp l cb n cap bud' a := by
  obtain ⟨h1, _, h3, h4⟩ := h
  refine ⟨⟨h1.1, ?_⟩, hC, h3, grown_trans h4 hG⟩
  rcases h1.2 with ⟨e, _⟩ | ⟨g', cap', cur, e, hb, hg, rest⟩
  · cases e
  · have hlt := (Array.getElem?_eq_some_iff.1 hg).1
    exact .inr ⟨g', cap', cur, e, hb, (hG.block g' hlt (fun e => by have := Option.some.inj e; omega)).trans hg, rest⟩
theorem Row.less {w v : World} {g cp : Nat} {l : List Int} {cb n cap bud bud' : Nat} {a : Option Addr} (h : Row w v g cp l cb n cap bud a) (hb : bud' ≤ bud) : Row w v g cp l cb n cap bud' a := ⟨h.1, h.2.1.less hb, h.2.2⟩
theorem Row.app {w v v' : World} {g cp g' cp' : Nat} {l : List Int} {x : Int} {cb n cap bud : Nat} {a : Option Addr} (h : Row w v g cp l cb n cap bud a) (o : Obj)
    (hown : v'.ownsRow w.heap.size 3 1 (.slice (some ⟨g', 0, none⟩) (l.length + 1) cp') (l.length + 1) (intsE l ++ [.int .i64 x])) (hG : (v.alloc o).grownBy v' (Value.ownBlock (.slice (some ⟨g, 0, none⟩) l.length cp))) : Row w v' g' cp' (l ++ [x]) cb n cap bud a := by
  obtain ⟨h1, h2, h3, h4⟩ := h
  have hB : Below w.heap.size v v' := ((Below.refl _ _).alloc h4.size o).trans (Below.grown (Below.refl _ _) hG (by have := h4.size; simp; omega) (fun k hk => by
    have := (World.ownsRow.lt h1 k hk).1
    exact this))
  refine ⟨?_, h2.belowB h3 hB, h3, grown_belowB h4 hB⟩
  rw [ints_snocE] at hown
  simpa using hown
theorem Row.ints {w v : World} {g cp : Nat} {l : List Int} {cb n cap bud : Nat} {a : Option Addr} (h : Row w v g cp l cb n cap bud a) : IntsIn v l g 0 := fun i x hx => by
  have hi := (List.getElem?_eq_some_iff.1 hx).1
  have := World.ownsRow.cellAt h.1 i (by omega)
  rw [Nat.zero_add, this, ints_getE, hx]; rfl

set_option maxHeartbeats 6400000 in
theorem drawSteps_any (cb n cap bud : Nat) (a : Option Addr) (w : World) (hC : Cur w cb a n cap (bud + 40)) :
    Calls Try.prog 37 #[.pointer (some ⟨cb, 0, none⟩)] w fun e w' => ∃ (l : List Int) (g cp : Nat), e = .returned (.slice (some ⟨g, 0, none⟩) l.length cp) ∧ l.length ≤ 30 ∧ Row w w' g cp l cb n cap bud a := by
  obtain ⟨i0, hi, hz⟩ := Option.map_eq_some_iff.1 Try.info3E
  simp only [Prod.mk.injEq] at hz
  obtain ⟨hz0, hz1, hz2⟩ := hz
  have HI := mkHid (show Try.prog.info? 3 = some i0 ∧ i0.zero = some (.int .i64 0) ∧ i0.size = 1 ∧ i0.bytes = 8 from ⟨hi, hz0, hz1, hz2⟩)
  have HR : Hid (Row w (w.alloc (.cells #[] 3)) w.heap.size 0 [] cb n cap (bud + 40) a) := mkHid ⟨⟨rfl, .inr ⟨w.heap.size, 0, #[], rfl, Nat.le_refl _, by have := heap_alloc_new w (.cells #[] 3); simpa using this, Nat.le_refl _, by unfold maxLen; omega, rfl, rfl⟩⟩, hC.alloc _, hC.lt, grown_of_below (below_alloc w _) (some cb)⟩
  clear hi hz0 hz1 hz2 hC
  go_enter Try.func37, Try.ntmps37
  go_wp2_with fail
  refine (pick_any 7 cb n cap (bud + 39) a _ (by omega) HR.out.2.1).mono ?_
  rintro e w1 ⟨r, rfl, r0, r1, hC', hG'⟩
  have HR := mkHid (HR.out.pick hC' hG')
  clear hC' hG' 
  have r2 : r ≤ 6 := by omega
  obtain ⟨m, rfl⟩ : ∃ m : Nat, r = m := ⟨r.toNat, by omega⟩
  clear r0 r1
  go_wp2_with fail
  go_loopw [3, 4, 5] (fun s x k v => ∃ (l : List Int) (y : Int) (g cp j : Nat), l.length + j ≤ 6 ∧ k = .int .i64 j ∧ s = .slice (some ⟨g, 0, none⟩) l.length cp ∧ x = .int .i64 y ∧ -30 ≤ y ∧ y ≤ 26 * l.length ∧ Row w v g cp l cb n cap (bud + 32 + j) a) (fun _ _ k _ => (intOf k).toNat)
  case atStart => exact ⟨[], -30, w.heap.size, 0, m, by simp <;> omega, rfl, rfl, rfl, by omega, by simp, HR.out.less (by omega)⟩
  case round =>
    clear HR
    obtain ⟨l, y, g, cp, j, hj, rfl, rfl, rfl, y0, y1, hR⟩ := hrel
    have HR := mkHid hR
    clear hR
    by_cases hj0 : 1 ≤ j
    · go_wp2_with fail
      refine (pick_any 25 cb n cap (bud + 32 + (j - 1)) a _ (by omega) (HR.out.2.1.less (by omega))).mono ?_
      rintro e w2 ⟨q, rfl, q0, q1, hC', hG'⟩
      have HR := mkHid (HR.out.pick hC' hG')
      clear hC' hG' 
      have q2 : q ≤ 25 := by omega
      go_wp2_with (at_builtin; refine wpList_append_lies _ rfl _ _ 24 rfl w.heap.size 3 i0 (.int .i64 0) 1 8 Try.underlying24 HI.out.1 HI.out.2.1 HI.out.2.2.1 HI.out.2.2.2 rfl (by decide) _ _ _ rfl (World.ownsRow.alloc HR.out.1 _) ⟨w2.heap.size, 0, none⟩ 1 1 [.int .i64 (y + 1 + q)] rfl rfl ?c1b ?c2b (by decide) ?c3b ?c4b ?c5b (w2.heap.size + 1) (by simp) ?_)
      case c1b => exact one_new _ _ _
      case c2b => intro u hu; simp at hu; rcases hu with rfl; rfl
      case c3b => unfold maxLen; omega
      case c4b => omega
      case c5b => have := HR.out.2.2.2.size; simp; omega
      intro g' cp' w9 hown' hgrow _ _
      have HR := mkHid (HR.out.app _ hown' hgrow)
      clear hown' hgrow
      go_wp2
      go_roundw
      case rel => exact ⟨l ++ [y + 1 + q], y + 1 + q, g', cp', j - 1, by simp <;> omega, by congr 1; omega, by simp, rfl, by omega, by simp <;> omega, HR.out⟩
      case measure => simp [intOf]; omega
    · have ej : j = 0 := by omega
      subst ej
      go_wp2_with fail
      refine (pick_any 30 cb n cap (bud + 31) a _ (by omega) (HR.out.2.1.less (by omega))).mono ?_
      rintro e w2 ⟨q, rfl, q0, q1, hC', hG'⟩
      have HR := mkHid (HR.out.pick hC' hG')
      clear hC' hG' 
      by_cases e0 : q = 0
      · subst e0
        go_wp2_with (at_builtin; refine wpList_append_lies _ rfl _ _ 24 rfl w.heap.size 3 i0 (.int .i64 0) 1 8 Try.underlying24 HI.out.1 HI.out.2.1 HI.out.2.2.1 HI.out.2.2.2 rfl (by decide) _ _ _ rfl (World.ownsRow.alloc HR.out.1 _) ⟨w2.heap.size, 0, none⟩ 1 1 [.int .i64 y] rfl rfl ?c1c ?c2c (by decide) ?c3c ?c4c ?c5c (w2.heap.size + 1) (by simp) ?_)
        case c1c => exact one_new _ _ _
        case c2c => intro u hu; simp at hu; rcases hu with rfl; rfl
        case c3c => unfold maxLen; omega
        case c4c => omega
        case c5c => have := HR.out.2.2.2.size; simp; omega
        intro g' cp' w9 hown' hgrow _ _
        have HR := mkHid (HR.out.app _ hown' hgrow)
        clear hown' hgrow
        go_wp2
        go_ret
        exact ⟨l ++ [y], g', cp', (by rw [List.length_append]; rfl), by simp <;> omega, HR.out.less (by omega)⟩
      by_cases e1 : q = 1
      · subst e1
        go_wp2_with fail
        refine (pick_any 2 cb n cap (bud + 30) a _ (by omega) HR.out.2.1).mono ?_
        rintro e w3 ⟨s, rfl, s0, s1, hC', hG'⟩
        have HR := mkHid (HR.out.pick hC' hG')
        clear hC' hG' 
        have s2 : s ≤ 1 := by omega
        go_wp2_with (at_builtin; refine wpList_append_lies _ rfl _ _ 24 rfl w.heap.size 3 i0 (.int .i64 0) 1 8 Try.underlying24 HI.out.1 HI.out.2.1 HI.out.2.2.1 HI.out.2.2.2 rfl (by decide) _ _ _ rfl (World.ownsRow.alloc HR.out.1 _) ⟨w3.heap.size, 0, none⟩ 1 1 [.int .i64 (1000000 + s)] rfl rfl ?c1d ?c2d (by decide) ?c3d ?c4d ?c5d (w3.heap.size + 1) (by simp) ?_)
        case c1d => exact one_new _ _ _
        case c2d => intro u hu; simp at hu; rcases hu with rfl; rfl
        case c3d => unfold maxLen; omega
        case c4d => omega
        case c5d => have := HR.out.2.2.2.size; simp; omega
        intro g' cp' w9 hown' hgrow _ _
        have HR := mkHid (HR.out.app _ hown' hgrow)
        clear hown' hgrow
        go_wp2
        go_ret
        exact ⟨l ++ [1000000 + s], g', cp', (by rw [List.length_append]; rfl), by simp <;> omega, HR.out.less (by omega)⟩
      by_cases e2 : q = 2
      · subst e2
        go_wp2_with fail
        go_loopw [3, 4] (fun s x v => ∃ (l : List Int) (y : Int) (g cp : Nat), l.length ≤ 21 ∧ s = .slice (some ⟨g, 0, none⟩) l.length cp ∧ x = .int .i64 y ∧ -30 ≤ y ∧ y ≤ 26 * l.length ∧ Row w v g cp l cb n cap (bud + (25 - l.length)) a) (fun s _ _ => 22 - (match s with | .slice _ k _ => k | _ => 0))
        case atStart => exact ⟨l, y, g, cp, by omega, rfl, rfl, by omega, by omega, HR.out.less (by omega)⟩
        case round =>
          clear HR
          obtain ⟨l, y, g, cp, hl, rfl, rfl, y0, y1, hR⟩ := hrel
          have HR := mkHid hR
          clear hR
          go_wp2_with fail
          refine (pick_any 2 cb n cap (bud + (24 - l.length)) a _ (by omega) (HR.out.2.1.less (by omega))).mono ?_
          rintro e w4 ⟨q, rfl, q0, q1, hC', hG'⟩
          have HR := mkHid (HR.out.pick hC' hG')
          clear hC' hG' 
          have q2 : q ≤ 1 := by omega
          by_cases hc : (l.length : Int) < 20 + q
          · go_wp2_with (at_builtin; refine wpList_append_lies _ rfl _ _ 24 rfl w.heap.size 3 i0 (.int .i64 0) 1 8 Try.underlying24 HI.out.1 HI.out.2.1 HI.out.2.2.1 HI.out.2.2.2 rfl (by decide) _ _ _ rfl (World.ownsRow.alloc HR.out.1 _) ⟨w4.heap.size, 0, none⟩ 1 1 [.int .i64 (y + 1)] rfl rfl ?c1a ?c2a (by decide) ?c3a ?c4a ?c5a (w4.heap.size + 1) (by simp) ?_)
            case c1a => exact one_new _ _ _
            case c2a => intro u hu; simp at hu; rcases hu with rfl; rfl
            case c3a => unfold maxLen; omega
            case c4a => omega
            case c5a => have := HR.out.2.2.2.size; simp; omega
            intro g' cp' w9 hown' hgrow _ _
            have HR := mkHid (HR.out.app _ hown' hgrow)
            clear hown' hgrow
            go_wp2
            go_roundw
            case rel => exact ⟨l ++ [y + 1], y + 1, g', cp', by simp <;> omega, by simp, rfl, by omega, by simp <;> omega, HR.out.less (by simp <;> omega)⟩
            case measure => simp; omega
          · go_wp2
            go_ret
            exact ⟨_, _, _, rfl, by omega, HR.out.less (by omega)⟩
      go_wp2
      go_ret
      exact ⟨_, _, _, rfl, by omega, HR.out.less (by omega)⟩
end Go.Proofs.Ytgclngofigffdaa
namespace Go.Proofs.Ytgclngofigffdaa
open Go.RowKit
attribute [local go_sem] nlt2 nlt3 nlt4 nle2 nle3 nle4 drew_size drew_cell drew_frozen


theorem openC_anyE (n cap : Nat) (a : Option Addr) (w : World) (hn : n ≤ 1048576) (hb : Bytes w w.heap.size a n) :
    Calls Try.prog 35 #[.slice a n cap] w fun e w' => ∃ cb, e = .returned (.pointer (some ⟨cb, 0, none⟩)) ∧ w.heap.size ≤ cb ∧ Cur w' cb a n cap 499999 ∧ Below w.heap.size w w' :=
  (open_any n cap a w hn hb).mono fun _ _ h => ⟨_, h.1, Nat.le_refl _, h.2.1, h.2.2⟩
theorem IntsIn.set {v : World} {l : List Int} {g p i : Nat} {u : Value} (h : IntsIn v l g 0) (hne : g ≠ p) : IntsIn (v.setCell ⟨p, i, none⟩ u) l g 0 := fun j x hx =>
  (World.cell?_of_block (w := v) (Below.heap_setCell v ⟨p, i, none⟩ u g hne)).trans (h j x hx)
/-- Boxes, the cursor, and that nothing old has turned. -/
def Dz (w v : World) (P Q : Nat) (x1 y1 x2 y2 : Int) (cb n cap bud : Nat) (a : Option Addr) : Prop :=
  Box v w.heap.size 0 0 ∧ Box v (w.heap.size + 1) 0 0 ∧ Box v P x1 y1 ∧ Box v Q x2 y2 ∧ Cur v cb a n cap bud ∧ w.heap.size + 2 ≤ cb ∧ P ≠ cb ∧ Q ≠ cb ∧ w.heap.size + 1 < P ∧ w.heap.size + 1 < Q ∧ Below w.heap.size w v
theorem below_of_grown {w v v' : World} {cb : Nat} (h : Below w.heap.size w v) (hg : v.grownBy v' (some cb)) (hcb : w.heap.size ≤ cb) : Below w.heap.size w v' :=
  Below.grown h hg h.size (fun k hk => by cases hk; exact hcb)
theorem Dz.grown {w v v' : World} {P Q : Nat} {x1 y1 x2 y2 : Int} {cb n cap bud bud' : Nat} {a : Option Addr} (h : Dz w v P Q x1 y1 x2 y2 cb n cap bud a) (hC : Cur v' cb a n cap bud') (hg : v.grownBy v' (some cb)) : Dz w v' P Q x1 y1 x2 y2 cb n cap bud' a := by
  obtain ⟨h1, h2, h3, h4, _, h6, h7, h8, h9, h10, h11⟩ := h
  exact ⟨h1.grownE hg (by omega), h2.grownE hg (by omega), h3.grownE hg h7, h4.grownE hg h8, hC, h6, h7, h8, h9, h10, below_of_grown h11 hg (by omega)⟩

set_option maxHeartbeats 3200000 in
theorem drawWiden_any (n cap : Nat) (a : Option Addr) (w : World) (hn : n ≤ 1048576) (hb0 : Bytes w w.heap.size a n) :
    Calls Try.prog 32 #[.slice a n cap] w fun e w' => ∃ (x1 y1 x2 y2 : Int) (l : List Int) (g cp : Nat), e = .returned (.tuple #[.agg #[.int .i64 x1, .int .i64 y1], .agg #[.int .i64 x2, .int .i64 y2], .slice (some ⟨g, 0, none⟩) l.length cp]) ∧ l.length ≤ 30 ∧ IntsIn w' l g 0 ∧ (w.heap.size ≤ g ∧ g < w'.heap.size) ∧ Below w.heap.size w w' := by
  have BA := mkHid (bl_alloc (bl_alloc (Below.refl w.heap.size w) (.cells #[.int .i64 0, .int .i64 0] 44)) (.cells #[.int .i64 0, .int .i64 0] 44))
  have HY := mkHid (hb0.up (by simp; omega : w.heap.size ≤ ((w.alloc (.cells #[.int .i64 0, .int .i64 0] 44)).alloc (.cells #[.int .i64 0, .int .i64 0] 44)).heap.size) BA.out)
  have X0 := mkHid (show Box ((w.alloc (.cells #[.int .i64 0, .int .i64 0] 44)).alloc (.cells #[.int .i64 0, .int .i64 0] 44)) w.heap.size 0 0 by refine ⟨?_, ?_, ?_, ?_⟩ <;> simp [go_sem])
  have X1 := mkHid (show Box ((w.alloc (.cells #[.int .i64 0, .int .i64 0] 44)).alloc (.cells #[.int .i64 0, .int .i64 0] 44)) (w.heap.size + 1) 0 0 by refine ⟨?_, ?_, ?_, ?_⟩ <;> simp [go_sem])
  clear hb0
  go_enter Try.func32, Try.ntmps32
  go_wp2_with fail
  refine (openC_anyE n cap a _ hn HY.out).mono ?_
  rintro e w1 ⟨cb, rfl, hcb, hC, hb⟩
  have hcb2 : w.heap.size + 2 ≤ cb := by simp at hcb; omega
  have X0 := mkHid (X0.out.below hb)
  have X1 := mkHid (X1.out.below hb)
  have BA := mkHid (below_step BA.out hb)
  have HC := mkHid hC
  clear hb hcb hC HY
  go_wp2_with fail
  refine (drawRange_any cb n cap 400060 a _ (HC.out.less (by omega))).mono ?_
  rintro e w2 ⟨x1, y1, rfl, hC, hg⟩
  have X0 := mkHid (X0.out.grownE hg (by omega))
  have X1 := mkHid (X1.out.grownE hg (by omega))
  have BA := mkHid (below_of_grown BA.out hg (by omega))
  have HC := mkHid hC
  clear hC hg
  have hal := below_alloc w2 (.cells #[.int .i64 x1, .int .i64 y1] 44)
  have X0 := mkHid (X0.out.below hal)
  have X1 := mkHid (X1.out.below hal)
  have X2 := mkHid (show Box (w2.alloc (.cells #[.int .i64 x1, .int .i64 y1] 44)) w2.heap.size x1 y1 by refine ⟨?_, ?_, ?_, ?_⟩ <;> simp [go_sem])
  have BA := mkHid (below_step BA.out hal)
  have hlt := HC.out.lt
  have HC := mkHid (HC.out.below hal)
  clear hal
  obtain ⟨P, hP⟩ : ∃ P, P = w2.heap.size := ⟨_, rfl⟩
  have hPc : P ≠ cb := by omega
  have hPw : w.heap.size + 1 < P := by omega
  obtain ⟨v2, hv2⟩ : ∃ v, v = w2.alloc (.cells #[.int .i64 x1, .int .i64 y1] 44) := ⟨_, rfl⟩
  go_wp2_with fail
  rw [← hv2, ← hP]
  rw [← hv2] at HC X0 X1 X2 BA
  rw [← hP] at X2
  clear hv2 hP hlt
  refine (drawRange_any cb n cap 400050 a _ (HC.out.less (by omega))).mono ?_
  rintro e w3 ⟨x2, y2, rfl, hC, hg⟩
  have X0 := mkHid (X0.out.grownE hg (by omega))
  have X1 := mkHid (X1.out.grownE hg (by omega))
  have X2 := mkHid (X2.out.grownE hg hPc)
  have BA := mkHid (below_of_grown BA.out hg (by omega))
  have hlt := hC.lt
  have hal := below_alloc w3 (.cells #[.int .i64 x2, .int .i64 y2] 44)
  have K : Hid (Dz w (w3.alloc (.cells #[.int .i64 x2, .int .i64 y2] 44)) P w3.heap.size x1 y1 x2 y2 cb n cap 400050 a) := mkHid ⟨X0.out.below hal, X1.out.below hal, X2.out.below hal, (by refine ⟨?_, ?_, ?_, ?_⟩ <;> simp [go_sem]), hC.below hal, hcb2, hPc, by omega, hPw, by omega, below_step BA.out hal⟩
  clear hC hg X0 X1 X2 BA hal HC
  obtain ⟨Q, hQ⟩ : ∃ Q, Q = w3.heap.size := ⟨_, rfl⟩
  obtain ⟨v3, hv3⟩ : ∃ v, v = w3.alloc (.cells #[.int .i64 x2, .int .i64 y2] 44) := ⟨_, rfl⟩
  go_wp2_with fail
  rw [← hv3, ← hQ]
  rw [← hv3, ← hQ] at K
  clear hv3 hQ hlt hPc hPw hcb2
  obtain ⟨⟨p0, p1, p2, p3⟩, ⟨p4, p5, p6, p7⟩, ⟨p8, p9, p10, p11⟩, ⟨p12, p13, p14, p15⟩, _, d1, d2, d3, d4, d5, hB⟩ := K.out
  go_region_held3 (fun v => v.cell? ⟨P, 0, none⟩ = some (.int .i64 x1) ∧ v.cell? ⟨P, 1, none⟩ = some (.int .i64 y1) ∧ v.cell? ⟨Q, 0, none⟩ = some (.int .i64 x2) ∧ v.cell? ⟨Q, 1, none⟩ = some (.int .i64 y2)) (first | (simp (maxDischargeDepth := 12) [*, go_sem]; done) | assumption) (first | (go_at_call 37; refine (drawSteps_any cb n cap 400000 a _ ((K.out.2.2.2.2.1.below ((Below.refl _ _).drew)).less (by omega))).mono ?_; rintro e w9 ⟨l, g, cp, rfl, hl, hR⟩; have K := mkHid (K.out.grown hR.2.1 (grown_trans (grown_of_below ((Below.refl _ _).drew) (some cb)) hR.2.2.2)); have HI := mkHid hR.ints; have hgb := (World.ownsRow.lt hR.1 g rfl).1; have hgs := (World.ownsRow.lt hR.1 g rfl).2; have hgw : w.heap.size + 1 < g := (by have hq9 : Q < v3.heap.size := World.block_lt_of_cell? v3 _ p12; have : v3.heap.size ≤ g := hgb; omega); clear hR hgb; obtain ⟨⟨p0, p1, p2, p3⟩, ⟨p4, p5, p6, p7⟩, ⟨p8, p9, p10, p11⟩, ⟨p12, p13, p14, p15⟩, _, d1, d2, d3, d4, d5, hB⟩ := K.out))
  all_goals
    go_wp2
    have hbx : Below w.heap.size w ((((w9.setCell ⟨w.heap.size, 0, none⟩ (.int .i64 x1)).setCell ⟨w.heap.size, 1, none⟩ (.int .i64 y1)).setCell ⟨w.heap.size + 1, 0, none⟩ (.int .i64 x2)).setCell ⟨w.heap.size + 1, 1, none⟩ (.int .i64 y2)) := (by repeat (first | with_reducible exact Below.refl _ _ | (with_reducible refine bl_set2 ?_ ?_ _; (first | (simp; done) | (simp [*]; done) | (simp [*] <;> omega))) | with_reducible refine bl_drew ?_ | with_reducible refine bl_alloc ?_ _ | with_reducible refine below_step ?_ (by assumption) | with_reducible assumption))
    have hii : IntsIn ((((w9.setCell ⟨w.heap.size, 0, none⟩ (.int .i64 x1)).setCell ⟨w.heap.size, 1, none⟩ (.int .i64 y1)).setCell ⟨w.heap.size + 1, 0, none⟩ (.int .i64 x2)).setCell ⟨w.heap.size + 1, 1, none⟩ (.int .i64 y2)) l g 0 := (((HI.out.set (by omega)).set (by omega)).set (by omega)).set (by omega)
    exact bodyPost_ret (v := .tuple #[.agg #[.int .i64 x1, .int .i64 y1], .agg #[.int .i64 x2, .int .i64 y2], .slice (some ⟨g, 0, none⟩) l.length cp]) (by simp [results, Try.results32, go_sem, *]) rfl ⟨x1, y1, x2, y2, l, g, cp, rfl, hl, hii, ⟨by omega, by simpa using hgs⟩, hbx⟩

end Go.Proofs.Ytgclngofigffdaa
