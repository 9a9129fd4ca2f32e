/-
  CONTRACT of the drawing of ranges: l06DrawRange: it answers some range, and writes the cursor's own block alone.
  CONTRACT of the drawing of steps: l06DrawSteps: it answers a row of its own, and writes the cursor's own block alone.
  CONTRACTS of DrawRangeWiden, and of the law's own pick and big.
  CONTRACTS of DrawFactsJoin and DrawFactsWiden.
-/
import Derived.Test.YtgclngofigffdaaFh11
import Derived.Test.YtgclngofigffdaaFh20
import Derived.Test.YtgclngofigffdaaFh08
import Derived.Deep.AppendLies
import Derived.OwnWalk
import Derived.Test.YtgclngofigffdaaFh21
namespace Go.Proofs.Ytgclngofigffdaa
open Go.RowKit
attribute [local go_sem] nlt2 nlt3 nlt4 nle2 nle3 nle4 drew_size drew_cell drew_frozen

theorem Cur.belowB {w w' : World} {B cb n cap bud : Nat} {a : Option Addr} (h : Cur w cb a n cap bud) (hB : cb < B) (hb : Below B w w') : Cur w' cb a n cap bud := by
  obtain ⟨x, seed, hh, h1, h2, h3, h4, hby⟩ := h
  refine ⟨x, seed, (hb.block cb hB).trans hh, h1, h2, h3, h4, ?_⟩
  rcases hby with h | ⟨b, off, e, hbl, hc⟩
  · exact .inl h
  · refine .inr ⟨b, off, e, hbl, fun i hi => ?_⟩
    obtain ⟨z, z0, z1, hz⟩ := hc i hi
    exact ⟨z, z0, z1, (hb.cell (p := ⟨b, off + i, none⟩) (by show b < _; omega)).trans hz⟩
theorem grown_belowB {w a b : World} {r : Option Nat} (hg : w.grownBy a r) (hb : Below w.heap.size a b) : w.grownBy b r :=
  ⟨hb.os.trans hg.os, hb.tape.trans hg.tape, hb.output.trans hg.output, Nat.le_trans hg.size hb.size, fun i hi hne => (hb.block i hi).trans (hg.block i hi hne)⟩
/-- The result's box inside the call. -/
theorem Box.grownE {v v' : World} {cb b : Nat} {x y : Int} (h : Box v b x y) (hg : v.grownBy v' (some cb)) (hne : b ≠ cb) : Box v' b x y := by
  obtain ⟨h0, h1, h2, h3⟩ := h
  have hlt := World.block_lt_of_cell? v _ h0
  exact ⟨(grown_cell hg hlt hne).trans h0, (grown_cell hg hlt hne).trans h1, (grown_frozen hg hlt hne).trans h2, (grown_frozen hg hlt hne).trans h3⟩


end Go.Proofs.Ytgclngofigffdaa
namespace Go.Proofs.Ytgclngofigffdaa
open Go.RowKit

def intsE (l : List Int) : List Value := l.map (Value.int .i64)
theorem ints_getE {l : List Int} {i : Nat} : (intsE l)[i]? = (l[i]?).map (Value.int .i64) := by simp [intsE]
theorem ints_snocE (l : List Int) (x : Int) : intsE l ++ [.int .i64 x] = intsE (l ++ [x]) := by simp [intsE]
theorem Try.info3E : (Try.prog.info? 3).map (fun i => (i.zero, i.size, i.bytes)) = some (some (.int .i64 0), 1, 8) := by kernel_rfl
theorem one_new (w : World) (a : Value) (T : TypeId) (j : Nat) (u : Value) (h : [a][j]? = some u) : (w.alloc (.cells #[a] T)).cell? ((⟨w.heap.size, 0, none⟩ : Addr).add j) = some u := by
  rw [WideShapes.add_plain, Nat.zero_add, World.cell?_alloc_new]
  simpa using h
/-- What is known inside the call: the row of one's own, the cursor, that nothing else has turned. -/
def Row (w v : World) (g cp : Nat) (l : List Int) (cb n cap bud : Nat) (a : Option Addr) : Prop :=
  v.ownsRow w.heap.size 3 1 (.slice (some ⟨g, 0, none⟩) l.length cp) l.length (intsE l) ∧ Cur v cb a n cap bud ∧ cb < w.heap.size ∧ w.grownBy v (some cb)
theorem Row.pick {w v v' : World} {g cp : Nat} {l : List Int} {cb n cap bud bud' : Nat} {a : Option Addr} (h : Row w v g cp l cb n cap bud a) (hC : Cur v' cb a n cap bud') (hG : v.grownBy v' (some cb)) : Row w v' g cp l cb n cap bud' a := by
  obtain ⟨h1, _, h3, h4⟩ := h
  refine ⟨⟨h1.1, ?_⟩, hC, h3, grown_trans h4 hG⟩
  rcases h1.2 with ⟨e, _⟩ | ⟨g', cap', cur, e, hb, hg, rest⟩
  · cases e
  · have hlt := (Array.getElem?_eq_some_iff.1 hg).1
    exact .inr ⟨g', cap', cur, e, hb, (hG.block g' hlt (fun e => by have := Option.some.inj e; omega)).trans hg, rest⟩
theorem Row.less {w v : World} {g cp : Nat} {l : List Int} {cb n cap bud bud' : Nat} {a : Option Addr} (h : Row w v g cp l cb n cap bud a) (hb : bud' ≤ bud) : Row w v g cp l cb n cap bud' a := ⟨h.1, h.2.1.less hb, h.2.2⟩
theorem Row.app {w v v' : World} {g cp g' cp' : Nat} {l : List Int} {x : Int} {cb n cap bud : Nat} {a : Option Addr} (h : Row w v g cp l cb n cap bud a) (o : Obj)
    (hown : v'.ownsRow w.heap.size 3 1 (.slice (some ⟨g', 0, none⟩) (l.length + 1) cp') (l.length + 1) (intsE l ++ [.int .i64 x])) (hG : (v.alloc o).grownBy v' (Value.ownBlock (.slice (some ⟨g, 0, none⟩) l.length cp))) : Row w v' g' cp' (l ++ [x]) cb n cap bud a := by
  obtain ⟨h1, h2, h3, h4⟩ := h
  have hB : Below w.heap.size v v' := ((Below.refl _ _).alloc h4.size o).trans (Below.grown (Below.refl _ _) hG (by have := h4.size; simp; omega) (fun k hk => by
    have := (World.ownsRow.lt h1 k hk).1
    exact this))
  refine ⟨?_, h2.belowB h3 hB, h3, grown_belowB h4 hB⟩
  rw [ints_snocE] at hown
  simpa using hown
theorem Row.ints {w v : World} {g cp : Nat} {l : List Int} {cb n cap bud : Nat} {a : Option Addr} (h : Row w v g cp l cb n cap bud a) : IntsIn v l g 0 := fun i x hx => by
  have hi := (List.getElem?_eq_some_iff.1 hx).1
  have := World.ownsRow.cellAt h.1 i (by omega)
  rw [Nat.zero_add, this, ints_getE, hx]; rfl

set_option maxHeartbeats 6400000 in
theorem drawSteps_any (cb n cap bud : Nat) (a : Option Addr) (w : World) (hC : Cur w cb a n cap (bud + 40)) :
    Calls Try.prog 37 #[.pointer (some ⟨cb, 0, none⟩)] w fun e w' => ∃ (l : List Int) (g cp : Nat), e = .returned (.slice (some ⟨g, 0, none⟩) l.length cp) ∧ l.length ≤ 30 ∧ Row w w' g cp l cb n cap bud a := by
  obtain ⟨i0, hi, hz⟩ := Option.map_eq_some_iff.1 Try.info3E
  simp only [Prod.mk.injEq] at hz
  obtain ⟨hz0, hz1, hz2⟩ := hz
  have HI := mkHid (show Try.prog.info? 3 = some i0 ∧ i0.zero = some (.int .i64 0) ∧ i0.size = 1 ∧ i0.bytes = 8 from ⟨hi, hz0, hz1, hz2⟩)
  have HR : Hid (Row w (w.alloc (.cells #[] 3)) w.heap.size 0 [] cb n cap (bud + 40) a) := mkHid ⟨⟨rfl, .inr ⟨w.heap.size, 0, #[], rfl, Nat.le_refl _, by have := heap_alloc_new w (.cells #[] 3); simpa using this, Nat.le_refl _, by unfold maxLen; omega, rfl, rfl⟩⟩, hC.alloc _, hC.lt, grown_of_below (below_alloc w _) (some cb)⟩
  clear hi hz0 hz1 hz2 hC
  go_enter Try.func37, Try.ntmps37
  go_wp2_with fail
  refine (pick_any 7 cb n cap (bud + 39) a _ (by omega) HR.out.2.1).mono ?_
  rintro e w1 ⟨r, rfl, r0, r1, hC', hG'⟩
  have HR := mkHid (HR.out.pick hC' hG')
  clear hC' hG' 
  have r2 : r ≤ 6 := by omega
  obtain ⟨m, rfl⟩ : ∃ m : Nat, r = m := ⟨r.toNat, by omega⟩
  clear r0 r1
  go_wp2_with fail
  go_loopw [3, 4, 5] (fun s x k v => ∃ (l : List Int) (y : Int) (g cp j : Nat), l.length + j ≤ 6 ∧ k = .int .i64 j ∧ s = .slice (some ⟨g, 0, none⟩) l.length cp ∧ x = .int .i64 y ∧ -30 ≤ y ∧ y ≤ 26 * l.length ∧ Row w v g cp l cb n cap (bud + 32 + j) a) (fun _ _ k _ => (intOf k).toNat)
  case atStart => exact ⟨[], -30, w.heap.size, 0, m, by simp <;> omega, rfl, rfl, rfl, by omega, by simp, HR.out.less (by omega)⟩
  case round =>
    clear HR
    obtain ⟨l, y, g, cp, j, hj, rfl, rfl, rfl, y0, y1, hR⟩ := hrel
    have HR := mkHid hR
    clear hR
    by_cases hj0 : 1 ≤ j
    · go_wp2_with fail
      refine (pick_any 25 cb n cap (bud + 32 + (j - 1)) a _ (by omega) (HR.out.2.1.less (by omega))).mono ?_
      rintro e w2 ⟨q, rfl, q0, q1, hC', hG'⟩
      have HR := mkHid (HR.out.pick hC' hG')
      clear hC' hG' 
      have q2 : q ≤ 25 := by omega
      go_wp2_with (at_builtin; refine wpList_append_lies _ rfl _ _ 24 rfl w.heap.size 3 i0 (.int .i64 0) 1 8 Try.underlying24 HI.out.1 HI.out.2.1 HI.out.2.2.1 HI.out.2.2.2 rfl (by decide) _ _ _ rfl (World.ownsRow.alloc HR.out.1 _) ⟨w2.heap.size, 0, none⟩ 1 1 [.int .i64 (y + 1 + q)] rfl rfl ?c1b ?c2b (by decide) ?c3b ?c4b ?c5b (w2.heap.size + 1) (by simp) ?_)
      case c1b => exact one_new _ _ _
      case c2b => intro u hu; simp at hu; rcases hu with rfl; rfl
      case c3b => unfold maxLen; omega
      case c4b => omega
      case c5b => have := HR.out.2.2.2.size; simp; omega
      intro g' cp' w9 hown' hgrow _ _
      have HR := mkHid (HR.out.app _ hown' hgrow)
      clear hown' hgrow
      go_wp2
      go_roundw
      case rel => exact ⟨l ++ [y + 1 + q], y + 1 + q, g', cp', j - 1, by simp <;> omega, by congr 1; omega, by simp, rfl, by omega, by simp <;> omega, HR.out⟩
      case measure => simp [intOf]; omega
    · have ej : j = 0 := by omega
      subst ej
      go_wp2_with fail
      refine (pick_any 30 cb n cap (bud + 31) a _ (by omega) (HR.out.2.1.less (by omega))).mono ?_
      rintro e w2 ⟨q, rfl, q0, q1, hC', hG'⟩
      have HR := mkHid (HR.out.pick hC' hG')
      clear hC' hG' 
      by_cases e0 : q = 0
      · subst e0
        go_wp2_with (at_builtin; refine wpList_append_lies _ rfl _ _ 24 rfl w.heap.size 3 i0 (.int .i64 0) 1 8 Try.underlying24 HI.out.1 HI.out.2.1 HI.out.2.2.1 HI.out.2.2.2 rfl (by decide) _ _ _ rfl (World.ownsRow.alloc HR.out.1 _) ⟨w2.heap.size, 0, none⟩ 1 1 [.int .i64 y] rfl rfl ?c1c ?c2c (by decide) ?c3c ?c4c ?c5c (w2.heap.size + 1) (by simp) ?_)
        case c1c => exact one_new _ _ _
        case c2c => intro u hu; simp at hu; rcases hu with rfl; rfl
        case c3c => unfold maxLen; omega
        case c4c => omega
        case c5c => have := HR.out.2.2.2.size; simp; omega
        intro g' cp' w9 hown' hgrow _ _
        have HR := mkHid (HR.out.app _ hown' hgrow)
        clear hown' hgrow
        go_wp2
        go_ret
        exact ⟨l ++ [y], g', cp', (by rw [List.length_append]; rfl), by simp <;> omega, HR.out.less (by omega)⟩
      by_cases e1 : q = 1
      · subst e1
        go_wp2_with fail
        refine (pick_any 2 cb n cap (bud + 30) a _ (by omega) HR.out.2.1).mono ?_
        rintro e w3 ⟨s, rfl, s0, s1, hC', hG'⟩
        have HR := mkHid (HR.out.pick hC' hG')
        clear hC' hG' 
        have s2 : s ≤ 1 := by omega
        go_wp2_with (at_builtin; refine wpList_append_lies _ rfl _ _ 24 rfl w.heap.size 3 i0 (.int .i64 0) 1 8 Try.underlying24 HI.out.1 HI.out.2.1 HI.out.2.2.1 HI.out.2.2.2 rfl (by decide) _ _ _ rfl (World.ownsRow.alloc HR.out.1 _) ⟨w3.heap.size, 0, none⟩ 1 1 [.int .i64 (1000000 + s)] rfl rfl ?c1d ?c2d (by decide) ?c3d ?c4d ?c5d (w3.heap.size + 1) (by simp) ?_)
        case c1d => exact one_new _ _ _
        case c2d => intro u hu; simp at hu; rcases hu with rfl; rfl
        case c3d => unfold maxLen; omega
        case c4d => omega
        case c5d => have := HR.out.2.2.2.size; simp; omega
        intro g' cp' w9 hown' hgrow _ _
        have HR := mkHid (HR.out.app _ hown' hgrow)
        clear hown' hgrow
        go_wp2
        go_ret
        exact ⟨l ++ [1000000 + s], g', cp', (by rw [List.length_append]; rfl), by simp <;> omega, HR.out.less (by omega)⟩
      by_cases e2 : q = 2
      · subst e2
        go_wp2_with fail
        go_loopw [3, 4] (fun s x v => ∃ (l : List Int) (y : Int) (g cp : Nat), l.length ≤ 21 ∧ s = .slice (some ⟨g, 0, none⟩) l.length cp ∧ x = .int .i64 y ∧ -30 ≤ y ∧ y ≤ 26 * l.length ∧ Row w v g cp l cb n cap (bud + (25 - l.length)) a) (fun s _ _ => 22 - (match s with | .slice _ k _ => k | _ => 0))
        case atStart => exact ⟨l, y, g, cp, by omega, rfl, rfl, by omega, by omega, HR.out.less (by omega)⟩
        case round =>
          clear HR
          obtain ⟨l, y, g, cp, hl, rfl, rfl, y0, y1, hR⟩ := hrel
          have HR := mkHid hR
          clear hR
          go_wp2_with fail
          refine (pick_any 2 cb n cap (bud + (24 - l.length)) a _ (by omega) (HR.out.2.1.less (by omega))).mono ?_
          rintro e w4 ⟨q, rfl, q0, q1, hC', hG'⟩
          have HR := mkHid (HR.out.pick hC' hG')
          clear hC' hG' 
          have q2 : q ≤ 1 := by omega
          by_cases hc : (l.length : Int) < 20 + q
          · go_wp2_with (at_builtin; refine wpList_append_lies _ rfl _ _ 24 rfl w.heap.size 3 i0 (.int .i64 0) 1 8 Try.underlying24 HI.out.1 HI.out.2.1 HI.out.2.2.1 HI.out.2.2.2 rfl (by decide) _ _ _ rfl (World.ownsRow.alloc HR.out.1 _) ⟨w4.heap.size, 0, none⟩ 1 1 [.int .i64 (y + 1)] rfl rfl ?c1a ?c2a (by decide) ?c3a ?c4a ?c5a (w4.heap.size + 1) (by simp) ?_)
            case c1a => exact one_new _ _ _
            case c2a => intro u hu; simp at hu; rcases hu with rfl; rfl
            case c3a => unfold maxLen; omega
            case c4a => omega
            case c5a => have := HR.out.2.2.2.size; simp; omega
            intro g' cp' w9 hown' hgrow _ _
            have HR := mkHid (HR.out.app _ hown' hgrow)
            clear hown' hgrow
            go_wp2
            go_roundw
            case rel => exact ⟨l ++ [y + 1], y + 1, g', cp', by simp <;> omega, by simp, rfl, by omega, by simp <;> omega, HR.out.less (by simp <;> omega)⟩
            case measure => simp; omega
          · go_wp2
            go_ret
            exact ⟨_, _, _, rfl, by omega, HR.out.less (by omega)⟩
      go_wp2
      go_ret
      exact ⟨_, _, _, rfl, by omega, HR.out.less (by omega)⟩
end Go.Proofs.Ytgclngofigffdaa
namespace Go.Proofs.Ytgclngofigffdaa
open Go.RowKit
attribute [local go_sem] nlt2 nlt3 nlt4 nle2 nle3 nle4 drew_size drew_cell drew_frozen


theorem IntsIn.set {v : World} {l : List Int} {g p i : Nat} {u : Value} (h : IntsIn v l g 0) (hne : g ≠ p) : IntsIn (v.setCell ⟨p, i, none⟩ u) l g 0 := fun j x hx =>
  (World.cell?_of_block (w := v) (Below.heap_setCell v ⟨p, i, none⟩ u g hne)).trans (h j x hx)
/-- Boxes, the cursor, and that nothing old has turned. -/
def Dz (w v : World) (P Q : Nat) (x1 y1 x2 y2 : Int) (cb n cap bud : Nat) (a : Option Addr) : Prop :=
  Box v w.heap.size 0 0 ∧ Box v (w.heap.size + 1) 0 0 ∧ Box v P x1 y1 ∧ Box v Q x2 y2 ∧ Cur v cb a n cap bud ∧ w.heap.size + 2 ≤ cb ∧ P ≠ cb ∧ Q ≠ cb ∧ w.heap.size + 1 < P ∧ w.heap.size + 1 < Q ∧ Below w.heap.size w v
theorem below_of_grown {w v v' : World} {cb : Nat} (h : Below w.heap.size w v) (hg : v.grownBy v' (some cb)) (hcb : w.heap.size ≤ cb) : Below w.heap.size w v' :=
  Below.grown h hg h.size (fun k hk => by cases hk; exact hcb)
theorem Dz.grown {w v v' : World} {P Q : Nat} {x1 y1 x2 y2 : Int} {cb n cap bud bud' : Nat} {a : Option Addr} (h : Dz w v P Q x1 y1 x2 y2 cb n cap bud a) (hC : Cur v' cb a n cap bud') (hg : v.grownBy v' (some cb)) : Dz w v' P Q x1 y1 x2 y2 cb n cap bud' a := by
  obtain ⟨h1, h2, h3, h4, _, h6, h7, h8, h9, h10, h11⟩ := h
  exact ⟨h1.grownE hg (by omega), h2.grownE hg (by omega), h3.grownE hg h7, h4.grownE hg h8, hC, h6, h7, h8, h9, h10, below_of_grown h11 hg (by omega)⟩

end Go.Proofs.Ytgclngofigffdaa
namespace Go.Proofs.Ytgclngofigffdaa
open Go.RowKit

set_option maxRecDepth 100000 in
set_option maxHeartbeats 3200000 in
theorem drawJoin_any (n cap : Nat) (a : Option Addr) (w : World) (hn : n ≤ 1048576) (hb0 : Bytes w w.heap.size a n) :
    Calls Try.prog 7 #[.slice a n cap] w fun e w' => ∃ (z : Int) (l : List Int) (ao : Option Addr) (cp : Nat) (z' : Int) (l' : List Int) (ao' : Option Addr) (cp' : Nat), e = .returned (.tuple #[.agg #[.int .i64 z, .slice ao l.length cp], .agg #[.int .i64 z', .slice ao' l'.length cp']]) ∧ (z ≤ 20 ∧ l.length ≤ 169 ∧ l.length ≤ cp) ∧ (z' ≤ 20 ∧ l'.length ≤ 169 ∧ l'.length ≤ cp') ∧ OwnI w' w.heap.size (.slice ao l.length cp) l ∧ OwnI w' w.heap.size (.slice ao' l'.length cp') l' ∧ Below w.heap.size w w' := by
  have HN := mkHid hn
  have HBY := mkHid hb0
  have B0 := mkHid (((Below.refl w.heap.size w).alloc (Nat.le_refl _) (.cells #[.int .i64 0, .slice none 0 0] 26)).alloc (by simp) (.cells #[.int .i64 0, .slice none 0 0] 26))
  have Z0 : Hid (Fz ((w.alloc (.cells #[.int .i64 0, .slice none 0 0] 26)).alloc (.cells #[.int .i64 0, .slice none 0 0] 26)) w.heap.size) := mkHid ((Fz.new w).below (below_alloc _ _))
  have Y0 : Hid (Fz ((w.alloc (.cells #[.int .i64 0, .slice none 0 0] 26)).alloc (.cells #[.int .i64 0, .slice none 0 0] 26)) (w.heap.size + 1)) := mkHid (by have := Fz.new (w.alloc (.cells #[.int .i64 0, .slice none 0 0] 26)); simpa using this)
  clear hn hb0
  go_enter Try.func7, Try.ntmps7
  go_wp2_with fail
  refine (openC_any n cap a _ HN.out (HBY.out.up B0.out.size B0.out)).mono ?_
  rintro e w1 ⟨cb, rfl, hcb, hC, hb⟩
  have l0 := Y0.out.lt
  have C1 := mkHid (hC.less (bud' := 1000 + 420) (by omega))
  have B1 := mkHid (below_step B0.out hb)
  have Z1 := mkHid (Z0.out.below hb)
  have Y1 := mkHid (Y0.out.below hb)
  have hcw : w.heap.size + 1 < cb := by omega
  clear hC hb hcb l0 B0 Z0 Y0
  go_wp2_with fail
  refine (drawTwo_any cb n cap 1000 a _ C1.out).mono ?_
  rintro e w3 ⟨z, l, ao, cp, z', l', ao', cp', rfl, hz, hz', ho, ho', hC, hG⟩
  have sz2 := Y1.out.lt
  have HB3 := B1.out.grown hG B1.out.size (fun q hq => by cases hq; omega)
  obtain ⟨⟨z0, z1⟩, z2, z3⟩ := Z1.out.grown hG (some_ne (by omega))
  obtain ⟨⟨x0, x1⟩, x2, x3⟩ := Y1.out.grown hG (some_ne (by omega))
  have HOA := mkHid (fun u0 u1 u2 u3 => (((((ho.mono (base' := w.heap.size + 2) (by omega))).far (p := ⟨w.heap.size, 0, none⟩) (show w.heap.size < w.heap.size + 2 by omega) u0).far (p := ⟨w.heap.size, 1, none⟩) (show w.heap.size < w.heap.size + 2 by omega) u1).far (p := ⟨w.heap.size + 1, 0, none⟩) (show w.heap.size + 1 < w.heap.size + 2 by omega) u2).far (p := ⟨w.heap.size + 1, 1, none⟩) (show w.heap.size + 1 < w.heap.size + 2 by omega) u3)
  have HOB := mkHid (fun u0 u1 u2 u3 => (((((ho'.mono (base' := w.heap.size + 2) (by omega))).far (p := ⟨w.heap.size, 0, none⟩) (show w.heap.size < w.heap.size + 2 by omega) u0).far (p := ⟨w.heap.size, 1, none⟩) (show w.heap.size < w.heap.size + 2 by omega) u1).far (p := ⟨w.heap.size + 1, 0, none⟩) (show w.heap.size + 1 < w.heap.size + 2 by omega) u2).far (p := ⟨w.heap.size + 1, 1, none⟩) (show w.heap.size + 1 < w.heap.size + 2 by omega) u3)
  have HBB := mkHid (fun u0 u1 u2 u3 => (((HB3.setCell (p := ⟨w.heap.size, 0, none⟩) (Nat.le_refl _) u0).setCell (p := ⟨w.heap.size, 1, none⟩) (Nat.le_refl _) u1).setCell (p := ⟨w.heap.size + 1, 0, none⟩) (Nat.le_succ _) u2).setCell (p := ⟨w.heap.size + 1, 1, none⟩) (Nat.le_succ _) u3)
  have HB := mkHid hz
  have HB' := mkHid hz'
  clear ho ho' hC hG hz hz' HB3
  go_wp2
  exact bodyPost_ret (v := .tuple #[.agg #[.int .i64 z, .slice ao l.length cp], .agg #[.int .i64 z', .slice ao' l'.length cp']]) (by simp [results, Try.results7, go_sem, *]) rfl ⟨z, l, ao, cp, z', l', ao', cp', rfl, HB.out, HB'.out, (HOA.out _ _ _ _).mono (by omega), (HOB.out _ _ _ _).mono (by omega), HBB.out _ _ _ _⟩
set_option maxRecDepth 100000 in
set_option maxHeartbeats 3200000 in
theorem drawWid_any (n cap : Nat) (a : Option Addr) (w : World) (hn : n ≤ 1048576) (hb0 : Bytes w w.heap.size a n) :
    Calls Try.prog 8 #[.slice a n cap] w fun e w' => ∃ (z : Int) (l : List Int) (ao : Option Addr) (cp : Nat) (z' : Int) (l' : List Int) (ao' : Option Addr) (cp' : Nat) (st : List Int) (g cs : Nat), e = .returned (.tuple #[.agg #[.int .i64 z, .slice ao l.length cp], .agg #[.int .i64 z', .slice ao' l'.length cp'], .slice (some ⟨g, 0, none⟩) st.length cs]) ∧ st.length ≤ 30 ∧ IntsIn w' st g 0 ∧ g < w'.heap.size ∧ Below w.heap.size w w' := by
  have HN := mkHid hn
  have HBY := mkHid hb0
  have B0 := mkHid (((Below.refl w.heap.size w).alloc (Nat.le_refl _) (.cells #[.int .i64 0, .slice none 0 0] 26)).alloc (by simp) (.cells #[.int .i64 0, .slice none 0 0] 26))
  have Z0 : Hid (Fz ((w.alloc (.cells #[.int .i64 0, .slice none 0 0] 26)).alloc (.cells #[.int .i64 0, .slice none 0 0] 26)) w.heap.size) := mkHid ((Fz.new w).below (below_alloc _ _))
  have Y0 : Hid (Fz ((w.alloc (.cells #[.int .i64 0, .slice none 0 0] 26)).alloc (.cells #[.int .i64 0, .slice none 0 0] 26)) (w.heap.size + 1)) := mkHid (by have := Fz.new (w.alloc (.cells #[.int .i64 0, .slice none 0 0] 26)); simpa using this)
  clear hn hb0
  go_enter Try.func8, Try.ntmps8
  go_wp2_with fail
  refine (openC_any n cap a _ HN.out (HBY.out.up B0.out.size B0.out)).mono ?_
  rintro e w1 ⟨cb, rfl, hcb, hC, hb⟩
  have l0 := Y0.out.lt
  have C1 := mkHid (hC.less (bud' := 1000 + 420) (by omega))
  have B1 := mkHid (below_step B0.out hb)
  have Z1 := mkHid (Z0.out.below hb)
  have Y1 := mkHid (Y0.out.below hb)
  have hcw : w.heap.size + 1 < cb := by omega
  clear hC hb hcb l0 B0 Z0 Y0
  go_wp2_with fail
  refine (drawTwo_any cb n cap 1000 a _ C1.out).mono ?_
  rintro e w3 ⟨z, l, ao, cp, z', l', ao', cp', rfl, -, -, -, -, hC, hG⟩
  have hl3 := hC.lt
  obtain ⟨P, hP⟩ : ∃ q, w3.heap.size = q := ⟨_, rfl⟩
  obtain ⟨w4, hw4⟩ : ∃ x, (w3.alloc (.cells #[.int .i64 z, .slice ao l.length cp] 26)).alloc (.cells #[.int .i64 z', .slice ao' l'.length cp'] 26) = x := ⟨_, rfl⟩
  have A4 : Below w3.heap.size w3 w4 := by rw [← hw4]; exact bl_alloc (bl_alloc (Below.refl _ _) _) _
  have B4 := mkHid ((below_step (B1.out.grown hG B1.out.size (fun q hq => by cases hq; omega)) A4).drew)
  have Z4 := mkHid (((Z1.out.grown hG (some_ne (by omega))).below A4).below (Below.refl _ _).drew)
  have Y4 := mkHid (((Y1.out.grown hG (some_ne (by omega))).below A4).below (Below.refl _ _).drew)
  have C4 := mkHid ((hC.below A4).below (Below.refl _ _).drew)
  have F4 : Hid (Fc w4 P z ao l.length cp) := mkHid (by rw [← hw4, ← hP]; exact (Fc.new w3 z ao l.length cp 26).below (below_alloc _ _))
  have E4 : Hid (Fc w4 (P + 1) z' ao' l'.length cp') := mkHid (by rw [← hw4, ← hP]; have := Fc.new (w3.alloc (.cells #[.int .i64 z, .slice ao l.length cp] 26)) z' ao' l'.length cp' 26; simpa using this)
  have hPc : cb < P := by omega
  have HW4 := mkHid hw4
  have HPP := mkHid hP
  clear hC hG A4 hw4 hl3 C1 B1 Z1 Y1
  obtain ⟨y0, y1⟩ := F4.out
  obtain ⟨y2, y3⟩ := E4.out
  go_wp2_with fail
  rw [HW4.out]
  first | rw [HPP.out] | skip
  clear HW4 HPP hP
  go_region_held3 (fun v => (v.cell? ⟨P, 0, none⟩ = some (.int .i64 z) ∧ v.cell? ⟨P, 1, none⟩ = some (.slice ao l.length cp)) ∧ (v.cell? ⟨P + 1, 0, none⟩ = some (.int .i64 z') ∧ v.cell? ⟨P + 1, 1, none⟩ = some (.slice ao' l'.length cp')))
    (first | exact ⟨⟨y0, y1⟩, ⟨y2, y3⟩⟩ | assumption | (simp [*, go_sem]; done))
    (first | (go_at_call 37; refine (drawSteps_any cb n cap 900 a _ (C4.out.less (by omega))).mono ?_; rintro e w9 ⟨st, g, cs, rfl, hst, hR⟩; have hG' := hR.2.2.2; have q0 := (hG'.cell_far ⟨P, 0, none⟩ (by have := F4.out.lt; simpa using this) (some_ne (show P ≠ cb by omega))).trans y0; have q1 := (hG'.cell_far ⟨P, 1, none⟩ (by have := F4.out.lt; simpa using this) (some_ne (show P ≠ cb by omega))).trans y1; have q2 := (hG'.cell_far ⟨P + 1, 0, none⟩ (by have := E4.out.lt; simpa using this) (some_ne (show P + 1 ≠ cb by omega))).trans y2; have q3 := (hG'.cell_far ⟨P + 1, 1, none⟩ (by have := E4.out.lt; simpa using this) (some_ne (show P + 1 ≠ cb by omega))).trans y3; obtain ⟨⟨z0, z1⟩, z2, z3⟩ := Z4.out.grown hG' (some_ne (by omega)); obtain ⟨⟨x0, x1⟩, x2, x3⟩ := Y4.out.grown hG' (some_ne (by omega)); have hlw := Y4.out.lt; have hgb := World.ownsRow.lt hR.1 g rfl; have HI := mkHid hR.ints))
  all_goals
    have HB3 := B4.out.grown hG' B4.out.size (fun q hq => by cases hq; omega)
    have hg1 : w.heap.size + 1 < g := by have := hgb.1; simp at this hlw; omega
    have HII := mkHid (fun u0 u1 u2 u3 => (((HI.out.set (i := 0) (p := w.heap.size) (u := u0) (by omega)).set (i := 1) (p := w.heap.size) (u := u1) (by omega)).set (i := 0) (p := w.heap.size + 1) (u := u2) (by omega)).set (i := 1) (p := w.heap.size + 1) (u := u3) (by omega))
    have HBB := mkHid (fun u0 u1 u2 u3 => (((HB3.setCell (p := ⟨w.heap.size, 0, none⟩) (Nat.le_refl _) u0).setCell (p := ⟨w.heap.size, 1, none⟩) (Nat.le_refl _) u1).setCell (p := ⟨w.heap.size + 1, 0, none⟩) (Nat.le_succ _) u2).setCell (p := ⟨w.heap.size + 1, 1, none⟩) (Nat.le_succ _) u3)
    have hgs := hgb.2
    have HST := mkHid hst
    clear hR hG' HB3 hst hgb
    go_wp2
    exact bodyPost_ret (v := .tuple #[.agg #[.int .i64 z, .slice ao l.length cp], .agg #[.int .i64 z', .slice ao' l'.length cp'], .slice (some ⟨g, 0, none⟩) st.length cs]) (by simp [results, Try.results8, go_sem, *]) rfl ⟨z, l, ao, cp, z', l', ao', cp', st, g, cs, rfl, HST.out, HII.out _ _ _ _, by simpa using hgs, HBB.out _ _ _ _⟩
end Go.Proofs.Ytgclngofigffdaa
