/-
  CONTRACT of the drawing of steps: l06DrawSteps: it answers a row of its own, and writes the cursor's own block alone.
-/
import Derived.Test.YtgkmpadeleebdaaDoorQDrr
import Derived.Test.YtgkmpadeleebdaaDoorQSt
import Derived.Deep.AppendLies
import Derived.OwnWalk
namespace Go.Proofs.YtgkmpadeleebdaaDoor.Q
open Go.RowKit

def ints (l : List Int) : List Value := l.map (Value.int .i64)
theorem ints_get {l : List Int} {i : Nat} : (ints l)[i]? = (l[i]?).map (Value.int .i64) := by simp [ints]
theorem ints_snoc (l : List Int) (x : Int) : ints l ++ [.int .i64 x] = ints (l ++ [x]) := by simp [ints]
theorem Tryd.info3 : (Tryd.prog.info? 3).map (fun i => (i.zero, i.size, i.bytes)) = some (some (.int .i64 0), 1, 8) := by kernel_rfl
theorem one_new (w : World) (a : Value) (T : TypeId) (j : Nat) (u : Value) (h : [a][j]? = some u) : (w.alloc (.cells #[a] T)).cell? ((⟨w.heap.size, 0, none⟩ : Addr).add j) = some u := by
  rw [WideShapes.add_plain, Nat.zero_add, World.cell?_alloc_new]
  simpa using h
/-- What is known inside the call: the row of one's own, the cursor, that nothing else has turned. -/
def Row (w v : World) (g cp : Nat) (l : List Int) (cb n cap bud : Nat) (a : Option Addr) : Prop :=
  v.ownsRow w.heap.size 3 1 (.slice (some ⟨g, 0, none⟩) l.length cp) l.length (ints l) ∧ Cur v cb a n cap bud ∧ cb < w.heap.size ∧ w.grownBy v (some cb)
theorem Row.pick {w v v' : World} {g cp : Nat} {l : List Int} {cb n cap bud bud' : Nat} {a : Option Addr} (h : Row w v g cp l cb n cap bud a) (hC : Cur v' cb a n cap bud') (hG : v.grownBy v' (some cb)) : Row w v' g cp l cb n cap bud' a := by
  obtain ⟨h1, _, h3, h4⟩ := h
  refine ⟨⟨h1.1, ?_⟩, hC, h3, grown_trans h4 hG⟩
  rcases h1.2 with ⟨e, _⟩ | ⟨g', cap', cur, e, hb, hg, rest⟩
  · cases e
  · have hlt := (Array.getElem?_eq_some_iff.1 hg).1
    exact .inr ⟨g', cap', cur, e, hb, (hG.block g' hlt (fun e => by have := Option.some.inj e; omega)).trans hg, rest⟩
theorem Row.less {w v : World} {g cp : Nat} {l : List Int} {cb n cap bud bud' : Nat} {a : Option Addr} (h : Row w v g cp l cb n cap bud a) (hb : bud' ≤ bud) : Row w v g cp l cb n cap bud' a := ⟨h.1, h.2.1.less hb, h.2.2⟩
theorem Row.app {w v v' : World} {g cp g' cp' : Nat} {l : List Int} {x : Int} {cb n cap bud : Nat} {a : Option Addr} (h : Row w v g cp l cb n cap bud a) (o : Obj)
    (hown : v'.ownsRow w.heap.size 3 1 (.slice (some ⟨g', 0, none⟩) (l.length + 1) cp') (l.length + 1) (ints l ++ [.int .i64 x])) (hG : (v.alloc o).grownBy v' (Value.ownBlock (.slice (some ⟨g, 0, none⟩) l.length cp))) : Row w v' g' cp' (l ++ [x]) cb n cap bud a := by
  obtain ⟨h1, h2, h3, h4⟩ := h
  have hB : Below w.heap.size v v' := ((Below.refl _ _).alloc h4.size o).trans (Below.grown (Below.refl _ _) hG (by have := h4.size; simp; omega) (fun k hk => by
    have := (World.ownsRow.lt h1 k hk).1
    exact this))
  refine ⟨?_, h2.belowB h3 hB, h3, grown_belowB h4 hB⟩
  rw [ints_snoc] at hown
  simpa using hown
theorem Row.ints {w v : World} {g cp : Nat} {l : List Int} {cb n cap bud : Nat} {a : Option Addr} (h : Row w v g cp l cb n cap bud a) : IntsIn v l g 0 := fun i x hx => by
  have hi := (List.getElem?_eq_some_iff.1 hx).1
  have := World.ownsRow.cellAt h.1 i (by omega)
  rw [Nat.zero_add, this, ints_get, hx]; rfl

set_option maxHeartbeats 6400000 in
theorem drawSteps_any (cb n cap bud : Nat) (a : Option Addr) (w : World) (hC : Cur w cb a n cap (bud + 40)) :
    Calls Tryd.prog 21 #[.pointer (some ⟨cb, 0, none⟩)] w fun e w' => ∃ (l : List Int) (g cp : Nat), e = .returned (.slice (some ⟨g, 0, none⟩) l.length cp) ∧ l.length ≤ 30 ∧ Row w w' g cp l cb n cap bud a := by
  obtain ⟨i0, hi, hz⟩ := Option.map_eq_some_iff.1 Tryd.info3
  simp only [Prod.mk.injEq] at hz
  obtain ⟨hz0, hz1, hz2⟩ := hz
  have HI := mkHid (show Tryd.prog.info? 3 = some i0 ∧ i0.zero = some (.int .i64 0) ∧ i0.size = 1 ∧ i0.bytes = 8 from ⟨hi, hz0, hz1, hz2⟩)
  have HR : Hid (Row w (w.alloc (.cells #[] 3)) w.heap.size 0 [] cb n cap (bud + 40) a) := mkHid ⟨⟨rfl, .inr ⟨w.heap.size, 0, #[], rfl, Nat.le_refl _, by have := heap_alloc_new w (.cells #[] 3); simpa using this, Nat.le_refl _, by unfold maxLen; omega, rfl, rfl⟩⟩, hC.alloc _, hC.lt, grown_of_below (below_alloc w _) (some cb)⟩
  clear hi hz0 hz1 hz2 hC
  go_enter Tryd.func21, Tryd.ntmps21
  go_wp2_with fail
  refine (pick_any 7 cb n cap (bud + 39) a _ (by omega) HR.out.2.1).mono ?_
  rintro e w1 ⟨r, rfl, r0, r1, hC', hG'⟩
  have HR := mkHid (HR.out.pick hC' hG')
  clear hC' hG' 
  have r2 : r ≤ 6 := by omega
  obtain ⟨m, rfl⟩ : ∃ m : Nat, r = m := ⟨r.toNat, by omega⟩
  clear r0 r1
  go_wp2_with fail
  go_loopw [3, 4, 5] (fun s x k v => ∃ (l : List Int) (y : Int) (g cp j : Nat), l.length + j ≤ 6 ∧ k = .int .i64 j ∧ s = .slice (some ⟨g, 0, none⟩) l.length cp ∧ x = .int .i64 y ∧ -30 ≤ y ∧ y ≤ 26 * l.length ∧ Row w v g cp l cb n cap (bud + 32 + j) a) (fun _ _ k _ => (intOf k).toNat)
  case atStart => exact ⟨[], -30, w.heap.size, 0, m, by simp <;> omega, rfl, rfl, rfl, by omega, by simp, HR.out.less (by omega)⟩
  case round =>
    clear HR
    obtain ⟨l, y, g, cp, j, hj, rfl, rfl, rfl, y0, y1, hR⟩ := hrel
    have HR := mkHid hR
    clear hR
    by_cases hj0 : 1 ≤ j
    · go_wp2_with fail
      refine (pick_any 25 cb n cap (bud + 32 + (j - 1)) a _ (by omega) (HR.out.2.1.less (by omega))).mono ?_
      rintro e w2 ⟨q, rfl, q0, q1, hC', hG'⟩
      have HR := mkHid (HR.out.pick hC' hG')
      clear hC' hG' 
      have q2 : q ≤ 25 := by omega
      go_wp2_with (at_builtin; refine wpList_append_lies _ rfl _ _ 28 rfl w.heap.size 3 i0 (.int .i64 0) 1 8 Tryd.underlying28 HI.out.1 HI.out.2.1 HI.out.2.2.1 HI.out.2.2.2 rfl (by decide) _ _ _ rfl (World.ownsRow.alloc HR.out.1 _) ⟨w2.heap.size, 0, none⟩ 1 1 [.int .i64 (y + 1 + q)] rfl rfl ?c1b ?c2b (by decide) ?c3b ?c4b ?c5b (w2.heap.size + 1) (by simp) ?_)
      case c1b => exact one_new _ _ _
      case c2b => intro u hu; simp at hu; rcases hu with rfl; rfl
      case c3b => unfold maxLen; omega
      case c4b => omega
      case c5b => have := HR.out.2.2.2.size; simp; omega
      intro g' cp' w9 hown' hgrow _ _
      have HR := mkHid (HR.out.app _ hown' hgrow)
      clear hown' hgrow
      go_wp2
      go_roundw
      case rel => exact ⟨l ++ [y + 1 + q], y + 1 + q, g', cp', j - 1, by simp <;> omega, by congr 1; omega, by simp, rfl, by omega, by simp <;> omega, HR.out⟩
      case measure => simp [intOf]; omega
    · have ej : j = 0 := by omega
      subst ej
      go_wp2_with fail
      refine (pick_any 30 cb n cap (bud + 31) a _ (by omega) (HR.out.2.1.less (by omega))).mono ?_
      rintro e w2 ⟨q, rfl, q0, q1, hC', hG'⟩
      have HR := mkHid (HR.out.pick hC' hG')
      clear hC' hG' 
      by_cases e0 : q = 0
      · subst e0
        go_wp2_with (at_builtin; refine wpList_append_lies _ rfl _ _ 28 rfl w.heap.size 3 i0 (.int .i64 0) 1 8 Tryd.underlying28 HI.out.1 HI.out.2.1 HI.out.2.2.1 HI.out.2.2.2 rfl (by decide) _ _ _ rfl (World.ownsRow.alloc HR.out.1 _) ⟨w2.heap.size, 0, none⟩ 1 1 [.int .i64 y] rfl rfl ?c1c ?c2c (by decide) ?c3c ?c4c ?c5c (w2.heap.size + 1) (by simp) ?_)
        case c1c => exact one_new _ _ _
        case c2c => intro u hu; simp at hu; rcases hu with rfl; rfl
        case c3c => unfold maxLen; omega
        case c4c => omega
        case c5c => have := HR.out.2.2.2.size; simp; omega
        intro g' cp' w9 hown' hgrow _ _
        have HR := mkHid (HR.out.app _ hown' hgrow)
        clear hown' hgrow
        go_wp2
        go_ret
        exact ⟨l ++ [y], g', cp', (by rw [List.length_append]; rfl), by simp <;> omega, HR.out.less (by omega)⟩
      by_cases e1 : q = 1
      · subst e1
        go_wp2_with fail
        refine (pick_any 2 cb n cap (bud + 30) a _ (by omega) HR.out.2.1).mono ?_
        rintro e w3 ⟨s, rfl, s0, s1, hC', hG'⟩
        have HR := mkHid (HR.out.pick hC' hG')
        clear hC' hG' 
        have s2 : s ≤ 1 := by omega
        go_wp2_with (at_builtin; refine wpList_append_lies _ rfl _ _ 28 rfl w.heap.size 3 i0 (.int .i64 0) 1 8 Tryd.underlying28 HI.out.1 HI.out.2.1 HI.out.2.2.1 HI.out.2.2.2 rfl (by decide) _ _ _ rfl (World.ownsRow.alloc HR.out.1 _) ⟨w3.heap.size, 0, none⟩ 1 1 [.int .i64 (1000000 + s)] rfl rfl ?c1d ?c2d (by decide) ?c3d ?c4d ?c5d (w3.heap.size + 1) (by simp) ?_)
        case c1d => exact one_new _ _ _
        case c2d => intro u hu; simp at hu; rcases hu with rfl; rfl
        case c3d => unfold maxLen; omega
        case c4d => omega
        case c5d => have := HR.out.2.2.2.size; simp; omega
        intro g' cp' w9 hown' hgrow _ _
        have HR := mkHid (HR.out.app _ hown' hgrow)
        clear hown' hgrow
        go_wp2
        go_ret
        exact ⟨l ++ [1000000 + s], g', cp', (by rw [List.length_append]; rfl), by simp <;> omega, HR.out.less (by omega)⟩
      by_cases e2 : q = 2
      · subst e2
        go_wp2_with fail
        go_loopw [3, 4] (fun s x v => ∃ (l : List Int) (y : Int) (g cp : Nat), l.length ≤ 21 ∧ s = .slice (some ⟨g, 0, none⟩) l.length cp ∧ x = .int .i64 y ∧ -30 ≤ y ∧ y ≤ 26 * l.length ∧ Row w v g cp l cb n cap (bud + (25 - l.length)) a) (fun s _ _ => 22 - (match s with | .slice _ k _ => k | _ => 0))
        case atStart => exact ⟨l, y, g, cp, by omega, rfl, rfl, by omega, by omega, HR.out.less (by omega)⟩
        case round =>
          clear HR
          obtain ⟨l, y, g, cp, hl, rfl, rfl, y0, y1, hR⟩ := hrel
          have HR := mkHid hR
          clear hR
          go_wp2_with fail
          refine (pick_any 2 cb n cap (bud + (24 - l.length)) a _ (by omega) (HR.out.2.1.less (by omega))).mono ?_
          rintro e w4 ⟨q, rfl, q0, q1, hC', hG'⟩
          have HR := mkHid (HR.out.pick hC' hG')
          clear hC' hG' 
          have q2 : q ≤ 1 := by omega
          by_cases hc : (l.length : Int) < 20 + q
          · go_wp2_with (at_builtin; refine wpList_append_lies _ rfl _ _ 28 rfl w.heap.size 3 i0 (.int .i64 0) 1 8 Tryd.underlying28 HI.out.1 HI.out.2.1 HI.out.2.2.1 HI.out.2.2.2 rfl (by decide) _ _ _ rfl (World.ownsRow.alloc HR.out.1 _) ⟨w4.heap.size, 0, none⟩ 1 1 [.int .i64 (y + 1)] rfl rfl ?c1a ?c2a (by decide) ?c3a ?c4a ?c5a (w4.heap.size + 1) (by simp) ?_)
            case c1a => exact one_new _ _ _
            case c2a => intro u hu; simp at hu; rcases hu with rfl; rfl
            case c3a => unfold maxLen; omega
            case c4a => omega
            case c5a => have := HR.out.2.2.2.size; simp; omega
            intro g' cp' w9 hown' hgrow _ _
            have HR := mkHid (HR.out.app _ hown' hgrow)
            clear hown' hgrow
            go_wp2
            go_roundw
            case rel => exact ⟨l ++ [y + 1], y + 1, g', cp', by simp <;> omega, by simp, rfl, by omega, by simp <;> omega, HR.out.less (by simp <;> omega)⟩
            case measure => simp; omega
          · go_wp2
            go_ret
            exact ⟨_, _, _, rfl, by omega, HR.out.less (by omega)⟩
      go_wp2
      go_ret
      exact ⟨_, _, _, rfl, by omega, HR.out.less (by omega)⟩
end Go.Proofs.YtgkmpadeleebdaaDoor.Q
