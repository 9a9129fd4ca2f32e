/-
  CONTRACT of the specification's l12Copy.
-/
import Derived.Test.YtodjmpocpfkpaaaGreatKc31
import Derived.Test.YtodjmpocpfkpaaaGreatKc33
import Derived.Test.YtodjmpocpfkpaaaGreatKc35
import Derived.Test.YtodjmpocpfkpaaaGreatKc17
namespace Go.Proofs.YtodjmpocpfkpaaaGreat
open Go.RowKit

theorem tidyR_slen : ∀ (B : List (List Y)) (V : List VV) (M : List Bool) (v : VV) (mb : Bool), (tidyR v mb B V M).1.length ≤ B.length
  | [], _, _, _, _ => by simp [tidyR]
  | _ :: _, [], _, _, _ => by simp [tidyR]
  | _ :: _, _ :: _, [], _, _ => by simp [tidyR]
  | b :: B, x :: V, m :: M, v, mb => by
    unfold tidyR
    split
    · have h := tidyR_slen B V M (jv v x) (mb && m)
      simp only [List.length_cons]
      omega
    · have h := tidyR_slen B V M noneV true
      simp only [List.length_cons]
      omega
/-- A row of rows of one's own: one of them is put anew. -/
theorem OwnYY.put {wr vb : World} {base g cap i : Nat} {ls : List (List Y)} {sl : Value} {T : List Y} (h : OwnYY wr base (.slice (some ⟨g, 0, none⟩) ls.length cap) ls) (hb : Below wr.heap.size wr vb) (hB : base ≤ wr.heap.size) (ho : Own eY 65 vb wr.heap.size sl T) :
    OwnYY (vb.setCell ⟨g, i, none⟩ sl) base (.slice (some ⟨g, 0, none⟩) ls.length cap) (ls.set i T) := by
  obtain ⟨vs, h1, h2⟩ := h
  have h3 := (World.ownsRow.stored (owns_below h1 hb) i sl).1
  obtain ⟨cur, hg⟩ := owns_block (owns_below h1 hb) (q := g) rfl
  have hK : ∀ {v : Value} {l : List Y}, Own eY 65 vb base v l → Own eY 65 (vb.setCell ⟨g, i, none⟩ sl) base v l := fun h => h.keptT (Only.set vb g i sl) (fun q c e => by cases e; exact not_typ ⟨_, hg⟩ (by decide) c)
  refine ⟨vs.set i sl, by rw [List.length_set]; exact h3, by simp [h2.1], fun j v l hv hl => ?_, fun j k v u q hv hu h4 h5 => ?_⟩
  · rw [List.getElem?_set] at hv hl
    by_cases e : i = j
    · rw [if_pos e] at hv hl
      split at hv
      · split at hl
        · cases hv; cases hl; exact hK (ho.mono hB)
        · cases hl
      · cases hv
    · rw [if_neg e] at hv hl
      exact hK ((h2.2.1 j v l hv hl).below hb)
  · rw [List.getElem?_set] at hv hu
    by_cases e1 : i = j
    · by_cases e2 : i = k
      · omega
      · rw [if_pos e1] at hv
        rw [if_neg e2] at hu
        split at hv
        · cases hv
          have := (ho.lt h4).1
          have := (h2.lt hu h5).2
          omega
        · cases hv
    · by_cases e2 : i = k
      · rw [if_neg e1] at hv
        rw [if_pos e2] at hu
        split at hu
        · cases hu
          have := (ho.lt h5).1
          have := (h2.lt hv h4).2
          omega
        · cases hu
      · rw [if_neg e1] at hv
        rw [if_neg e2] at hu
        exact h2.2.2 j k v u q hv hu h4 h5
/-- The answer in the making: its bounds are B. -/
structure CsI (w wr : World) (base X X3 g : Nat) (A : SAd) (S1 : SG) (B : List (List Y)) : Prop where
  b : OwnYY wr base (.slice (some ⟨g, 0, none⟩) B.length A.c0) B
  v : Own eV 71 wr base (.slice A.a1 S1.V.length A.c1) S1.V
  m : Own eB 4 wr base (.slice A.a2 S1.M.length A.c2) S1.M
  x3 : wr.heap[X3]? = some (.cells #[.slice A.a0 S1.B.length A.c0, .slice A.a1 S1.V.length A.c1, .slice A.a2 S1.M.length A.c2] 31 (0, 0))
  r : G3 wr (X + 1) (.slice none 0 0) (.slice none 0 0) (.slice none 0 0)
  bel : Below w.heap.size w wr
  sz : base ≤ wr.heap.size
theorem CsI.below {w wr v : World} {base X X3 g : Nat} {A : SAd} {S1 : SG} {B : List (List Y)} (h : CsI w wr base X X3 g A S1 B) (hb : Below wr.heap.size wr v) : CsI w v base X X3 g A S1 B :=
  ⟨h.b.below hb, h.v.below hb, h.m.below hb, (hb.block X3 (heap_lt h.x3)).trans h.x3, h.r.below hb, below_step h.bel hb, Nat.le_trans h.sz hb.size⟩
theorem CsI.put {w wr vb : World} {base X X3 g i : Nat} {A : SAd} {S1 : SG} {B : List (List Y)} {sl : Value} {T : List Y} (h : CsI w wr base X X3 g A S1 B) (hX : X + 1 < base) (hw : w.heap.size ≤ base) (hb : Below wr.heap.size wr vb) (ho : Own eY 65 vb wr.heap.size sl T) : CsI w (vb.setCell ⟨g, i, none⟩ sl) base X X3 g A S1 (B.set i T) := by
  obtain ⟨cur, hg⟩ : ∃ cur, vb.heap[g]? = some (.cells cur 63 (0, 0)) := by obtain ⟨vs, h1, _⟩ := h.b; exact owns_block (owns_below h1 hb) (q := g) rfl
  have hlo : base ≤ g := by obtain ⟨vs, h1, _⟩ := h.b; exact (World.ownsRow.lt h1 g rfl).1
  have hO := Only.set vb g i sl
  have hk := h.below hb
  refine ⟨by rw [List.length_set]; exact h.b.put hb h.sz ho, hk.v.keptT hO (fun q c e => by cases e; exact not_typ ⟨_, hg⟩ (by decide) c), hk.m.keptT hO (fun q c e => by cases e; exact not_typ ⟨_, hg⟩ (by decide) c), (hO.block X3 (heap_lt hk.x3) (fun e => by cases e; have := hk.x3; rw [hg] at this; simp at this)).trans hk.x3, ?_, Only.below hk.bel hO (Nat.le_trans h.bel.size hb.size) (Nat.le_trans hw hlo), Nat.le_trans hk.sz hO.size⟩
  exact hk.r.belowAt (B := base) ((Below.refl base vb).setCell (p := ⟨g, i, none⟩) hlo _) hX
/-- A store of what a call has made, in whatever order. -/
structure SiI (wr va : World) (b4 b6 : Bool) (sl : Value) (T : List Y) (g i : Nat) : Prop where
  pre : b6 = false → Below wr.heap.size wr va
  own : b4 = true → b6 = false → Own eY 65 va wr.heap.size sl T
  fin : b6 = true → ∃ vb, Below wr.heap.size wr vb ∧ Own eY 65 vb wr.heap.size sl T ∧ va = vb.setCell ⟨g, i, none⟩ sl
set_option maxRecDepth 100000 in
set_option maxHeartbeats 6400000 in
theorem lCopy_any (n lv v u c : Int) (S : SG) (A0 : SAd) (w : World) (hs : Small S) (hok : OkS n lv S.B S.V S.M) (hm : MvP n lv v u c) (hl : SegAt w A0 S) :
    Calls Tryz.prog 37 #[.int .i64 n, .int .i64 lv, .agg #[.slice A0.a0 S.B.length A0.c0, .slice A0.a1 S.V.length A0.c1, .slice A0.a2 S.M.length A0.c2], .int .i64 v, .int .i64 u, .int .i64 c] w fun e w' => GivesS w w' e (cpS n v u c (dropSG lv (tv v S.B) S)) := by
  obtain ⟨ti, hti, hz⟩ := Option.map_eq_some_iff.1 infoY
  simp only [Prod.mk.injEq] at hz
  obtain ⟨hz0, hz1, hz2⟩ := hz
  have HI := mkHid (show Tryz.prog.info? 65 = some ti ∧ ti.zero = some (.agg #[.int .i64 0, .int .i64 0]) ∧ ti.size = 2 ∧ ti.bytes = 16 from ⟨hti, hz0, hz1, hz2⟩)
  clear hti hz0 hz1 hz2
  have HSM := mkHid hs
  have HOK := mkHid hok
  have HMP := mkHid hm
  obtain ⟨w0, hw0⟩ : ∃ x : World, (w.alloc (.cells #[.slice A0.a0 S.B.length A0.c0, .slice A0.a1 S.V.length A0.c1, .slice A0.a2 S.M.length A0.c2] 31)).alloc (.cells #[.slice none 0 0, .slice none 0 0, .slice none 0 0] 31) = x := ⟨_, rfl⟩
  obtain ⟨X, hX⟩ : ∃ x, w.heap.size = x := ⟨_, rfl⟩
  have HXX := mkHid hX
  have HB : Hid (Below w.heap.size w w0) := mkHid (by rw [← hw0]; exact bl_alloc (bl_alloc (Below.refl _ _) _) _)
  have P0 : Hid (G3 w0 X (.slice A0.a0 S.B.length A0.c0) (.slice A0.a1 S.V.length A0.c1) (.slice A0.a2 S.M.length A0.c2)) := mkHid (by rw [← hw0, ← hX]; exact (G3.new _ _ _ _ _).below (bl_alloc (Below.refl _ _) _))
  have R0 : Hid (G3 w0 (X + 1) (.slice none 0 0) (.slice none 0 0) (.slice none 0 0)) := mkHid (by rw [← hw0, ← hX]; have := G3.new (w.alloc (.cells #[.slice A0.a0 S.B.length A0.c0, .slice A0.a1 S.V.length A0.c1, .slice A0.a2 S.M.length A0.c2] 31)) (.slice none 0 0) (.slice none 0 0) (.slice none 0 0) 31; simpa using this)
  have HZ0 : Hid (w0.heap.size = X + 2) := mkHid (by rw [← hw0, ← hX]; simp)
  have HL := mkHid (hl.below HB.out)
  clear hl hs hok hm
  obtain ⟨q0, q1, q2, _, _, _⟩ := P0.out
  go_enter Tryz.func37, Tryz.ntmps37
  go_wp2_with fail
  clear hw0 hX q0 q1 q2 P0
  refine (lForget_any n lv v S A0 _ HSM.out HOK.out HL.out).mono ?_
  obtain ⟨S1, hS1⟩ : ∃ z, dropSG lv (tv v S.B) S = z := ⟨_, rfl⟩
  have HSF := mkHid hS1
  rw [hS1]
  rintro e w1 ⟨A, rfl, hO, hb⟩
  have hsub := dropSG_sub lv (tv v S.B) S
  rw [hS1] at hsub
  have HTO : Hid (tot S1.B ≤ 40) := mkHid (by have h1 := hsub.1; have h2 := HOK.out.tot; have h3 := tot_flatten S.B; omega)
  have HSY : Hid (∀ b, b ∈ S1.B → ∀ p, p ∈ b → -1000 ≤ p.2 ∧ p.2 ≤ 1000) := mkHid fun b hb p hp => by
    obtain ⟨b', h2, h3⟩ := hsub.2 b hb p hp
    exact ((HOK.out.rows b' h2).sym p h3).2.2
  have HK1 : Hid (1 ≤ S1.B.length ∧ S1.B.length ≤ 1048576) := mkHid (by
    have hd := drop_tidyS lv (tv v S.B) S HOK.out.k1
    rw [hS1] at hd
    rw [hd]
    have h1 := tidyR_slen (S.B.map (outD lv (tv v S.B))).tail S.V S.M noneV true
    have h2 := HOK.out.k2
    show 1 ≤ ((S.B.map (outD lv (tv v S.B))).headD [] :: (tidyR noneV true (S.B.map (outD lv (tv v S.B))).tail S.V S.M).1).length ∧ ((S.B.map (outD lv (tv v S.B))).headD [] :: (tidyR noneV true (S.B.map (outD lv (tv v S.B))).tail S.V S.M).1).length ≤ 1048576
    rw [List.length_tail, List.length_map] at h1
    simp only [List.length_cons]
    omega)
  obtain ⟨bb, hbb⟩ : ∃ g, A.a0 = some ⟨g, 0, none⟩ := by
    obtain ⟨vs, h1, _⟩ := hO.b.own
    obtain ⟨g, cap, e⟩ := World.ownsRow.form h1 HK1.out.1
    simp at e
    exact ⟨g, e.1.1⟩
  obtain ⟨w2, hw2⟩ : ∃ z : World, w1.alloc (.cells #[.slice A.a0 S1.B.length A.c0, .slice A.a1 S1.V.length A.c1, .slice A.a2 S1.M.length A.c2] 31) = z := ⟨_, rfl⟩
  obtain ⟨X3, hX3⟩ : ∃ z, w1.heap.size = z := ⟨_, rfl⟩
  have HB2 : Hid (Below w0.heap.size w0 w2) := mkHid (by rw [← hw2]; exact bl_alloc hb _)
  have HI0 : Hid (CsI w w2 w0.heap.size X X3 bb A S1 S1.B) := mkHid (by
    have hx : Below w1.heap.size w1 w2 := by rw [← hw2]; exact bl_alloc (Below.refl _ _) _
    refine ⟨by rw [← hbb]; exact (hO.b.own).below hx, hO.v.below hx, hO.m.below hx, by rw [← hw2, ← hX3]; exact heap_new _ _ rfl, R0.out.below HB2.out, below_step HB.out HB2.out, HB2.out.size⟩)
  have x0 : w2.cell? ⟨X3, 0, none⟩ = some (.slice (some ⟨bb, 0, none⟩) S1.B.length A.c0) := by have := heap_cell HI0.out.x3 0; simp at this; rw [hbb] at this; exact this
  have HRB : Hid (∀ (z : World) (B : List (List Y)), CsI w z w0.heap.size X X3 bb A S1 B → ∀ (i : Nat) (l : List Y), B[i]? = some l → ∃ ao cap, z.cell? ⟨bb, i, none⟩ = some (.slice ao l.length cap) ∧ At eY z ao l) := mkHid fun z B hz i l h => by
    have h1 := hz.b.at.cons (by have := (List.getElem?_eq_some_iff.1 h).1; omega)
    obtain ⟨_, _, e, hlt, hq⟩ := h1
    cases e
    obtain ⟨ao, cap, h2, h3⟩ := hq i l h
    rw [Nat.zero_add] at h2
    exact ⟨ao, cap, h2, h3⟩
  have HBB := mkHid hbb
  clear hO hb hsub hS1 HL hbb
  go_wp2
  clear hw2 hX3
  have hk1 := HK1.out
  have hto := HTO.out
  go_loopg [14, 15] S1.B.length (fun g s14 s15 z => ∃ (i : Nat), i ≤ S1.B.length ∧ s15 = .int .i64 i ∧ S1.B.length - i ≤ g ∧ s14 = .int .i64 (tot (S1.B.take i) : Nat) ∧ z = w2)
  case atStart => exact ⟨0, Nat.zero_le _, rfl, by omega, rfl, rfl⟩
  case round =>
    obtain ⟨i, hi, rfl, hg, rfl, rfl⟩ := hrel
    obtain ⟨tt, htt⟩ : ∃ z, tot (S1.B.take i) = z := ⟨_, rfl⟩
    have htl : tt ≤ 40 := by rw [← htt]; exact Nat.le_trans (tot_take_le _ _) hto
    rw [htt]
    have HTT := mkHid htt
    clear htt
    by_cases hlt : i < S1.B.length
    · obtain ⟨l, hlx⟩ : ∃ l, S1.B[i]? = some l := ⟨_, List.getElem?_eq_getElem hlt⟩
      obtain ⟨ao, cap, e0, _⟩ := HRB.out _ _ HI0.out i l hlx
      have HT2 : Hid (tot (S1.B.take (i + 1)) = tt + l.length) := mkHid (by rw [tot_take_succ hlx, HTT.out])
      have hl40 : l.length ≤ 40 := Nat.le_trans (tot_get hlx) hto
      have i0 : (0 : Int) ≤ (i : Int) := by omega
      have i1 : (i : Int) < (S1.B.length : Int) := by omega
      clear hlx
      go_wp2
      clear e0
      go_roundg (S1.B.length - (i + 1))
      case measure => omega
      case rel => exact ⟨i + 1, by omega, by go_num, Nat.le_refl _, by rw [HT2.out]; go_num, rfl⟩
    have i1 : ¬ (i : Int) < (S1.B.length : Int) := by omega
    have HTA : Hid (tt = tot S1.B) := mkHid (by rw [← HTT.out, List.take_of_length_le (by omega)])
    obtain ⟨ro, hro⟩ : ∃ z : Int, 40 - (tot S1.B : Int) = z := ⟨_, rfl⟩
    have HRO := mkHid hro
    have hrb : 0 ≤ ro ∧ ro ≤ 40 := by omega
    have HCP : Hid (∀ j l, S1.B[j]? = some l → cpB n v u c ro (S1.B.take (j + 1)) = cpB n v u c ro (S1.B.take j) ++ [setY (l ++ (addC n v u c (leftC n v u c ro (S1.B.take j)) l).1)] ∧ leftC n v u c ro (S1.B.take (j + 1)) = (addC n v u c (leftC n v u c ro (S1.B.take j)) l).2) := mkHid fun j l h => by
      obtain ⟨hj, rfl⟩ := List.getElem?_eq_some_iff.1 h
      rw [List.take_succ_eq_append_getElem hj, cpB_app, leftC_app]
      exact ⟨rfl, rfl⟩
    clear hro
    go_wp2
    clear x0
    go_loopg [14, 16] S1.B.length (fun g s14 s16 z => ∃ (i : Nat), i ≤ S1.B.length ∧ s16 = .int .i64 i ∧ S1.B.length - i ≤ g ∧ s14 = .int .i64 (40 - leftC n v u c ro (S1.B.take i)) ∧ CsI w z w0.heap.size X X3 bb A S1 (cpB n v u c ro (S1.B.take i) ++ S1.B.drop i))
    case atStart => exact ⟨0, Nat.zero_le _, rfl, by omega, by rw [HTA.out]; show Value.int .i64 _ = .int .i64 (40 - ro); rw [← HRO.out]; congr 1; omega, HI0.out⟩
    case round =>
      clear HI0
      obtain ⟨i, hi, rfl, hg, rfl, hI⟩ := hrel
      have hib : i ≤ 1048576 := by omega
      obtain ⟨B, hB⟩ : ∃ z, cpB n v u c ro (S1.B.take i) ++ S1.B.drop i = z := ⟨_, rfl⟩
      rw [hB] at hI
      have HBQ := mkHid hB
      have HBL : Hid (B.length = S1.B.length) := mkHid (by rw [← hB, List.length_append, (cpB_len n v u c ro _).1]; simp; omega)
      have HII := mkHid hI
      have x0 : wr.cell? ⟨X3, 0, none⟩ = some (.slice (some ⟨bb, 0, none⟩) S1.B.length A.c0) := by have := heap_cell hI.x3 0; simp at this; rw [HBB.out] at this; exact this
      obtain ⟨r0, hr0⟩ : ∃ z, leftC n v u c ro (S1.B.take i) = z := ⟨_, rfl⟩
      have hrd := leftC_le n v u c ro (S1.B.take i)
      have htk := tot_take_le S1.B i
      rw [hr0] at hrd ⊢
      have hrr : -40 ≤ r0 ∧ r0 ≤ 40 := by omega
      have HR0 := mkHid hr0
      clear hr0 hB hrd htk
      by_cases hlt : i < S1.B.length
      · obtain ⟨l, hlx⟩ : ∃ l, S1.B[i]? = some l := ⟨_, List.getElem?_eq_getElem hlt⟩
        have hlB : B[i]? = some l := by
          rw [← HBQ.out, List.getElem?_append_right (by rw [(cpB_len n v u c ro _).1]; simp; omega), (cpB_len n v u c ro _).1, List.getElem?_drop]
          rw [← hlx]
          congr 1
          simp
          omega
        obtain ⟨ao, cap, e0, hat⟩ := HRB.out _ _ hI i l hlB
        have HCI := mkHid (HCP.out i l hlx)
        have hl40 : l.length ≤ 40 := Nat.le_trans (tot_get hlx) hto
        have HSX := mkHid (HSY.out l (List.mem_of_getElem? hlx))
        have HAT := mkHid hat
        have i0 : (0 : Int) ≤ (i : Int) := by omega
        have i1 : (i : Int) < (S1.B.length : Int) := by omega
        have HFN : Hid (Own eY 65 (wr.alloc (.cells #[] 65)) wr.heap.size (.slice (some ⟨wr.heap.size, 0, none⟩) 0 0) []) := mkHid (fresh_y (Nat.le_refl _) (by have := heap_alloc_new wr (.cells #[] 65); simpa using this))
        have HAW : Hid (At eY (wr.alloc (.cells #[] 65)) ao l) := mkHid (hat.below (bl_alloc (Below.refl _ _) _))
        clear hlx hlB hat hI
        go_wp2_with (at_builtin; refine append_y _ rfl _ _ rfl wr.heap.size wr.heap.size 0 0 [] rfl rfl HFN.out ao cap l.length l rfl rfl HAW.out (by omega) (by simp) ?_)
        intro g1 c1 w5 hown1 hgr1
        have O5 := mkHid hown1
        have HB5 : Hid (Below wr.heap.size wr w5) := mkHid (((Below.refl _ _).alloc (Nat.le_refl _) _).grown hgr1 (by simp) (fun q e => by cases e; exact Nat.le_refl _))
        clear hown1 hgr1 HFN HAW e0 x0
        obtain ⟨wo, hwo⟩ : ∃ x, x = wr := ⟨_, rfl⟩
        subst hwo
        go_wp2
        go_loopg [14, 18, 19] l.length (fun g s14 s18 s19 z => ∃ (j g2 cc : Nat), j ≤ l.length ∧ s19 = .int .i64 j ∧ l.length - j ≤ g ∧ s14 = .int .i64 (40 - (addC n v u c r0 (l.take j)).2) ∧ s18 = .slice (some ⟨g2, 0, none⟩) (l ++ (addC n v u c r0 (l.take j)).1).length cc ∧ Own eY 65 z wo.heap.size (.slice (some ⟨g2, 0, none⟩) (l ++ (addC n v u c r0 (l.take j)).1).length cc) (l ++ (addC n v u c r0 (l.take j)).1) ∧ Below wo.heap.size wo z)
        case atStart => exact ⟨0, g1, c1, Nat.zero_le _, rfl, by omega, rfl, by simp [addC], by simpa [addC] using O5.out, HB5.out⟩
        case round =>
          clear O5 HB5
          obtain ⟨j, g2, cc, hj, rfl, hgj, rfl, rfl, hown, hbel⟩ := hrel
          obtain ⟨M, hM⟩ : ∃ z, l ++ (addC n v u c r0 (l.take j)).1 = z := ⟨_, rfl⟩
          obtain ⟨r1, hr1⟩ : ∃ z, (addC n v u c r0 (l.take j)).2 = z := ⟨_, rfl⟩
          have hlen := addC_len n v u c r0 (l.take j)
          have hlt0 : (l.take j).length ≤ 40 := by rw [List.length_take]; omega
          have hml : M.length ≤ 80 := by rw [← hM, List.length_append]; omega
          rw [hr1] at hlen
          rw [hM] at hown ⊢
          rw [hr1]
          have hr1b : -80 ≤ r1 ∧ r1 ≤ 40 := by omega
          obtain ⟨mm, hmm⟩ : ∃ z, M.length = z := ⟨_, rfl⟩
          rw [hmm] at hown hml ⊢
          obtain ⟨al, hal⟩ : ∃ z : Int, 40 - r1 = z := ⟨_, rfl⟩
          rw [hal]
          have hal2 : 0 ≤ al ∧ al ≤ 120 := by omega
          have HAL := mkHid hal
          have HM := mkHid hM
          have HR1 := mkHid hr1
          have HMM := mkHid hmm
          have HOW := mkHid hown
          have HBE := mkHid hbel
          clear hM hr1 hlen hown hmm hlt0 hal
          by_cases hlt2 : j < l.length
          · obtain ⟨x, hx⟩ : ∃ x, l[j]? = some x := ⟨_, List.getElem?_eq_getElem hlt2⟩
            obtain ⟨b, off, hab, hbl, hq⟩ := (HAT.out.below hbel).cons (by omega)
            subst hab
            obtain ⟨c0, c1⟩ := get_y hq hx
            have HX := mkHid hx
            have hxb := HSX.out x (List.mem_of_getElem? hx)
            have hpc := HMP.out.pc
            have j0 : (0 : Int) ≤ (j : Int) := by omega
            have j1 : (j : Int) < (l.length : Int) := by omega
            obtain ⟨z, hz⟩ : ∃ z, x.2 - c = z := ⟨_, rfl⟩
            have hwz : IntKind.i64.wrap (x.2 - c) = z := by rw [IntWalk.i64_in _ (by omega)]; exact hz
            have HZZ := mkHid hz
            clear hq hx hbel hxb hpc hz
            obtain ⟨w6, hw6⟩ : ∃ y : World, wr.alloc (.cells #[.int .i64 v, .int .i64 z] 65) = y := ⟨_, rfl⟩
            obtain ⟨Z, hZ⟩ : ∃ y, wr.heap.size = y := ⟨_, rfl⟩
            have HB6 : Hid (Below wr.heap.size wr w6) := mkHid (by rw [← hw6]; exact bl_alloc (Below.refl _ _) _)
            have f0 : w6.cell? ⟨Z, 0, none⟩ = some (.int .i64 v) := by rw [← hw6, ← hZ]; simp [go_sem]
            have f1 : w6.cell? ⟨Z, 1, none⟩ = some (.int .i64 z) := by rw [← hw6, ← hZ]; simp [go_sem]
            have d0 := ((bcell HB6.out).1 _ _ hbl).trans c0
            have d1 := ((bcell HB6.out).1 _ _ hbl).trans c1
            have hZl : Z < w6.heap.size := World.block_lt_of_cell? w6 _ f0
            by_cases h1 : x.1 = u
            · have hb1 : (x.1 == u) = true := beq_iff_eq.2 h1
              clear h1
              go_wp2_with fail
              clear hw6 hZ c0 c1 d0 d1
              refine (sSymOk_any n v z _).mono ?_
              rintro e w7 ⟨rfl, hb⟩
              have f0 := ((bcell hb).1 _ _ hZl).trans f0
              have f1 := ((bcell hb).1 _ _ hZl).trans f1
              have BE7 := mkHid (below_step (below_step HBE.out HB6.out) hb)
              have O7 := mkHid ((HOW.out.below HB6.out).below hb)
              have hsz7 := BE7.out.size
              clear hb HB6 HOW HBE hZl hbl
              cases h2 : symOkB n v z
              · have HE : Hid (addC n v u c r0 (l.take (j + 1)) = addC n v u c r0 (l.take j)) := mkHid (by rw [addC_next HX.out, if_neg]; unfold adds; rw [HZZ.out, h2]; simp)
                go_wp2
                clear f0 f1
                go_roundg (l.length - (j + 1))
                case measure => omega
                case rel => exact ⟨j + 1, g2, cc, by omega, by go_num, Nat.le_refl _, by rw [HE.out, HR1.out, HAL.out], by rw [HE.out, HM.out, HMM.out], by rw [HE.out, HM.out, HMM.out]; exact O7.out, BE7.out⟩
              · by_cases h3 : al < 40
                · have HE : Hid ((addC n v u c r0 (l.take (j + 1))).2 = r1 - 1 ∧ l ++ (addC n v u c r0 (l.take (j + 1))).1 = M ++ [(v, z)]) := mkHid (by
                    have h0 : 0 < r1 := by have := HAL.out; omega
                    rw [addC_next HX.out, if_pos (by unfold adds; rw [HZZ.out, h2, hb1, HR1.out]; simp [h0])]
                    exact ⟨by rw [HR1.out], by simp only; rw [← List.append_assoc, HM.out, HZZ.out]⟩)
                  have HO4 : Hid (w7.ownsRow wo.heap.size 65 2 (.slice (some ⟨g2, 0, none⟩) mm cc) mm (eY.flat M)) := mkHid (by have h := O7.out; unfold Own at h; rw [HMM.out] at h; exact h)
                  go_wp2_with (at_builtin; refine wpList_append_lies _ rfl _ _ 63 rfl wo.heap.size 65 ti (.agg #[.int .i64 0, .int .i64 0]) 2 16 Tryz.underlying63 HI.out.1 HI.out.2.1 HI.out.2.2.1 HI.out.2.2.2 rfl (by decide) _ _ _ rfl (World.ownsRow.alloc HO4.out _) ⟨w7.heap.size, 0, none⟩ 1 1 [.int .i64 v, .int .i64 z] rfl rfl ?c1 ?c2 (by decide) ?c3 ?c4 ?c5 (w7.heap.size + 1) (by simp) ?_)
                  case c1 => exact two_new _ _ _ _
                  case c2 => first | rfl | (intro u hu; simp at hu; rcases hu with rfl | rfl <;> rfl) | exact ⟨rfl, rfl⟩
                  case c3 => unfold maxLen; omega
                  case c4 => omega
                  case c5 => first | omega | (simp; omega)
                  intro g' c' w8 hown' hgrow hat' _
                  have HK1 : Hid ((M ++ [(v, z)]).length = mm + 1) := mkHid (by rw [List.length_append, HMM.out]; rfl)
                  have O8 : Hid (Own eY 65 w8 wo.heap.size (.slice (some ⟨g', 0, none⟩) (mm + 1) c') (M ++ [(v, z)])) := mkHid (by
                    unfold Own
                    rw [HK1.out, El.flat_app]
                    exact hown')
                  have BE8 : Hid (Below wo.heap.size wo w8) := mkHid ((BE7.out.alloc BE7.out.size _).grown hgrow (by simp; omega) (fun q hq => by have := (World.ownsRow.lt HO4.out q hq).1; omega))
                  clear hown' hgrow hat' f0 f1
                  go_wp2
                  go_roundg (l.length - (j + 1))
                  case measure => omega
                  case rel => exact ⟨j + 1, g', c', by omega, by go_num, Nat.le_refl _, by rw [HE.out.1]; have := HAL.out; congr 1; omega, by rw [HE.out.2, HK1.out], by rw [HE.out.2, HK1.out]; exact O8.out, BE8.out⟩
                · have HE : Hid (addC n v u c r0 (l.take (j + 1)) = addC n v u c r0 (l.take j)) := mkHid (by
                    have h0 : ¬ 0 < r1 := by have := HAL.out; omega
                    rw [addC_next HX.out, if_neg]; unfold adds; rw [HR1.out]; simp [h0])
                  go_wp2
                  clear f0 f1
                  go_roundg (l.length - (j + 1))
                  case measure => omega
                  case rel => exact ⟨j + 1, g2, cc, by omega, by go_num, Nat.le_refl _, by rw [HE.out, HR1.out, HAL.out], by rw [HE.out, HM.out, HMM.out], by rw [HE.out, HM.out, HMM.out]; exact O7.out, BE7.out⟩
            · have hb1 : (x.1 == u) = false := beq_eq_false_iff_ne.2 h1
              have HE : Hid (addC n v u c r0 (l.take (j + 1)) = addC n v u c r0 (l.take j)) := mkHid (by rw [addC_next HX.out, if_neg]; unfold adds; rw [hb1]; simp)
              have BE7 := mkHid (below_step HBE.out HB6.out)
              have O7 := mkHid (HOW.out.below HB6.out)
              clear h1
              go_wp2
              clear f0 f1 hw6 hZ c0 c1 d0 d1
              go_roundg (l.length - (j + 1))
              case measure => omega
              case rel => exact ⟨j + 1, g2, cc, by omega, by go_num, Nat.le_refl _, by rw [HE.out, HR1.out, HAL.out], by rw [HE.out, HM.out, HMM.out], by rw [HE.out, HM.out, HMM.out]; exact O7.out, BE7.out⟩
          · have j1 : ¬ (j : Int) < (l.length : Int) := by omega
            have el : l.take j = l := List.take_of_length_le (by omega)
            have HMF : Hid (l ++ (addC n v u c r0 l).1 = M ∧ (addC n v u c r0 l).2 = r1) := mkHid ⟨by rw [← HM.out, el], by rw [← HR1.out, el]⟩
            obtain ⟨Ts, hTs⟩ : ∃ z, setY M = z := ⟨_, rfl⟩
            have HTS := mkHid hTs
            have hsort : ∀ z, Below wr.heap.size wr z → Calls Tryz.prog 57 #[.slice (some ⟨g2, 0, none⟩) mm cc] z fun e w' => Below z.heap.size z w' ∧ ∃ (g c : Nat), e = .returned (.slice (some ⟨g, 0, none⟩) Ts.length c) ∧ Own eY 65 w' z.heap.size (.slice (some ⟨g, 0, none⟩) Ts.length c) Ts := fun z hz => by
              have h := sSort_any M (some ⟨g2, 0, none⟩) cc z (by rw [HMM.out]; omega) (HOW.out.below hz).at
              rw [HMM.out, hTs] at h
              exact h
            have hx3 : ∀ z, Below wr.heap.size wr z → z.cell? ⟨X3, 0, none⟩ = some (.slice (some ⟨bb, 0, none⟩) S1.B.length A.c0) := fun z hz => by
              have := heap_cell (HII.out.below (below_step HBE.out hz)).x3 0
              simp at this
              rw [HBB.out] at this
              exact this
            have hbi : ∀ z, Below wr.heap.size wr z → (∃ u0, z.cell? ⟨bb, i, none⟩ = some u0) ∧ z.frozen? ⟨bb, i, none⟩ = false := fun z hz => by
              have hk := HII.out.below (below_step HBE.out hz)
              obtain ⟨vs, h1, _⟩ := hk.b
              have hi : i < B.length := by rw [HBL.out]; exact hlt
              have h2 := World.ownsRow.cellAt h1 i (by omega)
              refine ⟨⟨_, h2.trans (List.getElem?_eq_getElem (by have := h1.1; omega))⟩, World.ownsRow.frozenAt h1 i⟩
            have HCF : Hid (∀ va, (∃ g c, SiI wr va true true (.slice (some ⟨g, 0, none⟩) Ts.length c) Ts bb i) → CsI w va w0.heap.size X X3 bb A S1 (cpB n v u c ro (S1.B.take (i + 1)) ++ S1.B.drop (i + 1))) := mkHid fun va ⟨g, c', h⟩ => by
              obtain ⟨vb, h1, h2, rfl⟩ := h.fin rfl
              have hk := (HII.out.below HBE.out).put (by have := HZ0.out; omega) HB.out.size h1 h2 (i := i)
              have e : B.set i Ts = cpB n v u c ro (S1.B.take (i + 1)) ++ S1.B.drop (i + 1) := by
                rw [HCI.out.1, HR0.out, HMF.out.1, HTS.out, ← HBQ.out]
                have hlc : (cpB n v u c ro (S1.B.take i)).length = i := by rw [(cpB_len n v u c ro _).1]; simp; omega
                have e2 : (S1.B.drop i).set 0 Ts = Ts :: S1.B.drop (i + 1) := by rw [List.drop_eq_getElem_cons hlt]; rfl
                rw [List.set_append_right _ _ (by omega), hlc, Nat.sub_self, e2]
                simp
              rw [← e]
              exact hk
            have HDE : Hid (40 - leftC n v u c ro (S1.B.take (i + 1)) = al) := mkHid (by rw [HCI.out.2, HR0.out, HMF.out.2]; exact HAL.out)
            have k0 : (0 : Int) ≤ (i : Int) := by omega
            have k1 : (i : Int) < (S1.B.length : Int) := by omega
            clear el hbel hTs
            go_wp2_with fail
            refine wp_region_inv2 (fun zA0 L zA va => ∃ (zB : Nat → Bool) (zS : Nat → Value) (gg : Nat) (cg : Nat), L = #[zB 0, zB 1, zB 2, zB 3, zB 4, zB 5, zB 6] ∧ zA = puts zA0 [(92, zS 92), (93, zS 93), (94, zS 94), (95, zS 95), (96, zS 96), (97, zS 97)] ∧ ((zB 0 = true → zS 92 = .pointer (some ⟨X3, 0, none⟩)) ∧ (zB 1 = true → zS 93 = .slice (some ⟨bb, 0, none⟩) S1.B.length A.c0) ∧ (zB 2 = true → zS 94 = .int .i64 (i : Int)) ∧ (zB 3 = true → zS 95 = .slice (some ⟨g2, 0, none⟩) mm cc) ∧ (zB 4 = true → zS 96 = .slice (some ⟨gg, 0, none⟩) Ts.length cg) ∧ (zB 5 = true → zS 97 = .pointer (some ⟨bb, i, none⟩))) ∧ (SiI wr va (zB 4) (zB 6) (.slice (some ⟨gg, 0, none⟩) Ts.length cg) Ts bb i ∧ ((zB 6) = true → (zB 1) = true ∧ (zB 4) = true) ∧ ((zB 5) = true → (zB 1) = true))) (by kernel_rfl) ?_ ?_ ?_
            · exact ⟨fun _ => false, fun zd => if zd = 97 then u97 else if zd = 96 then u96 else if zd = 95 then u95 else if zd = 94 then u94 else if zd = 93 then u93 else if zd = 92 then u92 else undef, 0, 0, rfl, by kernel_rfl, ⟨fun e => ft e, fun e => ft e, fun e => ft e, fun e => ft e, fun e => ft e, fun e => ft e⟩, ⟨⟨fun _ => (Below.refl _ _).drew, fun e => ft e, fun e => ft e⟩, fun e => ft e, fun e => ft e⟩⟩
            · refine StepsI.cons rfl ?_ ?_
              · rintro L zA va ⟨zB, zS, gg, cg, rfl, rfl, hF, hW⟩ hL hm K hK
                have hb0 : zB 0 = false := by simpa using hL
                clear hL hm
                simp only [puts, Act.put, List.setIfInBounds_toArray, List.set_cons_zero, List.set_cons_succ]
                have HWz := mkHid hW
                clear hW
                go_simp
                have hW := HWz.out
                clear HWz
                exact hK.out _ _ ⟨fun zj => if zj = 0 then true else zB zj, fun zd => if zd = 92 then .pointer (some ⟨X3, 0, none⟩) else zS zd, gg, cg, rfl, by kernel_rfl, ⟨fun _ => rfl, hF.2.1, hF.2.2.1, hF.2.2.2.1, hF.2.2.2.2.1, hF.2.2.2.2.2⟩, hW⟩
              refine StepsI.cons rfl ?_ ?_
              · rintro L zA va ⟨zB, zS, gg, cg, rfl, rfl, hF, hW⟩ hL hm K hK
                have hb1 : zB 1 = false := by simpa using hL
                have hb0 : zB 0 = true := by cases e : zB 0 with | false => (exfalso; revert hm; simp [metB, Region.binds, e]) | true => rfl
                have e0 : zS 92 = .pointer (some ⟨X3, 0, none⟩) := hF.1 hb0
                clear hL hm
                rw [hb1] at hW
                simp only [puts, Act.put, List.setIfInBounds_toArray, List.set_cons_zero, List.set_cons_succ]
                simp only [e0]
                have h6 : zB 6 = false := by cases e : zB 6 with | false => rfl | true => exact ft (hW.2.1 e).1
                have q0 := hx3 _ (hW.1.pre h6)
                have HWz := mkHid hW
                clear hW
                go_simp
                have hW := HWz.out
                clear HWz
                exact hK.out _ _ ⟨fun zj => if zj = 0 then true else if zj = 1 then true else zB zj, fun zd => if zd = 93 then .slice (some ⟨bb, 0, none⟩) S1.B.length A.c0 else if zd = 92 then .pointer (some ⟨X3, 0, none⟩) else zS zd, gg, cg, by simp [hb0], by kernel_rfl, ⟨fun _ => rfl, fun _ => rfl, hF.2.2.1, hF.2.2.2.1, hF.2.2.2.2.1, hF.2.2.2.2.2⟩, ⟨hW.1, fun e => ⟨rfl, (hW.2.1 e).2⟩, fun _ => rfl⟩⟩
              refine StepsI.cons rfl ?_ ?_
              · rintro L zA va ⟨zB, zS, gg, cg, rfl, rfl, hF, hW⟩ hL hm K hK
                have hb2 : zB 2 = false := by simpa using hL
                clear hL hm
                simp only [puts, Act.put, List.setIfInBounds_toArray, List.set_cons_zero, List.set_cons_succ]
                have HWz := mkHid hW
                clear hW
                go_simp
                have hW := HWz.out
                clear HWz
                exact hK.out _ _ ⟨fun zj => if zj = 2 then true else zB zj, fun zd => if zd = 94 then .int .i64 (i : Int) else zS zd, gg, cg, rfl, by kernel_rfl, ⟨hF.1, hF.2.1, fun _ => rfl, hF.2.2.2.1, hF.2.2.2.2.1, hF.2.2.2.2.2⟩, hW⟩
              refine StepsI.cons rfl ?_ ?_
              · rintro L zA va ⟨zB, zS, gg, cg, rfl, rfl, hF, hW⟩ hL hm K hK
                have hb3 : zB 3 = false := by simpa using hL
                clear hL hm
                simp only [puts, Act.put, List.setIfInBounds_toArray, List.set_cons_zero, List.set_cons_succ]
                have HWz := mkHid hW
                clear hW
                go_simp
                have hW := HWz.out
                clear HWz
                exact hK.out _ _ ⟨fun zj => if zj = 3 then true else zB zj, fun zd => if zd = 95 then .slice (some ⟨g2, 0, none⟩) mm cc else zS zd, gg, cg, rfl, by kernel_rfl, ⟨hF.1, hF.2.1, hF.2.2.1, fun _ => rfl, hF.2.2.2.2.1, hF.2.2.2.2.2⟩, hW⟩
              refine StepsI.cons rfl ?_ ?_
              · rintro L zA va ⟨zB, zS, gg, cg, rfl, rfl, hF, hW⟩ hL hm K hK
                have hb4 : zB 4 = false := by simpa using hL
                have hb3 : zB 3 = true := by cases e : zB 3 with | false => (exfalso; revert hm; simp [metB, Region.binds, e]) | true => rfl
                have e3 : zS 95 = .slice (some ⟨g2, 0, none⟩) mm cc := hF.2.2.2.1 hb3
                clear hL hm
                rw [hb4] at hW
                simp only [puts, Act.put, List.setIfInBounds_toArray, List.set_cons_zero, List.set_cons_succ]
                simp only [e3]
                have h6 : zB 6 = false := by cases e : zB 6 with | false => rfl | true => exact ft (hW.2.1 e).2
                have HWz := mkHid hW
                clear hW
                go_simp
                have hW := HWz.out
                clear HWz
                refine (hsort _ (hW.1.pre h6)).mono ?_
                rintro e va2 ⟨hb, g9, c9, rfl, hown⟩
                have HWz := mkHid hW
                clear hW
                go_wp2_with fail
                have hW := HWz.out
                clear HWz
                exact hK.out _ _ ⟨fun zj => if zj = 3 then true else if zj = 4 then true else zB zj, fun zd => if zd = 96 then .slice (some ⟨g9, 0, none⟩) Ts.length c9 else if zd = 95 then .slice (some ⟨g2, 0, none⟩) mm cc else zS zd, g9, c9, by simp [hb3], by kernel_rfl, ⟨hF.1, hF.2.1, hF.2.2.1, fun _ => rfl, fun _ => rfl, hF.2.2.2.2.2⟩, ⟨⟨fun _ => below_step (hW.1.pre h6) hb, fun _ _ => hown.mono (hW.1.pre h6).size, fun e => ft (h6.symm.trans e)⟩, fun e => ft (h6.symm.trans e), hW.2.2⟩⟩
              refine StepsI.cons rfl ?_ ?_
              · rintro L zA va ⟨zB, zS, gg, cg, rfl, rfl, hF, hW⟩ hL hm K hK
                have hb5 : zB 5 = false := by simpa using hL
                have hb1 : zB 1 = true := by cases e : zB 1 with | false => (exfalso; revert hm; simp [metB, Region.binds, e]) | true => rfl
                have hb2 : zB 2 = true := by cases e : zB 2 with | false => (exfalso; revert hm; simp [metB, Region.binds, e]) | true => rfl
                have e1 : zS 93 = .slice (some ⟨bb, 0, none⟩) S1.B.length A.c0 := hF.2.1 hb1
                have e2 : zS 94 = .int .i64 (i : Int) := hF.2.2.1 hb2
                clear hL hm
                rw [hb5] at hW
                rw [hb1] at hW
                simp only [puts, Act.put, List.setIfInBounds_toArray, List.set_cons_zero, List.set_cons_succ]
                simp only [e1, e2]
                have HWz := mkHid hW
                clear hW
                go_simp
                have hW := HWz.out
                clear HWz
                exact hK.out _ _ ⟨fun zj => if zj = 2 then true else if zj = 1 then true else if zj = 5 then true else zB zj, fun zd => if zd = 97 then .pointer (some ⟨bb, i, none⟩) else if zd = 94 then .int .i64 (i : Int) else if zd = 93 then .slice (some ⟨bb, 0, none⟩) S1.B.length A.c0 else zS zd, gg, cg, by simp [hb1, hb2], by kernel_rfl, ⟨hF.1, fun _ => rfl, fun _ => rfl, hF.2.2.2.1, hF.2.2.2.2.1, fun _ => rfl⟩, ⟨hW.1, hW.2.1, fun _ => rfl⟩⟩
              refine StepsI.cons rfl ?_ ?_
              · rintro L zA va ⟨zB, zS, gg, cg, rfl, rfl, hF, hW⟩ hL hm K hK
                have hb6 : zB 6 = false := by simpa using hL
                have hb4 : zB 4 = true := by cases e : zB 4 with | false => (exfalso; revert hm; simp [metB, Region.binds, e]) | true => rfl
                have hb5 : zB 5 = true := by cases e : zB 5 with | false => (exfalso; revert hm; simp [metB, Region.binds, e]) | true => rfl
                have e4 : zS 96 = .slice (some ⟨gg, 0, none⟩) Ts.length cg := hF.2.2.2.2.1 hb4
                have e5 : zS 97 = .pointer (some ⟨bb, i, none⟩) := hF.2.2.2.2.2 hb5
                clear hL hm
                rw [hb6] at hW
                rw [hb4] at hW
                rw [hb5] at hW
                simp only [puts, Act.put, List.setIfInBounds_toArray, List.set_cons_zero, List.set_cons_succ]
                simp only [e4, e5]
                obtain ⟨⟨u0, kc⟩, kf⟩ := hbi _ (hW.1.pre rfl)
                have HWz := mkHid hW
                clear hW
                go_simp
                have hW := HWz.out
                clear HWz
                exact hK.out _ _ ⟨fun zj => if zj = 5 then true else if zj = 4 then true else if zj = 6 then true else zB zj, fun zd => if zd = 97 then .pointer (some ⟨bb, i, none⟩) else if zd = 96 then .slice (some ⟨gg, 0, none⟩) Ts.length cg else zS zd, gg, cg, by simp [hb4, hb5], by kernel_rfl, ⟨hF.1, hF.2.1, hF.2.2.1, hF.2.2.2.1, fun _ => rfl, fun _ => rfl⟩, ⟨⟨fun e => tf e, fun _ e => tf e, fun _ => ⟨va, hW.1.pre rfl, hW.1.own rfl rfl, rfl⟩⟩, fun _ => ⟨hW.2.2 rfl, rfl⟩, hW.2.2⟩⟩
              exact StepsI.nil (by kernel_rfl)
            · rintro L zA va ⟨zB, zS, gg, cg, rfl, rfl, hF, hW⟩ hr
              have hu := all_up (by kernel_rfl) (N := 7) (by kernel_rfl) hr
              have hb0 : zB 0 = true := by simpa using hu 0 (by decide)
              have hb1 : zB 1 = true := by simpa using hu 1 (by decide)
              have hb2 : zB 2 = true := by simpa using hu 2 (by decide)
              have hb3 : zB 3 = true := by simpa using hu 3 (by decide)
              have hb4 : zB 4 = true := by simpa using hu 4 (by decide)
              have hb5 : zB 5 = true := by simpa using hu 5 (by decide)
              have hb6 : zB 6 = true := by simpa using hu 6 (by decide)
              have e0 : zS 92 = .pointer (some ⟨X3, 0, none⟩) := hF.1 hb0
              have e1 : zS 93 = .slice (some ⟨bb, 0, none⟩) S1.B.length A.c0 := hF.2.1 hb1
              have e2 : zS 94 = .int .i64 (i : Int) := hF.2.2.1 hb2
              have e3 : zS 95 = .slice (some ⟨g2, 0, none⟩) mm cc := hF.2.2.2.1 hb3
              have e4 : zS 96 = .slice (some ⟨gg, 0, none⟩) Ts.length cg := hF.2.2.2.2.1 hb4
              have e5 : zS 97 = .pointer (some ⟨bb, i, none⟩) := hF.2.2.2.2.2 hb5
              rw [hb1] at hW
              rw [hb4] at hW
              rw [hb5] at hW
              rw [hb6] at hW
              clear hu hr hF
              simp only [puts, Act.put, List.setIfInBounds_toArray, List.set_cons_zero, List.set_cons_succ]
              simp only [e0, e1, e2, e3, e4, e5]
              clear e0 e1 e2 e3 e4 e5
              clear hb0 hb1 hb2 hb3 hb4 hb5 hb6
              clear zB zS
              have HFI := mkHid (HCF.out va ⟨gg, cg, hW.1⟩)
              clear hW hsort hx3 hbi
              go_wp2
              go_roundg (S1.B.length - (i + 1))
              case measure => omega
              case rel => exact ⟨i + 1, by omega, by go_num, Nat.le_refl _, by rw [HDE.out], HFI.out⟩
      · have i1 : ¬ (i : Int) < (S1.B.length : Int) := by omega
        obtain ⟨Z, hZ⟩ : ∃ z, cpS n v u c S1 = z := ⟨_, rfl⟩
        have HBF : Hid (B = Z.B ∧ S1.V = Z.V ∧ S1.M = Z.M) := mkHid ⟨by rw [← hZ, ← HBQ.out, List.take_of_length_le (by omega), List.drop_eq_nil_of_le (by omega), List.append_nil, ← HRO.out]; rfl, by rw [← hZ]; rfl, by rw [← hZ]; rfl⟩
        have HZF : Hid (cpS n v u c (dropSG lv (tv v S.B) S) = Z) := mkHid (by rw [HSF.out]; exact hZ)
        have HFI : Hid (GivesS w (put3 wr (X + 1) (.slice (some ⟨bb, 0, none⟩) Z.B.length A.c0) (.slice A.a1 Z.V.length A.c1) (.slice A.a2 Z.M.length A.c2)) (.returned (.agg #[.slice (some ⟨bb, 0, none⟩) Z.B.length A.c0, .slice A.a1 Z.V.length A.c1, .slice A.a2 Z.M.length A.c2])) Z) := mkHid (by
          obtain ⟨hb1, hb2, hb3⟩ := HBF.out
          have hII := HII.out
          have hob := hII.b.top
          have hov := hII.v
          have hom := hII.m
          rw [hb1] at hob
          rw [hb2] at hov
          rw [hb3] at hom
          exact gives_shut (Yb := X + 1) (A := ⟨some ⟨bb, 0, none⟩, A.c0, A.a1, A.c1, A.a2, A.c2⟩) (S := Z) ⟨hob, hov, fun q hq => (hov.lt hq).2, hom, fun q hq => (hom.lt hq).2⟩ (by have := HZ0.out; omega) (Nat.le_refl _) hII.bel (by rw [HXX.out]; omega))
        have x1 := heap_cell hI.x3 1
        have x2 := heap_cell hI.x3 2
        simp at x1 x2
        have hlB : S1.B.length = Z.B.length := by rw [← HBF.out.1]; exact HBL.out.symm
        rw [HBF.out.2.1] at x1
        rw [HBF.out.2.2] at x2
        rw [hlB] at x0 i1
        obtain ⟨r0', r1, r2, t0, t1, t2⟩ := hI.r
        have HHL := mkHid hlB
        clear hI hZ hlB
        go_wp2
        refine bodyPost_ret (v := .agg #[.slice (some ⟨bb, 0, none⟩) Z.B.length A.c0, .slice A.a1 Z.V.length A.c1, .slice A.a2 Z.M.length A.c2]) (by simp [results, Tryz.results37, go_sem, *]) rfl ?_
        rw [HZF.out]
        exact HFI.out
end Go.Proofs.YtodjmpocpfkpaaaGreat
