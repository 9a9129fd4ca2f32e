/-
  CONTRACT of the specification's l12Forget.
-/
import Derived.Test.YtodjmpocpfkpaaaGreatKc09
import Derived.Test.YtodjmpocpfkpaaaGreatKc20
import Derived.Test.YtodjmpocpfkpaaaGreatKc29
import Derived.Test.YtodjmpocpfkpaaaGreatKc34
namespace Go.Proofs.YtodjmpocpfkpaaaGreat
open Go.RowKit

theorem tv_take {v : Int} {B : List (List Y)} {i : Nat} {b : List Y} (h : B[i]? = some b) : tv v (B.take (i + 1)) = tv v (B.take i) ++ wv v b := by
  obtain ⟨hi, rfl⟩ := List.getElem?_eq_some_iff.1 h
  rw [List.take_succ_eq_append_getElem hi, tv_snoc]
set_option maxRecDepth 100000 in
set_option maxHeartbeats 3200000 in
theorem lForget_any (n lv v : Int) (S : SG) (A0 : SAd) (w : World) (hs : Small S) (hok : OkS n lv S.B S.V S.M) (hl : SegAt w A0 S) :
    Calls Tryz.prog 21 #[.int .i64 lv, .agg #[.slice A0.a0 S.B.length A0.c0, .slice A0.a1 S.V.length A0.c1, .slice A0.a2 S.M.length A0.c2], .int .i64 v] w fun e w' => GivesS w w' e (dropSG lv (tv v S.B) S) := by
  obtain ⟨ti, hti, hz⟩ := Option.map_eq_some_iff.1 infoY
  simp only [Prod.mk.injEq] at hz
  obtain ⟨hz0, hz1, hz2⟩ := hz
  have HI := mkHid (show Tryz.prog.info? 65 = some ti ∧ ti.zero = some (.agg #[.int .i64 0, .int .i64 0]) ∧ ti.size = 2 ∧ ti.bytes = 16 from ⟨hti, hz0, hz1, hz2⟩)
  clear hti hz0 hz1 hz2
  have HSM := mkHid hs
  have HOK := mkHid hok
  obtain ⟨bb, ob, hab, _, hqb⟩ := hl.b.cons hok.k1
  have HAB : Hid (A0.a0 = some ⟨bb, ob, none⟩) := mkHid hab
  obtain ⟨w0, hw0⟩ : ∃ x : World, (w.alloc (.cells #[.slice A0.a0 S.B.length A0.c0, .slice A0.a1 S.V.length A0.c1, .slice A0.a2 S.M.length A0.c2] 31)).alloc (.cells #[.slice none 0 0, .slice none 0 0, .slice none 0 0] 31) = x := ⟨_, rfl⟩
  obtain ⟨X, hX⟩ : ∃ x, w.heap.size = x := ⟨_, rfl⟩
  have HXX := mkHid hX
  have HB : Hid (Below w.heap.size w w0) := mkHid (by rw [← hw0]; exact bl_alloc (bl_alloc (Below.refl _ _) _) _)
  have P0 : Hid (G3 w0 X (.slice A0.a0 S.B.length A0.c0) (.slice A0.a1 S.V.length A0.c1) (.slice A0.a2 S.M.length A0.c2)) := mkHid (by rw [← hw0, ← hX]; exact (G3.new _ _ _ _ _).below (bl_alloc (Below.refl _ _) _))
  have R0 : Hid (G3 w0 (X + 1) (.slice none 0 0) (.slice none 0 0) (.slice none 0 0)) := mkHid (by rw [← hw0, ← hX]; have := G3.new (w.alloc (.cells #[.slice A0.a0 S.B.length A0.c0, .slice A0.a1 S.V.length A0.c1, .slice A0.a2 S.M.length A0.c2] 31)) (.slice none 0 0) (.slice none 0 0) (.slice none 0 0) 31; simpa using this)
  have HZ0 : Hid (w0.heap.size = X + 2) := mkHid (by rw [← hw0, ← hX]; simp)
  have HL := mkHid (hl.below HB.out)
  have HF : Hid (Own eY 65 (w0.alloc (.cells #[] 65)) w0.heap.size (.slice (some ⟨w0.heap.size, 0, none⟩) 0 0) []) := mkHid (fresh_y (Nat.le_refl _) (by have := heap_alloc_new w0 (.cells #[] 65); simpa using this))
  have HRB : Hid (∀ (i : Nat) (l : List Y), S.B[i]? = some l → ∃ ao cap, w0.cell? ⟨bb, ob + i, none⟩ = some (.slice ao l.length cap) ∧ At eY w0 ao l ∧ bb < w0.heap.size) := mkHid fun i l h => by
    have h1 := HL.out.b.cons hok.k1
    obtain ⟨_, _, e, hlt, hq⟩ := h1
    rw [hab] at e
    cases e
    obtain ⟨ao, cap, h2, h3⟩ := hq i l h
    exact ⟨ao, cap, h2, h3, hlt⟩
  clear hl hs hok hab hqb
  go_enter Tryz.func21, Tryz.ntmps21
  go_wp2
  clear hw0 hX
  go_loopg [7, 8] S.B.length (fun g s7 s8 wr => ∃ (i : Nat) (a : Option Addr) (c : Nat), i ≤ S.B.length ∧ s8 = .int .i64 i ∧ S.B.length - i ≤ g ∧ s7 = .slice a (tv v (S.B.take i)).length c ∧ Own eY 65 wr w0.heap.size (.slice a (tv v (S.B.take i)).length c) (tv v (S.B.take i)) ∧ Below w0.heap.size w0 wr)
  case atStart => exact ⟨0, _, 0, Nat.zero_le _, rfl, by omega, rfl, HF.out, bl_alloc (Below.refl _ _) _⟩
  case round =>
    clear HF
    obtain ⟨i, a, c, hi, rfl, hg, rfl, hown, hbel⟩ := hrel
    obtain ⟨T0, hT0⟩ : ∃ z, tv v (S.B.take i) = z := ⟨_, rfl⟩
    rw [hT0] at hown ⊢
    have HT0 := mkHid hT0
    have HOW := mkHid hown
    have HBE := mkHid hbel
    have HTL : Hid (T0.length ≤ tot (S.B.take i)) := mkHid (by rw [← hT0]; exact tv_len _ _)
    clear hown hT0
    have hib : i ≤ 1048576 := by have := HSM.out.b; omega
    by_cases hlt : i < S.B.length
    · obtain ⟨l, hlx⟩ : ∃ l, S.B[i]? = some l := ⟨_, List.getElem?_eq_getElem hlt⟩
      obtain ⟨al, cl, hrow, hal, hbb⟩ := HRB.out i l hlx
      have HLX := mkHid hlx
      have HAL := mkHid hal
      have HRW : Hid (∀ v, Below w0.heap.size w0 v → v.cell? ⟨bb, ob + i, none⟩ = some (.slice al l.length cl)) := mkHid fun v h => ((bcell h).1 _ _ hbb).trans hrow
      have HX0 : Hid (∀ v, Below w0.heap.size w0 v → v.cell? ⟨X, 0, none⟩ = some (.slice (some ⟨bb, ob, none⟩) S.B.length A0.c0)) := mkHid fun v h => by have := (P0.out.below h).c0; rw [HAB.out] at this; exact this
      have hln : T0.length + l.length ≤ 1048576 := by have h1 := HTL.out; have h2 := tot_take_succ hlx; have h3 := tot_take_le S.B (i + 1); have h4 := HSM.out.t; omega
      have i0 : (0 : Int) ≤ (i : Int) := by omega
      have i1 : (i : Int) < (S.B.length : Int) := by omega
      have r1 := HRW.out _ hbel
      have r0 := HX0.out _ hbel
      clear hlx hrow hal hbb hbel
      go_wp2
      clear r0 r1
      go_loopg [7, 9] l.length (fun g s7 s9 wr2 => ∃ (j : Nat) (a : Option Addr) (c : Nat), j ≤ l.length ∧ s9 = .int .i64 j ∧ l.length - j ≤ g ∧ s7 = .slice a (T0 ++ wv v (l.take j)).length c ∧ Own eY 65 wr2 w0.heap.size (.slice a (T0 ++ wv v (l.take j)).length c) (T0 ++ wv v (l.take j)) ∧ Below w0.heap.size w0 wr2)
      case atStart => exact ⟨0, a, c, Nat.zero_le _, rfl, by omega, by simp [wv], by simpa [wv] using HOW.out, HBE.out⟩
      case round =>
        clear HOW HBE
        obtain ⟨j, a, c, hj, rfl, hgj, rfl, hown, hbel⟩ := hrel
        obtain ⟨L0, hL0⟩ : ∃ z, T0 ++ wv v (l.take j) = z := ⟨_, rfl⟩
        rw [hL0] at hown ⊢
        obtain ⟨kk, hkk⟩ : ∃ kk, L0.length = kk := ⟨_, rfl⟩
        have hkl : kk ≤ 1048576 := by rw [← hkk, ← hL0, List.length_append]; have := wv_len v (l.take j); rw [List.length_take] at this; omega
        have HOW := mkHid hown
        have HKK := mkHid hkk
        rw [hkk]
        have HBE := mkHid hbel
        have hszr := hbel.size
        have HL0 := mkHid hL0
        have r1 := HRW.out _ hbel
        have r0 := HX0.out _ hbel
        clear hown hL0 hkk
        by_cases hlt2 : j < l.length
        · obtain ⟨x, hx⟩ : ∃ x, l[j]? = some x := ⟨_, List.getElem?_eq_getElem hlt2⟩
          obtain ⟨b, off, rfl, _, hq⟩ := (HAL.out.below hbel).cons (by omega)
          obtain ⟨c0, c1⟩ := get_y hq hx
          have HXY := mkHid hx
          have j0 : (0 : Int) ≤ (j : Int) := by omega
          have j1 : (j : Int) < (l.length : Int) := by omega
          clear hq hx hbel
          have HO4 : Hid (wr.ownsRow w0.heap.size 65 2 (.slice a kk c) kk (eY.flat L0)) := mkHid (by have h := HOW.out; unfold Own at h; rw [HKK.out] at h; exact h)
          by_cases hxv : x.1 = v
          · have hev : (x.1 == v) = true := beq_iff_eq.2 hxv
            have HXV := mkHid hxv
            clear hxv
            go_wp2_with (at_builtin; refine wpList_append_lies _ rfl _ _ 63 rfl w0.heap.size 65 ti (.agg #[.int .i64 0, .int .i64 0]) 2 16 Tryz.underlying63 HI.out.1 HI.out.2.1 HI.out.2.2.1 HI.out.2.2.2 rfl (by decide) _ _ _ rfl (World.ownsRow.alloc HO4.out _) ⟨wr.heap.size, 0, none⟩ 1 1 [.int .i64 x.1, .int .i64 x.2] rfl rfl ?c1 ?c2 (by decide) ?c3 ?c4 ?c5 (wr.heap.size + 1) (by simp) ?_)
            case c1 => exact two_new _ _ _ _
            case c2 => first | rfl | (intro u hu; simp at hu; rcases hu with rfl | rfl <;> rfl) | exact ⟨rfl, rfl⟩
            case c3 => unfold maxLen; omega
            case c4 => omega
            case c5 => first | omega | (simp; omega)
            intro g' c' w7 hown' hgrow hat' _
            have HE : Hid (T0 ++ wv v (l.take (j + 1)) = L0 ++ [x]) := mkHid (by rw [wv_yes HXY.out HXV.out, ← List.append_assoc, HL0.out])
            have HK1 : Hid ((L0 ++ [x]).length = kk + 1) := mkHid (by rw [List.length_append, HKK.out]; rfl)
            have O7 : Hid (Own eY 65 w7 w0.heap.size (.slice (some ⟨g', 0, none⟩) (kk + 1) c') (L0 ++ [x])) := mkHid (by
              unfold Own
              rw [HK1.out, El.flat_app]
              exact hown')
            have BE7 : Hid (Below w0.heap.size w0 w7) := mkHid ((HBE.out.alloc HBE.out.size _).grown hgrow (by simp; omega) (fun q hq => by have := (World.ownsRow.lt HO4.out q hq).1; omega))
            clear hown' hgrow hat' c0 c1 r0 r1
            go_wp2
            go_roundg (l.length - (j + 1))
            case measure => omega
            case rel => exact ⟨j + 1, some ⟨g', 0, none⟩, c', by omega, by go_num, Nat.le_refl _, by rw [HE.out, HK1.out], by rw [HE.out, HK1.out]; exact O7.out, BE7.out⟩
          · have hev : (x.1 == v) = false := beq_eq_false_iff_ne.2 hxv
            have HE : Hid (T0 ++ wv v (l.take (j + 1)) = L0) := mkHid (by rw [wv_no HXY.out hxv, HL0.out])
            clear hxv
            go_wp2
            clear c0 c1 r0 r1
            go_roundg (l.length - (j + 1))
            case measure => omega
            case rel => exact ⟨j + 1, a, c, by omega, by go_num, Nat.le_refl _, by rw [HE.out, HKK.out], by rw [HE.out]; exact HOW.out, HBE.out⟩
        · have j1 : ¬ (j : Int) < (l.length : Int) := by omega
          have el : l.take j = l := List.take_of_length_le (by omega)
          have HLE : Hid (tv v (S.B.take (i + 1)) = L0) := mkHid (by rw [tv_take HLX.out, HT0.out, ← HL0.out, el])
          clear el hbel
          go_wp2
          clear r0 r1
          go_roundg (S.B.length - (i + 1))
          case measure => omega
          case rel => exact ⟨i + 1, a, c, by omega, by go_num, Nat.le_refl _, by rw [HLE.out, HKK.out], by rw [HLE.out]; exact HOW.out, HBE.out⟩
    · have i1 : ¬ (i : Int) < (S.B.length : Int) := by omega
      have HTE : Hid (tv v S.B = T0) := mkHid (by have h := HT0.out; rw [List.take_of_length_le (by omega)] at h; exact h)
      have HTN : Hid (T0.length ≤ 1048576) := mkHid (Nat.le_trans HTL.out (Nat.le_trans (tot_take_le _ _) HSM.out.t))
      have P1 := mkHid (P0.out.below hbel)
      have R1 := mkHid (R0.out.below hbel)
      have HB1 := mkHid (below_step HB.out hbel)
      have L1 := mkHid (HL.out.below hbel)
      have HSZ : Hid (X + 2 ≤ wr.heap.size) := mkHid (by have := hbel.size; have := HZ0.out; omega)
      obtain ⟨q0, q1, q2, _, _, _⟩ := P1.out
      clear hbel
      go_wp2_with fail
      clear q0 q1 q2
      refine (lDrop_any n lv S A0 T0 a c _ HSM.out HOK.out HTN.out L1.out HOW.out.at).mono ?_
      obtain ⟨Zs, hZs⟩ : ∃ z, dropSG lv T0 S = z := ⟨_, rfl⟩
      have HZ : Hid (dropSG lv (tv v S.B) S = Zs) := mkHid (by rw [HTE.out]; exact hZs)
      rw [hZs]
      clear hZs
      rintro e w7 ⟨A', rfl, hO, hb⟩
      have HFF := mkHid (gives_shut hO HSZ.out (Nat.le_refl _) (below_step HB1.out hb) (by rw [HXX.out]; omega))
      obtain ⟨r0, r1, r2, t0, t1, t2⟩ := R1.out.below hb
      clear hO hb
      go_wp2
      refine bodyPost_ret (v := .agg #[.slice A'.a0 Zs.B.length A'.c0, .slice A'.a1 Zs.V.length A'.c1, .slice A'.a2 Zs.M.length A'.c2]) (by simp [results, Tryz.results21, go_sem, *]) rfl ?_
      rw [HZ.out]
      exact HFF.out
end Go.Proofs.YtodjmpocpfkpaaaGreat
