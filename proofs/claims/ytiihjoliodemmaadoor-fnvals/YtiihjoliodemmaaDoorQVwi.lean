/-
  CONTRACTS of the program's ValWiden.
-/
import Derived.Test.YtiihjoliodemmaaDoorQVw
import Derived.Test.YtiihjoliodemmaaDoorQWe
import Derived.Test.YtiihjoliodemmaaDoorQWs
namespace Go.Proofs.YtiihjoliodemmaaDoor.Q
open Go.RowKit

set_option maxRecDepth 100000 in
set_option maxHeartbeats 1600000 in
theorem iVwiden_of (a b : Int) (s : Bool) (c d : Int) (t : Bool) (l : List Int) (k off cap : Nat) (w : World) (hl : IntsIn w l k off) (hn : l.length ≤ maxLen) : Calls Tryd.prog 38 #[.agg #[.int .i64 a, .int .i64 b, .bool s], .agg #[.int .i64 c, .int .i64 d, .bool t], .slice (some ⟨k, off, none⟩) l.length cap] w fun e w' => e = .returned (.agg #[.int .i64 (widenV a b s c d t l).1, .int .i64 (widenV a b s c d t l).2.1, .bool (widenV a b s c d t l).2.2]) ∧ Below w.heap.size w w' := by
  have HL := mkHid hl
  have HN := mkHid hn
  clear hl hn
  cases h1 : okB a b
  · have E : Hid (widenV a b s c d t l = (1, 0, true)) := mkHid (by unfold widenV; rw [h1]; simp)
    go_enter Tryd.func38, Tryd.ntmps38
    go_wp2_with fail
    obtain ⟨w0, hw0⟩ : ∃ x : World, (((w.alloc (.cells #[.int .i64 a, .int .i64 b, .bool s] 33)).alloc (.cells #[.int .i64 c, .int .i64 d, .bool t] 33)).alloc (.cells #[.slice (some ⟨k, off, none⟩) l.length cap] 53)).alloc (.cells #[.int .i64 0, .int .i64 0, .bool false] 33) = x := ⟨_, rfl⟩
    have HB0 : Hid (Below w.heap.size w w0) := mkHid (by rw [← hw0]; exact bl_alloc (bl_alloc (bl_alloc (bl_alloc (Below.refl _ _) _) _) _) _)
    have HX0 : Hid (V3 w0 w.heap.size a b s) := mkHid (by rw [← hw0]; constructor <;> simp [go_sem])
    have HY0 : Hid (V3 w0 (w.heap.size + 1) c d t) := mkHid (by rw [← hw0]; constructor <;> simp [go_sem])
    have HZ0 : Hid (V3 w0 (w.heap.size + 1 + 1 + 1) 0 0 false) := mkHid (by rw [← hw0]; constructor <;> simp [go_sem])
    have HP0 : Hid (w0.cell? ⟨(w.heap.size + 1 + 1), 0, none⟩ = some (.slice (some ⟨k, off, none⟩) l.length cap)) := mkHid (by rw [← hw0]; simp [go_sem])
    rw [hw0]
    clear hw0
    refine (iVok_any a b s _).mono ?_
    rintro e w1 ⟨rfl, hb⟩
    have HB1 := mkHid (below_step HB0.out hb)
    have HX1 := mkHid (HX0.out.below hb)
    have HY1 := mkHid (HY0.out.below hb)
    have HZ1 := mkHid (HZ0.out.below hb)
    have HP1 := mkHid ((hb.cell (p := ⟨(w.heap.size + 1 + 1), 0, none⟩) (World.block_lt_of_cell? _ _ HP0.out)).trans HP0.out)
    clear hb HB0 HX0 HY0 HZ0 HP0
    go_wp2_with fail
    refine (iVnone_any _).mono ?_
    rintro e w2 ⟨rfl, hb⟩
    have HB2 := mkHid (below_step HB1.out hb)
    have HX2 := mkHid (HX1.out.below hb)
    have HY2 := mkHid (HY1.out.below hb)
    have HZ2 := mkHid (HZ1.out.below hb)
    have HP2 := mkHid ((hb.cell (p := ⟨(w.heap.size + 1 + 1), 0, none⟩) (World.block_lt_of_cell? _ _ HP1.out)).trans HP1.out)
    clear hb HB1 HX1 HY1 HZ1 HP1
    obtain ⟨q0, q1, q2, q3, q4, q5⟩ := HZ2.out
    go_wp2
    exact bodyPost_ret (v := .agg #[.int .i64 1, .int .i64 0, .bool true]) (by simp [results, Tryd.results38, go_sem, *]) rfl ⟨ret_v E.out, bl_set (bl_set (bl_set HB2.out (by show w.heap.size ≤ (w.heap.size + 1 + 1 + 1); omega) _) (by show w.heap.size ≤ (w.heap.size + 1 + 1 + 1); omega) _) (by show w.heap.size ≤ (w.heap.size + 1 + 1 + 1); omega) _⟩
  · cases h2 : okB c d
    · have E : Hid (widenV a b s c d t l = (1, 0, true)) := mkHid (by unfold widenV; rw [h2]; simp)
      go_enter Tryd.func38, Tryd.ntmps38
      go_wp2_with fail
      obtain ⟨w0, hw0⟩ : ∃ x : World, (((w.alloc (.cells #[.int .i64 a, .int .i64 b, .bool s] 33)).alloc (.cells #[.int .i64 c, .int .i64 d, .bool t] 33)).alloc (.cells #[.slice (some ⟨k, off, none⟩) l.length cap] 53)).alloc (.cells #[.int .i64 0, .int .i64 0, .bool false] 33) = x := ⟨_, rfl⟩
      have HB0 : Hid (Below w.heap.size w w0) := mkHid (by rw [← hw0]; exact bl_alloc (bl_alloc (bl_alloc (bl_alloc (Below.refl _ _) _) _) _) _)
      have HX0 : Hid (V3 w0 w.heap.size a b s) := mkHid (by rw [← hw0]; constructor <;> simp [go_sem])
      have HY0 : Hid (V3 w0 (w.heap.size + 1) c d t) := mkHid (by rw [← hw0]; constructor <;> simp [go_sem])
      have HZ0 : Hid (V3 w0 (w.heap.size + 1 + 1 + 1) 0 0 false) := mkHid (by rw [← hw0]; constructor <;> simp [go_sem])
      have HP0 : Hid (w0.cell? ⟨(w.heap.size + 1 + 1), 0, none⟩ = some (.slice (some ⟨k, off, none⟩) l.length cap)) := mkHid (by rw [← hw0]; simp [go_sem])
      rw [hw0]
      clear hw0
      refine (iVok_any a b s _).mono ?_
      rintro e w1 ⟨rfl, hb⟩
      have HB1 := mkHid (below_step HB0.out hb)
      have HX1 := mkHid (HX0.out.below hb)
      have HY1 := mkHid (HY0.out.below hb)
      have HZ1 := mkHid (HZ0.out.below hb)
      have HP1 := mkHid ((hb.cell (p := ⟨(w.heap.size + 1 + 1), 0, none⟩) (World.block_lt_of_cell? _ _ HP0.out)).trans HP0.out)
      clear hb HB0 HX0 HY0 HZ0 HP0
      obtain ⟨q0, q1, q2, q3, q4, q5⟩ := HY1.out
      go_wp2_with fail
      clear q0 q1 q2 q3 q4 q5
      refine (iVok_any c d t _).mono ?_
      rintro e w2 ⟨rfl, hb⟩
      have HB2 := mkHid (below_step HB1.out hb)
      have HX2 := mkHid (HX1.out.below hb)
      have HY2 := mkHid (HY1.out.below hb)
      have HZ2 := mkHid (HZ1.out.below hb)
      have HP2 := mkHid ((hb.cell (p := ⟨(w.heap.size + 1 + 1), 0, none⟩) (World.block_lt_of_cell? _ _ HP1.out)).trans HP1.out)
      clear hb HB1 HX1 HY1 HZ1 HP1
      go_wp2_with fail
      refine (iVnone_any _).mono ?_
      rintro e w3 ⟨rfl, hb⟩
      have HB3 := mkHid (below_step HB2.out hb)
      have HX3 := mkHid (HX2.out.below hb)
      have HY3 := mkHid (HY2.out.below hb)
      have HZ3 := mkHid (HZ2.out.below hb)
      have HP3 := mkHid ((hb.cell (p := ⟨(w.heap.size + 1 + 1), 0, none⟩) (World.block_lt_of_cell? _ _ HP2.out)).trans HP2.out)
      clear hb HB2 HX2 HY2 HZ2 HP2
      obtain ⟨q0, q1, q2, q3, q4, q5⟩ := HZ3.out
      go_wp2
      exact bodyPost_ret (v := .agg #[.int .i64 1, .int .i64 0, .bool true]) (by simp [results, Tryd.results38, go_sem, *]) rfl ⟨ret_v E.out, bl_set (bl_set (bl_set HB3.out (by show w.heap.size ≤ (w.heap.size + 1 + 1 + 1); omega) _) (by show w.heap.size ≤ (w.heap.size + 1 + 1 + 1); omega) _) (by show w.heap.size ≤ (w.heap.size + 1 + 1 + 1); omega) _⟩
    · cases h3 : stepsB l
      · have E : Hid (widenV a b s c d t l = (1, 0, true)) := mkHid (by unfold widenV; rw [h3]; simp)
        go_enter Tryd.func38, Tryd.ntmps38
        go_wp2_with fail
        obtain ⟨w0, hw0⟩ : ∃ x : World, (((w.alloc (.cells #[.int .i64 a, .int .i64 b, .bool s] 33)).alloc (.cells #[.int .i64 c, .int .i64 d, .bool t] 33)).alloc (.cells #[.slice (some ⟨k, off, none⟩) l.length cap] 53)).alloc (.cells #[.int .i64 0, .int .i64 0, .bool false] 33) = x := ⟨_, rfl⟩
        have HB0 : Hid (Below w.heap.size w w0) := mkHid (by rw [← hw0]; exact bl_alloc (bl_alloc (bl_alloc (bl_alloc (Below.refl _ _) _) _) _) _)
        have HX0 : Hid (V3 w0 w.heap.size a b s) := mkHid (by rw [← hw0]; constructor <;> simp [go_sem])
        have HY0 : Hid (V3 w0 (w.heap.size + 1) c d t) := mkHid (by rw [← hw0]; constructor <;> simp [go_sem])
        have HZ0 : Hid (V3 w0 (w.heap.size + 1 + 1 + 1) 0 0 false) := mkHid (by rw [← hw0]; constructor <;> simp [go_sem])
        have HP0 : Hid (w0.cell? ⟨(w.heap.size + 1 + 1), 0, none⟩ = some (.slice (some ⟨k, off, none⟩) l.length cap)) := mkHid (by rw [← hw0]; simp [go_sem])
        rw [hw0]
        clear hw0
        refine (iVok_any a b s _).mono ?_
        rintro e w1 ⟨rfl, hb⟩
        have HB1 := mkHid (below_step HB0.out hb)
        have HX1 := mkHid (HX0.out.below hb)
        have HY1 := mkHid (HY0.out.below hb)
        have HZ1 := mkHid (HZ0.out.below hb)
        have HP1 := mkHid ((hb.cell (p := ⟨(w.heap.size + 1 + 1), 0, none⟩) (World.block_lt_of_cell? _ _ HP0.out)).trans HP0.out)
        clear hb HB0 HX0 HY0 HZ0 HP0
        obtain ⟨q0, q1, q2, q3, q4, q5⟩ := HY1.out
        go_wp2_with fail
        clear q0 q1 q2 q3 q4 q5
        refine (iVok_any c d t _).mono ?_
        rintro e w2 ⟨rfl, hb⟩
        have HB2 := mkHid (below_step HB1.out hb)
        have HX2 := mkHid (HX1.out.below hb)
        have HY2 := mkHid (HY1.out.below hb)
        have HZ2 := mkHid (HZ1.out.below hb)
        have HP2 := mkHid ((hb.cell (p := ⟨(w.heap.size + 1 + 1), 0, none⟩) (World.block_lt_of_cell? _ _ HP1.out)).trans HP1.out)
        clear hb HB1 HX1 HY1 HZ1 HP1
        have qp := HP2.out
        go_wp2_with fail
        refine (areSteps_of l k off cap _ HN.out (HL.out.below HB2.out)).mono ?_
        rintro e w3 ⟨rfl, hb⟩
        clear qp
        have HB3 := mkHid (below_step HB2.out hb)
        have HX3 := mkHid (HX2.out.below hb)
        have HY3 := mkHid (HY2.out.below hb)
        have HZ3 := mkHid (HZ2.out.below hb)
        have HP3 := mkHid ((hb.cell (p := ⟨(w.heap.size + 1 + 1), 0, none⟩) (World.block_lt_of_cell? _ _ HP2.out)).trans HP2.out)
        clear hb HB2 HX2 HY2 HZ2 HP2
        go_wp2_with fail
        refine (iVnone_any _).mono ?_
        rintro e w4 ⟨rfl, hb⟩
        have HB4 := mkHid (below_step HB3.out hb)
        have HX4 := mkHid (HX3.out.below hb)
        have HY4 := mkHid (HY3.out.below hb)
        have HZ4 := mkHid (HZ3.out.below hb)
        have HP4 := mkHid ((hb.cell (p := ⟨(w.heap.size + 1 + 1), 0, none⟩) (World.block_lt_of_cell? _ _ HP3.out)).trans HP3.out)
        clear hb HB3 HX3 HY3 HZ3 HP3
        obtain ⟨q0, q1, q2, q3, q4, q5⟩ := HZ4.out
        go_wp2
        exact bodyPost_ret (v := .agg #[.int .i64 1, .int .i64 0, .bool true]) (by simp [results, Tryd.results38, go_sem, *]) rfl ⟨ret_v E.out, bl_set (bl_set (bl_set HB4.out (by show w.heap.size ≤ (w.heap.size + 1 + 1 + 1); omega) _) (by show w.heap.size ≤ (w.heap.size + 1 + 1 + 1); omega) _) (by show w.heap.size ≤ (w.heap.size + 1 + 1 + 1); omega) _⟩
      · cases s
        · have E : Hid (widenV a b false c d t l = ((widenM a b c d l).1, (widenM a b c d l).2, false)) := mkHid (by unfold widenV; rw [h1, h2, h3]; simp)
          obtain ⟨r1, hr1⟩ : ∃ x, (widenM a b c d l).1 = x := ⟨_, rfl⟩
          obtain ⟨r2, hr2⟩ : ∃ x, (widenM a b c d l).2 = x := ⟨_, rfl⟩
          rw [hr1, hr2] at E
          have HR1 := mkHid hr1
          have HR2 := mkHid hr2
          clear hr1 hr2
          go_enter Tryd.func38, Tryd.ntmps38
          go_wp2_with fail
          obtain ⟨w0, hw0⟩ : ∃ x : World, (((w.alloc (.cells #[.int .i64 a, .int .i64 b, .bool false] 33)).alloc (.cells #[.int .i64 c, .int .i64 d, .bool t] 33)).alloc (.cells #[.slice (some ⟨k, off, none⟩) l.length cap] 53)).alloc (.cells #[.int .i64 0, .int .i64 0, .bool false] 33) = x := ⟨_, rfl⟩
          have HB0 : Hid (Below w.heap.size w w0) := mkHid (by rw [← hw0]; exact bl_alloc (bl_alloc (bl_alloc (bl_alloc (Below.refl _ _) _) _) _) _)
          have HX0 : Hid (V3 w0 w.heap.size a b false) := mkHid (by rw [← hw0]; constructor <;> simp [go_sem])
          have HY0 : Hid (V3 w0 (w.heap.size + 1) c d t) := mkHid (by rw [← hw0]; constructor <;> simp [go_sem])
          have HZ0 : Hid (V3 w0 (w.heap.size + 1 + 1 + 1) 0 0 false) := mkHid (by rw [← hw0]; constructor <;> simp [go_sem])
          have HP0 : Hid (w0.cell? ⟨(w.heap.size + 1 + 1), 0, none⟩ = some (.slice (some ⟨k, off, none⟩) l.length cap)) := mkHid (by rw [← hw0]; simp [go_sem])
          rw [hw0]
          clear hw0
          refine (iVok_any a b false _).mono ?_
          rintro e w1 ⟨rfl, hb⟩
          have HB1 := mkHid (below_step HB0.out hb)
          have HX1 := mkHid (HX0.out.below hb)
          have HY1 := mkHid (HY0.out.below hb)
          have HZ1 := mkHid (HZ0.out.below hb)
          have HP1 := mkHid ((hb.cell (p := ⟨(w.heap.size + 1 + 1), 0, none⟩) (World.block_lt_of_cell? _ _ HP0.out)).trans HP0.out)
          clear hb HB0 HX0 HY0 HZ0 HP0
          obtain ⟨q0, q1, q2, q3, q4, q5⟩ := HY1.out
          go_wp2_with fail
          clear q0 q1 q2 q3 q4 q5
          refine (iVok_any c d t _).mono ?_
          rintro e w2 ⟨rfl, hb⟩
          have HB2 := mkHid (below_step HB1.out hb)
          have HX2 := mkHid (HX1.out.below hb)
          have HY2 := mkHid (HY1.out.below hb)
          have HZ2 := mkHid (HZ1.out.below hb)
          have HP2 := mkHid ((hb.cell (p := ⟨(w.heap.size + 1 + 1), 0, none⟩) (World.block_lt_of_cell? _ _ HP1.out)).trans HP1.out)
          clear hb HB1 HX1 HY1 HZ1 HP1
          have qp := HP2.out
          go_wp2_with fail
          refine (areSteps_of l k off cap _ HN.out (HL.out.below HB2.out)).mono ?_
          rintro e w3 ⟨rfl, hb⟩
          clear qp
          have HB3 := mkHid (below_step HB2.out hb)
          have HX3 := mkHid (HX2.out.below hb)
          have HY3 := mkHid (HY2.out.below hb)
          have HZ3 := mkHid (HZ2.out.below hb)
          have HP3 := mkHid ((hb.cell (p := ⟨(w.heap.size + 1 + 1), 0, none⟩) (World.block_lt_of_cell? _ _ HP2.out)).trans HP2.out)
          clear hb HB2 HX2 HY2 HZ2 HP2
          have hsz0 : w.heap.size + 1 + 1 + 1 < w3.heap.size := HZ3.out.lt
          have qp := HP3.out
          go_wp2_with fail
          have HB := mkHid HB3.out.drew
          have HX := mkHid HX3.out.drew
          have HY := mkHid HY3.out.drew
          have HZ := mkHid HZ3.out.drew
          refine wp_region_inv2 (fun zA0 L zA v => ∃ (zB : Nat → Bool) (zS : Nat → Value), L = #[zB 0, zB 1, zB 2, zB 3, zB 4, zB 5, zB 6] ∧ zA = puts zA0 [(23, zS 23), (24, zS 24), (25, zS 25), (26, zS 26), (27, zS 27), (28, zS 28)] ∧ ((zB 0 = true → zS 23 = .agg #[.int .i64 a, .int .i64 b, .bool false]) ∧ (zB 1 = true → zS 24 = .agg #[.int .i64 a, .int .i64 b, .bool false]) ∧ (zB 2 = true → zS 25 = .agg #[.int .i64 c, .int .i64 d, .bool t]) ∧ (zB 3 = true → zS 26 = .agg #[.int .i64 c, .int .i64 d, .bool t]) ∧ (zB 4 = true → zS 27 = .func (.func 87) #[] #[.pointer (some ⟨(w.heap.size + 1 + 1), 0, none⟩)]) ∧ (zB 5 = true → zS 28 = .agg #[.int .i64 r1, .int .i64 r2, .bool false])) ∧ (Below w.heap.size w v ∧ V3 v w.heap.size a b false ∧ V3 v (w.heap.size + 1) c d t ∧ ((zB 6) = false → V3 v (w.heap.size + 1 + 1 + 1) 0 0 false) ∧ ((zB 6) = true → V3 v (w.heap.size + 1 + 1 + 1) r1 r2 false) ∧ v.cell? ⟨(w.heap.size + 1 + 1), 0, none⟩ = some (.slice (some ⟨k, off, none⟩) l.length cap))) (by kernel_rfl) ?_ ?_ ?_
          · exact ⟨fun _ => false, fun _ => undef, rfl, by kernel_rfl, ⟨fun e => ft e, fun e => ft e, fun e => ft e, fun e => ft e, fun e => ft e, fun e => ft e⟩, ⟨HB.out, HX.out, HY.out, fun _ => HZ.out, fun e => ft e, HP3.out⟩⟩
          · refine StepsI.cons rfl ?_ ?_
            · rintro L zA v ⟨zB, zS, rfl, rfl, hF, hW⟩ hL hm K hK
              have hb0 : zB 0 = false := by simpa using hL
              clear hL hm
              simp only [puts, Act.put, List.setIfInBounds_toArray, List.set_cons_zero, List.set_cons_succ]
              obtain ⟨q0, q1, q2, _, _, _⟩ := hW.2.1
              go_simp
              exact hK.out _ _ ⟨fun zj => if zj = 0 then true else zB zj, fun zd => if zd = 23 then .agg #[.int .i64 a, .int .i64 b, .bool false] else zS zd, rfl, by kernel_rfl, ⟨fun _ => rfl, hF.2.1, hF.2.2.1, hF.2.2.2.1, hF.2.2.2.2.1, hF.2.2.2.2.2⟩, hW⟩
            refine StepsI.cons rfl ?_ ?_
            · rintro L zA v ⟨zB, zS, rfl, rfl, hF, hW⟩ hL hm K hK
              have hb1 : zB 1 = false := by simpa using hL
              have hb0 : zB 0 = true := by cases e : zB 0 with | false => (exfalso; revert hm; simp [metB, Region.binds, e]) | true => rfl
              have e0 : zS 23 = .agg #[.int .i64 a, .int .i64 b, .bool false] := hF.1 hb0
              clear hL hm
              simp only [puts, Act.put, List.setIfInBounds_toArray, List.set_cons_zero, List.set_cons_succ]
              simp only [e0]
              go_simp
              refine (flagOf_any a b false _).mono ?_
              rintro e v2 ⟨rfl, hb⟩
              go_wp2_with fail
              exact hK.out _ _ ⟨fun zj => if zj = 0 then true else if zj = 1 then true else zB zj, fun zd => if zd = 24 then .agg #[.int .i64 a, .int .i64 b, .bool false] else if zd = 23 then .agg #[.int .i64 a, .int .i64 b, .bool false] else zS zd, by simp [hb0], by kernel_rfl, ⟨fun _ => rfl, fun _ => rfl, hF.2.2.1, hF.2.2.2.1, hF.2.2.2.2.1, hF.2.2.2.2.2⟩, ⟨below_step hW.1 hb, hW.2.1.below hb, hW.2.2.1.below hb, fun e => (hW.2.2.2.1 e).below hb, fun e => (hW.2.2.2.2.1 e).below hb, (hb.cell (p := ⟨(w.heap.size + 1 + 1), 0, none⟩) (World.block_lt_of_cell? _ _ hW.2.2.2.2.2)).trans hW.2.2.2.2.2⟩⟩
            refine StepsI.cons rfl ?_ ?_
            · rintro L zA v ⟨zB, zS, rfl, rfl, hF, hW⟩ hL hm K hK
              have hb2 : zB 2 = false := by simpa using hL
              clear hL hm
              simp only [puts, Act.put, List.setIfInBounds_toArray, List.set_cons_zero, List.set_cons_succ]
              obtain ⟨q0, q1, q2, _, _, _⟩ := hW.2.2.1
              go_simp
              exact hK.out _ _ ⟨fun zj => if zj = 2 then true else zB zj, fun zd => if zd = 25 then .agg #[.int .i64 c, .int .i64 d, .bool t] else zS zd, rfl, by kernel_rfl, ⟨hF.1, hF.2.1, fun _ => rfl, hF.2.2.2.1, hF.2.2.2.2.1, hF.2.2.2.2.2⟩, hW⟩
            refine StepsI.cons rfl ?_ ?_
            · rintro L zA v ⟨zB, zS, rfl, rfl, hF, hW⟩ hL hm K hK
              have hb3 : zB 3 = false := by simpa using hL
              have hb2 : zB 2 = true := by cases e : zB 2 with | false => (exfalso; revert hm; simp [metB, Region.binds, e]) | true => rfl
              have e2 : zS 25 = .agg #[.int .i64 c, .int .i64 d, .bool t] := hF.2.2.1 hb2
              clear hL hm
              simp only [puts, Act.put, List.setIfInBounds_toArray, List.set_cons_zero, List.set_cons_succ]
              simp only [e2]
              go_simp
              refine (flagOf_any c d t _).mono ?_
              rintro e v2 ⟨rfl, hb⟩
              go_wp2_with fail
              exact hK.out _ _ ⟨fun zj => if zj = 2 then true else if zj = 3 then true else zB zj, fun zd => if zd = 26 then .agg #[.int .i64 c, .int .i64 d, .bool t] else if zd = 25 then .agg #[.int .i64 c, .int .i64 d, .bool t] else zS zd, by simp [hb2], by kernel_rfl, ⟨hF.1, hF.2.1, fun _ => rfl, fun _ => rfl, hF.2.2.2.2.1, hF.2.2.2.2.2⟩, ⟨below_step hW.1 hb, hW.2.1.below hb, hW.2.2.1.below hb, fun e => (hW.2.2.2.1 e).below hb, fun e => (hW.2.2.2.2.1 e).below hb, (hb.cell (p := ⟨(w.heap.size + 1 + 1), 0, none⟩) (World.block_lt_of_cell? _ _ hW.2.2.2.2.2)).trans hW.2.2.2.2.2⟩⟩
            refine StepsI.cons rfl ?_ ?_
            · rintro L zA v ⟨zB, zS, rfl, rfl, hF, hW⟩ hL hm K hK
              have hb4 : zB 4 = false := by simpa using hL
              clear hL hm
              simp only [puts, Act.put, List.setIfInBounds_toArray, List.set_cons_zero, List.set_cons_succ]
              go_simp
              exact hK.out _ _ ⟨fun zj => if zj = 4 then true else zB zj, fun zd => if zd = 27 then .func (.func 87) #[] #[.pointer (some ⟨(w.heap.size + 1 + 1), 0, none⟩)] else zS zd, rfl, by kernel_rfl, ⟨hF.1, hF.2.1, hF.2.2.1, hF.2.2.2.1, fun _ => rfl, hF.2.2.2.2.2⟩, hW⟩
            refine StepsI.cons rfl ?_ ?_
            · rintro L zA v ⟨zB, zS, rfl, rfl, hF, hW⟩ hL hm K hK
              have hb5 : zB 5 = false := by simpa using hL
              have hb1 : zB 1 = true := by cases e : zB 1 with | false => (exfalso; revert hm; simp [metB, Region.binds, e]) | true => rfl
              have hb3 : zB 3 = true := by cases e : zB 3 with | false => (exfalso; revert hm; simp [metB, Region.binds, e]) | true => rfl
              have hb4 : zB 4 = true := by cases e : zB 4 with | false => (exfalso; revert hm; simp [metB, Region.binds, e]) | true => rfl
              have e1 : zS 24 = .agg #[.int .i64 a, .int .i64 b, .bool false] := hF.2.1 hb1
              have e3 : zS 26 = .agg #[.int .i64 c, .int .i64 d, .bool t] := hF.2.2.2.1 hb3
              have e4 : zS 27 = .func (.func 87) #[] #[.pointer (some ⟨(w.heap.size + 1 + 1), 0, none⟩)] := hF.2.2.2.2.1 hb4
              clear hL hm
              simp only [puts, Act.put, List.setIfInBounds_toArray, List.set_cons_zero, List.set_cons_succ]
              simp only [e1, e3, e4]
              go_simp
              refine (with_widen a b false c d t l k off cap (w.heap.size + 1 + 1) _ hW.2.2.2.2.2 (HL.out.below hW.1) HN.out).mono ?_
              rintro e v2 ⟨rfl, hb⟩
              rw [HR1.out, HR2.out]
              rw [Bool.false_and]
              go_wp2_with fail
              exact hK.out _ _ ⟨fun zj => if zj = 4 then true else if zj = 3 then true else if zj = 1 then true else if zj = 5 then true else zB zj, fun zd => if zd = 28 then .agg #[.int .i64 r1, .int .i64 r2, .bool false] else if zd = 27 then .func (.func 87) #[] #[.pointer (some ⟨(w.heap.size + 1 + 1), 0, none⟩)] else if zd = 26 then .agg #[.int .i64 c, .int .i64 d, .bool t] else if zd = 24 then .agg #[.int .i64 a, .int .i64 b, .bool false] else zS zd, by simp [hb1, hb3, hb4], by kernel_rfl, ⟨hF.1, fun _ => rfl, hF.2.2.1, fun _ => rfl, fun _ => rfl, fun _ => rfl⟩, ⟨below_step hW.1 hb, hW.2.1.below hb, hW.2.2.1.below hb, fun e => (hW.2.2.2.1 e).below hb, fun e => (hW.2.2.2.2.1 e).below hb, (hb.cell (p := ⟨(w.heap.size + 1 + 1), 0, none⟩) (World.block_lt_of_cell? _ _ hW.2.2.2.2.2)).trans hW.2.2.2.2.2⟩⟩
            refine StepsI.cons rfl ?_ ?_
            · rintro L zA v ⟨zB, zS, rfl, rfl, hF, hW⟩ hL hm K hK
              have hb6 : zB 6 = false := by simpa using hL
              have hb5 : zB 5 = true := by cases e : zB 5 with | false => (exfalso; revert hm; simp [metB, Region.binds, e]) | true => rfl
              have e5 : zS 28 = .agg #[.int .i64 r1, .int .i64 r2, .bool false] := hF.2.2.2.2.2 hb5
              clear hL hm
              rw [hb6] at hW
              simp only [puts, Act.put, List.setIfInBounds_toArray, List.set_cons_zero, List.set_cons_succ]
              simp only [e5]
              obtain ⟨hB, hX, hY, hZ0, hZ1, hPP⟩ := hW
              have hZ := hZ0 rfl
              have ⟨q0, q1, q2, q3, q4, q5⟩ := hZ
              go_simp
              exact hK.out _ _ ⟨fun zj => if zj = 5 then true else if zj = 6 then true else zB zj, fun zd => if zd = 28 then .agg #[.int .i64 r1, .int .i64 r2, .bool false] else zS zd, by simp [hb5], by kernel_rfl, ⟨hF.1, hF.2.1, hF.2.2.1, hF.2.2.2.1, hF.2.2.2.2.1, fun _ => rfl⟩, ⟨bl_set (bl_set (bl_set hB (by show w.heap.size ≤ (w.heap.size + 1 + 1 + 1); omega) _) (by show w.heap.size ≤ (w.heap.size + 1 + 1 + 1); omega) _) (by show w.heap.size ≤ (w.heap.size + 1 + 1 + 1); omega) _, hX.other (by omega) _ _ _, hY.other (by omega) _ _ _, fun e => tf e, fun _ => hZ.set _ _ _, by simp [go_sem, hPP]⟩⟩
            exact StepsI.nil (by kernel_rfl)
          · rintro L zA v ⟨zB, zS, rfl, rfl, hF, hW⟩ hr
            have hu := all_up (by kernel_rfl) (N := 7) (by kernel_rfl) hr
            have hb0 : zB 0 = true := by simpa using hu 0 (by decide)
            have hb1 : zB 1 = true := by simpa using hu 1 (by decide)
            have hb2 : zB 2 = true := by simpa using hu 2 (by decide)
            have hb3 : zB 3 = true := by simpa using hu 3 (by decide)
            have hb4 : zB 4 = true := by simpa using hu 4 (by decide)
            have hb5 : zB 5 = true := by simpa using hu 5 (by decide)
            have hb6 : zB 6 = true := by simpa using hu 6 (by decide)
            have e0 : zS 23 = .agg #[.int .i64 a, .int .i64 b, .bool false] := hF.1 hb0
            have e1 : zS 24 = .agg #[.int .i64 a, .int .i64 b, .bool false] := hF.2.1 hb1
            have e2 : zS 25 = .agg #[.int .i64 c, .int .i64 d, .bool t] := hF.2.2.1 hb2
            have e3 : zS 26 = .agg #[.int .i64 c, .int .i64 d, .bool t] := hF.2.2.2.1 hb3
            have e4 : zS 27 = .func (.func 87) #[] #[.pointer (some ⟨(w.heap.size + 1 + 1), 0, none⟩)] := hF.2.2.2.2.1 hb4
            have e5 : zS 28 = .agg #[.int .i64 r1, .int .i64 r2, .bool false] := hF.2.2.2.2.2 hb5
            rw [hb6] at hW
            clear hu hr hF
            simp only [puts, Act.put, List.setIfInBounds_toArray, List.set_cons_zero, List.set_cons_succ]
            simp only [e0, e1, e2, e3, e4, e5]
            clear e0 e1 e2 e3 e4 e5
            clear hb0 hb1 hb2 hb3 hb4 hb5 hb6
            clear zB zS
            obtain ⟨hB, hX, hY, hZ0, hZ1, hPP⟩ := hW
            obtain ⟨q0, q1, q2, _, _, _⟩ := hZ1 rfl
            clear hX hY hZ0 hZ1 hPP
            go_wp2
            exact bodyPost_ret (v := .agg #[.int .i64 r1, .int .i64 r2, .bool false]) (by simp [results, Tryd.results38, go_sem, *]) rfl ⟨ret_v E.out, hB⟩
        · have E : Hid (widenV a b true c d t l = ((widenM a b c d l).1, (widenM a b c d l).2, t)) := mkHid (by unfold widenV; rw [h1, h2, h3]; simp)
          obtain ⟨r1, hr1⟩ : ∃ x, (widenM a b c d l).1 = x := ⟨_, rfl⟩
          obtain ⟨r2, hr2⟩ : ∃ x, (widenM a b c d l).2 = x := ⟨_, rfl⟩
          rw [hr1, hr2] at E
          have HR1 := mkHid hr1
          have HR2 := mkHid hr2
          clear hr1 hr2
          go_enter Tryd.func38, Tryd.ntmps38
          go_wp2_with fail
          obtain ⟨w0, hw0⟩ : ∃ x : World, (((w.alloc (.cells #[.int .i64 a, .int .i64 b, .bool true] 33)).alloc (.cells #[.int .i64 c, .int .i64 d, .bool t] 33)).alloc (.cells #[.slice (some ⟨k, off, none⟩) l.length cap] 53)).alloc (.cells #[.int .i64 0, .int .i64 0, .bool false] 33) = x := ⟨_, rfl⟩
          have HB0 : Hid (Below w.heap.size w w0) := mkHid (by rw [← hw0]; exact bl_alloc (bl_alloc (bl_alloc (bl_alloc (Below.refl _ _) _) _) _) _)
          have HX0 : Hid (V3 w0 w.heap.size a b true) := mkHid (by rw [← hw0]; constructor <;> simp [go_sem])
          have HY0 : Hid (V3 w0 (w.heap.size + 1) c d t) := mkHid (by rw [← hw0]; constructor <;> simp [go_sem])
          have HZ0 : Hid (V3 w0 (w.heap.size + 1 + 1 + 1) 0 0 false) := mkHid (by rw [← hw0]; constructor <;> simp [go_sem])
          have HP0 : Hid (w0.cell? ⟨(w.heap.size + 1 + 1), 0, none⟩ = some (.slice (some ⟨k, off, none⟩) l.length cap)) := mkHid (by rw [← hw0]; simp [go_sem])
          rw [hw0]
          clear hw0
          refine (iVok_any a b true _).mono ?_
          rintro e w1 ⟨rfl, hb⟩
          have HB1 := mkHid (below_step HB0.out hb)
          have HX1 := mkHid (HX0.out.below hb)
          have HY1 := mkHid (HY0.out.below hb)
          have HZ1 := mkHid (HZ0.out.below hb)
          have HP1 := mkHid ((hb.cell (p := ⟨(w.heap.size + 1 + 1), 0, none⟩) (World.block_lt_of_cell? _ _ HP0.out)).trans HP0.out)
          clear hb HB0 HX0 HY0 HZ0 HP0
          obtain ⟨q0, q1, q2, q3, q4, q5⟩ := HY1.out
          go_wp2_with fail
          clear q0 q1 q2 q3 q4 q5
          refine (iVok_any c d t _).mono ?_
          rintro e w2 ⟨rfl, hb⟩
          have HB2 := mkHid (below_step HB1.out hb)
          have HX2 := mkHid (HX1.out.below hb)
          have HY2 := mkHid (HY1.out.below hb)
          have HZ2 := mkHid (HZ1.out.below hb)
          have HP2 := mkHid ((hb.cell (p := ⟨(w.heap.size + 1 + 1), 0, none⟩) (World.block_lt_of_cell? _ _ HP1.out)).trans HP1.out)
          clear hb HB1 HX1 HY1 HZ1 HP1
          have qp := HP2.out
          go_wp2_with fail
          refine (areSteps_of l k off cap _ HN.out (HL.out.below HB2.out)).mono ?_
          rintro e w3 ⟨rfl, hb⟩
          clear qp
          have HB3 := mkHid (below_step HB2.out hb)
          have HX3 := mkHid (HX2.out.below hb)
          have HY3 := mkHid (HY2.out.below hb)
          have HZ3 := mkHid (HZ2.out.below hb)
          have HP3 := mkHid ((hb.cell (p := ⟨(w.heap.size + 1 + 1), 0, none⟩) (World.block_lt_of_cell? _ _ HP2.out)).trans HP2.out)
          clear hb HB2 HX2 HY2 HZ2 HP2
          have hsz0 : w.heap.size + 1 + 1 + 1 < w3.heap.size := HZ3.out.lt
          have qp := HP3.out
          go_wp2_with fail
          have HB := mkHid HB3.out.drew
          have HX := mkHid HX3.out.drew
          have HY := mkHid HY3.out.drew
          have HZ := mkHid HZ3.out.drew
          refine wp_region_inv2 (fun zA0 L zA v => ∃ (zB : Nat → Bool) (zS : Nat → Value), L = #[zB 0, zB 1, zB 2, zB 3, zB 4, zB 5, zB 6] ∧ zA = puts zA0 [(23, zS 23), (24, zS 24), (25, zS 25), (26, zS 26), (27, zS 27), (28, zS 28)] ∧ ((zB 0 = true → zS 23 = .agg #[.int .i64 a, .int .i64 b, .bool true]) ∧ (zB 1 = true → zS 24 = .agg #[.int .i64 a, .int .i64 b, .bool true]) ∧ (zB 2 = true → zS 25 = .agg #[.int .i64 c, .int .i64 d, .bool t]) ∧ (zB 3 = true → zS 26 = .agg #[.int .i64 c, .int .i64 d, .bool t]) ∧ (zB 4 = true → zS 27 = .func (.func 87) #[] #[.pointer (some ⟨(w.heap.size + 1 + 1), 0, none⟩)]) ∧ (zB 5 = true → zS 28 = .agg #[.int .i64 r1, .int .i64 r2, .bool t])) ∧ (Below w.heap.size w v ∧ V3 v w.heap.size a b true ∧ V3 v (w.heap.size + 1) c d t ∧ ((zB 6) = false → V3 v (w.heap.size + 1 + 1 + 1) 0 0 false) ∧ ((zB 6) = true → V3 v (w.heap.size + 1 + 1 + 1) r1 r2 t) ∧ v.cell? ⟨(w.heap.size + 1 + 1), 0, none⟩ = some (.slice (some ⟨k, off, none⟩) l.length cap))) (by kernel_rfl) ?_ ?_ ?_
          · exact ⟨fun _ => false, fun _ => undef, rfl, by kernel_rfl, ⟨fun e => ft e, fun e => ft e, fun e => ft e, fun e => ft e, fun e => ft e, fun e => ft e⟩, ⟨HB.out, HX.out, HY.out, fun _ => HZ.out, fun e => ft e, HP3.out⟩⟩
          · refine StepsI.cons rfl ?_ ?_
            · rintro L zA v ⟨zB, zS, rfl, rfl, hF, hW⟩ hL hm K hK
              have hb0 : zB 0 = false := by simpa using hL
              clear hL hm
              simp only [puts, Act.put, List.setIfInBounds_toArray, List.set_cons_zero, List.set_cons_succ]
              obtain ⟨q0, q1, q2, _, _, _⟩ := hW.2.1
              go_simp
              exact hK.out _ _ ⟨fun zj => if zj = 0 then true else zB zj, fun zd => if zd = 23 then .agg #[.int .i64 a, .int .i64 b, .bool true] else zS zd, rfl, by kernel_rfl, ⟨fun _ => rfl, hF.2.1, hF.2.2.1, hF.2.2.2.1, hF.2.2.2.2.1, hF.2.2.2.2.2⟩, hW⟩
            refine StepsI.cons rfl ?_ ?_
            · rintro L zA v ⟨zB, zS, rfl, rfl, hF, hW⟩ hL hm K hK
              have hb1 : zB 1 = false := by simpa using hL
              have hb0 : zB 0 = true := by cases e : zB 0 with | false => (exfalso; revert hm; simp [metB, Region.binds, e]) | true => rfl
              have e0 : zS 23 = .agg #[.int .i64 a, .int .i64 b, .bool true] := hF.1 hb0
              clear hL hm
              simp only [puts, Act.put, List.setIfInBounds_toArray, List.set_cons_zero, List.set_cons_succ]
              simp only [e0]
              go_simp
              refine (flagOf_any a b true _).mono ?_
              rintro e v2 ⟨rfl, hb⟩
              go_wp2_with fail
              exact hK.out _ _ ⟨fun zj => if zj = 0 then true else if zj = 1 then true else zB zj, fun zd => if zd = 24 then .agg #[.int .i64 a, .int .i64 b, .bool true] else if zd = 23 then .agg #[.int .i64 a, .int .i64 b, .bool true] else zS zd, by simp [hb0], by kernel_rfl, ⟨fun _ => rfl, fun _ => rfl, hF.2.2.1, hF.2.2.2.1, hF.2.2.2.2.1, hF.2.2.2.2.2⟩, ⟨below_step hW.1 hb, hW.2.1.below hb, hW.2.2.1.below hb, fun e => (hW.2.2.2.1 e).below hb, fun e => (hW.2.2.2.2.1 e).below hb, (hb.cell (p := ⟨(w.heap.size + 1 + 1), 0, none⟩) (World.block_lt_of_cell? _ _ hW.2.2.2.2.2)).trans hW.2.2.2.2.2⟩⟩
            refine StepsI.cons rfl ?_ ?_
            · rintro L zA v ⟨zB, zS, rfl, rfl, hF, hW⟩ hL hm K hK
              have hb2 : zB 2 = false := by simpa using hL
              clear hL hm
              simp only [puts, Act.put, List.setIfInBounds_toArray, List.set_cons_zero, List.set_cons_succ]
              obtain ⟨q0, q1, q2, _, _, _⟩ := hW.2.2.1
              go_simp
              exact hK.out _ _ ⟨fun zj => if zj = 2 then true else zB zj, fun zd => if zd = 25 then .agg #[.int .i64 c, .int .i64 d, .bool t] else zS zd, rfl, by kernel_rfl, ⟨hF.1, hF.2.1, fun _ => rfl, hF.2.2.2.1, hF.2.2.2.2.1, hF.2.2.2.2.2⟩, hW⟩
            refine StepsI.cons rfl ?_ ?_
            · rintro L zA v ⟨zB, zS, rfl, rfl, hF, hW⟩ hL hm K hK
              have hb3 : zB 3 = false := by simpa using hL
              have hb2 : zB 2 = true := by cases e : zB 2 with | false => (exfalso; revert hm; simp [metB, Region.binds, e]) | true => rfl
              have e2 : zS 25 = .agg #[.int .i64 c, .int .i64 d, .bool t] := hF.2.2.1 hb2
              clear hL hm
              simp only [puts, Act.put, List.setIfInBounds_toArray, List.set_cons_zero, List.set_cons_succ]
              simp only [e2]
              go_simp
              refine (flagOf_any c d t _).mono ?_
              rintro e v2 ⟨rfl, hb⟩
              go_wp2_with fail
              exact hK.out _ _ ⟨fun zj => if zj = 2 then true else if zj = 3 then true else zB zj, fun zd => if zd = 26 then .agg #[.int .i64 c, .int .i64 d, .bool t] else if zd = 25 then .agg #[.int .i64 c, .int .i64 d, .bool t] else zS zd, by simp [hb2], by kernel_rfl, ⟨hF.1, hF.2.1, fun _ => rfl, fun _ => rfl, hF.2.2.2.2.1, hF.2.2.2.2.2⟩, ⟨below_step hW.1 hb, hW.2.1.below hb, hW.2.2.1.below hb, fun e => (hW.2.2.2.1 e).below hb, fun e => (hW.2.2.2.2.1 e).below hb, (hb.cell (p := ⟨(w.heap.size + 1 + 1), 0, none⟩) (World.block_lt_of_cell? _ _ hW.2.2.2.2.2)).trans hW.2.2.2.2.2⟩⟩
            refine StepsI.cons rfl ?_ ?_
            · rintro L zA v ⟨zB, zS, rfl, rfl, hF, hW⟩ hL hm K hK
              have hb4 : zB 4 = false := by simpa using hL
              clear hL hm
              simp only [puts, Act.put, List.setIfInBounds_toArray, List.set_cons_zero, List.set_cons_succ]
              go_simp
              exact hK.out _ _ ⟨fun zj => if zj = 4 then true else zB zj, fun zd => if zd = 27 then .func (.func 87) #[] #[.pointer (some ⟨(w.heap.size + 1 + 1), 0, none⟩)] else zS zd, rfl, by kernel_rfl, ⟨hF.1, hF.2.1, hF.2.2.1, hF.2.2.2.1, fun _ => rfl, hF.2.2.2.2.2⟩, hW⟩
            refine StepsI.cons rfl ?_ ?_
            · rintro L zA v ⟨zB, zS, rfl, rfl, hF, hW⟩ hL hm K hK
              have hb5 : zB 5 = false := by simpa using hL
              have hb1 : zB 1 = true := by cases e : zB 1 with | false => (exfalso; revert hm; simp [metB, Region.binds, e]) | true => rfl
              have hb3 : zB 3 = true := by cases e : zB 3 with | false => (exfalso; revert hm; simp [metB, Region.binds, e]) | true => rfl
              have hb4 : zB 4 = true := by cases e : zB 4 with | false => (exfalso; revert hm; simp [metB, Region.binds, e]) | true => rfl
              have e1 : zS 24 = .agg #[.int .i64 a, .int .i64 b, .bool true] := hF.2.1 hb1
              have e3 : zS 26 = .agg #[.int .i64 c, .int .i64 d, .bool t] := hF.2.2.2.1 hb3
              have e4 : zS 27 = .func (.func 87) #[] #[.pointer (some ⟨(w.heap.size + 1 + 1), 0, none⟩)] := hF.2.2.2.2.1 hb4
              clear hL hm
              simp only [puts, Act.put, List.setIfInBounds_toArray, List.set_cons_zero, List.set_cons_succ]
              simp only [e1, e3, e4]
              go_simp
              refine (with_widen a b true c d t l k off cap (w.heap.size + 1 + 1) _ hW.2.2.2.2.2 (HL.out.below hW.1) HN.out).mono ?_
              rintro e v2 ⟨rfl, hb⟩
              rw [HR1.out, HR2.out]
              rw [Bool.true_and]
              go_wp2_with fail
              exact hK.out _ _ ⟨fun zj => if zj = 4 then true else if zj = 3 then true else if zj = 1 then true else if zj = 5 then true else zB zj, fun zd => if zd = 28 then .agg #[.int .i64 r1, .int .i64 r2, .bool t] else if zd = 27 then .func (.func 87) #[] #[.pointer (some ⟨(w.heap.size + 1 + 1), 0, none⟩)] else if zd = 26 then .agg #[.int .i64 c, .int .i64 d, .bool t] else if zd = 24 then .agg #[.int .i64 a, .int .i64 b, .bool true] else zS zd, by simp [hb1, hb3, hb4], by kernel_rfl, ⟨hF.1, fun _ => rfl, hF.2.2.1, fun _ => rfl, fun _ => rfl, fun _ => rfl⟩, ⟨below_step hW.1 hb, hW.2.1.below hb, hW.2.2.1.below hb, fun e => (hW.2.2.2.1 e).below hb, fun e => (hW.2.2.2.2.1 e).below hb, (hb.cell (p := ⟨(w.heap.size + 1 + 1), 0, none⟩) (World.block_lt_of_cell? _ _ hW.2.2.2.2.2)).trans hW.2.2.2.2.2⟩⟩
            refine StepsI.cons rfl ?_ ?_
            · rintro L zA v ⟨zB, zS, rfl, rfl, hF, hW⟩ hL hm K hK
              have hb6 : zB 6 = false := by simpa using hL
              have hb5 : zB 5 = true := by cases e : zB 5 with | false => (exfalso; revert hm; simp [metB, Region.binds, e]) | true => rfl
              have e5 : zS 28 = .agg #[.int .i64 r1, .int .i64 r2, .bool t] := hF.2.2.2.2.2 hb5
              clear hL hm
              rw [hb6] at hW
              simp only [puts, Act.put, List.setIfInBounds_toArray, List.set_cons_zero, List.set_cons_succ]
              simp only [e5]
              obtain ⟨hB, hX, hY, hZ0, hZ1, hPP⟩ := hW
              have hZ := hZ0 rfl
              have ⟨q0, q1, q2, q3, q4, q5⟩ := hZ
              go_simp
              exact hK.out _ _ ⟨fun zj => if zj = 5 then true else if zj = 6 then true else zB zj, fun zd => if zd = 28 then .agg #[.int .i64 r1, .int .i64 r2, .bool t] else zS zd, by simp [hb5], by kernel_rfl, ⟨hF.1, hF.2.1, hF.2.2.1, hF.2.2.2.1, hF.2.2.2.2.1, fun _ => rfl⟩, ⟨bl_set (bl_set (bl_set hB (by show w.heap.size ≤ (w.heap.size + 1 + 1 + 1); omega) _) (by show w.heap.size ≤ (w.heap.size + 1 + 1 + 1); omega) _) (by show w.heap.size ≤ (w.heap.size + 1 + 1 + 1); omega) _, hX.other (by omega) _ _ _, hY.other (by omega) _ _ _, fun e => tf e, fun _ => hZ.set _ _ _, by simp [go_sem, hPP]⟩⟩
            exact StepsI.nil (by kernel_rfl)
          · rintro L zA v ⟨zB, zS, rfl, rfl, hF, hW⟩ hr
            have hu := all_up (by kernel_rfl) (N := 7) (by kernel_rfl) hr
            have hb0 : zB 0 = true := by simpa using hu 0 (by decide)
            have hb1 : zB 1 = true := by simpa using hu 1 (by decide)
            have hb2 : zB 2 = true := by simpa using hu 2 (by decide)
            have hb3 : zB 3 = true := by simpa using hu 3 (by decide)
            have hb4 : zB 4 = true := by simpa using hu 4 (by decide)
            have hb5 : zB 5 = true := by simpa using hu 5 (by decide)
            have hb6 : zB 6 = true := by simpa using hu 6 (by decide)
            have e0 : zS 23 = .agg #[.int .i64 a, .int .i64 b, .bool true] := hF.1 hb0
            have e1 : zS 24 = .agg #[.int .i64 a, .int .i64 b, .bool true] := hF.2.1 hb1
            have e2 : zS 25 = .agg #[.int .i64 c, .int .i64 d, .bool t] := hF.2.2.1 hb2
            have e3 : zS 26 = .agg #[.int .i64 c, .int .i64 d, .bool t] := hF.2.2.2.1 hb3
            have e4 : zS 27 = .func (.func 87) #[] #[.pointer (some ⟨(w.heap.size + 1 + 1), 0, none⟩)] := hF.2.2.2.2.1 hb4
            have e5 : zS 28 = .agg #[.int .i64 r1, .int .i64 r2, .bool t] := hF.2.2.2.2.2 hb5
            rw [hb6] at hW
            clear hu hr hF
            simp only [puts, Act.put, List.setIfInBounds_toArray, List.set_cons_zero, List.set_cons_succ]
            simp only [e0, e1, e2, e3, e4, e5]
            clear e0 e1 e2 e3 e4 e5
            clear hb0 hb1 hb2 hb3 hb4 hb5 hb6
            clear zB zS
            obtain ⟨hB, hX, hY, hZ0, hZ1, hPP⟩ := hW
            obtain ⟨q0, q1, q2, _, _, _⟩ := hZ1 rfl
            clear hX hY hZ0 hZ1 hPP
            go_wp2
            exact bodyPost_ret (v := .agg #[.int .i64 r1, .int .i64 r2, .bool t]) (by simp [results, Tryd.results38, go_sem, *]) rfl ⟨ret_v E.out, hB⟩
end Go.Proofs.YtiihjoliodemmaaDoor.Q
