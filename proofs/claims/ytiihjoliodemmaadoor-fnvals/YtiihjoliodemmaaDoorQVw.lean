/-
  CONTRACTS of both ValWidens.
-/
import Derived.Test.YtiihjoliodemmaaDoorQVj
import Derived.Test.YtiihjoliodemmaaDoorQWe
import Derived.Test.YtiihjoliodemmaaDoorQWs
namespace Go.Proofs.YtiihjoliodemmaaDoor.Q
open Go.RowKit

def widenV (a b : Int) (s : Bool) (c d : Int) (t : Bool) (l : List Int) : Int × Int × Bool := if okB a b && (okB c d && stepsB l) then ((widenM a b c d l).1, (widenM a b c d l).2, s && t) else (1, 0, true)
set_option maxRecDepth 100000 in
set_option maxHeartbeats 800000 in
theorem clo_any (a b c d : Int) (l : List Int) (k off cap P : Nat) (w : World) (hP : w.cell? ⟨P, 0, none⟩ = some (.slice (some ⟨k, off, none⟩) l.length cap)) (hl : IntsIn w l k off) (hn : l.length ≤ maxLen) : Calls Tryd.prog 87 #[.agg #[.int .i64 a, .int .i64 b], .agg #[.int .i64 c, .int .i64 d], .pointer (some ⟨P, 0, none⟩)] w fun e w' => e = .returned (.agg #[.int .i64 (widenM a b c d l).1, .int .i64 (widenM a b c d l).2]) ∧ Below w.heap.size w w' := by
  have hPl : P < w.heap.size := World.block_lt_of_cell? _ _ hP
  have h2 : P < w.heap.size + 1 := by omega
  have h3 : P < w.heap.size + 1 + 1 := by omega
  obtain ⟨r1, hr1⟩ : ∃ x, (widenM a b c d l).1 = x := ⟨_, rfl⟩
  obtain ⟨r2, hr2⟩ : ∃ x, (widenM a b c d l).2 = x := ⟨_, rfl⟩
  rw [hr1, hr2]
  have HR1 := mkHid hr1
  have HR2 := mkHid hr2
  have HL := mkHid hl
  have HN := mkHid hn
  clear hr1 hr2 hl hn
  go_enter Tryd.func87, Tryd.ntmps87
  go_wp2_with fail
  refine (iWiden_of a b c d l k off cap _ (HL.out.below (bl_alloc (bl_alloc (bl_alloc (Below.refl _ _) _) _) _)) HN.out).mono ?_
  rintro e w' ⟨rfl, hb⟩
  rw [HR1.out, HR2.out]
  obtain ⟨hc, hf, hm, hs⟩ := bcell4 hb
  have hz0 : w.heap.size + 1 + 1 < w'.heap.size := by have := hb.size; simp at this; omega
  go_wp2
  exact bodyPost_ret (v := .agg #[.int .i64 r1, .int .i64 r2]) (by simp [results, Tryd.results87, go_sem, *]) rfl ⟨rfl, (by repeat (first | with_reducible exact Below.refl _ _ | (with_reducible refine bl_set2 ?_ ?_ _; (first | (simp; done) | (simp [*]; done) | (simp [*] <;> omega))) | with_reducible refine bl_drew ?_ | with_reducible refine bl_alloc ?_ _ | with_reducible refine below_step ?_ (by assumption) | with_reducible assumption))⟩

set_option maxRecDepth 100000 in
set_option maxHeartbeats 800000 in
theorem with_widen (a b : Int) (s : Bool) (c d : Int) (t : Bool) (l : List Int) (k off cap P : Nat) (w : World) (hP : w.cell? ⟨P, 0, none⟩ = some (.slice (some ⟨k, off, none⟩) l.length cap)) (hl : IntsIn w l k off) (hn : l.length ≤ maxLen) : Calls Tryd.prog 84 #[.agg #[.int .i64 a, .int .i64 b, .bool s], .agg #[.int .i64 c, .int .i64 d, .bool t], .func (.func 87) #[] #[.pointer (some ⟨P, 0, none⟩)]] w fun e w' => e = .returned (.agg #[.int .i64 (widenM a b c d l).1, .int .i64 (widenM a b c d l).2, .bool (s && t)]) ∧ Below w.heap.size w w' := by
  obtain ⟨r1, hr1⟩ : ∃ x, (widenM a b c d l).1 = x := ⟨_, rfl⟩
  obtain ⟨r2, hr2⟩ : ∃ x, (widenM a b c d l).2 = x := ⟨_, rfl⟩
  rw [hr1, hr2]
  have HR1 := mkHid hr1
  have HR2 := mkHid hr2
  clear hr1 hr2
  have HP := mkHid hP
  have HL := mkHid hl
  have HN := mkHid hn
  clear hP hl hn
  cases s
  · go_enter Tryd.func84, Tryd.ntmps84
    go_wp2_with fail
    obtain ⟨w0, hw0⟩ : ∃ x : World, ((w.alloc (.cells #[.int .i64 a, .int .i64 b, .bool false] 112)).alloc (.cells #[.int .i64 c, .int .i64 d, .bool t] 112)).alloc (.cells #[.int .i64 0, .int .i64 0, .bool false] 112) = x := ⟨_, rfl⟩
    have HB0 : Hid (Below w.heap.size w w0) := mkHid (by rw [← hw0]; exact bl_alloc (bl_alloc (bl_alloc (Below.refl _ _) _) _) _)
    have HX0 : Hid (V3 w0 w.heap.size a b false) := mkHid (by rw [← hw0]; constructor <;> simp [go_sem])
    have HY0 : Hid (V3 w0 (w.heap.size + 1) c d t) := mkHid (by rw [← hw0]; constructor <;> simp [go_sem])
    have HZ0 : Hid (V3 w0 (w.heap.size + 1 + 1) 0 0 false) := mkHid (by rw [← hw0]; constructor <;> simp [go_sem])
    rw [hw0]
    clear hw0
    have HB := mkHid HB0.out.drew
    have HX := mkHid HX0.out.drew
    have HY := mkHid HY0.out.drew
    have HZ := mkHid HZ0.out.drew
    have hsz0 : w.heap.size + 1 + 1 < w0.heap.size := HZ0.out.lt
    refine wp_region_inv2 (fun zA0 L zA v => ∃ (zB : Nat → Bool) (zS : Nat → Value), L = #[zB 0, zB 1, zB 2, zB 3, zB 4, zB 5, zB 6, zB 7, zB 8, zB 9, zB 10, zB 11, zB 12, zB 13] ∧ zA = puts zA0 [(7, zS 7), (8, zS 8), (9, zS 9), (10, zS 10), (11, zS 11), (12, zS 12), (13, zS 13), (14, zS 14), (15, zS 15), (16, zS 16), (17, zS 17), (18, zS 18), (19, zS 19)] ∧ ((zB 0 = true → zS 7 = .func (.func 87) #[] #[.pointer (some ⟨P, 0, none⟩)]) ∧ (zB 1 = true → zS 8 = .pointer (some ⟨w.heap.size, 0, none⟩)) ∧ (zB 2 = true → zS 9 = .agg #[.int .i64 a, .int .i64 b]) ∧ (zB 3 = true → zS 10 = .pointer (some ⟨(w.heap.size + 1), 0, none⟩)) ∧ (zB 4 = true → zS 11 = .agg #[.int .i64 c, .int .i64 d]) ∧ (zB 5 = true → zS 12 = .agg #[.int .i64 r1, .int .i64 r2]) ∧ (zB 6 = true → zS 13 = .pointer (some ⟨w.heap.size, 2, none⟩)) ∧ (zB 7 = true → zS 14 = .bool false) ∧ (zB 8 = true → zS 15 = .bool false) ∧ (zB 9 = true → zS 16 = undef) ∧ (zB 10 = true → zS 17 = undef) ∧ (zB 11 = true → zS 18 = .bool false) ∧ (zB 12 = true → zS 19 = .agg #[.int .i64 r1, .int .i64 r2, .bool false])) ∧ (Below w.heap.size w v ∧ V3 v w.heap.size a b false ∧ V3 v (w.heap.size + 1) c d t ∧ ((zB 13) = false → V3 v (w.heap.size + 1 + 1) 0 0 false) ∧ ((zB 13) = true → V3 v (w.heap.size + 1 + 1) r1 r2 false))) (by kernel_rfl) ?_ ?_ ?_
    · exact ⟨fun _ => false, fun _ => undef, rfl, by kernel_rfl, ⟨fun e => ft e, fun e => ft e, fun e => ft e, fun e => ft e, fun e => ft e, fun e => ft e, fun e => ft e, fun e => ft e, fun e => ft e, fun e => ft e, fun e => ft e, fun e => ft e, fun e => ft e⟩, ⟨HB.out, HX.out, HY.out, fun _ => HZ.out, fun e => ft e⟩⟩
    · refine StepsI.cons rfl ?_ ?_
      · rintro L zA v ⟨zB, zS, rfl, rfl, hF, hW⟩ hL hm K hK
        have hb0 : zB 0 = false := by simpa using hL
        clear hL hm
        simp only [puts, Act.put, List.setIfInBounds_toArray, List.set_cons_zero, List.set_cons_succ]
        go_simp
        exact hK.out _ _ ⟨fun zj => if zj = 0 then true else zB zj, fun zd => if zd = 7 then .func (.func 87) #[] #[.pointer (some ⟨P, 0, none⟩)] else zS zd, rfl, by kernel_rfl, ⟨fun _ => rfl, hF.2.1, hF.2.2.1, hF.2.2.2.1, hF.2.2.2.2.1, hF.2.2.2.2.2.1, hF.2.2.2.2.2.2.1, hF.2.2.2.2.2.2.2.1, hF.2.2.2.2.2.2.2.2.1, hF.2.2.2.2.2.2.2.2.2.1, hF.2.2.2.2.2.2.2.2.2.2.1, hF.2.2.2.2.2.2.2.2.2.2.2.1, hF.2.2.2.2.2.2.2.2.2.2.2.2⟩, hW⟩
      refine StepsI.cons rfl ?_ ?_
      · rintro L zA v ⟨zB, zS, rfl, rfl, hF, hW⟩ hL hm K hK
        have hb1 : zB 1 = false := by simpa using hL
        clear hL hm
        simp only [puts, Act.put, List.setIfInBounds_toArray, List.set_cons_zero, List.set_cons_succ]
        go_simp
        exact hK.out _ _ ⟨fun zj => if zj = 1 then true else zB zj, fun zd => if zd = 8 then .pointer (some ⟨w.heap.size, 0, none⟩) else zS zd, rfl, by kernel_rfl, ⟨hF.1, fun _ => rfl, hF.2.2.1, hF.2.2.2.1, hF.2.2.2.2.1, hF.2.2.2.2.2.1, hF.2.2.2.2.2.2.1, hF.2.2.2.2.2.2.2.1, hF.2.2.2.2.2.2.2.2.1, hF.2.2.2.2.2.2.2.2.2.1, hF.2.2.2.2.2.2.2.2.2.2.1, hF.2.2.2.2.2.2.2.2.2.2.2.1, hF.2.2.2.2.2.2.2.2.2.2.2.2⟩, hW⟩
      refine StepsI.cons rfl ?_ ?_
      · rintro L zA v ⟨zB, zS, rfl, rfl, hF, hW⟩ hL hm K hK
        have hb2 : zB 2 = false := by simpa using hL
        have hb1 : zB 1 = true := by cases e : zB 1 with | false => (exfalso; revert hm; simp [metB, Region.binds, e]) | true => rfl
        have e1 : zS 8 = .pointer (some ⟨w.heap.size, 0, none⟩) := hF.2.1 hb1
        clear hL hm
        simp only [puts, Act.put, List.setIfInBounds_toArray, List.set_cons_zero, List.set_cons_succ]
        simp only [e1]
        obtain ⟨q0, q1, q2, _, _, _⟩ := hW.2.1
        go_simp
        exact hK.out _ _ ⟨fun zj => if zj = 1 then true else if zj = 2 then true else zB zj, fun zd => if zd = 9 then .agg #[.int .i64 a, .int .i64 b] else if zd = 8 then .pointer (some ⟨w.heap.size, 0, none⟩) else zS zd, by simp [hb1], by kernel_rfl, ⟨hF.1, fun _ => rfl, fun _ => rfl, hF.2.2.2.1, hF.2.2.2.2.1, hF.2.2.2.2.2.1, hF.2.2.2.2.2.2.1, hF.2.2.2.2.2.2.2.1, hF.2.2.2.2.2.2.2.2.1, hF.2.2.2.2.2.2.2.2.2.1, hF.2.2.2.2.2.2.2.2.2.2.1, hF.2.2.2.2.2.2.2.2.2.2.2.1, hF.2.2.2.2.2.2.2.2.2.2.2.2⟩, hW⟩
      refine StepsI.cons rfl ?_ ?_
      · rintro L zA v ⟨zB, zS, rfl, rfl, hF, hW⟩ hL hm K hK
        have hb3 : zB 3 = false := by simpa using hL
        clear hL hm
        simp only [puts, Act.put, List.setIfInBounds_toArray, List.set_cons_zero, List.set_cons_succ]
        go_simp
        exact hK.out _ _ ⟨fun zj => if zj = 3 then true else zB zj, fun zd => if zd = 10 then .pointer (some ⟨(w.heap.size + 1), 0, none⟩) else zS zd, rfl, by kernel_rfl, ⟨hF.1, hF.2.1, hF.2.2.1, fun _ => rfl, hF.2.2.2.2.1, hF.2.2.2.2.2.1, hF.2.2.2.2.2.2.1, hF.2.2.2.2.2.2.2.1, hF.2.2.2.2.2.2.2.2.1, hF.2.2.2.2.2.2.2.2.2.1, hF.2.2.2.2.2.2.2.2.2.2.1, hF.2.2.2.2.2.2.2.2.2.2.2.1, hF.2.2.2.2.2.2.2.2.2.2.2.2⟩, hW⟩
      refine StepsI.cons rfl ?_ ?_
      · rintro L zA v ⟨zB, zS, rfl, rfl, hF, hW⟩ hL hm K hK
        have hb4 : zB 4 = false := by simpa using hL
        have hb3 : zB 3 = true := by cases e : zB 3 with | false => (exfalso; revert hm; simp [metB, Region.binds, e]) | true => rfl
        have e3 : zS 10 = .pointer (some ⟨(w.heap.size + 1), 0, none⟩) := hF.2.2.2.1 hb3
        clear hL hm
        simp only [puts, Act.put, List.setIfInBounds_toArray, List.set_cons_zero, List.set_cons_succ]
        simp only [e3]
        obtain ⟨q0, q1, q2, _, _, _⟩ := hW.2.2.1
        go_simp
        exact hK.out _ _ ⟨fun zj => if zj = 3 then true else if zj = 4 then true else zB zj, fun zd => if zd = 11 then .agg #[.int .i64 c, .int .i64 d] else if zd = 10 then .pointer (some ⟨(w.heap.size + 1), 0, none⟩) else zS zd, by simp [hb3], by kernel_rfl, ⟨hF.1, hF.2.1, hF.2.2.1, fun _ => rfl, fun _ => rfl, hF.2.2.2.2.2.1, hF.2.2.2.2.2.2.1, hF.2.2.2.2.2.2.2.1, hF.2.2.2.2.2.2.2.2.1, hF.2.2.2.2.2.2.2.2.2.1, hF.2.2.2.2.2.2.2.2.2.2.1, hF.2.2.2.2.2.2.2.2.2.2.2.1, hF.2.2.2.2.2.2.2.2.2.2.2.2⟩, hW⟩
      refine StepsI.cons rfl ?_ ?_
      · rintro L zA v ⟨zB, zS, rfl, rfl, hF, hW⟩ hL hm K hK
        have hb5 : zB 5 = false := by simpa using hL
        have hb0 : zB 0 = true := by cases e : zB 0 with | false => (exfalso; revert hm; simp [metB, Region.binds, e]) | true => rfl
        have hb2 : zB 2 = true := by cases e : zB 2 with | false => (exfalso; revert hm; simp [metB, Region.binds, e]) | true => rfl
        have hb4 : zB 4 = true := by cases e : zB 4 with | false => (exfalso; revert hm; simp [metB, Region.binds, e]) | true => rfl
        have e0 : zS 7 = .func (.func 87) #[] #[.pointer (some ⟨P, 0, none⟩)] := hF.1 hb0
        have e2 : zS 9 = .agg #[.int .i64 a, .int .i64 b] := hF.2.2.1 hb2
        have e4 : zS 11 = .agg #[.int .i64 c, .int .i64 d] := hF.2.2.2.2.1 hb4
        clear hL hm
        simp only [puts, Act.put, List.setIfInBounds_toArray, List.set_cons_zero, List.set_cons_succ]
        simp only [e0, e2, e4]
        go_simp
        refine (clo_any a b c d l k off cap P _ ((hW.1.cell (p := ⟨P, 0, none⟩) (World.block_lt_of_cell? _ _ HP.out)).trans HP.out) (HL.out.below hW.1) HN.out).mono ?_
        rintro e v2 ⟨rfl, hb⟩
        rw [HR1.out, HR2.out]
        go_wp2_with fail
        exact hK.out _ _ ⟨fun zj => if zj = 4 then true else if zj = 2 then true else if zj = 0 then true else if zj = 5 then true else zB zj, fun zd => if zd = 12 then .agg #[.int .i64 r1, .int .i64 r2] else if zd = 11 then .agg #[.int .i64 c, .int .i64 d] else if zd = 9 then .agg #[.int .i64 a, .int .i64 b] else if zd = 7 then .func (.func 87) #[] #[.pointer (some ⟨P, 0, none⟩)] else zS zd, by simp [hb0, hb2, hb4], by kernel_rfl, ⟨fun _ => rfl, hF.2.1, fun _ => rfl, hF.2.2.2.1, fun _ => rfl, fun _ => rfl, hF.2.2.2.2.2.2.1, hF.2.2.2.2.2.2.2.1, hF.2.2.2.2.2.2.2.2.1, hF.2.2.2.2.2.2.2.2.2.1, hF.2.2.2.2.2.2.2.2.2.2.1, hF.2.2.2.2.2.2.2.2.2.2.2.1, hF.2.2.2.2.2.2.2.2.2.2.2.2⟩, ⟨below_step hW.1 hb, hW.2.1.below hb, hW.2.2.1.below hb, fun e => (hW.2.2.2.1 e).below hb, fun e => (hW.2.2.2.2 e).below hb⟩⟩
      refine StepsI.cons rfl ?_ ?_
      · rintro L zA v ⟨zB, zS, rfl, rfl, hF, hW⟩ hL hm K hK
        have hb6 : zB 6 = false := by simpa using hL
        clear hL hm
        simp only [puts, Act.put, List.setIfInBounds_toArray, List.set_cons_zero, List.set_cons_succ]
        go_simp
        exact hK.out _ _ ⟨fun zj => if zj = 6 then true else zB zj, fun zd => if zd = 13 then .pointer (some ⟨w.heap.size, 2, none⟩) else zS zd, rfl, by kernel_rfl, ⟨hF.1, hF.2.1, hF.2.2.1, hF.2.2.2.1, hF.2.2.2.2.1, hF.2.2.2.2.2.1, fun _ => rfl, hF.2.2.2.2.2.2.2.1, hF.2.2.2.2.2.2.2.2.1, hF.2.2.2.2.2.2.2.2.2.1, hF.2.2.2.2.2.2.2.2.2.2.1, hF.2.2.2.2.2.2.2.2.2.2.2.1, hF.2.2.2.2.2.2.2.2.2.2.2.2⟩, hW⟩
      refine StepsI.cons rfl ?_ ?_
      · rintro L zA v ⟨zB, zS, rfl, rfl, hF, hW⟩ hL hm K hK
        have hb7 : zB 7 = false := by simpa using hL
        have hb6 : zB 6 = true := by cases e : zB 6 with | false => (exfalso; revert hm; simp [metB, Region.binds, e]) | true => rfl
        have e6 : zS 13 = .pointer (some ⟨w.heap.size, 2, none⟩) := hF.2.2.2.2.2.2.1 hb6
        clear hL hm
        simp only [puts, Act.put, List.setIfInBounds_toArray, List.set_cons_zero, List.set_cons_succ]
        simp only [e6]
        obtain ⟨q0, q1, q2, _, _, _⟩ := hW.2.1
        go_simp
        exact hK.out _ _ ⟨fun zj => if zj = 6 then true else if zj = 7 then true else zB zj, fun zd => if zd = 14 then .bool false else if zd = 13 then .pointer (some ⟨w.heap.size, 2, none⟩) else zS zd, by simp [hb6], by kernel_rfl, ⟨hF.1, hF.2.1, hF.2.2.1, hF.2.2.2.1, hF.2.2.2.2.1, hF.2.2.2.2.2.1, fun _ => rfl, fun _ => rfl, hF.2.2.2.2.2.2.2.2.1, hF.2.2.2.2.2.2.2.2.2.1, hF.2.2.2.2.2.2.2.2.2.2.1, hF.2.2.2.2.2.2.2.2.2.2.2.1, hF.2.2.2.2.2.2.2.2.2.2.2.2⟩, hW⟩
      refine StepsI.cons rfl ?_ ?_
      · rintro L zA v ⟨zB, zS, rfl, rfl, hF, hW⟩ hL hm K hK
        have hb8 : zB 8 = false := by simpa using hL
        have hb7 : zB 7 = true := by cases e : zB 7 with | false => (exfalso; revert hm; simp [metB, Region.binds, e]) | true => rfl
        have e7 : zS 14 = .bool false := hF.2.2.2.2.2.2.2.1 hb7
        clear hL hm
        simp only [puts, Act.put, List.setIfInBounds_toArray, List.set_cons_zero, List.set_cons_succ]
        simp only [e7]
        go_simp
        exact hK.out _ _ ⟨fun zj => if zj = 7 then true else if zj = 8 then true else zB zj, fun zd => if zd = 15 then .bool false else if zd = 14 then .bool false else zS zd, by simp [hb7], by kernel_rfl, ⟨hF.1, hF.2.1, hF.2.2.1, hF.2.2.2.1, hF.2.2.2.2.1, hF.2.2.2.2.2.1, hF.2.2.2.2.2.2.1, fun _ => rfl, fun _ => rfl, hF.2.2.2.2.2.2.2.2.2.1, hF.2.2.2.2.2.2.2.2.2.2.1, hF.2.2.2.2.2.2.2.2.2.2.2.1, hF.2.2.2.2.2.2.2.2.2.2.2.2⟩, hW⟩
      refine StepsI.cons rfl ?_ ?_
      · rintro L zA v ⟨zB, zS, rfl, rfl, hF, hW⟩ hL hm K hK
        have hb9 : zB 9 = false := by simpa using hL
        have hb8 : zB 8 = true := by cases e : zB 8 with | false => (exfalso; revert hm; simp [metB, Region.binds, e]) | true => rfl
        have e8 : zS 15 = .bool false := hF.2.2.2.2.2.2.2.2.1 hb8
        clear hL hm
        simp only [puts, Act.put, List.setIfInBounds_toArray, List.set_cons_zero, List.set_cons_succ]
        simp only [e8]
        rw [if_neg (by exact Bool.false_ne_true)]
        exact hK.out _ _ ⟨fun zj => if zj = 8 then true else if zj = 9 then true else zB zj, fun zd => if zd = 16 then undef else if zd = 15 then .bool false else zS zd, by simp [hb8], by kernel_rfl, ⟨hF.1, hF.2.1, hF.2.2.1, hF.2.2.2.1, hF.2.2.2.2.1, hF.2.2.2.2.2.1, hF.2.2.2.2.2.2.1, hF.2.2.2.2.2.2.2.1, fun _ => rfl, fun _ => rfl, hF.2.2.2.2.2.2.2.2.2.2.1, hF.2.2.2.2.2.2.2.2.2.2.2.1, hF.2.2.2.2.2.2.2.2.2.2.2.2⟩, hW⟩
      refine StepsI.cons rfl ?_ ?_
      · rintro L zA v ⟨zB, zS, rfl, rfl, hF, hW⟩ hL hm K hK
        have hb10 : zB 10 = false := by simpa using hL
        have hb8 : zB 8 = true := by cases e : zB 8 with | false => (exfalso; revert hm; simp [metB, Region.binds, e]) | true => rfl
        have hb9 : zB 9 = true := by cases e : zB 9 with | false => (exfalso; revert hm; simp [metB, Region.binds, e]) | true => rfl
        have e8 : zS 15 = .bool false := hF.2.2.2.2.2.2.2.2.1 hb8
        have e9 : zS 16 = undef := hF.2.2.2.2.2.2.2.2.2.1 hb9
        clear hL hm
        simp only [puts, Act.put, List.setIfInBounds_toArray, List.set_cons_zero, List.set_cons_succ]
        simp only [e8, e9]
        rw [if_neg (by exact Bool.false_ne_true)]
        exact hK.out _ _ ⟨fun zj => if zj = 9 then true else if zj = 8 then true else if zj = 10 then true else zB zj, fun zd => if zd = 17 then undef else if zd = 16 then undef else if zd = 15 then .bool false else zS zd, by simp [hb8, hb9], by kernel_rfl, ⟨hF.1, hF.2.1, hF.2.2.1, hF.2.2.2.1, hF.2.2.2.2.1, hF.2.2.2.2.2.1, hF.2.2.2.2.2.2.1, hF.2.2.2.2.2.2.2.1, fun _ => rfl, fun _ => rfl, fun _ => rfl, hF.2.2.2.2.2.2.2.2.2.2.2.1, hF.2.2.2.2.2.2.2.2.2.2.2.2⟩, hW⟩
      refine StepsI.cons rfl ?_ ?_
      · rintro L zA v ⟨zB, zS, rfl, rfl, hF, hW⟩ hL hm K hK
        have hb11 : zB 11 = false := by simpa using hL
        have hb8 : zB 8 = true := by cases e : zB 8 with | false => (exfalso; revert hm; simp [metB, Region.binds, e]) | true => rfl
        have hb10 : zB 10 = true := by cases e : zB 10 with | false => (exfalso; revert hm; simp [metB, Region.binds, e]) | true => rfl
        have e8 : zS 15 = .bool false := hF.2.2.2.2.2.2.2.2.1 hb8
        have e10 : zS 17 = undef := hF.2.2.2.2.2.2.2.2.2.2.1 hb10
        clear hL hm
        simp only [puts, Act.put, List.setIfInBounds_toArray, List.set_cons_zero, List.set_cons_succ]
        simp only [e8, e10]
        go_simp
        exact hK.out _ _ ⟨fun zj => if zj = 10 then true else if zj = 8 then true else if zj = 11 then true else zB zj, fun zd => if zd = 18 then .bool false else if zd = 17 then undef else if zd = 15 then .bool false else zS zd, by simp [hb8, hb10], by kernel_rfl, ⟨hF.1, hF.2.1, hF.2.2.1, hF.2.2.2.1, hF.2.2.2.2.1, hF.2.2.2.2.2.1, hF.2.2.2.2.2.2.1, hF.2.2.2.2.2.2.2.1, fun _ => rfl, hF.2.2.2.2.2.2.2.2.2.1, fun _ => rfl, fun _ => rfl, hF.2.2.2.2.2.2.2.2.2.2.2.2⟩, hW⟩
      refine StepsI.cons rfl ?_ ?_
      · rintro L zA v ⟨zB, zS, rfl, rfl, hF, hW⟩ hL hm K hK
        have hb12 : zB 12 = false := by simpa using hL
        have hb5 : zB 5 = true := by cases e : zB 5 with | false => (exfalso; revert hm; simp [metB, Region.binds, e]) | true => rfl
        have hb11 : zB 11 = true := by cases e : zB 11 with | false => (exfalso; revert hm; simp [metB, Region.binds, e]) | true => rfl
        have e5 : zS 12 = .agg #[.int .i64 r1, .int .i64 r2] := hF.2.2.2.2.2.1 hb5
        have e11 : zS 18 = .bool false := hF.2.2.2.2.2.2.2.2.2.2.2.1 hb11
        clear hL hm
        simp only [puts, Act.put, List.setIfInBounds_toArray, List.set_cons_zero, List.set_cons_succ]
        simp only [e5, e11]
        go_simp
        exact hK.out _ _ ⟨fun zj => if zj = 11 then true else if zj = 5 then true else if zj = 12 then true else zB zj, fun zd => if zd = 19 then .agg #[.int .i64 r1, .int .i64 r2, .bool false] else if zd = 18 then .bool false else if zd = 12 then .agg #[.int .i64 r1, .int .i64 r2] else zS zd, by simp [hb5, hb11], by kernel_rfl, ⟨hF.1, hF.2.1, hF.2.2.1, hF.2.2.2.1, hF.2.2.2.2.1, fun _ => rfl, hF.2.2.2.2.2.2.1, hF.2.2.2.2.2.2.2.1, hF.2.2.2.2.2.2.2.2.1, hF.2.2.2.2.2.2.2.2.2.1, hF.2.2.2.2.2.2.2.2.2.2.1, fun _ => rfl, fun _ => rfl⟩, hW⟩
      refine StepsI.cons rfl ?_ ?_
      · rintro L zA v ⟨zB, zS, rfl, rfl, hF, hW⟩ hL hm K hK
        have hb13 : zB 13 = false := by simpa using hL
        have hb12 : zB 12 = true := by cases e : zB 12 with | false => (exfalso; revert hm; simp [metB, Region.binds, e]) | true => rfl
        have e12 : zS 19 = .agg #[.int .i64 r1, .int .i64 r2, .bool false] := hF.2.2.2.2.2.2.2.2.2.2.2.2 hb12
        clear hL hm
        rw [hb13] at hW
        simp only [puts, Act.put, List.setIfInBounds_toArray, List.set_cons_zero, List.set_cons_succ]
        simp only [e12]
        obtain ⟨hB, hX, hY, hZ0, hZ1⟩ := hW
        have hZ := hZ0 rfl
        have ⟨q0, q1, q2, q3, q4, q5⟩ := hZ
        go_simp
        exact hK.out _ _ ⟨fun zj => if zj = 12 then true else if zj = 13 then true else zB zj, fun zd => if zd = 19 then .agg #[.int .i64 r1, .int .i64 r2, .bool false] else zS zd, by simp [hb12], by kernel_rfl, ⟨hF.1, hF.2.1, hF.2.2.1, hF.2.2.2.1, hF.2.2.2.2.1, hF.2.2.2.2.2.1, hF.2.2.2.2.2.2.1, hF.2.2.2.2.2.2.2.1, hF.2.2.2.2.2.2.2.2.1, hF.2.2.2.2.2.2.2.2.2.1, hF.2.2.2.2.2.2.2.2.2.2.1, hF.2.2.2.2.2.2.2.2.2.2.2.1, fun _ => rfl⟩, ⟨bl_set (bl_set (bl_set hB (by show w.heap.size ≤ (w.heap.size + 1 + 1); omega) _) (by show w.heap.size ≤ (w.heap.size + 1 + 1); omega) _) (by show w.heap.size ≤ (w.heap.size + 1 + 1); omega) _, hX.other (by omega) _ _ _, hY.other (by omega) _ _ _, fun e => tf e, fun _ => hZ.set _ _ _⟩⟩
      exact StepsI.nil (by kernel_rfl)
    · rintro L zA v ⟨zB, zS, rfl, rfl, hF, hW⟩ hr
      have hu := all_up (by kernel_rfl) (N := 14) (by kernel_rfl) hr
      have hb0 : zB 0 = true := by simpa using hu 0 (by decide)
      have hb1 : zB 1 = true := by simpa using hu 1 (by decide)
      have hb2 : zB 2 = true := by simpa using hu 2 (by decide)
      have hb3 : zB 3 = true := by simpa using hu 3 (by decide)
      have hb4 : zB 4 = true := by simpa using hu 4 (by decide)
      have hb5 : zB 5 = true := by simpa using hu 5 (by decide)
      have hb6 : zB 6 = true := by simpa using hu 6 (by decide)
      have hb7 : zB 7 = true := by simpa using hu 7 (by decide)
      have hb8 : zB 8 = true := by simpa using hu 8 (by decide)
      have hb9 : zB 9 = true := by simpa using hu 9 (by decide)
      have hb10 : zB 10 = true := by simpa using hu 10 (by decide)
      have hb11 : zB 11 = true := by simpa using hu 11 (by decide)
      have hb12 : zB 12 = true := by simpa using hu 12 (by decide)
      have hb13 : zB 13 = true := by simpa using hu 13 (by decide)
      have e0 : zS 7 = .func (.func 87) #[] #[.pointer (some ⟨P, 0, none⟩)] := hF.1 hb0
      have e1 : zS 8 = .pointer (some ⟨w.heap.size, 0, none⟩) := hF.2.1 hb1
      have e2 : zS 9 = .agg #[.int .i64 a, .int .i64 b] := hF.2.2.1 hb2
      have e3 : zS 10 = .pointer (some ⟨(w.heap.size + 1), 0, none⟩) := hF.2.2.2.1 hb3
      have e4 : zS 11 = .agg #[.int .i64 c, .int .i64 d] := hF.2.2.2.2.1 hb4
      have e5 : zS 12 = .agg #[.int .i64 r1, .int .i64 r2] := hF.2.2.2.2.2.1 hb5
      have e6 : zS 13 = .pointer (some ⟨w.heap.size, 2, none⟩) := hF.2.2.2.2.2.2.1 hb6
      have e7 : zS 14 = .bool false := hF.2.2.2.2.2.2.2.1 hb7
      have e8 : zS 15 = .bool false := hF.2.2.2.2.2.2.2.2.1 hb8
      have e9 : zS 16 = undef := hF.2.2.2.2.2.2.2.2.2.1 hb9
      have e10 : zS 17 = undef := hF.2.2.2.2.2.2.2.2.2.2.1 hb10
      have e11 : zS 18 = .bool false := hF.2.2.2.2.2.2.2.2.2.2.2.1 hb11
      have e12 : zS 19 = .agg #[.int .i64 r1, .int .i64 r2, .bool false] := hF.2.2.2.2.2.2.2.2.2.2.2.2 hb12
      rw [hb13] at hW
      clear hu hr hF
      simp only [puts, Act.put, List.setIfInBounds_toArray, List.set_cons_zero, List.set_cons_succ]
      simp only [e0, e1, e2, e3, e4, e5, e6, e7, e8, e9, e10, e11, e12]
      clear e0 e1 e2 e3 e4 e5 e6 e7 e8 e9 e10 e11 e12
      clear hb0 hb1 hb2 hb3 hb4 hb5 hb6 hb7 hb8 hb9 hb10 hb11 hb12 hb13
      clear zB zS
      obtain ⟨hB, hX, hY, hZ0, hZ1⟩ := hW
      obtain ⟨q0, q1, q2, _, _, _⟩ := hZ1 rfl
      clear hX hY hZ0 hZ1
      go_wp2
      exact bodyPost_ret (v := .agg #[.int .i64 r1, .int .i64 r2, .bool false]) (by simp [results, Tryd.results84, go_sem, *]) rfl ⟨rfl, hB⟩
  · go_enter Tryd.func84, Tryd.ntmps84
    go_wp2_with fail
    obtain ⟨w0, hw0⟩ : ∃ x : World, ((w.alloc (.cells #[.int .i64 a, .int .i64 b, .bool true] 112)).alloc (.cells #[.int .i64 c, .int .i64 d, .bool t] 112)).alloc (.cells #[.int .i64 0, .int .i64 0, .bool false] 112) = x := ⟨_, rfl⟩
    have HB0 : Hid (Below w.heap.size w w0) := mkHid (by rw [← hw0]; exact bl_alloc (bl_alloc (bl_alloc (Below.refl _ _) _) _) _)
    have HX0 : Hid (V3 w0 w.heap.size a b true) := mkHid (by rw [← hw0]; constructor <;> simp [go_sem])
    have HY0 : Hid (V3 w0 (w.heap.size + 1) c d t) := mkHid (by rw [← hw0]; constructor <;> simp [go_sem])
    have HZ0 : Hid (V3 w0 (w.heap.size + 1 + 1) 0 0 false) := mkHid (by rw [← hw0]; constructor <;> simp [go_sem])
    rw [hw0]
    clear hw0
    have HB := mkHid HB0.out.drew
    have HX := mkHid HX0.out.drew
    have HY := mkHid HY0.out.drew
    have HZ := mkHid HZ0.out.drew
    have hsz0 : w.heap.size + 1 + 1 < w0.heap.size := HZ0.out.lt
    refine wp_region_inv2 (fun zA0 L zA v => ∃ (zB : Nat → Bool) (zS : Nat → Value), L = #[zB 0, zB 1, zB 2, zB 3, zB 4, zB 5, zB 6, zB 7, zB 8, zB 9, zB 10, zB 11, zB 12, zB 13] ∧ zA = puts zA0 [(7, zS 7), (8, zS 8), (9, zS 9), (10, zS 10), (11, zS 11), (12, zS 12), (13, zS 13), (14, zS 14), (15, zS 15), (16, zS 16), (17, zS 17), (18, zS 18), (19, zS 19)] ∧ ((zB 0 = true → zS 7 = .func (.func 87) #[] #[.pointer (some ⟨P, 0, none⟩)]) ∧ (zB 1 = true → zS 8 = .pointer (some ⟨w.heap.size, 0, none⟩)) ∧ (zB 2 = true → zS 9 = .agg #[.int .i64 a, .int .i64 b]) ∧ (zB 3 = true → zS 10 = .pointer (some ⟨(w.heap.size + 1), 0, none⟩)) ∧ (zB 4 = true → zS 11 = .agg #[.int .i64 c, .int .i64 d]) ∧ (zB 5 = true → zS 12 = .agg #[.int .i64 r1, .int .i64 r2]) ∧ (zB 6 = true → zS 13 = .pointer (some ⟨w.heap.size, 2, none⟩)) ∧ (zB 7 = true → zS 14 = .bool true) ∧ (zB 8 = true → zS 15 = .bool true) ∧ (zB 9 = true → zS 16 = .pointer (some ⟨(w.heap.size + 1), 2, none⟩)) ∧ (zB 10 = true → zS 17 = .bool t) ∧ (zB 11 = true → zS 18 = .bool t) ∧ (zB 12 = true → zS 19 = .agg #[.int .i64 r1, .int .i64 r2, .bool t])) ∧ (Below w.heap.size w v ∧ V3 v w.heap.size a b true ∧ V3 v (w.heap.size + 1) c d t ∧ ((zB 13) = false → V3 v (w.heap.size + 1 + 1) 0 0 false) ∧ ((zB 13) = true → V3 v (w.heap.size + 1 + 1) r1 r2 t))) (by kernel_rfl) ?_ ?_ ?_
    · exact ⟨fun _ => false, fun _ => undef, rfl, by kernel_rfl, ⟨fun e => ft e, fun e => ft e, fun e => ft e, fun e => ft e, fun e => ft e, fun e => ft e, fun e => ft e, fun e => ft e, fun e => ft e, fun e => ft e, fun e => ft e, fun e => ft e, fun e => ft e⟩, ⟨HB.out, HX.out, HY.out, fun _ => HZ.out, fun e => ft e⟩⟩
    · refine StepsI.cons rfl ?_ ?_
      · rintro L zA v ⟨zB, zS, rfl, rfl, hF, hW⟩ hL hm K hK
        have hb0 : zB 0 = false := by simpa using hL
        clear hL hm
        simp only [puts, Act.put, List.setIfInBounds_toArray, List.set_cons_zero, List.set_cons_succ]
        go_simp
        exact hK.out _ _ ⟨fun zj => if zj = 0 then true else zB zj, fun zd => if zd = 7 then .func (.func 87) #[] #[.pointer (some ⟨P, 0, none⟩)] else zS zd, rfl, by kernel_rfl, ⟨fun _ => rfl, hF.2.1, hF.2.2.1, hF.2.2.2.1, hF.2.2.2.2.1, hF.2.2.2.2.2.1, hF.2.2.2.2.2.2.1, hF.2.2.2.2.2.2.2.1, hF.2.2.2.2.2.2.2.2.1, hF.2.2.2.2.2.2.2.2.2.1, hF.2.2.2.2.2.2.2.2.2.2.1, hF.2.2.2.2.2.2.2.2.2.2.2.1, hF.2.2.2.2.2.2.2.2.2.2.2.2⟩, hW⟩
      refine StepsI.cons rfl ?_ ?_
      · rintro L zA v ⟨zB, zS, rfl, rfl, hF, hW⟩ hL hm K hK
        have hb1 : zB 1 = false := by simpa using hL
        clear hL hm
        simp only [puts, Act.put, List.setIfInBounds_toArray, List.set_cons_zero, List.set_cons_succ]
        go_simp
        exact hK.out _ _ ⟨fun zj => if zj = 1 then true else zB zj, fun zd => if zd = 8 then .pointer (some ⟨w.heap.size, 0, none⟩) else zS zd, rfl, by kernel_rfl, ⟨hF.1, fun _ => rfl, hF.2.2.1, hF.2.2.2.1, hF.2.2.2.2.1, hF.2.2.2.2.2.1, hF.2.2.2.2.2.2.1, hF.2.2.2.2.2.2.2.1, hF.2.2.2.2.2.2.2.2.1, hF.2.2.2.2.2.2.2.2.2.1, hF.2.2.2.2.2.2.2.2.2.2.1, hF.2.2.2.2.2.2.2.2.2.2.2.1, hF.2.2.2.2.2.2.2.2.2.2.2.2⟩, hW⟩
      refine StepsI.cons rfl ?_ ?_
      · rintro L zA v ⟨zB, zS, rfl, rfl, hF, hW⟩ hL hm K hK
        have hb2 : zB 2 = false := by simpa using hL
        have hb1 : zB 1 = true := by cases e : zB 1 with | false => (exfalso; revert hm; simp [metB, Region.binds, e]) | true => rfl
        have e1 : zS 8 = .pointer (some ⟨w.heap.size, 0, none⟩) := hF.2.1 hb1
        clear hL hm
        simp only [puts, Act.put, List.setIfInBounds_toArray, List.set_cons_zero, List.set_cons_succ]
        simp only [e1]
        obtain ⟨q0, q1, q2, _, _, _⟩ := hW.2.1
        go_simp
        exact hK.out _ _ ⟨fun zj => if zj = 1 then true else if zj = 2 then true else zB zj, fun zd => if zd = 9 then .agg #[.int .i64 a, .int .i64 b] else if zd = 8 then .pointer (some ⟨w.heap.size, 0, none⟩) else zS zd, by simp [hb1], by kernel_rfl, ⟨hF.1, fun _ => rfl, fun _ => rfl, hF.2.2.2.1, hF.2.2.2.2.1, hF.2.2.2.2.2.1, hF.2.2.2.2.2.2.1, hF.2.2.2.2.2.2.2.1, hF.2.2.2.2.2.2.2.2.1, hF.2.2.2.2.2.2.2.2.2.1, hF.2.2.2.2.2.2.2.2.2.2.1, hF.2.2.2.2.2.2.2.2.2.2.2.1, hF.2.2.2.2.2.2.2.2.2.2.2.2⟩, hW⟩
      refine StepsI.cons rfl ?_ ?_
      · rintro L zA v ⟨zB, zS, rfl, rfl, hF, hW⟩ hL hm K hK
        have hb3 : zB 3 = false := by simpa using hL
        clear hL hm
        simp only [puts, Act.put, List.setIfInBounds_toArray, List.set_cons_zero, List.set_cons_succ]
        go_simp
        exact hK.out _ _ ⟨fun zj => if zj = 3 then true else zB zj, fun zd => if zd = 10 then .pointer (some ⟨(w.heap.size + 1), 0, none⟩) else zS zd, rfl, by kernel_rfl, ⟨hF.1, hF.2.1, hF.2.2.1, fun _ => rfl, hF.2.2.2.2.1, hF.2.2.2.2.2.1, hF.2.2.2.2.2.2.1, hF.2.2.2.2.2.2.2.1, hF.2.2.2.2.2.2.2.2.1, hF.2.2.2.2.2.2.2.2.2.1, hF.2.2.2.2.2.2.2.2.2.2.1, hF.2.2.2.2.2.2.2.2.2.2.2.1, hF.2.2.2.2.2.2.2.2.2.2.2.2⟩, hW⟩
      refine StepsI.cons rfl ?_ ?_
      · rintro L zA v ⟨zB, zS, rfl, rfl, hF, hW⟩ hL hm K hK
        have hb4 : zB 4 = false := by simpa using hL
        have hb3 : zB 3 = true := by cases e : zB 3 with | false => (exfalso; revert hm; simp [metB, Region.binds, e]) | true => rfl
        have e3 : zS 10 = .pointer (some ⟨(w.heap.size + 1), 0, none⟩) := hF.2.2.2.1 hb3
        clear hL hm
        simp only [puts, Act.put, List.setIfInBounds_toArray, List.set_cons_zero, List.set_cons_succ]
        simp only [e3]
        obtain ⟨q0, q1, q2, _, _, _⟩ := hW.2.2.1
        go_simp
        exact hK.out _ _ ⟨fun zj => if zj = 3 then true else if zj = 4 then true else zB zj, fun zd => if zd = 11 then .agg #[.int .i64 c, .int .i64 d] else if zd = 10 then .pointer (some ⟨(w.heap.size + 1), 0, none⟩) else zS zd, by simp [hb3], by kernel_rfl, ⟨hF.1, hF.2.1, hF.2.2.1, fun _ => rfl, fun _ => rfl, hF.2.2.2.2.2.1, hF.2.2.2.2.2.2.1, hF.2.2.2.2.2.2.2.1, hF.2.2.2.2.2.2.2.2.1, hF.2.2.2.2.2.2.2.2.2.1, hF.2.2.2.2.2.2.2.2.2.2.1, hF.2.2.2.2.2.2.2.2.2.2.2.1, hF.2.2.2.2.2.2.2.2.2.2.2.2⟩, hW⟩
      refine StepsI.cons rfl ?_ ?_
      · rintro L zA v ⟨zB, zS, rfl, rfl, hF, hW⟩ hL hm K hK
        have hb5 : zB 5 = false := by simpa using hL
        have hb0 : zB 0 = true := by cases e : zB 0 with | false => (exfalso; revert hm; simp [metB, Region.binds, e]) | true => rfl
        have hb2 : zB 2 = true := by cases e : zB 2 with | false => (exfalso; revert hm; simp [metB, Region.binds, e]) | true => rfl
        have hb4 : zB 4 = true := by cases e : zB 4 with | false => (exfalso; revert hm; simp [metB, Region.binds, e]) | true => rfl
        have e0 : zS 7 = .func (.func 87) #[] #[.pointer (some ⟨P, 0, none⟩)] := hF.1 hb0
        have e2 : zS 9 = .agg #[.int .i64 a, .int .i64 b] := hF.2.2.1 hb2
        have e4 : zS 11 = .agg #[.int .i64 c, .int .i64 d] := hF.2.2.2.2.1 hb4
        clear hL hm
        simp only [puts, Act.put, List.setIfInBounds_toArray, List.set_cons_zero, List.set_cons_succ]
        simp only [e0, e2, e4]
        go_simp
        refine (clo_any a b c d l k off cap P _ ((hW.1.cell (p := ⟨P, 0, none⟩) (World.block_lt_of_cell? _ _ HP.out)).trans HP.out) (HL.out.below hW.1) HN.out).mono ?_
        rintro e v2 ⟨rfl, hb⟩
        rw [HR1.out, HR2.out]
        go_wp2_with fail
        exact hK.out _ _ ⟨fun zj => if zj = 4 then true else if zj = 2 then true else if zj = 0 then true else if zj = 5 then true else zB zj, fun zd => if zd = 12 then .agg #[.int .i64 r1, .int .i64 r2] else if zd = 11 then .agg #[.int .i64 c, .int .i64 d] else if zd = 9 then .agg #[.int .i64 a, .int .i64 b] else if zd = 7 then .func (.func 87) #[] #[.pointer (some ⟨P, 0, none⟩)] else zS zd, by simp [hb0, hb2, hb4], by kernel_rfl, ⟨fun _ => rfl, hF.2.1, fun _ => rfl, hF.2.2.2.1, fun _ => rfl, fun _ => rfl, hF.2.2.2.2.2.2.1, hF.2.2.2.2.2.2.2.1, hF.2.2.2.2.2.2.2.2.1, hF.2.2.2.2.2.2.2.2.2.1, hF.2.2.2.2.2.2.2.2.2.2.1, hF.2.2.2.2.2.2.2.2.2.2.2.1, hF.2.2.2.2.2.2.2.2.2.2.2.2⟩, ⟨below_step hW.1 hb, hW.2.1.below hb, hW.2.2.1.below hb, fun e => (hW.2.2.2.1 e).below hb, fun e => (hW.2.2.2.2 e).below hb⟩⟩
      refine StepsI.cons rfl ?_ ?_
      · rintro L zA v ⟨zB, zS, rfl, rfl, hF, hW⟩ hL hm K hK
        have hb6 : zB 6 = false := by simpa using hL
        clear hL hm
        simp only [puts, Act.put, List.setIfInBounds_toArray, List.set_cons_zero, List.set_cons_succ]
        go_simp
        exact hK.out _ _ ⟨fun zj => if zj = 6 then true else zB zj, fun zd => if zd = 13 then .pointer (some ⟨w.heap.size, 2, none⟩) else zS zd, rfl, by kernel_rfl, ⟨hF.1, hF.2.1, hF.2.2.1, hF.2.2.2.1, hF.2.2.2.2.1, hF.2.2.2.2.2.1, fun _ => rfl, hF.2.2.2.2.2.2.2.1, hF.2.2.2.2.2.2.2.2.1, hF.2.2.2.2.2.2.2.2.2.1, hF.2.2.2.2.2.2.2.2.2.2.1, hF.2.2.2.2.2.2.2.2.2.2.2.1, hF.2.2.2.2.2.2.2.2.2.2.2.2⟩, hW⟩
      refine StepsI.cons rfl ?_ ?_
      · rintro L zA v ⟨zB, zS, rfl, rfl, hF, hW⟩ hL hm K hK
        have hb7 : zB 7 = false := by simpa using hL
        have hb6 : zB 6 = true := by cases e : zB 6 with | false => (exfalso; revert hm; simp [metB, Region.binds, e]) | true => rfl
        have e6 : zS 13 = .pointer (some ⟨w.heap.size, 2, none⟩) := hF.2.2.2.2.2.2.1 hb6
        clear hL hm
        simp only [puts, Act.put, List.setIfInBounds_toArray, List.set_cons_zero, List.set_cons_succ]
        simp only [e6]
        obtain ⟨q0, q1, q2, _, _, _⟩ := hW.2.1
        go_simp
        exact hK.out _ _ ⟨fun zj => if zj = 6 then true else if zj = 7 then true else zB zj, fun zd => if zd = 14 then .bool true else if zd = 13 then .pointer (some ⟨w.heap.size, 2, none⟩) else zS zd, by simp [hb6], by kernel_rfl, ⟨hF.1, hF.2.1, hF.2.2.1, hF.2.2.2.1, hF.2.2.2.2.1, hF.2.2.2.2.2.1, fun _ => rfl, fun _ => rfl, hF.2.2.2.2.2.2.2.2.1, hF.2.2.2.2.2.2.2.2.2.1, hF.2.2.2.2.2.2.2.2.2.2.1, hF.2.2.2.2.2.2.2.2.2.2.2.1, hF.2.2.2.2.2.2.2.2.2.2.2.2⟩, hW⟩
      refine StepsI.cons rfl ?_ ?_
      · rintro L zA v ⟨zB, zS, rfl, rfl, hF, hW⟩ hL hm K hK
        have hb8 : zB 8 = false := by simpa using hL
        have hb7 : zB 7 = true := by cases e : zB 7 with | false => (exfalso; revert hm; simp [metB, Region.binds, e]) | true => rfl
        have e7 : zS 14 = .bool true := hF.2.2.2.2.2.2.2.1 hb7
        clear hL hm
        simp only [puts, Act.put, List.setIfInBounds_toArray, List.set_cons_zero, List.set_cons_succ]
        simp only [e7]
        go_simp
        exact hK.out _ _ ⟨fun zj => if zj = 7 then true else if zj = 8 then true else zB zj, fun zd => if zd = 15 then .bool true else if zd = 14 then .bool true else zS zd, by simp [hb7], by kernel_rfl, ⟨hF.1, hF.2.1, hF.2.2.1, hF.2.2.2.1, hF.2.2.2.2.1, hF.2.2.2.2.2.1, hF.2.2.2.2.2.2.1, fun _ => rfl, fun _ => rfl, hF.2.2.2.2.2.2.2.2.2.1, hF.2.2.2.2.2.2.2.2.2.2.1, hF.2.2.2.2.2.2.2.2.2.2.2.1, hF.2.2.2.2.2.2.2.2.2.2.2.2⟩, hW⟩
      refine StepsI.cons rfl ?_ ?_
      · rintro L zA v ⟨zB, zS, rfl, rfl, hF, hW⟩ hL hm K hK
        have hb9 : zB 9 = false := by simpa using hL
        have hb8 : zB 8 = true := by cases e : zB 8 with | false => (exfalso; revert hm; simp [metB, Region.binds, e]) | true => rfl
        have e8 : zS 15 = .bool true := hF.2.2.2.2.2.2.2.2.1 hb8
        clear hL hm
        simp only [puts, Act.put, List.setIfInBounds_toArray, List.set_cons_zero, List.set_cons_succ]
        simp only [e8]
        go_simp
        exact hK.out _ _ ⟨fun zj => if zj = 8 then true else if zj = 9 then true else zB zj, fun zd => if zd = 16 then .pointer (some ⟨(w.heap.size + 1), 2, none⟩) else if zd = 15 then .bool true else zS zd, by simp [hb8], by kernel_rfl, ⟨hF.1, hF.2.1, hF.2.2.1, hF.2.2.2.1, hF.2.2.2.2.1, hF.2.2.2.2.2.1, hF.2.2.2.2.2.2.1, hF.2.2.2.2.2.2.2.1, fun _ => rfl, fun _ => rfl, hF.2.2.2.2.2.2.2.2.2.2.1, hF.2.2.2.2.2.2.2.2.2.2.2.1, hF.2.2.2.2.2.2.2.2.2.2.2.2⟩, hW⟩
      refine StepsI.cons rfl ?_ ?_
      · rintro L zA v ⟨zB, zS, rfl, rfl, hF, hW⟩ hL hm K hK
        have hb10 : zB 10 = false := by simpa using hL
        have hb8 : zB 8 = true := by cases e : zB 8 with | false => (exfalso; revert hm; simp [metB, Region.binds, e]) | true => rfl
        have hb9 : zB 9 = true := by cases e : zB 9 with | false => (exfalso; revert hm; simp [metB, Region.binds, e]) | true => rfl
        have e8 : zS 15 = .bool true := hF.2.2.2.2.2.2.2.2.1 hb8
        have e9 : zS 16 = .pointer (some ⟨(w.heap.size + 1), 2, none⟩) := hF.2.2.2.2.2.2.2.2.2.1 hb9
        clear hL hm
        simp only [puts, Act.put, List.setIfInBounds_toArray, List.set_cons_zero, List.set_cons_succ]
        simp only [e8, e9]
        obtain ⟨q0, q1, q2, _, _, _⟩ := hW.2.2.1
        go_simp
        exact hK.out _ _ ⟨fun zj => if zj = 9 then true else if zj = 8 then true else if zj = 10 then true else zB zj, fun zd => if zd = 17 then .bool t else if zd = 16 then .pointer (some ⟨(w.heap.size + 1), 2, none⟩) else if zd = 15 then .bool true else zS zd, by simp [hb8, hb9], by kernel_rfl, ⟨hF.1, hF.2.1, hF.2.2.1, hF.2.2.2.1, hF.2.2.2.2.1, hF.2.2.2.2.2.1, hF.2.2.2.2.2.2.1, hF.2.2.2.2.2.2.2.1, fun _ => rfl, fun _ => rfl, fun _ => rfl, hF.2.2.2.2.2.2.2.2.2.2.2.1, hF.2.2.2.2.2.2.2.2.2.2.2.2⟩, hW⟩
      refine StepsI.cons rfl ?_ ?_
      · rintro L zA v ⟨zB, zS, rfl, rfl, hF, hW⟩ hL hm K hK
        have hb11 : zB 11 = false := by simpa using hL
        have hb8 : zB 8 = true := by cases e : zB 8 with | false => (exfalso; revert hm; simp [metB, Region.binds, e]) | true => rfl
        have hb10 : zB 10 = true := by cases e : zB 10 with | false => (exfalso; revert hm; simp [metB, Region.binds, e]) | true => rfl
        have e8 : zS 15 = .bool true := hF.2.2.2.2.2.2.2.2.1 hb8
        have e10 : zS 17 = .bool t := hF.2.2.2.2.2.2.2.2.2.2.1 hb10
        clear hL hm
        simp only [puts, Act.put, List.setIfInBounds_toArray, List.set_cons_zero, List.set_cons_succ]
        simp only [e8, e10]
        go_simp
        exact hK.out _ _ ⟨fun zj => if zj = 10 then true else if zj = 8 then true else if zj = 11 then true else zB zj, fun zd => if zd = 18 then .bool t else if zd = 17 then .bool t else if zd = 15 then .bool true else zS zd, by simp [hb8, hb10], by kernel_rfl, ⟨hF.1, hF.2.1, hF.2.2.1, hF.2.2.2.1, hF.2.2.2.2.1, hF.2.2.2.2.2.1, hF.2.2.2.2.2.2.1, hF.2.2.2.2.2.2.2.1, fun _ => rfl, hF.2.2.2.2.2.2.2.2.2.1, fun _ => rfl, fun _ => rfl, hF.2.2.2.2.2.2.2.2.2.2.2.2⟩, hW⟩
      refine StepsI.cons rfl ?_ ?_
      · rintro L zA v ⟨zB, zS, rfl, rfl, hF, hW⟩ hL hm K hK
        have hb12 : zB 12 = false := by simpa using hL
        have hb5 : zB 5 = true := by cases e : zB 5 with | false => (exfalso; revert hm; simp [metB, Region.binds, e]) | true => rfl
        have hb11 : zB 11 = true := by cases e : zB 11 with | false => (exfalso; revert hm; simp [metB, Region.binds, e]) | true => rfl
        have e5 : zS 12 = .agg #[.int .i64 r1, .int .i64 r2] := hF.2.2.2.2.2.1 hb5
        have e11 : zS 18 = .bool t := hF.2.2.2.2.2.2.2.2.2.2.2.1 hb11
        clear hL hm
        simp only [puts, Act.put, List.setIfInBounds_toArray, List.set_cons_zero, List.set_cons_succ]
        simp only [e5, e11]
        go_simp
        exact hK.out _ _ ⟨fun zj => if zj = 11 then true else if zj = 5 then true else if zj = 12 then true else zB zj, fun zd => if zd = 19 then .agg #[.int .i64 r1, .int .i64 r2, .bool t] else if zd = 18 then .bool t else if zd = 12 then .agg #[.int .i64 r1, .int .i64 r2] else zS zd, by simp [hb5, hb11], by kernel_rfl, ⟨hF.1, hF.2.1, hF.2.2.1, hF.2.2.2.1, hF.2.2.2.2.1, fun _ => rfl, hF.2.2.2.2.2.2.1, hF.2.2.2.2.2.2.2.1, hF.2.2.2.2.2.2.2.2.1, hF.2.2.2.2.2.2.2.2.2.1, hF.2.2.2.2.2.2.2.2.2.2.1, fun _ => rfl, fun _ => rfl⟩, hW⟩
      refine StepsI.cons rfl ?_ ?_
      · rintro L zA v ⟨zB, zS, rfl, rfl, hF, hW⟩ hL hm K hK
        have hb13 : zB 13 = false := by simpa using hL
        have hb12 : zB 12 = true := by cases e : zB 12 with | false => (exfalso; revert hm; simp [metB, Region.binds, e]) | true => rfl
        have e12 : zS 19 = .agg #[.int .i64 r1, .int .i64 r2, .bool t] := hF.2.2.2.2.2.2.2.2.2.2.2.2 hb12
        clear hL hm
        rw [hb13] at hW
        simp only [puts, Act.put, List.setIfInBounds_toArray, List.set_cons_zero, List.set_cons_succ]
        simp only [e12]
        obtain ⟨hB, hX, hY, hZ0, hZ1⟩ := hW
        have hZ := hZ0 rfl
        have ⟨q0, q1, q2, q3, q4, q5⟩ := hZ
        go_simp
        exact hK.out _ _ ⟨fun zj => if zj = 12 then true else if zj = 13 then true else zB zj, fun zd => if zd = 19 then .agg #[.int .i64 r1, .int .i64 r2, .bool t] else zS zd, by simp [hb12], by kernel_rfl, ⟨hF.1, hF.2.1, hF.2.2.1, hF.2.2.2.1, hF.2.2.2.2.1, hF.2.2.2.2.2.1, hF.2.2.2.2.2.2.1, hF.2.2.2.2.2.2.2.1, hF.2.2.2.2.2.2.2.2.1, hF.2.2.2.2.2.2.2.2.2.1, hF.2.2.2.2.2.2.2.2.2.2.1, hF.2.2.2.2.2.2.2.2.2.2.2.1, fun _ => rfl⟩, ⟨bl_set (bl_set (bl_set hB (by show w.heap.size ≤ (w.heap.size + 1 + 1); omega) _) (by show w.heap.size ≤ (w.heap.size + 1 + 1); omega) _) (by show w.heap.size ≤ (w.heap.size + 1 + 1); omega) _, hX.other (by omega) _ _ _, hY.other (by omega) _ _ _, fun e => tf e, fun _ => hZ.set _ _ _⟩⟩
      exact StepsI.nil (by kernel_rfl)
    · rintro L zA v ⟨zB, zS, rfl, rfl, hF, hW⟩ hr
      have hu := all_up (by kernel_rfl) (N := 14) (by kernel_rfl) hr
      have hb0 : zB 0 = true := by simpa using hu 0 (by decide)
      have hb1 : zB 1 = true := by simpa using hu 1 (by decide)
      have hb2 : zB 2 = true := by simpa using hu 2 (by decide)
      have hb3 : zB 3 = true := by simpa using hu 3 (by decide)
      have hb4 : zB 4 = true := by simpa using hu 4 (by decide)
      have hb5 : zB 5 = true := by simpa using hu 5 (by decide)
      have hb6 : zB 6 = true := by simpa using hu 6 (by decide)
      have hb7 : zB 7 = true := by simpa using hu 7 (by decide)
      have hb8 : zB 8 = true := by simpa using hu 8 (by decide)
      have hb9 : zB 9 = true := by simpa using hu 9 (by decide)
      have hb10 : zB 10 = true := by simpa using hu 10 (by decide)
      have hb11 : zB 11 = true := by simpa using hu 11 (by decide)
      have hb12 : zB 12 = true := by simpa using hu 12 (by decide)
      have hb13 : zB 13 = true := by simpa using hu 13 (by decide)
      have e0 : zS 7 = .func (.func 87) #[] #[.pointer (some ⟨P, 0, none⟩)] := hF.1 hb0
      have e1 : zS 8 = .pointer (some ⟨w.heap.size, 0, none⟩) := hF.2.1 hb1
      have e2 : zS 9 = .agg #[.int .i64 a, .int .i64 b] := hF.2.2.1 hb2
      have e3 : zS 10 = .pointer (some ⟨(w.heap.size + 1), 0, none⟩) := hF.2.2.2.1 hb3
      have e4 : zS 11 = .agg #[.int .i64 c, .int .i64 d] := hF.2.2.2.2.1 hb4
      have e5 : zS 12 = .agg #[.int .i64 r1, .int .i64 r2] := hF.2.2.2.2.2.1 hb5
      have e6 : zS 13 = .pointer (some ⟨w.heap.size, 2, none⟩) := hF.2.2.2.2.2.2.1 hb6
      have e7 : zS 14 = .bool true := hF.2.2.2.2.2.2.2.1 hb7
      have e8 : zS 15 = .bool true := hF.2.2.2.2.2.2.2.2.1 hb8
      have e9 : zS 16 = .pointer (some ⟨(w.heap.size + 1), 2, none⟩) := hF.2.2.2.2.2.2.2.2.2.1 hb9
      have e10 : zS 17 = .bool t := hF.2.2.2.2.2.2.2.2.2.2.1 hb10
      have e11 : zS 18 = .bool t := hF.2.2.2.2.2.2.2.2.2.2.2.1 hb11
      have e12 : zS 19 = .agg #[.int .i64 r1, .int .i64 r2, .bool t] := hF.2.2.2.2.2.2.2.2.2.2.2.2 hb12
      rw [hb13] at hW
      clear hu hr hF
      simp only [puts, Act.put, List.setIfInBounds_toArray, List.set_cons_zero, List.set_cons_succ]
      simp only [e0, e1, e2, e3, e4, e5, e6, e7, e8, e9, e10, e11, e12]
      clear e0 e1 e2 e3 e4 e5 e6 e7 e8 e9 e10 e11 e12
      clear hb0 hb1 hb2 hb3 hb4 hb5 hb6 hb7 hb8 hb9 hb10 hb11 hb12 hb13
      clear zB zS
      obtain ⟨hB, hX, hY, hZ0, hZ1⟩ := hW
      obtain ⟨q0, q1, q2, _, _, _⟩ := hZ1 rfl
      clear hX hY hZ0 hZ1
      go_wp2
      exact bodyPost_ret (v := .agg #[.int .i64 r1, .int .i64 r2, .bool t]) (by simp [results, Tryd.results84, go_sem, *]) rfl ⟨(by simp), hB⟩
set_option maxRecDepth 100000 in
set_option maxHeartbeats 1600000 in
theorem sVwiden_of (a b : Int) (s : Bool) (c d : Int) (t : Bool) (l : List Int) (k off cap : Nat) (w : World) (hl : IntsIn w l k off) (hn : l.length ≤ maxLen) : Calls Tryd.prog 40 #[.agg #[.int .i64 a, .int .i64 b, .bool s], .agg #[.int .i64 c, .int .i64 d, .bool t], .slice (some ⟨k, off, none⟩) l.length cap] w fun e w' => e = .returned (.agg #[.int .i64 (widenV a b s c d t l).1, .int .i64 (widenV a b s c d t l).2.1, .bool (widenV a b s c d t l).2.2]) ∧ Below w.heap.size w w' := by
  have HL := mkHid hl
  have HN := mkHid hn
  clear hl hn
  cases h1 : okB a b
  · have E : Hid (widenV a b s c d t l = (1, 0, true)) := mkHid (by unfold widenV; rw [h1]; simp)
    go_enter Tryd.func40, Tryd.ntmps40
    go_wp2_with fail
    obtain ⟨w0, hw0⟩ : ∃ x : World, ((w.alloc (.cells #[.int .i64 a, .int .i64 b, .bool s] 33)).alloc (.cells #[.int .i64 c, .int .i64 d, .bool t] 33)).alloc (.cells #[.int .i64 0, .int .i64 0, .bool false] 33) = x := ⟨_, rfl⟩
    have HB0 : Hid (Below w.heap.size w w0) := mkHid (by rw [← hw0]; exact bl_alloc (bl_alloc (bl_alloc (Below.refl _ _) _) _) _)
    have HX0 : Hid (V3 w0 w.heap.size a b s) := mkHid (by rw [← hw0]; constructor <;> simp [go_sem])
    have HY0 : Hid (V3 w0 (w.heap.size + 1) c d t) := mkHid (by rw [← hw0]; constructor <;> simp [go_sem])
    have HZ0 : Hid (V3 w0 (w.heap.size + 1 + 1) 0 0 false) := mkHid (by rw [← hw0]; constructor <;> simp [go_sem])
    rw [hw0]
    clear hw0
    refine (sVok_any a b s _).mono ?_
    rintro e w1 ⟨rfl, hb⟩
    have HB1 := mkHid (below_step HB0.out hb)
    have HX1 := mkHid (HX0.out.below hb)
    have HY1 := mkHid (HY0.out.below hb)
    have HZ1 := mkHid (HZ0.out.below hb)
    clear hb HB0 HX0 HY0 HZ0
    go_wp2_with fail
    refine (sVnone_any _).mono ?_
    rintro e w2 ⟨rfl, hb⟩
    have HB2 := mkHid (below_step HB1.out hb)
    have HX2 := mkHid (HX1.out.below hb)
    have HY2 := mkHid (HY1.out.below hb)
    have HZ2 := mkHid (HZ1.out.below hb)
    clear hb HB1 HX1 HY1 HZ1
    obtain ⟨q0, q1, q2, q3, q4, q5⟩ := HZ2.out
    go_wp2
    exact bodyPost_ret (v := .agg #[.int .i64 1, .int .i64 0, .bool true]) (by simp [results, Tryd.results40, go_sem, *]) rfl ⟨ret_v E.out, bl_set (bl_set (bl_set HB2.out (by show w.heap.size ≤ (w.heap.size + 1 + 1); omega) _) (by show w.heap.size ≤ (w.heap.size + 1 + 1); omega) _) (by show w.heap.size ≤ (w.heap.size + 1 + 1); omega) _⟩
  · cases h2 : okB c d
    · have E : Hid (widenV a b s c d t l = (1, 0, true)) := mkHid (by unfold widenV; rw [h2]; simp)
      go_enter Tryd.func40, Tryd.ntmps40
      go_wp2_with fail
      obtain ⟨w0, hw0⟩ : ∃ x : World, ((w.alloc (.cells #[.int .i64 a, .int .i64 b, .bool s] 33)).alloc (.cells #[.int .i64 c, .int .i64 d, .bool t] 33)).alloc (.cells #[.int .i64 0, .int .i64 0, .bool false] 33) = x := ⟨_, rfl⟩
      have HB0 : Hid (Below w.heap.size w w0) := mkHid (by rw [← hw0]; exact bl_alloc (bl_alloc (bl_alloc (Below.refl _ _) _) _) _)
      have HX0 : Hid (V3 w0 w.heap.size a b s) := mkHid (by rw [← hw0]; constructor <;> simp [go_sem])
      have HY0 : Hid (V3 w0 (w.heap.size + 1) c d t) := mkHid (by rw [← hw0]; constructor <;> simp [go_sem])
      have HZ0 : Hid (V3 w0 (w.heap.size + 1 + 1) 0 0 false) := mkHid (by rw [← hw0]; constructor <;> simp [go_sem])
      rw [hw0]
      clear hw0
      refine (sVok_any a b s _).mono ?_
      rintro e w1 ⟨rfl, hb⟩
      have HB1 := mkHid (below_step HB0.out hb)
      have HX1 := mkHid (HX0.out.below hb)
      have HY1 := mkHid (HY0.out.below hb)
      have HZ1 := mkHid (HZ0.out.below hb)
      clear hb HB0 HX0 HY0 HZ0
      obtain ⟨q0, q1, q2, q3, q4, q5⟩ := HY1.out
      go_wp2_with fail
      clear q0 q1 q2 q3 q4 q5
      refine (sVok_any c d t _).mono ?_
      rintro e w2 ⟨rfl, hb⟩
      have HB2 := mkHid (below_step HB1.out hb)
      have HX2 := mkHid (HX1.out.below hb)
      have HY2 := mkHid (HY1.out.below hb)
      have HZ2 := mkHid (HZ1.out.below hb)
      clear hb HB1 HX1 HY1 HZ1
      go_wp2_with fail
      refine (sVnone_any _).mono ?_
      rintro e w3 ⟨rfl, hb⟩
      have HB3 := mkHid (below_step HB2.out hb)
      have HX3 := mkHid (HX2.out.below hb)
      have HY3 := mkHid (HY2.out.below hb)
      have HZ3 := mkHid (HZ2.out.below hb)
      clear hb HB2 HX2 HY2 HZ2
      obtain ⟨q0, q1, q2, q3, q4, q5⟩ := HZ3.out
      go_wp2
      exact bodyPost_ret (v := .agg #[.int .i64 1, .int .i64 0, .bool true]) (by simp [results, Tryd.results40, go_sem, *]) rfl ⟨ret_v E.out, bl_set (bl_set (bl_set HB3.out (by show w.heap.size ≤ (w.heap.size + 1 + 1); omega) _) (by show w.heap.size ≤ (w.heap.size + 1 + 1); omega) _) (by show w.heap.size ≤ (w.heap.size + 1 + 1); omega) _⟩
    · cases h3 : stepsB l
      · have E : Hid (widenV a b s c d t l = (1, 0, true)) := mkHid (by unfold widenV; rw [h3]; simp)
        go_enter Tryd.func40, Tryd.ntmps40
        go_wp2_with fail
        obtain ⟨w0, hw0⟩ : ∃ x : World, ((w.alloc (.cells #[.int .i64 a, .int .i64 b, .bool s] 33)).alloc (.cells #[.int .i64 c, .int .i64 d, .bool t] 33)).alloc (.cells #[.int .i64 0, .int .i64 0, .bool false] 33) = x := ⟨_, rfl⟩
        have HB0 : Hid (Below w.heap.size w w0) := mkHid (by rw [← hw0]; exact bl_alloc (bl_alloc (bl_alloc (Below.refl _ _) _) _) _)
        have HX0 : Hid (V3 w0 w.heap.size a b s) := mkHid (by rw [← hw0]; constructor <;> simp [go_sem])
        have HY0 : Hid (V3 w0 (w.heap.size + 1) c d t) := mkHid (by rw [← hw0]; constructor <;> simp [go_sem])
        have HZ0 : Hid (V3 w0 (w.heap.size + 1 + 1) 0 0 false) := mkHid (by rw [← hw0]; constructor <;> simp [go_sem])
        rw [hw0]
        clear hw0
        refine (sVok_any a b s _).mono ?_
        rintro e w1 ⟨rfl, hb⟩
        have HB1 := mkHid (below_step HB0.out hb)
        have HX1 := mkHid (HX0.out.below hb)
        have HY1 := mkHid (HY0.out.below hb)
        have HZ1 := mkHid (HZ0.out.below hb)
        clear hb HB0 HX0 HY0 HZ0
        obtain ⟨q0, q1, q2, q3, q4, q5⟩ := HY1.out
        go_wp2_with fail
        clear q0 q1 q2 q3 q4 q5
        refine (sVok_any c d t _).mono ?_
        rintro e w2 ⟨rfl, hb⟩
        have HB2 := mkHid (below_step HB1.out hb)
        have HX2 := mkHid (HX1.out.below hb)
        have HY2 := mkHid (HY1.out.below hb)
        have HZ2 := mkHid (HZ1.out.below hb)
        clear hb HB1 HX1 HY1 HZ1
        go_wp2_with fail
        refine (sSteps_of l k off cap _ HN.out (HL.out.below HB2.out)).mono ?_
        rintro e w3 ⟨rfl, hb⟩
        have HB3 := mkHid (below_step HB2.out hb)
        have HX3 := mkHid (HX2.out.below hb)
        have HY3 := mkHid (HY2.out.below hb)
        have HZ3 := mkHid (HZ2.out.below hb)
        clear hb HB2 HX2 HY2 HZ2
        go_wp2_with fail
        refine (sVnone_any _).mono ?_
        rintro e w4 ⟨rfl, hb⟩
        have HB4 := mkHid (below_step HB3.out hb)
        have HX4 := mkHid (HX3.out.below hb)
        have HY4 := mkHid (HY3.out.below hb)
        have HZ4 := mkHid (HZ3.out.below hb)
        clear hb HB3 HX3 HY3 HZ3
        obtain ⟨q0, q1, q2, q3, q4, q5⟩ := HZ4.out
        go_wp2
        exact bodyPost_ret (v := .agg #[.int .i64 1, .int .i64 0, .bool true]) (by simp [results, Tryd.results40, go_sem, *]) rfl ⟨ret_v E.out, bl_set (bl_set (bl_set HB4.out (by show w.heap.size ≤ (w.heap.size + 1 + 1); omega) _) (by show w.heap.size ≤ (w.heap.size + 1 + 1); omega) _) (by show w.heap.size ≤ (w.heap.size + 1 + 1); omega) _⟩
      · cases s
        · have E : Hid (widenV a b false c d t l = ((widenM a b c d l).1, (widenM a b c d l).2, false)) := mkHid (by unfold widenV; rw [h1, h2, h3]; simp)
          obtain ⟨r1, hr1⟩ : ∃ x, (widenM a b c d l).1 = x := ⟨_, rfl⟩
          obtain ⟨r2, hr2⟩ : ∃ x, (widenM a b c d l).2 = x := ⟨_, rfl⟩
          rw [hr1, hr2] at E
          have HR1 := mkHid hr1
          have HR2 := mkHid hr2
          clear hr1 hr2
          go_enter Tryd.func40, Tryd.ntmps40
          go_wp2_with fail
          obtain ⟨w0, hw0⟩ : ∃ x : World, ((w.alloc (.cells #[.int .i64 a, .int .i64 b, .bool false] 33)).alloc (.cells #[.int .i64 c, .int .i64 d, .bool t] 33)).alloc (.cells #[.int .i64 0, .int .i64 0, .bool false] 33) = x := ⟨_, rfl⟩
          have HB0 : Hid (Below w.heap.size w w0) := mkHid (by rw [← hw0]; exact bl_alloc (bl_alloc (bl_alloc (Below.refl _ _) _) _) _)
          have HX0 : Hid (V3 w0 w.heap.size a b false) := mkHid (by rw [← hw0]; constructor <;> simp [go_sem])
          have HY0 : Hid (V3 w0 (w.heap.size + 1) c d t) := mkHid (by rw [← hw0]; constructor <;> simp [go_sem])
          have HZ0 : Hid (V3 w0 (w.heap.size + 1 + 1) 0 0 false) := mkHid (by rw [← hw0]; constructor <;> simp [go_sem])
          rw [hw0]
          clear hw0
          refine (sVok_any a b false _).mono ?_
          rintro e w1 ⟨rfl, hb⟩
          have HB1 := mkHid (below_step HB0.out hb)
          have HX1 := mkHid (HX0.out.below hb)
          have HY1 := mkHid (HY0.out.below hb)
          have HZ1 := mkHid (HZ0.out.below hb)
          clear hb HB0 HX0 HY0 HZ0
          obtain ⟨q0, q1, q2, q3, q4, q5⟩ := HY1.out
          go_wp2_with fail
          clear q0 q1 q2 q3 q4 q5
          refine (sVok_any c d t _).mono ?_
          rintro e w2 ⟨rfl, hb⟩
          have HB2 := mkHid (below_step HB1.out hb)
          have HX2 := mkHid (HX1.out.below hb)
          have HY2 := mkHid (HY1.out.below hb)
          have HZ2 := mkHid (HZ1.out.below hb)
          clear hb HB1 HX1 HY1 HZ1
          go_wp2_with fail
          refine (sSteps_of l k off cap _ HN.out (HL.out.below HB2.out)).mono ?_
          rintro e w3 ⟨rfl, hb⟩
          have HB3 := mkHid (below_step HB2.out hb)
          have HX3 := mkHid (HX2.out.below hb)
          have HY3 := mkHid (HY2.out.below hb)
          have HZ3 := mkHid (HZ2.out.below hb)
          clear hb HB2 HX2 HY2 HZ2
          have hsz0 : w.heap.size + 1 + 1 < w3.heap.size := HZ3.out.lt
          go_wp2_with fail
          have HB := mkHid HB3.out.drew
          have HX := mkHid HX3.out.drew
          have HY := mkHid HY3.out.drew
          have HZ := mkHid HZ3.out.drew
          refine wp_region_inv2 (fun zA0 L zA v => ∃ (zB : Nat → Bool) (zS : Nat → Value), L = #[zB 0, zB 1, zB 2, zB 3, zB 4, zB 5, zB 6, zB 7, zB 8, zB 9, zB 10, zB 11, zB 12, zB 13] ∧ zA = puts zA0 [(21, zS 21), (22, zS 22), (23, zS 23), (24, zS 24), (25, zS 25), (26, zS 26), (27, zS 27), (28, zS 28), (29, zS 29), (30, zS 30), (31, zS 31), (32, zS 32), (33, zS 33)] ∧ ((zB 0 = true → zS 21 = .pointer (some ⟨w.heap.size, 0, none⟩)) ∧ (zB 1 = true → zS 22 = .agg #[.int .i64 a, .int .i64 b]) ∧ (zB 2 = true → zS 23 = .pointer (some ⟨(w.heap.size + 1), 0, none⟩)) ∧ (zB 3 = true → zS 24 = .agg #[.int .i64 c, .int .i64 d]) ∧ (zB 4 = true → zS 25 = .slice (some ⟨k, off, none⟩) l.length cap) ∧ (zB 5 = true → zS 26 = .agg #[.int .i64 r1, .int .i64 r2]) ∧ (zB 6 = true → zS 27 = .pointer (some ⟨w.heap.size, 2, none⟩)) ∧ (zB 7 = true → zS 28 = .bool false) ∧ (zB 8 = true → zS 29 = .bool false) ∧ (zB 9 = true → zS 30 = undef) ∧ (zB 10 = true → zS 31 = undef) ∧ (zB 11 = true → zS 32 = .bool false) ∧ (zB 12 = true → zS 33 = .agg #[.int .i64 r1, .int .i64 r2, .bool false])) ∧ (Below w.heap.size w v ∧ V3 v w.heap.size a b false ∧ V3 v (w.heap.size + 1) c d t ∧ ((zB 13) = false → V3 v (w.heap.size + 1 + 1) 0 0 false) ∧ ((zB 13) = true → V3 v (w.heap.size + 1 + 1) r1 r2 false))) (by kernel_rfl) ?_ ?_ ?_
          · exact ⟨fun _ => false, fun _ => undef, rfl, by kernel_rfl, ⟨fun e => ft e, fun e => ft e, fun e => ft e, fun e => ft e, fun e => ft e, fun e => ft e, fun e => ft e, fun e => ft e, fun e => ft e, fun e => ft e, fun e => ft e, fun e => ft e, fun e => ft e⟩, ⟨HB.out, HX.out, HY.out, fun _ => HZ.out, fun e => ft e⟩⟩
          · refine StepsI.cons rfl ?_ ?_
            · rintro L zA v ⟨zB, zS, rfl, rfl, hF, hW⟩ hL hm K hK
              have hb0 : zB 0 = false := by simpa using hL
              clear hL hm
              simp only [puts, Act.put, List.setIfInBounds_toArray, List.set_cons_zero, List.set_cons_succ]
              go_simp
              exact hK.out _ _ ⟨fun zj => if zj = 0 then true else zB zj, fun zd => if zd = 21 then .pointer (some ⟨w.heap.size, 0, none⟩) else zS zd, rfl, by kernel_rfl, ⟨fun _ => rfl, hF.2.1, hF.2.2.1, hF.2.2.2.1, hF.2.2.2.2.1, hF.2.2.2.2.2.1, hF.2.2.2.2.2.2.1, hF.2.2.2.2.2.2.2.1, hF.2.2.2.2.2.2.2.2.1, hF.2.2.2.2.2.2.2.2.2.1, hF.2.2.2.2.2.2.2.2.2.2.1, hF.2.2.2.2.2.2.2.2.2.2.2.1, hF.2.2.2.2.2.2.2.2.2.2.2.2⟩, hW⟩
            refine StepsI.cons rfl ?_ ?_
            · rintro L zA v ⟨zB, zS, rfl, rfl, hF, hW⟩ hL hm K hK
              have hb1 : zB 1 = false := by simpa using hL
              have hb0 : zB 0 = true := by cases e : zB 0 with | false => (exfalso; revert hm; simp [metB, Region.binds, e]) | true => rfl
              have e0 : zS 21 = .pointer (some ⟨w.heap.size, 0, none⟩) := hF.1 hb0
              clear hL hm
              simp only [puts, Act.put, List.setIfInBounds_toArray, List.set_cons_zero, List.set_cons_succ]
              simp only [e0]
              obtain ⟨q0, q1, q2, _, _, _⟩ := hW.2.1
              go_simp
              exact hK.out _ _ ⟨fun zj => if zj = 0 then true else if zj = 1 then true else zB zj, fun zd => if zd = 22 then .agg #[.int .i64 a, .int .i64 b] else if zd = 21 then .pointer (some ⟨w.heap.size, 0, none⟩) else zS zd, by simp [hb0], by kernel_rfl, ⟨fun _ => rfl, fun _ => rfl, hF.2.2.1, hF.2.2.2.1, hF.2.2.2.2.1, hF.2.2.2.2.2.1, hF.2.2.2.2.2.2.1, hF.2.2.2.2.2.2.2.1, hF.2.2.2.2.2.2.2.2.1, hF.2.2.2.2.2.2.2.2.2.1, hF.2.2.2.2.2.2.2.2.2.2.1, hF.2.2.2.2.2.2.2.2.2.2.2.1, hF.2.2.2.2.2.2.2.2.2.2.2.2⟩, hW⟩
            refine StepsI.cons rfl ?_ ?_
            · rintro L zA v ⟨zB, zS, rfl, rfl, hF, hW⟩ hL hm K hK
              have hb2 : zB 2 = false := by simpa using hL
              clear hL hm
              simp only [puts, Act.put, List.setIfInBounds_toArray, List.set_cons_zero, List.set_cons_succ]
              go_simp
              exact hK.out _ _ ⟨fun zj => if zj = 2 then true else zB zj, fun zd => if zd = 23 then .pointer (some ⟨(w.heap.size + 1), 0, none⟩) else zS zd, rfl, by kernel_rfl, ⟨hF.1, hF.2.1, fun _ => rfl, hF.2.2.2.1, hF.2.2.2.2.1, hF.2.2.2.2.2.1, hF.2.2.2.2.2.2.1, hF.2.2.2.2.2.2.2.1, hF.2.2.2.2.2.2.2.2.1, hF.2.2.2.2.2.2.2.2.2.1, hF.2.2.2.2.2.2.2.2.2.2.1, hF.2.2.2.2.2.2.2.2.2.2.2.1, hF.2.2.2.2.2.2.2.2.2.2.2.2⟩, hW⟩
            refine StepsI.cons rfl ?_ ?_
            · rintro L zA v ⟨zB, zS, rfl, rfl, hF, hW⟩ hL hm K hK
              have hb3 : zB 3 = false := by simpa using hL
              have hb2 : zB 2 = true := by cases e : zB 2 with | false => (exfalso; revert hm; simp [metB, Region.binds, e]) | true => rfl
              have e2 : zS 23 = .pointer (some ⟨(w.heap.size + 1), 0, none⟩) := hF.2.2.1 hb2
              clear hL hm
              simp only [puts, Act.put, List.setIfInBounds_toArray, List.set_cons_zero, List.set_cons_succ]
              simp only [e2]
              obtain ⟨q0, q1, q2, _, _, _⟩ := hW.2.2.1
              go_simp
              exact hK.out _ _ ⟨fun zj => if zj = 2 then true else if zj = 3 then true else zB zj, fun zd => if zd = 24 then .agg #[.int .i64 c, .int .i64 d] else if zd = 23 then .pointer (some ⟨(w.heap.size + 1), 0, none⟩) else zS zd, by simp [hb2], by kernel_rfl, ⟨hF.1, hF.2.1, fun _ => rfl, fun _ => rfl, hF.2.2.2.2.1, hF.2.2.2.2.2.1, hF.2.2.2.2.2.2.1, hF.2.2.2.2.2.2.2.1, hF.2.2.2.2.2.2.2.2.1, hF.2.2.2.2.2.2.2.2.2.1, hF.2.2.2.2.2.2.2.2.2.2.1, hF.2.2.2.2.2.2.2.2.2.2.2.1, hF.2.2.2.2.2.2.2.2.2.2.2.2⟩, hW⟩
            refine StepsI.cons rfl ?_ ?_
            · rintro L zA v ⟨zB, zS, rfl, rfl, hF, hW⟩ hL hm K hK
              have hb4 : zB 4 = false := by simpa using hL
              clear hL hm
              simp only [puts, Act.put, List.setIfInBounds_toArray, List.set_cons_zero, List.set_cons_succ]
              go_simp
              exact hK.out _ _ ⟨fun zj => if zj = 4 then true else zB zj, fun zd => if zd = 25 then .slice (some ⟨k, off, none⟩) l.length cap else zS zd, rfl, by kernel_rfl, ⟨hF.1, hF.2.1, hF.2.2.1, hF.2.2.2.1, fun _ => rfl, hF.2.2.2.2.2.1, hF.2.2.2.2.2.2.1, hF.2.2.2.2.2.2.2.1, hF.2.2.2.2.2.2.2.2.1, hF.2.2.2.2.2.2.2.2.2.1, hF.2.2.2.2.2.2.2.2.2.2.1, hF.2.2.2.2.2.2.2.2.2.2.2.1, hF.2.2.2.2.2.2.2.2.2.2.2.2⟩, hW⟩
            refine StepsI.cons rfl ?_ ?_
            · rintro L zA v ⟨zB, zS, rfl, rfl, hF, hW⟩ hL hm K hK
              have hb5 : zB 5 = false := by simpa using hL
              have hb1 : zB 1 = true := by cases e : zB 1 with | false => (exfalso; revert hm; simp [metB, Region.binds, e]) | true => rfl
              have hb3 : zB 3 = true := by cases e : zB 3 with | false => (exfalso; revert hm; simp [metB, Region.binds, e]) | true => rfl
              have hb4 : zB 4 = true := by cases e : zB 4 with | false => (exfalso; revert hm; simp [metB, Region.binds, e]) | true => rfl
              have e1 : zS 22 = .agg #[.int .i64 a, .int .i64 b] := hF.2.1 hb1
              have e3 : zS 24 = .agg #[.int .i64 c, .int .i64 d] := hF.2.2.2.1 hb3
              have e4 : zS 25 = .slice (some ⟨k, off, none⟩) l.length cap := hF.2.2.2.2.1 hb4
              clear hL hm
              simp only [puts, Act.put, List.setIfInBounds_toArray, List.set_cons_zero, List.set_cons_succ]
              simp only [e1, e3, e4]
              go_simp
              refine (sWiden_of a b c d l k off cap _ (HL.out.below hW.1) HN.out).mono ?_
              rintro e v2 ⟨rfl, hb⟩
              rw [HR1.out, HR2.out]
              go_wp2_with fail
              exact hK.out _ _ ⟨fun zj => if zj = 4 then true else if zj = 3 then true else if zj = 1 then true else if zj = 5 then true else zB zj, fun zd => if zd = 26 then .agg #[.int .i64 r1, .int .i64 r2] else if zd = 25 then .slice (some ⟨k, off, none⟩) l.length cap else if zd = 24 then .agg #[.int .i64 c, .int .i64 d] else if zd = 22 then .agg #[.int .i64 a, .int .i64 b] else zS zd, by simp [hb1, hb3, hb4], by kernel_rfl, ⟨hF.1, fun _ => rfl, hF.2.2.1, fun _ => rfl, fun _ => rfl, fun _ => rfl, hF.2.2.2.2.2.2.1, hF.2.2.2.2.2.2.2.1, hF.2.2.2.2.2.2.2.2.1, hF.2.2.2.2.2.2.2.2.2.1, hF.2.2.2.2.2.2.2.2.2.2.1, hF.2.2.2.2.2.2.2.2.2.2.2.1, hF.2.2.2.2.2.2.2.2.2.2.2.2⟩, ⟨below_step hW.1 hb, hW.2.1.below hb, hW.2.2.1.below hb, fun e => (hW.2.2.2.1 e).below hb, fun e => (hW.2.2.2.2 e).below hb⟩⟩
            refine StepsI.cons rfl ?_ ?_
            · rintro L zA v ⟨zB, zS, rfl, rfl, hF, hW⟩ hL hm K hK
              have hb6 : zB 6 = false := by simpa using hL
              clear hL hm
              simp only [puts, Act.put, List.setIfInBounds_toArray, List.set_cons_zero, List.set_cons_succ]
              go_simp
              exact hK.out _ _ ⟨fun zj => if zj = 6 then true else zB zj, fun zd => if zd = 27 then .pointer (some ⟨w.heap.size, 2, none⟩) else zS zd, rfl, by kernel_rfl, ⟨hF.1, hF.2.1, hF.2.2.1, hF.2.2.2.1, hF.2.2.2.2.1, hF.2.2.2.2.2.1, fun _ => rfl, hF.2.2.2.2.2.2.2.1, hF.2.2.2.2.2.2.2.2.1, hF.2.2.2.2.2.2.2.2.2.1, hF.2.2.2.2.2.2.2.2.2.2.1, hF.2.2.2.2.2.2.2.2.2.2.2.1, hF.2.2.2.2.2.2.2.2.2.2.2.2⟩, hW⟩
            refine StepsI.cons rfl ?_ ?_
            · rintro L zA v ⟨zB, zS, rfl, rfl, hF, hW⟩ hL hm K hK
              have hb7 : zB 7 = false := by simpa using hL
              have hb6 : zB 6 = true := by cases e : zB 6 with | false => (exfalso; revert hm; simp [metB, Region.binds, e]) | true => rfl
              have e6 : zS 27 = .pointer (some ⟨w.heap.size, 2, none⟩) := hF.2.2.2.2.2.2.1 hb6
              clear hL hm
              simp only [puts, Act.put, List.setIfInBounds_toArray, List.set_cons_zero, List.set_cons_succ]
              simp only [e6]
              obtain ⟨q0, q1, q2, _, _, _⟩ := hW.2.1
              go_simp
              exact hK.out _ _ ⟨fun zj => if zj = 6 then true else if zj = 7 then true else zB zj, fun zd => if zd = 28 then .bool false else if zd = 27 then .pointer (some ⟨w.heap.size, 2, none⟩) else zS zd, by simp [hb6], by kernel_rfl, ⟨hF.1, hF.2.1, hF.2.2.1, hF.2.2.2.1, hF.2.2.2.2.1, hF.2.2.2.2.2.1, fun _ => rfl, fun _ => rfl, hF.2.2.2.2.2.2.2.2.1, hF.2.2.2.2.2.2.2.2.2.1, hF.2.2.2.2.2.2.2.2.2.2.1, hF.2.2.2.2.2.2.2.2.2.2.2.1, hF.2.2.2.2.2.2.2.2.2.2.2.2⟩, hW⟩
            refine StepsI.cons rfl ?_ ?_
            · rintro L zA v ⟨zB, zS, rfl, rfl, hF, hW⟩ hL hm K hK
              have hb8 : zB 8 = false := by simpa using hL
              have hb7 : zB 7 = true := by cases e : zB 7 with | false => (exfalso; revert hm; simp [metB, Region.binds, e]) | true => rfl
              have e7 : zS 28 = .bool false := hF.2.2.2.2.2.2.2.1 hb7
              clear hL hm
              simp only [puts, Act.put, List.setIfInBounds_toArray, List.set_cons_zero, List.set_cons_succ]
              simp only [e7]
              go_simp
              exact hK.out _ _ ⟨fun zj => if zj = 7 then true else if zj = 8 then true else zB zj, fun zd => if zd = 29 then .bool false else if zd = 28 then .bool false else zS zd, by simp [hb7], by kernel_rfl, ⟨hF.1, hF.2.1, hF.2.2.1, hF.2.2.2.1, hF.2.2.2.2.1, hF.2.2.2.2.2.1, hF.2.2.2.2.2.2.1, fun _ => rfl, fun _ => rfl, hF.2.2.2.2.2.2.2.2.2.1, hF.2.2.2.2.2.2.2.2.2.2.1, hF.2.2.2.2.2.2.2.2.2.2.2.1, hF.2.2.2.2.2.2.2.2.2.2.2.2⟩, hW⟩
            refine StepsI.cons rfl ?_ ?_
            · rintro L zA v ⟨zB, zS, rfl, rfl, hF, hW⟩ hL hm K hK
              have hb9 : zB 9 = false := by simpa using hL
              have hb8 : zB 8 = true := by cases e : zB 8 with | false => (exfalso; revert hm; simp [metB, Region.binds, e]) | true => rfl
              have e8 : zS 29 = .bool false := hF.2.2.2.2.2.2.2.2.1 hb8
              clear hL hm
              simp only [puts, Act.put, List.setIfInBounds_toArray, List.set_cons_zero, List.set_cons_succ]
              simp only [e8]
              rw [if_neg (by exact Bool.false_ne_true)]
              exact hK.out _ _ ⟨fun zj => if zj = 8 then true else if zj = 9 then true else zB zj, fun zd => if zd = 30 then undef else if zd = 29 then .bool false else zS zd, by simp [hb8], by kernel_rfl, ⟨hF.1, hF.2.1, hF.2.2.1, hF.2.2.2.1, hF.2.2.2.2.1, hF.2.2.2.2.2.1, hF.2.2.2.2.2.2.1, hF.2.2.2.2.2.2.2.1, fun _ => rfl, fun _ => rfl, hF.2.2.2.2.2.2.2.2.2.2.1, hF.2.2.2.2.2.2.2.2.2.2.2.1, hF.2.2.2.2.2.2.2.2.2.2.2.2⟩, hW⟩
            refine StepsI.cons rfl ?_ ?_
            · rintro L zA v ⟨zB, zS, rfl, rfl, hF, hW⟩ hL hm K hK
              have hb10 : zB 10 = false := by simpa using hL
              have hb8 : zB 8 = true := by cases e : zB 8 with | false => (exfalso; revert hm; simp [metB, Region.binds, e]) | true => rfl
              have hb9 : zB 9 = true := by cases e : zB 9 with | false => (exfalso; revert hm; simp [metB, Region.binds, e]) | true => rfl
              have e8 : zS 29 = .bool false := hF.2.2.2.2.2.2.2.2.1 hb8
              have e9 : zS 30 = undef := hF.2.2.2.2.2.2.2.2.2.1 hb9
              clear hL hm
              simp only [puts, Act.put, List.setIfInBounds_toArray, List.set_cons_zero, List.set_cons_succ]
              simp only [e8, e9]
              rw [if_neg (by exact Bool.false_ne_true)]
              exact hK.out _ _ ⟨fun zj => if zj = 9 then true else if zj = 8 then true else if zj = 10 then true else zB zj, fun zd => if zd = 31 then undef else if zd = 30 then undef else if zd = 29 then .bool false else zS zd, by simp [hb8, hb9], by kernel_rfl, ⟨hF.1, hF.2.1, hF.2.2.1, hF.2.2.2.1, hF.2.2.2.2.1, hF.2.2.2.2.2.1, hF.2.2.2.2.2.2.1, hF.2.2.2.2.2.2.2.1, fun _ => rfl, fun _ => rfl, fun _ => rfl, hF.2.2.2.2.2.2.2.2.2.2.2.1, hF.2.2.2.2.2.2.2.2.2.2.2.2⟩, hW⟩
            refine StepsI.cons rfl ?_ ?_
            · rintro L zA v ⟨zB, zS, rfl, rfl, hF, hW⟩ hL hm K hK
              have hb11 : zB 11 = false := by simpa using hL
              have hb8 : zB 8 = true := by cases e : zB 8 with | false => (exfalso; revert hm; simp [metB, Region.binds, e]) | true => rfl
              have hb10 : zB 10 = true := by cases e : zB 10 with | false => (exfalso; revert hm; simp [metB, Region.binds, e]) | true => rfl
              have e8 : zS 29 = .bool false := hF.2.2.2.2.2.2.2.2.1 hb8
              have e10 : zS 31 = undef := hF.2.2.2.2.2.2.2.2.2.2.1 hb10
              clear hL hm
              simp only [puts, Act.put, List.setIfInBounds_toArray, List.set_cons_zero, List.set_cons_succ]
              simp only [e8, e10]
              go_simp
              exact hK.out _ _ ⟨fun zj => if zj = 10 then true else if zj = 8 then true else if zj = 11 then true else zB zj, fun zd => if zd = 32 then .bool false else if zd = 31 then undef else if zd = 29 then .bool false else zS zd, by simp [hb8, hb10], by kernel_rfl, ⟨hF.1, hF.2.1, hF.2.2.1, hF.2.2.2.1, hF.2.2.2.2.1, hF.2.2.2.2.2.1, hF.2.2.2.2.2.2.1, hF.2.2.2.2.2.2.2.1, fun _ => rfl, hF.2.2.2.2.2.2.2.2.2.1, fun _ => rfl, fun _ => rfl, hF.2.2.2.2.2.2.2.2.2.2.2.2⟩, hW⟩
            refine StepsI.cons rfl ?_ ?_
            · rintro L zA v ⟨zB, zS, rfl, rfl, hF, hW⟩ hL hm K hK
              have hb12 : zB 12 = false := by simpa using hL
              have hb5 : zB 5 = true := by cases e : zB 5 with | false => (exfalso; revert hm; simp [metB, Region.binds, e]) | true => rfl
              have hb11 : zB 11 = true := by cases e : zB 11 with | false => (exfalso; revert hm; simp [metB, Region.binds, e]) | true => rfl
              have e5 : zS 26 = .agg #[.int .i64 r1, .int .i64 r2] := hF.2.2.2.2.2.1 hb5
              have e11 : zS 32 = .bool false := hF.2.2.2.2.2.2.2.2.2.2.2.1 hb11
              clear hL hm
              simp only [puts, Act.put, List.setIfInBounds_toArray, List.set_cons_zero, List.set_cons_succ]
              simp only [e5, e11]
              go_simp
              exact hK.out _ _ ⟨fun zj => if zj = 11 then true else if zj = 5 then true else if zj = 12 then true else zB zj, fun zd => if zd = 33 then .agg #[.int .i64 r1, .int .i64 r2, .bool false] else if zd = 32 then .bool false else if zd = 26 then .agg #[.int .i64 r1, .int .i64 r2] else zS zd, by simp [hb5, hb11], by kernel_rfl, ⟨hF.1, hF.2.1, hF.2.2.1, hF.2.2.2.1, hF.2.2.2.2.1, fun _ => rfl, hF.2.2.2.2.2.2.1, hF.2.2.2.2.2.2.2.1, hF.2.2.2.2.2.2.2.2.1, hF.2.2.2.2.2.2.2.2.2.1, hF.2.2.2.2.2.2.2.2.2.2.1, fun _ => rfl, fun _ => rfl⟩, hW⟩
            refine StepsI.cons rfl ?_ ?_
            · rintro L zA v ⟨zB, zS, rfl, rfl, hF, hW⟩ hL hm K hK
              have hb13 : zB 13 = false := by simpa using hL
              have hb12 : zB 12 = true := by cases e : zB 12 with | false => (exfalso; revert hm; simp [metB, Region.binds, e]) | true => rfl
              have e12 : zS 33 = .agg #[.int .i64 r1, .int .i64 r2, .bool false] := hF.2.2.2.2.2.2.2.2.2.2.2.2 hb12
              clear hL hm
              rw [hb13] at hW
              simp only [puts, Act.put, List.setIfInBounds_toArray, List.set_cons_zero, List.set_cons_succ]
              simp only [e12]
              obtain ⟨hB, hX, hY, hZ0, hZ1⟩ := hW
              have hZ := hZ0 rfl
              have ⟨q0, q1, q2, q3, q4, q5⟩ := hZ
              go_simp
              exact hK.out _ _ ⟨fun zj => if zj = 12 then true else if zj = 13 then true else zB zj, fun zd => if zd = 33 then .agg #[.int .i64 r1, .int .i64 r2, .bool false] else zS zd, by simp [hb12], by kernel_rfl, ⟨hF.1, hF.2.1, hF.2.2.1, hF.2.2.2.1, hF.2.2.2.2.1, hF.2.2.2.2.2.1, hF.2.2.2.2.2.2.1, hF.2.2.2.2.2.2.2.1, hF.2.2.2.2.2.2.2.2.1, hF.2.2.2.2.2.2.2.2.2.1, hF.2.2.2.2.2.2.2.2.2.2.1, hF.2.2.2.2.2.2.2.2.2.2.2.1, fun _ => rfl⟩, ⟨bl_set (bl_set (bl_set hB (by show w.heap.size ≤ (w.heap.size + 1 + 1); omega) _) (by show w.heap.size ≤ (w.heap.size + 1 + 1); omega) _) (by show w.heap.size ≤ (w.heap.size + 1 + 1); omega) _, hX.other (by omega) _ _ _, hY.other (by omega) _ _ _, fun e => tf e, fun _ => hZ.set _ _ _⟩⟩
            exact StepsI.nil (by kernel_rfl)
          · rintro L zA v ⟨zB, zS, rfl, rfl, hF, hW⟩ hr
            have hu := all_up (by kernel_rfl) (N := 14) (by kernel_rfl) hr
            have hb0 : zB 0 = true := by simpa using hu 0 (by decide)
            have hb1 : zB 1 = true := by simpa using hu 1 (by decide)
            have hb2 : zB 2 = true := by simpa using hu 2 (by decide)
            have hb3 : zB 3 = true := by simpa using hu 3 (by decide)
            have hb4 : zB 4 = true := by simpa using hu 4 (by decide)
            have hb5 : zB 5 = true := by simpa using hu 5 (by decide)
            have hb6 : zB 6 = true := by simpa using hu 6 (by decide)
            have hb7 : zB 7 = true := by simpa using hu 7 (by decide)
            have hb8 : zB 8 = true := by simpa using hu 8 (by decide)
            have hb9 : zB 9 = true := by simpa using hu 9 (by decide)
            have hb10 : zB 10 = true := by simpa using hu 10 (by decide)
            have hb11 : zB 11 = true := by simpa using hu 11 (by decide)
            have hb12 : zB 12 = true := by simpa using hu 12 (by decide)
            have hb13 : zB 13 = true := by simpa using hu 13 (by decide)
            have e0 : zS 21 = .pointer (some ⟨w.heap.size, 0, none⟩) := hF.1 hb0
            have e1 : zS 22 = .agg #[.int .i64 a, .int .i64 b] := hF.2.1 hb1
            have e2 : zS 23 = .pointer (some ⟨(w.heap.size + 1), 0, none⟩) := hF.2.2.1 hb2
            have e3 : zS 24 = .agg #[.int .i64 c, .int .i64 d] := hF.2.2.2.1 hb3
            have e4 : zS 25 = .slice (some ⟨k, off, none⟩) l.length cap := hF.2.2.2.2.1 hb4
            have e5 : zS 26 = .agg #[.int .i64 r1, .int .i64 r2] := hF.2.2.2.2.2.1 hb5
            have e6 : zS 27 = .pointer (some ⟨w.heap.size, 2, none⟩) := hF.2.2.2.2.2.2.1 hb6
            have e7 : zS 28 = .bool false := hF.2.2.2.2.2.2.2.1 hb7
            have e8 : zS 29 = .bool false := hF.2.2.2.2.2.2.2.2.1 hb8
            have e9 : zS 30 = undef := hF.2.2.2.2.2.2.2.2.2.1 hb9
            have e10 : zS 31 = undef := hF.2.2.2.2.2.2.2.2.2.2.1 hb10
            have e11 : zS 32 = .bool false := hF.2.2.2.2.2.2.2.2.2.2.2.1 hb11
            have e12 : zS 33 = .agg #[.int .i64 r1, .int .i64 r2, .bool false] := hF.2.2.2.2.2.2.2.2.2.2.2.2 hb12
            rw [hb13] at hW
            clear hu hr hF
            simp only [puts, Act.put, List.setIfInBounds_toArray, List.set_cons_zero, List.set_cons_succ]
            simp only [e0, e1, e2, e3, e4, e5, e6, e7, e8, e9, e10, e11, e12]
            clear e0 e1 e2 e3 e4 e5 e6 e7 e8 e9 e10 e11 e12
            clear hb0 hb1 hb2 hb3 hb4 hb5 hb6 hb7 hb8 hb9 hb10 hb11 hb12 hb13
            clear zB zS
            obtain ⟨hB, hX, hY, hZ0, hZ1⟩ := hW
            obtain ⟨q0, q1, q2, _, _, _⟩ := hZ1 rfl
            clear hX hY hZ0 hZ1
            go_wp2
            exact bodyPost_ret (v := .agg #[.int .i64 r1, .int .i64 r2, .bool false]) (by simp [results, Tryd.results40, go_sem, *]) rfl ⟨ret_v E.out, hB⟩
        · have E : Hid (widenV a b true c d t l = ((widenM a b c d l).1, (widenM a b c d l).2, t)) := mkHid (by unfold widenV; rw [h1, h2, h3]; simp)
          obtain ⟨r1, hr1⟩ : ∃ x, (widenM a b c d l).1 = x := ⟨_, rfl⟩
          obtain ⟨r2, hr2⟩ : ∃ x, (widenM a b c d l).2 = x := ⟨_, rfl⟩
          rw [hr1, hr2] at E
          have HR1 := mkHid hr1
          have HR2 := mkHid hr2
          clear hr1 hr2
          go_enter Tryd.func40, Tryd.ntmps40
          go_wp2_with fail
          obtain ⟨w0, hw0⟩ : ∃ x : World, ((w.alloc (.cells #[.int .i64 a, .int .i64 b, .bool true] 33)).alloc (.cells #[.int .i64 c, .int .i64 d, .bool t] 33)).alloc (.cells #[.int .i64 0, .int .i64 0, .bool false] 33) = x := ⟨_, rfl⟩
          have HB0 : Hid (Below w.heap.size w w0) := mkHid (by rw [← hw0]; exact bl_alloc (bl_alloc (bl_alloc (Below.refl _ _) _) _) _)
          have HX0 : Hid (V3 w0 w.heap.size a b true) := mkHid (by rw [← hw0]; constructor <;> simp [go_sem])
          have HY0 : Hid (V3 w0 (w.heap.size + 1) c d t) := mkHid (by rw [← hw0]; constructor <;> simp [go_sem])
          have HZ0 : Hid (V3 w0 (w.heap.size + 1 + 1) 0 0 false) := mkHid (by rw [← hw0]; constructor <;> simp [go_sem])
          rw [hw0]
          clear hw0
          refine (sVok_any a b true _).mono ?_
          rintro e w1 ⟨rfl, hb⟩
          have HB1 := mkHid (below_step HB0.out hb)
          have HX1 := mkHid (HX0.out.below hb)
          have HY1 := mkHid (HY0.out.below hb)
          have HZ1 := mkHid (HZ0.out.below hb)
          clear hb HB0 HX0 HY0 HZ0
          obtain ⟨q0, q1, q2, q3, q4, q5⟩ := HY1.out
          go_wp2_with fail
          clear q0 q1 q2 q3 q4 q5
          refine (sVok_any c d t _).mono ?_
          rintro e w2 ⟨rfl, hb⟩
          have HB2 := mkHid (below_step HB1.out hb)
          have HX2 := mkHid (HX1.out.below hb)
          have HY2 := mkHid (HY1.out.below hb)
          have HZ2 := mkHid (HZ1.out.below hb)
          clear hb HB1 HX1 HY1 HZ1
          go_wp2_with fail
          refine (sSteps_of l k off cap _ HN.out (HL.out.below HB2.out)).mono ?_
          rintro e w3 ⟨rfl, hb⟩
          have HB3 := mkHid (below_step HB2.out hb)
          have HX3 := mkHid (HX2.out.below hb)
          have HY3 := mkHid (HY2.out.below hb)
          have HZ3 := mkHid (HZ2.out.below hb)
          clear hb HB2 HX2 HY2 HZ2
          have hsz0 : w.heap.size + 1 + 1 < w3.heap.size := HZ3.out.lt
          go_wp2_with fail
          have HB := mkHid HB3.out.drew
          have HX := mkHid HX3.out.drew
          have HY := mkHid HY3.out.drew
          have HZ := mkHid HZ3.out.drew
          refine wp_region_inv2 (fun zA0 L zA v => ∃ (zB : Nat → Bool) (zS : Nat → Value), L = #[zB 0, zB 1, zB 2, zB 3, zB 4, zB 5, zB 6, zB 7, zB 8, zB 9, zB 10, zB 11, zB 12, zB 13] ∧ zA = puts zA0 [(21, zS 21), (22, zS 22), (23, zS 23), (24, zS 24), (25, zS 25), (26, zS 26), (27, zS 27), (28, zS 28), (29, zS 29), (30, zS 30), (31, zS 31), (32, zS 32), (33, zS 33)] ∧ ((zB 0 = true → zS 21 = .pointer (some ⟨w.heap.size, 0, none⟩)) ∧ (zB 1 = true → zS 22 = .agg #[.int .i64 a, .int .i64 b]) ∧ (zB 2 = true → zS 23 = .pointer (some ⟨(w.heap.size + 1), 0, none⟩)) ∧ (zB 3 = true → zS 24 = .agg #[.int .i64 c, .int .i64 d]) ∧ (zB 4 = true → zS 25 = .slice (some ⟨k, off, none⟩) l.length cap) ∧ (zB 5 = true → zS 26 = .agg #[.int .i64 r1, .int .i64 r2]) ∧ (zB 6 = true → zS 27 = .pointer (some ⟨w.heap.size, 2, none⟩)) ∧ (zB 7 = true → zS 28 = .bool true) ∧ (zB 8 = true → zS 29 = .bool true) ∧ (zB 9 = true → zS 30 = .pointer (some ⟨(w.heap.size + 1), 2, none⟩)) ∧ (zB 10 = true → zS 31 = .bool t) ∧ (zB 11 = true → zS 32 = .bool t) ∧ (zB 12 = true → zS 33 = .agg #[.int .i64 r1, .int .i64 r2, .bool t])) ∧ (Below w.heap.size w v ∧ V3 v w.heap.size a b true ∧ V3 v (w.heap.size + 1) c d t ∧ ((zB 13) = false → V3 v (w.heap.size + 1 + 1) 0 0 false) ∧ ((zB 13) = true → V3 v (w.heap.size + 1 + 1) r1 r2 t))) (by kernel_rfl) ?_ ?_ ?_
          · exact ⟨fun _ => false, fun _ => undef, rfl, by kernel_rfl, ⟨fun e => ft e, fun e => ft e, fun e => ft e, fun e => ft e, fun e => ft e, fun e => ft e, fun e => ft e, fun e => ft e, fun e => ft e, fun e => ft e, fun e => ft e, fun e => ft e, fun e => ft e⟩, ⟨HB.out, HX.out, HY.out, fun _ => HZ.out, fun e => ft e⟩⟩
          · refine StepsI.cons rfl ?_ ?_
            · rintro L zA v ⟨zB, zS, rfl, rfl, hF, hW⟩ hL hm K hK
              have hb0 : zB 0 = false := by simpa using hL
              clear hL hm
              simp only [puts, Act.put, List.setIfInBounds_toArray, List.set_cons_zero, List.set_cons_succ]
              go_simp
              exact hK.out _ _ ⟨fun zj => if zj = 0 then true else zB zj, fun zd => if zd = 21 then .pointer (some ⟨w.heap.size, 0, none⟩) else zS zd, rfl, by kernel_rfl, ⟨fun _ => rfl, hF.2.1, hF.2.2.1, hF.2.2.2.1, hF.2.2.2.2.1, hF.2.2.2.2.2.1, hF.2.2.2.2.2.2.1, hF.2.2.2.2.2.2.2.1, hF.2.2.2.2.2.2.2.2.1, hF.2.2.2.2.2.2.2.2.2.1, hF.2.2.2.2.2.2.2.2.2.2.1, hF.2.2.2.2.2.2.2.2.2.2.2.1, hF.2.2.2.2.2.2.2.2.2.2.2.2⟩, hW⟩
            refine StepsI.cons rfl ?_ ?_
            · rintro L zA v ⟨zB, zS, rfl, rfl, hF, hW⟩ hL hm K hK
              have hb1 : zB 1 = false := by simpa using hL
              have hb0 : zB 0 = true := by cases e : zB 0 with | false => (exfalso; revert hm; simp [metB, Region.binds, e]) | true => rfl
              have e0 : zS 21 = .pointer (some ⟨w.heap.size, 0, none⟩) := hF.1 hb0
              clear hL hm
              simp only [puts, Act.put, List.setIfInBounds_toArray, List.set_cons_zero, List.set_cons_succ]
              simp only [e0]
              obtain ⟨q0, q1, q2, _, _, _⟩ := hW.2.1
              go_simp
              exact hK.out _ _ ⟨fun zj => if zj = 0 then true else if zj = 1 then true else zB zj, fun zd => if zd = 22 then .agg #[.int .i64 a, .int .i64 b] else if zd = 21 then .pointer (some ⟨w.heap.size, 0, none⟩) else zS zd, by simp [hb0], by kernel_rfl, ⟨fun _ => rfl, fun _ => rfl, hF.2.2.1, hF.2.2.2.1, hF.2.2.2.2.1, hF.2.2.2.2.2.1, hF.2.2.2.2.2.2.1, hF.2.2.2.2.2.2.2.1, hF.2.2.2.2.2.2.2.2.1, hF.2.2.2.2.2.2.2.2.2.1, hF.2.2.2.2.2.2.2.2.2.2.1, hF.2.2.2.2.2.2.2.2.2.2.2.1, hF.2.2.2.2.2.2.2.2.2.2.2.2⟩, hW⟩
            refine StepsI.cons rfl ?_ ?_
            · rintro L zA v ⟨zB, zS, rfl, rfl, hF, hW⟩ hL hm K hK
              have hb2 : zB 2 = false := by simpa using hL
              clear hL hm
              simp only [puts, Act.put, List.setIfInBounds_toArray, List.set_cons_zero, List.set_cons_succ]
              go_simp
              exact hK.out _ _ ⟨fun zj => if zj = 2 then true else zB zj, fun zd => if zd = 23 then .pointer (some ⟨(w.heap.size + 1), 0, none⟩) else zS zd, rfl, by kernel_rfl, ⟨hF.1, hF.2.1, fun _ => rfl, hF.2.2.2.1, hF.2.2.2.2.1, hF.2.2.2.2.2.1, hF.2.2.2.2.2.2.1, hF.2.2.2.2.2.2.2.1, hF.2.2.2.2.2.2.2.2.1, hF.2.2.2.2.2.2.2.2.2.1, hF.2.2.2.2.2.2.2.2.2.2.1, hF.2.2.2.2.2.2.2.2.2.2.2.1, hF.2.2.2.2.2.2.2.2.2.2.2.2⟩, hW⟩
            refine StepsI.cons rfl ?_ ?_
            · rintro L zA v ⟨zB, zS, rfl, rfl, hF, hW⟩ hL hm K hK
              have hb3 : zB 3 = false := by simpa using hL
              have hb2 : zB 2 = true := by cases e : zB 2 with | false => (exfalso; revert hm; simp [metB, Region.binds, e]) | true => rfl
              have e2 : zS 23 = .pointer (some ⟨(w.heap.size + 1), 0, none⟩) := hF.2.2.1 hb2
              clear hL hm
              simp only [puts, Act.put, List.setIfInBounds_toArray, List.set_cons_zero, List.set_cons_succ]
              simp only [e2]
              obtain ⟨q0, q1, q2, _, _, _⟩ := hW.2.2.1
              go_simp
              exact hK.out _ _ ⟨fun zj => if zj = 2 then true else if zj = 3 then true else zB zj, fun zd => if zd = 24 then .agg #[.int .i64 c, .int .i64 d] else if zd = 23 then .pointer (some ⟨(w.heap.size + 1), 0, none⟩) else zS zd, by simp [hb2], by kernel_rfl, ⟨hF.1, hF.2.1, fun _ => rfl, fun _ => rfl, hF.2.2.2.2.1, hF.2.2.2.2.2.1, hF.2.2.2.2.2.2.1, hF.2.2.2.2.2.2.2.1, hF.2.2.2.2.2.2.2.2.1, hF.2.2.2.2.2.2.2.2.2.1, hF.2.2.2.2.2.2.2.2.2.2.1, hF.2.2.2.2.2.2.2.2.2.2.2.1, hF.2.2.2.2.2.2.2.2.2.2.2.2⟩, hW⟩
            refine StepsI.cons rfl ?_ ?_
            · rintro L zA v ⟨zB, zS, rfl, rfl, hF, hW⟩ hL hm K hK
              have hb4 : zB 4 = false := by simpa using hL
              clear hL hm
              simp only [puts, Act.put, List.setIfInBounds_toArray, List.set_cons_zero, List.set_cons_succ]
              go_simp
              exact hK.out _ _ ⟨fun zj => if zj = 4 then true else zB zj, fun zd => if zd = 25 then .slice (some ⟨k, off, none⟩) l.length cap else zS zd, rfl, by kernel_rfl, ⟨hF.1, hF.2.1, hF.2.2.1, hF.2.2.2.1, fun _ => rfl, hF.2.2.2.2.2.1, hF.2.2.2.2.2.2.1, hF.2.2.2.2.2.2.2.1, hF.2.2.2.2.2.2.2.2.1, hF.2.2.2.2.2.2.2.2.2.1, hF.2.2.2.2.2.2.2.2.2.2.1, hF.2.2.2.2.2.2.2.2.2.2.2.1, hF.2.2.2.2.2.2.2.2.2.2.2.2⟩, hW⟩
            refine StepsI.cons rfl ?_ ?_
            · rintro L zA v ⟨zB, zS, rfl, rfl, hF, hW⟩ hL hm K hK
              have hb5 : zB 5 = false := by simpa using hL
              have hb1 : zB 1 = true := by cases e : zB 1 with | false => (exfalso; revert hm; simp [metB, Region.binds, e]) | true => rfl
              have hb3 : zB 3 = true := by cases e : zB 3 with | false => (exfalso; revert hm; simp [metB, Region.binds, e]) | true => rfl
              have hb4 : zB 4 = true := by cases e : zB 4 with | false => (exfalso; revert hm; simp [metB, Region.binds, e]) | true => rfl
              have e1 : zS 22 = .agg #[.int .i64 a, .int .i64 b] := hF.2.1 hb1
              have e3 : zS 24 = .agg #[.int .i64 c, .int .i64 d] := hF.2.2.2.1 hb3
              have e4 : zS 25 = .slice (some ⟨k, off, none⟩) l.length cap := hF.2.2.2.2.1 hb4
              clear hL hm
              simp only [puts, Act.put, List.setIfInBounds_toArray, List.set_cons_zero, List.set_cons_succ]
              simp only [e1, e3, e4]
              go_simp
              refine (sWiden_of a b c d l k off cap _ (HL.out.below hW.1) HN.out).mono ?_
              rintro e v2 ⟨rfl, hb⟩
              rw [HR1.out, HR2.out]
              go_wp2_with fail
              exact hK.out _ _ ⟨fun zj => if zj = 4 then true else if zj = 3 then true else if zj = 1 then true else if zj = 5 then true else zB zj, fun zd => if zd = 26 then .agg #[.int .i64 r1, .int .i64 r2] else if zd = 25 then .slice (some ⟨k, off, none⟩) l.length cap else if zd = 24 then .agg #[.int .i64 c, .int .i64 d] else if zd = 22 then .agg #[.int .i64 a, .int .i64 b] else zS zd, by simp [hb1, hb3, hb4], by kernel_rfl, ⟨hF.1, fun _ => rfl, hF.2.2.1, fun _ => rfl, fun _ => rfl, fun _ => rfl, hF.2.2.2.2.2.2.1, hF.2.2.2.2.2.2.2.1, hF.2.2.2.2.2.2.2.2.1, hF.2.2.2.2.2.2.2.2.2.1, hF.2.2.2.2.2.2.2.2.2.2.1, hF.2.2.2.2.2.2.2.2.2.2.2.1, hF.2.2.2.2.2.2.2.2.2.2.2.2⟩, ⟨below_step hW.1 hb, hW.2.1.below hb, hW.2.2.1.below hb, fun e => (hW.2.2.2.1 e).below hb, fun e => (hW.2.2.2.2 e).below hb⟩⟩
            refine StepsI.cons rfl ?_ ?_
            · rintro L zA v ⟨zB, zS, rfl, rfl, hF, hW⟩ hL hm K hK
              have hb6 : zB 6 = false := by simpa using hL
              clear hL hm
              simp only [puts, Act.put, List.setIfInBounds_toArray, List.set_cons_zero, List.set_cons_succ]
              go_simp
              exact hK.out _ _ ⟨fun zj => if zj = 6 then true else zB zj, fun zd => if zd = 27 then .pointer (some ⟨w.heap.size, 2, none⟩) else zS zd, rfl, by kernel_rfl, ⟨hF.1, hF.2.1, hF.2.2.1, hF.2.2.2.1, hF.2.2.2.2.1, hF.2.2.2.2.2.1, fun _ => rfl, hF.2.2.2.2.2.2.2.1, hF.2.2.2.2.2.2.2.2.1, hF.2.2.2.2.2.2.2.2.2.1, hF.2.2.2.2.2.2.2.2.2.2.1, hF.2.2.2.2.2.2.2.2.2.2.2.1, hF.2.2.2.2.2.2.2.2.2.2.2.2⟩, hW⟩
            refine StepsI.cons rfl ?_ ?_
            · rintro L zA v ⟨zB, zS, rfl, rfl, hF, hW⟩ hL hm K hK
              have hb7 : zB 7 = false := by simpa using hL
              have hb6 : zB 6 = true := by cases e : zB 6 with | false => (exfalso; revert hm; simp [metB, Region.binds, e]) | true => rfl
              have e6 : zS 27 = .pointer (some ⟨w.heap.size, 2, none⟩) := hF.2.2.2.2.2.2.1 hb6
              clear hL hm
              simp only [puts, Act.put, List.setIfInBounds_toArray, List.set_cons_zero, List.set_cons_succ]
              simp only [e6]
              obtain ⟨q0, q1, q2, _, _, _⟩ := hW.2.1
              go_simp
              exact hK.out _ _ ⟨fun zj => if zj = 6 then true else if zj = 7 then true else zB zj, fun zd => if zd = 28 then .bool true else if zd = 27 then .pointer (some ⟨w.heap.size, 2, none⟩) else zS zd, by simp [hb6], by kernel_rfl, ⟨hF.1, hF.2.1, hF.2.2.1, hF.2.2.2.1, hF.2.2.2.2.1, hF.2.2.2.2.2.1, fun _ => rfl, fun _ => rfl, hF.2.2.2.2.2.2.2.2.1, hF.2.2.2.2.2.2.2.2.2.1, hF.2.2.2.2.2.2.2.2.2.2.1, hF.2.2.2.2.2.2.2.2.2.2.2.1, hF.2.2.2.2.2.2.2.2.2.2.2.2⟩, hW⟩
            refine StepsI.cons rfl ?_ ?_
            · rintro L zA v ⟨zB, zS, rfl, rfl, hF, hW⟩ hL hm K hK
              have hb8 : zB 8 = false := by simpa using hL
              have hb7 : zB 7 = true := by cases e : zB 7 with | false => (exfalso; revert hm; simp [metB, Region.binds, e]) | true => rfl
              have e7 : zS 28 = .bool true := hF.2.2.2.2.2.2.2.1 hb7
              clear hL hm
              simp only [puts, Act.put, List.setIfInBounds_toArray, List.set_cons_zero, List.set_cons_succ]
              simp only [e7]
              go_simp
              exact hK.out _ _ ⟨fun zj => if zj = 7 then true else if zj = 8 then true else zB zj, fun zd => if zd = 29 then .bool true else if zd = 28 then .bool true else zS zd, by simp [hb7], by kernel_rfl, ⟨hF.1, hF.2.1, hF.2.2.1, hF.2.2.2.1, hF.2.2.2.2.1, hF.2.2.2.2.2.1, hF.2.2.2.2.2.2.1, fun _ => rfl, fun _ => rfl, hF.2.2.2.2.2.2.2.2.2.1, hF.2.2.2.2.2.2.2.2.2.2.1, hF.2.2.2.2.2.2.2.2.2.2.2.1, hF.2.2.2.2.2.2.2.2.2.2.2.2⟩, hW⟩
            refine StepsI.cons rfl ?_ ?_
            · rintro L zA v ⟨zB, zS, rfl, rfl, hF, hW⟩ hL hm K hK
              have hb9 : zB 9 = false := by simpa using hL
              have hb8 : zB 8 = true := by cases e : zB 8 with | false => (exfalso; revert hm; simp [metB, Region.binds, e]) | true => rfl
              have e8 : zS 29 = .bool true := hF.2.2.2.2.2.2.2.2.1 hb8
              clear hL hm
              simp only [puts, Act.put, List.setIfInBounds_toArray, List.set_cons_zero, List.set_cons_succ]
              simp only [e8]
              go_simp
              exact hK.out _ _ ⟨fun zj => if zj = 8 then true else if zj = 9 then true else zB zj, fun zd => if zd = 30 then .pointer (some ⟨(w.heap.size + 1), 2, none⟩) else if zd = 29 then .bool true else zS zd, by simp [hb8], by kernel_rfl, ⟨hF.1, hF.2.1, hF.2.2.1, hF.2.2.2.1, hF.2.2.2.2.1, hF.2.2.2.2.2.1, hF.2.2.2.2.2.2.1, hF.2.2.2.2.2.2.2.1, fun _ => rfl, fun _ => rfl, hF.2.2.2.2.2.2.2.2.2.2.1, hF.2.2.2.2.2.2.2.2.2.2.2.1, hF.2.2.2.2.2.2.2.2.2.2.2.2⟩, hW⟩
            refine StepsI.cons rfl ?_ ?_
            · rintro L zA v ⟨zB, zS, rfl, rfl, hF, hW⟩ hL hm K hK
              have hb10 : zB 10 = false := by simpa using hL
              have hb8 : zB 8 = true := by cases e : zB 8 with | false => (exfalso; revert hm; simp [metB, Region.binds, e]) | true => rfl
              have hb9 : zB 9 = true := by cases e : zB 9 with | false => (exfalso; revert hm; simp [metB, Region.binds, e]) | true => rfl
              have e8 : zS 29 = .bool true := hF.2.2.2.2.2.2.2.2.1 hb8
              have e9 : zS 30 = .pointer (some ⟨(w.heap.size + 1), 2, none⟩) := hF.2.2.2.2.2.2.2.2.2.1 hb9
              clear hL hm
              simp only [puts, Act.put, List.setIfInBounds_toArray, List.set_cons_zero, List.set_cons_succ]
              simp only [e8, e9]
              obtain ⟨q0, q1, q2, _, _, _⟩ := hW.2.2.1
              go_simp
              exact hK.out _ _ ⟨fun zj => if zj = 9 then true else if zj = 8 then true else if zj = 10 then true else zB zj, fun zd => if zd = 31 then .bool t else if zd = 30 then .pointer (some ⟨(w.heap.size + 1), 2, none⟩) else if zd = 29 then .bool true else zS zd, by simp [hb8, hb9], by kernel_rfl, ⟨hF.1, hF.2.1, hF.2.2.1, hF.2.2.2.1, hF.2.2.2.2.1, hF.2.2.2.2.2.1, hF.2.2.2.2.2.2.1, hF.2.2.2.2.2.2.2.1, fun _ => rfl, fun _ => rfl, fun _ => rfl, hF.2.2.2.2.2.2.2.2.2.2.2.1, hF.2.2.2.2.2.2.2.2.2.2.2.2⟩, hW⟩
            refine StepsI.cons rfl ?_ ?_
            · rintro L zA v ⟨zB, zS, rfl, rfl, hF, hW⟩ hL hm K hK
              have hb11 : zB 11 = false := by simpa using hL
              have hb8 : zB 8 = true := by cases e : zB 8 with | false => (exfalso; revert hm; simp [metB, Region.binds, e]) | true => rfl
              have hb10 : zB 10 = true := by cases e : zB 10 with | false => (exfalso; revert hm; simp [metB, Region.binds, e]) | true => rfl
              have e8 : zS 29 = .bool true := hF.2.2.2.2.2.2.2.2.1 hb8
              have e10 : zS 31 = .bool t := hF.2.2.2.2.2.2.2.2.2.2.1 hb10
              clear hL hm
              simp only [puts, Act.put, List.setIfInBounds_toArray, List.set_cons_zero, List.set_cons_succ]
              simp only [e8, e10]
              go_simp
              exact hK.out _ _ ⟨fun zj => if zj = 10 then true else if zj = 8 then true else if zj = 11 then true else zB zj, fun zd => if zd = 32 then .bool t else if zd = 31 then .bool t else if zd = 29 then .bool true else zS zd, by simp [hb8, hb10], by kernel_rfl, ⟨hF.1, hF.2.1, hF.2.2.1, hF.2.2.2.1, hF.2.2.2.2.1, hF.2.2.2.2.2.1, hF.2.2.2.2.2.2.1, hF.2.2.2.2.2.2.2.1, fun _ => rfl, hF.2.2.2.2.2.2.2.2.2.1, fun _ => rfl, fun _ => rfl, hF.2.2.2.2.2.2.2.2.2.2.2.2⟩, hW⟩
            refine StepsI.cons rfl ?_ ?_
            · rintro L zA v ⟨zB, zS, rfl, rfl, hF, hW⟩ hL hm K hK
              have hb12 : zB 12 = false := by simpa using hL
              have hb5 : zB 5 = true := by cases e : zB 5 with | false => (exfalso; revert hm; simp [metB, Region.binds, e]) | true => rfl
              have hb11 : zB 11 = true := by cases e : zB 11 with | false => (exfalso; revert hm; simp [metB, Region.binds, e]) | true => rfl
              have e5 : zS 26 = .agg #[.int .i64 r1, .int .i64 r2] := hF.2.2.2.2.2.1 hb5
              have e11 : zS 32 = .bool t := hF.2.2.2.2.2.2.2.2.2.2.2.1 hb11
              clear hL hm
              simp only [puts, Act.put, List.setIfInBounds_toArray, List.set_cons_zero, List.set_cons_succ]
              simp only [e5, e11]
              go_simp
              exact hK.out _ _ ⟨fun zj => if zj = 11 then true else if zj = 5 then true else if zj = 12 then true else zB zj, fun zd => if zd = 33 then .agg #[.int .i64 r1, .int .i64 r2, .bool t] else if zd = 32 then .bool t else if zd = 26 then .agg #[.int .i64 r1, .int .i64 r2] else zS zd, by simp [hb5, hb11], by kernel_rfl, ⟨hF.1, hF.2.1, hF.2.2.1, hF.2.2.2.1, hF.2.2.2.2.1, fun _ => rfl, hF.2.2.2.2.2.2.1, hF.2.2.2.2.2.2.2.1, hF.2.2.2.2.2.2.2.2.1, hF.2.2.2.2.2.2.2.2.2.1, hF.2.2.2.2.2.2.2.2.2.2.1, fun _ => rfl, fun _ => rfl⟩, hW⟩
            refine StepsI.cons rfl ?_ ?_
            · rintro L zA v ⟨zB, zS, rfl, rfl, hF, hW⟩ hL hm K hK
              have hb13 : zB 13 = false := by simpa using hL
              have hb12 : zB 12 = true := by cases e : zB 12 with | false => (exfalso; revert hm; simp [metB, Region.binds, e]) | true => rfl
              have e12 : zS 33 = .agg #[.int .i64 r1, .int .i64 r2, .bool t] := hF.2.2.2.2.2.2.2.2.2.2.2.2 hb12
              clear hL hm
              rw [hb13] at hW
              simp only [puts, Act.put, List.setIfInBounds_toArray, List.set_cons_zero, List.set_cons_succ]
              simp only [e12]
              obtain ⟨hB, hX, hY, hZ0, hZ1⟩ := hW
              have hZ := hZ0 rfl
              have ⟨q0, q1, q2, q3, q4, q5⟩ := hZ
              go_simp
              exact hK.out _ _ ⟨fun zj => if zj = 12 then true else if zj = 13 then true else zB zj, fun zd => if zd = 33 then .agg #[.int .i64 r1, .int .i64 r2, .bool t] else zS zd, by simp [hb12], by kernel_rfl, ⟨hF.1, hF.2.1, hF.2.2.1, hF.2.2.2.1, hF.2.2.2.2.1, hF.2.2.2.2.2.1, hF.2.2.2.2.2.2.1, hF.2.2.2.2.2.2.2.1, hF.2.2.2.2.2.2.2.2.1, hF.2.2.2.2.2.2.2.2.2.1, hF.2.2.2.2.2.2.2.2.2.2.1, hF.2.2.2.2.2.2.2.2.2.2.2.1, fun _ => rfl⟩, ⟨bl_set (bl_set (bl_set hB (by show w.heap.size ≤ (w.heap.size + 1 + 1); omega) _) (by show w.heap.size ≤ (w.heap.size + 1 + 1); omega) _) (by show w.heap.size ≤ (w.heap.size + 1 + 1); omega) _, hX.other (by omega) _ _ _, hY.other (by omega) _ _ _, fun e => tf e, fun _ => hZ.set _ _ _⟩⟩
            exact StepsI.nil (by kernel_rfl)
          · rintro L zA v ⟨zB, zS, rfl, rfl, hF, hW⟩ hr
            have hu := all_up (by kernel_rfl) (N := 14) (by kernel_rfl) hr
            have hb0 : zB 0 = true := by simpa using hu 0 (by decide)
            have hb1 : zB 1 = true := by simpa using hu 1 (by decide)
            have hb2 : zB 2 = true := by simpa using hu 2 (by decide)
            have hb3 : zB 3 = true := by simpa using hu 3 (by decide)
            have hb4 : zB 4 = true := by simpa using hu 4 (by decide)
            have hb5 : zB 5 = true := by simpa using hu 5 (by decide)
            have hb6 : zB 6 = true := by simpa using hu 6 (by decide)
            have hb7 : zB 7 = true := by simpa using hu 7 (by decide)
            have hb8 : zB 8 = true := by simpa using hu 8 (by decide)
            have hb9 : zB 9 = true := by simpa using hu 9 (by decide)
            have hb10 : zB 10 = true := by simpa using hu 10 (by decide)
            have hb11 : zB 11 = true := by simpa using hu 11 (by decide)
            have hb12 : zB 12 = true := by simpa using hu 12 (by decide)
            have hb13 : zB 13 = true := by simpa using hu 13 (by decide)
            have e0 : zS 21 = .pointer (some ⟨w.heap.size, 0, none⟩) := hF.1 hb0
            have e1 : zS 22 = .agg #[.int .i64 a, .int .i64 b] := hF.2.1 hb1
            have e2 : zS 23 = .pointer (some ⟨(w.heap.size + 1), 0, none⟩) := hF.2.2.1 hb2
            have e3 : zS 24 = .agg #[.int .i64 c, .int .i64 d] := hF.2.2.2.1 hb3
            have e4 : zS 25 = .slice (some ⟨k, off, none⟩) l.length cap := hF.2.2.2.2.1 hb4
            have e5 : zS 26 = .agg #[.int .i64 r1, .int .i64 r2] := hF.2.2.2.2.2.1 hb5
            have e6 : zS 27 = .pointer (some ⟨w.heap.size, 2, none⟩) := hF.2.2.2.2.2.2.1 hb6
            have e7 : zS 28 = .bool true := hF.2.2.2.2.2.2.2.1 hb7
            have e8 : zS 29 = .bool true := hF.2.2.2.2.2.2.2.2.1 hb8
            have e9 : zS 30 = .pointer (some ⟨(w.heap.size + 1), 2, none⟩) := hF.2.2.2.2.2.2.2.2.2.1 hb9
            have e10 : zS 31 = .bool t := hF.2.2.2.2.2.2.2.2.2.2.1 hb10
            have e11 : zS 32 = .bool t := hF.2.2.2.2.2.2.2.2.2.2.2.1 hb11
            have e12 : zS 33 = .agg #[.int .i64 r1, .int .i64 r2, .bool t] := hF.2.2.2.2.2.2.2.2.2.2.2.2 hb12
            rw [hb13] at hW
            clear hu hr hF
            simp only [puts, Act.put, List.setIfInBounds_toArray, List.set_cons_zero, List.set_cons_succ]
            simp only [e0, e1, e2, e3, e4, e5, e6, e7, e8, e9, e10, e11, e12]
            clear e0 e1 e2 e3 e4 e5 e6 e7 e8 e9 e10 e11 e12
            clear hb0 hb1 hb2 hb3 hb4 hb5 hb6 hb7 hb8 hb9 hb10 hb11 hb12 hb13
            clear zB zS
            obtain ⟨hB, hX, hY, hZ0, hZ1⟩ := hW
            obtain ⟨q0, q1, q2, _, _, _⟩ := hZ1 rfl
            clear hX hY hZ0 hZ1
            go_wp2
            exact bodyPost_ret (v := .agg #[.int .i64 r1, .int .i64 r2, .bool t]) (by simp [results, Tryd.results40, go_sem, *]) rfl ⟨ret_v E.out, hB⟩
end Go.Proofs.YtiihjoliodemmaaDoor.Q
