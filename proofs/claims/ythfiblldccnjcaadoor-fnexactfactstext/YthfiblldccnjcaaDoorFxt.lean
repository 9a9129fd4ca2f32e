/-
  CONTRACT of the program's factText.
-/
import Derived.Test.YthfiblldccnjcaaDoorFta
import Derived.Test.YthfiblldccnjcaaDoorInv
namespace Go.Proofs.YthfiblldccnjcaaDoor
open Go.RowKit

set_option maxRecDepth 100000 in
set_option maxHeartbeats 3200000 in
theorem factText_any (i j : Nat) (x : Int) (l : List ByteArray) (b off cap : Nat) (w0 : World) (hF : Fit l 1048576) (hl : StrsIn w0 l b off) (ht : TabS w0) (hij : i ≠ j) (hi : i ≤ l.length) (hj : j ≤ l.length) (h0 : -2000000 ≤ x) (h1 : x ≤ 2000000) :
    Calls Tryd.prog 23 #[.int .i64 (i : Int), .int .i64 (j : Int), .int .i64 x, .slice (some ⟨b, off, none⟩) l.length cap] w0 fun e w' => e = .returned (.string (pieceT l i j x)) ∧ Below w0.heap.size w0 w' := by
  have HF := mkHid hF
  have HL := mkHid hl
  have HT := mkHid ht
  have hn := hF.1
  clear hF hl ht
  by_cases hj0 : j = 0
  · have hjb : ((j : Int) == 0) = true := by simp [hj0]
    skip
    obtain ⟨ki, hki⟩ : ∃ z, i - 1 = z := ⟨_, rfl⟩
    have hkil : ki < l.length := by omega
    have hw_ki : IntKind.i64.wrap ((i : Int) - 1) = (ki : Int) := by rw [IntWalk.i64_in _ ⟨by omega, by omega⟩]; omega
    have hw2_ki : wrap64 ((i : Int) - 1) = (ki : Int) := by unfold wrap64; omega
    obtain ⟨si, hsi⟩ : ∃ z, nmAt l i = z := ⟨_, rfl⟩
    have hz_si : si.size ≤ 1048576 := by rw [← hsi]; exact nm_size HF.out i
    have hg_ki := nmAt_get (l := l) (v := i) (by omega) (by omega)
    rw [hki, hsi] at hg_ki
    have HS_ki : Hid (∀ v, Below w0.heap.size w0 v → v.cell? ⟨b, off + ki, none⟩ = some (.string si)) := mkHid fun v h => (HL.out.below h) ki si hg_ki
    have z0_ki : (0 : Int) ≤ (ki : Int) := by omega
    have z1_ki : (ki : Int) < (l.length : Int) := by omega
    have HN_si : Hid (nmAt l i = si) := mkHid hsi
    clear hsi hg_ki hki
    obtain ⟨dx, hdx⟩ : ∃ z, dI x = z := ⟨_, rfl⟩
    have hdz : dx.size ≤ 4000002 := by rw [← hdx]; exact dI_size x (by omega) (by omega)
    have HDX := mkHid hdx
    clear hdx
    obtain ⟨a1, ha1⟩ : ∃ z, si ++ (ByteArray.mk #[32, 60, 61, 32]) = z := ⟨_, rfl⟩
    have hs1 : a1.size = si.size + 4 := by rw [← ha1, ByteArray.size_append] <;> rfl
    have hb1_ : ¬ 9223372036854775807 < si.size + 4 := by omega
    have HA1 : Hid (si ++ (ByteArray.mk #[32, 60, 61, 32]) = a1) := mkHid ha1
    obtain ⟨a2, ha2⟩ : ∃ z, a1 ++ dx = z := ⟨_, rfl⟩
    have hs2 : a2.size = a1.size + dx.size := by rw [← ha2, ByteArray.size_append] <;> rfl
    have hb2_ : ¬ 9223372036854775807 < a1.size + dx.size := by omega
    have HA2 : Hid (a1 ++ dx = a2) := mkHid ha2
    have HE : Hid (a2 = pieceT l i j x) := mkHid (by unfold pieceT; rw [if_pos hj0, HN_si.out, HDX.out, HA1.out, HA2.out])
    have HIT : Hid (∀ v, Below w0.heap.size w0 v → Calls Tryd.prog 30 #[.int .i64 x] v fun e v' => e = .returned (.string dx) ∧ Below v.heap.size v v') := mkHid fun v h => by rw [← HDX.out]; exact itoa_any x v (by omega) (by omega) (HT.out v h)
    clear hs1 hs2 hj0
    go_enter Tryd.func23, Tryd.ntmps23
    go_wp2_with fail
    refine wp_region_inv2 (fun zA0 L zA va => ∃ (zB : Nat → Bool) (zS : Nat → Value), L = #[zB 0, zB 1, zB 2, zB 3, zB 4, zB 5, zB 6, zB 7, zB 8, zB 9] ∧ zA = puts zA0 [(12, zS 12), (13, zS 13), (14, zS 14), (15, zS 15), (16, zS 16), (17, zS 17), (18, zS 18), (19, zS 19), (20, zS 20), (8, zS 8)] ∧ ((zB 0 = true → zS 12 = .slice (some ⟨b, off, none⟩) l.length cap) ∧ (zB 1 = true → zS 13 = .int .i64 (i : Int)) ∧ (zB 2 = true → zS 14 = .int .i64 (ki : Int)) ∧ (zB 3 = true → zS 15 = .pointer (some ⟨b, off + ki, none⟩)) ∧ (zB 4 = true → zS 16 = .string si) ∧ (zB 5 = true → zS 17 = .string a1) ∧ (zB 6 = true → zS 18 = .int .i64 x) ∧ (zB 7 = true → zS 19 = .string dx) ∧ (zB 8 = true → zS 20 = .string a2) ∧ (zB 9 = true → zS 8 = .string a2)) ∧ Below w0.heap.size w0 va) (by kernel_rfl) ?_ ?_ ?_
    · exact ⟨fun _ => false, fun zd => if zd = 8 then .string ⟨#[]⟩ else undef, rfl, by kernel_rfl, ⟨fun e => ft e, fun e => ft e, fun e => ft e, fun e => ft e, fun e => ft e, fun e => ft e, fun e => ft e, fun e => ft e, fun e => ft e, fun e => ft e⟩, (Below.refl _ _).drew⟩
    · refine StepsI.cons rfl ?_ ?_
      · rintro L zA va ⟨zB, zS, rfl, rfl, hF, hW⟩ hL hm K hK
        have hb0 : zB 0 = false := by simpa using hL
        clear hL hm
        simp only [puts, Act.put, List.setIfInBounds_toArray, List.set_cons_zero, List.set_cons_succ]
        have HWz := mkHid hW
        clear hW
        go_simp
        have hW := HWz.out
        clear HWz
        exact hK.out _ _ ⟨fun zj => if zj = 0 then true else zB zj, fun zd => if zd = 12 then .slice (some ⟨b, off, none⟩) l.length cap else zS zd, rfl, by kernel_rfl, ⟨fun _ => rfl, hF.2.1, hF.2.2.1, hF.2.2.2.1, hF.2.2.2.2.1, hF.2.2.2.2.2.1, hF.2.2.2.2.2.2.1, hF.2.2.2.2.2.2.2.1, hF.2.2.2.2.2.2.2.2.1, hF.2.2.2.2.2.2.2.2.2⟩, hW⟩
      refine StepsI.cons rfl ?_ ?_
      · rintro L zA va ⟨zB, zS, rfl, rfl, hF, hW⟩ hL hm K hK
        have hb1 : zB 1 = false := by simpa using hL
        clear hL hm
        simp only [puts, Act.put, List.setIfInBounds_toArray, List.set_cons_zero, List.set_cons_succ]
        have HWz := mkHid hW
        clear hW
        go_simp
        have hW := HWz.out
        clear HWz
        exact hK.out _ _ ⟨fun zj => if zj = 1 then true else zB zj, fun zd => if zd = 13 then .int .i64 (i : Int) else zS zd, rfl, by kernel_rfl, ⟨hF.1, fun _ => rfl, hF.2.2.1, hF.2.2.2.1, hF.2.2.2.2.1, hF.2.2.2.2.2.1, hF.2.2.2.2.2.2.1, hF.2.2.2.2.2.2.2.1, hF.2.2.2.2.2.2.2.2.1, hF.2.2.2.2.2.2.2.2.2⟩, hW⟩
      refine StepsI.cons rfl ?_ ?_
      · rintro L zA va ⟨zB, zS, rfl, rfl, hF, hW⟩ hL hm K hK
        have hb2 : zB 2 = false := by simpa using hL
        have hb1 : zB 1 = true := by cases e : zB 1 with | false => (exfalso; revert hm; simp [metB, Region.binds, e]) | true => rfl
        have e1 : zS 13 = .int .i64 (i : Int) := hF.2.1 hb1
        clear hL hm
        simp only [puts, Act.put, List.setIfInBounds_toArray, List.set_cons_zero, List.set_cons_succ]
        simp only [e1]
        have HWz := mkHid hW
        clear hW
        go_simp
        have hW := HWz.out
        clear HWz
        exact hK.out _ _ ⟨fun zj => if zj = 1 then true else if zj = 2 then true else zB zj, fun zd => if zd = 14 then .int .i64 (ki : Int) else if zd = 13 then .int .i64 (i : Int) else zS zd, by simp [hb1], by kernel_rfl, ⟨hF.1, fun _ => rfl, fun _ => rfl, hF.2.2.2.1, hF.2.2.2.2.1, hF.2.2.2.2.2.1, hF.2.2.2.2.2.2.1, hF.2.2.2.2.2.2.2.1, hF.2.2.2.2.2.2.2.2.1, hF.2.2.2.2.2.2.2.2.2⟩, hW⟩
      refine StepsI.cons rfl ?_ ?_
      · rintro L zA va ⟨zB, zS, rfl, rfl, hF, hW⟩ hL hm K hK
        have hb3 : zB 3 = false := by simpa using hL
        have hb0 : zB 0 = true := by cases e : zB 0 with | false => (exfalso; revert hm; simp [metB, Region.binds, e]) | true => rfl
        have hb2 : zB 2 = true := by cases e : zB 2 with | false => (exfalso; revert hm; simp [metB, Region.binds, e]) | true => rfl
        have e0 : zS 12 = .slice (some ⟨b, off, none⟩) l.length cap := hF.1 hb0
        have e2 : zS 14 = .int .i64 (ki : Int) := hF.2.2.1 hb2
        clear hL hm
        simp only [puts, Act.put, List.setIfInBounds_toArray, List.set_cons_zero, List.set_cons_succ]
        simp only [e0, e2]
        have HWz := mkHid hW
        clear hW
        go_simp
        have hW := HWz.out
        clear HWz
        exact hK.out _ _ ⟨fun zj => if zj = 2 then true else if zj = 0 then true else if zj = 3 then true else zB zj, fun zd => if zd = 15 then .pointer (some ⟨b, off + ki, none⟩) else if zd = 14 then .int .i64 (ki : Int) else if zd = 12 then .slice (some ⟨b, off, none⟩) l.length cap else zS zd, by simp [hb0, hb2], by kernel_rfl, ⟨fun _ => rfl, hF.2.1, fun _ => rfl, fun _ => rfl, hF.2.2.2.2.1, hF.2.2.2.2.2.1, hF.2.2.2.2.2.2.1, hF.2.2.2.2.2.2.2.1, hF.2.2.2.2.2.2.2.2.1, hF.2.2.2.2.2.2.2.2.2⟩, hW⟩
      refine StepsI.cons rfl ?_ ?_
      · rintro L zA va ⟨zB, zS, rfl, rfl, hF, hW⟩ hL hm K hK
        have hb4 : zB 4 = false := by simpa using hL
        have hb3 : zB 3 = true := by cases e : zB 3 with | false => (exfalso; revert hm; simp [metB, Region.binds, e]) | true => rfl
        have e3 : zS 15 = .pointer (some ⟨b, off + ki, none⟩) := hF.2.2.2.1 hb3
        clear hL hm
        simp only [puts, Act.put, List.setIfInBounds_toArray, List.set_cons_zero, List.set_cons_succ]
        simp only [e3]
        have cS := HS_ki.out va hW
        have HWz := mkHid hW
        clear hW
        go_simp
        have hW := HWz.out
        clear HWz
        exact hK.out _ _ ⟨fun zj => if zj = 3 then true else if zj = 4 then true else zB zj, fun zd => if zd = 16 then .string si else if zd = 15 then .pointer (some ⟨b, off + ki, none⟩) else zS zd, by simp [hb3], by kernel_rfl, ⟨hF.1, hF.2.1, hF.2.2.1, fun _ => rfl, fun _ => rfl, hF.2.2.2.2.2.1, hF.2.2.2.2.2.2.1, hF.2.2.2.2.2.2.2.1, hF.2.2.2.2.2.2.2.2.1, hF.2.2.2.2.2.2.2.2.2⟩, hW⟩
      refine StepsI.cons rfl ?_ ?_
      · rintro L zA va ⟨zB, zS, rfl, rfl, hF, hW⟩ hL hm K hK
        have hb5 : zB 5 = false := by simpa using hL
        have hb4 : zB 4 = true := by cases e : zB 4 with | false => (exfalso; revert hm; simp [metB, Region.binds, e]) | true => rfl
        have e4 : zS 16 = .string si := hF.2.2.2.2.1 hb4
        clear hL hm
        simp only [puts, Act.put, List.setIfInBounds_toArray, List.set_cons_zero, List.set_cons_succ]
        simp only [e4]
        have HWz := mkHid hW
        clear hW
        go_simp
        have hW := HWz.out
        clear HWz
        exact hK.out _ _ ⟨fun zj => if zj = 4 then true else if zj = 5 then true else zB zj, fun zd => if zd = 17 then .string a1 else if zd = 16 then .string si else zS zd, by simp [hb4], by kernel_rfl, ⟨hF.1, hF.2.1, hF.2.2.1, hF.2.2.2.1, fun _ => rfl, fun _ => rfl, hF.2.2.2.2.2.2.1, hF.2.2.2.2.2.2.2.1, hF.2.2.2.2.2.2.2.2.1, hF.2.2.2.2.2.2.2.2.2⟩, hW⟩
      refine StepsI.cons rfl ?_ ?_
      · rintro L zA va ⟨zB, zS, rfl, rfl, hF, hW⟩ hL hm K hK
        have hb6 : zB 6 = false := by simpa using hL
        clear hL hm
        simp only [puts, Act.put, List.setIfInBounds_toArray, List.set_cons_zero, List.set_cons_succ]
        have HWz := mkHid hW
        clear hW
        go_simp
        have hW := HWz.out
        clear HWz
        exact hK.out _ _ ⟨fun zj => if zj = 6 then true else zB zj, fun zd => if zd = 18 then .int .i64 x else zS zd, rfl, by kernel_rfl, ⟨hF.1, hF.2.1, hF.2.2.1, hF.2.2.2.1, hF.2.2.2.2.1, hF.2.2.2.2.2.1, fun _ => rfl, hF.2.2.2.2.2.2.2.1, hF.2.2.2.2.2.2.2.2.1, hF.2.2.2.2.2.2.2.2.2⟩, hW⟩
      refine StepsI.cons rfl ?_ ?_
      · rintro L zA va ⟨zB, zS, rfl, rfl, hF, hW⟩ hL hm K hK
        have hb7 : zB 7 = false := by simpa using hL
        have hb6 : zB 6 = true := by cases e : zB 6 with | false => (exfalso; revert hm; simp [metB, Region.binds, e]) | true => rfl
        have e6 : zS 18 = .int .i64 x := hF.2.2.2.2.2.2.1 hb6
        clear hL hm
        simp only [puts, Act.put, List.setIfInBounds_toArray, List.set_cons_zero, List.set_cons_succ]
        simp only [e6]
        have HWz := mkHid hW
        clear hW
        go_simp
        have hW := HWz.out
        clear HWz
        refine (HIT.out va hW).mono ?_
        rintro e va2 ⟨rfl, hb⟩
        have HWz := mkHid hW
        clear hW
        go_wp2_with fail
        have hW := HWz.out
        clear HWz
        exact hK.out _ _ ⟨fun zj => if zj = 6 then true else if zj = 7 then true else zB zj, fun zd => if zd = 19 then .string dx else if zd = 18 then .int .i64 x else zS zd, by simp [hb6], by kernel_rfl, ⟨hF.1, hF.2.1, hF.2.2.1, hF.2.2.2.1, hF.2.2.2.2.1, hF.2.2.2.2.2.1, fun _ => rfl, fun _ => rfl, hF.2.2.2.2.2.2.2.2.1, hF.2.2.2.2.2.2.2.2.2⟩, below_step hW hb⟩
      refine StepsI.cons rfl ?_ ?_
      · rintro L zA va ⟨zB, zS, rfl, rfl, hF, hW⟩ hL hm K hK
        have hb8 : zB 8 = false := by simpa using hL
        have hb5 : zB 5 = true := by cases e : zB 5 with | false => (exfalso; revert hm; simp [metB, Region.binds, e]) | true => rfl
        have hb7 : zB 7 = true := by cases e : zB 7 with | false => (exfalso; revert hm; simp [metB, Region.binds, e]) | true => rfl
        have e5 : zS 17 = .string a1 := hF.2.2.2.2.2.1 hb5
        have e7 : zS 19 = .string dx := hF.2.2.2.2.2.2.2.1 hb7
        clear hL hm
        simp only [puts, Act.put, List.setIfInBounds_toArray, List.set_cons_zero, List.set_cons_succ]
        simp only [e5, e7]
        have HWz := mkHid hW
        clear hW
        go_simp
        have hW := HWz.out
        clear HWz
        exact hK.out _ _ ⟨fun zj => if zj = 7 then true else if zj = 5 then true else if zj = 8 then true else zB zj, fun zd => if zd = 20 then .string a2 else if zd = 19 then .string dx else if zd = 17 then .string a1 else zS zd, by simp [hb5, hb7], by kernel_rfl, ⟨hF.1, hF.2.1, hF.2.2.1, hF.2.2.2.1, hF.2.2.2.2.1, fun _ => rfl, hF.2.2.2.2.2.2.1, fun _ => rfl, fun _ => rfl, hF.2.2.2.2.2.2.2.2.2⟩, hW⟩
      refine StepsI.cons rfl ?_ ?_
      · rintro L zA va ⟨zB, zS, rfl, rfl, hF, hW⟩ hL hm K hK
        have hb9 : zB 9 = false := by simpa using hL
        have hb8 : zB 8 = true := by cases e : zB 8 with | false => (exfalso; revert hm; simp [metB, Region.binds, e]) | true => rfl
        have e8 : zS 20 = .string a2 := hF.2.2.2.2.2.2.2.2.1 hb8
        clear hL hm
        simp only [puts, Act.put, List.setIfInBounds_toArray, List.set_cons_zero, List.set_cons_succ]
        simp only [e8]
        have HWz := mkHid hW
        clear hW
        go_simp
        have hW := HWz.out
        clear HWz
        exact hK.out _ _ ⟨fun zj => if zj = 8 then true else if zj = 9 then true else zB zj, fun zd => if zd = 8 then .string a2 else if zd = 20 then .string a2 else zS zd, by simp [hb8], by kernel_rfl, ⟨hF.1, hF.2.1, hF.2.2.1, hF.2.2.2.1, hF.2.2.2.2.1, hF.2.2.2.2.2.1, hF.2.2.2.2.2.2.1, hF.2.2.2.2.2.2.2.1, fun _ => rfl, fun _ => rfl⟩, hW⟩
      exact StepsI.nil (by kernel_rfl)
    · rintro L zA va ⟨zB, zS, rfl, rfl, hF, hW⟩ hr
      have hu := all_up (by kernel_rfl) (N := 10) (by kernel_rfl) hr
      have hb0 : zB 0 = true := by simpa using hu 0 (by decide)
      have hb1 : zB 1 = true := by simpa using hu 1 (by decide)
      have hb2 : zB 2 = true := by simpa using hu 2 (by decide)
      have hb3 : zB 3 = true := by simpa using hu 3 (by decide)
      have hb4 : zB 4 = true := by simpa using hu 4 (by decide)
      have hb5 : zB 5 = true := by simpa using hu 5 (by decide)
      have hb6 : zB 6 = true := by simpa using hu 6 (by decide)
      have hb7 : zB 7 = true := by simpa using hu 7 (by decide)
      have hb8 : zB 8 = true := by simpa using hu 8 (by decide)
      have hb9 : zB 9 = true := by simpa using hu 9 (by decide)
      have e0 : zS 12 = .slice (some ⟨b, off, none⟩) l.length cap := hF.1 hb0
      have e1 : zS 13 = .int .i64 (i : Int) := hF.2.1 hb1
      have e2 : zS 14 = .int .i64 (ki : Int) := hF.2.2.1 hb2
      have e3 : zS 15 = .pointer (some ⟨b, off + ki, none⟩) := hF.2.2.2.1 hb3
      have e4 : zS 16 = .string si := hF.2.2.2.2.1 hb4
      have e5 : zS 17 = .string a1 := hF.2.2.2.2.2.1 hb5
      have e6 : zS 18 = .int .i64 x := hF.2.2.2.2.2.2.1 hb6
      have e7 : zS 19 = .string dx := hF.2.2.2.2.2.2.2.1 hb7
      have e8 : zS 20 = .string a2 := hF.2.2.2.2.2.2.2.2.1 hb8
      have e9 : zS 8 = .string a2 := hF.2.2.2.2.2.2.2.2.2 hb9
      clear hu hr hF
      simp only [puts, Act.put, List.setIfInBounds_toArray, List.set_cons_zero, List.set_cons_succ]
      simp only [e0, e1, e2, e3, e4, e5, e6, e7, e8, e9]
      clear e0 e1 e2 e3 e4 e5 e6 e7 e8 e9
      clear hb0 hb1 hb2 hb3 hb4 hb5 hb6 hb7 hb8 hb9
      clear zB zS
      have HB := mkHid hW
      clear hW
      go_wp2
      go_ret
      exact ⟨ret_str HE.out, HB.out⟩
  · have hjb : ((j : Int) == 0) = false := by simp; omega
    have hj1 : ¬ (j : Int) = 0 := by omega
    by_cases hi0 : i = 0
    · have hib : ((i : Int) == 0) = true := by simp [hi0]
      skip
      obtain ⟨kj, hkj⟩ : ∃ z, j - 1 = z := ⟨_, rfl⟩
      have hkjl : kj < l.length := by omega
      have hw_kj : IntKind.i64.wrap ((j : Int) - 1) = (kj : Int) := by rw [IntWalk.i64_in _ ⟨by omega, by omega⟩]; omega
      have hw2_kj : wrap64 ((j : Int) - 1) = (kj : Int) := by unfold wrap64; omega
      obtain ⟨sj, hsj⟩ : ∃ z, nmAt l j = z := ⟨_, rfl⟩
      have hz_sj : sj.size ≤ 1048576 := by rw [← hsj]; exact nm_size HF.out j
      have hg_kj := nmAt_get (l := l) (v := j) (by omega) (by omega)
      rw [hkj, hsj] at hg_kj
      have HS_kj : Hid (∀ v, Below w0.heap.size w0 v → v.cell? ⟨b, off + kj, none⟩ = some (.string sj)) := mkHid fun v h => (HL.out.below h) kj sj hg_kj
      have z0_kj : (0 : Int) ≤ (kj : Int) := by omega
      have z1_kj : (kj : Int) < (l.length : Int) := by omega
      have HN_sj : Hid (nmAt l j = sj) := mkHid hsj
      clear hsj hg_kj hkj
      obtain ⟨y, hy⟩ : ∃ z, -x = z := ⟨_, rfl⟩
      have hwy : IntKind.i64.wrap (-x) = y := by rw [← hy]; exact IntWalk.i64_in _ ⟨by omega, by omega⟩
      have hy1 : -4000000 ≤ y := by omega
      have hy2 : y ≤ 4000000 := by omega
      obtain ⟨dx, hdx⟩ : ∃ z, dI y = z := ⟨_, rfl⟩
      have hdz : dx.size ≤ 4000002 := by rw [← hdx]; exact dI_size y (by omega) (by omega)
      have HDX : Hid (dI y = dx) := mkHid hdx
      have HY := mkHid hy
      clear hdx hy
      obtain ⟨a1, ha1⟩ : ∃ z, sj ++ (ByteArray.mk #[32, 62, 61, 32]) = z := ⟨_, rfl⟩
      have hs1 : a1.size = sj.size + 4 := by rw [← ha1, ByteArray.size_append] <;> rfl
      have hb1_ : ¬ 9223372036854775807 < sj.size + 4 := by omega
      have HA1 : Hid (sj ++ (ByteArray.mk #[32, 62, 61, 32]) = a1) := mkHid ha1
      obtain ⟨a2, ha2⟩ : ∃ z, a1 ++ dx = z := ⟨_, rfl⟩
      have hs2 : a2.size = a1.size + dx.size := by rw [← ha2, ByteArray.size_append] <;> rfl
      have hb2_ : ¬ 9223372036854775807 < a1.size + dx.size := by omega
      have HA2 : Hid (a1 ++ dx = a2) := mkHid ha2
      have HE : Hid (a2 = pieceT l i j x) := mkHid (by unfold pieceT; rw [if_neg hj0, if_pos hi0, HN_sj.out, HY.out, HDX.out, HA1.out, HA2.out])
      have HIT : Hid (∀ v, Below w0.heap.size w0 v → Calls Tryd.prog 30 #[.int .i64 y] v fun e v' => e = .returned (.string dx) ∧ Below v.heap.size v v') := mkHid fun v h => by rw [← HDX.out]; exact itoa_any y v (by omega) (by omega) (HT.out v h)
      clear hs1 hs2 hj0 hi0
      go_enter Tryd.func23, Tryd.ntmps23
      go_wp2_with fail
      refine wp_region_inv2 (fun zA0 L zA va => ∃ (zB : Nat → Bool) (zS : Nat → Value), L = #[zB 0, zB 1, zB 2, zB 3, zB 4, zB 5, zB 6, zB 7, zB 8, zB 9, zB 10] ∧ zA = puts zA0 [(24, zS 24), (25, zS 25), (26, zS 26), (27, zS 27), (28, zS 28), (29, zS 29), (30, zS 30), (31, zS 31), (32, zS 32), (33, zS 33), (8, zS 8)] ∧ ((zB 0 = true → zS 24 = .slice (some ⟨b, off, none⟩) l.length cap) ∧ (zB 1 = true → zS 25 = .int .i64 (j : Int)) ∧ (zB 2 = true → zS 26 = .int .i64 (kj : Int)) ∧ (zB 3 = true → zS 27 = .pointer (some ⟨b, off + kj, none⟩)) ∧ (zB 4 = true → zS 28 = .string sj) ∧ (zB 5 = true → zS 29 = .string a1) ∧ (zB 6 = true → zS 30 = .int .i64 x) ∧ (zB 7 = true → zS 31 = .int .i64 y) ∧ (zB 8 = true → zS 32 = .string dx) ∧ (zB 9 = true → zS 33 = .string a2) ∧ (zB 10 = true → zS 8 = .string a2)) ∧ Below w0.heap.size w0 va) (by kernel_rfl) ?_ ?_ ?_
      · exact ⟨fun _ => false, fun zd => if zd = 8 then .string ⟨#[]⟩ else undef, rfl, by kernel_rfl, ⟨fun e => ft e, fun e => ft e, fun e => ft e, fun e => ft e, fun e => ft e, fun e => ft e, fun e => ft e, fun e => ft e, fun e => ft e, fun e => ft e, fun e => ft e⟩, (Below.refl _ _).drew⟩
      · refine StepsI.cons rfl ?_ ?_
        · rintro L zA va ⟨zB, zS, rfl, rfl, hF, hW⟩ hL hm K hK
          have hb0 : zB 0 = false := by simpa using hL
          clear hL hm
          simp only [puts, Act.put, List.setIfInBounds_toArray, List.set_cons_zero, List.set_cons_succ]
          have HWz := mkHid hW
          clear hW
          go_simp
          have hW := HWz.out
          clear HWz
          exact hK.out _ _ ⟨fun zj => if zj = 0 then true else zB zj, fun zd => if zd = 24 then .slice (some ⟨b, off, none⟩) l.length cap else zS zd, rfl, by kernel_rfl, ⟨fun _ => rfl, hF.2.1, hF.2.2.1, hF.2.2.2.1, hF.2.2.2.2.1, hF.2.2.2.2.2.1, hF.2.2.2.2.2.2.1, hF.2.2.2.2.2.2.2.1, hF.2.2.2.2.2.2.2.2.1, hF.2.2.2.2.2.2.2.2.2.1, hF.2.2.2.2.2.2.2.2.2.2⟩, hW⟩
        refine StepsI.cons rfl ?_ ?_
        · rintro L zA va ⟨zB, zS, rfl, rfl, hF, hW⟩ hL hm K hK
          have hb1 : zB 1 = false := by simpa using hL
          clear hL hm
          simp only [puts, Act.put, List.setIfInBounds_toArray, List.set_cons_zero, List.set_cons_succ]
          have HWz := mkHid hW
          clear hW
          go_simp
          have hW := HWz.out
          clear HWz
          exact hK.out _ _ ⟨fun zj => if zj = 1 then true else zB zj, fun zd => if zd = 25 then .int .i64 (j : Int) else zS zd, rfl, by kernel_rfl, ⟨hF.1, fun _ => rfl, hF.2.2.1, hF.2.2.2.1, hF.2.2.2.2.1, hF.2.2.2.2.2.1, hF.2.2.2.2.2.2.1, hF.2.2.2.2.2.2.2.1, hF.2.2.2.2.2.2.2.2.1, hF.2.2.2.2.2.2.2.2.2.1, hF.2.2.2.2.2.2.2.2.2.2⟩, hW⟩
        refine StepsI.cons rfl ?_ ?_
        · rintro L zA va ⟨zB, zS, rfl, rfl, hF, hW⟩ hL hm K hK
          have hb2 : zB 2 = false := by simpa using hL
          have hb1 : zB 1 = true := by cases e : zB 1 with | false => (exfalso; revert hm; simp [metB, Region.binds, e]) | true => rfl
          have e1 : zS 25 = .int .i64 (j : Int) := hF.2.1 hb1
          clear hL hm
          simp only [puts, Act.put, List.setIfInBounds_toArray, List.set_cons_zero, List.set_cons_succ]
          simp only [e1]
          have HWz := mkHid hW
          clear hW
          go_simp
          have hW := HWz.out
          clear HWz
          exact hK.out _ _ ⟨fun zj => if zj = 1 then true else if zj = 2 then true else zB zj, fun zd => if zd = 26 then .int .i64 (kj : Int) else if zd = 25 then .int .i64 (j : Int) else zS zd, by simp [hb1], by kernel_rfl, ⟨hF.1, fun _ => rfl, fun _ => rfl, hF.2.2.2.1, hF.2.2.2.2.1, hF.2.2.2.2.2.1, hF.2.2.2.2.2.2.1, hF.2.2.2.2.2.2.2.1, hF.2.2.2.2.2.2.2.2.1, hF.2.2.2.2.2.2.2.2.2.1, hF.2.2.2.2.2.2.2.2.2.2⟩, hW⟩
        refine StepsI.cons rfl ?_ ?_
        · rintro L zA va ⟨zB, zS, rfl, rfl, hF, hW⟩ hL hm K hK
          have hb3 : zB 3 = false := by simpa using hL
          have hb0 : zB 0 = true := by cases e : zB 0 with | false => (exfalso; revert hm; simp [metB, Region.binds, e]) | true => rfl
          have hb2 : zB 2 = true := by cases e : zB 2 with | false => (exfalso; revert hm; simp [metB, Region.binds, e]) | true => rfl
          have e0 : zS 24 = .slice (some ⟨b, off, none⟩) l.length cap := hF.1 hb0
          have e2 : zS 26 = .int .i64 (kj : Int) := hF.2.2.1 hb2
          clear hL hm
          simp only [puts, Act.put, List.setIfInBounds_toArray, List.set_cons_zero, List.set_cons_succ]
          simp only [e0, e2]
          have HWz := mkHid hW
          clear hW
          go_simp
          have hW := HWz.out
          clear HWz
          exact hK.out _ _ ⟨fun zj => if zj = 2 then true else if zj = 0 then true else if zj = 3 then true else zB zj, fun zd => if zd = 27 then .pointer (some ⟨b, off + kj, none⟩) else if zd = 26 then .int .i64 (kj : Int) else if zd = 24 then .slice (some ⟨b, off, none⟩) l.length cap else zS zd, by simp [hb0, hb2], by kernel_rfl, ⟨fun _ => rfl, hF.2.1, fun _ => rfl, fun _ => rfl, hF.2.2.2.2.1, hF.2.2.2.2.2.1, hF.2.2.2.2.2.2.1, hF.2.2.2.2.2.2.2.1, hF.2.2.2.2.2.2.2.2.1, hF.2.2.2.2.2.2.2.2.2.1, hF.2.2.2.2.2.2.2.2.2.2⟩, hW⟩
        refine StepsI.cons rfl ?_ ?_
        · rintro L zA va ⟨zB, zS, rfl, rfl, hF, hW⟩ hL hm K hK
          have hb4 : zB 4 = false := by simpa using hL
          have hb3 : zB 3 = true := by cases e : zB 3 with | false => (exfalso; revert hm; simp [metB, Region.binds, e]) | true => rfl
          have e3 : zS 27 = .pointer (some ⟨b, off + kj, none⟩) := hF.2.2.2.1 hb3
          clear hL hm
          simp only [puts, Act.put, List.setIfInBounds_toArray, List.set_cons_zero, List.set_cons_succ]
          simp only [e3]
          have cS := HS_kj.out va hW
          have HWz := mkHid hW
          clear hW
          go_simp
          have hW := HWz.out
          clear HWz
          exact hK.out _ _ ⟨fun zj => if zj = 3 then true else if zj = 4 then true else zB zj, fun zd => if zd = 28 then .string sj else if zd = 27 then .pointer (some ⟨b, off + kj, none⟩) else zS zd, by simp [hb3], by kernel_rfl, ⟨hF.1, hF.2.1, hF.2.2.1, fun _ => rfl, fun _ => rfl, hF.2.2.2.2.2.1, hF.2.2.2.2.2.2.1, hF.2.2.2.2.2.2.2.1, hF.2.2.2.2.2.2.2.2.1, hF.2.2.2.2.2.2.2.2.2.1, hF.2.2.2.2.2.2.2.2.2.2⟩, hW⟩
        refine StepsI.cons rfl ?_ ?_
        · rintro L zA va ⟨zB, zS, rfl, rfl, hF, hW⟩ hL hm K hK
          have hb5 : zB 5 = false := by simpa using hL
          have hb4 : zB 4 = true := by cases e : zB 4 with | false => (exfalso; revert hm; simp [metB, Region.binds, e]) | true => rfl
          have e4 : zS 28 = .string sj := hF.2.2.2.2.1 hb4
          clear hL hm
          simp only [puts, Act.put, List.setIfInBounds_toArray, List.set_cons_zero, List.set_cons_succ]
          simp only [e4]
          have HWz := mkHid hW
          clear hW
          go_simp
          have hW := HWz.out
          clear HWz
          exact hK.out _ _ ⟨fun zj => if zj = 4 then true else if zj = 5 then true else zB zj, fun zd => if zd = 29 then .string a1 else if zd = 28 then .string sj else zS zd, by simp [hb4], by kernel_rfl, ⟨hF.1, hF.2.1, hF.2.2.1, hF.2.2.2.1, fun _ => rfl, fun _ => rfl, hF.2.2.2.2.2.2.1, hF.2.2.2.2.2.2.2.1, hF.2.2.2.2.2.2.2.2.1, hF.2.2.2.2.2.2.2.2.2.1, hF.2.2.2.2.2.2.2.2.2.2⟩, hW⟩
        refine StepsI.cons rfl ?_ ?_
        · rintro L zA va ⟨zB, zS, rfl, rfl, hF, hW⟩ hL hm K hK
          have hb6 : zB 6 = false := by simpa using hL
          clear hL hm
          simp only [puts, Act.put, List.setIfInBounds_toArray, List.set_cons_zero, List.set_cons_succ]
          have HWz := mkHid hW
          clear hW
          go_simp
          have hW := HWz.out
          clear HWz
          exact hK.out _ _ ⟨fun zj => if zj = 6 then true else zB zj, fun zd => if zd = 30 then .int .i64 x else zS zd, rfl, by kernel_rfl, ⟨hF.1, hF.2.1, hF.2.2.1, hF.2.2.2.1, hF.2.2.2.2.1, hF.2.2.2.2.2.1, fun _ => rfl, hF.2.2.2.2.2.2.2.1, hF.2.2.2.2.2.2.2.2.1, hF.2.2.2.2.2.2.2.2.2.1, hF.2.2.2.2.2.2.2.2.2.2⟩, hW⟩
        refine StepsI.cons rfl ?_ ?_
        · rintro L zA va ⟨zB, zS, rfl, rfl, hF, hW⟩ hL hm K hK
          have hb7 : zB 7 = false := by simpa using hL
          have hb6 : zB 6 = true := by cases e : zB 6 with | false => (exfalso; revert hm; simp [metB, Region.binds, e]) | true => rfl
          have e6 : zS 30 = .int .i64 x := hF.2.2.2.2.2.2.1 hb6
          clear hL hm
          simp only [puts, Act.put, List.setIfInBounds_toArray, List.set_cons_zero, List.set_cons_succ]
          simp only [e6]
          have HWz := mkHid hW
          clear hW
          go_simp
          have hW := HWz.out
          clear HWz
          exact hK.out _ _ ⟨fun zj => if zj = 6 then true else if zj = 7 then true else zB zj, fun zd => if zd = 31 then .int .i64 y else if zd = 30 then .int .i64 x else zS zd, by simp [hb6], by kernel_rfl, ⟨hF.1, hF.2.1, hF.2.2.1, hF.2.2.2.1, hF.2.2.2.2.1, hF.2.2.2.2.2.1, fun _ => rfl, fun _ => rfl, hF.2.2.2.2.2.2.2.2.1, hF.2.2.2.2.2.2.2.2.2.1, hF.2.2.2.2.2.2.2.2.2.2⟩, hW⟩
        refine StepsI.cons rfl ?_ ?_
        · rintro L zA va ⟨zB, zS, rfl, rfl, hF, hW⟩ hL hm K hK
          have hb8 : zB 8 = false := by simpa using hL
          have hb7 : zB 7 = true := by cases e : zB 7 with | false => (exfalso; revert hm; simp [metB, Region.binds, e]) | true => rfl
          have e7 : zS 31 = .int .i64 y := hF.2.2.2.2.2.2.2.1 hb7
          clear hL hm
          simp only [puts, Act.put, List.setIfInBounds_toArray, List.set_cons_zero, List.set_cons_succ]
          simp only [e7]
          have HWz := mkHid hW
          clear hW
          go_simp
          have hW := HWz.out
          clear HWz
          refine (HIT.out va hW).mono ?_
          rintro e va2 ⟨rfl, hb⟩
          have HWz := mkHid hW
          clear hW
          go_wp2_with fail
          have hW := HWz.out
          clear HWz
          exact hK.out _ _ ⟨fun zj => if zj = 7 then true else if zj = 8 then true else zB zj, fun zd => if zd = 32 then .string dx else if zd = 31 then .int .i64 y else zS zd, by simp [hb7], by kernel_rfl, ⟨hF.1, hF.2.1, hF.2.2.1, hF.2.2.2.1, hF.2.2.2.2.1, hF.2.2.2.2.2.1, hF.2.2.2.2.2.2.1, fun _ => rfl, fun _ => rfl, hF.2.2.2.2.2.2.2.2.2.1, hF.2.2.2.2.2.2.2.2.2.2⟩, below_step hW hb⟩
        refine StepsI.cons rfl ?_ ?_
        · rintro L zA va ⟨zB, zS, rfl, rfl, hF, hW⟩ hL hm K hK
          have hb9 : zB 9 = false := by simpa using hL
          have hb5 : zB 5 = true := by cases e : zB 5 with | false => (exfalso; revert hm; simp [metB, Region.binds, e]) | true => rfl
          have hb8 : zB 8 = true := by cases e : zB 8 with | false => (exfalso; revert hm; simp [metB, Region.binds, e]) | true => rfl
          have e5 : zS 29 = .string a1 := hF.2.2.2.2.2.1 hb5
          have e8 : zS 32 = .string dx := hF.2.2.2.2.2.2.2.2.1 hb8
          clear hL hm
          simp only [puts, Act.put, List.setIfInBounds_toArray, List.set_cons_zero, List.set_cons_succ]
          simp only [e5, e8]
          have HWz := mkHid hW
          clear hW
          go_simp
          have hW := HWz.out
          clear HWz
          exact hK.out _ _ ⟨fun zj => if zj = 8 then true else if zj = 5 then true else if zj = 9 then true else zB zj, fun zd => if zd = 33 then .string a2 else if zd = 32 then .string dx else if zd = 29 then .string a1 else zS zd, by simp [hb5, hb8], by kernel_rfl, ⟨hF.1, hF.2.1, hF.2.2.1, hF.2.2.2.1, hF.2.2.2.2.1, fun _ => rfl, hF.2.2.2.2.2.2.1, hF.2.2.2.2.2.2.2.1, fun _ => rfl, fun _ => rfl, hF.2.2.2.2.2.2.2.2.2.2⟩, hW⟩
        refine StepsI.cons rfl ?_ ?_
        · rintro L zA va ⟨zB, zS, rfl, rfl, hF, hW⟩ hL hm K hK
          have hb10 : zB 10 = false := by simpa using hL
          have hb9 : zB 9 = true := by cases e : zB 9 with | false => (exfalso; revert hm; simp [metB, Region.binds, e]) | true => rfl
          have e9 : zS 33 = .string a2 := hF.2.2.2.2.2.2.2.2.2.1 hb9
          clear hL hm
          simp only [puts, Act.put, List.setIfInBounds_toArray, List.set_cons_zero, List.set_cons_succ]
          simp only [e9]
          have HWz := mkHid hW
          clear hW
          go_simp
          have hW := HWz.out
          clear HWz
          exact hK.out _ _ ⟨fun zj => if zj = 9 then true else if zj = 10 then true else zB zj, fun zd => if zd = 8 then .string a2 else if zd = 33 then .string a2 else zS zd, by simp [hb9], by kernel_rfl, ⟨hF.1, hF.2.1, hF.2.2.1, hF.2.2.2.1, hF.2.2.2.2.1, hF.2.2.2.2.2.1, hF.2.2.2.2.2.2.1, hF.2.2.2.2.2.2.2.1, hF.2.2.2.2.2.2.2.2.1, fun _ => rfl, fun _ => rfl⟩, hW⟩
        exact StepsI.nil (by kernel_rfl)
      · rintro L zA va ⟨zB, zS, rfl, rfl, hF, hW⟩ hr
        have hu := all_up (by kernel_rfl) (N := 11) (by kernel_rfl) hr
        have hb0 : zB 0 = true := by simpa using hu 0 (by decide)
        have hb1 : zB 1 = true := by simpa using hu 1 (by decide)
        have hb2 : zB 2 = true := by simpa using hu 2 (by decide)
        have hb3 : zB 3 = true := by simpa using hu 3 (by decide)
        have hb4 : zB 4 = true := by simpa using hu 4 (by decide)
        have hb5 : zB 5 = true := by simpa using hu 5 (by decide)
        have hb6 : zB 6 = true := by simpa using hu 6 (by decide)
        have hb7 : zB 7 = true := by simpa using hu 7 (by decide)
        have hb8 : zB 8 = true := by simpa using hu 8 (by decide)
        have hb9 : zB 9 = true := by simpa using hu 9 (by decide)
        have hb10 : zB 10 = true := by simpa using hu 10 (by decide)
        have e0 : zS 24 = .slice (some ⟨b, off, none⟩) l.length cap := hF.1 hb0
        have e1 : zS 25 = .int .i64 (j : Int) := hF.2.1 hb1
        have e2 : zS 26 = .int .i64 (kj : Int) := hF.2.2.1 hb2
        have e3 : zS 27 = .pointer (some ⟨b, off + kj, none⟩) := hF.2.2.2.1 hb3
        have e4 : zS 28 = .string sj := hF.2.2.2.2.1 hb4
        have e5 : zS 29 = .string a1 := hF.2.2.2.2.2.1 hb5
        have e6 : zS 30 = .int .i64 x := hF.2.2.2.2.2.2.1 hb6
        have e7 : zS 31 = .int .i64 y := hF.2.2.2.2.2.2.2.1 hb7
        have e8 : zS 32 = .string dx := hF.2.2.2.2.2.2.2.2.1 hb8
        have e9 : zS 33 = .string a2 := hF.2.2.2.2.2.2.2.2.2.1 hb9
        have e10 : zS 8 = .string a2 := hF.2.2.2.2.2.2.2.2.2.2 hb10
        clear hu hr hF
        simp only [puts, Act.put, List.setIfInBounds_toArray, List.set_cons_zero, List.set_cons_succ]
        simp only [e0, e1, e2, e3, e4, e5, e6, e7, e8, e9, e10]
        clear e0 e1 e2 e3 e4 e5 e6 e7 e8 e9 e10
        clear hb0 hb1 hb2 hb3 hb4 hb5 hb6 hb7 hb8 hb9 hb10
        clear zB zS
        have HB := mkHid hW
        clear hW
        go_wp2
        go_ret
        exact ⟨ret_str HE.out, HB.out⟩
    · have hib : ((i : Int) == 0) = false := by simp; omega
      have hi1 : ¬ (i : Int) = 0 := by omega
      obtain ⟨ki, hki⟩ : ∃ z, i - 1 = z := ⟨_, rfl⟩
      have hkil : ki < l.length := by omega
      have hw_ki : IntKind.i64.wrap ((i : Int) - 1) = (ki : Int) := by rw [IntWalk.i64_in _ ⟨by omega, by omega⟩]; omega
      have hw2_ki : wrap64 ((i : Int) - 1) = (ki : Int) := by unfold wrap64; omega
      obtain ⟨si, hsi⟩ : ∃ z, nmAt l i = z := ⟨_, rfl⟩
      have hz_si : si.size ≤ 1048576 := by rw [← hsi]; exact nm_size HF.out i
      have hg_ki := nmAt_get (l := l) (v := i) (by omega) (by omega)
      rw [hki, hsi] at hg_ki
      have HS_ki : Hid (∀ v, Below w0.heap.size w0 v → v.cell? ⟨b, off + ki, none⟩ = some (.string si)) := mkHid fun v h => (HL.out.below h) ki si hg_ki
      have z0_ki : (0 : Int) ≤ (ki : Int) := by omega
      have z1_ki : (ki : Int) < (l.length : Int) := by omega
      have HN_si : Hid (nmAt l i = si) := mkHid hsi
      clear hsi hg_ki hki
      obtain ⟨kj, hkj⟩ : ∃ z, j - 1 = z := ⟨_, rfl⟩
      have hkjl : kj < l.length := by omega
      have hw_kj : IntKind.i64.wrap ((j : Int) - 1) = (kj : Int) := by rw [IntWalk.i64_in _ ⟨by omega, by omega⟩]; omega
      have hw2_kj : wrap64 ((j : Int) - 1) = (kj : Int) := by unfold wrap64; omega
      obtain ⟨sj, hsj⟩ : ∃ z, nmAt l j = z := ⟨_, rfl⟩
      have hz_sj : sj.size ≤ 1048576 := by rw [← hsj]; exact nm_size HF.out j
      have hg_kj := nmAt_get (l := l) (v := j) (by omega) (by omega)
      rw [hkj, hsj] at hg_kj
      have HS_kj : Hid (∀ v, Below w0.heap.size w0 v → v.cell? ⟨b, off + kj, none⟩ = some (.string sj)) := mkHid fun v h => (HL.out.below h) kj sj hg_kj
      have z0_kj : (0 : Int) ≤ (kj : Int) := by omega
      have z1_kj : (kj : Int) < (l.length : Int) := by omega
      have HN_sj : Hid (nmAt l j = sj) := mkHid hsj
      clear hsj hg_kj hkj
      obtain ⟨dx, hdx⟩ : ∃ z, dI x = z := ⟨_, rfl⟩
      have hdz : dx.size ≤ 4000002 := by rw [← hdx]; exact dI_size x (by omega) (by omega)
      have HDX := mkHid hdx
      clear hdx
      obtain ⟨a1, ha1⟩ : ∃ z, si ++ (ByteArray.mk #[32, 45, 32]) = z := ⟨_, rfl⟩
      have hs1 : a1.size = si.size + 3 := by rw [← ha1, ByteArray.size_append] <;> rfl
      have hb1_ : ¬ 9223372036854775807 < si.size + 3 := by omega
      have HA1 : Hid (si ++ (ByteArray.mk #[32, 45, 32]) = a1) := mkHid ha1
      obtain ⟨a2, ha2⟩ : ∃ z, a1 ++ sj = z := ⟨_, rfl⟩
      have hs2 : a2.size = a1.size + sj.size := by rw [← ha2, ByteArray.size_append] <;> rfl
      have hb2_ : ¬ 9223372036854775807 < a1.size + sj.size := by omega
      have HA2 : Hid (a1 ++ sj = a2) := mkHid ha2
      obtain ⟨a3, ha3⟩ : ∃ z, a2 ++ (ByteArray.mk #[32, 60, 61, 32]) = z := ⟨_, rfl⟩
      have hs3 : a3.size = a2.size + 4 := by rw [← ha3, ByteArray.size_append] <;> rfl
      have hb3_ : ¬ 9223372036854775807 < a2.size + 4 := by omega
      have HA3 : Hid (a2 ++ (ByteArray.mk #[32, 60, 61, 32]) = a3) := mkHid ha3
      obtain ⟨a4, ha4⟩ : ∃ z, a3 ++ dx = z := ⟨_, rfl⟩
      have hs4 : a4.size = a3.size + dx.size := by rw [← ha4, ByteArray.size_append] <;> rfl
      have hb4_ : ¬ 9223372036854775807 < a3.size + dx.size := by omega
      have HA4 : Hid (a3 ++ dx = a4) := mkHid ha4
      have HE : Hid (a4 = pieceT l i j x) := mkHid (by unfold pieceT; rw [if_neg hj0, if_neg hi0, HN_si.out, HN_sj.out, HDX.out, HA1.out, HA2.out, HA3.out, HA4.out])
      have HIT : Hid (∀ v, Below w0.heap.size w0 v → Calls Tryd.prog 30 #[.int .i64 x] v fun e v' => e = .returned (.string dx) ∧ Below v.heap.size v v') := mkHid fun v h => by rw [← HDX.out]; exact itoa_any x v (by omega) (by omega) (HT.out v h)
      clear hs1 hs2 hs3 hs4 hj0 hi0
      go_enter Tryd.func23, Tryd.ntmps23
      go_wp2_with fail
      refine wp_region_inv2 (fun zA0 L zA va => ∃ (zB : Nat → Bool) (zS : Nat → Value), L = #[zB 0, zB 1, zB 2, zB 3, zB 4, zB 5, zB 6, zB 7, zB 8, zB 9, zB 10, zB 11, zB 12, zB 13, zB 14, zB 15, zB 16] ∧ zA = puts zA0 [(34, zS 34), (35, zS 35), (36, zS 36), (37, zS 37), (38, zS 38), (39, zS 39), (40, zS 40), (41, zS 41), (42, zS 42), (43, zS 43), (44, zS 44), (45, zS 45), (46, zS 46), (47, zS 47), (48, zS 48), (49, zS 49), (8, zS 8)] ∧ ((zB 0 = true → zS 34 = .slice (some ⟨b, off, none⟩) l.length cap) ∧ (zB 1 = true → zS 35 = .int .i64 (i : Int)) ∧ (zB 2 = true → zS 36 = .int .i64 (ki : Int)) ∧ (zB 3 = true → zS 37 = .pointer (some ⟨b, off + ki, none⟩)) ∧ (zB 4 = true → zS 38 = .string si) ∧ (zB 5 = true → zS 39 = .string a1) ∧ (zB 6 = true → zS 40 = .slice (some ⟨b, off, none⟩) l.length cap) ∧ (zB 7 = true → zS 41 = .int .i64 (j : Int)) ∧ (zB 8 = true → zS 42 = .int .i64 (kj : Int)) ∧ (zB 9 = true → zS 43 = .pointer (some ⟨b, off + kj, none⟩)) ∧ (zB 10 = true → zS 44 = .string sj) ∧ (zB 11 = true → zS 45 = .string a2) ∧ (zB 12 = true → zS 46 = .string a3) ∧ (zB 13 = true → zS 47 = .int .i64 x) ∧ (zB 14 = true → zS 48 = .string dx) ∧ (zB 15 = true → zS 49 = .string a4) ∧ (zB 16 = true → zS 8 = .string a4)) ∧ Below w0.heap.size w0 va) (by kernel_rfl) ?_ ?_ ?_
      · exact ⟨fun _ => false, fun zd => if zd = 8 then .string ⟨#[]⟩ else undef, rfl, by kernel_rfl, ⟨fun e => ft e, fun e => ft e, fun e => ft e, fun e => ft e, fun e => ft e, fun e => ft e, fun e => ft e, fun e => ft e, fun e => ft e, fun e => ft e, fun e => ft e, fun e => ft e, fun e => ft e, fun e => ft e, fun e => ft e, fun e => ft e, fun e => ft e⟩, (Below.refl _ _).drew⟩
      · refine StepsI.cons rfl ?_ ?_
        · rintro L zA va ⟨zB, zS, rfl, rfl, hF, hW⟩ hL hm K hK
          have hb0 : zB 0 = false := by simpa using hL
          clear hL hm
          simp only [puts, Act.put, List.setIfInBounds_toArray, List.set_cons_zero, List.set_cons_succ]
          have HWz := mkHid hW
          clear hW
          go_simp
          have hW := HWz.out
          clear HWz
          exact hK.out _ _ ⟨fun zj => if zj = 0 then true else zB zj, fun zd => if zd = 34 then .slice (some ⟨b, off, none⟩) l.length cap else zS zd, rfl, by kernel_rfl, ⟨fun _ => rfl, hF.2.1, hF.2.2.1, hF.2.2.2.1, hF.2.2.2.2.1, hF.2.2.2.2.2.1, hF.2.2.2.2.2.2.1, hF.2.2.2.2.2.2.2.1, hF.2.2.2.2.2.2.2.2.1, hF.2.2.2.2.2.2.2.2.2.1, hF.2.2.2.2.2.2.2.2.2.2.1, hF.2.2.2.2.2.2.2.2.2.2.2.1, hF.2.2.2.2.2.2.2.2.2.2.2.2.1, hF.2.2.2.2.2.2.2.2.2.2.2.2.2.1, hF.2.2.2.2.2.2.2.2.2.2.2.2.2.2.1, hF.2.2.2.2.2.2.2.2.2.2.2.2.2.2.2.1, hF.2.2.2.2.2.2.2.2.2.2.2.2.2.2.2.2⟩, hW⟩
        refine StepsI.cons rfl ?_ ?_
        · rintro L zA va ⟨zB, zS, rfl, rfl, hF, hW⟩ hL hm K hK
          have hb1 : zB 1 = false := by simpa using hL
          clear hL hm
          simp only [puts, Act.put, List.setIfInBounds_toArray, List.set_cons_zero, List.set_cons_succ]
          have HWz := mkHid hW
          clear hW
          go_simp
          have hW := HWz.out
          clear HWz
          exact hK.out _ _ ⟨fun zj => if zj = 1 then true else zB zj, fun zd => if zd = 35 then .int .i64 (i : Int) else zS zd, rfl, by kernel_rfl, ⟨hF.1, fun _ => rfl, hF.2.2.1, hF.2.2.2.1, hF.2.2.2.2.1, hF.2.2.2.2.2.1, hF.2.2.2.2.2.2.1, hF.2.2.2.2.2.2.2.1, hF.2.2.2.2.2.2.2.2.1, hF.2.2.2.2.2.2.2.2.2.1, hF.2.2.2.2.2.2.2.2.2.2.1, hF.2.2.2.2.2.2.2.2.2.2.2.1, hF.2.2.2.2.2.2.2.2.2.2.2.2.1, hF.2.2.2.2.2.2.2.2.2.2.2.2.2.1, hF.2.2.2.2.2.2.2.2.2.2.2.2.2.2.1, hF.2.2.2.2.2.2.2.2.2.2.2.2.2.2.2.1, hF.2.2.2.2.2.2.2.2.2.2.2.2.2.2.2.2⟩, hW⟩
        refine StepsI.cons rfl ?_ ?_
        · rintro L zA va ⟨zB, zS, rfl, rfl, hF, hW⟩ hL hm K hK
          have hb2 : zB 2 = false := by simpa using hL
          have hb1 : zB 1 = true := by cases e : zB 1 with | false => (exfalso; revert hm; simp [metB, Region.binds, e]) | true => rfl
          have e1 : zS 35 = .int .i64 (i : Int) := hF.2.1 hb1
          clear hL hm
          simp only [puts, Act.put, List.setIfInBounds_toArray, List.set_cons_zero, List.set_cons_succ]
          simp only [e1]
          have HWz := mkHid hW
          clear hW
          go_simp
          have hW := HWz.out
          clear HWz
          exact hK.out _ _ ⟨fun zj => if zj = 1 then true else if zj = 2 then true else zB zj, fun zd => if zd = 36 then .int .i64 (ki : Int) else if zd = 35 then .int .i64 (i : Int) else zS zd, by simp [hb1], by kernel_rfl, ⟨hF.1, fun _ => rfl, fun _ => rfl, hF.2.2.2.1, hF.2.2.2.2.1, hF.2.2.2.2.2.1, hF.2.2.2.2.2.2.1, hF.2.2.2.2.2.2.2.1, hF.2.2.2.2.2.2.2.2.1, hF.2.2.2.2.2.2.2.2.2.1, hF.2.2.2.2.2.2.2.2.2.2.1, hF.2.2.2.2.2.2.2.2.2.2.2.1, hF.2.2.2.2.2.2.2.2.2.2.2.2.1, hF.2.2.2.2.2.2.2.2.2.2.2.2.2.1, hF.2.2.2.2.2.2.2.2.2.2.2.2.2.2.1, hF.2.2.2.2.2.2.2.2.2.2.2.2.2.2.2.1, hF.2.2.2.2.2.2.2.2.2.2.2.2.2.2.2.2⟩, hW⟩
        refine StepsI.cons rfl ?_ ?_
        · rintro L zA va ⟨zB, zS, rfl, rfl, hF, hW⟩ hL hm K hK
          have hb3 : zB 3 = false := by simpa using hL
          have hb0 : zB 0 = true := by cases e : zB 0 with | false => (exfalso; revert hm; simp [metB, Region.binds, e]) | true => rfl
          have hb2 : zB 2 = true := by cases e : zB 2 with | false => (exfalso; revert hm; simp [metB, Region.binds, e]) | true => rfl
          have e0 : zS 34 = .slice (some ⟨b, off, none⟩) l.length cap := hF.1 hb0
          have e2 : zS 36 = .int .i64 (ki : Int) := hF.2.2.1 hb2
          clear hL hm
          simp only [puts, Act.put, List.setIfInBounds_toArray, List.set_cons_zero, List.set_cons_succ]
          simp only [e0, e2]
          have HWz := mkHid hW
          clear hW
          go_simp
          have hW := HWz.out
          clear HWz
          exact hK.out _ _ ⟨fun zj => if zj = 2 then true else if zj = 0 then true else if zj = 3 then true else zB zj, fun zd => if zd = 37 then .pointer (some ⟨b, off + ki, none⟩) else if zd = 36 then .int .i64 (ki : Int) else if zd = 34 then .slice (some ⟨b, off, none⟩) l.length cap else zS zd, by simp [hb0, hb2], by kernel_rfl, ⟨fun _ => rfl, hF.2.1, fun _ => rfl, fun _ => rfl, hF.2.2.2.2.1, hF.2.2.2.2.2.1, hF.2.2.2.2.2.2.1, hF.2.2.2.2.2.2.2.1, hF.2.2.2.2.2.2.2.2.1, hF.2.2.2.2.2.2.2.2.2.1, hF.2.2.2.2.2.2.2.2.2.2.1, hF.2.2.2.2.2.2.2.2.2.2.2.1, hF.2.2.2.2.2.2.2.2.2.2.2.2.1, hF.2.2.2.2.2.2.2.2.2.2.2.2.2.1, hF.2.2.2.2.2.2.2.2.2.2.2.2.2.2.1, hF.2.2.2.2.2.2.2.2.2.2.2.2.2.2.2.1, hF.2.2.2.2.2.2.2.2.2.2.2.2.2.2.2.2⟩, hW⟩
        refine StepsI.cons rfl ?_ ?_
        · rintro L zA va ⟨zB, zS, rfl, rfl, hF, hW⟩ hL hm K hK
          have hb4 : zB 4 = false := by simpa using hL
          have hb3 : zB 3 = true := by cases e : zB 3 with | false => (exfalso; revert hm; simp [metB, Region.binds, e]) | true => rfl
          have e3 : zS 37 = .pointer (some ⟨b, off + ki, none⟩) := hF.2.2.2.1 hb3
          clear hL hm
          simp only [puts, Act.put, List.setIfInBounds_toArray, List.set_cons_zero, List.set_cons_succ]
          simp only [e3]
          have cS := HS_ki.out va hW
          have HWz := mkHid hW
          clear hW
          go_simp
          have hW := HWz.out
          clear HWz
          exact hK.out _ _ ⟨fun zj => if zj = 3 then true else if zj = 4 then true else zB zj, fun zd => if zd = 38 then .string si else if zd = 37 then .pointer (some ⟨b, off + ki, none⟩) else zS zd, by simp [hb3], by kernel_rfl, ⟨hF.1, hF.2.1, hF.2.2.1, fun _ => rfl, fun _ => rfl, hF.2.2.2.2.2.1, hF.2.2.2.2.2.2.1, hF.2.2.2.2.2.2.2.1, hF.2.2.2.2.2.2.2.2.1, hF.2.2.2.2.2.2.2.2.2.1, hF.2.2.2.2.2.2.2.2.2.2.1, hF.2.2.2.2.2.2.2.2.2.2.2.1, hF.2.2.2.2.2.2.2.2.2.2.2.2.1, hF.2.2.2.2.2.2.2.2.2.2.2.2.2.1, hF.2.2.2.2.2.2.2.2.2.2.2.2.2.2.1, hF.2.2.2.2.2.2.2.2.2.2.2.2.2.2.2.1, hF.2.2.2.2.2.2.2.2.2.2.2.2.2.2.2.2⟩, hW⟩
        refine StepsI.cons rfl ?_ ?_
        · rintro L zA va ⟨zB, zS, rfl, rfl, hF, hW⟩ hL hm K hK
          have hb5 : zB 5 = false := by simpa using hL
          have hb4 : zB 4 = true := by cases e : zB 4 with | false => (exfalso; revert hm; simp [metB, Region.binds, e]) | true => rfl
          have e4 : zS 38 = .string si := hF.2.2.2.2.1 hb4
          clear hL hm
          simp only [puts, Act.put, List.setIfInBounds_toArray, List.set_cons_zero, List.set_cons_succ]
          simp only [e4]
          have HWz := mkHid hW
          clear hW
          go_simp
          have hW := HWz.out
          clear HWz
          exact hK.out _ _ ⟨fun zj => if zj = 4 then true else if zj = 5 then true else zB zj, fun zd => if zd = 39 then .string a1 else if zd = 38 then .string si else zS zd, by simp [hb4], by kernel_rfl, ⟨hF.1, hF.2.1, hF.2.2.1, hF.2.2.2.1, fun _ => rfl, fun _ => rfl, hF.2.2.2.2.2.2.1, hF.2.2.2.2.2.2.2.1, hF.2.2.2.2.2.2.2.2.1, hF.2.2.2.2.2.2.2.2.2.1, hF.2.2.2.2.2.2.2.2.2.2.1, hF.2.2.2.2.2.2.2.2.2.2.2.1, hF.2.2.2.2.2.2.2.2.2.2.2.2.1, hF.2.2.2.2.2.2.2.2.2.2.2.2.2.1, hF.2.2.2.2.2.2.2.2.2.2.2.2.2.2.1, hF.2.2.2.2.2.2.2.2.2.2.2.2.2.2.2.1, hF.2.2.2.2.2.2.2.2.2.2.2.2.2.2.2.2⟩, hW⟩
        refine StepsI.cons rfl ?_ ?_
        · rintro L zA va ⟨zB, zS, rfl, rfl, hF, hW⟩ hL hm K hK
          have hb6 : zB 6 = false := by simpa using hL
          clear hL hm
          simp only [puts, Act.put, List.setIfInBounds_toArray, List.set_cons_zero, List.set_cons_succ]
          have HWz := mkHid hW
          clear hW
          go_simp
          have hW := HWz.out
          clear HWz
          exact hK.out _ _ ⟨fun zj => if zj = 6 then true else zB zj, fun zd => if zd = 40 then .slice (some ⟨b, off, none⟩) l.length cap else zS zd, rfl, by kernel_rfl, ⟨hF.1, hF.2.1, hF.2.2.1, hF.2.2.2.1, hF.2.2.2.2.1, hF.2.2.2.2.2.1, fun _ => rfl, hF.2.2.2.2.2.2.2.1, hF.2.2.2.2.2.2.2.2.1, hF.2.2.2.2.2.2.2.2.2.1, hF.2.2.2.2.2.2.2.2.2.2.1, hF.2.2.2.2.2.2.2.2.2.2.2.1, hF.2.2.2.2.2.2.2.2.2.2.2.2.1, hF.2.2.2.2.2.2.2.2.2.2.2.2.2.1, hF.2.2.2.2.2.2.2.2.2.2.2.2.2.2.1, hF.2.2.2.2.2.2.2.2.2.2.2.2.2.2.2.1, hF.2.2.2.2.2.2.2.2.2.2.2.2.2.2.2.2⟩, hW⟩
        refine StepsI.cons rfl ?_ ?_
        · rintro L zA va ⟨zB, zS, rfl, rfl, hF, hW⟩ hL hm K hK
          have hb7 : zB 7 = false := by simpa using hL
          clear hL hm
          simp only [puts, Act.put, List.setIfInBounds_toArray, List.set_cons_zero, List.set_cons_succ]
          have HWz := mkHid hW
          clear hW
          go_simp
          have hW := HWz.out
          clear HWz
          exact hK.out _ _ ⟨fun zj => if zj = 7 then true else zB zj, fun zd => if zd = 41 then .int .i64 (j : Int) else zS zd, rfl, by kernel_rfl, ⟨hF.1, hF.2.1, hF.2.2.1, hF.2.2.2.1, hF.2.2.2.2.1, hF.2.2.2.2.2.1, hF.2.2.2.2.2.2.1, fun _ => rfl, hF.2.2.2.2.2.2.2.2.1, hF.2.2.2.2.2.2.2.2.2.1, hF.2.2.2.2.2.2.2.2.2.2.1, hF.2.2.2.2.2.2.2.2.2.2.2.1, hF.2.2.2.2.2.2.2.2.2.2.2.2.1, hF.2.2.2.2.2.2.2.2.2.2.2.2.2.1, hF.2.2.2.2.2.2.2.2.2.2.2.2.2.2.1, hF.2.2.2.2.2.2.2.2.2.2.2.2.2.2.2.1, hF.2.2.2.2.2.2.2.2.2.2.2.2.2.2.2.2⟩, hW⟩
        refine StepsI.cons rfl ?_ ?_
        · rintro L zA va ⟨zB, zS, rfl, rfl, hF, hW⟩ hL hm K hK
          have hb8 : zB 8 = false := by simpa using hL
          have hb7 : zB 7 = true := by cases e : zB 7 with | false => (exfalso; revert hm; simp [metB, Region.binds, e]) | true => rfl
          have e7 : zS 41 = .int .i64 (j : Int) := hF.2.2.2.2.2.2.2.1 hb7
          clear hL hm
          simp only [puts, Act.put, List.setIfInBounds_toArray, List.set_cons_zero, List.set_cons_succ]
          simp only [e7]
          have HWz := mkHid hW
          clear hW
          go_simp
          have hW := HWz.out
          clear HWz
          exact hK.out _ _ ⟨fun zj => if zj = 7 then true else if zj = 8 then true else zB zj, fun zd => if zd = 42 then .int .i64 (kj : Int) else if zd = 41 then .int .i64 (j : Int) else zS zd, by simp [hb7], by kernel_rfl, ⟨hF.1, hF.2.1, hF.2.2.1, hF.2.2.2.1, hF.2.2.2.2.1, hF.2.2.2.2.2.1, hF.2.2.2.2.2.2.1, fun _ => rfl, fun _ => rfl, hF.2.2.2.2.2.2.2.2.2.1, hF.2.2.2.2.2.2.2.2.2.2.1, hF.2.2.2.2.2.2.2.2.2.2.2.1, hF.2.2.2.2.2.2.2.2.2.2.2.2.1, hF.2.2.2.2.2.2.2.2.2.2.2.2.2.1, hF.2.2.2.2.2.2.2.2.2.2.2.2.2.2.1, hF.2.2.2.2.2.2.2.2.2.2.2.2.2.2.2.1, hF.2.2.2.2.2.2.2.2.2.2.2.2.2.2.2.2⟩, hW⟩
        refine StepsI.cons rfl ?_ ?_
        · rintro L zA va ⟨zB, zS, rfl, rfl, hF, hW⟩ hL hm K hK
          have hb9 : zB 9 = false := by simpa using hL
          have hb6 : zB 6 = true := by cases e : zB 6 with | false => (exfalso; revert hm; simp [metB, Region.binds, e]) | true => rfl
          have hb8 : zB 8 = true := by cases e : zB 8 with | false => (exfalso; revert hm; simp [metB, Region.binds, e]) | true => rfl
          have e6 : zS 40 = .slice (some ⟨b, off, none⟩) l.length cap := hF.2.2.2.2.2.2.1 hb6
          have e8 : zS 42 = .int .i64 (kj : Int) := hF.2.2.2.2.2.2.2.2.1 hb8
          clear hL hm
          simp only [puts, Act.put, List.setIfInBounds_toArray, List.set_cons_zero, List.set_cons_succ]
          simp only [e6, e8]
          have HWz := mkHid hW
          clear hW
          go_simp
          have hW := HWz.out
          clear HWz
          exact hK.out _ _ ⟨fun zj => if zj = 8 then true else if zj = 6 then true else if zj = 9 then true else zB zj, fun zd => if zd = 43 then .pointer (some ⟨b, off + kj, none⟩) else if zd = 42 then .int .i64 (kj : Int) else if zd = 40 then .slice (some ⟨b, off, none⟩) l.length cap else zS zd, by simp [hb6, hb8], by kernel_rfl, ⟨hF.1, hF.2.1, hF.2.2.1, hF.2.2.2.1, hF.2.2.2.2.1, hF.2.2.2.2.2.1, fun _ => rfl, hF.2.2.2.2.2.2.2.1, fun _ => rfl, fun _ => rfl, hF.2.2.2.2.2.2.2.2.2.2.1, hF.2.2.2.2.2.2.2.2.2.2.2.1, hF.2.2.2.2.2.2.2.2.2.2.2.2.1, hF.2.2.2.2.2.2.2.2.2.2.2.2.2.1, hF.2.2.2.2.2.2.2.2.2.2.2.2.2.2.1, hF.2.2.2.2.2.2.2.2.2.2.2.2.2.2.2.1, hF.2.2.2.2.2.2.2.2.2.2.2.2.2.2.2.2⟩, hW⟩
        refine StepsI.cons rfl ?_ ?_
        · rintro L zA va ⟨zB, zS, rfl, rfl, hF, hW⟩ hL hm K hK
          have hb10 : zB 10 = false := by simpa using hL
          have hb9 : zB 9 = true := by cases e : zB 9 with | false => (exfalso; revert hm; simp [metB, Region.binds, e]) | true => rfl
          have e9 : zS 43 = .pointer (some ⟨b, off + kj, none⟩) := hF.2.2.2.2.2.2.2.2.2.1 hb9
          clear hL hm
          simp only [puts, Act.put, List.setIfInBounds_toArray, List.set_cons_zero, List.set_cons_succ]
          simp only [e9]
          have cS := HS_kj.out va hW
          have HWz := mkHid hW
          clear hW
          go_simp
          have hW := HWz.out
          clear HWz
          exact hK.out _ _ ⟨fun zj => if zj = 9 then true else if zj = 10 then true else zB zj, fun zd => if zd = 44 then .string sj else if zd = 43 then .pointer (some ⟨b, off + kj, none⟩) else zS zd, by simp [hb9], by kernel_rfl, ⟨hF.1, hF.2.1, hF.2.2.1, hF.2.2.2.1, hF.2.2.2.2.1, hF.2.2.2.2.2.1, hF.2.2.2.2.2.2.1, hF.2.2.2.2.2.2.2.1, hF.2.2.2.2.2.2.2.2.1, fun _ => rfl, fun _ => rfl, hF.2.2.2.2.2.2.2.2.2.2.2.1, hF.2.2.2.2.2.2.2.2.2.2.2.2.1, hF.2.2.2.2.2.2.2.2.2.2.2.2.2.1, hF.2.2.2.2.2.2.2.2.2.2.2.2.2.2.1, hF.2.2.2.2.2.2.2.2.2.2.2.2.2.2.2.1, hF.2.2.2.2.2.2.2.2.2.2.2.2.2.2.2.2⟩, hW⟩
        refine StepsI.cons rfl ?_ ?_
        · rintro L zA va ⟨zB, zS, rfl, rfl, hF, hW⟩ hL hm K hK
          have hb11 : zB 11 = false := by simpa using hL
          have hb5 : zB 5 = true := by cases e : zB 5 with | false => (exfalso; revert hm; simp [metB, Region.binds, e]) | true => rfl
          have hb10 : zB 10 = true := by cases e : zB 10 with | false => (exfalso; revert hm; simp [metB, Region.binds, e]) | true => rfl
          have e5 : zS 39 = .string a1 := hF.2.2.2.2.2.1 hb5
          have e10 : zS 44 = .string sj := hF.2.2.2.2.2.2.2.2.2.2.1 hb10
          clear hL hm
          simp only [puts, Act.put, List.setIfInBounds_toArray, List.set_cons_zero, List.set_cons_succ]
          simp only [e5, e10]
          have HWz := mkHid hW
          clear hW
          go_simp
          have hW := HWz.out
          clear HWz
          exact hK.out _ _ ⟨fun zj => if zj = 10 then true else if zj = 5 then true else if zj = 11 then true else zB zj, fun zd => if zd = 45 then .string a2 else if zd = 44 then .string sj else if zd = 39 then .string a1 else zS zd, by simp [hb5, hb10], by kernel_rfl, ⟨hF.1, hF.2.1, hF.2.2.1, hF.2.2.2.1, hF.2.2.2.2.1, fun _ => rfl, hF.2.2.2.2.2.2.1, hF.2.2.2.2.2.2.2.1, hF.2.2.2.2.2.2.2.2.1, hF.2.2.2.2.2.2.2.2.2.1, fun _ => rfl, fun _ => rfl, hF.2.2.2.2.2.2.2.2.2.2.2.2.1, hF.2.2.2.2.2.2.2.2.2.2.2.2.2.1, hF.2.2.2.2.2.2.2.2.2.2.2.2.2.2.1, hF.2.2.2.2.2.2.2.2.2.2.2.2.2.2.2.1, hF.2.2.2.2.2.2.2.2.2.2.2.2.2.2.2.2⟩, hW⟩
        refine StepsI.cons rfl ?_ ?_
        · rintro L zA va ⟨zB, zS, rfl, rfl, hF, hW⟩ hL hm K hK
          have hb12 : zB 12 = false := by simpa using hL
          have hb11 : zB 11 = true := by cases e : zB 11 with | false => (exfalso; revert hm; simp [metB, Region.binds, e]) | true => rfl
          have e11 : zS 45 = .string a2 := hF.2.2.2.2.2.2.2.2.2.2.2.1 hb11
          clear hL hm
          simp only [puts, Act.put, List.setIfInBounds_toArray, List.set_cons_zero, List.set_cons_succ]
          simp only [e11]
          have HWz := mkHid hW
          clear hW
          go_simp
          have hW := HWz.out
          clear HWz
          exact hK.out _ _ ⟨fun zj => if zj = 11 then true else if zj = 12 then true else zB zj, fun zd => if zd = 46 then .string a3 else if zd = 45 then .string a2 else zS zd, by simp [hb11], by kernel_rfl, ⟨hF.1, hF.2.1, hF.2.2.1, hF.2.2.2.1, hF.2.2.2.2.1, hF.2.2.2.2.2.1, hF.2.2.2.2.2.2.1, hF.2.2.2.2.2.2.2.1, hF.2.2.2.2.2.2.2.2.1, hF.2.2.2.2.2.2.2.2.2.1, hF.2.2.2.2.2.2.2.2.2.2.1, fun _ => rfl, fun _ => rfl, hF.2.2.2.2.2.2.2.2.2.2.2.2.2.1, hF.2.2.2.2.2.2.2.2.2.2.2.2.2.2.1, hF.2.2.2.2.2.2.2.2.2.2.2.2.2.2.2.1, hF.2.2.2.2.2.2.2.2.2.2.2.2.2.2.2.2⟩, hW⟩
        refine StepsI.cons rfl ?_ ?_
        · rintro L zA va ⟨zB, zS, rfl, rfl, hF, hW⟩ hL hm K hK
          have hb13 : zB 13 = false := by simpa using hL
          clear hL hm
          simp only [puts, Act.put, List.setIfInBounds_toArray, List.set_cons_zero, List.set_cons_succ]
          have HWz := mkHid hW
          clear hW
          go_simp
          have hW := HWz.out
          clear HWz
          exact hK.out _ _ ⟨fun zj => if zj = 13 then true else zB zj, fun zd => if zd = 47 then .int .i64 x else zS zd, rfl, by kernel_rfl, ⟨hF.1, hF.2.1, hF.2.2.1, hF.2.2.2.1, hF.2.2.2.2.1, hF.2.2.2.2.2.1, hF.2.2.2.2.2.2.1, hF.2.2.2.2.2.2.2.1, hF.2.2.2.2.2.2.2.2.1, hF.2.2.2.2.2.2.2.2.2.1, hF.2.2.2.2.2.2.2.2.2.2.1, hF.2.2.2.2.2.2.2.2.2.2.2.1, hF.2.2.2.2.2.2.2.2.2.2.2.2.1, fun _ => rfl, hF.2.2.2.2.2.2.2.2.2.2.2.2.2.2.1, hF.2.2.2.2.2.2.2.2.2.2.2.2.2.2.2.1, hF.2.2.2.2.2.2.2.2.2.2.2.2.2.2.2.2⟩, hW⟩
        refine StepsI.cons rfl ?_ ?_
        · rintro L zA va ⟨zB, zS, rfl, rfl, hF, hW⟩ hL hm K hK
          have hb14 : zB 14 = false := by simpa using hL
          have hb13 : zB 13 = true := by cases e : zB 13 with | false => (exfalso; revert hm; simp [metB, Region.binds, e]) | true => rfl
          have e13 : zS 47 = .int .i64 x := hF.2.2.2.2.2.2.2.2.2.2.2.2.2.1 hb13
          clear hL hm
          simp only [puts, Act.put, List.setIfInBounds_toArray, List.set_cons_zero, List.set_cons_succ]
          simp only [e13]
          have HWz := mkHid hW
          clear hW
          go_simp
          have hW := HWz.out
          clear HWz
          refine (HIT.out va hW).mono ?_
          rintro e va2 ⟨rfl, hb⟩
          have HWz := mkHid hW
          clear hW
          go_wp2_with fail
          have hW := HWz.out
          clear HWz
          exact hK.out _ _ ⟨fun zj => if zj = 13 then true else if zj = 14 then true else zB zj, fun zd => if zd = 48 then .string dx else if zd = 47 then .int .i64 x else zS zd, by simp [hb13], by kernel_rfl, ⟨hF.1, hF.2.1, hF.2.2.1, hF.2.2.2.1, hF.2.2.2.2.1, hF.2.2.2.2.2.1, hF.2.2.2.2.2.2.1, hF.2.2.2.2.2.2.2.1, hF.2.2.2.2.2.2.2.2.1, hF.2.2.2.2.2.2.2.2.2.1, hF.2.2.2.2.2.2.2.2.2.2.1, hF.2.2.2.2.2.2.2.2.2.2.2.1, hF.2.2.2.2.2.2.2.2.2.2.2.2.1, fun _ => rfl, fun _ => rfl, hF.2.2.2.2.2.2.2.2.2.2.2.2.2.2.2.1, hF.2.2.2.2.2.2.2.2.2.2.2.2.2.2.2.2⟩, below_step hW hb⟩
        refine StepsI.cons rfl ?_ ?_
        · rintro L zA va ⟨zB, zS, rfl, rfl, hF, hW⟩ hL hm K hK
          have hb15 : zB 15 = false := by simpa using hL
          have hb12 : zB 12 = true := by cases e : zB 12 with | false => (exfalso; revert hm; simp [metB, Region.binds, e]) | true => rfl
          have hb14 : zB 14 = true := by cases e : zB 14 with | false => (exfalso; revert hm; simp [metB, Region.binds, e]) | true => rfl
          have e12 : zS 46 = .string a3 := hF.2.2.2.2.2.2.2.2.2.2.2.2.1 hb12
          have e14 : zS 48 = .string dx := hF.2.2.2.2.2.2.2.2.2.2.2.2.2.2.1 hb14
          clear hL hm
          simp only [puts, Act.put, List.setIfInBounds_toArray, List.set_cons_zero, List.set_cons_succ]
          simp only [e12, e14]
          have HWz := mkHid hW
          clear hW
          go_simp
          have hW := HWz.out
          clear HWz
          exact hK.out _ _ ⟨fun zj => if zj = 14 then true else if zj = 12 then true else if zj = 15 then true else zB zj, fun zd => if zd = 49 then .string a4 else if zd = 48 then .string dx else if zd = 46 then .string a3 else zS zd, by simp [hb12, hb14], by kernel_rfl, ⟨hF.1, hF.2.1, hF.2.2.1, hF.2.2.2.1, hF.2.2.2.2.1, hF.2.2.2.2.2.1, hF.2.2.2.2.2.2.1, hF.2.2.2.2.2.2.2.1, hF.2.2.2.2.2.2.2.2.1, hF.2.2.2.2.2.2.2.2.2.1, hF.2.2.2.2.2.2.2.2.2.2.1, hF.2.2.2.2.2.2.2.2.2.2.2.1, fun _ => rfl, hF.2.2.2.2.2.2.2.2.2.2.2.2.2.1, fun _ => rfl, fun _ => rfl, hF.2.2.2.2.2.2.2.2.2.2.2.2.2.2.2.2⟩, hW⟩
        refine StepsI.cons rfl ?_ ?_
        · rintro L zA va ⟨zB, zS, rfl, rfl, hF, hW⟩ hL hm K hK
          have hb16 : zB 16 = false := by simpa using hL
          have hb15 : zB 15 = true := by cases e : zB 15 with | false => (exfalso; revert hm; simp [metB, Region.binds, e]) | true => rfl
          have e15 : zS 49 = .string a4 := hF.2.2.2.2.2.2.2.2.2.2.2.2.2.2.2.1 hb15
          clear hL hm
          simp only [puts, Act.put, List.setIfInBounds_toArray, List.set_cons_zero, List.set_cons_succ]
          simp only [e15]
          have HWz := mkHid hW
          clear hW
          go_simp
          have hW := HWz.out
          clear HWz
          exact hK.out _ _ ⟨fun zj => if zj = 15 then true else if zj = 16 then true else zB zj, fun zd => if zd = 8 then .string a4 else if zd = 49 then .string a4 else zS zd, by simp [hb15], by kernel_rfl, ⟨hF.1, hF.2.1, hF.2.2.1, hF.2.2.2.1, hF.2.2.2.2.1, hF.2.2.2.2.2.1, hF.2.2.2.2.2.2.1, hF.2.2.2.2.2.2.2.1, hF.2.2.2.2.2.2.2.2.1, hF.2.2.2.2.2.2.2.2.2.1, hF.2.2.2.2.2.2.2.2.2.2.1, hF.2.2.2.2.2.2.2.2.2.2.2.1, hF.2.2.2.2.2.2.2.2.2.2.2.2.1, hF.2.2.2.2.2.2.2.2.2.2.2.2.2.1, hF.2.2.2.2.2.2.2.2.2.2.2.2.2.2.1, fun _ => rfl, fun _ => rfl⟩, hW⟩
        exact StepsI.nil (by kernel_rfl)
      · rintro L zA va ⟨zB, zS, rfl, rfl, hF, hW⟩ hr
        have hu := all_up (by kernel_rfl) (N := 17) (by kernel_rfl) hr
        have hb0 : zB 0 = true := by simpa using hu 0 (by decide)
        have hb1 : zB 1 = true := by simpa using hu 1 (by decide)
        have hb2 : zB 2 = true := by simpa using hu 2 (by decide)
        have hb3 : zB 3 = true := by simpa using hu 3 (by decide)
        have hb4 : zB 4 = true := by simpa using hu 4 (by decide)
        have hb5 : zB 5 = true := by simpa using hu 5 (by decide)
        have hb6 : zB 6 = true := by simpa using hu 6 (by decide)
        have hb7 : zB 7 = true := by simpa using hu 7 (by decide)
        have hb8 : zB 8 = true := by simpa using hu 8 (by decide)
        have hb9 : zB 9 = true := by simpa using hu 9 (by decide)
        have hb10 : zB 10 = true := by simpa using hu 10 (by decide)
        have hb11 : zB 11 = true := by simpa using hu 11 (by decide)
        have hb12 : zB 12 = true := by simpa using hu 12 (by decide)
        have hb13 : zB 13 = true := by simpa using hu 13 (by decide)
        have hb14 : zB 14 = true := by simpa using hu 14 (by decide)
        have hb15 : zB 15 = true := by simpa using hu 15 (by decide)
        have hb16 : zB 16 = true := by simpa using hu 16 (by decide)
        have e0 : zS 34 = .slice (some ⟨b, off, none⟩) l.length cap := hF.1 hb0
        have e1 : zS 35 = .int .i64 (i : Int) := hF.2.1 hb1
        have e2 : zS 36 = .int .i64 (ki : Int) := hF.2.2.1 hb2
        have e3 : zS 37 = .pointer (some ⟨b, off + ki, none⟩) := hF.2.2.2.1 hb3
        have e4 : zS 38 = .string si := hF.2.2.2.2.1 hb4
        have e5 : zS 39 = .string a1 := hF.2.2.2.2.2.1 hb5
        have e6 : zS 40 = .slice (some ⟨b, off, none⟩) l.length cap := hF.2.2.2.2.2.2.1 hb6
        have e7 : zS 41 = .int .i64 (j : Int) := hF.2.2.2.2.2.2.2.1 hb7
        have e8 : zS 42 = .int .i64 (kj : Int) := hF.2.2.2.2.2.2.2.2.1 hb8
        have e9 : zS 43 = .pointer (some ⟨b, off + kj, none⟩) := hF.2.2.2.2.2.2.2.2.2.1 hb9
        have e10 : zS 44 = .string sj := hF.2.2.2.2.2.2.2.2.2.2.1 hb10
        have e11 : zS 45 = .string a2 := hF.2.2.2.2.2.2.2.2.2.2.2.1 hb11
        have e12 : zS 46 = .string a3 := hF.2.2.2.2.2.2.2.2.2.2.2.2.1 hb12
        have e13 : zS 47 = .int .i64 x := hF.2.2.2.2.2.2.2.2.2.2.2.2.2.1 hb13
        have e14 : zS 48 = .string dx := hF.2.2.2.2.2.2.2.2.2.2.2.2.2.2.1 hb14
        have e15 : zS 49 = .string a4 := hF.2.2.2.2.2.2.2.2.2.2.2.2.2.2.2.1 hb15
        have e16 : zS 8 = .string a4 := hF.2.2.2.2.2.2.2.2.2.2.2.2.2.2.2.2 hb16
        clear hu hr hF
        simp only [puts, Act.put, List.setIfInBounds_toArray, List.set_cons_zero, List.set_cons_succ]
        simp only [e0, e1, e2, e3, e4, e5, e6, e7, e8, e9, e10, e11, e12, e13, e14, e15, e16]
        clear e0 e1 e2 e3 e4 e5 e6 e7 e8 e9 e10 e11 e12 e13 e14 e15 e16
        clear hb0 hb1 hb2 hb3 hb4 hb5 hb6 hb7 hb8 hb9 hb10 hb11 hb12 hb13 hb14 hb15 hb16
        clear zB zS
        have HB := mkHid hW
        clear hW
        go_wp2
        go_ret
        exact ⟨ret_str HE.out, HB.out⟩
end Go.Proofs.YthfiblldccnjcaaDoor
