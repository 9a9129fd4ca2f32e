/-
  CONTRACTS of l07Draw and DrawSymMost.
-/
import Derived.Test.YtmaejdomlggopaaDsz
namespace Go.Proofs.Ytmaejdomlggopaa
open Go.RowKit

set_option maxRecDepth 100000 in
set_option maxHeartbeats 1600000 in
theorem draw_any (cb n cap bud : Nat) (a : Option Addr) (w : World) (hC : Cur w cb a n cap (bud + 210)) :
    Calls Try.prog 83 #[.pointer (some ⟨cb, 0, none⟩)] w fun e w' => ∃ (z : Int) (l : List Int) (ao : Option Addr) (cp : Nat), e = .returned (.agg #[.int .i64 z, .slice ao l.length cp]) ∧ z ≤ 20 ∧ l.length ≤ 169 ∧ l.length ≤ cp ∧ OwnI w' w.heap.size (.slice ao l.length cp) l ∧ Cur w' cb a n cap bud ∧ w.grownBy w' (some cb) := by
  have hlt := hC.lt
  have C0 := mkHid ((hC.alloc (.cells #[.int .i64 0, .slice none 0 0] 27)).less (bud' := bud + 201 + 1) (by omega))
  have G0 := mkHid (World.grownBy_alloc w (.cells #[.int .i64 0, .slice none 0 0] 27) (some cb))
  have Z0 := mkHid (Fz.new w)
  have HDS : Hid (∀ (sz : Nat) (v : World), 1 ≤ sz → sz ≤ 13 → Cur v cb a n cap (bud + 200) → Calls Try.prog 102 #[.pointer (some ⟨cb, 0, none⟩), .int .i64 sz] v fun e w' => ∃ (z : Int) (l : List Int) (ao : Option Addr) (cp : Nat), e = .returned (.agg #[.int .i64 z, .slice ao l.length cp]) ∧ z ≤ 20 ∧ l.length ≤ 169 ∧ l.length ≤ cp ∧ OwnI w' v.heap.size (.slice ao l.length cp) l ∧ Cur w' cb a n cap bud ∧ v.grownBy w' (some cb)) := mkHid fun sz v h1 h2 h => drawSize_any sz cb n cap bud a v h1 h2 h
  clear hC
  go_enter Try.func83, Try.ntmps83
  go_wp2_with fail
  refine (pick_any 6 cb n cap (bud + 201) a _ (by omega) C0.out).mono ?_
  rintro e w1 ⟨r, rfl, ra, rb, hC, hG⟩
  have C1 := mkHid hC
  have G1 := mkHid (grown_trans G0.out hG)
  have Z1 := mkHid (Z0.out.grown hG (some_ne (by omega)))
  clear hC hG C0 G0 Z0
  obtain ⟨m, rfl⟩ : ∃ m : Nat, r = m := ⟨r.toNat, by omega⟩
  have hw : IntKind.i64.wrap (1 + (m : Int)) = ((1 + m : Nat) : Int) := by rw [show (1 + (m : Int)) = ((1 + m : Nat) : Int) by omega]; exact IntWalk.i64_in _ (by omega)
  obtain ⟨sz, hsz⟩ : ∃ sz, 1 + m = sz := ⟨_, rfl⟩
  rw [hsz] at hw
  have h1 : 1 ≤ sz := by omega
  have h2 : sz ≤ 6 := by omega
  go_wp2_with fail
  refine (once_any 20 cb n cap (bud + 200) a _ (by omega) (by omega) C1.out).mono ?_
  rintro e w2 ⟨r, rfl, hC, hG⟩
  have C2 := mkHid hC
  have G2 := mkHid (grown_trans G1.out hG)
  have Z2 := mkHid (Z1.out.grown hG (some_ne (by omega)))
  clear hC hG C1 G1 Z1 hsz
  cases r
  · go_wp2_with fail
    refine (HDS.out sz _ h1 (by omega) C2.out).mono ?_
    rintro e w3 ⟨z, l, ao, cp, rfl, hz, hl, hcp, ho, hC, hG⟩
    have Z3 := Z2.out.grown hG (some_ne (by omega))
    have sz2 := Z2.out.lt
    obtain ⟨⟨z0, z1⟩, z2, z3⟩ := Z3
    have HO := mkHid (fun u0 u1 => ((ho.mono (base' := w.heap.size) (by omega)).grown (grown_setCell _ ⟨w.heap.size, 0, none⟩ u0) (fun q' hq' => some_ne (by have := ho.lt hq'; show w.heap.size ≠ q'; omega))).grown (grown_setCell _ ⟨w.heap.size, 1, none⟩ u1) (fun q' hq' => some_ne (by have := ho.lt hq'; show w.heap.size ≠ q'; omega)))
    have HCC := mkHid (fun u0 u1 => (hC.set (p := ⟨w.heap.size, 0, none⟩) hlt u0).set (p := ⟨w.heap.size, 1, none⟩) hlt u1)
    have HGG := mkHid (fun u0 u1 => grown_new (p := ⟨w.heap.size, 1, none⟩) (grown_new (p := ⟨w.heap.size, 0, none⟩) (grown_trans G2.out hG) (Nat.le_refl _) u0) (Nat.le_refl _) u1)
    have HB := mkHid (And.intro hz (And.intro hl hcp))
    clear ho hC hG hz hl hcp
    go_wp2
    exact bodyPost_ret (v := .agg #[.int .i64 z, .slice ao l.length cp]) (by simp [results, Try.results83, go_sem, z0, z1]) rfl ⟨z, l, ao, cp, rfl, HB.out.1, HB.out.2.1, HB.out.2.2, HO.out _ _, HCC.out _ _, HGG.out _ _⟩
  · go_wp2_with fail
    refine (HDS.out 13 _ (by omega) (by omega) C2.out).mono ?_
    rintro e w3 ⟨z, l, ao, cp, rfl, hz, hl, hcp, ho, hC, hG⟩
    have Z3 := Z2.out.grown hG (some_ne (by omega))
    have sz2 := Z2.out.lt
    obtain ⟨⟨z0, z1⟩, z2, z3⟩ := Z3
    have HO := mkHid (fun u0 u1 => ((ho.mono (base' := w.heap.size) (by omega)).grown (grown_setCell _ ⟨w.heap.size, 0, none⟩ u0) (fun q' hq' => some_ne (by have := ho.lt hq'; show w.heap.size ≠ q'; omega))).grown (grown_setCell _ ⟨w.heap.size, 1, none⟩ u1) (fun q' hq' => some_ne (by have := ho.lt hq'; show w.heap.size ≠ q'; omega)))
    have HCC := mkHid (fun u0 u1 => (hC.set (p := ⟨w.heap.size, 0, none⟩) hlt u0).set (p := ⟨w.heap.size, 1, none⟩) hlt u1)
    have HGG := mkHid (fun u0 u1 => grown_new (p := ⟨w.heap.size, 1, none⟩) (grown_new (p := ⟨w.heap.size, 0, none⟩) (grown_trans G2.out hG) (Nat.le_refl _) u0) (Nat.le_refl _) u1)
    have HB := mkHid (And.intro hz (And.intro hl hcp))
    clear ho hC hG hz hl hcp
    go_wp2
    exact bodyPost_ret (v := .agg #[.int .i64 z, .slice ao l.length cp]) (by simp [results, Try.results83, go_sem, z0, z1]) rfl ⟨z, l, ao, cp, rfl, HB.out.1, HB.out.2.1, HB.out.2.2, HO.out _ _, HCC.out _ _, HGG.out _ _⟩
theorem put2g (W : World) (X : Nat) (v0 v1 : Value) : W.grownBy ((W.setCell ⟨X, 0, none⟩ v0).setCell ⟨X, 1, none⟩ v1) (some X) := grown_setCells X [v0, v1] 0 W
theorem Fz.stored2 {W : World} {X : Nat} (h : Fz W X) (z : Int) (a : Option Addr) (n c : Nat) : Fc ((W.setCell ⟨X, 0, none⟩ (.int .i64 z)).setCell ⟨X, 1, none⟩ (.slice a n c)) X z a n c := by
  obtain ⟨⟨z0, z1⟩, z2, z3⟩ := h
  constructor <;> simp [go_sem, z0, z1]
set_option maxRecDepth 100000 in
set_option maxHeartbeats 3200000 in
theorem drawMost_any (n cap : Nat) (a : Option Addr) (w : World) (hn : n ≤ 1048576) (hb0 : Bytes w w.heap.size a n) :
    Calls Try.prog 47 #[.slice a n cap] w fun e w' => ∃ (z : Int) (l : List Int) (ao : Option Addr) (cp : Nat) (p1 p2 q1 q2 : Int), e = .returned (.tuple #[.agg #[.int .i64 z, .slice ao l.length cp], .agg #[.int .i64 p1, .int .i64 p2], .agg #[.int .i64 q1, .int .i64 q2]]) ∧ z ≤ 20 ∧ l.length ≤ 169 ∧ l.length ≤ cp ∧ IntsAt w' ao l ∧ Below w.heap.size w w' := by
  have HN := mkHid hn
  have HBY := mkHid hb0
  have B0 := mkHid ((((Below.refl w.heap.size w).alloc (Nat.le_refl _) (.cells #[.int .i64 0, .slice none 0 0] 27)).alloc (by simp) (.cells #[.int .i64 0, .int .i64 0] 46)).alloc (by simp; omega) (.cells #[.int .i64 0, .int .i64 0] 46))
  have Z0 : Hid (Fz (((w.alloc (.cells #[.int .i64 0, .slice none 0 0] 27)).alloc (.cells #[.int .i64 0, .int .i64 0] 46)).alloc (.cells #[.int .i64 0, .int .i64 0] 46)) w.heap.size) := mkHid (((Fz.new w).alloc _).alloc _)
  have X0 : Hid (Box (((w.alloc (.cells #[.int .i64 0, .slice none 0 0] 27)).alloc (.cells #[.int .i64 0, .int .i64 0] 46)).alloc (.cells #[.int .i64 0, .int .i64 0] 46)) (w.heap.size + 1) 0 0) := mkHid (by have := (Box.new' (w.alloc (.cells #[.int .i64 0, .slice none 0 0] 27)) 0 0 46).below (below_alloc _ (.cells #[.int .i64 0, .int .i64 0] 46)); simpa using this)
  have Y0 : Hid (Box (((w.alloc (.cells #[.int .i64 0, .slice none 0 0] 27)).alloc (.cells #[.int .i64 0, .int .i64 0] 46)).alloc (.cells #[.int .i64 0, .int .i64 0] 46)) (w.heap.size + 2) 0 0) := mkHid (by have := Box.new' ((w.alloc (.cells #[.int .i64 0, .slice none 0 0] 27)).alloc (.cells #[.int .i64 0, .int .i64 0] 46)) 0 0 46; simpa using this)
  clear hn hb0
  go_enter Try.func47, Try.ntmps47
  go_wp2_with fail
  refine (openC_any n cap a _ HN.out (HBY.out.up B0.out.size B0.out)).mono ?_
  rintro e w1 ⟨cb, rfl, hcb, hC, hb⟩
  have l0 := Y0.out.lt
  have C1 := mkHid (hC.less (bud' := 1000 + 210) (by omega))
  have B1 := mkHid (below_step B0.out hb)
  have Z1 := mkHid (Z0.out.below hb)
  have X1 := mkHid (X0.out.below hb)
  have Y1 := mkHid (Y0.out.below hb)
  have hcw : w.heap.size + 2 < cb := by omega
  clear hC hb hcb l0 B0 Z0 X0 Y0
  go_wp2_with fail
  refine (draw_any cb n cap 1000 a _ C1.out).mono ?_
  rintro e w2 ⟨z, l, ao, cp, rfl, hz, hl, hcp, ho, hC, hG⟩
  obtain ⟨bf, hbf⟩ : ∃ b, w2.heap.size = b := ⟨_, rfl⟩
  have lC := C1.out.lt
  have A2 := below_alloc w2 (.cells #[.int .i64 z, .slice ao l.length cp] 27)
  have C2 := mkHid ((hC.below A2).less (bud' := 900 + 5) (by omega))
  have B2 := mkHid (below_step ((B1.out.grown hG B1.out.size (fun q hq => by cases hq; omega))) A2)
  have Z2 := mkHid ((Z1.out.grown hG (some_ne (by omega))).below A2)
  have X2 := mkHid ((X1.out.grown hG (some_ne (by omega))).below A2)
  have Y2 := mkHid ((Y1.out.grown hG (some_ne (by omega))).below A2)
  have F2 := mkHid (Fc.new w2 z ao l.length cp 27)
  rw [hbf] at F2
  have O2 := mkHid (ho.below A2)
  have sG := hG.size
  have hbw : w.heap.size + 2 < bf ∧ cb < bf := by omega
  have OL : Hid (∀ q, Value.ownBlock (.slice ao l.length cp) = some q → cb < q) := mkHid fun q hq => by have := ho.lt hq; omega
  have HB := mkHid (And.intro hz (And.intro hl hcp))
  clear hC hG ho A2 C1 B1 Z1 X1 Y1 hl hcp sG
  obtain ⟨f0, f1⟩ := F2.out
  obtain ⟨m, hm⟩ : ∃ m, min (max z 1) 20 = m := ⟨_, rfl⟩
  have hm20 : m ≤ 1000000 := by omega
  go_wp2_with (first | (go_at_call 58; refine (sMax_any _ _ _).mono ?_; rintro e w' ⟨rfl, rfl⟩) | (go_at_call 90; refine (sMin_any _ _ _).mono ?_; rintro e w' ⟨rfl, rfl⟩))
  refine (drawSym_any m cb n cap 900 a _ hm20 C2.out).mono ?_
  rintro e w3 ⟨p1, p2, rfl, hC, hG⟩
  obtain ⟨bs, hbs⟩ : ∃ b, w3.heap.size = b := ⟨_, rfl⟩
  have A3 := below_alloc w3 (.cells #[.int .i64 p1, .int .i64 p2] 46)
  have lF := F2.out.lt
  have sG := hG.size
  have C3 := mkHid ((hC.below A3).less (bud' := 800 + 5) (by omega))
  have B3 := mkHid (below_step ((B2.out.grown hG B2.out.size (fun q hq => by cases hq; omega))) A3)
  have Z3 := mkHid ((Z2.out.grown hG (some_ne (by omega))).below A3)
  have X3 := mkHid ((X2.out.grown hG (some_ne (by omega))).below A3)
  have Y3 := mkHid ((Y2.out.grown hG (some_ne (by omega))).below A3)
  have F3 := mkHid ((F2.out.grown hG (some_ne (by omega))).below A3)
  have O3 := mkHid ((O2.out.grown hG (fun q hq => some_ne (by have := OL.out q hq; omega))).below A3)
  have S3 := mkHid (Box.new' w3 p1 p2 46)
  rw [hbs] at S3
  have hbb : bf < bs := by omega
  clear hC hG A3 C2 B2 Z2 X2 Y2 F2 O2 f0 f1 lF sG hm
  obtain ⟨w4, hw4⟩ : ∃ w4, w3.alloc (.cells #[.int .i64 p1, .int .i64 p2] 46) = w4 := ⟨_, rfl⟩
  rw [hw4] at C3 B3 Z3 X3 Y3 F3 O3 S3
  have HW4 := mkHid hw4
  clear hw4
  go_wp2_with fail
  rw [HW4.out]
  clear HW4
  refine wp_region_inv2 (fun zA0 L zA v => ∃ (zB : Nat → Bool) (zS : Nat → Value) (q1 : Int) (q2 : Int), L = #[zB 0, zB 1, zB 2, zB 3, zB 4, zB 5, zB 6, zB 7] ∧ zA = puts zA0 [(20, zS 20), (21, zS 21), (22, zS 22), (23, zS 23), (24, zS 24)] ∧ ((zB 0 = true → zS 20 = .agg #[.int .i64 z, .slice ao l.length cp]) ∧ (zB 1 = true → zS 21 = .agg #[.int .i64 p1, .int .i64 p2]) ∧ (zB 2 = true → zS 22 = .pointer (some ⟨cb, 0, none⟩)) ∧ (zB 3 = true → zS 23 = .int .i64 m) ∧ (zB 4 = true → zS 24 = .agg #[.int .i64 q1, .int .i64 q2])) ∧ Fc v bf z ao l.length cp ∧ Box v bs p1 p2 ∧ OwnI v w1.heap.size (.slice ao l.length cp) l ∧ Below w.heap.size w v ∧ ((zB 4) = false → Cur v cb a n cap (800 + 5)) ∧ ((zB 5) = false → Fz v w.heap.size) ∧ ((zB 5) = true → Fc v w.heap.size z ao l.length cp) ∧ ((zB 6) = false → Box v (w.heap.size + 1) 0 0) ∧ ((zB 6) = true → Box v (w.heap.size + 1) p1 p2) ∧ ((zB 7) = false → Box v (w.heap.size + 2) 0 0) ∧ ((zB 7) = true → Box v (w.heap.size + 2) q1 q2) ∧ ((zB 7) = true → (zB 4) = true) ∧ ((zB 5) = true → (zB 4) = true)) (by kernel_rfl) ?_ ?_ ?_
  · exact ⟨fun _ => false, fun _ => undef, 0, 0, rfl, by kernel_rfl, ⟨fun e => ft e, fun e => ft e, fun e => ft e, fun e => ft e, fun e => ft e⟩, ⟨F3.out.below (Below.refl _ _).drew, S3.out.below (Below.refl _ _).drew, O3.out.below (Below.refl _ _).drew, B3.out.drew, fun _ => C3.out.below (Below.refl _ _).drew, fun _ => Z3.out.below (Below.refl _ _).drew, fun e => ft e, fun _ => X3.out.below (Below.refl _ _).drew, fun e => ft e, fun _ => Y3.out.below (Below.refl _ _).drew, fun e => ft e, fun e => ft e, fun e => ft e⟩⟩
  · refine StepsI.cons rfl ?_ ?_
    · rintro L zA v ⟨zB, zS, q1, q2, rfl, rfl, hF, hW⟩ hL hm K hK
      have hb0 : zB 0 = false := by simpa using hL
      clear hL hm
      simp only [puts, Act.put, List.setIfInBounds_toArray, List.set_cons_zero, List.set_cons_succ]
      obtain ⟨q0, q1'⟩ := hW.1
      go_simp
      exact hK.out _ _ ⟨fun zj => if zj = 0 then true else zB zj, fun zd => if zd = 20 then .agg #[.int .i64 z, .slice ao l.length cp] else zS zd, q1, q2, rfl, by kernel_rfl, ⟨fun _ => rfl, hF.2.1, hF.2.2.1, hF.2.2.2.1, hF.2.2.2.2⟩, hW⟩
    refine StepsI.cons rfl ?_ ?_
    · rintro L zA v ⟨zB, zS, q1, q2, rfl, rfl, hF, hW⟩ hL hm K hK
      have hb1 : zB 1 = false := by simpa using hL
      clear hL hm
      simp only [puts, Act.put, List.setIfInBounds_toArray, List.set_cons_zero, List.set_cons_succ]
      obtain ⟨q0, q1', q2', q3⟩ := hW.2.1
      go_simp
      exact hK.out _ _ ⟨fun zj => if zj = 1 then true else zB zj, fun zd => if zd = 21 then .agg #[.int .i64 p1, .int .i64 p2] else zS zd, q1, q2, rfl, by kernel_rfl, ⟨hF.1, fun _ => rfl, hF.2.2.1, hF.2.2.2.1, hF.2.2.2.2⟩, hW⟩
    refine StepsI.cons rfl ?_ ?_
    · rintro L zA v ⟨zB, zS, q1, q2, rfl, rfl, hF, hW⟩ hL hm K hK
      have hb2 : zB 2 = false := by simpa using hL
      clear hL hm
      simp only [puts, Act.put, List.setIfInBounds_toArray, List.set_cons_zero, List.set_cons_succ]
      go_simp
      exact hK.out _ _ ⟨fun zj => if zj = 2 then true else zB zj, fun zd => if zd = 22 then .pointer (some ⟨cb, 0, none⟩) else zS zd, q1, q2, rfl, by kernel_rfl, ⟨hF.1, hF.2.1, fun _ => rfl, hF.2.2.2.1, hF.2.2.2.2⟩, hW⟩
    refine StepsI.cons rfl ?_ ?_
    · rintro L zA v ⟨zB, zS, q1, q2, rfl, rfl, hF, hW⟩ hL hm K hK
      have hb3 : zB 3 = false := by simpa using hL
      clear hL hm
      simp only [puts, Act.put, List.setIfInBounds_toArray, List.set_cons_zero, List.set_cons_succ]
      go_simp
      exact hK.out _ _ ⟨fun zj => if zj = 3 then true else zB zj, fun zd => if zd = 23 then .int .i64 m else zS zd, q1, q2, rfl, by kernel_rfl, ⟨hF.1, hF.2.1, hF.2.2.1, fun _ => rfl, hF.2.2.2.2⟩, hW⟩
    refine StepsI.cons rfl ?_ ?_
    · rintro L zA v ⟨zB, zS, q1, q2, rfl, rfl, hF, hW⟩ hL hm K hK
      have hb4 : zB 4 = false := by simpa using hL
      have hb2 : zB 2 = true := by cases e : zB 2 with | false => (exfalso; revert hm; simp [metB, Region.binds, e]) | true => rfl
      have hb3 : zB 3 = true := by cases e : zB 3 with | false => (exfalso; revert hm; simp [metB, Region.binds, e]) | true => rfl
      have e2 : zS 22 = .pointer (some ⟨cb, 0, none⟩) := hF.2.2.1 hb2
      have e3 : zS 23 = .int .i64 m := hF.2.2.2.1 hb3
      clear hL hm
      rw [hb4] at hW
      simp only [puts, Act.put, List.setIfInBounds_toArray, List.set_cons_zero, List.set_cons_succ]
      simp only [e2, e3]
      obtain ⟨u1, u2, u3, u4, u5, u6, u7, u8, u9, ua, ub, uc, ud⟩ := hW
      go_simp
      refine (drawSym_any m cb n cap 800 a _ hm20 (u5 rfl)).mono ?_
      rintro e v2 ⟨n1, n2, rfl, hC, hG⟩
      go_wp2_with fail
      exact hK.out _ _ ⟨fun zj => if zj = 3 then true else if zj = 2 then true else if zj = 4 then true else zB zj, fun zd => if zd = 24 then .agg #[.int .i64 n1, .int .i64 n2] else if zd = 23 then .int .i64 m else if zd = 22 then .pointer (some ⟨cb, 0, none⟩) else zS zd, n1, n2, by simp [hb2, hb3], by kernel_rfl, ⟨hF.1, hF.2.1, fun _ => rfl, fun _ => rfl, fun _ => rfl⟩, ⟨u1.grown hG (some_ne (by show bf ≠ cb; omega)), u2.grown hG (some_ne (by show bs ≠ cb; omega)), u3.grown hG (fun q hq => some_ne (by have := OL.out q hq; show cb ≠ q; omega)), u4.grown hG u4.size (fun q hq => by cases hq; omega), fun e => tf e, fun e => (u6 e).grown hG (some_ne (by show w.heap.size ≠ cb; omega)), fun e => (u7 e).grown hG (some_ne (by show w.heap.size ≠ cb; omega)), fun e => (u8 e).grown hG (some_ne (by show w.heap.size + 1 ≠ cb; omega)), fun e => (u9 e).grown hG (some_ne (by show w.heap.size + 1 ≠ cb; omega)), fun e => (ua e).grown hG (some_ne (by show w.heap.size + 2 ≠ cb; omega)), fun e => ft (uc e), fun _ => rfl, fun _ => rfl⟩⟩
    refine StepsI.cons rfl ?_ ?_
    · rintro L zA v ⟨zB, zS, q1, q2, rfl, rfl, hF, hW⟩ hL hm K hK
      have hb5 : zB 5 = false := by simpa using hL
      have hb0 : zB 0 = true := by cases e : zB 0 with | false => (exfalso; revert hm; simp [metB, Region.binds, e]) | true => rfl
      have hb4 : zB 4 = true := by cases e : zB 4 with | false => (exfalso; revert hm; simp [metB, Region.binds, e]) | true => rfl
      have e0 : zS 20 = .agg #[.int .i64 z, .slice ao l.length cp] := hF.1 hb0
      have e4 : zS 24 = .agg #[.int .i64 q1, .int .i64 q2] := hF.2.2.2.2 hb4
      clear hL hm
      rw [hb5] at hW
      rw [hb4] at hW
      simp only [puts, Act.put, List.setIfInBounds_toArray, List.set_cons_zero, List.set_cons_succ]
      simp only [e0, e4]
      obtain ⟨u1, u2, u3, u4, u5, u6, u7, u8, u9, ua, ub, uc, ud⟩ := hW
      obtain ⟨⟨y0, y1⟩, y2, y3⟩ := u6 rfl
      have hg := put2g v w.heap.size (.int .i64 z) (.slice ao l.length cp)
      have hn := (u6 rfl).stored2 z ao l.length cp
      go_simp
      exact hK.out _ _ ⟨fun zj => if zj = 4 then true else if zj = 0 then true else if zj = 5 then true else zB zj, fun zd => if zd = 24 then .agg #[.int .i64 q1, .int .i64 q2] else if zd = 20 then .agg #[.int .i64 z, .slice ao l.length cp] else zS zd, q1, q2, by simp [hb0, hb4], by kernel_rfl, ⟨fun _ => rfl, hF.2.1, hF.2.2.1, hF.2.2.2.1, fun _ => rfl⟩, ⟨u1.grown hg (some_ne (by show bf ≠ w.heap.size; omega)), u2.grown hg (some_ne (by show bs ≠ w.heap.size; omega)), u3.grown hg (fun q hq => some_ne (by have := OL.out q hq; show w.heap.size ≠ q; omega)), u4.grown hg u4.size (fun q hq => by cases hq; omega), fun e => tf e, fun e => tf e, fun _ => hn, fun e => (u8 e).grown hg (some_ne (by show w.heap.size + 1 ≠ w.heap.size; omega)), fun e => (u9 e).grown hg (some_ne (by show w.heap.size + 1 ≠ w.heap.size; omega)), fun e => (ua e).grown hg (some_ne (by show w.heap.size + 2 ≠ w.heap.size; omega)), fun e => (ub e).grown hg (some_ne (by show w.heap.size + 2 ≠ w.heap.size; omega)), fun _ => rfl, fun _ => rfl⟩⟩
    refine StepsI.cons rfl ?_ ?_
    · rintro L zA v ⟨zB, zS, q1, q2, rfl, rfl, hF, hW⟩ hL hm K hK
      have hb6 : zB 6 = false := by simpa using hL
      have hb1 : zB 1 = true := by cases e : zB 1 with | false => (exfalso; revert hm; simp [metB, Region.binds, e]) | true => rfl
      have hb5 : zB 5 = true := by cases e : zB 5 with | false => (exfalso; revert hm; simp [metB, Region.binds, e]) | true => rfl
      have e1 : zS 21 = .agg #[.int .i64 p1, .int .i64 p2] := hF.2.1 hb1
      clear hL hm
      rw [hb6] at hW
      rw [hb5] at hW
      simp only [puts, Act.put, List.setIfInBounds_toArray, List.set_cons_zero, List.set_cons_succ]
      simp only [e1]
      obtain ⟨u1, u2, u3, u4, u5, u6, u7, u8, u9, ua, ub, uc, ud⟩ := hW
      obtain ⟨y0, y1, y2, y3⟩ := u8 rfl
      have hg := put2g v (w.heap.size + 1) (.int .i64 p1) (.int .i64 p2)
      have hn := ((u8 rfl).set0 p1).set1 p2
      go_simp
      exact hK.out _ _ ⟨fun zj => if zj = 5 then true else if zj = 1 then true else if zj = 6 then true else zB zj, fun zd => if zd = 24 then .agg #[.int .i64 q1, .int .i64 q2] else if zd = 21 then .agg #[.int .i64 p1, .int .i64 p2] else zS zd, q1, q2, by simp [hb1, hb5], by kernel_rfl, ⟨hF.1, fun _ => rfl, hF.2.2.1, hF.2.2.2.1, fun _ => rfl⟩, ⟨u1.grown hg (some_ne (by show bf ≠ w.heap.size + 1; omega)), u2.grown hg (some_ne (by show bs ≠ w.heap.size + 1; omega)), u3.grown hg (fun q hq => some_ne (by have := OL.out q hq; show w.heap.size + 1 ≠ q; omega)), u4.grown hg u4.size (fun q hq => by cases hq; omega), fun e => tf ((ud rfl).symm.trans e), fun e => (u6 e).grown hg (some_ne (by show w.heap.size ≠ w.heap.size + 1; omega)), fun e => (u7 e).grown hg (some_ne (by show w.heap.size ≠ w.heap.size + 1; omega)), fun e => tf e, fun _ => hn, fun e => (ua e).grown hg (some_ne (by show w.heap.size + 2 ≠ w.heap.size + 1; omega)), fun e => (ub e).grown hg (some_ne (by show w.heap.size + 2 ≠ w.heap.size + 1; omega)), uc, fun _ => ud rfl⟩⟩
    refine StepsI.cons rfl ?_ ?_
    · rintro L zA v ⟨zB, zS, q1, q2, rfl, rfl, hF, hW⟩ hL hm K hK
      have hb7 : zB 7 = false := by simpa using hL
      have hb4 : zB 4 = true := by cases e : zB 4 with | false => (exfalso; revert hm; simp [metB, Region.binds, e]) | true => rfl
      have e4 : zS 24 = .agg #[.int .i64 q1, .int .i64 q2] := hF.2.2.2.2 hb4
      clear hL hm
      rw [hb7] at hW
      rw [hb4] at hW
      simp only [puts, Act.put, List.setIfInBounds_toArray, List.set_cons_zero, List.set_cons_succ]
      simp only [e4]
      obtain ⟨u1, u2, u3, u4, u5, u6, u7, u8, u9, ua, ub, uc, ud⟩ := hW
      obtain ⟨y0, y1, y2, y3⟩ := ua rfl
      have hg := put2g v (w.heap.size + 2) (.int .i64 q1) (.int .i64 q2)
      have hn := ((ua rfl).set0 q1).set1 q2
      go_simp
      exact hK.out _ _ ⟨fun zj => if zj = 4 then true else if zj = 7 then true else zB zj, fun zd => if zd = 24 then .agg #[.int .i64 q1, .int .i64 q2] else zS zd, q1, q2, by simp [hb4], by kernel_rfl, ⟨hF.1, hF.2.1, hF.2.2.1, hF.2.2.2.1, fun _ => rfl⟩, ⟨u1.grown hg (some_ne (by show bf ≠ w.heap.size + 2; omega)), u2.grown hg (some_ne (by show bs ≠ w.heap.size + 2; omega)), u3.grown hg (fun q hq => some_ne (by have := OL.out q hq; show w.heap.size + 2 ≠ q; omega)), u4.grown hg u4.size (fun q hq => by cases hq; omega), fun e => tf e, fun e => (u6 e).grown hg (some_ne (by show w.heap.size ≠ w.heap.size + 2; omega)), fun e => (u7 e).grown hg (some_ne (by show w.heap.size ≠ w.heap.size + 2; omega)), fun e => (u8 e).grown hg (some_ne (by show w.heap.size + 1 ≠ w.heap.size + 2; omega)), fun e => (u9 e).grown hg (some_ne (by show w.heap.size + 1 ≠ w.heap.size + 2; omega)), fun e => tf e, fun _ => hn, fun _ => rfl, fun _ => rfl⟩⟩
    exact StepsI.nil (by kernel_rfl)
  · rintro L zA v ⟨zB, zS, q1, q2, rfl, rfl, hF, hW⟩ hr
    have hu := all_up (by kernel_rfl) (N := 8) (by kernel_rfl) hr
    have hb0 : zB 0 = true := by simpa using hu 0 (by decide)
    have hb1 : zB 1 = true := by simpa using hu 1 (by decide)
    have hb2 : zB 2 = true := by simpa using hu 2 (by decide)
    have hb3 : zB 3 = true := by simpa using hu 3 (by decide)
    have hb4 : zB 4 = true := by simpa using hu 4 (by decide)
    have hb5 : zB 5 = true := by simpa using hu 5 (by decide)
    have hb6 : zB 6 = true := by simpa using hu 6 (by decide)
    have hb7 : zB 7 = true := by simpa using hu 7 (by decide)
    have e0 : zS 20 = .agg #[.int .i64 z, .slice ao l.length cp] := hF.1 hb0
    have e1 : zS 21 = .agg #[.int .i64 p1, .int .i64 p2] := hF.2.1 hb1
    have e2 : zS 22 = .pointer (some ⟨cb, 0, none⟩) := hF.2.2.1 hb2
    have e3 : zS 23 = .int .i64 m := hF.2.2.2.1 hb3
    have e4 : zS 24 = .agg #[.int .i64 q1, .int .i64 q2] := hF.2.2.2.2 hb4
    rw [hb4] at hW
    rw [hb5] at hW
    rw [hb6] at hW
    rw [hb7] at hW
    clear hu hr hF
    simp only [puts, Act.put, List.setIfInBounds_toArray, List.set_cons_zero, List.set_cons_succ]
    simp only [e0, e1, e2, e3, e4]
    clear e0 e1 e2 e3 e4
    clear hb0 hb1 hb2 hb3 hb4 hb5 hb6 hb7
    clear zB zS
    obtain ⟨u1, u2, u3, u4, -, -, u7, -, u9, -, ub, -, -⟩ := hW
    obtain ⟨z0, z1⟩ := u7 rfl
    obtain ⟨x0, x1, x2, x3⟩ := u9 rfl
    obtain ⟨y0, y1, y2, y3⟩ := ub rfl
    have HI := mkHid u3.at
    have HBB := mkHid u4
    clear u1 u2 u3 u4 u7 u9 ub
    go_wp2
    exact bodyPost_ret (v := .tuple #[.agg #[.int .i64 z, .slice ao l.length cp], .agg #[.int .i64 p1, .int .i64 p2], .agg #[.int .i64 q1, .int .i64 q2]]) (by simp [results, Try.results47, go_sem, *]) rfl ⟨z, l, ao, cp, p1, p2, q1, q2, rfl, HB.out.1, HB.out.2.1, HB.out.2.2, HI.out, HBB.out⟩
end Go.Proofs.Ytmaejdomlggopaa
