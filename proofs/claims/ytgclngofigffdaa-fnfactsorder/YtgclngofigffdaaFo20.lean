/-
  CONTRACTS of l07DrawTwo and DrawFactsJoin: two Facts drawn.
-/
import Derived.Test.YtgclngofigffdaaFo19
namespace Go.Proofs.Ytgclngofigffdaa
open Go.RowKit

theorem OwnI.far {v : World} {base : Nat} {s : Value} {l : List Int} (h : OwnI v base s l) {p : Addr} (hp : p.block < base) (u : Value) : OwnI (v.setCell p u) base s l :=
  h.grown (grown_setCell v p u) (fun q hq => some_ne (by have := (h.lt hq).1; omega))
theorem OwnI.farg {v v' : World} {base cb : Nat} {s : Value} {l : List Int} (h : OwnI v base s l) (hg : v.grownBy v' (some cb)) (hp : cb < base) : OwnI v' base s l :=
  h.grown hg (fun q hq => some_ne (by have := (h.lt hq).1; omega))
set_option maxRecDepth 100000 in
set_option maxHeartbeats 3200000 in
theorem drawTwo_any (cb n cap bud : Nat) (a : Option Addr) (w : World) (hC : Cur w cb a n cap (bud + 420)) :
    Calls Try.prog 36 #[.pointer (some ⟨cb, 0, none⟩)] w fun e w' => ∃ (z : Int) (l : List Int) (ao : Option Addr) (cp : Nat) (z' : Int) (l' : List Int) (ao' : Option Addr) (cp' : Nat), e = .returned (.tuple #[.agg #[.int .i64 z, .slice ao l.length cp], .agg #[.int .i64 z', .slice ao' l'.length cp']]) ∧ (z ≤ 20 ∧ l.length ≤ 169 ∧ l.length ≤ cp) ∧ (z' ≤ 20 ∧ l'.length ≤ 169 ∧ l'.length ≤ cp') ∧ OwnI w' w.heap.size (.slice ao l.length cp) l ∧ OwnI w' w.heap.size (.slice ao' l'.length cp') l' ∧ Cur w' cb a n cap bud ∧ w.grownBy w' (some cb) := by
  have hlt := hC.lt
  have C0 := mkHid (((hC.alloc (.cells #[.int .i64 0, .slice none 0 0] 26)).alloc (.cells #[.int .i64 0, .slice none 0 0] 26)).less (bud' := bud + 411 + 1) (by omega))
  have G0 : Hid (w.grownBy ((w.alloc (.cells #[.int .i64 0, .slice none 0 0] 26)).alloc (.cells #[.int .i64 0, .slice none 0 0] 26)) (some cb)) := mkHid (grown_trans (World.grownBy_alloc w (.cells #[.int .i64 0, .slice none 0 0] 26) (some cb)) (World.grownBy_alloc _ (.cells #[.int .i64 0, .slice none 0 0] 26) (some cb)))
  have Z0 : Hid (Fz ((w.alloc (.cells #[.int .i64 0, .slice none 0 0] 26)).alloc (.cells #[.int .i64 0, .slice none 0 0] 26)) w.heap.size) := mkHid ((Fz.new w).below (below_alloc _ _))
  have Y0 : Hid (Fz ((w.alloc (.cells #[.int .i64 0, .slice none 0 0] 26)).alloc (.cells #[.int .i64 0, .slice none 0 0] 26)) (w.heap.size + 1)) := mkHid (by have := Fz.new (w.alloc (.cells #[.int .i64 0, .slice none 0 0] 26)); simpa using this)
  have HDS : Hid (∀ (sz bd : Nat) (v : World), 1 ≤ sz → sz ≤ 13 → Cur v cb a n cap (bd + 200) → Calls Try.prog 73 #[.pointer (some ⟨cb, 0, none⟩), .int .i64 sz] v fun e w' => ∃ (z : Int) (l : List Int) (ao : Option Addr) (cp : Nat), e = .returned (.agg #[.int .i64 z, .slice ao l.length cp]) ∧ z ≤ 20 ∧ l.length ≤ 169 ∧ l.length ≤ cp ∧ OwnI w' v.heap.size (.slice ao l.length cp) l ∧ Cur w' cb a n cap bd ∧ v.grownBy w' (some cb)) := mkHid fun sz bd v h1 h2 h => drawSize_any sz cb n cap bd a v h1 h2 h
  clear hC
  go_enter Try.func36, Try.ntmps36
  go_wp2_with fail
  refine (pick_any 6 cb n cap (bud + 411) a _ (by omega) C0.out).mono ?_
  rintro e w1 ⟨r, rfl, ra, rb, hC, hG⟩
  have C1 := mkHid (hC.less (bud' := (bud + 211) + 200) (by omega))
  have G1 := mkHid (grown_trans G0.out hG)
  have Z1 := mkHid (Z0.out.grown hG (some_ne (by omega)))
  have Y1 := mkHid (Y0.out.grown hG (some_ne (by omega)))
  clear hC hG C0 G0 Z0 Y0
  obtain ⟨m, rfl⟩ : ∃ m : Nat, r = m := ⟨r.toNat, by omega⟩
  have hw : IntKind.i64.wrap (1 + (m : Int)) = ((1 + m : Nat) : Int) := by rw [show (1 + (m : Int)) = ((1 + m : Nat) : Int) by omega]; exact IntWalk.i64_in _ (by omega)
  obtain ⟨sz, hsz⟩ : ∃ sz, 1 + m = sz := ⟨_, rfl⟩
  rw [hsz] at hw
  have h1 : 1 ≤ sz := by omega
  have h2 : sz ≤ 6 := by omega
  clear hsz
  go_wp2_with fail
  refine (HDS.out sz (bud + 211) _ h1 (by omega) C1.out).mono ?_
  rintro e w2 ⟨z, l, ao, cp, rfl, hz, hl, hcp, ho, hC, hG⟩
  obtain ⟨Q, hQ⟩ : ∃ q, w2.heap.size = q := ⟨_, rfl⟩
  obtain ⟨w3, hw3⟩ : ∃ x, w2.alloc (.cells #[.int .i64 z, .slice ao l.length cp] 26) = x := ⟨_, rfl⟩
  have s1 := Y1.out.lt
  have A3 : Below w2.heap.size w2 w3 := by rw [← hw3]; exact below_alloc _ _
  have C3 := mkHid ((hC.below A3).less (bud' := bud + 210 + 1) (by omega))
  have G3 := mkHid (grown_trans (grown_trans G1.out hG) (grown_of_below A3 (some cb)))
  have Z3 := mkHid ((Z1.out.grown hG (some_ne (by omega))).below A3)
  have Y3 := mkHid ((Y1.out.grown hG (some_ne (by omega))).below A3)
  have O3 := mkHid ((ho.mono (base' := w.heap.size + 2) (by omega)).below A3)
  have F3 : Hid (Fc w3 Q z ao l.length cp) := mkHid (by rw [← hw3, ← hQ]; exact Fc.new w2 z ao l.length cp 26)
  have HQ := mkHid (show w.heap.size + 1 < Q by have := hG.size; omega)
  have HB := mkHid (And.intro hz (And.intro hl hcp))
  have HW3 := mkHid hw3
  have HQQ := mkHid hQ
  clear hz hl hcp ho hC hG A3 hw3 s1 C1 G1 Z1 Y1 hw ra rb
  go_wp2_with fail
  rw [HW3.out]
  first | rw [HQQ.out] | skip
  clear HW3 hQ HQQ
  refine (once_any 12 cb n cap (bud + 210) a _ (by omega) (by omega) C3.out).mono ?_
  rintro e w4 ⟨r, rfl, hC, hG⟩
  have hQ := HQ.out
  have C4 := mkHid (hC.below (Below.refl _ _).drew)
  have G4 := mkHid (grown_trans (grown_trans G3.out hG) (grown_of_below (Below.refl _ _).drew (some cb)))
  have Z4 := mkHid ((Z3.out.grown hG (some_ne (by omega))).below (Below.refl _ _).drew)
  have Y4 := mkHid ((Y3.out.grown hG (some_ne (by omega))).below (Below.refl _ _).drew)
  have O4 := mkHid ((O3.out.farg hG (by omega)).below (Below.refl _ _).drew)
  have F4 := mkHid (F3.out.grown hG (some_ne (by omega)))
  clear hC hG C3 G3 Z3 Y3 O3 F3
  obtain ⟨y0, y1⟩ := F4.out
  cases r
  · go_wp2_with fail
    go_region_held3 (fun v => v.cell? ⟨Q, 0, none⟩ = some (.int .i64 z) ∧ v.cell? ⟨Q, 1, none⟩ = some (.slice ao l.length cp))
      (first | exact ⟨y0, y1⟩ | assumption | (simp [*, go_sem]; done))
      (first | (go_at_call 73; refine (HDS.out sz bud _ h1 (by omega) (C4.out.less (by omega))).mono ?_; rintro e w9 ⟨z', l', ao', cp', rfl, hz', hl', hcp', ho', hC', hG'⟩; have hq0 := (hG'.cell_far ⟨Q, 0, none⟩ (by have := F4.out.lt; simpa using this) (some_ne (show Q ≠ cb by omega))).trans y0; have hq1 := (hG'.cell_far ⟨Q, 1, none⟩ (by have := F4.out.lt; simpa using this) (some_ne (show Q ≠ cb by omega))).trans y1; obtain ⟨⟨z0, z1⟩, z2, z3⟩ := Z4.out.grown hG' (some_ne (by omega)); obtain ⟨⟨x0, x1⟩, x2, x3⟩ := Y4.out.grown hG' (some_ne (by omega)); have hlw := Y4.out.lt))
    all_goals
      have HOA := mkHid (fun u0 u1 u2 u3 => ((((O4.out.farg hG' (by omega)).far (p := ⟨w.heap.size, 0, none⟩) (by show w.heap.size < _; omega) u0).far (p := ⟨w.heap.size, 1, none⟩) (by show w.heap.size < _; omega) u1).far (p := ⟨w.heap.size + 1, 0, none⟩) (by show w.heap.size + 1 < _; omega) u2).far (p := ⟨w.heap.size + 1, 1, none⟩) (by show w.heap.size + 1 < _; omega) u3)
      have HOB := mkHid (fun u0 u1 u2 u3 => (((((ho'.mono (base' := w.heap.size + 2) (by have := hlw; omega))).far (p := ⟨w.heap.size, 0, none⟩) (by show w.heap.size < _; omega) u0).far (p := ⟨w.heap.size, 1, none⟩) (by show w.heap.size < _; omega) u1).far (p := ⟨w.heap.size + 1, 0, none⟩) (by show w.heap.size + 1 < _; omega) u2).far (p := ⟨w.heap.size + 1, 1, none⟩) (by show w.heap.size + 1 < _; omega) u3)
      have HCC := mkHid (fun u0 u1 u2 u3 => (((hC'.set (p := ⟨w.heap.size, 0, none⟩) hlt u0).set (p := ⟨w.heap.size, 1, none⟩) hlt u1).set (p := ⟨w.heap.size + 1, 0, none⟩) (show cb < w.heap.size + 1 by omega) u2).set (p := ⟨w.heap.size + 1, 1, none⟩) (show cb < w.heap.size + 1 by omega) u3)
      have HGG := mkHid (fun u0 u1 u2 u3 => grown_new (p := ⟨w.heap.size + 1, 1, none⟩) (grown_new (p := ⟨w.heap.size + 1, 0, none⟩) (grown_new (p := ⟨w.heap.size, 1, none⟩) (grown_new (p := ⟨w.heap.size, 0, none⟩) (grown_trans G4.out hG') (Nat.le_refl _) u0) (Nat.le_refl _) u1) (Nat.le_succ _) u2) (Nat.le_succ _) u3)
      have HB' := mkHid (And.intro hz' (And.intro hl' hcp'))
      clear ho' hC' hG' hz' hl' hcp'
      go_wp2
      exact bodyPost_ret (v := .tuple #[.agg #[.int .i64 z, .slice ao l.length cp], .agg #[.int .i64 z', .slice ao' l'.length cp']]) (by simp [results, Try.results36, go_sem, *]) rfl ⟨z, l, ao, cp, z', l', ao', cp', rfl, HB.out, HB'.out, (HOA.out _ _ _ _).mono (by omega), (HOB.out _ _ _ _).mono (by omega), HCC.out _ _ _ _, HGG.out _ _ _ _⟩
  · go_wp2_with fail
    go_region_held3 (fun v => v.cell? ⟨Q, 0, none⟩ = some (.int .i64 z) ∧ v.cell? ⟨Q, 1, none⟩ = some (.slice ao l.length cp))
      (first | exact ⟨y0, y1⟩ | assumption | (simp [*, go_sem]; done))
      (first | (go_at_call 63; refine (draw_any cb n cap bud a _ C4.out).mono ?_; rintro e w9 ⟨z', l', ao', cp', rfl, hz', hl', hcp', ho', hC', hG'⟩; have hq0 := (hG'.cell_far ⟨Q, 0, none⟩ (by have := F4.out.lt; simpa using this) (some_ne (show Q ≠ cb by omega))).trans y0; have hq1 := (hG'.cell_far ⟨Q, 1, none⟩ (by have := F4.out.lt; simpa using this) (some_ne (show Q ≠ cb by omega))).trans y1; obtain ⟨⟨z0, z1⟩, z2, z3⟩ := Z4.out.grown hG' (some_ne (by omega)); obtain ⟨⟨x0, x1⟩, x2, x3⟩ := Y4.out.grown hG' (some_ne (by omega)); have hlw := Y4.out.lt))
    all_goals
      have HOA := mkHid (fun u0 u1 u2 u3 => ((((O4.out.farg hG' (by omega)).far (p := ⟨w.heap.size, 0, none⟩) (by show w.heap.size < _; omega) u0).far (p := ⟨w.heap.size, 1, none⟩) (by show w.heap.size < _; omega) u1).far (p := ⟨w.heap.size + 1, 0, none⟩) (by show w.heap.size + 1 < _; omega) u2).far (p := ⟨w.heap.size + 1, 1, none⟩) (by show w.heap.size + 1 < _; omega) u3)
      have HOB := mkHid (fun u0 u1 u2 u3 => (((((ho'.mono (base' := w.heap.size + 2) (by have := hlw; omega))).far (p := ⟨w.heap.size, 0, none⟩) (by show w.heap.size < _; omega) u0).far (p := ⟨w.heap.size, 1, none⟩) (by show w.heap.size < _; omega) u1).far (p := ⟨w.heap.size + 1, 0, none⟩) (by show w.heap.size + 1 < _; omega) u2).far (p := ⟨w.heap.size + 1, 1, none⟩) (by show w.heap.size + 1 < _; omega) u3)
      have HCC := mkHid (fun u0 u1 u2 u3 => (((hC'.set (p := ⟨w.heap.size, 0, none⟩) hlt u0).set (p := ⟨w.heap.size, 1, none⟩) hlt u1).set (p := ⟨w.heap.size + 1, 0, none⟩) (show cb < w.heap.size + 1 by omega) u2).set (p := ⟨w.heap.size + 1, 1, none⟩) (show cb < w.heap.size + 1 by omega) u3)
      have HGG := mkHid (fun u0 u1 u2 u3 => grown_new (p := ⟨w.heap.size + 1, 1, none⟩) (grown_new (p := ⟨w.heap.size + 1, 0, none⟩) (grown_new (p := ⟨w.heap.size, 1, none⟩) (grown_new (p := ⟨w.heap.size, 0, none⟩) (grown_trans G4.out hG') (Nat.le_refl _) u0) (Nat.le_refl _) u1) (Nat.le_succ _) u2) (Nat.le_succ _) u3)
      have HB' := mkHid (And.intro hz' (And.intro hl' hcp'))
      clear ho' hC' hG' hz' hl' hcp'
      go_wp2
      exact bodyPost_ret (v := .tuple #[.agg #[.int .i64 z, .slice ao l.length cp], .agg #[.int .i64 z', .slice ao' l'.length cp']]) (by simp [results, Try.results36, go_sem, *]) rfl ⟨z, l, ao, cp, z', l', ao', cp', rfl, HB.out, HB'.out, (HOA.out _ _ _ _).mono (by omega), (HOB.out _ _ _ _).mono (by omega), HCC.out _ _ _ _, HGG.out _ _ _ _⟩
end Go.Proofs.Ytgclngofigffdaa
