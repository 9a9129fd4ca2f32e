/-
  CONTRACTS of setOf at terms and of termsOf: the set of all terms of some rows, of our own.
  CONTRACTS of slices.BinarySearchFunc over terms and of orderedSet.has.
  CONTRACT of orderedSet.has over terms.
-/
import Derived.Test.YtodjmpocpfkpaaaGreatKx18
import Derived.Test.YtodjmpocpfkpaaaGreatKx04
import Derived.Laws.EntriesVeiled
import Derived.Test.YtodjmpocpfkpaaaGreatKx08
namespace Go.Proofs.YtodjmpocpfkpaaaGreat
open Go.RowKit

theorem sort_none (p : Option Addr) (cap : Nat) (w : World) : Calls Tryz.prog 105 #[.slice p 0 cap, .func (.func 91) #[] #[]] w fun e w' => e = .returned (.tuple #[]) ∧ w' = w := AnyF.slices_SortFunc_none Tryz.sortY p cap _ w
set_option maxRecDepth 100000 in
theorem compact_none (p : Option Addr) (cap : Nat) (f : Value) (w : World) : Calls Tryz.prog 107 #[.slice p 0 cap, f] w fun e w' => e = .returned (.slice p 0 cap) ∧ w' = w := by
 go_enter Tryz.func107, Tryz.ntmps107
 go_wp2
 go_ret
 exact ⟨rfl, rfl⟩
/-- slices.SortFunc and CompactFunc at whatever row of our own. -/
theorem sort_any (l : List Y) (ao : Option Addr) (cap base : Nat) (w : World) (hn : l.length ≤ 1048576) (ho : Own eY 65 w base (.slice ao l.length cap) l) :
  Calls Tryz.prog 105 #[.slice ao l.length cap, .func (.func 91) #[] #[]] w fun e w' => e = .returned (.tuple #[]) ∧ ∃ l' : List Y, l'.Perm l ∧ l'.length = l.length ∧ l'.Pairwise (fun a b => ¬ LtY b a) ∧ Own eY 65 w' base (.slice ao l.length cap) l' ∧ w.grownBy w' (Value.ownBlock (.slice ao l.length cap)) := by
 rcases ho.2 with ⟨e, h⟩ | ⟨g, cap', cur, e, _⟩
 ·have hl := List.length_eq_zero_iff.1 h
  subst hl
  refine (sort_none ao cap w).mono ?_
  rintro e w' ⟨rfl, rfl⟩
  exact ⟨rfl, [], List.Perm.refl _, rfl, List.Pairwise.nil, ho, World.grownBy.refl _ _⟩
 ·simp at e
  obtain ⟨rfl, rfl⟩ := e
  refine (sort_own l g cap base w hn ho).mono ?_
  rintro e w' ⟨rfl, l', h1, h2, h3, h4⟩
  exact ⟨rfl, l', h1, h1.length_eq, h2, h3, h4⟩
theorem compact_any (l : List Y) (ao : Option Addr) (cap base bx : Nat) (w : World) (hn : l.length ≤ 1048576) (hs : l.Pairwise fun a b => ¬ LtY b a) (ho : Own eY 65 w base (.slice ao l.length cap) l)
  (hbx : w.cell? ⟨bx, 0, none⟩ = some (.func (.func 91) #[] #[])) (hbg : bx < base) :
  Calls Tryz.prog 107 #[.slice ao l.length cap, .func (.func 106) #[] #[.pointer (some ⟨bx, 0, none⟩)]] w fun e w' => w.grownBy w' (Value.ownBlock (.slice ao l.length cap)) ∧ ∃ (m : List Y), e = .returned (.slice ao m.length cap) ∧ IsSet m l ∧ Own eY 65 w' base (.slice ao m.length cap) m := by
 rcases ho.2 with ⟨e, h⟩ | ⟨g, cap', cur, e, hb, _, h1, h2, _⟩
 ·have hl := List.length_eq_zero_iff.1 h
  subst hl
  refine (compact_none ao cap _ w).mono ?_
  rintro e w' ⟨rfl, rfl⟩
  exact ⟨World.grownBy.refl _ _, [], rfl, IsSet.nil, ho⟩
 ·simp at e
  obtain ⟨rfl, rfl⟩ := e
  exact compact_own l g cap base bx w hn hs ho h1 h2 hbx (by omega)
theorem IsSet.perm {m l l' : List Y} (h : IsSet m l') (hp : l'.Perm l) : IsSet m l := ⟨h.asc, fun p => (h.mem p).trans hp.mem_iff⟩
set_option maxRecDepth 100000 in
set_option maxHeartbeats 3200000 in
theorem setOf_any (L : List (List Y)) (a : Option Addr) (c : Nat) (w : World) (hn : L.length ≤ 1048576) (ht : L.flatten.length ≤ 1048576) (hl : BndsAt w a L) :
  Calls Tryz.prog 90 #[.func (.func 91) #[] #[], .slice a L.length c] w fun e w' => Below w.heap.size w w' ∧ ∃ (m : List Y) (ao : Option Addr) (cap : Nat), e = .returned (.agg #[.slice ao m.length cap, .func (.func 91) #[] #[]]) ∧ IsSet m L.flatten ∧ Own eY 65 w' w.heap.size (.slice ao m.length cap) m := by
 obtain ⟨w0, hw0⟩ : ∃ x : World, (w.alloc (.cells #[.func (.func 91) #[] #[]] 101)).alloc (.cells #[.slice none 0 0, .nilFunc] 103) = x := ⟨_, rfl⟩
 obtain ⟨X, hX⟩ : ∃ x, w.heap.size = x := ⟨_, rfl⟩
 have HX := mkHid hX
 have HB : Hid (Below X w w0) := mkHid (by rw [← hw0, ← hX]; exact bl_alloc (bl_alloc (Below.refl _ _) _) _)
 have q0 : w0.cell? ⟨X, 0, none⟩ = some (.func (.func 91) #[] #[]) := by rw [← hw0, ← hX]; simp [go_sem]
 have r0 : w0.cell? ⟨X + 1, 0, none⟩ = some (.slice none 0 0) := by rw [← hw0, ← hX]; simp [go_sem]
 have r1 : w0.cell? ⟨X + 1, 1, none⟩ = some .nilFunc := by rw [← hw0, ← hX]; simp [go_sem]
 have t0 : w0.frozen? ⟨X + 1, 0, none⟩ = false := by rw [← hw0, ← hX]; simp [go_sem]
 have t1 : w0.frozen? ⟨X + 1, 1, none⟩ = false := by rw [← hw0, ← hX]; simp [go_sem]
 have HS0 : Hid (w0.heap.size = X + 2) := mkHid (by rw [← hw0, ← hX]; simp)
 have HC : Hid (w0.cell? ⟨X, 0, none⟩ = some (.func (.func 91) #[] #[]) ∧ w0.cell? ⟨X + 1, 0, none⟩ = some (.slice none 0 0) ∧ w0.cell? ⟨X + 1, 1, none⟩ = some .nilFunc ∧ w0.frozen? ⟨X + 1, 0, none⟩ = false ∧ w0.frozen? ⟨X + 1, 1, none⟩ = false) := mkHid ⟨q0, r0, r1, t0, t1⟩
 have HL := mkHid (hl.below (by rw [hX]; exact HB.out))
 clear hl q0 r0 r1 t0 t1
 go_enter Tryz.func90, Tryz.ntmps90
 go_wp2_with fail
 clear hw0 hX
 refine (concat_any L a c _ hn ht HL.out).mono ?_
 rintro e w1 ⟨hb, ao, cap, rfl, ho⟩
 obtain ⟨F, hF⟩ : ∃ F, L.flatten = F := ⟨_, rfl⟩
 rw [hF] at ho ht ⊢
 have HF := mkHid hF
 have HO := mkHid ho
 have HB1 : Hid (Below X w w1) := mkHid (HB.out.trans (hb.mono (by have := HS0.out; omega)))
 have HSZ : Hid (X + 2 ≤ w1.heap.size) := mkHid (by have := hb.size; have := HS0.out; omega)
 have HC1 : Hid (w1.cell? ⟨X, 0, none⟩ = some (.func (.func 91) #[] #[]) ∧ w1.cell? ⟨X + 1, 0, none⟩ = some (.slice none 0 0) ∧ w1.cell? ⟨X + 1, 1, none⟩ = some .nilFunc ∧ w1.frozen? ⟨X + 1, 0, none⟩ = false ∧ w1.frozen? ⟨X + 1, 1, none⟩ = false) := mkHid (by
  obtain ⟨hc, hf⟩ := bcell hb
  have h1 : X < w0.heap.size := by have := HS0.out; omega
  have h2 : X + 1 < w0.heap.size := by have := HS0.out; omega
  exact ⟨(hc _ _ h1).trans HC.out.1, (hc _ _ h2).trans HC.out.2.1, (hc _ _ h2).trans HC.out.2.2.1, (hf _ _ h2).trans HC.out.2.2.2.1, (hf _ _ h2).trans HC.out.2.2.2.2⟩)
 clear hb ho hF HC HL HB
 have q0 := HC1.out.1
 go_wp2_with fail
 clear q0
 refine (sort_any F ao cap _ _ ht HO.out).mono ?_
 rintro e w2 ⟨rfl, l', hperm, hlen, hsort, ho, hg⟩
 have far : ∀ {wa wb : World} {k : Nat} {v : Value} {ls : List Y}, Own eY 65 wa w0.heap.size v ls → wa.grownBy wb v.ownBlock → k < X + 2 → k < wa.heap.size → wb.heap[k]? = wa.heap[k]? := fun {wa wb k v ls} h1 h2 h3 h4 => h2.block k h4 fun e => by have := (h1.lt e.symm).1; have := HS0.out; omega
 have HC2 : Hid (w2.cell? ⟨X, 0, none⟩ = some (.func (.func 91) #[] #[]) ∧ w2.cell? ⟨X + 1, 0, none⟩ = some (.slice none 0 0) ∧ w2.cell? ⟨X + 1, 1, none⟩ = some .nilFunc ∧ w2.frozen? ⟨X + 1, 0, none⟩ = false ∧ w2.frozen? ⟨X + 1, 1, none⟩ = false) := mkHid (by
  have e1 := far (k := X) HO.out hg (by omega) (by have := HSZ.out; omega)
  have e2 := far (k := X + 1) HO.out hg (by omega) (by have := HSZ.out; omega)
  exact ⟨(World.cell?_of_block (a := ⟨X, 0, none⟩) e1).trans HC1.out.1, (World.cell?_of_block (a := ⟨X + 1, 0, none⟩) e2).trans HC1.out.2.1, (World.cell?_of_block (a := ⟨X + 1, 1, none⟩) e2).trans HC1.out.2.2.1, (World.frozen?_of_block (a := ⟨X + 1, 0, none⟩) e2).trans HC1.out.2.2.2.1, (World.frozen?_of_block (a := ⟨X + 1, 1, none⟩) e2).trans HC1.out.2.2.2.2⟩)
 have HB2 : Hid (Below X w w2) := mkHid (HB1.out.grown hg (by have := HSZ.out; omega) (fun k hk => by have := (HO.out.lt hk).1; have := HS0.out; omega))
 have HSZ2 : Hid (X + 2 ≤ w2.heap.size) := mkHid (by have := hg.size; have := HSZ.out; omega)
 have HP := mkHid hperm
 have HSO := mkHid hsort
 have HO2 := mkHid ho
 have HLE := mkHid hlen
 clear hperm hsort ho hg hlen HC1 HB1 HSZ HO far
 obtain ⟨q0, r0, r1, t0, t1⟩ := HC2.out
 have hxl : X < w2.heap.size := by have := HSZ2.out; omega
 have HCO : Hid (Calls Tryz.prog 107 #[.slice ao F.length cap, .func (.func 106) #[] #[.pointer (some ⟨X, 0, none⟩)]] w2.drew fun e w' => w2.drew.grownBy w' (Value.ownBlock (.slice ao F.length cap)) ∧ ∃ (m : List Y), e = .returned (.slice ao m.length cap) ∧ IsSet m l' ∧ Own eY 65 w' w0.heap.size (.slice ao m.length cap) m) := mkHid (by
  have h := compact_any l' ao cap w0.heap.size X w2.drew (by rw [HLE.out]; exact ht) HSO.out (by rw [HLE.out]; exact HO2.out) HC2.out.1 (by have := HS0.out; omega)
  rw [HLE.out] at h
  exact h)
 have hkeep : ∀ (v : World), w2.drew.grownBy v (Value.ownBlock (.slice ao F.length cap)) → v.cell? ⟨X, 0, none⟩ = some (.func (.func 91) #[] #[]) ∧ v.cell? ⟨X + 1, 0, none⟩ = some (.slice none 0 0) ∧ v.cell? ⟨X + 1, 1, none⟩ = some .nilFunc ∧ v.frozen? ⟨X + 1, 0, none⟩ = false ∧ v.frozen? ⟨X + 1, 1, none⟩ = false := fun v hg => by
  have e1 : v.heap[X]? = w2.heap[X]? := hg.block X (by show X < w2.heap.size; have := HSZ2.out; omega) fun e => by have := (HO2.out.lt e.symm).1; have := HS0.out; omega
  have e2 : v.heap[X + 1]? = w2.heap[X + 1]? := hg.block (X + 1) (by show X + 1 < w2.heap.size; have := HSZ2.out; omega) fun e => by have := (HO2.out.lt e.symm).1; have := HS0.out; omega
  exact ⟨(World.cell?_of_block (a := ⟨X, 0, none⟩) e1).trans HC2.out.1, (World.cell?_of_block (a := ⟨X + 1, 0, none⟩) e2).trans HC2.out.2.1, (World.cell?_of_block (a := ⟨X + 1, 1, none⟩) e2).trans HC2.out.2.2.1, (World.frozen?_of_block (a := ⟨X + 1, 0, none⟩) e2).trans HC2.out.2.2.2.1, (World.frozen?_of_block (a := ⟨X + 1, 1, none⟩) e2).trans HC2.out.2.2.2.2⟩
 have HKP := mkHid hkeep
 clear hkeep
 have HBg : Hid (∀ (v : World), w2.drew.grownBy v (Value.ownBlock (.slice ao F.length cap)) → Below X w v) := mkHid fun v hg => HB2.out.drew.grown hg (by have := HSZ2.out; show X ≤ w2.heap.size; omega) (fun k hk => by have := (HO2.out.lt hk).1; have := HS0.out; omega)
 go_wp2_with fail
 go_region_held3 (fun w' => w'.cell? ⟨X, 0, none⟩ = some (.func (.func 91) #[] #[])) (first | exact q0 | exact hq2 | (simp [go_sem, hq2]; done))
  (first | (go_at_call 107; refine HCO.out.mono ?_; rintro e w3 ⟨hg, m, rfl, hset, hown⟩; obtain ⟨hq2, hr0, hr1, ht0, ht1⟩ := HKP.out _ hg))
 have HSE : Hid (IsSet m L.flatten) := mkHid (by rw [HF.out]; exact hset.perm HP.out)
 have HOW : Hid (Own eY 65 ((w3.setCell ⟨X + 1, 0, none⟩ (.slice ao m.length cap)).setCell ⟨X + 1, 1, none⟩ (.func (.func 91) #[] #[])) X (.slice ao m.length cap) m) := mkHid (by
  have h1 := (hown.outs (fun q hq => (hown.lt hq).2) (outs_set w3 (X + 1) 0 (.slice ao m.length cap)) (.inr (by have := HS0.out; omega)))
  exact (h1.outs (fun q hq => (h1.lt hq).2) (outs_set _ (X + 1) 1 (.func (.func 91) #[] #[])) (.inr (by have := HS0.out; omega))).mono (by have := HS0.out; omega))
 have HBF := mkHid (((HBg.out _ hg).setCell (p := ⟨X + 1, 0, none⟩) (by show X ≤ X + 1; omega) (.slice ao m.length cap)).setCell (p := ⟨X + 1, 1, none⟩) (by show X ≤ X + 1; omega) (.func (.func 91) #[] #[]))
 have hx1 : X + 1 < w3.heap.size := World.block_lt_of_cell? w3 _ hr0
 clear hset hown hg
 go_wp2
 refine bodyPost_ret (v := .agg #[.slice ao m.length cap, .func (.func 91) #[] #[]]) (by simp [results, Tryz.results90, go_sem, *]) rfl ⟨?_, m, ao, cap, rfl, HSE.out, ?_⟩
 ·rw [HX.out]; exact HBF.out
 ·rw [HX.out]; exact HOW.out
set_option maxRecDepth 100000 in
set_option maxHeartbeats 1600000 in
theorem termsOf_any (L : List (List Y)) (a : Option Addr) (c : Nat) (w : World) (hn : L.length ≤ 1048576) (ht : L.flatten.length ≤ 1048576) (hl : BndsAt w a L) :
  Calls Tryz.prog 73 #[.slice a L.length c] w fun e w' => Below w.heap.size w w' ∧ ∃ (m : List Y) (ao : Option Addr) (cap : Nat), e = .returned (.agg #[.slice ao m.length cap, .func (.func 91) #[] #[]]) ∧ IsSet m L.flatten ∧ Own eY 65 w' w.heap.size (.slice ao m.length cap) m := by
 obtain ⟨w0, hw0⟩ : ∃ x : World, w.alloc (.cells #[.slice none 0 0, .nilFunc] 103) = x := ⟨_, rfl⟩
 obtain ⟨X, hX⟩ : ∃ x, w.heap.size = x := ⟨_, rfl⟩
 have HX := mkHid hX
 have HB : Hid (Below X w w0) := mkHid (by rw [← hw0, ← hX]; exact bl_alloc (Below.refl _ _) _)
 have r0 : w0.cell? ⟨X, 0, none⟩ = some (.slice none 0 0) := by rw [← hw0, ← hX]; simp [go_sem]
 have r1 : w0.cell? ⟨X, 1, none⟩ = some .nilFunc := by rw [← hw0, ← hX]; simp [go_sem]
 have t0 : w0.frozen? ⟨X, 0, none⟩ = false := by rw [← hw0, ← hX]; simp [go_sem]
 have t1 : w0.frozen? ⟨X, 1, none⟩ = false := by rw [← hw0, ← hX]; simp [go_sem]
 have HS0 : Hid (w0.heap.size = X + 1) := mkHid (by rw [← hw0, ← hX]; simp)
 have HC : Hid (w0.cell? ⟨X, 0, none⟩ = some (.slice none 0 0) ∧ w0.cell? ⟨X, 1, none⟩ = some .nilFunc ∧ w0.frozen? ⟨X, 0, none⟩ = false ∧ w0.frozen? ⟨X, 1, none⟩ = false) := mkHid ⟨r0, r1, t0, t1⟩
 have HL := mkHid (hl.below (by rw [hX]; exact HB.out))
 clear hl r0 r1 t0 t1
 go_enter Tryz.func73, Tryz.ntmps73
 go_wp2_with fail
 clear hw0 hX
 refine (setOf_any L a c _ hn ht HL.out).mono ?_
 rintro e w1 ⟨hb, m, ao, cap, rfl, hset, ho⟩
 have HB1 : Hid (Below X w w1) := mkHid (HB.out.trans (hb.mono (by have := HS0.out; omega)))
 obtain ⟨r0, r1, t0, t1⟩ : w1.cell? ⟨X, 0, none⟩ = some (.slice none 0 0) ∧ w1.cell? ⟨X, 1, none⟩ = some .nilFunc ∧ w1.frozen? ⟨X, 0, none⟩ = false ∧ w1.frozen? ⟨X, 1, none⟩ = false := by
  obtain ⟨hc, hf⟩ := bcell hb
  have h1 : X < w0.heap.size := by have := HS0.out; omega
  exact ⟨(hc _ _ h1).trans HC.out.1, (hc _ _ h1).trans HC.out.2.1, (hf _ _ h1).trans HC.out.2.2.1, (hf _ _ h1).trans HC.out.2.2.2⟩
 have HSE := mkHid hset
 have HOW : Hid (Own eY 65 ((w1.setCell ⟨X, 0, none⟩ (.slice ao m.length cap)).setCell ⟨X, 1, none⟩ (.func (.func 91) #[] #[])) X (.slice ao m.length cap) m) := mkHid (by
  have h1 := (ho.outs (fun q hq => (ho.lt hq).2) (outs_set w1 X 0 (.slice ao m.length cap)) (.inr (by have := HS0.out; omega)))
  exact (h1.outs (fun q hq => (h1.lt hq).2) (outs_set _ X 1 (.func (.func 91) #[] #[])) (.inr (by have := HS0.out; omega))).mono (by have := HS0.out; omega))
 have HBF := mkHid ((HB1.out.setCell (p := ⟨X, 0, none⟩) (Nat.le_refl _) (.slice ao m.length cap)).setCell (p := ⟨X, 1, none⟩) (Nat.le_refl _) (.func (.func 91) #[] #[]))
 have hx1 : X < w1.heap.size := World.block_lt_of_cell? w1 _ r0
 clear hset ho hb
 go_wp2
 refine bodyPost_ret (v := .agg #[.slice ao m.length cap, .func (.func 91) #[] #[]]) (by simp [results, Tryz.results73, go_sem, *]) rfl ⟨?_, m, ao, cap, rfl, HSE.out, ?_⟩
 ·rw [HX.out]; exact HBF.out
 ·rw [HX.out]; exact HOW.out
end Go.Proofs.YtodjmpocpfkpaaaGreat
namespace Go.Proofs.YtodjmpocpfkpaaaGreat
open Go.RowKit

theorem orI_cmpY (p x : Y) : orI (cmpI p.1 x.1) (cmpI p.2 x.2) = cmpY p x := by unfold orI cmpY; split <;> simp_all
theorem pairwise_get {l : List Y} (h : l.Pairwise LtY) {i j : Nat} {p q : Y} (hij : i < j) (hp : l[i]? = some p) (hq : l[j]? = some q) : LtY p q := by
 obtain ⟨h1, rfl⟩ := List.getElem?_eq_some_iff.1 hp
 obtain ⟨h2, rfl⟩ := List.getElem?_eq_some_iff.1 hq
 exact List.pairwise_iff_getElem.1 h i j h1 h2 hij
/-- Where a search stands: all ahead of i are less, none from j on is. -/
structure SeekP (l : List Y) (x : Y) (i j : Nat) : Prop where
 le : i ≤ j
 hi : j ≤ l.length
 lo : ∀ q p, q < i → l[q]? = some p → LtY p x
 up : ∀ q p, j ≤ q → l[q]? = some p → ¬ LtY p x
theorem SeekP.up_step {l : List Y} {x p : Y} {i j h : Nat} (s : SeekP l x i j) (ha : l.Pairwise LtY) (h1 : i ≤ h) (h2 : h < j) (hp : l[h]? = some p) (hl : LtY p x) : SeekP l x (h + 1) j :=
 ⟨h2, s.hi, fun q y hq hy => by
  rcases (by omega : q < h ∨ q = h) with e | e
  ·exact (pairwise_get ha e hy hp).trans hl
  ·subst e; rw [hp] at hy; cases hy; exact hl, s.up⟩
theorem SeekP.down_step {l : List Y} {x p : Y} {i j h : Nat} (s : SeekP l x i j) (ha : l.Pairwise LtY) (h1 : i ≤ h) (h2 : h < j) (hp : l[h]? = some p) (hl : ¬ LtY p x) : SeekP l x i h :=
 ⟨h1, by have := s.hi; omega, s.lo, fun q y hq hy hn => by
  rcases (by omega : h < q ∨ q = h) with e | e
  ·exact hl ((pairwise_get ha e hp hy).trans hn)
  ·subst e; rw [hp] at hy; cases hy; exact hl hn⟩
theorem SeekP.found {l : List Y} {x : Y} {i : Nat} (s : SeekP l x i i) (ha : l.Pairwise LtY) : x ∈ l ↔ l[i]? = some x := by
 constructor
 ·intro h
  obtain ⟨q, hq, e⟩ := List.getElem_of_mem h
  have hx := List.getElem?_eq_some_iff.2 ⟨hq, e⟩
  rcases (by omega : q < i ∨ q = i ∨ i < q) with g | g | g
  ·exact absurd (s.lo q x g hx) (LtY.irrefl x)
  ·rw [← g]; exact hx
  ·obtain ⟨p, hp⟩ : ∃ p, l[i]? = some p := ⟨_, List.getElem?_eq_getElem (by omega)⟩
   exact absurd (pairwise_get ha g hp hx) (s.up i p (Nat.le_refl _) hp)
 ·exact fun h => List.mem_of_getElem? h
set_option maxRecDepth 100000 in
set_option maxHeartbeats 1600000 in
theorem seek_any (l : List Y) (ao : Option Addr) (cap : Nat) (x : Y) (w : World) (hn : l.length ≤ 1048576) (ha : l.Pairwise LtY) (hl : At eY w ao l) :
  Calls Tryz.prog 115 #[.slice ao l.length cap, .agg #[.int .i64 x.1, .int .i64 x.2], .func (.func 91) #[] #[]] w fun e w' => Below w.heap.size w w' ∧ ∃ (i : Int) (r : Bool), e = .returned (.tuple #[.int .i64 i, .bool r]) ∧ (r = true ↔ x ∈ l) := by
 have HA := mkHid ha
 obtain ⟨w0, hw0⟩ : ∃ z : World, w.alloc (.cells #[.int .i64 x.1, .int .i64 x.2] 65) = z := ⟨_, rfl⟩
 obtain ⟨X, hX⟩ : ∃ z, w.heap.size = z := ⟨_, rfl⟩
 have HB : Hid (Below w.heap.size w w0) := mkHid (by rw [← hw0]; exact bl_alloc (Below.refl _ _) _)
 have P0 : Hid (w0.cell? ⟨X, 0, none⟩ = some (.int .i64 x.1) ∧ w0.cell? ⟨X, 1, none⟩ = some (.int .i64 x.2)) := mkHid (by rw [← hw0, ← hX]; exact ⟨by simp [go_sem], by simp [go_sem]⟩)
 have HL := mkHid (hl.below HB.out)
 clear hl ha
 go_enter Tryz.func115, Tryz.ntmps115
 go_wp2
 clear hw0 hX
 go_loopg [9, 10, 11] l.length (fun g s9 s10 s11 wr => ∃ (i j : Nat), SeekP l x i j ∧ s9 = .int .i64 i ∧ s10 = .int .i64 j ∧ j - i ≤ g ∧ Below w0.heap.size w0 wr)
 case atStart => exact ⟨0, l.length, ⟨Nat.zero_le _, Nat.le_refl _, fun q p h => by omega, fun q p h1 h2 => by obtain ⟨h3, _⟩ := List.getElem?_eq_some_iff.1 h2; omega⟩, rfl, rfl, by omega, Below.refl _ _⟩
 case round =>
  obtain ⟨i, j, hs, rfl, rfl, hg, hbel⟩ := hrel
  have HS := mkHid hs
  have HBQ := mkHid hbel
  have hij := hs.le
  have hjl := hs.hi
  have p0 : wr.cell? ⟨X, 0, none⟩ = some (.int .i64 x.1) := (hbel.cell (p := ⟨X, 0, none⟩) (World.block_lt_of_cell? w0 _ P0.out.1)).trans P0.out.1
  have p1 : wr.cell? ⟨X, 1, none⟩ = some (.int .i64 x.2) := (hbel.cell (p := ⟨X, 1, none⟩) (World.block_lt_of_cell? w0 _ P0.out.2)).trans P0.out.2
  clear hs
  by_cases hlt : i < j
  ·obtain ⟨h, hh⟩ : ∃ h, (i + j) / 2 = h := ⟨_, rfl⟩
   have hh1 : i ≤ h := by omega
   have hh2 : h < j := by omega
   obtain ⟨p, hp⟩ : ∃ p, l[h]? = some p := ⟨_, List.getElem?_eq_getElem (by omega)⟩
   obtain ⟨b, off, rfl, hlb, hq⟩ := (HL.out.below hbel).cons (by omega)
   obtain ⟨c0, c1⟩ := get_y hq hp
   have HP := mkHid hp
   have hlx := World.block_lt_of_cell? wr _ p0
   have i1 : (i : Int) < (j : Int) := by omega
   have i2 : (h : Int) < (l.length : Int) := by omega
   have i3 : (0 : Int) ≤ (h : Int) := by omega
   have hwa : IntKind.i64.wrap ((i : Int) + (j : Int)) = ((i + j : Nat) : Int) := by rw [IntWalk.i64_in _ (by omega)]; omega
   clear hq hp hbel
   go_wp2
   have hhi : ((i : Int) + (j : Int)) / 2 = (h : Int) := by omega
   rw [hhi]
   clear hhi hwa
   go_region_held3 (fun w' => w'.cell? ⟨b, off + h * 2, none⟩ = some (.int .i64 p.1) ∧ w'.cell? ⟨b, off + h * 2 + 1, none⟩ = some (.int .i64 p.2) ∧ w'.cell? ⟨X, 0, none⟩ = some (.int .i64 x.1) ∧ w'.cell? ⟨X, 1, none⟩ = some (.int .i64 x.2)) (first | exact ⟨c0, c1, p0, p1⟩ | exact ⟨(hc _ _ hlb).trans c0, (hc _ _ hlb).trans c1, (hc _ _ hlx).trans p0, (hc _ _ hlx).trans p1⟩)
    (first | (go_at_call 91; refine (compareSyms_any p.1 p.2 x.1 x.2 _).mono ?_; rintro e w1 ⟨rfl, hb1, _⟩; rw [orI_cmpY]; obtain ⟨hc, hf⟩ := bcell hb1))
   have HB1 : Hid (Below w0.heap.size w0 w1) := mkHid (HBQ.out.drew.trans (hb1.mono HBQ.out.drew.size))
   clear hb1 hc hf c0 c1 p0 p1
   obtain ⟨z, hz⟩ : ∃ z, cmpY p x = z := ⟨_, rfl⟩
   rw [hz]
   have HZ := mkHid hz
   clear hz
   by_cases hz0 : z < 0
   ·have HN := mkHid (HS.out.up_step HA.out hh1 hh2 HP.out ((cmpY_lt p x).1 (by rw [HZ.out]; exact hz0)))
    go_wp2
    go_roundg (j - (h + 1))
    case measure => omega
    case rel => exact ⟨h + 1, j, HN.out, by go_num, rfl, Nat.le_refl _, HB1.out⟩
   ·have HN := mkHid (HS.out.down_step HA.out hh1 hh2 HP.out (fun g => hz0 (by rw [← HZ.out]; exact (cmpY_lt p x).2 g)))
    go_wp2
    go_roundg (h - i)
    case measure => omega
    case rel => exact ⟨i, h, HN.out, rfl, by first | rfl | trivial, Nat.le_refl _, HB1.out⟩
  ·obtain rfl : i = j := by omega
   have HF : Hid (x ∈ l ↔ l[i]? = some x) := mkHid (HS.out.found HA.out)
   have i1 : ¬ (i : Int) < (i : Int) := by omega
   clear hij hlt
   by_cases hil : i < l.length
   ·obtain ⟨h, hh⟩ : ∃ h, i = h := ⟨_, rfl⟩
    obtain ⟨p, hp⟩ : ∃ p, l[i]? = some p := ⟨_, List.getElem?_eq_getElem hil⟩
    obtain ⟨b, off, rfl, hlb, hq⟩ := (HL.out.below hbel).cons (by omega)
    obtain ⟨c0, c1⟩ := get_y hq hp
    have HP := mkHid hp
    have hlx := World.block_lt_of_cell? wr _ p0
    have i2 : (i : Int) < (l.length : Int) := by omega
    have i3 : (0 : Int) ≤ (i : Int) := by omega
    clear hq hp hbel hh
    go_wp2
    go_region_held3 (fun w' => w'.cell? ⟨b, off + i * 2, none⟩ = some (.int .i64 p.1) ∧ w'.cell? ⟨b, off + i * 2 + 1, none⟩ = some (.int .i64 p.2) ∧ w'.cell? ⟨X, 0, none⟩ = some (.int .i64 x.1) ∧ w'.cell? ⟨X, 1, none⟩ = some (.int .i64 x.2)) (first | exact ⟨c0, c1, p0, p1⟩ | exact ⟨(hc _ _ hlb).trans c0, (hc _ _ hlb).trans c1, (hc _ _ hlx).trans p0, (hc _ _ hlx).trans p1⟩)
     (first | (go_at_call 91; refine (compareSyms_any p.1 p.2 x.1 x.2 _).mono ?_; rintro e w1 ⟨rfl, hb1, _⟩; rw [orI_cmpY]; obtain ⟨hc, hf⟩ := bcell hb1))
    have HB1 : Hid (Below w0.heap.size w0 w1) := mkHid (HBQ.out.drew.trans (hb1.mono HBQ.out.drew.size))
    clear hb1 hc hf c0 c1 p0 p1
    have HE : Hid ((cmpY p x == 0) = true ↔ x ∈ l) := mkHid (by rw [HF.out, HP.out, beq_iff_eq, cmpY_zero]; constructor <;> (intro h; first | (rw [h]) | exact Option.some.inj h))
    go_wp2
    exact bodyPost_ret (v := .tuple #[.int .i64 i, .bool (cmpY p x == 0)]) (by simp [results, Tryz.results115, go_sem]) rfl ⟨below_step HB.out HB1.out, _, _, rfl, HE.out⟩
   ·have i2 : ¬ (i : Int) < (l.length : Int) := by omega
    have HNO : Hid (¬ x ∈ l) := mkHid fun h => by have h1 := HF.out.1 h; obtain ⟨h2, _⟩ := List.getElem?_eq_some_iff.1 h1; omega
    go_wp2
    go_region
    go_wp2
    exact bodyPost_ret (v := .tuple #[.int .i64 i, .bool false]) (by simp [results, Tryz.results115, go_sem]) rfl ⟨below_step HB.out HBQ.out.drew, _, _, rfl, ⟨fun h => (by cases h), fun h => absurd h HNO.out⟩⟩
end Go.Proofs.YtodjmpocpfkpaaaGreat
namespace Go.Proofs.YtodjmpocpfkpaaaGreat
open Go.RowKit

set_option maxRecDepth 100000 in
set_option maxHeartbeats 1600000 in
theorem setHas_any (l : List Y) (ao : Option Addr) (cap : Nat) (x : Y) (w : World) (hn : l.length ≤ 1048576) (ha : l.Pairwise LtY) (hl : At eY w ao l) :
  Calls Tryz.prog 99 #[.agg #[.slice ao l.length cap, .func (.func 91) #[] #[]], .agg #[.int .i64 x.1, .int .i64 x.2]] w fun e w' => Tells w w' e (x ∈ l) := by
 have HA := mkHid ha
 have HN := mkHid hn
 have HL := mkHid hl
 clear hl ha hn
 obtain ⟨w0, hw0⟩ : ∃ z : World, (w.alloc (.cells #[.slice ao l.length cap, .func (.func 91) #[] #[]] 103)).alloc (.cells #[.int .i64 x.1, .int .i64 x.2] 65) = z := ⟨_, rfl⟩
 obtain ⟨X, hX⟩ : ∃ z, w.heap.size = z := ⟨_, rfl⟩
 have HB : Hid (Below w.heap.size w w0) := mkHid (by rw [← hw0]; exact bl_alloc (bl_alloc (Below.refl _ _) _) _)
 have c0 : w0.cell? ⟨X, 0, none⟩ = some (.slice ao l.length cap) := by rw [← hw0, ← hX]; simp [go_sem]
 have c1 : w0.cell? ⟨X, 1, none⟩ = some (.func (.func 91) #[] #[]) := by rw [← hw0, ← hX]; simp [go_sem]
 have d0 : w0.cell? ⟨X + 1, 0, none⟩ = some (.int .i64 x.1) := by rw [← hw0, ← hX]; simp [go_sem]
 have d1 : w0.cell? ⟨X + 1, 1, none⟩ = some (.int .i64 x.2) := by rw [← hw0, ← hX]; simp [go_sem]
 go_enter Tryz.func99, Tryz.ntmps99
 go_wp2_with fail
 clear hw0 hX c0 c1 d0 d1
 refine (seek_any l ao cap x _ HN.out HA.out (HL.out.below HB.out)).mono ?_
 rintro e w1 ⟨hb, i, r, rfl, hr⟩
 have HB1 := mkHid (below_step HB.out hb)
 have HR := mkHid hr
 clear hb hr
 go_wp2
 go_ret
 exact ⟨HB1.out, r, rfl, HR.out⟩
end Go.Proofs.YtodjmpocpfkpaaaGreat
