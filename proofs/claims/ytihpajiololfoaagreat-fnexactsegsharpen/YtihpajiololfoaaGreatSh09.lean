/-
  CONTRACTS of setOf at terms and of termsOf: the set of all terms of some rows, of our own.
  CONTRACTS of the program's isBound, areBounds, isInLimits, areValsOk, SegOk.
-/
import Derived.Test.YtihpajiololfoaaGreatSh08
import Derived.Test.YtihpajiololfoaaGreatSh03
import Derived.Laws.EntriesVeiled
import Derived.Test.YtihpajiololfoaaGreatSh05
namespace Go.Proofs.YtihpajiololfoaaGreat
open Go.RowKit

theorem sort_none (p : Option Addr) (cap : Nat) (w : World) : Calls Tryz.prog 153 #[.slice p 0 cap, .func (.func 132) #[] #[]] w fun e w' => e = .returned (.tuple #[]) ∧ w' = w := AnyF.slices_SortFunc_none Tryz.sortY p cap _ w
set_option maxRecDepth 100000 in
theorem compact_none (p : Option Addr) (cap : Nat) (f : Value) (w : World) : Calls Tryz.prog 155 #[.slice p 0 cap, f] w fun e w' => e = .returned (.slice p 0 cap) ∧ w' = w := by
 go_enter Tryz.func155, Tryz.ntmps155
 go_wp2
 go_ret
 exact ⟨rfl, rfl⟩
/-- slices.SortFunc and CompactFunc at whatever row of our own. -/
theorem sort_any (l : List Y) (ao : Option Addr) (cap base : Nat) (w : World) (hn : l.length ≤ 1048576) (ho : Own eY 49 w base (.slice ao l.length cap) l) :
  Calls Tryz.prog 153 #[.slice ao l.length cap, .func (.func 132) #[] #[]] w fun e w' => e = .returned (.tuple #[]) ∧ ∃ l' : List Y, l'.Perm l ∧ l'.length = l.length ∧ l'.Pairwise (fun a b => ¬ LtY b a) ∧ Own eY 49 w' base (.slice ao l.length cap) l' ∧ w.grownBy w' (Value.ownBlock (.slice ao l.length cap)) := by
 rcases ho.2 with ⟨e, h⟩ | ⟨g, cap', cur, e, _⟩
 ·have hl := List.length_eq_zero_iff.1 h
  subst hl
  refine (sort_none ao cap w).mono ?_
  rintro e w' ⟨rfl, rfl⟩
  exact ⟨rfl, [], List.Perm.refl _, rfl, List.Pairwise.nil, ho, World.grownBy.refl _ _⟩
 ·simp at e
  obtain ⟨rfl, rfl⟩ := e
  refine (sort_own l g cap base w hn ho).mono ?_
  rintro e w' ⟨rfl, l', h1, h2, h3, h4⟩
  exact ⟨rfl, l', h1, h1.length_eq, h2, h3, h4⟩
theorem compact_any (l : List Y) (ao : Option Addr) (cap base bx : Nat) (w : World) (hn : l.length ≤ 1048576) (hs : l.Pairwise fun a b => ¬ LtY b a) (ho : Own eY 49 w base (.slice ao l.length cap) l)
  (hbx : w.cell? ⟨bx, 0, none⟩ = some (.func (.func 132) #[] #[])) (hbg : bx < base) :
  Calls Tryz.prog 155 #[.slice ao l.length cap, .func (.func 154) #[] #[.pointer (some ⟨bx, 0, none⟩)]] w fun e w' => w.grownBy w' (Value.ownBlock (.slice ao l.length cap)) ∧ ∃ (m : List Y), e = .returned (.slice ao m.length cap) ∧ IsSet m l ∧ Own eY 49 w' base (.slice ao m.length cap) m := by
 rcases ho.2 with ⟨e, h⟩ | ⟨g, cap', cur, e, hb, _, h1, h2, _⟩
 ·have hl := List.length_eq_zero_iff.1 h
  subst hl
  refine (compact_none ao cap _ w).mono ?_
  rintro e w' ⟨rfl, rfl⟩
  exact ⟨World.grownBy.refl _ _, [], rfl, IsSet.nil, ho⟩
 ·simp at e
  obtain ⟨rfl, rfl⟩ := e
  exact compact_own l g cap base bx w hn hs ho h1 h2 hbx (by omega)
theorem IsSet.perm {m l l' : List Y} (h : IsSet m l') (hp : l'.Perm l) : IsSet m l := ⟨h.asc, fun p => (h.mem p).trans hp.mem_iff⟩
set_option maxRecDepth 100000 in
set_option maxHeartbeats 3200000 in
theorem setOf_any (L : List (List Y)) (a : Option Addr) (c : Nat) (w : World) (hn : L.length ≤ 1048576) (ht : L.flatten.length ≤ 1048576) (hl : BndsAt w a L) :
  Calls Tryz.prog 131 #[.func (.func 132) #[] #[], .slice a L.length c] w fun e w' => Below w.heap.size w w' ∧ ∃ (m : List Y) (ao : Option Addr) (cap : Nat), e = .returned (.agg #[.slice ao m.length cap, .func (.func 132) #[] #[]]) ∧ IsSet m L.flatten ∧ Own eY 49 w' w.heap.size (.slice ao m.length cap) m := by
 obtain ⟨w0, hw0⟩ : ∃ x : World, (w.alloc (.cells #[.func (.func 132) #[] #[]] 125)).alloc (.cells #[.slice none 0 0, .nilFunc] 127) = x := ⟨_, rfl⟩
 obtain ⟨X, hX⟩ : ∃ x, w.heap.size = x := ⟨_, rfl⟩
 have HX := mkHid hX
 have HB : Hid (Below X w w0) := mkHid (by rw [← hw0, ← hX]; exact bl_alloc (bl_alloc (Below.refl _ _) _) _)
 have q0 : w0.cell? ⟨X, 0, none⟩ = some (.func (.func 132) #[] #[]) := by rw [← hw0, ← hX]; simp [go_sem]
 have r0 : w0.cell? ⟨X + 1, 0, none⟩ = some (.slice none 0 0) := by rw [← hw0, ← hX]; simp [go_sem]
 have r1 : w0.cell? ⟨X + 1, 1, none⟩ = some .nilFunc := by rw [← hw0, ← hX]; simp [go_sem]
 have t0 : w0.frozen? ⟨X + 1, 0, none⟩ = false := by rw [← hw0, ← hX]; simp [go_sem]
 have t1 : w0.frozen? ⟨X + 1, 1, none⟩ = false := by rw [← hw0, ← hX]; simp [go_sem]
 have HS0 : Hid (w0.heap.size = X + 2) := mkHid (by rw [← hw0, ← hX]; simp)
 have HC : Hid (w0.cell? ⟨X, 0, none⟩ = some (.func (.func 132) #[] #[]) ∧ w0.cell? ⟨X + 1, 0, none⟩ = some (.slice none 0 0) ∧ w0.cell? ⟨X + 1, 1, none⟩ = some .nilFunc ∧ w0.frozen? ⟨X + 1, 0, none⟩ = false ∧ w0.frozen? ⟨X + 1, 1, none⟩ = false) := mkHid ⟨q0, r0, r1, t0, t1⟩
 have HL := mkHid (hl.below (by rw [hX]; exact HB.out))
 clear hl q0 r0 r1 t0 t1
 go_enter Tryz.func131, Tryz.ntmps131
 go_wp2_with fail
 clear hw0 hX
 refine (concat_any L a c _ hn ht HL.out).mono ?_
 rintro e w1 ⟨hb, ao, cap, rfl, ho⟩
 obtain ⟨F, hF⟩ : ∃ F, L.flatten = F := ⟨_, rfl⟩
 rw [hF] at ho ht ⊢
 have HF := mkHid hF
 have HO := mkHid ho
 have HB1 : Hid (Below X w w1) := mkHid (HB.out.trans (hb.mono (by have := HS0.out; omega)))
 have HSZ : Hid (X + 2 ≤ w1.heap.size) := mkHid (by have := hb.size; have := HS0.out; omega)
 have HC1 : Hid (w1.cell? ⟨X, 0, none⟩ = some (.func (.func 132) #[] #[]) ∧ w1.cell? ⟨X + 1, 0, none⟩ = some (.slice none 0 0) ∧ w1.cell? ⟨X + 1, 1, none⟩ = some .nilFunc ∧ w1.frozen? ⟨X + 1, 0, none⟩ = false ∧ w1.frozen? ⟨X + 1, 1, none⟩ = false) := mkHid (by
  obtain ⟨hc, hf⟩ := bcell hb
  have h1 : X < w0.heap.size := by have := HS0.out; omega
  have h2 : X + 1 < w0.heap.size := by have := HS0.out; omega
  exact ⟨(hc _ _ h1).trans HC.out.1, (hc _ _ h2).trans HC.out.2.1, (hc _ _ h2).trans HC.out.2.2.1, (hf _ _ h2).trans HC.out.2.2.2.1, (hf _ _ h2).trans HC.out.2.2.2.2⟩)
 clear hb ho hF HC HL HB
 have q0 := HC1.out.1
 go_wp2_with fail
 clear q0
 refine (sort_any F ao cap _ _ ht HO.out).mono ?_
 rintro e w2 ⟨rfl, l', hperm, hlen, hsort, ho, hg⟩
 have far : ∀ {wa wb : World} {k : Nat} {v : Value} {ls : List Y}, Own eY 49 wa w0.heap.size v ls → wa.grownBy wb v.ownBlock → k < X + 2 → k < wa.heap.size → wb.heap[k]? = wa.heap[k]? := fun {wa wb k v ls} h1 h2 h3 h4 => h2.block k h4 fun e => by have := (h1.lt e.symm).1; have := HS0.out; omega
 have HC2 : Hid (w2.cell? ⟨X, 0, none⟩ = some (.func (.func 132) #[] #[]) ∧ w2.cell? ⟨X + 1, 0, none⟩ = some (.slice none 0 0) ∧ w2.cell? ⟨X + 1, 1, none⟩ = some .nilFunc ∧ w2.frozen? ⟨X + 1, 0, none⟩ = false ∧ w2.frozen? ⟨X + 1, 1, none⟩ = false) := mkHid (by
  have e1 := far (k := X) HO.out hg (by omega) (by have := HSZ.out; omega)
  have e2 := far (k := X + 1) HO.out hg (by omega) (by have := HSZ.out; omega)
  exact ⟨(World.cell?_of_block (a := ⟨X, 0, none⟩) e1).trans HC1.out.1, (World.cell?_of_block (a := ⟨X + 1, 0, none⟩) e2).trans HC1.out.2.1, (World.cell?_of_block (a := ⟨X + 1, 1, none⟩) e2).trans HC1.out.2.2.1, (World.frozen?_of_block (a := ⟨X + 1, 0, none⟩) e2).trans HC1.out.2.2.2.1, (World.frozen?_of_block (a := ⟨X + 1, 1, none⟩) e2).trans HC1.out.2.2.2.2⟩)
 have HB2 : Hid (Below X w w2) := mkHid (HB1.out.grown hg (by have := HSZ.out; omega) (fun k hk => by have := (HO.out.lt hk).1; have := HS0.out; omega))
 have HSZ2 : Hid (X + 2 ≤ w2.heap.size) := mkHid (by have := hg.size; have := HSZ.out; omega)
 have HP := mkHid hperm
 have HSO := mkHid hsort
 have HO2 := mkHid ho
 have HLE := mkHid hlen
 clear hperm hsort ho hg hlen HC1 HB1 HSZ HO far
 obtain ⟨q0, r0, r1, t0, t1⟩ := HC2.out
 have hxl : X < w2.heap.size := by have := HSZ2.out; omega
 have HCO : Hid (Calls Tryz.prog 155 #[.slice ao F.length cap, .func (.func 154) #[] #[.pointer (some ⟨X, 0, none⟩)]] w2.drew fun e w' => w2.drew.grownBy w' (Value.ownBlock (.slice ao F.length cap)) ∧ ∃ (m : List Y), e = .returned (.slice ao m.length cap) ∧ IsSet m l' ∧ Own eY 49 w' w0.heap.size (.slice ao m.length cap) m) := mkHid (by
  have h := compact_any l' ao cap w0.heap.size X w2.drew (by rw [HLE.out]; exact ht) HSO.out (by rw [HLE.out]; exact HO2.out) HC2.out.1 (by have := HS0.out; omega)
  rw [HLE.out] at h
  exact h)
 have hkeep : ∀ (v : World), w2.drew.grownBy v (Value.ownBlock (.slice ao F.length cap)) → v.cell? ⟨X, 0, none⟩ = some (.func (.func 132) #[] #[]) ∧ v.cell? ⟨X + 1, 0, none⟩ = some (.slice none 0 0) ∧ v.cell? ⟨X + 1, 1, none⟩ = some .nilFunc ∧ v.frozen? ⟨X + 1, 0, none⟩ = false ∧ v.frozen? ⟨X + 1, 1, none⟩ = false := fun v hg => by
  have e1 : v.heap[X]? = w2.heap[X]? := hg.block X (by show X < w2.heap.size; have := HSZ2.out; omega) fun e => by have := (HO2.out.lt e.symm).1; have := HS0.out; omega
  have e2 : v.heap[X + 1]? = w2.heap[X + 1]? := hg.block (X + 1) (by show X + 1 < w2.heap.size; have := HSZ2.out; omega) fun e => by have := (HO2.out.lt e.symm).1; have := HS0.out; omega
  exact ⟨(World.cell?_of_block (a := ⟨X, 0, none⟩) e1).trans HC2.out.1, (World.cell?_of_block (a := ⟨X + 1, 0, none⟩) e2).trans HC2.out.2.1, (World.cell?_of_block (a := ⟨X + 1, 1, none⟩) e2).trans HC2.out.2.2.1, (World.frozen?_of_block (a := ⟨X + 1, 0, none⟩) e2).trans HC2.out.2.2.2.1, (World.frozen?_of_block (a := ⟨X + 1, 1, none⟩) e2).trans HC2.out.2.2.2.2⟩
 have HKP := mkHid hkeep
 clear hkeep
 have HBg : Hid (∀ (v : World), w2.drew.grownBy v (Value.ownBlock (.slice ao F.length cap)) → Below X w v) := mkHid fun v hg => HB2.out.drew.grown hg (by have := HSZ2.out; show X ≤ w2.heap.size; omega) (fun k hk => by have := (HO2.out.lt hk).1; have := HS0.out; omega)
 go_wp2_with fail
 go_region_held3 (fun w' => w'.cell? ⟨X, 0, none⟩ = some (.func (.func 132) #[] #[])) (first | exact q0 | exact hq2 | (simp [go_sem, hq2]; done))
  (first | (go_at_call 155; refine HCO.out.mono ?_; rintro e w3 ⟨hg, m, rfl, hset, hown⟩; obtain ⟨hq2, hr0, hr1, ht0, ht1⟩ := HKP.out _ hg))
 have HSE : Hid (IsSet m L.flatten) := mkHid (by rw [HF.out]; exact hset.perm HP.out)
 have HOW : Hid (Own eY 49 ((w3.setCell ⟨X + 1, 0, none⟩ (.slice ao m.length cap)).setCell ⟨X + 1, 1, none⟩ (.func (.func 132) #[] #[])) X (.slice ao m.length cap) m) := mkHid (by
  have h1 := (hown.outs (fun q hq => (hown.lt hq).2) (outs_set w3 (X + 1) 0 (.slice ao m.length cap)) (.inr (by have := HS0.out; omega)))
  exact (h1.outs (fun q hq => (h1.lt hq).2) (outs_set _ (X + 1) 1 (.func (.func 132) #[] #[])) (.inr (by have := HS0.out; omega))).mono (by have := HS0.out; omega))
 have HBF := mkHid (((HBg.out _ hg).setCell (p := ⟨X + 1, 0, none⟩) (by show X ≤ X + 1; omega) (.slice ao m.length cap)).setCell (p := ⟨X + 1, 1, none⟩) (by show X ≤ X + 1; omega) (.func (.func 132) #[] #[]))
 have hx1 : X + 1 < w3.heap.size := World.block_lt_of_cell? w3 _ hr0
 clear hset hown hg
 go_wp2
 refine bodyPost_ret (v := .agg #[.slice ao m.length cap, .func (.func 132) #[] #[]]) (by simp [results, Tryz.results131, go_sem, *]) rfl ⟨?_, m, ao, cap, rfl, HSE.out, ?_⟩
 ·rw [HX.out]; exact HBF.out
 ·rw [HX.out]; exact HOW.out
set_option maxRecDepth 100000 in
set_option maxHeartbeats 1600000 in
theorem termsOf_any (L : List (List Y)) (a : Option Addr) (c : Nat) (w : World) (hn : L.length ≤ 1048576) (ht : L.flatten.length ≤ 1048576) (hl : BndsAt w a L) :
  Calls Tryz.prog 89 #[.slice a L.length c] w fun e w' => Below w.heap.size w w' ∧ ∃ (m : List Y) (ao : Option Addr) (cap : Nat), e = .returned (.agg #[.slice ao m.length cap, .func (.func 132) #[] #[]]) ∧ IsSet m L.flatten ∧ Own eY 49 w' w.heap.size (.slice ao m.length cap) m := by
 obtain ⟨w0, hw0⟩ : ∃ x : World, w.alloc (.cells #[.slice none 0 0, .nilFunc] 127) = x := ⟨_, rfl⟩
 obtain ⟨X, hX⟩ : ∃ x, w.heap.size = x := ⟨_, rfl⟩
 have HX := mkHid hX
 have HB : Hid (Below X w w0) := mkHid (by rw [← hw0, ← hX]; exact bl_alloc (Below.refl _ _) _)
 have r0 : w0.cell? ⟨X, 0, none⟩ = some (.slice none 0 0) := by rw [← hw0, ← hX]; simp [go_sem]
 have r1 : w0.cell? ⟨X, 1, none⟩ = some .nilFunc := by rw [← hw0, ← hX]; simp [go_sem]
 have t0 : w0.frozen? ⟨X, 0, none⟩ = false := by rw [← hw0, ← hX]; simp [go_sem]
 have t1 : w0.frozen? ⟨X, 1, none⟩ = false := by rw [← hw0, ← hX]; simp [go_sem]
 have HS0 : Hid (w0.heap.size = X + 1) := mkHid (by rw [← hw0, ← hX]; simp)
 have HC : Hid (w0.cell? ⟨X, 0, none⟩ = some (.slice none 0 0) ∧ w0.cell? ⟨X, 1, none⟩ = some .nilFunc ∧ w0.frozen? ⟨X, 0, none⟩ = false ∧ w0.frozen? ⟨X, 1, none⟩ = false) := mkHid ⟨r0, r1, t0, t1⟩
 have HL := mkHid (hl.below (by rw [hX]; exact HB.out))
 clear hl r0 r1 t0 t1
 go_enter Tryz.func89, Tryz.ntmps89
 go_wp2_with fail
 clear hw0 hX
 refine (setOf_any L a c _ hn ht HL.out).mono ?_
 rintro e w1 ⟨hb, m, ao, cap, rfl, hset, ho⟩
 have HB1 : Hid (Below X w w1) := mkHid (HB.out.trans (hb.mono (by have := HS0.out; omega)))
 obtain ⟨r0, r1, t0, t1⟩ : w1.cell? ⟨X, 0, none⟩ = some (.slice none 0 0) ∧ w1.cell? ⟨X, 1, none⟩ = some .nilFunc ∧ w1.frozen? ⟨X, 0, none⟩ = false ∧ w1.frozen? ⟨X, 1, none⟩ = false := by
  obtain ⟨hc, hf⟩ := bcell hb
  have h1 : X < w0.heap.size := by have := HS0.out; omega
  exact ⟨(hc _ _ h1).trans HC.out.1, (hc _ _ h1).trans HC.out.2.1, (hf _ _ h1).trans HC.out.2.2.1, (hf _ _ h1).trans HC.out.2.2.2⟩
 have HSE := mkHid hset
 have HOW : Hid (Own eY 49 ((w1.setCell ⟨X, 0, none⟩ (.slice ao m.length cap)).setCell ⟨X, 1, none⟩ (.func (.func 132) #[] #[])) X (.slice ao m.length cap) m) := mkHid (by
  have h1 := (ho.outs (fun q hq => (ho.lt hq).2) (outs_set w1 X 0 (.slice ao m.length cap)) (.inr (by have := HS0.out; omega)))
  exact (h1.outs (fun q hq => (h1.lt hq).2) (outs_set _ X 1 (.func (.func 132) #[] #[])) (.inr (by have := HS0.out; omega))).mono (by have := HS0.out; omega))
 have HBF := mkHid ((HB1.out.setCell (p := ⟨X, 0, none⟩) (Nat.le_refl _) (.slice ao m.length cap)).setCell (p := ⟨X, 1, none⟩) (Nat.le_refl _) (.func (.func 132) #[] #[]))
 have hx1 : X < w1.heap.size := World.block_lt_of_cell? w1 _ r0
 clear hset ho hb
 go_wp2
 refine bodyPost_ret (v := .agg #[.slice ao m.length cap, .func (.func 132) #[] #[]]) (by simp [results, Tryz.results89, go_sem, *]) rfl ⟨?_, m, ao, cap, rfl, HSE.out, ?_⟩
 ·rw [HX.out]; exact HBF.out
 ·rw [HX.out]; exact HOW.out
end Go.Proofs.YtihpajiololfoaaGreat
namespace Go.Proofs.YtihpajiololfoaaGreat
open Go.RowKit

theorem Own.one {w : World} {ao : Option Addr} {cap : Nat} {g : Nat} {l : List Y} (hg : w.cell? ⟨g, 0, none⟩ = some (.slice ao l.length cap)) (h : At eY w ao l) : BndsAt w (some ⟨g, 0, none⟩) [l] :=
 .inr ⟨g, 0, rfl, fun i l' hl => by
  match i, hl with
  | 0, hl => simp at hl; subst hl; exact ⟨ao, cap, hg, h⟩⟩
theorem field80 (a : Option Addr) (n c : Nat) (w : World) : (Instr.field 127 (.agg #[.slice a n c, .func (.func 132) #[] #[]]) 0).run Tryz.prog w = .ok (.slice a n c) w := by kernel_rfl
set_option maxRecDepth 100000 in
set_option maxHeartbeats 3200000 in
theorem isBound_any (n : Int) (l : List Y) (a : Option Addr) (c : Nat) (w : World) (hn : l.length ≤ 1048576) (hl : At eY w a l) :
  Calls Tryz.prog 144 #[.int .i64 n, .slice a l.length c] w fun e w' => Tells w w' e (RowP n l) := by
 have hFd := field80
 have HL := mkHid hl
 clear hl
 go_enter Tryz.func144, Tryz.ntmps144
 go_wp2
 go_loopg [9] l.length (fun g s9 wr => ∃ (k : Nat), k ≤ l.length ∧ s9 = .int .i64 k ∧ l.length - k ≤ g ∧ (∀ q x, q < k → l[q]? = some x → symP n x) ∧ Below w.heap.size w wr)
 case atStart => exact ⟨0, Nat.zero_le _, rfl, by omega, fun q x h => by omega, Below.refl _ _⟩
 case round =>
  obtain ⟨k, hk, rfl, hgk, hsy, hbel⟩ := hrel
  have HS := mkHid hsy
  have HB := mkHid hbel
  clear hsy
  by_cases hlt : k < l.length
  ·obtain ⟨x, hx⟩ : ∃ x, l[k]? = some x := ⟨_, List.getElem?_eq_getElem hlt⟩
   obtain ⟨b, off, rfl, _, hq⟩ := (HL.out.below hbel).cons (by omega)
   obtain ⟨c0, c1⟩ := get_y hq hx
   have HX := mkHid hx
   clear hq hbel hx
   have i0 : (0 : Int) ≤ (k : Int) := by omega
   have i1 : (k : Int) < (l.length : Int) := by omega
   go_wp2_with fail
   refine (iSymOk_any n x.1 x.2 _).mono ?_
   rintro e w1 ⟨rfl, hb⟩
   have HB1 := mkHid (below_step (bl_alloc HB.out (.cells #[.int .i64 x.1, .int .i64 x.2] 49)) hb)
   clear hb c0 c1
   cases hso : symOkB n x.1 x.2
   ·have HNO : Hid (¬ RowP n l) := mkHid fun h => Bool.false_ne_true (hso.symm.trans ((symB_iff n x).2 (h.sym x (List.mem_of_getElem? HX.out))))
    go_wp2
    go_ret
    exact Tells.no HB1.out HNO.out
   ·have HNX : Hid (∀ q x, q < k + 1 → l[q]? = some x → symP n x) := mkHid fun q y hq hy => (by omega : q < k ∨ q = k).elim (fun h => HS.out q y h hy) (fun h => by subst h; rw [HX.out] at hy; cases hy; exact (symB_iff n x).1 hso)
    go_wp2
    go_roundg (l.length - (k + 1))
    case measure => omega
    case rel => exact ⟨k + 1, by omega, by go_num, Nat.le_refl _, HNX.out, HB1.out⟩
  ·have HSA : Hid (∀ p, p ∈ l → symP n p) := mkHid fun p hp => by obtain ⟨q, hq, rfl⟩ := List.getElem_of_mem hp; exact HS.out q _ (by omega) (List.getElem?_eq_getElem hq)
   have i1 : ¬ (k : Int) < (l.length : Int) := by omega
   clear hbel
   by_cases hne : l.length = 0
   ·have HNO : Hid (¬ RowP n l) := mkHid fun h => h.ne (List.length_eq_zero_iff.1 hne)
    have hz : ¬ (0 : Int) < (l.length : Int) := by omega
    have hz2 : decide (0 < l.length) = false := decide_eq_false (by omega)
    go_wp2
    go_ret
    exact Tells.no HB.out HNO.out
   ·have hz : (0 : Int) < (l.length : Int) := by omega
    have hz2 : decide (0 < l.length) = true := decide_eq_true (by omega)
    obtain ⟨wa, hwa⟩ : ∃ x : World, wr.alloc (.cells #[.slice a l.length c] 113) = x := ⟨_, rfl⟩
    obtain ⟨R, hR⟩ : ∃ x, wr.heap.size = x := ⟨_, rfl⟩
    have BA : Hid (Below wr.heap.size wr wa) := mkHid (by rw [← hwa]; exact bl_alloc (Below.refl _ _) _)
    have CA : Hid (wa.cell? ⟨R, 0, none⟩ = some (.slice a l.length c)) := mkHid (by rw [← hwa, ← hR]; simp [go_sem])
    have HLA := mkHid (HL.out.below (below_step HB.out BA.out))
    go_wp2_with fail
    clear hwa hR
    refine (termsOf_any [l] (some ⟨R, 0, none⟩) 1 _ (by simp) (by simpa using hn) (Own.one CA.out HLA.out)).mono ?_
    rintro e w1 ⟨hb, m, ao, cap, rfl, hset, ho⟩
    have HSE : Hid (IsSet m l) := mkHid (by simpa using hset)
    have HO := mkHid ho
    have HB1 := mkHid (below_step (below_step HB.out BA.out) hb)
    have HLB := mkHid (HLA.out.below hb)
    clear hset ho hb
    go_wp2_with fail
    refine (equal_any l m a ao c cap _ (by unfold maxLen; omega) HLB.out HO.out.at).mono ?_
    rintro e w2 ⟨hb, r, rfl, hr⟩
    have HB2 := mkHid (below_step HB1.out hb)
    have HRR := mkHid hr
    clear hb hr
    cases hrb : r
    ·have HNO : Hid (¬ RowP n l) := mkHid fun h => by have := HRR.out.2 ((HSE.out.same).2 h.asc); rw [hrb] at this; cases this
     subst hrb
     go_wp2
     go_ret
     exact Tells.no HB2.out HNO.out
    ·have HYES : Hid (RowP n l) := mkHid ⟨fun e => hne (by rw [e]; rfl), HSA.out, (HSE.out.same).1 (HRR.out.1 hrb)⟩
     subst hrb
     go_wp2
     go_ret
     exact Tells.yes HB2.out HYES.out
structure ValsP (V : List VV) : Prop where
 ok : ∀ v, v ∈ V → okB v.1 v.2.1 = true
structure BndP (n : Int) (B : List (List Y)) : Prop where
 rows : ∀ b, b ∈ B → RowP n b
 nodup : B.flatten.Nodup
set_option maxRecDepth 100000 in
set_option maxHeartbeats 3200000 in
theorem areBounds_any (n : Int) (B : List (List Y)) (a : Option Addr) (c : Nat) (w : World) (hn : B.length ≤ 1048576) (ht : B.flatten.length ≤ 1048576) (hl : BndsAt w a B) :
  Calls Tryz.prog 119 #[.int .i64 n, .slice a B.length c] w fun e w' => Tells w w' e (BndP n B) := by
 have hFd := field80
 have HL := mkHid hl
 clear hl
 go_enter Tryz.func119, Tryz.ntmps119
 go_wp2
 go_loopg [5, 10, 7] B.length (fun g s5 s10 s7 wr => ∃ (k : Nat), k ≤ B.length ∧ s10 = .int .i64 k ∧ s5 = .int .i64 ((B.take k).flatten.length : Nat) ∧ B.length - k ≤ g ∧ (∀ q b, q < k → B[q]? = some b → RowP n b) ∧ Below w.heap.size w wr)
 case atStart => exact ⟨0, Nat.zero_le _, rfl, rfl, by omega, fun q x h => by omega, Below.refl _ _⟩
 case round =>
  obtain ⟨k, hk, rfl, rfl, hgk, hro, hbel⟩ := hrel
  have HS := mkHid hro
  have HB := mkHid hbel
  obtain ⟨tt, htt⟩ : ∃ tt, (B.take k).flatten.length = tt := ⟨_, rfl⟩
  have HTT := mkHid htt
  have hle1 : tt ≤ 1048576 := by have h1 := tot_take B k; omega
  rw [htt]
  clear hro htt
  by_cases hlt : k < B.length
  ·obtain ⟨l, hx⟩ : ∃ x, B[k]? = some x := ⟨_, List.getElem?_eq_getElem hlt⟩
   obtain ⟨b, off, rfl, _, hq⟩ := (HL.out.below hbel).cons (by omega)
   obtain ⟨ao, cp, c0, hat⟩ := hq k l hx
   have HX := mkHid hx
   have HAT := mkHid hat
   have HSU := mkHid (tot_succ hx)
   have hle2 : tt + l.length ≤ 1048576 := by have h1 := tot_take B (k + 1); rw [HSU.out, HTT.out] at h1; omega
   clear hq hbel hx hat
   have i0 : (0 : Int) ≤ (k : Int) := by omega
   have i1 : (k : Int) < (B.length : Int) := by omega
   go_wp2_with fail
   refine (isBound_any n l ao cp _ (by omega) HAT.out).mono ?_
   rintro e w1 ⟨hb, r, rfl, hr⟩
   have HB1 := mkHid (below_step HB.out hb)
   have HRR := mkHid hr
   clear hb hr c0
   cases hrb : r
   ·have HNO : Hid (¬ BndP n B) := mkHid fun h => by have := HRR.out.2 (h.rows l (List.mem_of_getElem? HX.out)); rw [hrb] at this; cases this
    subst hrb
    go_wp2
    go_ret
    exact Tells.no HB1.out HNO.out
   ·have HNX : Hid (∀ q b, q < k + 1 → B[q]? = some b → RowP n b) := mkHid fun q y hq hy => (by omega : q < k ∨ q = k).elim (fun h => HS.out q y h hy) (fun h => by subst h; rw [HX.out] at hy; cases hy; exact HRR.out.1 hrb)
    subst hrb
    go_wp2
    go_roundg (B.length - (k + 1))
    case measure => omega
    case rel => exact ⟨k + 1, by omega, by go_num, by rw [HSU.out, HTT.out]; simp, Nat.le_refl _, HNX.out, HB1.out⟩
  ·have e : k = B.length := by omega
   have HTA : Hid (B.flatten.length = tt) := mkHid (by have h := HTT.out; rw [e, List.take_length] at h; exact h)
   have HRA : Hid (∀ b, b ∈ B → RowP n b) := mkHid fun b hb => by obtain ⟨q, hq, rfl⟩ := List.getElem_of_mem hb; exact HS.out q _ (by omega) (List.getElem?_eq_getElem hq)
   have i1 : ¬ (k : Int) < (B.length : Int) := by omega
   clear e
   go_wp2_with fail
   refine (termsOf_any B a c _ hn ht (HL.out.below HB.out)).mono ?_
   rintro e w1 ⟨hb, m, ao, cap, rfl, hset, _⟩
   have HSE := mkHid hset
   have HB1 := mkHid (below_step HB.out hb)
   clear hset hb hbel
   by_cases heq : m.length = tt
   ·have h1 : ((m.length : Int) == (tt : Int)) = true := beq_iff_eq.2 (by omega)
    have HYES : Hid (BndP n B) := mkHid ⟨HRA.out, (HSE.out.full).1 (by rw [heq, HTA.out])⟩
    clear heq
    go_wp2
    go_ret
    exact Tells.yes HB1.out HYES.out
   ·have h1 : ((m.length : Int) == (tt : Int)) = false := beq_eq_false_iff_ne.2 (by omega)
    have HNO : Hid (¬ BndP n B) := mkHid fun h => heq (by rw [(HSE.out.full).2 h.nodup, HTA.out])
    clear heq
    go_wp2
    go_ret
    exact Tells.no HB1.out HNO.out
set_option maxRecDepth 100000 in
set_option maxHeartbeats 3200000 in
theorem areVals_any (V : List VV) (a : Option Addr) (c : Nat) (w : World) (hn : V.length ≤ 1048576) (hl : At eV w a V) :
  Calls Tryz.prog 121 #[.slice a V.length c] w fun e w' => Tells w w' e (ValsP V) := by
 have HL := mkHid hl
 clear hl
 go_enter Tryz.func121, Tryz.ntmps121
 go_wp2
 go_loopg [7] V.length (fun g s7 wr => ∃ (k : Nat), k ≤ V.length ∧ s7 = .int .i64 k ∧ V.length - k ≤ g ∧ (∀ q (x : VV), q < k → V[q]? = some x → okB x.1 x.2.1 = true) ∧ Below w.heap.size w wr)
 case atStart => exact ⟨0, Nat.zero_le _, rfl, by omega, fun q x h => by omega, Below.refl _ _⟩
 case round =>
  obtain ⟨k, hk, rfl, hgk, hsy, hbel⟩ := hrel
  have HS := mkHid hsy
  have HB := mkHid hbel
  clear hsy
  by_cases hlt : k < V.length
  ·obtain ⟨x, hx⟩ : ∃ x, V[k]? = some x := ⟨_, List.getElem?_eq_getElem hlt⟩
   obtain ⟨b, off, rfl, _, hq⟩ := (HL.out.below hbel).cons (by omega)
   obtain ⟨c0, c1, c2⟩ := get_v hq hx
   have HX := mkHid hx
   clear hq hbel hx
   have i0 : (0 : Int) ≤ (k : Int) := by omega
   have i1 : (k : Int) < (V.length : Int) := by omega
   go_wp2_with fail
   refine (iVok_any x.1 x.2.1 x.2.2 _).mono ?_
   rintro e w1 ⟨rfl, hb⟩
   have HB1 := mkHid (below_step (bl_alloc HB.out (.cells #[.int .i64 x.1, .int .i64 x.2.1, .bool x.2.2] 55)) hb)
   clear hb c0 c1 c2
   cases hso : okB x.1 x.2.1
   ·have HNO : Hid (¬ ValsP V) := mkHid fun h => Bool.false_ne_true (hso.symm.trans (h.ok x (List.mem_of_getElem? HX.out)))
    go_wp2
    go_ret
    exact Tells.no HB1.out HNO.out
   ·have HNX : Hid (∀ q (x : VV), q < k + 1 → V[q]? = some x → okB x.1 x.2.1 = true) := mkHid fun q y hq hy => (by omega : q < k ∨ q = k).elim (fun h => HS.out q y h hy) (fun h => by subst h; rw [HX.out] at hy; cases hy; exact hso)
    go_wp2
    go_roundg (V.length - (k + 1))
    case measure => omega
    case rel => exact ⟨k + 1, by omega, by go_num, Nat.le_refl _, HNX.out, HB1.out⟩
  ·have HSA : Hid (ValsP V) := mkHid ⟨fun p hp => by obtain ⟨q, hq, rfl⟩ := List.getElem_of_mem hp; exact HS.out q _ (by omega) (List.getElem?_eq_getElem hq)⟩
   have i1 : ¬ (k : Int) < (V.length : Int) := by omega
   clear hbel
   go_wp2
   go_ret
   exact Tells.yes HB.out HSA.out
end Go.Proofs.YtihpajiololfoaaGreat
