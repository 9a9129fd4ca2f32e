/-
  CONTRACTS of setOf at terms and of termsOf: the set of all terms of some rows, of our own.
-/
import Derived.Test.YtbfmljogfljhdaaGreatCf
import Derived.Test.YtbfmljogfljhdaaGreatCo
import Derived.Test.YtbfmljogfljhdaaGreatMm
import Derived.Laws.EntriesVeiled
namespace Go.Proofs.YtbfmljogfljhdaaGreat
open Go.RowKit

theorem sort_none (p : Option Addr) (cap : Nat) (w : World) : Calls Tryz.prog 124 #[.slice p 0 cap, .func (.func 101) #[] #[]] w fun e w' => e = .returned (.tuple #[]) ∧ w' = w := AnyF.slices_SortFunc_none Tryz.sortY p cap _ w
set_option maxRecDepth 100000 in
theorem compact_none (p : Option Addr) (cap : Nat) (f : Value) (w : World) : Calls Tryz.prog 126 #[.slice p 0 cap, f] w fun e w' => e = .returned (.slice p 0 cap) ∧ w' = w := by
  go_enter Tryz.func126, Tryz.ntmps126
  go_wp2
  go_ret
  exact ⟨rfl, rfl⟩
/-- slices.SortFunc and CompactFunc at whatever row of our own. -/
theorem sort_any (l : List Y) (ao : Option Addr) (cap base : Nat) (w : World) (hn : l.length ≤ 1048576) (ho : Own eY 39 w base (.slice ao l.length cap) l) :
    Calls Tryz.prog 124 #[.slice ao l.length cap, .func (.func 101) #[] #[]] w fun e w' => e = .returned (.tuple #[]) ∧ ∃ l' : List Y, l'.Perm l ∧ l'.length = l.length ∧ l'.Pairwise (fun a b => ¬ LtY b a) ∧ Own eY 39 w' base (.slice ao l.length cap) l' ∧ w.grownBy w' (Value.ownBlock (.slice ao l.length cap)) := by
  rcases ho.2 with ⟨e, h⟩ | ⟨g, cap', cur, e, _⟩
  · have hl := List.length_eq_zero_iff.1 h
    subst hl
    refine (sort_none ao cap w).mono ?_
    rintro e w' ⟨rfl, rfl⟩
    exact ⟨rfl, [], List.Perm.refl _, rfl, List.Pairwise.nil, ho, World.grownBy.refl _ _⟩
  · simp at e
    obtain ⟨rfl, rfl⟩ := e
    refine (sort_own l g cap base w hn ho).mono ?_
    rintro e w' ⟨rfl, l', h1, h2, h3, h4⟩
    exact ⟨rfl, l', h1, h1.length_eq, h2, h3, h4⟩
theorem compact_any (l : List Y) (ao : Option Addr) (cap base bx : Nat) (w : World) (hn : l.length ≤ 1048576) (hs : l.Pairwise fun a b => ¬ LtY b a) (ho : Own eY 39 w base (.slice ao l.length cap) l)
    (hbx : w.cell? ⟨bx, 0, none⟩ = some (.func (.func 101) #[] #[])) (hbg : bx < base) :
    Calls Tryz.prog 126 #[.slice ao l.length cap, .func (.func 125) #[] #[.pointer (some ⟨bx, 0, none⟩)]] w fun e w' => w.grownBy w' (Value.ownBlock (.slice ao l.length cap)) ∧ ∃ (m : List Y), e = .returned (.slice ao m.length cap) ∧ IsSet m l ∧ Own eY 39 w' base (.slice ao m.length cap) m := by
  rcases ho.2 with ⟨e, h⟩ | ⟨g, cap', cur, e, hb, _, h1, h2, _⟩
  · have hl := List.length_eq_zero_iff.1 h
    subst hl
    refine (compact_none ao cap _ w).mono ?_
    rintro e w' ⟨rfl, rfl⟩
    exact ⟨World.grownBy.refl _ _, [], rfl, IsSet.nil, ho⟩
  · simp at e
    obtain ⟨rfl, rfl⟩ := e
    exact compact_own l g cap base bx w hn hs ho h1 h2 hbx (by omega)
theorem IsSet.perm {m l l' : List Y} (h : IsSet m l') (hp : l'.Perm l) : IsSet m l := ⟨h.asc, fun p => (h.mem p).trans hp.mem_iff⟩
set_option maxRecDepth 100000 in
set_option maxHeartbeats 3200000 in
theorem setOf_any (L : List (List Y)) (a : Option Addr) (c : Nat) (w : World) (hn : L.length ≤ 1048576) (ht : L.flatten.length ≤ 1048576) (hl : BndsAt w a L) :
    Calls Tryz.prog 100 #[.func (.func 101) #[] #[], .slice a L.length c] w fun e w' => Below w.heap.size w w' ∧ ∃ (m : List Y) (ao : Option Addr) (cap : Nat), e = .returned (.agg #[.slice ao m.length cap, .func (.func 101) #[] #[]]) ∧ IsSet m L.flatten ∧ Own eY 39 w' w.heap.size (.slice ao m.length cap) m := by
  obtain ⟨w0, hw0⟩ : ∃ x : World, (w.alloc (.cells #[.func (.func 101) #[] #[]] 87)).alloc (.cells #[.slice none 0 0, .nilFunc] 89) = x := ⟨_, rfl⟩
  obtain ⟨X, hX⟩ : ∃ x, w.heap.size = x := ⟨_, rfl⟩
  have HX := mkHid hX
  have HB : Hid (Below X w w0) := mkHid (by rw [← hw0, ← hX]; exact bl_alloc (bl_alloc (Below.refl _ _) _) _)
  have q0 : w0.cell? ⟨X, 0, none⟩ = some (.func (.func 101) #[] #[]) := by rw [← hw0, ← hX]; simp [go_sem]
  have r0 : w0.cell? ⟨X + 1, 0, none⟩ = some (.slice none 0 0) := by rw [← hw0, ← hX]; simp [go_sem]
  have r1 : w0.cell? ⟨X + 1, 1, none⟩ = some .nilFunc := by rw [← hw0, ← hX]; simp [go_sem]
  have t0 : w0.frozen? ⟨X + 1, 0, none⟩ = false := by rw [← hw0, ← hX]; simp [go_sem]
  have t1 : w0.frozen? ⟨X + 1, 1, none⟩ = false := by rw [← hw0, ← hX]; simp [go_sem]
  have HS0 : Hid (w0.heap.size = X + 2) := mkHid (by rw [← hw0, ← hX]; simp)
  have HC : Hid (w0.cell? ⟨X, 0, none⟩ = some (.func (.func 101) #[] #[]) ∧ w0.cell? ⟨X + 1, 0, none⟩ = some (.slice none 0 0) ∧ w0.cell? ⟨X + 1, 1, none⟩ = some .nilFunc ∧ w0.frozen? ⟨X + 1, 0, none⟩ = false ∧ w0.frozen? ⟨X + 1, 1, none⟩ = false) := mkHid ⟨q0, r0, r1, t0, t1⟩
  have HL := mkHid (hl.below (by rw [hX]; exact HB.out))
  clear hl q0 r0 r1 t0 t1
  go_enter Tryz.func100, Tryz.ntmps100
  go_wp2_with fail
  clear hw0 hX
  refine (concat_any L a c _ hn ht HL.out).mono ?_
  rintro e w1 ⟨hb, ao, cap, rfl, ho⟩
  obtain ⟨F, hF⟩ : ∃ F, L.flatten = F := ⟨_, rfl⟩
  rw [hF] at ho ht ⊢
  have HF := mkHid hF
  have HO := mkHid ho
  have HB1 : Hid (Below X w w1) := mkHid (HB.out.trans (hb.mono (by have := HS0.out; omega)))
  have HSZ : Hid (X + 2 ≤ w1.heap.size) := mkHid (by have := hb.size; have := HS0.out; omega)
  have HC1 : Hid (w1.cell? ⟨X, 0, none⟩ = some (.func (.func 101) #[] #[]) ∧ w1.cell? ⟨X + 1, 0, none⟩ = some (.slice none 0 0) ∧ w1.cell? ⟨X + 1, 1, none⟩ = some .nilFunc ∧ w1.frozen? ⟨X + 1, 0, none⟩ = false ∧ w1.frozen? ⟨X + 1, 1, none⟩ = false) := mkHid (by
    obtain ⟨hc, hf⟩ := bcell hb
    have h1 : X < w0.heap.size := by have := HS0.out; omega
    have h2 : X + 1 < w0.heap.size := by have := HS0.out; omega
    exact ⟨(hc _ _ h1).trans HC.out.1, (hc _ _ h2).trans HC.out.2.1, (hc _ _ h2).trans HC.out.2.2.1, (hf _ _ h2).trans HC.out.2.2.2.1, (hf _ _ h2).trans HC.out.2.2.2.2⟩)
  clear hb ho hF HC HL HB
  have q0 := HC1.out.1
  go_wp2_with fail
  clear q0
  refine (sort_any F ao cap _ _ ht HO.out).mono ?_
  rintro e w2 ⟨rfl, l', hperm, hlen, hsort, ho, hg⟩
  have far : ∀ {wa wb : World} {k : Nat} {v : Value} {ls : List Y}, Own eY 39 wa w0.heap.size v ls → wa.grownBy wb v.ownBlock → k < X + 2 → k < wa.heap.size → wb.heap[k]? = wa.heap[k]? := fun {wa wb k v ls} h1 h2 h3 h4 => h2.block k h4 fun e => by have := (h1.lt e.symm).1; have := HS0.out; omega
  have HC2 : Hid (w2.cell? ⟨X, 0, none⟩ = some (.func (.func 101) #[] #[]) ∧ w2.cell? ⟨X + 1, 0, none⟩ = some (.slice none 0 0) ∧ w2.cell? ⟨X + 1, 1, none⟩ = some .nilFunc ∧ w2.frozen? ⟨X + 1, 0, none⟩ = false ∧ w2.frozen? ⟨X + 1, 1, none⟩ = false) := mkHid (by
    have e1 := far (k := X) HO.out hg (by omega) (by have := HSZ.out; omega)
    have e2 := far (k := X + 1) HO.out hg (by omega) (by have := HSZ.out; omega)
    exact ⟨(World.cell?_of_block (a := ⟨X, 0, none⟩) e1).trans HC1.out.1, (World.cell?_of_block (a := ⟨X + 1, 0, none⟩) e2).trans HC1.out.2.1, (World.cell?_of_block (a := ⟨X + 1, 1, none⟩) e2).trans HC1.out.2.2.1, (World.frozen?_of_block (a := ⟨X + 1, 0, none⟩) e2).trans HC1.out.2.2.2.1, (World.frozen?_of_block (a := ⟨X + 1, 1, none⟩) e2).trans HC1.out.2.2.2.2⟩)
  have HB2 : Hid (Below X w w2) := mkHid (HB1.out.grown hg (by have := HSZ.out; omega) (fun k hk => by have := (HO.out.lt hk).1; have := HS0.out; omega))
  have HSZ2 : Hid (X + 2 ≤ w2.heap.size) := mkHid (by have := hg.size; have := HSZ.out; omega)
  have HP := mkHid hperm
  have HSO := mkHid hsort
  have HO2 := mkHid ho
  have HLE := mkHid hlen
  clear hperm hsort ho hg hlen HC1 HB1 HSZ HO far
  obtain ⟨q0, r0, r1, t0, t1⟩ := HC2.out
  have hxl : X < w2.heap.size := by have := HSZ2.out; omega
  have HCO : Hid (Calls Tryz.prog 126 #[.slice ao F.length cap, .func (.func 125) #[] #[.pointer (some ⟨X, 0, none⟩)]] w2.drew fun e w' => w2.drew.grownBy w' (Value.ownBlock (.slice ao F.length cap)) ∧ ∃ (m : List Y), e = .returned (.slice ao m.length cap) ∧ IsSet m l' ∧ Own eY 39 w' w0.heap.size (.slice ao m.length cap) m) := mkHid (by
    have h := compact_any l' ao cap w0.heap.size X w2.drew (by rw [HLE.out]; exact ht) HSO.out (by rw [HLE.out]; exact HO2.out) HC2.out.1 (by have := HS0.out; omega)
    rw [HLE.out] at h
    exact h)
  have hkeep : ∀ (v : World), w2.drew.grownBy v (Value.ownBlock (.slice ao F.length cap)) → v.cell? ⟨X, 0, none⟩ = some (.func (.func 101) #[] #[]) ∧ v.cell? ⟨X + 1, 0, none⟩ = some (.slice none 0 0) ∧ v.cell? ⟨X + 1, 1, none⟩ = some .nilFunc ∧ v.frozen? ⟨X + 1, 0, none⟩ = false ∧ v.frozen? ⟨X + 1, 1, none⟩ = false := fun v hg => by
    have e1 : v.heap[X]? = w2.heap[X]? := hg.block X (by show X < w2.heap.size; have := HSZ2.out; omega) fun e => by have := (HO2.out.lt e.symm).1; have := HS0.out; omega
    have e2 : v.heap[X + 1]? = w2.heap[X + 1]? := hg.block (X + 1) (by show X + 1 < w2.heap.size; have := HSZ2.out; omega) fun e => by have := (HO2.out.lt e.symm).1; have := HS0.out; omega
    exact ⟨(World.cell?_of_block (a := ⟨X, 0, none⟩) e1).trans HC2.out.1, (World.cell?_of_block (a := ⟨X + 1, 0, none⟩) e2).trans HC2.out.2.1, (World.cell?_of_block (a := ⟨X + 1, 1, none⟩) e2).trans HC2.out.2.2.1, (World.frozen?_of_block (a := ⟨X + 1, 0, none⟩) e2).trans HC2.out.2.2.2.1, (World.frozen?_of_block (a := ⟨X + 1, 1, none⟩) e2).trans HC2.out.2.2.2.2⟩
  have HKP := mkHid hkeep
  clear hkeep
  have HBg : Hid (∀ (v : World), w2.drew.grownBy v (Value.ownBlock (.slice ao F.length cap)) → Below X w v) := mkHid fun v hg => HB2.out.drew.grown hg (by have := HSZ2.out; show X ≤ w2.heap.size; omega) (fun k hk => by have := (HO2.out.lt hk).1; have := HS0.out; omega)
  go_wp2_with fail
  go_region_held3 (fun w' => w'.cell? ⟨X, 0, none⟩ = some (.func (.func 101) #[] #[])) (first | exact q0 | exact hq2 | (simp [go_sem, hq2]; done))
    (first | (go_at_call 126; refine HCO.out.mono ?_; rintro e w3 ⟨hg, m, rfl, hset, hown⟩; obtain ⟨hq2, hr0, hr1, ht0, ht1⟩ := HKP.out _ hg))
  have HSE : Hid (IsSet m L.flatten) := mkHid (by rw [HF.out]; exact hset.perm HP.out)
  have HOW : Hid (Own eY 39 ((w3.setCell ⟨X + 1, 0, none⟩ (.slice ao m.length cap)).setCell ⟨X + 1, 1, none⟩ (.func (.func 101) #[] #[])) X (.slice ao m.length cap) m) := mkHid (by
    have h1 := (hown.outs (fun q hq => (hown.lt hq).2) (outs_set w3 (X + 1) 0 (.slice ao m.length cap)) (.inr (by have := HS0.out; omega)))
    exact (h1.outs (fun q hq => (h1.lt hq).2) (outs_set _ (X + 1) 1 (.func (.func 101) #[] #[])) (.inr (by have := HS0.out; omega))).mono (by have := HS0.out; omega))
  have HBF := mkHid (((HBg.out _ hg).setCell (p := ⟨X + 1, 0, none⟩) (by show X ≤ X + 1; omega) (.slice ao m.length cap)).setCell (p := ⟨X + 1, 1, none⟩) (by show X ≤ X + 1; omega) (.func (.func 101) #[] #[]))
  have hx1 : X + 1 < w3.heap.size := World.block_lt_of_cell? w3 _ hr0
  clear hset hown hg
  go_wp2
  refine bodyPost_ret (v := .agg #[.slice ao m.length cap, .func (.func 101) #[] #[]]) (by simp [results, Tryz.results100, go_sem, *]) rfl ⟨?_, m, ao, cap, rfl, HSE.out, ?_⟩
  · rw [HX.out]; exact HBF.out
  · rw [HX.out]; exact HOW.out
set_option maxRecDepth 100000 in
set_option maxHeartbeats 1600000 in
theorem termsOf_any (L : List (List Y)) (a : Option Addr) (c : Nat) (w : World) (hn : L.length ≤ 1048576) (ht : L.flatten.length ≤ 1048576) (hl : BndsAt w a L) :
    Calls Tryz.prog 44 #[.slice a L.length c] w fun e w' => Below w.heap.size w w' ∧ ∃ (m : List Y) (ao : Option Addr) (cap : Nat), e = .returned (.agg #[.slice ao m.length cap, .func (.func 101) #[] #[]]) ∧ IsSet m L.flatten ∧ Own eY 39 w' w.heap.size (.slice ao m.length cap) m := by
  obtain ⟨w0, hw0⟩ : ∃ x : World, w.alloc (.cells #[.slice none 0 0, .nilFunc] 89) = x := ⟨_, rfl⟩
  obtain ⟨X, hX⟩ : ∃ x, w.heap.size = x := ⟨_, rfl⟩
  have HX := mkHid hX
  have HB : Hid (Below X w w0) := mkHid (by rw [← hw0, ← hX]; exact bl_alloc (Below.refl _ _) _)
  have r0 : w0.cell? ⟨X, 0, none⟩ = some (.slice none 0 0) := by rw [← hw0, ← hX]; simp [go_sem]
  have r1 : w0.cell? ⟨X, 1, none⟩ = some .nilFunc := by rw [← hw0, ← hX]; simp [go_sem]
  have t0 : w0.frozen? ⟨X, 0, none⟩ = false := by rw [← hw0, ← hX]; simp [go_sem]
  have t1 : w0.frozen? ⟨X, 1, none⟩ = false := by rw [← hw0, ← hX]; simp [go_sem]
  have HS0 : Hid (w0.heap.size = X + 1) := mkHid (by rw [← hw0, ← hX]; simp)
  have HC : Hid (w0.cell? ⟨X, 0, none⟩ = some (.slice none 0 0) ∧ w0.cell? ⟨X, 1, none⟩ = some .nilFunc ∧ w0.frozen? ⟨X, 0, none⟩ = false ∧ w0.frozen? ⟨X, 1, none⟩ = false) := mkHid ⟨r0, r1, t0, t1⟩
  have HL := mkHid (hl.below (by rw [hX]; exact HB.out))
  clear hl r0 r1 t0 t1
  go_enter Tryz.func44, Tryz.ntmps44
  go_wp2_with fail
  clear hw0 hX
  refine (setOf_any L a c _ hn ht HL.out).mono ?_
  rintro e w1 ⟨hb, m, ao, cap, rfl, hset, ho⟩
  have HB1 : Hid (Below X w w1) := mkHid (HB.out.trans (hb.mono (by have := HS0.out; omega)))
  obtain ⟨r0, r1, t0, t1⟩ : w1.cell? ⟨X, 0, none⟩ = some (.slice none 0 0) ∧ w1.cell? ⟨X, 1, none⟩ = some .nilFunc ∧ w1.frozen? ⟨X, 0, none⟩ = false ∧ w1.frozen? ⟨X, 1, none⟩ = false := by
    obtain ⟨hc, hf⟩ := bcell hb
    have h1 : X < w0.heap.size := by have := HS0.out; omega
    exact ⟨(hc _ _ h1).trans HC.out.1, (hc _ _ h1).trans HC.out.2.1, (hf _ _ h1).trans HC.out.2.2.1, (hf _ _ h1).trans HC.out.2.2.2⟩
  have HSE := mkHid hset
  have HOW : Hid (Own eY 39 ((w1.setCell ⟨X, 0, none⟩ (.slice ao m.length cap)).setCell ⟨X, 1, none⟩ (.func (.func 101) #[] #[])) X (.slice ao m.length cap) m) := mkHid (by
    have h1 := (ho.outs (fun q hq => (ho.lt hq).2) (outs_set w1 X 0 (.slice ao m.length cap)) (.inr (by have := HS0.out; omega)))
    exact (h1.outs (fun q hq => (h1.lt hq).2) (outs_set _ X 1 (.func (.func 101) #[] #[])) (.inr (by have := HS0.out; omega))).mono (by have := HS0.out; omega))
  have HBF := mkHid ((HB1.out.setCell (p := ⟨X, 0, none⟩) (Nat.le_refl _) (.slice ao m.length cap)).setCell (p := ⟨X, 1, none⟩) (Nat.le_refl _) (.func (.func 101) #[] #[]))
  have hx1 : X < w1.heap.size := World.block_lt_of_cell? w1 _ r0
  clear hset ho hb
  go_wp2
  refine bodyPost_ret (v := .agg #[.slice ao m.length cap, .func (.func 101) #[] #[]]) (by simp [results, Tryz.results44, go_sem, *]) rfl ⟨?_, m, ao, cap, rfl, HSE.out, ?_⟩
  · rw [HX.out]; exact HBF.out
  · rw [HX.out]; exact HOW.out
end Go.Proofs.YtbfmljogfljhdaaGreat
