/-
  CONTRACTS of setOf at terms and of termsOf: the set of all terms of some rows, of our own.
  CONTRACTS of finding a term: l10Find, l10In, slices.Index, Contains, Equal.
-/
import Derived.Test.YtihpajiololfoaaGreatCb12
import Derived.Test.YtihpajiololfoaaGreatCb04
import Derived.Laws.EntriesVeiled
namespace Go.Proofs.YtihpajiololfoaaGreat
open Go.RowKit

theorem sort_none (p : Option Addr) (cap : Nat) (w : World) : Calls Tryz.prog 153 #[.slice p 0 cap, .func (.func 132) #[] #[]] w fun e w' => e = .returned (.tuple #[]) ∧ w' = w := AnyF.slices_SortFunc_none Tryz.sortY p cap _ w
set_option maxRecDepth 100000 in
theorem compact_none (p : Option Addr) (cap : Nat) (f : Value) (w : World) : Calls Tryz.prog 155 #[.slice p 0 cap, f] w fun e w' => e = .returned (.slice p 0 cap) ∧ w' = w := by
 go_enter Tryz.func155, Tryz.ntmps155
 go_wp2
 go_ret
 exact ⟨rfl, rfl⟩
/-- slices.SortFunc and CompactFunc at whatever row of our own. -/
theorem sort_any (l : List Y) (ao : Option Addr) (cap base : Nat) (w : World) (hn : l.length ≤ 1048576) (ho : Own eY 49 w base (.slice ao l.length cap) l) :
  Calls Tryz.prog 153 #[.slice ao l.length cap, .func (.func 132) #[] #[]] w fun e w' => e = .returned (.tuple #[]) ∧ ∃ l' : List Y, l'.Perm l ∧ l'.length = l.length ∧ l'.Pairwise (fun a b => ¬ LtY b a) ∧ Own eY 49 w' base (.slice ao l.length cap) l' ∧ w.grownBy w' (Value.ownBlock (.slice ao l.length cap)) := by
 rcases ho.2 with ⟨e, h⟩ | ⟨g, cap', cur, e, _⟩
 ·have hl := List.length_eq_zero_iff.1 h
  subst hl
  refine (sort_none ao cap w).mono ?_
  rintro e w' ⟨rfl, rfl⟩
  exact ⟨rfl, [], List.Perm.refl _, rfl, List.Pairwise.nil, ho, World.grownBy.refl _ _⟩
 ·simp at e
  obtain ⟨rfl, rfl⟩ := e
  refine (sort_own l g cap base w hn ho).mono ?_
  rintro e w' ⟨rfl, l', h1, h2, h3, h4⟩
  exact ⟨rfl, l', h1, h1.length_eq, h2, h3, h4⟩
theorem compact_any (l : List Y) (ao : Option Addr) (cap base bx : Nat) (w : World) (hn : l.length ≤ 1048576) (hs : l.Pairwise fun a b => ¬ LtY b a) (ho : Own eY 49 w base (.slice ao l.length cap) l)
  (hbx : w.cell? ⟨bx, 0, none⟩ = some (.func (.func 132) #[] #[])) (hbg : bx < base) :
  Calls Tryz.prog 155 #[.slice ao l.length cap, .func (.func 154) #[] #[.pointer (some ⟨bx, 0, none⟩)]] w fun e w' => w.grownBy w' (Value.ownBlock (.slice ao l.length cap)) ∧ ∃ (m : List Y), e = .returned (.slice ao m.length cap) ∧ IsSet m l ∧ Own eY 49 w' base (.slice ao m.length cap) m := by
 rcases ho.2 with ⟨e, h⟩ | ⟨g, cap', cur, e, hb, _, h1, h2, _⟩
 ·have hl := List.length_eq_zero_iff.1 h
  subst hl
  refine (compact_none ao cap _ w).mono ?_
  rintro e w' ⟨rfl, rfl⟩
  exact ⟨World.grownBy.refl _ _, [], rfl, IsSet.nil, ho⟩
 ·simp at e
  obtain ⟨rfl, rfl⟩ := e
  exact compact_own l g cap base bx w hn hs ho h1 h2 hbx (by omega)
theorem IsSet.perm {m l l' : List Y} (h : IsSet m l') (hp : l'.Perm l) : IsSet m l := ⟨h.asc, fun p => (h.mem p).trans hp.mem_iff⟩
set_option maxRecDepth 100000 in
set_option maxHeartbeats 3200000 in
theorem setOf_any (L : List (List Y)) (a : Option Addr) (c : Nat) (w : World) (hn : L.length ≤ 1048576) (ht : L.flatten.length ≤ 1048576) (hl : BndsAt w a L) :
  Calls Tryz.prog 131 #[.func (.func 132) #[] #[], .slice a L.length c] w fun e w' => Below w.heap.size w w' ∧ ∃ (m : List Y) (ao : Option Addr) (cap : Nat), e = .returned (.agg #[.slice ao m.length cap, .func (.func 132) #[] #[]]) ∧ IsSet m L.flatten ∧ Own eY 49 w' w.heap.size (.slice ao m.length cap) m := by
 obtain ⟨w0, hw0⟩ : ∃ x : World, (w.alloc (.cells #[.func (.func 132) #[] #[]] 125)).alloc (.cells #[.slice none 0 0, .nilFunc] 127) = x := ⟨_, rfl⟩
 obtain ⟨X, hX⟩ : ∃ x, w.heap.size = x := ⟨_, rfl⟩
 have HX := mkHid hX
 have HB : Hid (Below X w w0) := mkHid (by rw [← hw0, ← hX]; exact bl_alloc (bl_alloc (Below.refl _ _) _) _)
 have q0 : w0.cell? ⟨X, 0, none⟩ = some (.func (.func 132) #[] #[]) := by rw [← hw0, ← hX]; simp [go_sem]
 have r0 : w0.cell? ⟨X + 1, 0, none⟩ = some (.slice none 0 0) := by rw [← hw0, ← hX]; simp [go_sem]
 have r1 : w0.cell? ⟨X + 1, 1, none⟩ = some .nilFunc := by rw [← hw0, ← hX]; simp [go_sem]
 have t0 : w0.frozen? ⟨X + 1, 0, none⟩ = false := by rw [← hw0, ← hX]; simp [go_sem]
 have t1 : w0.frozen? ⟨X + 1, 1, none⟩ = false := by rw [← hw0, ← hX]; simp [go_sem]
 have HS0 : Hid (w0.heap.size = X + 2) := mkHid (by rw [← hw0, ← hX]; simp)
 have HC : Hid (w0.cell? ⟨X, 0, none⟩ = some (.func (.func 132) #[] #[]) ∧ w0.cell? ⟨X + 1, 0, none⟩ = some (.slice none 0 0) ∧ w0.cell? ⟨X + 1, 1, none⟩ = some .nilFunc ∧ w0.frozen? ⟨X + 1, 0, none⟩ = false ∧ w0.frozen? ⟨X + 1, 1, none⟩ = false) := mkHid ⟨q0, r0, r1, t0, t1⟩
 have HL := mkHid (hl.below (by rw [hX]; exact HB.out))
 clear hl q0 r0 r1 t0 t1
 go_enter Tryz.func131, Tryz.ntmps131
 go_wp2_with fail
 clear hw0 hX
 refine (concat_any L a c _ hn ht HL.out).mono ?_
 rintro e w1 ⟨hb, ao, cap, rfl, ho⟩
 obtain ⟨F, hF⟩ : ∃ F, L.flatten = F := ⟨_, rfl⟩
 rw [hF] at ho ht ⊢
 have HF := mkHid hF
 have HO := mkHid ho
 have HB1 : Hid (Below X w w1) := mkHid (HB.out.trans (hb.mono (by have := HS0.out; omega)))
 have HSZ : Hid (X + 2 ≤ w1.heap.size) := mkHid (by have := hb.size; have := HS0.out; omega)
 have HC1 : Hid (w1.cell? ⟨X, 0, none⟩ = some (.func (.func 132) #[] #[]) ∧ w1.cell? ⟨X + 1, 0, none⟩ = some (.slice none 0 0) ∧ w1.cell? ⟨X + 1, 1, none⟩ = some .nilFunc ∧ w1.frozen? ⟨X + 1, 0, none⟩ = false ∧ w1.frozen? ⟨X + 1, 1, none⟩ = false) := mkHid (by
  obtain ⟨hc, hf⟩ := bcell hb
  have h1 : X < w0.heap.size := by have := HS0.out; omega
  have h2 : X + 1 < w0.heap.size := by have := HS0.out; omega
  exact ⟨(hc _ _ h1).trans HC.out.1, (hc _ _ h2).trans HC.out.2.1, (hc _ _ h2).trans HC.out.2.2.1, (hf _ _ h2).trans HC.out.2.2.2.1, (hf _ _ h2).trans HC.out.2.2.2.2⟩)
 clear hb ho hF HC HL HB
 have q0 := HC1.out.1
 go_wp2_with fail
 clear q0
 refine (sort_any F ao cap _ _ ht HO.out).mono ?_
 rintro e w2 ⟨rfl, l', hperm, hlen, hsort, ho, hg⟩
 have far : ∀ {wa wb : World} {k : Nat} {v : Value} {ls : List Y}, Own eY 49 wa w0.heap.size v ls → wa.grownBy wb v.ownBlock → k < X + 2 → k < wa.heap.size → wb.heap[k]? = wa.heap[k]? := fun {wa wb k v ls} h1 h2 h3 h4 => h2.block k h4 fun e => by have := (h1.lt e.symm).1; have := HS0.out; omega
 have HC2 : Hid (w2.cell? ⟨X, 0, none⟩ = some (.func (.func 132) #[] #[]) ∧ w2.cell? ⟨X + 1, 0, none⟩ = some (.slice none 0 0) ∧ w2.cell? ⟨X + 1, 1, none⟩ = some .nilFunc ∧ w2.frozen? ⟨X + 1, 0, none⟩ = false ∧ w2.frozen? ⟨X + 1, 1, none⟩ = false) := mkHid (by
  have e1 := far (k := X) HO.out hg (by omega) (by have := HSZ.out; omega)
  have e2 := far (k := X + 1) HO.out hg (by omega) (by have := HSZ.out; omega)
  exact ⟨(World.cell?_of_block (a := ⟨X, 0, none⟩) e1).trans HC1.out.1, (World.cell?_of_block (a := ⟨X + 1, 0, none⟩) e2).trans HC1.out.2.1, (World.cell?_of_block (a := ⟨X + 1, 1, none⟩) e2).trans HC1.out.2.2.1, (World.frozen?_of_block (a := ⟨X + 1, 0, none⟩) e2).trans HC1.out.2.2.2.1, (World.frozen?_of_block (a := ⟨X + 1, 1, none⟩) e2).trans HC1.out.2.2.2.2⟩)
 have HB2 : Hid (Below X w w2) := mkHid (HB1.out.grown hg (by have := HSZ.out; omega) (fun k hk => by have := (HO.out.lt hk).1; have := HS0.out; omega))
 have HSZ2 : Hid (X + 2 ≤ w2.heap.size) := mkHid (by have := hg.size; have := HSZ.out; omega)
 have HP := mkHid hperm
 have HSO := mkHid hsort
 have HO2 := mkHid ho
 have HLE := mkHid hlen
 clear hperm hsort ho hg hlen HC1 HB1 HSZ HO far
 obtain ⟨q0, r0, r1, t0, t1⟩ := HC2.out
 have hxl : X < w2.heap.size := by have := HSZ2.out; omega
 have HCO : Hid (Calls Tryz.prog 155 #[.slice ao F.length cap, .func (.func 154) #[] #[.pointer (some ⟨X, 0, none⟩)]] w2.drew fun e w' => w2.drew.grownBy w' (Value.ownBlock (.slice ao F.length cap)) ∧ ∃ (m : List Y), e = .returned (.slice ao m.length cap) ∧ IsSet m l' ∧ Own eY 49 w' w0.heap.size (.slice ao m.length cap) m) := mkHid (by
  have h := compact_any l' ao cap w0.heap.size X w2.drew (by rw [HLE.out]; exact ht) HSO.out (by rw [HLE.out]; exact HO2.out) HC2.out.1 (by have := HS0.out; omega)
  rw [HLE.out] at h
  exact h)
 have hkeep : ∀ (v : World), w2.drew.grownBy v (Value.ownBlock (.slice ao F.length cap)) → v.cell? ⟨X, 0, none⟩ = some (.func (.func 132) #[] #[]) ∧ v.cell? ⟨X + 1, 0, none⟩ = some (.slice none 0 0) ∧ v.cell? ⟨X + 1, 1, none⟩ = some .nilFunc ∧ v.frozen? ⟨X + 1, 0, none⟩ = false ∧ v.frozen? ⟨X + 1, 1, none⟩ = false := fun v hg => by
  have e1 : v.heap[X]? = w2.heap[X]? := hg.block X (by show X < w2.heap.size; have := HSZ2.out; omega) fun e => by have := (HO2.out.lt e.symm).1; have := HS0.out; omega
  have e2 : v.heap[X + 1]? = w2.heap[X + 1]? := hg.block (X + 1) (by show X + 1 < w2.heap.size; have := HSZ2.out; omega) fun e => by have := (HO2.out.lt e.symm).1; have := HS0.out; omega
  exact ⟨(World.cell?_of_block (a := ⟨X, 0, none⟩) e1).trans HC2.out.1, (World.cell?_of_block (a := ⟨X + 1, 0, none⟩) e2).trans HC2.out.2.1, (World.cell?_of_block (a := ⟨X + 1, 1, none⟩) e2).trans HC2.out.2.2.1, (World.frozen?_of_block (a := ⟨X + 1, 0, none⟩) e2).trans HC2.out.2.2.2.1, (World.frozen?_of_block (a := ⟨X + 1, 1, none⟩) e2).trans HC2.out.2.2.2.2⟩
 have HKP := mkHid hkeep
 clear hkeep
 have HBg : Hid (∀ (v : World), w2.drew.grownBy v (Value.ownBlock (.slice ao F.length cap)) → Below X w v) := mkHid fun v hg => HB2.out.drew.grown hg (by have := HSZ2.out; show X ≤ w2.heap.size; omega) (fun k hk => by have := (HO2.out.lt hk).1; have := HS0.out; omega)
 go_wp2_with fail
 go_region_held3 (fun w' => w'.cell? ⟨X, 0, none⟩ = some (.func (.func 132) #[] #[])) (first | exact q0 | exact hq2 | (simp [go_sem, hq2]; done))
  (first | (go_at_call 155; refine HCO.out.mono ?_; rintro e w3 ⟨hg, m, rfl, hset, hown⟩; obtain ⟨hq2, hr0, hr1, ht0, ht1⟩ := HKP.out _ hg))
 have HSE : Hid (IsSet m L.flatten) := mkHid (by rw [HF.out]; exact hset.perm HP.out)
 have HOW : Hid (Own eY 49 ((w3.setCell ⟨X + 1, 0, none⟩ (.slice ao m.length cap)).setCell ⟨X + 1, 1, none⟩ (.func (.func 132) #[] #[])) X (.slice ao m.length cap) m) := mkHid (by
  have h1 := (hown.outs (fun q hq => (hown.lt hq).2) (outs_set w3 (X + 1) 0 (.slice ao m.length cap)) (.inr (by have := HS0.out; omega)))
  exact (h1.outs (fun q hq => (h1.lt hq).2) (outs_set _ (X + 1) 1 (.func (.func 132) #[] #[])) (.inr (by have := HS0.out; omega))).mono (by have := HS0.out; omega))
 have HBF := mkHid (((HBg.out _ hg).setCell (p := ⟨X + 1, 0, none⟩) (by show X ≤ X + 1; omega) (.slice ao m.length cap)).setCell (p := ⟨X + 1, 1, none⟩) (by show X ≤ X + 1; omega) (.func (.func 132) #[] #[]))
 have hx1 : X + 1 < w3.heap.size := World.block_lt_of_cell? w3 _ hr0
 clear hset hown hg
 go_wp2
 refine bodyPost_ret (v := .agg #[.slice ao m.length cap, .func (.func 132) #[] #[]]) (by simp [results, Tryz.results131, go_sem, *]) rfl ⟨?_, m, ao, cap, rfl, HSE.out, ?_⟩
 ·rw [HX.out]; exact HBF.out
 ·rw [HX.out]; exact HOW.out
set_option maxRecDepth 100000 in
set_option maxHeartbeats 1600000 in
theorem termsOf_any (L : List (List Y)) (a : Option Addr) (c : Nat) (w : World) (hn : L.length ≤ 1048576) (ht : L.flatten.length ≤ 1048576) (hl : BndsAt w a L) :
  Calls Tryz.prog 89 #[.slice a L.length c] w fun e w' => Below w.heap.size w w' ∧ ∃ (m : List Y) (ao : Option Addr) (cap : Nat), e = .returned (.agg #[.slice ao m.length cap, .func (.func 132) #[] #[]]) ∧ IsSet m L.flatten ∧ Own eY 49 w' w.heap.size (.slice ao m.length cap) m := by
 obtain ⟨w0, hw0⟩ : ∃ x : World, w.alloc (.cells #[.slice none 0 0, .nilFunc] 127) = x := ⟨_, rfl⟩
 obtain ⟨X, hX⟩ : ∃ x, w.heap.size = x := ⟨_, rfl⟩
 have HX := mkHid hX
 have HB : Hid (Below X w w0) := mkHid (by rw [← hw0, ← hX]; exact bl_alloc (Below.refl _ _) _)
 have r0 : w0.cell? ⟨X, 0, none⟩ = some (.slice none 0 0) := by rw [← hw0, ← hX]; simp [go_sem]
 have r1 : w0.cell? ⟨X, 1, none⟩ = some .nilFunc := by rw [← hw0, ← hX]; simp [go_sem]
 have t0 : w0.frozen? ⟨X, 0, none⟩ = false := by rw [← hw0, ← hX]; simp [go_sem]
 have t1 : w0.frozen? ⟨X, 1, none⟩ = false := by rw [← hw0, ← hX]; simp [go_sem]
 have HS0 : Hid (w0.heap.size = X + 1) := mkHid (by rw [← hw0, ← hX]; simp)
 have HC : Hid (w0.cell? ⟨X, 0, none⟩ = some (.slice none 0 0) ∧ w0.cell? ⟨X, 1, none⟩ = some .nilFunc ∧ w0.frozen? ⟨X, 0, none⟩ = false ∧ w0.frozen? ⟨X, 1, none⟩ = false) := mkHid ⟨r0, r1, t0, t1⟩
 have HL := mkHid (hl.below (by rw [hX]; exact HB.out))
 clear hl r0 r1 t0 t1
 go_enter Tryz.func89, Tryz.ntmps89
 go_wp2_with fail
 clear hw0 hX
 refine (setOf_any L a c _ hn ht HL.out).mono ?_
 rintro e w1 ⟨hb, m, ao, cap, rfl, hset, ho⟩
 have HB1 : Hid (Below X w w1) := mkHid (HB.out.trans (hb.mono (by have := HS0.out; omega)))
 obtain ⟨r0, r1, t0, t1⟩ : w1.cell? ⟨X, 0, none⟩ = some (.slice none 0 0) ∧ w1.cell? ⟨X, 1, none⟩ = some .nilFunc ∧ w1.frozen? ⟨X, 0, none⟩ = false ∧ w1.frozen? ⟨X, 1, none⟩ = false := by
  obtain ⟨hc, hf⟩ := bcell hb
  have h1 : X < w0.heap.size := by have := HS0.out; omega
  exact ⟨(hc _ _ h1).trans HC.out.1, (hc _ _ h1).trans HC.out.2.1, (hf _ _ h1).trans HC.out.2.2.1, (hf _ _ h1).trans HC.out.2.2.2⟩
 have HSE := mkHid hset
 have HOW : Hid (Own eY 49 ((w1.setCell ⟨X, 0, none⟩ (.slice ao m.length cap)).setCell ⟨X, 1, none⟩ (.func (.func 132) #[] #[])) X (.slice ao m.length cap) m) := mkHid (by
  have h1 := (ho.outs (fun q hq => (ho.lt hq).2) (outs_set w1 X 0 (.slice ao m.length cap)) (.inr (by have := HS0.out; omega)))
  exact (h1.outs (fun q hq => (h1.lt hq).2) (outs_set _ X 1 (.func (.func 132) #[] #[])) (.inr (by have := HS0.out; omega))).mono (by have := HS0.out; omega))
 have HBF := mkHid ((HB1.out.setCell (p := ⟨X, 0, none⟩) (Nat.le_refl _) (.slice ao m.length cap)).setCell (p := ⟨X, 1, none⟩) (Nat.le_refl _) (.func (.func 132) #[] #[]))
 have hx1 : X < w1.heap.size := World.block_lt_of_cell? w1 _ r0
 clear hset ho hb
 go_wp2
 refine bodyPost_ret (v := .agg #[.slice ao m.length cap, .func (.func 132) #[] #[]]) (by simp [results, Tryz.results89, go_sem, *]) rfl ⟨?_, m, ao, cap, rfl, HSE.out, ?_⟩
 ·rw [HX.out]; exact HBF.out
 ·rw [HX.out]; exact HOW.out
end Go.Proofs.YtihpajiololfoaaGreat
namespace Go.Proofs.YtihpajiololfoaaGreat
open Go.RowKit

theorem eql_sym (w : World) (a b c d : Int) : (Go.binOp .eql 49 (.agg #[.int .i64 a, .int .i64 b]) (.agg #[.int .i64 c, .int .i64 d])).run Tryz.prog w = .ok (.bool (eqB a b c d)) w := by
 have u3 := Tryz.underlying3
 have a3 := Tryz.isAgg3
 have z3 := Tryz.sizeOf3
 have hS : Tryz.prog.underlying 49 = some (.struct (Tryz.prog.fieldsOf 49)) := by kernel_rfl
 have hp : Tryz.prog.stoodInHeld 49 = false := by kernel_rfl
 rw [run_eql_struct, show (10000 : Nat) = 9999 + 1 from rfl, run_equalIn_agg w 9999 49 _ _ hS hp]
 simp only [Program.fieldsOf, Tryz.underlying49]
 go_simp
 unfold eqB
 by_cases h1 : a = c <;> by_cases h2 : b = d <;> simp [h1, h2]
theorem eqB_y (x y : Y) : eqB x.1 x.2 y.1 y.2 = decide (x = y) := by
 unfold eqB
 obtain ⟨a, b⟩ := x
 obtain ⟨c, d⟩ := y
 rw [decide_eq_decide]
 simp
theorem mem_take_succ {l : List Y} {k : Nat} {x t : Y} (hx : l[k]? = some x) (h : t ∉ l.take k) (hn : x ≠ t) : t ∉ l.take (k + 1) := by
 rw [List.take_add_one, hx]
 simp [h]
 exact fun e => hn e.symm
set_option maxRecDepth 100000 in
set_option maxHeartbeats 1600000 in
theorem l10Find_any (l : List Y) (a : Option Addr) (c : Nat) (t : Y) (w : World) (hn : l.length ≤ maxLen) (hl : At eY w a l) :
  Calls Tryz.prog 127 #[.slice a l.length c, .agg #[.int .i64 t.1, .int .i64 t.2]] w fun e w' => Below w.heap.size w w' ∧ ∃ r : Int, e = .returned (.int .i64 r) ∧ (0 ≤ r ↔ t ∈ l) := by
 unfold maxLen at hn
 have hEq := eql_sym
 obtain ⟨w0, hw0⟩ : ∃ x : World, w.alloc (.cells #[.int .i64 t.1, .int .i64 t.2] 49) = x := ⟨_, rfl⟩
 obtain ⟨X, hX⟩ : ∃ x, w.heap.size = x := ⟨_, rfl⟩
 have HX := mkHid hX
 have HB : Hid (Below w.heap.size w w0) := mkHid (by rw [← hw0]; exact bl_alloc (Below.refl _ _) _)
 have P0 : Hid (Box w0 X t.1 t.2) := mkHid (by rw [← hw0, ← hX]; exact Box.new' _ _ _ _)
 have HL := mkHid (hl.below HB.out)
 clear hl
 go_enter Tryz.func127, Tryz.ntmps127
 go_wp2
 clear hw0 hX
 go_loopg [5] l.length (fun g s5 wr => ∃ (k : Nat), k ≤ l.length ∧ s5 = .int .i64 k ∧ l.length - k ≤ g ∧ t ∉ l.take k ∧ Below w0.heap.size w0 wr)
 case atStart => exact ⟨0, Nat.zero_le _, rfl, by omega, by simp, Below.refl _ _⟩
 case round =>
  obtain ⟨k, hk, rfl, hgk, hnot, hbel⟩ := hrel
  have HN := mkHid hnot
  have HB1 := mkHid hbel
  clear hnot
  by_cases hlt : k < l.length
  ·obtain ⟨x, hx⟩ : ∃ x, l[k]? = some x := ⟨_, List.getElem?_eq_getElem hlt⟩
   obtain ⟨b, off, rfl, _, hq⟩ := (HL.out.below hbel).cons (by omega)
   obtain ⟨c0, c1⟩ := get_y hq hx
   obtain ⟨q0, q1, _, _⟩ := P0.out.below hbel
   have HX := mkHid hx
   clear hq hbel hx
   have i0 : (0 : Int) ≤ (k : Int) := by omega
   have i1 : (k : Int) < (l.length : Int) := by omega
   by_cases he : x = t
   ·have he2 : eqB x.1 x.2 t.1 t.2 = true := by rw [eqB_y]; exact decide_eq_true he
    have HE := mkHid he
    clear he
    go_wp2
    go_quiet (fail)
    go_wp2
    go_ret
    refine ⟨below_step HB.out ⟨HB1.out.os, HB1.out.tape, HB1.out.output, HB1.out.size, HB1.out.block⟩, k, rfl, ⟨fun _ => ?_, fun _ => by omega⟩⟩
    rw [← HE.out]
    exact List.mem_of_getElem? HX.out
   ·have he2 : eqB x.1 x.2 t.1 t.2 = false := by rw [eqB_y]; exact decide_eq_false he
    have HE := mkHid (mem_take_succ HX.out HN.out he)
    clear he
    go_wp2
    go_quiet (fail)
    go_wp2
    go_roundg (l.length - (k + 1))
    case measure => omega
    case rel => exact ⟨k + 1, by omega, by go_num, Nat.le_refl _, HE.out, ⟨HB1.out.os, HB1.out.tape, HB1.out.output, HB1.out.size, HB1.out.block⟩⟩
  ·have e : k = l.length := by omega
   subst e
   have hnot := HN.out
   rw [List.take_length] at hnot
   have HN := mkHid hnot
   clear hnot hbel
   go_wp2
   go_ret
   exact ⟨below_step HB.out HB1.out, -1, rfl, ⟨fun h => absurd h (by omega), fun h => absurd h HN.out⟩⟩
set_option maxRecDepth 100000 in
set_option maxHeartbeats 1600000 in
theorem index_any (l : List Y) (a : Option Addr) (c : Nat) (t : Y) (w : World) (hn : l.length ≤ maxLen) (hl : At eY w a l) :
  Calls Tryz.prog 145 #[.slice a l.length c, .agg #[.int .i64 t.1, .int .i64 t.2]] w fun e w' => Below w.heap.size w w' ∧ ∃ r : Int, e = .returned (.int .i64 r) ∧ (0 ≤ r ↔ t ∈ l) := by
 unfold maxLen at hn
 have hEq := eql_sym
 obtain ⟨w0, hw0⟩ : ∃ x : World, w.alloc (.cells #[.int .i64 t.1, .int .i64 t.2] 49) = x := ⟨_, rfl⟩
 obtain ⟨X, hX⟩ : ∃ x, w.heap.size = x := ⟨_, rfl⟩
 have HX := mkHid hX
 have HB : Hid (Below w.heap.size w w0) := mkHid (by rw [← hw0]; exact bl_alloc (Below.refl _ _) _)
 have P0 : Hid (Box w0 X t.1 t.2) := mkHid (by rw [← hw0, ← hX]; exact Box.new' _ _ _ _)
 have HL := mkHid (hl.below HB.out)
 clear hl
 go_enter Tryz.func145, Tryz.ntmps145
 go_wp2
 clear hw0 hX
 go_loopg [8, 5] l.length (fun g s8 s5 wr => ∃ (k : Nat), k ≤ l.length ∧ s8 = .int .i64 k ∧ l.length - k ≤ g ∧ t ∉ l.take k ∧ Below w0.heap.size w0 wr)
 case atStart => exact ⟨0, Nat.zero_le _, rfl, by omega, by simp, Below.refl _ _⟩
 case round =>
  obtain ⟨k, hk, rfl, hgk, hnot, hbel⟩ := hrel
  have HN := mkHid hnot
  have HB1 := mkHid hbel
  clear hnot
  by_cases hlt : k < l.length
  ·obtain ⟨x, hx⟩ : ∃ x, l[k]? = some x := ⟨_, List.getElem?_eq_getElem hlt⟩
   obtain ⟨b, off, rfl, _, hq⟩ := (HL.out.below hbel).cons (by omega)
   obtain ⟨c0, c1⟩ := get_y hq hx
   obtain ⟨q0, q1, _, _⟩ := P0.out.below hbel
   have HX := mkHid hx
   clear hq hbel hx
   have i0 : (0 : Int) ≤ (k : Int) := by omega
   have i1 : (k : Int) < (l.length : Int) := by omega
   by_cases he : x = t
   ·have he2 : eqB t.1 t.2 x.1 x.2 = true := by rw [eqB_y]; exact decide_eq_true he.symm
    have HE := mkHid he
    clear he
    go_wp2
    go_quiet (fail)
    go_wp2
    go_ret
    refine ⟨below_step HB.out ⟨HB1.out.os, HB1.out.tape, HB1.out.output, HB1.out.size, HB1.out.block⟩, k, rfl, ⟨fun _ => ?_, fun _ => by omega⟩⟩
    rw [← HE.out]
    exact List.mem_of_getElem? HX.out
   ·have he2 : eqB t.1 t.2 x.1 x.2 = false := by rw [eqB_y]; exact decide_eq_false (fun e => he e.symm)
    have HE := mkHid (mem_take_succ HX.out HN.out he)
    clear he
    go_wp2
    go_quiet (fail)
    go_wp2
    go_roundg (l.length - (k + 1))
    case measure => omega
    case rel => exact ⟨k + 1, by omega, by go_num, Nat.le_refl _, HE.out, ⟨HB1.out.os, HB1.out.tape, HB1.out.output, HB1.out.size, HB1.out.block⟩⟩
  ·have e : k = l.length := by omega
   subst e
   have hnot := HN.out
   rw [List.take_length] at hnot
   have HN := mkHid hnot
   clear hnot hbel
   go_wp2
   go_ret
   exact ⟨below_step HB.out HB1.out, -1, rfl, ⟨fun h => absurd h (by omega), fun h => absurd h HN.out⟩⟩
set_option maxRecDepth 100000 in
set_option maxHeartbeats 1600000 in
theorem contains_any (l : List Y) (a : Option Addr) (c : Nat) (t : Y) (w : World) (hn : l.length ≤ maxLen) (hl : At eY w a l) :
  Calls Tryz.prog 120 #[.slice a l.length c, .agg #[.int .i64 t.1, .int .i64 t.2]] w fun e w' => e = .returned (.bool (decide (t ∈ l))) ∧ Below w.heap.size w w' := by
 obtain ⟨d, hd⟩ : ∃ d, decide (t ∈ l) = d := ⟨_, rfl⟩
 have HD := mkHid hd
 rw [hd]
 clear hd
 obtain ⟨w0, hw0⟩ : ∃ x : World, w.alloc (.cells #[.int .i64 t.1, .int .i64 t.2] 49) = x := ⟨_, rfl⟩
 obtain ⟨X, hX⟩ : ∃ x, w.heap.size = x := ⟨_, rfl⟩
 have HB : Hid (Below w.heap.size w w0) := mkHid (by rw [← hw0]; exact bl_alloc (Below.refl _ _) _)
 have P0 : Hid (Box w0 X t.1 t.2) := mkHid (by rw [← hw0, ← hX]; exact Box.new' _ _ _ _)
 obtain ⟨q0, q1, _, _⟩ := P0.out
 go_enter Tryz.func120, Tryz.ntmps120
 go_wp2_with fail
 clear hw0 hX q0 q1
 refine (index_any l a c t _ hn (hl.below HB.out)).mono ?_
 rintro e w1 ⟨hb, r, rfl, hr⟩
 have HB1 := mkHid (below_step HB.out hb)
 have HR : Hid (decide (0 ≤ r) = d) := mkHid (by rw [← HD.out]; exact decide_eq_decide.2 hr)
 clear hb hr
 go_wp2
 go_ret
 exact ⟨ret_bool HR.out, HB1.out⟩
theorem neq_sym (w : World) (a b c d : Int) : (Go.binOp .neq 49 (.agg #[.int .i64 a, .int .i64 b]) (.agg #[.int .i64 c, .int .i64 d])).run Tryz.prog w = .ok (.bool (!eqB a b c d)) w := by
 have u3 := Tryz.underlying3
 have a3 := Tryz.isAgg3
 have z3 := Tryz.sizeOf3
 have hS : Tryz.prog.underlying 49 = some (.struct (Tryz.prog.fieldsOf 49)) := by kernel_rfl
 have hp : Tryz.prog.stoodInHeld 49 = false := by kernel_rfl
 rw [run_neq_struct, show (10000 : Nat) = 9999 + 1 from rfl, run_equalIn_agg w 9999 49 _ _ hS hp]
 simp only [Program.fieldsOf, Tryz.underlying49]
 go_simp
 unfold eqB
 by_cases h1 : a = c <;> by_cases h2 : b = d <;> simp [h1, h2]
end Go.Proofs.YtihpajiololfoaaGreat
