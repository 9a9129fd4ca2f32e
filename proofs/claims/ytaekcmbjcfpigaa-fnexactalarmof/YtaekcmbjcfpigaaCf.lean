/-
  CONTRACTS of the law's szConf, toConf, eqConf.
-/
import Derived.Test.YtaekcmbjcfpigaaRc
namespace Go.Proofs.Ytaekcmbjcfpigaa
open Go.RowKit

/-- Eight cells in a block that may be written. -/
structure B8 (w : World) (X : Nat) (v0 v1 v2 v3 v4 v5 v6 v7 : Value) : Prop where
  c0 : w.cell? ⟨X, 0, none⟩ = some v0
  c1 : w.cell? ⟨X, 1, none⟩ = some v1
  c2 : w.cell? ⟨X, 2, none⟩ = some v2
  c3 : w.cell? ⟨X, 3, none⟩ = some v3
  c4 : w.cell? ⟨X, 4, none⟩ = some v4
  c5 : w.cell? ⟨X, 5, none⟩ = some v5
  c6 : w.cell? ⟨X, 6, none⟩ = some v6
  c7 : w.cell? ⟨X, 7, none⟩ = some v7
  f0 : w.frozen? ⟨X, 0, none⟩ = false
  f1 : w.frozen? ⟨X, 1, none⟩ = false
  f2 : w.frozen? ⟨X, 2, none⟩ = false
  f3 : w.frozen? ⟨X, 3, none⟩ = false
  f4 : w.frozen? ⟨X, 4, none⟩ = false
  f5 : w.frozen? ⟨X, 5, none⟩ = false
  f6 : w.frozen? ⟨X, 6, none⟩ = false
  f7 : w.frozen? ⟨X, 7, none⟩ = false
section
variable {w w' : World} {X : Nat} {v0 v1 v2 v3 v4 v5 v6 v7 : Value}
theorem B8.lt (h : B8 w X v0 v1 v2 v3 v4 v5 v6 v7) : X < w.heap.size := World.block_lt_of_cell? w _ h.c0
theorem B8.below (h : B8 w X v0 v1 v2 v3 v4 v5 v6 v7) (hb : Below w.heap.size w w') : B8 w' X v0 v1 v2 v3 v4 v5 v6 v7 :=
  ⟨(hb.cell (p := ⟨X, 0, none⟩) h.lt).trans h.c0, (hb.cell (p := ⟨X, 1, none⟩) h.lt).trans h.c1, (hb.cell (p := ⟨X, 2, none⟩) h.lt).trans h.c2, (hb.cell (p := ⟨X, 3, none⟩) h.lt).trans h.c3, (hb.cell (p := ⟨X, 4, none⟩) h.lt).trans h.c4, (hb.cell (p := ⟨X, 5, none⟩) h.lt).trans h.c5, (hb.cell (p := ⟨X, 6, none⟩) h.lt).trans h.c6, (hb.cell (p := ⟨X, 7, none⟩) h.lt).trans h.c7, (hb.frozen (p := ⟨X, 0, none⟩) h.lt).trans h.f0, (hb.frozen (p := ⟨X, 1, none⟩) h.lt).trans h.f1, (hb.frozen (p := ⟨X, 2, none⟩) h.lt).trans h.f2, (hb.frozen (p := ⟨X, 3, none⟩) h.lt).trans h.f3, (hb.frozen (p := ⟨X, 4, none⟩) h.lt).trans h.f4, (hb.frozen (p := ⟨X, 5, none⟩) h.lt).trans h.f5, (hb.frozen (p := ⟨X, 6, none⟩) h.lt).trans h.f6, (hb.frozen (p := ⟨X, 7, none⟩) h.lt).trans h.f7⟩
theorem B8.new (w : World) (v0 v1 v2 v3 v4 v5 v6 v7 : Value) (T : TypeId) : B8 (w.alloc (.cells #[v0, v1, v2, v3, v4, v5, v6, v7] T)) w.heap.size v0 v1 v2 v3 v4 v5 v6 v7 := by constructor <;> simp [go_sem]
end
theorem set_grown (w : World) (k o : Nat) (u : Value) : w.grownBy (w.setCell ⟨k, o, none⟩ u) (some k) := by
  refine ⟨rfl, rfl, rfl, by simp, fun i hi hne => ?_⟩
  exact heap_setCell_other w ⟨k, o, none⟩ i u (fun e => hne (by rw [e]))
theorem Own.set {α : Type} {E : El α} {T : TypeId} {w : World} {base : Nat} {v : Value} {l : List α} (h : Own E T w base v l) {k : Nat} (hk : k < base) (o : Nat) (u : Value) : Own E T (w.setCell ⟨k, o, none⟩ u) base v l :=
  h.keptBy (set_grown w k o u) fun q hq e => by have := (h.lt hq).1; cases e; omega
theorem OwnCC.set {w : World} {base : Nat} {v : Value} {ls : List (List CC)} (h : OwnCC w base v ls) {k : Nat} (hk : k < base) (o : Nat) (u : Value) : OwnCC (w.setCell ⟨k, o, none⟩ u) base v ls := by
  obtain ⟨vs, h1, h2⟩ := h
  exact ⟨vs, World.ownsRow.kept h1 (set_grown w k o u) (by rcases hv : v.ownBlock with _ | q; exact .inl rfl; refine .inr fun e => ?_; have := (World.ownsRow.lt h1 q hv).1; cases e; omega), h2.1, fun i v l a b => (h2.2.1 i v l a b).set hk o u, h2.2.2⟩
theorem szI_any (a : Option Addr) (n c : Nat) (left : Int) (w : World) (hn : n ≤ maxLen) (h0 : 0 ≤ left) (h1 : left ≤ 1048576) :
    Calls Try.prog 12 #[.slice a n c, .int .i64 left] w fun e w' => e = .returned (.int .i64 (szN left n)) ∧ w = w' := by
  unfold maxLen at hn
  unfold szN
  by_cases h : left - n < 0
  · rw [if_pos h]
    go_enter Try.func12, Try.ntmps12
    go_wp2
    go_ret
    exact ⟨rfl, rfl⟩
  · rw [if_neg h]
    go_enter Try.func12, Try.ntmps12
    go_wp2
    go_ret
    exact ⟨rfl, rfl⟩
set_option maxRecDepth 100000 in
set_option maxHeartbeats 1600000 in
theorem szConf_any (p u s t e x : Int) (l : List Int) (a : Option Addr) (c : Nat) (ls : List (List CC)) (b : Option Addr) (d : Nat) (left : Int) (w : World) (hn : l.length ≤ maxLen) (hm : ls.length ≤ maxLen) (hr : ∀ (i : Nat) (l : List CC), ls[i]? = some l → l.length ≤ maxLen) (h0 : 0 ≤ left) (h1 : left ≤ 1048576) (hl : RowsC w b ls) :
    Calls Try.prog 5 #[.agg #[.int .i64 p, .slice a l.length c, .slice b ls.length d, .int .i64 u, .int .i64 s, .int .i64 t, .int .i64 e, .int .i64 x], .int .i64 left] w fun f w' => Below w.heap.size w w' ∧ ∃ r : Int, f = .returned (.int .i64 r) ∧ (0 ≤ r → l.length ≤ 1048576 ∧ ls.length ≤ 1048576 ∧ tot ls ≤ 1048576) := by
  obtain ⟨w0, hw0⟩ : ∃ z : World, w.alloc (.cells #[.int .i64 p, .slice a l.length c, .slice b ls.length d, .int .i64 u, .int .i64 s, .int .i64 t, .int .i64 e, .int .i64 x] 26) = z := ⟨_, rfl⟩
  have HB : Hid (Below w.heap.size w w0) := mkHid (by rw [← hw0]; exact bl_alloc (Below.refl _ _) _)
  have P : Hid (B8 w0 w.heap.size (.int .i64 p) (.slice a l.length c) (.slice b ls.length d) (.int .i64 u) (.int .i64 s) (.int .i64 t) (.int .i64 e) (.int .i64 x)) := mkHid (by rw [← hw0]; exact B8.new _ _ _ _ _ _ _ _ _ _)
  have HL := mkHid (hl.below HB.out)
  have HM := mkHid hm
  have HR := mkHid hr
  have HN := mkHid hn
  clear hl hm hr hn
  obtain ⟨X, hX⟩ : ∃ z, w.heap.size = z := ⟨_, rfl⟩
  rw [hX] at P
  have q1 := P.out.c1
  have q2 := P.out.c2
  go_enter Try.func5, Try.ntmps5
  go_wp2_with fail
  refine (szI_any a l.length c left _ HN.out h0 h1).mono ?_
  rintro f _ ⟨rfl, rfl⟩
  obtain ⟨r2, hr2⟩ : ∃ z, szN left l.length = z := ⟨_, rfl⟩
  have HQ2 : Hid (¬ r2 < 0 → l.length ≤ 1048576 ∧ 0 ≤ r2 ∧ r2 ≤ 1048576) := mkHid fun h => by unfold szN at hr2; split at hr2 <;> omega
  rw [hr2]
  clear hr2
  by_cases hneg2 : r2 < 0
  · go_wp2
    go_ret
    exact ⟨HB.out, -1, rfl, fun h => absurd h (by omega)⟩
  obtain ⟨_, z2, z3⟩ := HQ2.out hneg2
  go_wp2_with fail
  refine (szCellSS_of ls b d r2 _ HM.out HR.out z2 z3 HL.out).mono ?_
  rintro f _ ⟨rfl, r, rfl, hr⟩
  have HQ3 := mkHid hr
  clear hr
  by_cases hneg : r < 0
  · go_wp2
    go_ret
    exact ⟨HB.out, -1, rfl, fun h => absurd h (by omega)⟩
  go_wp2
  go_ret
  exact ⟨HB.out, r, rfl, fun h => ⟨(HQ2.out hneg2).1, (HQ3.out h).1, (HQ3.out h).2.1⟩⟩
end Go.Proofs.Ytaekcmbjcfpigaa
