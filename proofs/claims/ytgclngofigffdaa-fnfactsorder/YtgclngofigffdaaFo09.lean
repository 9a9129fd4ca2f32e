/-
  CONTRACTS of the drawing of numbers and ranges: number, l06DrawRange: they answer some numbers, and write the cursor's own block alone.
  CONTRACT of the specification's FactsBound.
  CONTRACTS of the law's own pick, big and vals, of once and of l08DrawSym.
  CONTRACT of the law's own vals, and what its numbers are.
  PURE: what is so of numbers stays so behind an assignment, under the facts that the assignment leaves.
-/
import Derived.Test.YtgclngofigffdaaFo08
import Derived.Test.YtgclngofigffdaaFo06
import Derived.Test.YtgclngofigffdaaFo07
import Derived.Deep.AppendLies
namespace Go.Proofs.Ytgclngofigffdaa
open Go.RowKit
attribute [local go_sem] nlt2 nlt3 nlt4 nle2 nle3 nle4 drew_size drew_cell drew_frozen

theorem Cur.lt {w : World} {cb n cap bud : Nat} {a : Option Addr} (h : Cur w cb a n cap bud) : cb < w.heap.size := by
  obtain ⟨x, seed, hh, _⟩ := h
  exact (Array.getElem?_eq_some_iff.1 hh).1
theorem Cur.below {w w' : World} {cb n cap bud : Nat} {a : Option Addr} (h : Cur w cb a n cap bud) (hb : Below w.heap.size w w') : Cur w' cb a n cap bud := by
  have hlt := h.lt
  obtain ⟨x, seed, hh, h1, h2, h3, h4, hby⟩ := h
  refine ⟨x, seed, (hb.block cb hlt).trans hh, h1, h2, h3, h4, ?_⟩
  rcases hby with h | ⟨b, off, e, hbl, hc⟩
  · exact .inl h
  · refine .inr ⟨b, off, e, hbl, fun i hi => ?_⟩
    obtain ⟨z, z0, z1, hz⟩ := hc i hi
    exact ⟨z, z0, z1, (hb.cell (p := ⟨b, off + i, none⟩) (by show b < _; omega)).trans hz⟩
theorem grown_of_below {w w' : World} (hb : Below w.heap.size w w') (r : Option Nat) : w.grownBy w' r := ⟨hb.os, hb.tape, hb.output, hb.size, fun i hi _ => hb.block i hi⟩
theorem below_alloc (w : World) (o : Obj) : Below w.heap.size w (w.alloc o) := (Below.refl _ _).alloc (Nat.le_refl _) o
theorem Cur.alloc {w : World} {cb n cap bud : Nat} {a : Option Addr} (h : Cur w cb a n cap bud) (o : Obj) : Cur (w.alloc o) cb a n cap bud := h.below (below_alloc w o)
theorem grown_cell {w w' : World} {cb b i : Nat} (hg : w.grownBy w' (some cb)) (hb : b < w.heap.size) (hne : b ≠ cb) : w'.cell? ⟨b, i, none⟩ = w.cell? ⟨b, i, none⟩ :=
  World.cell?_of_block (w := w) (hg.block b hb (fun e => hne (Option.some.inj e)))
theorem grown_frozen {w w' : World} {cb b i : Nat} (hg : w.grownBy w' (some cb)) (hb : b < w.heap.size) (hne : b ≠ cb) : w'.frozen? ⟨b, i, none⟩ = w.frozen? ⟨b, i, none⟩ :=
  World.frozen?_of_block (w := w) (hg.block b hb (fun e => hne (Option.some.inj e)))

set_option maxHeartbeats 3200000 in
theorem number_any (cb n cap bud : Nat) (a : Option Addr) (w : World) (hC : Cur w cb a n cap (bud + 2)) :
    Calls Try.prog 79 #[.pointer (some ⟨cb, 0, none⟩)] w fun e w' => ∃ r : Int, e = .returned (.int .i64 r) ∧ -9223372036854775808 ≤ r ∧ r ≤ 9223372036854775807 ∧ Cur w' cb a n cap bud ∧ w.grownBy w' (some cb) := by
  have HC := mkHid hC
  clear hC
  go_enter Try.func79, Try.ntmps79
  go_wp2_with fail
  refine (pick_any 8 cb n cap (bud + 1) a _ (by omega) HC.out).mono ?_
  rintro e w1 ⟨r, rfl, r0, r1, hC1, hG1⟩
  have HC1 := mkHid hC1
  have HG1 := mkHid hG1
  clear hC1 hG1 HC
  by_cases e0 : r = 0
  · subst e0
    go_wp2_with fail
    refine (pick_any 256 cb n cap bud a _ (by omega) HC1.out).mono ?_
    rintro e w2 ⟨q, rfl, q0, q1, hC2, hG2⟩
    have HC2 := mkHid hC2
    have HG2 := mkHid hG2
    clear hC2 hG2 HC1
    have q2 : q ≤ 256 := by omega
    go_wp2
    go_ret
    exact ⟨_, rfl, by omega, by omega, HC2.out, grown_trans HG1.out HG2.out⟩
  · by_cases e1 : r = 1
    · subst e1
      go_wp2_with fail
      refine (pick_any 8 cb n cap bud a _ (by omega) (HC1.out.alloc _)).mono ?_
      rintro e w2 ⟨q, rfl, q0, q1, hC2, hG2⟩
      have HC2 := mkHid hC2
      have HG2 := mkHid hG2
      have hne : w1.heap.size ≠ cb := by have := HC1.out.lt; omega
      have HK : Hid (∀ i, w2.cell? ⟨w1.heap.size, i, none⟩ = (w1.alloc (.cells #[.int .i64 1000000, .int .i64 (-1000000), .int .i64 1000001, .int .i64 (-1000001), .int .i64 2000000, .int .i64 9223372036854775807, .int .i64 (-9223372036854775808), .int .i64 1001] 3)).cell? ⟨w1.heap.size, i, none⟩) := mkHid (fun i => grown_cell hG2 (by simp) hne)
      have HG := mkHid (grown_trans (grown_trans HG1.out (grown_of_below (below_alloc w1 _) (some cb))) HG2.out)
      clear hC2 hG2 HC1 HG1 HG2
      have q2 : q < 8 := by omega
      obtain ⟨m, rfl⟩ : ∃ m : Nat, q = m := ⟨q.toNat, by omega⟩
      have c0 := HK.out m
      have hm : m < 8 := by omega
      clear q1 HK
      rcases (by omega : m = 0 ∨ m = 1 ∨ m = 2 ∨ m = 3 ∨ m = 4 ∨ m = 5 ∨ m = 6 ∨ m = 7) with rfl | rfl | rfl | rfl | rfl | rfl | rfl | rfl
      all_goals
        simp [go_sem] at c0
        go_wp2
        go_ret
        exact ⟨_, rfl, by omega, by omega, HC2.out, HG.out⟩
    · by_cases e2 : r = 2
      · subst e2
        go_wp2_with fail
        refine (pick_any 65000 cb n cap bud a _ (by omega) HC1.out).mono ?_
        rintro e w2 ⟨q, rfl, q0, q1, hC2, hG2⟩
        have HC2 := mkHid hC2
        have HG2 := mkHid hG2
        clear hC2 hG2 HC1
        have q2 : q ≤ 65000 := by omega
        go_wp2
        go_ret
        exact ⟨_, rfl, by omega, by omega, HC2.out, grown_trans HG1.out HG2.out⟩
      · go_wp2_with fail
        refine (pick_any 12 cb n cap bud a _ (by omega) HC1.out).mono ?_
        rintro e w2 ⟨q, rfl, q0, q1, hC2, hG2⟩
        have HC2 := mkHid hC2
        have HG2 := mkHid hG2
        clear hC2 hG2 HC1
        have q2 : q ≤ 12 := by omega
        go_wp2
        go_ret
        exact ⟨_, rfl, by omega, by omega, HC2.out, grown_trans HG1.out HG2.out⟩
end Go.Proofs.Ytgclngofigffdaa
namespace Go.Proofs.Ytgclngofigffdaa
open Go.RowKit

end Go.Proofs.Ytgclngofigffdaa
namespace Go.Proofs.Ytgclngofigffdaa
open Go.RowKit

theorem Bytes.up {w w' : World} {B B' n : Nat} {a : Option Addr} (h : Bytes w B a n) (hB : B ≤ B') (hb : Below B w w') : Bytes w' B' a n := by
  rcases h with h | ⟨b, off, e, hbl, hc⟩
  · exact .inl h
  · refine .inr ⟨b, off, e, by omega, fun i hi => ?_⟩
    obtain ⟨z, z0, z1, hz⟩ := hc i hi
    exact ⟨z, z0, z1, (hb.cell (p := ⟨b, off + i, none⟩) hbl).trans hz⟩
theorem openC_any (n cap : Nat) (a : Option Addr) (w : World) (hn : n ≤ 1048576) (hb : Bytes w w.heap.size a n) :
    Calls Try.prog 35 #[.slice a n cap] w fun e w' => ∃ cb, e = .returned (.pointer (some ⟨cb, 0, none⟩)) ∧ w.heap.size ≤ cb ∧ Cur w' cb a n cap 499999 ∧ Below w.heap.size w w' :=
  (open_any n cap a w hn hb).mono fun _ _ h => ⟨_, h.1, Nat.le_refl _, h.2.1, h.2.2⟩
theorem big_any (n cap : Nat) (a : Option Addr) (w : World) (hn : n ≤ maxLen) : Calls Try.prog 6 #[.slice a n cap] w fun e w' => e = .returned (.bool (decide (1048576 < n))) ∧ w = w' := by
  unfold maxLen at hn
  by_cases h : 1048576 < n
  · have h' : (1048576 : Int) < (n : Int) := by omega
    go_enter Try.func6, Try.ntmps6
    go_wp2
    go_ret
    exact ⟨ret_bool (by first | rfl | simp [h]), rfl⟩
  · have h' : ¬ (1048576 : Int) < (n : Int) := by omega
    go_enter Try.func6, Try.ntmps6
    go_wp2
    go_ret
    exact ⟨ret_bool (by first | rfl | simp [h]), rfl⟩
set_option maxHeartbeats 400000 in
theorem once_any (m : Int) (cb n cap bud : Nat) (a : Option Addr) (w : World) (hm0 : 2 ≤ m) (hm : m ≤ 1000000) (hC : Cur w cb a n cap (bud + 1)) :
    Calls Try.prog 70 #[.pointer (some ⟨cb, 0, none⟩), .int .i64 m] w fun e w' => ∃ r : Bool, e = .returned (.bool r) ∧ Cur w' cb a n cap bud ∧ w.grownBy w' (some cb) := by
  have HC := mkHid hC
  have hw : IntKind.i64.wrap (m - 1) = m - 1 := IntWalk.i64_in _ (by omega)
  have HM := mkHid hm
  clear hC hm hm0
  go_enter Try.func70, Try.ntmps70
  go_wp2_with fail
  refine (pick_any m cb n cap bud a _ HM.out HC.out).mono ?_
  rintro e w' ⟨r, rfl, r0, r1, hC', hG'⟩
  have H1 := mkHid hC'
  have H2 := mkHid hG'
  clear hC' hG'
  go_wp2
  go_ret
  exact ⟨_, rfl, H1.out, H2.out⟩
theorem Box.set1 {v : World} {b : Nat} {x y : Int} (h : Box v b x y) (u : Int) : Box (v.setCell ⟨b, 1, none⟩ (.int .i64 u)) b x u := by
  obtain ⟨h0, h1, h2, h3⟩ := h
  refine ⟨?_, ?_, ?_, ?_⟩ <;> simp [go_sem, h0, h1, h2, h3]
theorem Cur.far {w w' : World} {cb n cap bud q : Nat} {a : Option Addr} (h : Cur w cb a n cap bud) (hg : w.grownBy w' (some q)) (hq : cb < q) : Cur w' cb a n cap bud := by
  obtain ⟨x, seed, h1, h2, h3, h4, h5, h6⟩ := h
  have hlt : cb < w.heap.size := by
    rcases Nat.lt_or_ge cb w.heap.size with h | h
    · exact h
    · rw [Array.getElem?_eq_none h] at h1; cases h1
  refine ⟨x, seed, ?_, h2, h3, h4, h5, ?_⟩
  · rw [← h1]
    exact hg.block cb hlt (some_ne (by omega))
  · rcases h6 with h6 | ⟨b, off, e, hb, hc⟩
    · exact .inl h6
    · refine .inr ⟨b, off, e, hb, fun i hi => ?_⟩
      obtain ⟨z, z0, z1, hz⟩ := hc i hi
      exact ⟨z, z0, z1, (hg.cell_far ⟨b, off + i, none⟩ (World.block_lt_of_cell? w _ hz) (some_ne (by show b ≠ q; omega))).trans hz⟩
theorem Cur.less {w : World} {cb n cap bud bud' : Nat} {a : Option Addr} (h : Cur w cb a n cap bud) (hb : bud' ≤ bud) : Cur w cb a n cap bud' := by
  obtain ⟨x, seed, h1, h2, h3⟩ := h
  exact ⟨x, seed, h1, by omega, h3⟩
theorem grown_new {w w' : World} {r : Option Nat} (h : w.grownBy w' r) {p : Addr} (hp : w.heap.size ≤ p.block) (v : Value) : w.grownBy (w'.setCell p v) r :=
  ⟨h.os, h.tape, h.output, by have := h.size; simpa using this, fun k hk hr => ((grown_setCell w' p v).block k (by have := h.size; omega) (some_ne (by omega))).trans (h.block k hk hr)⟩
theorem grown_alloc {w w' : World} {r : Option Nat} (h : w.grownBy w' r) (o : Obj) : w.grownBy (w'.alloc o) r := h.trans (World.grownBy_alloc w' o r)
theorem Cur.set {w : World} {cb n cap bud : Nat} {a : Option Addr} (h : Cur w cb a n cap bud) {p : Addr} (hp : cb < p.block) (v : Value) : Cur (w.setCell p v) cb a n cap bud := h.far (grown_setCell w p v) hp
end Go.Proofs.Ytgclngofigffdaa
namespace Go.Proofs.Ytgclngofigffdaa
open Go.RowKit

/-- Numbers of a state: 0 first, each small. -/
def Vgood (l : List Int) : Prop := (∀ x ∈ l, -6 ≤ x ∧ x ≤ 17) ∧ l.getD 0 0 = 0
theorem Vgood.nil : Vgood [] := ⟨fun x h => absurd h (by simp), rfl⟩
theorem Vgood.one : Vgood [0] := ⟨fun x h => by simp at h; omega, rfl⟩
end Go.Proofs.Ytgclngofigffdaa
namespace Go.Proofs.Ytgclngofigffdaa
open Go.RowKit

/-- Numbers that may be. -/
structure VOk (n : Nat) (v : List Int) : Prop where
  len : v.length = n
  zero : v.getD 0 0 = 0
  all : valsB v = true
theorem VOk.cap {n : Nat} {v : List Int} (h : VOk n v) {a b : Nat} (ha : a < n) (hb : b < n) : v.getD a 0 - v.getD b 0 ≤ capT a b := by
  have h1 := vals_get h.all (i := a) (by rw [h.len]; exact ha)
  have h2 := vals_get h.all (i := b) (by rw [h.len]; exact hb)
  have h0 := h.zero
  unfold capT
  split
  · rename_i e; subst e; omega
  · split
    · rename_i e; rcases e with rfl | rfl <;> omega
    · omega
theorem getD_put {v : List Int} {i : Nat} {x : Int} (hi : i < v.length) (a : Nat) : (v.set i x).getD a 0 = if a = i then x else v.getD a 0 := by
  rw [List.getD_eq_getElem?_getD, List.getElem?_set]
  split
  · rename_i e; subst e; rw [if_pos rfl]; simp
  · rename_i e; rw [if_neg (fun h => e h.symm)]; simp [List.getD_eq_getElem?_getD]
theorem VOk.put {n : Nat} {v : List Int} (h : VOk n v) {i : Nat} {x : Int} (hi : i < n) (h1 : 1 ≤ i) (hx : -1000000 ≤ x ∧ x ≤ 1000000) : VOk n (v.set i x) := by
  refine ⟨by simp [h.len], ?_, ?_⟩
  · rw [getD_put (by rw [h.len]; exact hi), if_neg (by omega)]; exact h.zero
  · unfold valsB
    rw [List.all_eq_true]
    intro y hy
    rcases List.mem_or_eq_of_mem_set hy with q | rfl
    · exact List.all_eq_true.1 h.all y q
    · exact decide_eq_true hx
end Go.Proofs.Ytgclngofigffdaa
