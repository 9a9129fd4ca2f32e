/-
  CONTRACTS of what draws words and texts: they answer some words, some text, of bounded size, and write no old memory but the cursor's block.
-/
import Derived.Test.YthaehhndfahocaaCur
namespace Go.Proofs.Ythaehhndfahocaa
open Go.RowKit
open Pl

theorem Cur.lt {w : World} {cb n cap bud : Nat} {a : Option Addr} (h : Cur w cb a n cap bud) : cb < w.heap.size := by
  obtain ⟨x, seed, hh, _⟩ := h
  rcases Nat.lt_or_ge cb w.heap.size with h' | h'
  · exact h'
  · simp [Array.getElem?_eq_none h'] at hh
theorem Cur.below {w w' : World} {cb n cap bud : Nat} {a : Option Addr} (h : Cur w cb a n cap bud) (hb : Below w.heap.size w w') : Cur w' cb a n cap bud := by
  have hl := h.lt
  obtain ⟨x, seed, hh, h1, h2, h3, h4, h5⟩ := h
  exact ⟨x, seed, (hb.block _ hl).trans hh, h1, h2, h3, h4, h5.grown (grown_below hb)⟩
theorem Cur.alloc {w : World} {cb n cap bud : Nat} {a : Option Addr} (h : Cur w cb a n cap bud) (o : Obj) : Cur (w.alloc o) cb a n cap bud := h.below ((Below.refl _ _).alloc (Nat.le_refl _) _)
theorem Cur.less {w : World} {cb n cap bud bud' : Nat} {a : Option Addr} (h : Cur w cb a n cap bud) (hb : bud' ≤ bud) : Cur w cb a n cap bud' := by
  obtain ⟨x, seed, hh, h1, h2⟩ := h
  exact ⟨x, seed, hh, by omega, h2⟩
def smallStr : Value → Bool
  | .string s => decide (s.size ≤ 20)
  | _ => false
theorem tab_cell {w1 w2 : World} {C : Array Value} {cb k : Nat} (hg : (w1.alloc (.cells C 9)).grownBy w2 (some cb)) (hcb : cb < w1.heap.size) (hk : k < C.size) (hall : C.toList.all smallStr = true) : ∃ s, w2.cell? ⟨w1.heap.size, k, none⟩ = some (.string s) ∧ s.size ≤ 20 := by
  have h1 : (w1.alloc (.cells C 9)).cell? ⟨w1.heap.size, k, none⟩ = some C[k] := by rw [World.cell?_alloc_new]; exact Array.getElem?_eq_getElem hk
  have h2 := hg.cell h1 (by simp; omega)
  have h3 : smallStr C[k] = true := (List.all_eq_true.1 hall) _ (by rw [← Array.getElem_toList]; exact List.getElem_mem _)
  rw [h2]
  revert h3
  cases C[k] <;> simp [smallStr]
theorem grown_alloc (w : World) (o : Obj) (r : Option Nat) : w.grownBy (w.alloc o) r := World.grownBy_alloc w o r

set_option maxHeartbeats 1000000 in
theorem piece_any (cb n cap bud : Nat) (a : Option Addr) (w : World) (hC : Cur w cb a n cap (bud + 2)) :
    Calls Try.prog 38 #[.pointer (some ⟨cb, 0, none⟩)] w fun e w' => ∃ s : ByteArray, e = .returned (.string s) ∧ s.size ≤ 20 ∧ Cur w' cb a n cap bud ∧ w.grownBy w' (some cb) := by
  have HC := mkHid hC
  clear hC
  go_enter Try.func38, Try.ntmps38
  go_wp2_with fail
  refine (pick_any 6 cb n cap (bud + 1) a _ (by decide) HC.out).mono ?_
  rintro e w1 ⟨r0, rfl, h1, h2, h3, h4⟩
  have H3 := mkHid h3
  have H4 := mkHid h4
  have hcb := h3.lt
  clear h1 h2 h3 h4 HC
  go_wp2_with fail
  all_goals
    refine (pick_any _ cb n cap bud a _ (by decide) (H3.out.alloc _)).mono ?_
    rintro e w2 ⟨r, rfl, h1, h2, h3, h4⟩
    obtain ⟨k, rfl⟩ := Int.eq_ofNat_of_zero_le h1
    obtain ⟨s, hs, hz⟩ := tab_cell h4 hcb (show k < _ by first | exact (by omega : k < 10) | exact (by omega : k < 9) | exact (by omega : k < 13) | exact (by omega : k < 20)) rfl
    have H5 := mkHid h3
    have H6 := mkHid (grown_trans H4.out (grown_trans (grown_alloc _ _ _) h4))
    clear h3 h4
    go_wp2
    go_ret
    exact ⟨s, rfl, hz, H5.out, H6.out⟩

/-- While a word is drawn: the cursor, the answer's variable, the word's variable. -/
def Wd (w W : World) (cb : Nat) (a : Option Addr) (n cap bud V : Nat) (k : Int) (s : ByteArray) (x : Int) : Prop :=
  Cur W cb a n cap bud ∧ w.grownBy W (some cb) ∧ (∃ z1, W.heap[w.heap.size]? = some (.cells #[.int .i64 0, .string z1, .int .i64 0] 32 (0, 0))) ∧ W.heap[V]? = some (.cells #[.int .i64 k, .string s, .int .i64 x] 32 (0, 0)) ∧ cb < w.heap.size ∧ w.heap.size < V
theorem block_lt' {W : World} {b : Nat} {o : Obj} (h : W.heap[b]? = some o) : b < W.heap.size := by
  rcases Nat.lt_or_ge b W.heap.size with h' | h'
  · exact h'
  · simp [Array.getElem?_eq_none h'] at h
theorem grown_at {w w' : World} {cb b : Nat} {o : Obj} (hg : w.grownBy w' (some cb)) (h : w.heap[b]? = some o) (hne : b ≠ cb) : w'.heap[b]? = some o := by
  rw [hg.block b (block_lt' h) (by simpa using hne)]; exact h
theorem Wd.call {w W W' : World} {cb n cap bud bud' V : Nat} {a : Option Addr} {k x : Int} {s : ByteArray} (h : Wd w W cb a n cap bud V k s x) (hg : W.grownBy W' (some cb)) (hc : Cur W' cb a n cap bud') : Wd w W' cb a n cap bud' V k s x := by
  obtain ⟨_, h2, ⟨z1, h3⟩, h4, h5, h6⟩ := h
  exact ⟨hc, grown_trans h2 hg, ⟨z1, grown_at hg h3 (by omega)⟩, grown_at hg h4 (by omega), h5, h6⟩
theorem Wd.below {w W W' : World} {cb n cap bud V : Nat} {a : Option Addr} {k x : Int} {s : ByteArray} (h : Wd w W cb a n cap bud V k s x) (hb : Below W.heap.size W W') : Wd w W' cb a n cap bud V k s x :=
  h.call (grown_below hb) (h.1.below hb)
theorem set3 {w : World} {b i : Nat} {A B C v : Value} (h : w.heap[b]? = some (.cells #[A, B, C] 32 (0, 0))) : (w.setCell ⟨b, i, none⟩ v).heap[b]? = some (.cells (#[A, B, C].setIfInBounds i v) 32 (0, 0)) := heap_setCell_same w b i _ 32 v h
theorem cur_set {W : World} {cb n cap bud V : Nat} {a : Option Addr} {k x : Int} {s : ByteArray} (h : Cur W cb a n cap bud) (h4 : W.heap[V]? = some (.cells #[.int .i64 k, .string s, .int .i64 x] 32 (0, 0))) (hne : cb ≠ V) (i : Nat) (v : Value) : Cur (W.setCell ⟨V, i, none⟩ v) cb a n cap bud := by
  obtain ⟨y, seed, e1, e2, e3, e4, e5, e6⟩ := h
  refine ⟨y, seed, (Below.heap_setCell _ _ _ _ hne).trans e1, e2, e3, e4, e5, ?_⟩
  rcases e6 with e6 | ⟨b, off, q1, q2, q3⟩
  · exact .inl e6
  · refine .inr ⟨b, off, q1, q2, fun j hj => ?_⟩
    obtain ⟨z, p0, p1, p2⟩ := q3 j hj
    refine ⟨z, p0, p1, ?_⟩
    have hb : b ≠ V := by
      intro e
      rw [e, Lib.cell_of_heap h4] at p2
      rcases (by omega : off + j = 0 ∨ off + j = 1 ∨ off + j = 2 ∨ 3 ≤ off + j) with e' | e' | e' | e'
      · rw [e'] at p2; simp at p2
      · rw [e'] at p2; simp at p2
      · rw [e'] at p2; simp at p2
      · rw [Array.getElem?_eq_none (by simpa using e')] at p2; cases p2
    rw [World.cell?_of_block (w := W) (Below.heap_setCell _ _ _ _ hb)]; exact p2
theorem grown_new {w W : World} {cb V : Nat} (h2 : w.grownBy W (some cb)) (hV : w.heap.size ≤ V) (i : Nat) (v : Value) : w.grownBy (W.setCell ⟨V, i, none⟩ v) (some cb) :=
  ⟨h2.os, h2.tape, h2.output, by simpa [World.setCell] using h2.size, fun j hj hj2 => (Below.heap_setCell _ _ _ _ (show j ≠ V by omega)).trans (h2.block j hj hj2)⟩
theorem Wd.set {w W : World} {cb n cap bud V i : Nat} {a : Option Addr} {k x k' x' : Int} {s s' : ByteArray} {v : Value} (h : Wd w W cb a n cap bud V k s x) (hv : #[Value.int .i64 k, .string s, .int .i64 x].setIfInBounds i v = #[.int .i64 k', .string s', .int .i64 x']) : Wd w (W.setCell ⟨V, i, none⟩ v) cb a n cap bud V k' s' x' := by
  obtain ⟨h1, h2, ⟨z1, h3⟩, h4, h5, h6⟩ := h
  exact ⟨cur_set h1 h4 (by omega) i v, grown_new h2 (by omega) i v, ⟨z1, (Below.heap_setCell _ _ _ _ (show w.heap.size ≠ V by omega)).trans h3⟩, by rw [set3 h4, hv], h5, h6⟩
theorem Wd.less {w W : World} {cb n cap bud bud' V : Nat} {a : Option Addr} {k x : Int} {s : ByteArray} (h : Wd w W cb a n cap bud V k s x) (hb : bud' ≤ bud) : Wd w W cb a n cap bud' V k s x := ⟨h.1.less hb, h.2⟩
/-- The answer laid into its variable. -/
theorem Wd.fin {w W : World} {cb n cap bud V : Nat} {a : Option Addr} {k x : Int} {s : ByteArray} (h : Wd w W cb a n cap bud V k s x) :
    (((W.setCell ⟨w.heap.size, 0, none⟩ (.int .i64 k)).setCell ⟨w.heap.size, 1, none⟩ (.string s)).setCell ⟨w.heap.size, 2, none⟩ (.int .i64 x)).heap[w.heap.size]? = some (.cells #[.int .i64 k, .string s, .int .i64 x] 32 (0, 0)) ∧
    Cur (((W.setCell ⟨w.heap.size, 0, none⟩ (.int .i64 k)).setCell ⟨w.heap.size, 1, none⟩ (.string s)).setCell ⟨w.heap.size, 2, none⟩ (.int .i64 x)) cb a n cap bud ∧
    w.grownBy (((W.setCell ⟨w.heap.size, 0, none⟩ (.int .i64 k)).setCell ⟨w.heap.size, 1, none⟩ (.string s)).setCell ⟨w.heap.size, 2, none⟩ (.int .i64 x)) (some cb) := by
  obtain ⟨h1, h2, ⟨z1, h3⟩, h4, h5, h6⟩ := h
  have e1 : (W.setCell ⟨w.heap.size, 0, none⟩ (.int .i64 k)).heap[w.heap.size]? = some (.cells #[.int .i64 k, .string z1, .int .i64 0] 32 (0, 0)) := set3 h3
  have e2 : ((W.setCell ⟨w.heap.size, 0, none⟩ (.int .i64 k)).setCell ⟨w.heap.size, 1, none⟩ (.string s)).heap[w.heap.size]? = some (.cells #[.int .i64 k, .string s, .int .i64 0] 32 (0, 0)) := set3 e1
  exact ⟨set3 e2, cur_set (cur_set (cur_set h1 h3 (by omega) _ _) e1 (by omega) _ _) e2 (by omega) _ _, grown_new (grown_new (grown_new h2 (Nat.le_refl _) _ _) (Nat.le_refl _) _ _) (Nat.le_refl _) _ _⟩
theorem Wd.rcells {w W : World} {cb n cap bud V : Nat} {a : Option Addr} {k x : Int} {s : ByteArray} (h : Wd w W cb a n cap bud V k s x) : (∃ z1, W.cell? ⟨w.heap.size, 0, none⟩ = some (.int .i64 0) ∧ W.cell? ⟨w.heap.size, 1, none⟩ = some (.string z1) ∧ W.cell? ⟨w.heap.size, 2, none⟩ = some (.int .i64 0)) ∧ ∀ i, W.frozen? ⟨w.heap.size, i, none⟩ = false := by
  obtain ⟨z1, h3⟩ := h.2.2.1
  exact ⟨⟨z1, by rw [Lib.cell_of_heap h3]; rfl, by rw [Lib.cell_of_heap h3]; rfl, by rw [Lib.cell_of_heap h3]; rfl⟩, fun i => Lib.frozen_of_heap h3 i⟩
theorem Wd.cells {w W : World} {cb n cap bud V : Nat} {a : Option Addr} {k x : Int} {s : ByteArray} (h : Wd w W cb a n cap bud V k s x) : W.cell? ⟨V, 0, none⟩ = some (.int .i64 k) ∧ W.cell? ⟨V, 1, none⟩ = some (.string s) ∧ W.cell? ⟨V, 2, none⟩ = some (.int .i64 x) ∧ ∀ i, W.frozen? ⟨V, i, none⟩ = false := by
  have h4 := h.2.2.2.1
  exact ⟨by rw [Lib.cell_of_heap h4]; rfl, by rw [Lib.cell_of_heap h4]; rfl, by rw [Lib.cell_of_heap h4]; rfl, fun i => Lib.frozen_of_heap h4 i⟩

theorem num_cell {w1 w2 : World} {a b c : Int} {cb k : Nat} (hg : (w1.alloc (.cells #[.int .i64 a, .int .i64 b, .int .i64 c] 3)).grownBy w2 (some cb)) (hcb : cb < w1.heap.size) (hk : k < 3) : ∃ y : Int, w2.cell? ⟨w1.heap.size, k, none⟩ = some (.int .i64 y) := by
  obtain ⟨y, hy⟩ : ∃ y : Int, (w1.alloc (.cells #[.int .i64 a, .int .i64 b, .int .i64 c] 3)).cell? ⟨w1.heap.size, k, none⟩ = some (.int .i64 y) := by
    rw [World.cell?_alloc_new]
    rcases (by omega : k = 0 ∨ k = 1 ∨ k = 2) with rfl | rfl | rfl
    · exact ⟨a, rfl⟩
    · exact ⟨b, rfl⟩
    · exact ⟨c, rfl⟩
  exact ⟨y, hg.cell hy (by simp; omega)⟩

set_option maxHeartbeats 4000000 in
theorem word_any (cb n cap bud : Nat) (a : Option Addr) (w : World) (hC : Cur w cb a n cap (bud + 7)) :
    Calls Try.prog 26 #[.pointer (some ⟨cb, 0, none⟩)] w fun e w' => ∃ (k : Int) (s : ByteArray) (x : Int), e = .returned (.agg #[.int .i64 k, .string s, .int .i64 x]) ∧ s.size ≤ 20 ∧ Cur w' cb a n cap bud ∧ w.grownBy w' (some cb) := by
  have HC := mkHid hC
  have hcb := hC.lt
  clear hC
  go_enter Try.func26, Try.ntmps26
  go_wp2_with fail
  refine (piece_any cb n cap (bud + 5) a _ (HC.out.alloc _)).mono ?_
  rintro e w1 ⟨s1, rfl, hs1, hc1, hg1⟩
  have C1 := mkHid hc1
  have G1 := mkHid (grown_trans (grown_alloc w _ _) hg1)
  have R1 := mkHid (grown_at hg1 (heap_alloc_new w _) (by omega))
  clear hc1 hg1 HC
  go_wp2_with fail
  refine (pick_any 100 cb n cap (bud + 4) a _ (by decide) C1.out).mono ?_
  rintro e w2 ⟨r, rfl, _, _, hc2, hg2⟩
  have C2 := mkHid hc2
  have G2 := mkHid (grown_trans G1.out hg2)
  have R2 := mkHid (grown_at hg2 R1.out (by omega))
  clear hc2 hg2 C1 G1 R1
  have D2 : Hid (Wd w (w2.alloc (.cells #[.int .i64 0, .string s1, .int .i64 r] 32)) cb a n cap (bud + 4) w2.heap.size 0 s1 r) := by
    refine ⟨C2.out.alloc _, grown_trans G2.out (grown_alloc _ _ _), ?_, heap_alloc_new w2 _, hcb, block_lt' R2.out⟩
    exact ⟨_, (Lib.alloc_old w2 _ _ (block_lt' R2.out)).trans R2.out⟩
  clear C2 G2 R2
  go_wp2_with fail
  refine (sKind_any s1 _ (by unfold maxLen; omega)).mono ?_
  rintro e w3 ⟨rfl, hb3⟩
  have D3 := mkHid (D2.out.below hb3)
  clear hb3 D2
  obtain ⟨c0, c1, c2, cf⟩ := D3.out.cells
  have D4 : Hid (Wd w (w3.setCell ⟨w2.heap.size, 0, none⟩ (.int .i64 (kindI s1))) cb a n cap (bud + 4) w2.heap.size (kindI s1) s1 r) := D3.out.set rfl
  clear D3
  by_cases hk : (kindI s1 == 0) = true
  · obtain ⟨d0, d1, d2, df⟩ := D4.out.cells
    go_wp2_with fail
    refine (once_any 6 cb n cap (bud + 3) a _ (by decide) (by decide) D4.out.1).mono ?_
    rintro e w4 ⟨r1, rfl, hc4, hg4⟩
    have DB := mkHid (D4.out.call hg4 hc4)
    clear hc4 hg4 D4 d0 d1 d2 df c0 c1 c2 cf hk
    cases r1 with
    | true =>
      go_wp2_with fail
      have HD := mkHid (DB.out.less (bud' := bud + 2) (by omega))
      clear DB
      refine (pick_any 40 cb n cap (bud + 1) a _ (by decide) HD.out.1).mono ?_
      rintro e w5 ⟨r40, rfl, _, _, hc5, hg5⟩
      have D5 := mkHid (HD.out.call hg5 hc5)
      clear hc5 hg5 HD
      by_cases q0 : (r40 == 0) = true
      · go_wp2_with fail
        refine (pick_any 7 cb n cap bud a _ (by decide) D5.out.1).mono ?_
        rintro e w6 ⟨r7, rfl, g1, g2, hc6, hg6⟩
        have D6 := mkHid (D5.out.call hg6 hc6)
        have g3 : r7 < 7 := by omega
        clear hc6 hg6 D5 g2
        obtain ⟨d0, d1, d2, df⟩ := D6.out.cells
        obtain ⟨⟨z1, t0, t1, t2⟩, tf⟩ := D6.out.rcells
        have hVR : w.heap.size < w2.heap.size := D6.out.2.2.2.2.2
        have D7 : Hid (Wd w (w6.setCell ⟨w2.heap.size, 0, none⟩ (.int .i64 (r7 - 1))) cb a n cap bud w2.heap.size (r7 - 1) s1 r) := D6.out.set rfl
        clear D6
        go_wp2
        obtain ⟨q, qc, qg⟩ := D7.out.fin
        have x0 := Lib.cell_of_heap q 0
        have x1 := Lib.cell_of_heap q 1
        have x2 := Lib.cell_of_heap q 2
        exact bodyPost_ret (v := .agg #[.int .i64 (r7 - 1), .string s1, .int .i64 r]) (by simp [results, Try.results26, go_sem, x0, x1, x2]) rfl ⟨_, _, _, rfl, hs1, qc, qg⟩
      · simp only [Bool.not_eq_true] at q0
        by_cases q1 : (r40 == 1) = true
        · go_wp2_with fail
          refine (pick_any 3 cb n cap bud a _ (by decide) (D5.out.1.alloc _)).mono ?_
          rintro e w6 ⟨r3, rfl, g1, g2, hc6, hg6⟩
          obtain ⟨j, rfl⟩ := Int.eq_ofNat_of_zero_le g1
          obtain ⟨y, hy⟩ : ∃ y : Int, w6.cell? ⟨w5.heap.size, j, none⟩ = some (.int .i64 y) := num_cell hg6 D5.out.1.lt (by omega)
          have D6 := mkHid ((D5.out.below ((Below.refl _ _).alloc (Nat.le_refl _) _)).call hg6 hc6)
          have g3 : (j : Int) < 3 := by omega
          clear hc6 hg6 D5 g2
          obtain ⟨d0, d1, d2, df⟩ := D6.out.cells
          obtain ⟨⟨z1, t0, t1, t2⟩, tf⟩ := D6.out.rcells
          have hVR : w.heap.size < w2.heap.size := D6.out.2.2.2.2.2
          have D7 : Hid (Wd w (w6.setCell ⟨w2.heap.size, 2, none⟩ (.int .i64 y)) cb a n cap bud w2.heap.size (kindI s1) s1 y) := D6.out.set rfl
          clear D6
          go_wp2
          obtain ⟨q, qc, qg⟩ := D7.out.fin
          have x0 := Lib.cell_of_heap q 0
          have x1 := Lib.cell_of_heap q 1
          have x2 := Lib.cell_of_heap q 2
          exact bodyPost_ret (v := .agg #[.int .i64 (kindI s1), .string s1, .int .i64 y]) (by simp [results, Try.results26, go_sem, x0, x1, x2]) rfl ⟨_, _, _, rfl, hs1, qc, qg⟩
        · simp only [Bool.not_eq_true] at q1
          obtain ⟨d0, d1, d2, df⟩ := D5.out.cells
          obtain ⟨⟨z1, t0, t1, t2⟩, tf⟩ := D5.out.rcells
          have hVR : w.heap.size < w2.heap.size := D5.out.2.2.2.2.2
          go_wp2
          obtain ⟨q, qc, qg⟩ := (D5.out.less (bud' := bud) (by omega)).fin
          have x0 := Lib.cell_of_heap q 0
          have x1 := Lib.cell_of_heap q 1
          have x2 := Lib.cell_of_heap q 2
          exact bodyPost_ret (v := .agg #[.int .i64 (kindI s1), .string s1, .int .i64 r]) (by simp [results, Try.results26, go_sem, x0, x1, x2]) rfl ⟨_, _, _, rfl, hs1, qc, qg⟩
    | false =>
      go_wp2_with fail
      refine (pick_any 4 cb n cap (bud + 2) a _ (by decide) (DB.out.1.alloc _)).mono ?_
      rintro e wa ⟨ra, rfl, g1, g2, hca, hga⟩
      obtain ⟨j, rfl⟩ := Int.eq_ofNat_of_zero_le g1
      obtain ⟨s2, hs2, hz2⟩ := tab_cell hga DB.out.1.lt (show j < _ by exact (by omega : j < 4)) rfl
      have DA := mkHid ((DB.out.below ((Below.refl _ _).alloc (Nat.le_refl _) _)).call hga hca)
      have g3 : (j : Int) < 4 := by omega
      clear hca hga DB g2
      obtain ⟨d0, d1, d2, df⟩ := DA.out.cells
      have DC : Hid (Wd w (wa.setCell ⟨w2.heap.size, 1, none⟩ (.string s2)) cb a n cap (bud + 2) w2.heap.size (kindI s1) s2 r) := DA.out.set rfl
      clear DA
      go_wp2_with fail
      refine (sKind_any s2 _ (by unfold maxLen; omega)).mono ?_
      rintro e wc ⟨rfl, hbc⟩
      have DD := mkHid (DC.out.below hbc)
      clear hbc DC d0 d1 d2 df hs2
      obtain ⟨d0, d1, d2, df⟩ := DD.out.cells
      have HD : Hid (Wd w (wc.setCell ⟨w2.heap.size, 0, none⟩ (.int .i64 (kindI s2))) cb a n cap (bud + 2) w2.heap.size (kindI s2) s2 r) := DD.out.set rfl
      clear DD
      go_wp2_with fail
      clear d0 d1 d2 df
      refine (pick_any 40 cb n cap (bud + 1) a _ (by decide) HD.out.1).mono ?_
      rintro e w5 ⟨r40, rfl, _, _, hc5, hg5⟩
      have D5 := mkHid (HD.out.call hg5 hc5)
      clear hc5 hg5 HD
      by_cases q0 : (r40 == 0) = true
      · go_wp2_with fail
        refine (pick_any 7 cb n cap bud a _ (by decide) D5.out.1).mono ?_
        rintro e w6 ⟨r7, rfl, g1, g2, hc6, hg6⟩
        have D6 := mkHid (D5.out.call hg6 hc6)
        have g3 : r7 < 7 := by omega
        clear hc6 hg6 D5 g2
        obtain ⟨d0, d1, d2, df⟩ := D6.out.cells
        obtain ⟨⟨z1, t0, t1, t2⟩, tf⟩ := D6.out.rcells
        have hVR : w.heap.size < w2.heap.size := D6.out.2.2.2.2.2
        have D7 : Hid (Wd w (w6.setCell ⟨w2.heap.size, 0, none⟩ (.int .i64 (r7 - 1))) cb a n cap bud w2.heap.size (r7 - 1) s2 r) := D6.out.set rfl
        clear D6
        go_wp2
        obtain ⟨q, qc, qg⟩ := D7.out.fin
        have x0 := Lib.cell_of_heap q 0
        have x1 := Lib.cell_of_heap q 1
        have x2 := Lib.cell_of_heap q 2
        exact bodyPost_ret (v := .agg #[.int .i64 (r7 - 1), .string s2, .int .i64 r]) (by simp [results, Try.results26, go_sem, x0, x1, x2]) rfl ⟨_, _, _, rfl, hz2, qc, qg⟩
      · simp only [Bool.not_eq_true] at q0
        by_cases q1 : (r40 == 1) = true
        · go_wp2_with fail
          refine (pick_any 3 cb n cap bud a _ (by decide) (D5.out.1.alloc _)).mono ?_
          rintro e w6 ⟨r3, rfl, g1, g2, hc6, hg6⟩
          obtain ⟨j, rfl⟩ := Int.eq_ofNat_of_zero_le g1
          obtain ⟨y, hy⟩ : ∃ y : Int, w6.cell? ⟨w5.heap.size, j, none⟩ = some (.int .i64 y) := num_cell hg6 D5.out.1.lt (by omega)
          have D6 := mkHid ((D5.out.below ((Below.refl _ _).alloc (Nat.le_refl _) _)).call hg6 hc6)
          have g3 : (j : Int) < 3 := by omega
          clear hc6 hg6 D5 g2
          obtain ⟨d0, d1, d2, df⟩ := D6.out.cells
          obtain ⟨⟨z1, t0, t1, t2⟩, tf⟩ := D6.out.rcells
          have hVR : w.heap.size < w2.heap.size := D6.out.2.2.2.2.2
          have D7 : Hid (Wd w (w6.setCell ⟨w2.heap.size, 2, none⟩ (.int .i64 y)) cb a n cap bud w2.heap.size (kindI s2) s2 y) := D6.out.set rfl
          clear D6
          go_wp2
          obtain ⟨q, qc, qg⟩ := D7.out.fin
          have x0 := Lib.cell_of_heap q 0
          have x1 := Lib.cell_of_heap q 1
          have x2 := Lib.cell_of_heap q 2
          exact bodyPost_ret (v := .agg #[.int .i64 (kindI s2), .string s2, .int .i64 y]) (by simp [results, Try.results26, go_sem, x0, x1, x2]) rfl ⟨_, _, _, rfl, hz2, qc, qg⟩
        · simp only [Bool.not_eq_true] at q1
          obtain ⟨d0, d1, d2, df⟩ := D5.out.cells
          obtain ⟨⟨z1, t0, t1, t2⟩, tf⟩ := D5.out.rcells
          have hVR : w.heap.size < w2.heap.size := D5.out.2.2.2.2.2
          go_wp2
          obtain ⟨q, qc, qg⟩ := (D5.out.less (bud' := bud) (by omega)).fin
          have x0 := Lib.cell_of_heap q 0
          have x1 := Lib.cell_of_heap q 1
          have x2 := Lib.cell_of_heap q 2
          exact bodyPost_ret (v := .agg #[.int .i64 (kindI s2), .string s2, .int .i64 r]) (by simp [results, Try.results26, go_sem, x0, x1, x2]) rfl ⟨_, _, _, rfl, hz2, qc, qg⟩
  · simp only [Bool.not_eq_true] at hk
    obtain ⟨d0, d1, d2, df⟩ := D4.out.cells
    go_wp2_with fail
    have HD := mkHid (D4.out.less (bud' := bud + 2) (by omega))
    clear D4 d0 d1 d2 df c0 c1 c2 cf hk
    refine (pick_any 40 cb n cap (bud + 1) a _ (by decide) HD.out.1).mono ?_
    rintro e w5 ⟨r40, rfl, _, _, hc5, hg5⟩
    have D5 := mkHid (HD.out.call hg5 hc5)
    clear hc5 hg5 HD
    by_cases q0 : (r40 == 0) = true
    · go_wp2_with fail
      refine (pick_any 7 cb n cap bud a _ (by decide) D5.out.1).mono ?_
      rintro e w6 ⟨r7, rfl, g1, g2, hc6, hg6⟩
      have D6 := mkHid (D5.out.call hg6 hc6)
      have g3 : r7 < 7 := by omega
      clear hc6 hg6 D5 g2
      obtain ⟨d0, d1, d2, df⟩ := D6.out.cells
      obtain ⟨⟨z1, t0, t1, t2⟩, tf⟩ := D6.out.rcells
      have hVR : w.heap.size < w2.heap.size := D6.out.2.2.2.2.2
      have D7 : Hid (Wd w (w6.setCell ⟨w2.heap.size, 0, none⟩ (.int .i64 (r7 - 1))) cb a n cap bud w2.heap.size (r7 - 1) s1 r) := D6.out.set rfl
      clear D6
      go_wp2
      obtain ⟨q, qc, qg⟩ := D7.out.fin
      have x0 := Lib.cell_of_heap q 0
      have x1 := Lib.cell_of_heap q 1
      have x2 := Lib.cell_of_heap q 2
      exact bodyPost_ret (v := .agg #[.int .i64 (r7 - 1), .string s1, .int .i64 r]) (by simp [results, Try.results26, go_sem, x0, x1, x2]) rfl ⟨_, _, _, rfl, hs1, qc, qg⟩
    · simp only [Bool.not_eq_true] at q0
      by_cases q1 : (r40 == 1) = true
      · go_wp2_with fail
        refine (pick_any 3 cb n cap bud a _ (by decide) (D5.out.1.alloc _)).mono ?_
        rintro e w6 ⟨r3, rfl, g1, g2, hc6, hg6⟩
        obtain ⟨j, rfl⟩ := Int.eq_ofNat_of_zero_le g1
        obtain ⟨y, hy⟩ : ∃ y : Int, w6.cell? ⟨w5.heap.size, j, none⟩ = some (.int .i64 y) := num_cell hg6 D5.out.1.lt (by omega)
        have D6 := mkHid ((D5.out.below ((Below.refl _ _).alloc (Nat.le_refl _) _)).call hg6 hc6)
        have g3 : (j : Int) < 3 := by omega
        clear hc6 hg6 D5 g2
        obtain ⟨d0, d1, d2, df⟩ := D6.out.cells
        obtain ⟨⟨z1, t0, t1, t2⟩, tf⟩ := D6.out.rcells
        have hVR : w.heap.size < w2.heap.size := D6.out.2.2.2.2.2
        have D7 : Hid (Wd w (w6.setCell ⟨w2.heap.size, 2, none⟩ (.int .i64 y)) cb a n cap bud w2.heap.size (kindI s1) s1 y) := D6.out.set rfl
        clear D6
        go_wp2
        obtain ⟨q, qc, qg⟩ := D7.out.fin
        have x0 := Lib.cell_of_heap q 0
        have x1 := Lib.cell_of_heap q 1
        have x2 := Lib.cell_of_heap q 2
        exact bodyPost_ret (v := .agg #[.int .i64 (kindI s1), .string s1, .int .i64 y]) (by simp [results, Try.results26, go_sem, x0, x1, x2]) rfl ⟨_, _, _, rfl, hs1, qc, qg⟩
      · simp only [Bool.not_eq_true] at q1
        obtain ⟨d0, d1, d2, df⟩ := D5.out.cells
        obtain ⟨⟨z1, t0, t1, t2⟩, tf⟩ := D5.out.rcells
        have hVR : w.heap.size < w2.heap.size := D5.out.2.2.2.2.2
        go_wp2
        obtain ⟨q, qc, qg⟩ := (D5.out.less (bud' := bud) (by omega)).fin
        have x0 := Lib.cell_of_heap q 0
        have x1 := Lib.cell_of_heap q 1
        have x2 := Lib.cell_of_heap q 2
        exact bodyPost_ret (v := .agg #[.int .i64 (kindI s1), .string s1, .int .i64 r]) (by simp [results, Try.results26, go_sem, x0, x1, x2]) rfl ⟨_, _, _, rfl, hs1, qc, qg⟩
end Go.Proofs.Ythaehhndfahocaa
