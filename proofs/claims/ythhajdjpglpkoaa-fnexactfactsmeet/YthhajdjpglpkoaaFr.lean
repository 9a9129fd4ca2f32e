/-
  CONTRACT of the program's freed.
-/
import Derived.Test.YthhajdjpglpkoaaAd
namespace Go.Proofs.Ythhajdjpglpkoaa
open Go.RowKit

/-- The first u of what is said of symbol i are the caps. -/
def freeP (i u : Nat) (f : Tab) : Tab := fun a b => if a = i ∧ b < u ∨ b = i ∧ a < u then capT a b else f a b
def freeT (i : Nat) (f : Tab) : Tab := fun a b => if a = i ∨ b = i then capT a b else f a b
theorem freeP_none (i : Nat) (f : Tab) : freeP i 0 f = f := by
  funext a b
  unfold freeP
  rw [if_neg (by omega)]
theorem freeP_all {n i : Nat} (f : Tab) {a b : Nat} (ha : a < n) (hb : b < n) : freeP i n f a b = freeT i f a b := by
  unfold freeP freeT
  by_cases h : a = i ∨ b = i
  · rw [if_pos (by omega), if_pos h]
  · rw [if_neg (by omega), if_neg h]
theorem free_step {n i j : Nat} (hn : n ≤ 13) (f : Tab) (hi : i < n) (hj : j < n) : ((grid n (freeP i j f)).set (i * 13 + j) (capT i j)).set (j * 13 + i) (capT j i) = grid n (freeP i (j + 1) f) := by
  rw [grid_set hn _ hi hj, grid_set hn _ hj hi]
  refine grid_congr hn fun a b _ _ => ?_
  unfold freeP
  by_cases h1 : a = j ∧ b = i
  · obtain ⟨rfl, rfl⟩ := h1
    rw [if_pos ⟨rfl, rfl⟩, if_pos (by omega)]
  · rw [if_neg h1]
    by_cases h2 : a = i ∧ b = j
    · obtain ⟨rfl, rfl⟩ := h2
      rw [if_pos ⟨rfl, rfl⟩, if_pos (by omega)]
    · rw [if_neg h2]
      by_cases h3 : a = i ∧ b < j ∨ b = i ∧ a < j
      · rw [if_pos h3, if_pos (by omega)]
      · rw [if_neg h3, if_neg (by omega)]
set_option maxRecDepth 100000 in
set_option maxHeartbeats 3200000 in
theorem freed_some (n : Nat) (f : Tab) (h2 : n ≤ 13) (i : Nat) (hi : i < n) (w : World) : Calls Try.prog 58 #[.agg (dA n (grid n f)), .int .i64 i] w fun e w' => e = .returned (.agg (dA n (grid n (freeT i f)))) ∧ Below w.heap.size w w' := by
  have hz := zc64
  have h0 := dA0 n (grid n f)
  have D0 : Hid (Dif ((w.alloc (.cells (dA n (grid n f)) 64)).alloc (.cells (dA 0 zs) 64)) w.heap.size n (grid n (freeP i 0 f))) := mkHid (by rw [freeP_none]; exact (Dif.new w (n := n) (grid_len n f) 64).alloc (.cells (dA 0 zs) 64))
  have R0 := mkHid (Dif.new (w.alloc (.cells (dA n (grid n f)) 64)) (n := 0) zs_len 64)
  have B0 := mkHid (((Below.refl w.heap.size w).alloc (Nat.le_refl _) (.cells (dA n (grid n f)) 64)).alloc (by simp) (.cells (dA 0 zs) 64))
  have HEND : Hid (grid n (freeP i n f) = grid n (freeT i f)) := mkHid (grid_congr h2 fun a b ha hb => freeP_all f ha hb)
  have HGL := mkHid (grid_len n (freeT i f))
  have HST : Hid (∀ j, j < n → ((grid n (freeP i j f)).set (i * 13 + j) (capT i j)).set (j * 13 + i) (capT j i) = grid n (freeP i (j + 1) f)) := mkHid fun j hj => free_step h2 f hi hj
  obtain ⟨P, hP⟩ : ∃ P : Nat → List Int, (fun u => grid n (freeP i u f)) = P := ⟨_, rfl⟩
  have e0 : ∀ u, grid n (freeP i u f) = P u := fun u => by rw [← hP]
  have HPL : Hid (∀ u, (P u).length = 169) := mkHid fun u => by rw [← e0]; exact grid_len _ _
  simp only [e0] at D0 HEND HST
  obtain ⟨E, hE⟩ : ∃ E, grid n (freeT i f) = E := ⟨_, rfl⟩
  rw [hE] at HEND HGL
  rw [hE]
  obtain ⟨G, hG⟩ : ∃ G, grid n f = G := ⟨_, rfl⟩
  rw [hG] at D0 R0 B0 h0
  rw [hG]
  clear hP e0 hE hG
  go_enter Try.func58, Try.ntmps58
  go_wp2
  go_loopg [8] n (fun g s wr => ∃ (j : Nat), j + g = n ∧ s = .int .i64 j ∧ Dif wr w.heap.size n (P j) ∧ Dif wr (w.heap.size + 1) 0 zs ∧ Below w.heap.size w wr)
  case atStart => exact ⟨0, by omega, rfl, D0.out, by simpa using R0.out, B0.out⟩
  case round =>
    obtain ⟨j, hjg, rfl, hD, hR, hB⟩ := hrel
    have HD := mkHid hD
    have HR := mkHid hR
    have HB := mkHid hB
    clear hR hB D0 R0 B0
    cases gk with
    | zero =>
      have hlt : ¬ ((j : Int) < (n : Int)) := by omega
      have e : j = n := by omega
      subst e
      rw [HEND.out] at HD
      clear hD
      go_wp2_with (first | (refine wp_load64 HD.out rfl rfl rfl ?_) | (refine wp_store64 HR.out HGL.out rfl rfl rfl rfl ?_; intro w2 hD2 hg2))
      exact ret64 rfl hD2 rfl rfl ⟨rfl, HB.out.grown hg2 HB.out.size (fun q hq => by cases hq; omega)⟩
    | succ g =>
      have hlt : (j : Int) < (n : Int) := by omega
      obtain ⟨x1, hx1⟩ : ∃ x, (P j).getD (i * 13 + j) 0 = x := ⟨_, rfl⟩
      obtain ⟨x2, hx2⟩ : ∃ x, (P j).getD (j * 13 + i) 0 = x := ⟨_, rfl⟩
      have c1 := hD.at (i := i) (j := j) (by omega) (by omega) hx1
      have c2 := hD.at (i := j) (j := i) (by omega) (by omega) hx2
      have f1 := hD.free (o := 1 + i * 13 + j) (by omega)
      have f2 := hD.free (o := 1 + j * 13 + i) (by omega)
      have a0 : (0 : Int) ≤ (i : Int) := by omega
      have a1 : (i : Int) < 13 := by omega
      have a2 : (0 : Int) ≤ (j : Int) := by omega
      have a3 : (j : Int) < 13 := by omega
      have HS := mkHid (HST.out j (by omega))
      clear hx1 hx2 hD
      by_cases hij : i = j
      · subst hij
        clear c2 f2 a2 a3
        go_wp2_with fail
        go_region_with (go_at_call 62; refine (iCap_any _ _ _).mono ?_; rintro e w' ⟨rfl, rfl⟩)
        all_goals
          have D2 : Hid (Dif ((wr.setCell ⟨w.heap.size, 1 + i * 13 + i, none⟩ (.int .i64 (capT i i))).setCell ⟨w.heap.size, 1 + i * 13 + i, none⟩ (.int .i64 (capT i i))).drew w.heap.size n (P (i + 1))) := mkHid (by rw [← HS.out]; exact ((HD.out.put (by omega) (by omega) _).put (by omega) (by omega) _).drew)
          have R2 := mkHid (((HR.out.grown (grown_setCell wr ⟨w.heap.size, 1 + i * 13 + i, none⟩ (.int .i64 (capT i i))) (some_ne (Nat.succ_ne_self _))).grown (grown_setCell _ ⟨w.heap.size, 1 + i * 13 + i, none⟩ (.int .i64 (capT i i))) (some_ne (Nat.succ_ne_self _))).drew)
          have B2 := mkHid ((HB.out.setCell (p := ⟨w.heap.size, 1 + i * 13 + i, none⟩) (Nat.le_refl _) (.int .i64 (capT i i))).setCell (p := ⟨w.heap.size, 1 + i * 13 + i, none⟩) (Nat.le_refl _) (.int .i64 (capT i i))).drew
          obtain ⟨w2, hw2⟩ : ∃ w2, ((wr.setCell ⟨w.heap.size, 1 + i * 13 + i, none⟩ (.int .i64 (capT i i))).setCell ⟨w.heap.size, 1 + i * 13 + i, none⟩ (.int .i64 (capT i i))).drew = w2 := ⟨_, rfl⟩
          rw [hw2] at D2 R2 B2
          rw [hw2]
          clear hw2 c1 f1
          go_wp2
          go_roundg g
          case measure => omega
          case rel => exact ⟨i + 1, by omega, by go_num, D2.out, R2.out, B2.out⟩
      · have hn1 : ¬ (1 + i * 13 + j = 1 + j * 13 + i) := by omega
        have hn2 : ¬ (1 + j * 13 + i = 1 + i * 13 + j) := by omega
        have HIJ := mkHid hij
        clear hij
        go_wp2_with fail
        go_region_with (go_at_call 62; refine (iCap_any _ _ _).mono ?_; rintro e w' ⟨rfl, rfl⟩)
        all_goals
          have D2 : Hid (Dif ((wr.setCell ⟨w.heap.size, 1 + i * 13 + j, none⟩ (.int .i64 (capT i j))).setCell ⟨w.heap.size, 1 + j * 13 + i, none⟩ (.int .i64 (capT j i))).drew w.heap.size n (P (j + 1))) := mkHid (by rw [← HS.out]; exact ((HD.out.put (by omega) (by omega) _).put (by omega) (by omega) _).drew)
          have R2 := mkHid (((HR.out.grown (grown_setCell wr ⟨w.heap.size, 1 + i * 13 + j, none⟩ (.int .i64 (capT i j))) (some_ne (Nat.succ_ne_self _))).grown (grown_setCell _ ⟨w.heap.size, 1 + j * 13 + i, none⟩ (.int .i64 (capT j i))) (some_ne (Nat.succ_ne_self _))).drew)
          have B2 := mkHid ((HB.out.setCell (p := ⟨w.heap.size, 1 + i * 13 + j, none⟩) (Nat.le_refl _) (.int .i64 (capT i j))).setCell (p := ⟨w.heap.size, 1 + j * 13 + i, none⟩) (Nat.le_refl _) (.int .i64 (capT j i))).drew
          obtain ⟨w2, hw2⟩ : ∃ w2, ((wr.setCell ⟨w.heap.size, 1 + i * 13 + j, none⟩ (.int .i64 (capT i j))).setCell ⟨w.heap.size, 1 + j * 13 + i, none⟩ (.int .i64 (capT j i))).drew = w2 := ⟨_, rfl⟩
          rw [hw2] at D2 R2 B2
          rw [hw2]
          clear hw2 c1 f1 c2 f2
          go_wp2
          go_roundg g
          case measure => omega
          case rel => exact ⟨j + 1, by omega, by go_num, D2.out, R2.out, B2.out⟩
end Go.Proofs.Ythhajdjpglpkoaa
