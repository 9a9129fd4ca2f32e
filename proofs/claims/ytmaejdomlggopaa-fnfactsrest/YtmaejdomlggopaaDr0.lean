/-
  CONTRACTS of the law's own pick, big and vals, of once and of l08DrawSym.
-/
import Derived.Test.YtmaejdomlggopaaHp
import Derived.Test.YtmaejdomlggopaaDrw
import Derived.Test.YtmaejdomlggopaaBs
import Derived.Deep.AppendLies
namespace Go.Proofs.Ytmaejdomlggopaa
open Go.RowKit

theorem Bytes.up {w w' : World} {B B' n : Nat} {a : Option Addr} (h : Bytes w B a n) (hB : B ≤ B') (hb : Below B w w') : Bytes w' B' a n := by
  rcases h with h | ⟨b, off, e, hbl, hc⟩
  · exact .inl h
  · refine .inr ⟨b, off, e, by omega, fun i hi => ?_⟩
    obtain ⟨z, z0, z1, hz⟩ := hc i hi
    exact ⟨z, z0, z1, (hb.cell (p := ⟨b, off + i, none⟩) hbl).trans hz⟩
theorem openC_any (n cap : Nat) (a : Option Addr) (w : World) (hn : n ≤ 1048576) (hb : Bytes w w.heap.size a n) :
    Calls Try.prog 82 #[.slice a n cap] w fun e w' => ∃ cb, e = .returned (.pointer (some ⟨cb, 0, none⟩)) ∧ w.heap.size ≤ cb ∧ Cur w' cb a n cap 499999 ∧ Below w.heap.size w w' :=
  (open_any n cap a w hn hb).mono fun _ _ h => ⟨_, h.1, Nat.le_refl _, h.2.1, h.2.2⟩
theorem big_any (n cap : Nat) (a : Option Addr) (w : World) (hn : n ≤ maxLen) : Calls Try.prog 39 #[.slice a n cap] w fun e w' => e = .returned (.bool (decide (1048576 < n))) ∧ w = w' := by
  unfold maxLen at hn
  by_cases h : 1048576 < n
  · have h' : (1048576 : Int) < (n : Int) := by omega
    go_enter Try.func39, Try.ntmps39
    go_wp2
    go_ret
    exact ⟨ret_bool (by first | rfl | simp [h]), rfl⟩
  · have h' : ¬ (1048576 : Int) < (n : Int) := by omega
    go_enter Try.func39, Try.ntmps39
    go_wp2
    go_ret
    exact ⟨ret_bool (by first | rfl | simp [h]), rfl⟩
set_option maxHeartbeats 1600000 in
theorem lpick_any (n cap B t : Nat) (m : Int) (a : Option Addr) (w : World) (hn : n ≤ 1048576) (hb : Bytes w B a n) (ht : t ≤ 1000) (hm0 : 2 ≤ m) (hm : m ≤ 10000) :
    Calls Try.prog 86 #[.slice a n cap, .int .i64 t, .int .i64 m] w fun e w' => ∃ r : Int, e = .returned (.int .i64 r) ∧ 0 ≤ r ∧ r < m ∧ w = w' := by
  have HY := mkHid hb
  clear hb
  by_cases h0 : n = 0
  · subst h0
    go_enter Try.func86, Try.ntmps86
    go_wp2
    go_ret
    exact ⟨0, rfl, by omega, by omega, rfl⟩
  · obtain ⟨b, off, rfl, _, hc⟩ : ∃ b off, a = some ⟨b, off, none⟩ ∧ b < B ∧ ∀ i, i < n → ∃ z : Int, 0 ≤ z ∧ z ≤ 255 ∧ w.cell? ⟨b, off + i, none⟩ = some (.int .u8 z) := by
      rcases HY.out with h | h
      · exact absurd h h0
      · exact h
    have HC := mkHid hc
    have n1 : (1 : Int) ≤ (n : Int) := by omega
    have n3 : ¬ n = 0 := h0
    have n4 : ((n : Int) == 0) = false := by simpa using h0
    have n5 : decide (m < 2) = false := by simp; omega
    clear hc HY h0
    go_enter Try.func86, Try.ntmps86
    go_wp2
    go_loopw [7, 8] (fun x k v => ∃ (j : Nat) (y : Int), j ≤ 3 ∧ k = .int .i64 j ∧ x = .int .i64 y ∧ 0 ≤ y ∧ y ≤ 300000 ∧ (j = 0 → y ≤ 0) ∧ (j = 1 → y ≤ 255) ∧ (j = 2 → y ≤ 8160) ∧ v = w) (fun _ k _ => 3 - (intOf k).toNat)
    case atStart => exact ⟨0, 0, by omega, rfl, rfl, by omega, by omega, fun _ => by omega, fun h => by omega, fun h => by omega, rfl⟩
    case round =>
      obtain ⟨j, y, hj, rfl, rfl, y0, y1, y2, y3, y4, rfl⟩ := hrel
      by_cases hlt : j < 3
      · obtain ⟨z, hz⟩ : ∃ z, z = (t + j) % n := ⟨_, rfl⟩
        have hzn : z < n := by rw [hz]; exact Nat.mod_lt _ (by omega)
        obtain ⟨u, u0, u1, c0⟩ := HC.out z hzn
        have e1 : ((t : Int) + (j : Int)) % (n : Int) = (z : Int) := by rw [hz]; norm_cast
        have e2 : Int.tmod ((t : Int) + (j : Int)) (n : Int) = (z : Int) := by rw [Int.tmod_eq_emod_of_nonneg (by omega)]; exact e1
        have z0 : (0 : Int) ≤ (z : Int) := by omega
        have z1 : (z : Int) < (n : Int) := by omega
        have HZ := mkHid hz
        have yb : y ≤ 8160 := by omega
        have Y := mkHid (And.intro y2 (And.intro y3 y4))
        clear hz y2 y3 y4
        go_wp2
        go_roundw
        case rel => exact ⟨j + 1, 31 * y + u, by omega, by go_num, rfl, by omega, by omega, fun h => by omega, fun h => by have := Y.out.1; omega, fun h => by have := Y.out.2.1; omega, by trivial⟩
        case measure => simp [intOf]; omega
      · have y5 : 0 ≤ y + (t : Int) := by omega
        clear y2 y3 y4
        go_wp2
        go_ret
        exact ⟨_, rfl, Int.emod_nonneg _ (by omega), Int.emod_lt_of_pos _ (by omega), rfl⟩
set_option maxHeartbeats 400000 in
theorem once_any (m : Int) (cb n cap bud : Nat) (a : Option Addr) (w : World) (hm0 : 2 ≤ m) (hm : m ≤ 1000000) (hC : Cur w cb a n cap (bud + 1)) :
    Calls Try.prog 101 #[.pointer (some ⟨cb, 0, none⟩), .int .i64 m] w fun e w' => ∃ r : Bool, e = .returned (.bool r) ∧ Cur w' cb a n cap bud ∧ w.grownBy w' (some cb) := by
  have HC := mkHid hC
  have hw : IntKind.i64.wrap (m - 1) = m - 1 := IntWalk.i64_in _ (by omega)
  have HM := mkHid hm
  clear hC hm hm0
  go_enter Try.func101, Try.ntmps101
  go_wp2_with fail
  refine (pick_any m cb n cap bud a _ HM.out HC.out).mono ?_
  rintro e w' ⟨r, rfl, r0, r1, hC', hG'⟩
  have H1 := mkHid hC'
  have H2 := mkHid hG'
  clear hC' hG'
  go_wp2
  go_ret
  exact ⟨_, rfl, H1.out, H2.out⟩
theorem Box.set0 {v : World} {b : Nat} {x y : Int} (h : Box v b x y) (u : Int) : Box (v.setCell ⟨b, 0, none⟩ (.int .i64 u)) b u y := by
  obtain ⟨h0, h1, h2, h3⟩ := h
  refine ⟨?_, ?_, ?_, ?_⟩ <;> simp [go_sem, h0, h1, h2, h3]
theorem Box.set1 {v : World} {b : Nat} {x y : Int} (h : Box v b x y) (u : Int) : Box (v.setCell ⟨b, 1, none⟩ (.int .i64 u)) b x u := by
  obtain ⟨h0, h1, h2, h3⟩ := h
  refine ⟨?_, ?_, ?_, ?_⟩ <;> simp [go_sem, h0, h1, h2, h3]
theorem Cur.far {w w' : World} {cb n cap bud q : Nat} {a : Option Addr} (h : Cur w cb a n cap bud) (hg : w.grownBy w' (some q)) (hq : cb < q) : Cur w' cb a n cap bud := by
  obtain ⟨x, seed, h1, h2, h3, h4, h5, h6⟩ := h
  have hlt : cb < w.heap.size := by
    rcases Nat.lt_or_ge cb w.heap.size with h | h
    · exact h
    · rw [Array.getElem?_eq_none h] at h1; cases h1
  refine ⟨x, seed, ?_, h2, h3, h4, h5, ?_⟩
  · rw [← h1]
    exact hg.block cb hlt (some_ne (by omega))
  · rcases h6 with h6 | ⟨b, off, e, hb, hc⟩
    · exact .inl h6
    · refine .inr ⟨b, off, e, hb, fun i hi => ?_⟩
      obtain ⟨z, z0, z1, hz⟩ := hc i hi
      exact ⟨z, z0, z1, (hg.cell_far ⟨b, off + i, none⟩ (World.block_lt_of_cell? w _ hz) (some_ne (by show b ≠ q; omega))).trans hz⟩
theorem Cur.less {w : World} {cb n cap bud bud' : Nat} {a : Option Addr} (h : Cur w cb a n cap bud) (hb : bud' ≤ bud) : Cur w cb a n cap bud' := by
  obtain ⟨x, seed, h1, h2, h3⟩ := h
  exact ⟨x, seed, h1, by omega, h3⟩
theorem grown_new {w w' : World} {r : Option Nat} (h : w.grownBy w' r) {p : Addr} (hp : w.heap.size ≤ p.block) (v : Value) : w.grownBy (w'.setCell p v) r :=
  ⟨h.os, h.tape, h.output, by have := h.size; simpa using this, fun k hk hr => ((grown_setCell w' p v).block k (by have := h.size; omega) (some_ne (by omega))).trans (h.block k hk hr)⟩
theorem grown_alloc {w w' : World} {r : Option Nat} (h : w.grownBy w' r) (o : Obj) : w.grownBy (w'.alloc o) r := h.trans (World.grownBy_alloc w' o r)
theorem Cur.set {w : World} {cb n cap bud : Nat} {a : Option Addr} (h : Cur w cb a n cap bud) {p : Addr} (hp : cb < p.block) (v : Value) : Cur (w.setCell p v) cb a n cap bud := h.far (grown_setCell w p v) hp
set_option maxRecDepth 100000 in
set_option maxHeartbeats 1600000 in
theorem drawSym_any (m : Int) (cb n cap bud : Nat) (a : Option Addr) (w : World) (hm : m ≤ 1000000) (hC : Cur w cb a n cap (bud + 5)) :
    Calls Try.prog 91 #[.pointer (some ⟨cb, 0, none⟩), .int .i64 m] w fun e w' => ∃ p q : Int, e = .returned (.agg #[.int .i64 p, .int .i64 q]) ∧ Cur w' cb a n cap bud ∧ w.grownBy w' (some cb) := by
  have hlt := hC.lt
  have HM := mkHid hm
  have C0 := mkHid (hC.alloc (.cells #[.int .i64 0, .int .i64 0] 46))
  have G0 := mkHid (World.grownBy_alloc w (.cells #[.int .i64 0, .int .i64 0] 46) (some cb))
  have Z0 := mkHid (Box.new' w 0 0 46)
  clear hC hm
  go_enter Try.func91, Try.ntmps91
  go_wp2_with fail
  refine (pick_any m cb n cap (bud + 4) a _ HM.out C0.out).mono ?_
  rintro e w1 ⟨r1, rfl, a1, b1, hC, hG⟩
  have C1 := mkHid hC
  have G1 := mkHid (grown_trans G0.out hG)
  have Z1 := mkHid (Z0.out.grown hG (some_ne (by omega)))
  clear hC hG C0 G0 Z0
  go_wp2_with fail
  refine (pick_any 9 cb n cap (bud + 3) a _ (by omega) C1.out).mono ?_
  rintro e w2 ⟨r2, rfl, a2, b2, hC, hG⟩
  have hw : IntKind.i64.wrap (r2 - 3) = r2 - 3 := IntWalk.i64_in _ (by omega)
  have s1 := Z1.out.lt
  have s2 := hG.size
  have C2 := mkHid (hC.alloc (.cells #[.int .i64 r1, .int .i64 (r2 - 3)] 46))
  have G2 := mkHid (grown_alloc (grown_trans G1.out hG) (.cells #[.int .i64 r1, .int .i64 (r2 - 3)] 46))
  have Z2 := mkHid ((Z1.out.grown hG (some_ne (by omega))).below (below_alloc w2 (.cells #[.int .i64 r1, .int .i64 (r2 - 3)] 46)))
  have S2 := mkHid (Box.new' w2 r1 (r2 - 3) 46)
  obtain ⟨bs, hbs⟩ : ∃ b, w2.heap.size = b := ⟨_, rfl⟩
  rw [hbs] at S2
  have hb1 : w.heap.size < bs := by omega
  clear hC hG C1 G1 Z1 s1 s2 a2 b2
  obtain ⟨y, hy⟩ : ∃ y, r2 - 3 = y := ⟨_, rfl⟩
  rw [hy] at hw C2 G2 Z2 S2
  go_wp2_with fail
  refine (pick_any 40 cb n cap (bud + 2) a _ (by omega) C2.out).mono ?_
  rintro e w3 ⟨r3, rfl, a3, b3, hC, hG⟩
  have C3 := mkHid hC
  have G3 := mkHid (grown_trans G2.out hG)
  have Z3 := mkHid (Z2.out.grown hG (some_ne (by omega)))
  have S3 := mkHid (S2.out.grown hG (some_ne (by omega)))
  clear hC hG C2 G2 Z2 S2 hbs hy
  obtain ⟨s0, s1, s2, s3⟩ := S3.out
  by_cases h0 : r3 = 0
  · subst h0
    have hg := grown_setCell w3 ⟨bs, 0, none⟩ (.int .i64 m)
    have C9 := mkHid (C3.out.set (p := ⟨bs, 0, none⟩) (by show cb < bs; omega) (.int .i64 m))
    have G9 := mkHid (grown_new (p := ⟨bs, 0, none⟩) G3.out (by show w.heap.size ≤ bs; omega) (.int .i64 m))
    have S9 := mkHid (S3.out.set0 m)
    have Z9 := mkHid (Z3.out.grown hg (some_ne (by show w.heap.size ≠ bs; omega)))
    have C8 := mkHid (C9.out.less (bud' := bud) (by omega))
    obtain ⟨q0, q1, q2, q3⟩ := S9.out
    obtain ⟨z0, z1, z2, z3⟩ := Z9.out
    have HC := mkHid (fun u0 u1 => ((C8.out.set (p := ⟨w.heap.size, 0, none⟩) hlt u0).set (p := ⟨w.heap.size, 1, none⟩) hlt u1))
    have HG := mkHid (fun u0 u1 => grown_new (p := ⟨w.heap.size, 1, none⟩) (grown_new (p := ⟨w.heap.size, 0, none⟩) G9.out (Nat.le_refl _) u0) (Nat.le_refl _) u1)
    go_wp2
    exact bodyPost_ret (v := .agg #[.int .i64 m, .int .i64 y]) (by simp [results, Try.results91, go_sem, z0, z1]) rfl ⟨_, _, rfl, HC.out _ _, HG.out _ _⟩
  · have e0 : (r3 == 0) = false := by simp [h0]
    by_cases h1 : r3 = 1
    · subst h1
      have hg := grown_setCell w3 ⟨bs, 0, none⟩ (.int .i64 (-1))
      have C9 := mkHid (C3.out.set (p := ⟨bs, 0, none⟩) (by show cb < bs; omega) (.int .i64 (-1)))
      have G9 := mkHid (grown_new (p := ⟨bs, 0, none⟩) G3.out (by show w.heap.size ≤ bs; omega) (.int .i64 (-1)))
      have S9 := mkHid (S3.out.set0 (-1))
      have Z9 := mkHid (Z3.out.grown hg (some_ne (by show w.heap.size ≠ bs; omega)))
      have C8 := mkHid (C9.out.less (bud' := bud) (by omega))
      obtain ⟨q0, q1, q2, q3⟩ := S9.out
      obtain ⟨z0, z1, z2, z3⟩ := Z9.out
      have HC := mkHid (fun u0 u1 => ((C8.out.set (p := ⟨w.heap.size, 0, none⟩) hlt u0).set (p := ⟨w.heap.size, 1, none⟩) hlt u1))
      have HG := mkHid (fun u0 u1 => grown_new (p := ⟨w.heap.size, 1, none⟩) (grown_new (p := ⟨w.heap.size, 0, none⟩) G9.out (Nat.le_refl _) u0) (Nat.le_refl _) u1)
      go_wp2
      exact bodyPost_ret (v := .agg #[.int .i64 (-1), .int .i64 y]) (by simp [results, Try.results91, go_sem, z0, z1]) rfl ⟨_, _, rfl, HC.out _ _, HG.out _ _⟩
    · have e1 : (r3 == 1) = false := by simp [h1]
      by_cases h2 : r3 = 2
      · subst h2
        clear s0 s1 s2 s3
        obtain ⟨bl, hbl⟩ : ∃ b, w3.heap.size = b := ⟨_, rfl⟩
        have l3 := S3.out.lt
        have C4 := mkHid (C3.out.alloc (.cells #[.int .i64 1000, .int .i64 (-1000), .int .i64 1001, .int .i64 (-1001)] 3))
        have G4 := mkHid (grown_alloc G3.out (.cells #[.int .i64 1000, .int .i64 (-1000), .int .i64 1001, .int .i64 (-1001)] 3))
        have Z4 := mkHid (Z3.out.below (below_alloc w3 (.cells #[.int .i64 1000, .int .i64 (-1000), .int .i64 1001, .int .i64 (-1001)] 3)))
        have S4 := mkHid (S3.out.below (below_alloc w3 (.cells #[.int .i64 1000, .int .i64 (-1000), .int .i64 1001, .int .i64 (-1001)] 3)))
        have R4 : Hid (∀ k : Nat, k < 4 → ∃ x : Int, (w3.alloc (.cells #[.int .i64 1000, .int .i64 (-1000), .int .i64 1001, .int .i64 (-1001)] 3)).cell? ⟨bl, k, none⟩ = some (.int .i64 x)) := mkHid (by
          rw [← hbl]
          intro k hk
          match k, hk with
          | 0, _ => exact ⟨1000, by simp [go_sem]⟩
          | 1, _ => exact ⟨-1000, by simp [go_sem]⟩
          | 2, _ => exact ⟨1001, by simp [go_sem]⟩
          | 3, _ => exact ⟨-1001, by simp [go_sem]⟩)
        go_wp2_with fail
        refine (pick_any 4 cb n cap (bud + 1) a _ (by omega) C4.out).mono ?_
        rintro e w4 ⟨r4, rfl, a4, b4, hC, hG⟩
        obtain ⟨k, rfl⟩ : ∃ k : Nat, r4 = k := ⟨r4.toNat, by omega⟩
        obtain ⟨x, cx⟩ := R4.out k (by omega)
        have cx2 := hG.cell cx (some_ne (by show bl ≠ cb; omega))
        have C5 := mkHid hC
        have G5 := mkHid (grown_trans G4.out hG)
        have Z5 := mkHid (Z4.out.grown hG (some_ne (by omega)))
        have S5 := mkHid (S4.out.grown hG (some_ne (by omega)))
        have k0 : (0 : Int) ≤ (k : Int) := by omega
        have k1 : (k : Int) < 4 := by omega
        clear hC hG cx
        have hg := grown_setCell w4 ⟨bs, 1, none⟩ (.int .i64 x)
        have C9 := mkHid (C5.out.set (p := ⟨bs, 1, none⟩) (by show cb < bs; omega) (.int .i64 x))
        have G9 := mkHid (grown_new (p := ⟨bs, 1, none⟩) G5.out (by show w.heap.size ≤ bs; omega) (.int .i64 x))
        have S9 := mkHid (S5.out.set1 x)
        have Z9 := mkHid (Z5.out.grown hg (some_ne (by show w.heap.size ≠ bs; omega)))
        obtain ⟨s0, s1, s2, s3⟩ := S5.out
        have C8 := mkHid (C9.out.less (bud' := bud) (by omega))
        obtain ⟨q0, q1, q2, q3⟩ := S9.out
        obtain ⟨z0, z1, z2, z3⟩ := Z9.out
        have HC := mkHid (fun u0 u1 => ((C8.out.set (p := ⟨w.heap.size, 0, none⟩) hlt u0).set (p := ⟨w.heap.size, 1, none⟩) hlt u1))
        have HG := mkHid (fun u0 u1 => grown_new (p := ⟨w.heap.size, 1, none⟩) (grown_new (p := ⟨w.heap.size, 0, none⟩) G9.out (Nat.le_refl _) u0) (Nat.le_refl _) u1)
        go_wp2
        exact bodyPost_ret (v := .agg #[.int .i64 r1, .int .i64 x]) (by simp [results, Try.results91, go_sem, z0, z1]) rfl ⟨_, _, rfl, HC.out _ _, HG.out _ _⟩
      · have e2 : (r3 == 2) = false := by simp [h2]
        by_cases h3 : r3 = 3
        · subst h3
          clear s0 s1
          go_wp2_with fail
          refine (number_any cb n cap bud a _ C3.out).mono ?_
          rintro e w4 ⟨r4, rfl, a4, b4, hC, hG⟩
          have C4 := mkHid hC
          have G4 := mkHid (grown_trans G3.out hG)
          have Z4 := mkHid (Z3.out.grown hG (some_ne (by omega)))
          have S4 := mkHid (S3.out.grown hG (some_ne (by omega)))
          clear hC hG
          have hg := grown_setCell w4 ⟨bs, 1, none⟩ (.int .i64 r4)
          have C9 := mkHid (C4.out.set (p := ⟨bs, 1, none⟩) (by show cb < bs; omega) (.int .i64 r4))
          have G9 := mkHid (grown_new (p := ⟨bs, 1, none⟩) G4.out (by show w.heap.size ≤ bs; omega) (.int .i64 r4))
          have S9 := mkHid (S4.out.set1 r4)
          have Z9 := mkHid (Z4.out.grown hg (some_ne (by show w.heap.size ≠ bs; omega)))
          obtain ⟨s0, s1, s2, s3⟩ := S4.out
          have C8 := C9
          obtain ⟨q0, q1, q2, q3⟩ := S9.out
          obtain ⟨z0, z1, z2, z3⟩ := Z9.out
          have HC := mkHid (fun u0 u1 => ((C8.out.set (p := ⟨w.heap.size, 0, none⟩) hlt u0).set (p := ⟨w.heap.size, 1, none⟩) hlt u1))
          have HG := mkHid (fun u0 u1 => grown_new (p := ⟨w.heap.size, 1, none⟩) (grown_new (p := ⟨w.heap.size, 0, none⟩) G9.out (Nat.le_refl _) u0) (Nat.le_refl _) u1)
          go_wp2
          exact bodyPost_ret (v := .agg #[.int .i64 r1, .int .i64 r4]) (by simp [results, Try.results91, go_sem, z0, z1]) rfl ⟨_, _, rfl, HC.out _ _, HG.out _ _⟩
        · have e3 : (r3 == 3) = false := by simp [h3]
          clear h0 h1 h2 h3
          have C9 := mkHid (C3.out.less (bud' := bud) (by omega))
          have G9 := mkHid G3.out
          have S9 := mkHid S3.out
          have Z9 := mkHid Z3.out
          have C8 := C9
          obtain ⟨q0, q1, q2, q3⟩ := S9.out
          obtain ⟨z0, z1, z2, z3⟩ := Z9.out
          have HC := mkHid (fun u0 u1 => ((C8.out.set (p := ⟨w.heap.size, 0, none⟩) hlt u0).set (p := ⟨w.heap.size, 1, none⟩) hlt u1))
          have HG := mkHid (fun u0 u1 => grown_new (p := ⟨w.heap.size, 1, none⟩) (grown_new (p := ⟨w.heap.size, 0, none⟩) G9.out (Nat.le_refl _) u0) (Nat.le_refl _) u1)
          go_wp2
          exact bodyPost_ret (v := .agg #[.int .i64 r1, .int .i64 y]) (by simp [results, Try.results91, go_sem, z0, z1]) rfl ⟨_, _, rfl, HC.out _ _, HG.out _ _⟩
end Go.Proofs.Ytmaejdomlggopaa
