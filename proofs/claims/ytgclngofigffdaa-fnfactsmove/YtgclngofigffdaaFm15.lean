/-
  CONTRACTS of the law's own pick, big and vals, of once and of l08DrawSym.
  CONTRACT of the law's own vals, and what its numbers are.
  PURE: what is so of numbers stays so behind an assignment, under the facts that the assignment leaves.
  CONTRACT of the law's own vals.
  CONTRACT of the program's FactsTop.
-/
import Derived.Test.YtgclngofigffdaaFm10
import Derived.Test.YtgclngofigffdaaFm14
import Derived.Deep.AppendLies
import Derived.Test.YtgclngofigffdaaFm12
import Derived.Test.YtgclngofigffdaaFm13
import Derived.Test.YtgclngofigffdaaFm11
namespace Go.Proofs.Ytgclngofigffdaa
open Go.RowKit

theorem Bytes.up {w w' : World} {B B' n : Nat} {a : Option Addr} (h : Bytes w B a n) (hB : B ≤ B') (hb : Below B w w') : Bytes w' B' a n := by
  rcases h with h | ⟨b, off, e, hbl, hc⟩
  · exact .inl h
  · refine .inr ⟨b, off, e, by omega, fun i hi => ?_⟩
    obtain ⟨z, z0, z1, hz⟩ := hc i hi
    exact ⟨z, z0, z1, (hb.cell (p := ⟨b, off + i, none⟩) hbl).trans hz⟩
theorem openC_any (n cap : Nat) (a : Option Addr) (w : World) (hn : n ≤ 1048576) (hb : Bytes w w.heap.size a n) :
    Calls Try.prog 35 #[.slice a n cap] w fun e w' => ∃ cb, e = .returned (.pointer (some ⟨cb, 0, none⟩)) ∧ w.heap.size ≤ cb ∧ Cur w' cb a n cap 499999 ∧ Below w.heap.size w w' :=
  (open_any n cap a w hn hb).mono fun _ _ h => ⟨_, h.1, Nat.le_refl _, h.2.1, h.2.2⟩
theorem big_any (n cap : Nat) (a : Option Addr) (w : World) (hn : n ≤ maxLen) : Calls Try.prog 6 #[.slice a n cap] w fun e w' => e = .returned (.bool (decide (1048576 < n))) ∧ w = w' := by
  unfold maxLen at hn
  by_cases h : 1048576 < n
  · have h' : (1048576 : Int) < (n : Int) := by omega
    go_enter Try.func6, Try.ntmps6
    go_wp2
    go_ret
    exact ⟨ret_bool (by first | rfl | simp [h]), rfl⟩
  · have h' : ¬ (1048576 : Int) < (n : Int) := by omega
    go_enter Try.func6, Try.ntmps6
    go_wp2
    go_ret
    exact ⟨ret_bool (by first | rfl | simp [h]), rfl⟩
set_option maxHeartbeats 1600000 in
theorem lpick_any (n cap B t : Nat) (m : Int) (a : Option Addr) (w : World) (hn : n ≤ 1048576) (hb : Bytes w B a n) (ht : t ≤ 1000) (hm0 : 2 ≤ m) (hm : m ≤ 10000) :
    Calls Try.prog 22 #[.slice a n cap, .int .i64 t, .int .i64 m] w fun e w' => ∃ r : Int, e = .returned (.int .i64 r) ∧ 0 ≤ r ∧ r < m ∧ w = w' := by
  have HY := mkHid hb
  clear hb
  by_cases h0 : n = 0
  · subst h0
    go_enter Try.func22, Try.ntmps22
    go_wp2
    go_ret
    exact ⟨0, rfl, by omega, by omega, rfl⟩
  · obtain ⟨b, off, rfl, _, hc⟩ : ∃ b off, a = some ⟨b, off, none⟩ ∧ b < B ∧ ∀ i, i < n → ∃ z : Int, 0 ≤ z ∧ z ≤ 255 ∧ w.cell? ⟨b, off + i, none⟩ = some (.int .u8 z) := by
      rcases HY.out with h | h
      · exact absurd h h0
      · exact h
    have HC := mkHid hc
    have n1 : (1 : Int) ≤ (n : Int) := by omega
    have n3 : ¬ n = 0 := h0
    have n4 : ((n : Int) == 0) = false := by simpa using h0
    have n5 : decide (m < 2) = false := by simp; omega
    clear hc HY h0
    go_enter Try.func22, Try.ntmps22
    go_wp2
    go_loopw [7, 8] (fun x k v => ∃ (j : Nat) (y : Int), j ≤ 3 ∧ k = .int .i64 j ∧ x = .int .i64 y ∧ 0 ≤ y ∧ y ≤ 300000 ∧ (j = 0 → y ≤ 0) ∧ (j = 1 → y ≤ 255) ∧ (j = 2 → y ≤ 8160) ∧ v = w) (fun _ k _ => 3 - (intOf k).toNat)
    case atStart => exact ⟨0, 0, by omega, rfl, rfl, by omega, by omega, fun _ => by omega, fun h => by omega, fun h => by omega, rfl⟩
    case round =>
      obtain ⟨j, y, hj, rfl, rfl, y0, y1, y2, y3, y4, rfl⟩ := hrel
      by_cases hlt : j < 3
      · obtain ⟨z, hz⟩ : ∃ z, z = (t + j) % n := ⟨_, rfl⟩
        have hzn : z < n := by rw [hz]; exact Nat.mod_lt _ (by omega)
        obtain ⟨u, u0, u1, c0⟩ := HC.out z hzn
        have e1 : ((t : Int) + (j : Int)) % (n : Int) = (z : Int) := by rw [hz]; norm_cast
        have e2 : Int.tmod ((t : Int) + (j : Int)) (n : Int) = (z : Int) := by rw [Int.tmod_eq_emod_of_nonneg (by omega)]; exact e1
        have z0 : (0 : Int) ≤ (z : Int) := by omega
        have z1 : (z : Int) < (n : Int) := by omega
        have HZ := mkHid hz
        have yb : y ≤ 8160 := by omega
        have Y := mkHid (And.intro y2 (And.intro y3 y4))
        clear hz y2 y3 y4
        go_wp2
        go_roundw
        case rel => exact ⟨j + 1, 31 * y + u, by omega, by go_num, rfl, by omega, by omega, fun h => by omega, fun h => by have := Y.out.1; omega, fun h => by have := Y.out.2.1; omega, by trivial⟩
        case measure => simp [intOf]; omega
      · have y5 : 0 ≤ y + (t : Int) := by omega
        clear y2 y3 y4
        go_wp2
        go_ret
        exact ⟨_, rfl, Int.emod_nonneg _ (by omega), Int.emod_lt_of_pos _ (by omega), rfl⟩
set_option maxHeartbeats 400000 in
theorem once_any (m : Int) (cb n cap bud : Nat) (a : Option Addr) (w : World) (hm0 : 2 ≤ m) (hm : m ≤ 1000000) (hC : Cur w cb a n cap (bud + 1)) :
    Calls Try.prog 70 #[.pointer (some ⟨cb, 0, none⟩), .int .i64 m] w fun e w' => ∃ r : Bool, e = .returned (.bool r) ∧ Cur w' cb a n cap bud ∧ w.grownBy w' (some cb) := by
  have HC := mkHid hC
  have hw : IntKind.i64.wrap (m - 1) = m - 1 := IntWalk.i64_in _ (by omega)
  have HM := mkHid hm
  clear hC hm hm0
  go_enter Try.func70, Try.ntmps70
  go_wp2_with fail
  refine (pick_any m cb n cap bud a _ HM.out HC.out).mono ?_
  rintro e w' ⟨r, rfl, r0, r1, hC', hG'⟩
  have H1 := mkHid hC'
  have H2 := mkHid hG'
  clear hC' hG'
  go_wp2
  go_ret
  exact ⟨_, rfl, H1.out, H2.out⟩
theorem Box.set1 {v : World} {b : Nat} {x y : Int} (h : Box v b x y) (u : Int) : Box (v.setCell ⟨b, 1, none⟩ (.int .i64 u)) b x u := by
  obtain ⟨h0, h1, h2, h3⟩ := h
  refine ⟨?_, ?_, ?_, ?_⟩ <;> simp [go_sem, h0, h1, h2, h3]
theorem Cur.far {w w' : World} {cb n cap bud q : Nat} {a : Option Addr} (h : Cur w cb a n cap bud) (hg : w.grownBy w' (some q)) (hq : cb < q) : Cur w' cb a n cap bud := by
  obtain ⟨x, seed, h1, h2, h3, h4, h5, h6⟩ := h
  have hlt : cb < w.heap.size := by
    rcases Nat.lt_or_ge cb w.heap.size with h | h
    · exact h
    · rw [Array.getElem?_eq_none h] at h1; cases h1
  refine ⟨x, seed, ?_, h2, h3, h4, h5, ?_⟩
  · rw [← h1]
    exact hg.block cb hlt (some_ne (by omega))
  · rcases h6 with h6 | ⟨b, off, e, hb, hc⟩
    · exact .inl h6
    · refine .inr ⟨b, off, e, hb, fun i hi => ?_⟩
      obtain ⟨z, z0, z1, hz⟩ := hc i hi
      exact ⟨z, z0, z1, (hg.cell_far ⟨b, off + i, none⟩ (World.block_lt_of_cell? w _ hz) (some_ne (by show b ≠ q; omega))).trans hz⟩
theorem Cur.less {w : World} {cb n cap bud bud' : Nat} {a : Option Addr} (h : Cur w cb a n cap bud) (hb : bud' ≤ bud) : Cur w cb a n cap bud' := by
  obtain ⟨x, seed, h1, h2, h3⟩ := h
  exact ⟨x, seed, h1, by omega, h3⟩
theorem grown_new {w w' : World} {r : Option Nat} (h : w.grownBy w' r) {p : Addr} (hp : w.heap.size ≤ p.block) (v : Value) : w.grownBy (w'.setCell p v) r :=
  ⟨h.os, h.tape, h.output, by have := h.size; simpa using this, fun k hk hr => ((grown_setCell w' p v).block k (by have := h.size; omega) (some_ne (by omega))).trans (h.block k hk hr)⟩
theorem grown_alloc {w w' : World} {r : Option Nat} (h : w.grownBy w' r) (o : Obj) : w.grownBy (w'.alloc o) r := h.trans (World.grownBy_alloc w' o r)
theorem Cur.set {w : World} {cb n cap bud : Nat} {a : Option Addr} (h : Cur w cb a n cap bud) {p : Addr} (hp : cb < p.block) (v : Value) : Cur (w.setCell p v) cb a n cap bud := h.far (grown_setCell w p v) hp
end Go.Proofs.Ytgclngofigffdaa
namespace Go.Proofs.Ytgclngofigffdaa
open Go.RowKit

/-- Numbers of a state: 0 first, each small. -/
def Vgood (l : List Int) : Prop := (∀ x ∈ l, -6 ≤ x ∧ x ≤ 17) ∧ l.getD 0 0 = 0
theorem Vgood.nil : Vgood [] := ⟨fun x h => absurd h (by simp), rfl⟩
theorem Vgood.more {l : List Int} {x : Int} (h : Vgood l) (h0 : l ≠ []) (h1 : -6 ≤ x) (h2 : x ≤ 17) : Vgood (l ++ [x]) := by
  refine ⟨fun y hy => ?_, ?_⟩
  · rcases List.mem_append.1 hy with h' | h'
    · exact h.1 y h'
    · simp at h'; omega
  · cases l with
    | nil => exact absurd rfl h0
    | cons a l => exact h.2
theorem Vgood.one : Vgood [0] := ⟨fun x h => by simp at h; omega, rfl⟩
set_option maxRecDepth 100000 in
set_option maxHeartbeats 3200000 in
theorem vals2_any (n cap t : Nat) (z : Int) (a : Option Addr) (w : World) (hn : n ≤ 1048576) (hb : Bytes w w.heap.size a n) (ht : t ≤ 100) (hz : z ≤ 20) :
    Calls Try.prog 19 #[.slice a n cap, .int .i64 t, .int .i64 z] w fun e w' => ∃ (l : List Int) (ao : Option Addr) (cp : Nat), e = .returned (.slice ao l.length cp) ∧ l.length = z.toNat ∧ Vgood l ∧ OwnI w' w.heap.size (.slice ao l.length cp) l ∧ Below w.heap.size w w' := by
  obtain ⟨i0, hi, hzz'⟩ := Option.map_eq_some_iff.1 Try.info3
  simp only [Prod.mk.injEq] at hzz'
  obtain ⟨hz0, hz1, hz2⟩ := hzz'
  have HI := mkHid (show Try.prog.info? 3 = some i0 ∧ i0.zero = some (.int .i64 0) ∧ i0.size = 1 ∧ i0.bytes = 8 from ⟨hi, hz0, hz1, hz2⟩)
  have HBY := mkHid hb
  have HN := mkHid hn
  have E8 : Hid (OwnI (w.alloc (.cells #[] 3)) w.heap.size (.slice (some ⟨w.heap.size, 0, none⟩) 0 0) []) := mkHid (OwnI.fresh (Nat.le_refl _) (heap_alloc_last w (.cells #[] 3)))
  have F8 := mkHid ((Below.refl w.heap.size w).alloc (Nat.le_refl _) (.cells #[] 3))
  obtain ⟨w9, hw9⟩ : ∃ w9, w.alloc (.cells #[] 3) = w9 := ⟨_, rfl⟩
  rw [hw9] at E8 F8
  have HW9 := mkHid hw9
  obtain ⟨q, hq⟩ : ∃ q, z.toNat = q := ⟨_, rfl⟩
  have hq20 : q ≤ 20 := by omega
  clear hi hz0 hz1 hz2 hb hn hw9
  go_enter Try.func19, Try.ntmps19
  go_wp2_with fail
  rw [HW9.out]
  go_loopg [7, 8] q (fun gh s7 s wr => ∃ (u : Nat) (l : List Int) (ao : Option Addr) (cp : Nat), u + gh = q ∧ (l.length = u ∧ Vgood l) ∧ s = .int .i64 u ∧ s7 = .slice ao u cp ∧ OwnI wr w.heap.size (.slice ao u cp) l ∧ Below w.heap.size w wr)
  case atStart => exact ⟨0, [], some ⟨w.heap.size, 0, none⟩, 0, by omega, ⟨rfl, Vgood.nil⟩, rfl, rfl, E8.out, F8.out⟩
  case round =>
    obtain ⟨u, l, ao, cp, hug, ⟨hlu, hvg⟩, rfl, rfl, hO, hB⟩ := hrel
    have HVG := mkHid hvg
    clear hvg
    have HO := mkHid hO
    have HB := mkHid hB
    have HLU := mkHid hlu
    clear hO hB hlu E8 F8
    cases gk with
    | zero =>
      have hlt : ¬ ((u : Int) < z) := by omega
      obtain rfl : l.length = u := HLU.out
      go_wp2
      go_ret
      exact ⟨l, ao, cp, rfl, by omega, HVG.out, HO.out, HB.out⟩
    | succ gh =>
      have hlt : (u : Int) < z := by omega
      have e5 : ((5 : Int) * (u : Int)) = ((5 * u : Nat) : Int) := by omega
      have e6 : ((t : Int) + ((5 * u : Nat) : Int)) = ((t + 5 * u : Nat) : Int) := by omega
      have hw5 : IntKind.i64.wrap ((5 : Int) * (u : Int)) = ((5 * u : Nat) : Int) := by rw [e5]; exact IntWalk.i64_in _ (by omega)
      have hw6 : IntKind.i64.wrap ((t : Int) + ((5 * u : Nat) : Int)) = ((t + 5 * u : Nat) : Int) := by rw [e6]; exact IntWalk.i64_in _ (by omega)
      obtain ⟨k5, hk5⟩ : ∃ k, 5 * u = k := ⟨_, rfl⟩
      rw [hk5] at hw5 hw6
      obtain ⟨k6, hk6⟩ : ∃ k, t + k5 = k := ⟨_, rfl⟩
      rw [hk6] at hw6
      have hk : k6 ≤ 1000 := by omega
      clear e5 e6
      go_wp2_with fail
      refine (lpick_any n _ wr.heap.size k6 24 a _ HN.out (HBY.out.up HB.out.size HB.out) hk (by omega) (by omega)).mono ?_
      rintro e w' ⟨r, rfl, r0, r1, rfl⟩
      have hwr : IntKind.i64.wrap (r - 6) = r - 6 := IntWalk.i64_in _ (by omega)
      have sz := HB.out.size
      have STEP : ∀ x : Int, ∀ g' cap' w4, w4.ownsRow w.heap.size 3 1 (.slice (some ⟨g', 0, none⟩) (u + 1) cap') (u + 1) (ints l ++ [.int .i64 x]) → (wr.alloc (.cells #[.int .i64 x] 3)).grownBy w4 (Value.ownBlock (.slice ao u cp)) → Hid ((l ++ [x]).length = u + 1 ∧ OwnI w4 w.heap.size (.slice (some ⟨g', 0, none⟩) (u + 1) cap') (l ++ [x]) ∧ Below w.heap.size w w4) := fun x g' cap' w4 hown hgrow => mkHid ⟨by simp [HLU.out], by
        unfold OwnI
        rw [← ints_snoc, List.length_append, HLU.out]
        exact hown, (HB.out.alloc HB.out.size _).grown hgrow (by simp; omega) (fun q' hq' => (HO.out.lt hq').1)⟩
      have HSTEP := mkHid STEP
      have HOWN : Hid (∀ x : Int, (wr.alloc (.cells #[.int .i64 x] 3)).ownsRow w.heap.size 3 1 (.slice ao u cp) u (ints l)) := mkHid fun x => World.ownsRow.alloc (by have := HO.out; unfold OwnI at this; rwa [HLU.out] at this) _
      clear STEP
      cases hu0 : ((u : Int) == 0)
      · skip
        go_wp2_with (at_builtin; refine wpList_append_lies _ rfl _ _ 24 rfl w.heap.size 3 i0 (.int .i64 0) 1 8 Try.underlying24 HI.out.1 HI.out.2.1 HI.out.2.2.1 HI.out.2.2.2 rfl (by decide) (.slice ao u cp) u (ints l) rfl (HOWN.out (r - 6)) ⟨wr.heap.size, 0, none⟩ 1 1 [.int .i64 (r - 6)] rfl (by rfl) (World.news_of_block (heap_alloc_last wr _)) (fun u hu => by simp at hu; rcases hu with rfl; rfl) (by decide) (by unfold maxLen; omega) (by omega) (by simp; omega) (wr.heap.size + 1) (by simp) ?_; intro g' cap' w4 hown hgrow hat hlt4)
        have HQ := HSTEP.out (r - 6) g' cap' w4 hown hgrow
        clear hown hgrow hat hlt4
        go_wp2
        go_roundg gh
        case measure => omega
        case rel => exact ⟨u + 1, l ++ [(r - 6)], some ⟨g', 0, none⟩, cap', by omega, ⟨HQ.out.1, HVG.out.more (fun e => by have := HLU.out; rw [e] at this; simp at this hu0; omega) (by omega) (by omega)⟩, by go_num, rfl, HQ.out.2.1, HQ.out.2.2⟩
      · skip
        go_wp2_with (at_builtin; refine wpList_append_lies _ rfl _ _ 24 rfl w.heap.size 3 i0 (.int .i64 0) 1 8 Try.underlying24 HI.out.1 HI.out.2.1 HI.out.2.2.1 HI.out.2.2.2 rfl (by decide) (.slice ao u cp) u (ints l) rfl (HOWN.out 0) ⟨wr.heap.size, 0, none⟩ 1 1 [.int .i64 0] rfl (by rfl) (World.news_of_block (heap_alloc_last wr _)) (fun u hu => by simp at hu; rcases hu with rfl; rfl) (by decide) (by unfold maxLen; omega) (by omega) (by simp; omega) (wr.heap.size + 1) (by simp) ?_; intro g' cap' w4 hown hgrow hat hlt4)
        have HQ := HSTEP.out 0 g' cap' w4 hown hgrow
        clear hown hgrow hat hlt4
        go_wp2
        go_roundg gh
        case measure => omega
        case rel => exact ⟨u + 1, l ++ [0], some ⟨g', 0, none⟩, cap', by omega, ⟨HQ.out.1, by have h := HLU.out; have hu1 : u = 0 := (by simpa using hu0); rw [hu1] at h; rw [List.length_eq_zero_iff.1 h]; exact Vgood.one⟩, by go_num, rfl, HQ.out.2.1, HQ.out.2.2⟩
end Go.Proofs.Ytgclngofigffdaa
namespace Go.Proofs.Ytgclngofigffdaa
open Go.RowKit

/-- Some facts, and they are so of these numbers. -/
def SatO (n : Nat) (o : Option Tab) (v : List Int) : Prop := ∃ f, o = some f ∧ ∀ a b, a < n → b < n → v.getD a 0 - v.getD b 0 ≤ f a b
/-- Numbers that may be. -/
structure VOk (n : Nat) (v : List Int) : Prop where
  len : v.length = n
  zero : v.getD 0 0 = 0
  all : valsB v = true
theorem VOk.cap {n : Nat} {v : List Int} (h : VOk n v) {a b : Nat} (ha : a < n) (hb : b < n) : v.getD a 0 - v.getD b 0 ≤ capT a b := by
  have h1 := vals_get h.all (i := a) (by rw [h.len]; exact ha)
  have h2 := vals_get h.all (i := b) (by rw [h.len]; exact hb)
  have h0 := h.zero
  unfold capT
  split
  · rename_i e; subst e; omega
  · split
    · rename_i e; rcases e with rfl | rfl <;> omega
    · omega
theorem sat_has {n : Nat} {o : Option Tab} {v : List Int} (hf : FineO n o) (hv : VOk n v) (h : SatO n o v) : hasF (outZ o n) (outL o n) v = true := by
  obtain ⟨f, rfl, hs⟩ := h
  obtain ⟨h1, h2, h3⟩ := hf f rfl
  show hasF (n : Int) (mk n f) v = true
  refine has_all (ok_mk h1 h2 h3) ?_ ?_
  · unfold vOkB
    rw [hv.all, decide_eq_true ⟨hv.len, hv.zero⟩]; rfl
  · intro p hp
    rw [mk_len] at hp
    have hd : p / n < n := Nat.div_lt_of_lt_mul hp
    have hm : p % n < n := Nat.mod_lt _ (by omega)
    refine decide_eq_true ?_
    have hg : (mk n f).getD p 0 = f (p / n) (p % n) := by simp [mk, List.getD_eq_getElem?_getD, hp]
    rw [hg]
    exact hs _ _ hd hm
theorem sat_clo' {n : Nat} {f : Tab} {v : List Int} (h : ∀ a b, a < n → b < n → v.getD a 0 - v.getD b 0 ≤ f a b) : SatO n (cloO n f) v := by
  have := sat_clo (v := fun a => v.getD a 0) h
  exact ⟨clo n f, by unfold cloO; rw [if_pos this.1], this.2⟩
theorem sat_add {n : Nat} {o : Option Tab} {v : List Int} {i j : Nat} {c : Int} (h : SatO n o v) (hc : v.getD i 0 - v.getD j 0 ≤ c) (hl : -2000000 ≤ c) : SatO n (addO n i j c o) v := by
  obtain ⟨f, rfl, hs⟩ := h
  show SatO n (if c < -2000000 then none else cloO n (setT f i j c)) v
  rw [if_neg (by omega)]
  refine sat_clo' fun a b ha hb => ?_
  have := hs a b ha hb
  unfold setT
  split
  · rename_i e; obtain ⟨rfl, rfl⟩ := e; omega
  · exact this
theorem sat_ok {z : Int} {l v : List Int} (h : hasF z l v = true) : SatO z.toNat (okO z l) v ∧ VOk z.toNat v := by
  obtain ⟨n, rfl, q1, q2, hok, hlen, h0, hv, h4⟩ := has_of h
  rw [okO_yes hok, Int.toNat_natCast]
  exact ⟨⟨_, rfl, h4⟩, hlen, h0, hv⟩
theorem out_ok {z : Int} {l : List Int} (h : okF z l = true) : outZ (okO z l) z.toNat = z ∧ 1 ≤ z ∧ z ≤ 13 := by
  obtain ⟨n, rfl, q1, q2, _, _, _⟩ := ok_of h
  rw [okO_yes h]
  exact ⟨by simp [outZ], by omega, by omega⟩
theorem has_ok' {z : Int} {l v : List Int} (h : hasF z l v = true) : okF z l = true := by
  cases hk : okF z l
  · rw [has_ok hk] at h; cases h
  · rfl
/-- The range of a variable has the variable's number. -/
theorem rng_has {z : Int} {l v : List Int} {i : Nat} (h : hasF z l v = true) (hi : i < z.toNat) : (rngF z l i).1 ≤ v.getD i 0 ∧ v.getD i 0 ≤ (rngF z l i).2 ∧ -1000000 ≤ (rngF z l i).1 ∧ (rngF z l i).2 ≤ 1000000 := by
  obtain ⟨f, hf, hs⟩ := has_cF h
  have hq := cF_fine z l f hf
  have hV := (sat_ok h).2
  have e : rngF z l i = (-(f 0 i), f i 0) := by
    show rngO (cF z l) z.toNat i = _
    rw [hf]
    show (if symB i z.toNat then _ else _) = _
    rw [if_pos (by unfold symB; exact decide_eq_true ⟨by omega, by omega⟩)]
    simp
  rw [e]
  have h1 := hs 0 i (by omega) hi
  have h2 := hs i 0 hi (by omega)
  have h3 := hq.2.2 0 i (by omega) hi
  have h4 := hq.2.2 i 0 hi (by omega)
  have h0 := hV.zero
  have c1 : capT 0 i ≤ 1000000 := by unfold capT; split; omega; rw [if_pos (.inl rfl)]; omega
  have c2 : capT i 0 ≤ 1000000 := by unfold capT; split; omega; rw [if_pos (.inr rfl)]; omega
  exact ⟨by show -(f 0 i) ≤ _; omega, by show _ ≤ f i 0; omega, by show _ ≤ -(f 0 i); omega, by show f i 0 ≤ _; omega⟩
/-- Bound by its own number, a variable's facts stay so. -/
theorem bnd_has {z : Int} {l v : List Int} {i : Nat} (h : hasF z l v = true) (hi : i < z.toNat) (h1 : -1000000 ≤ v.getD i 0) (h2 : v.getD i 0 + 2 ≤ 1000000) : hasF (outZ (bndF z l i (v.getD i 0) (v.getD i 0 + 2)) z.toNat) (outL (bndF z l i (v.getD i 0) (v.getD i 0 + 2)) z.toNat) v = true := by
  obtain ⟨hS, hV⟩ := sat_ok h
  have h0 := hV.zero
  refine sat_has (bndF_fine _ _ _ _ _) hV ?_
  unfold bndF
  rw [if_pos]
  · rw [Int.toNat_natCast]
    exact sat_add (sat_add hS (by omega) (by omega)) (by omega) (by omega)
  · obtain ⟨e, e1, e2⟩ := out_ok (has_ok' h)
    unfold bndB
    rw [Bool.and_eq_true, some_iff, e]
    exact ⟨by unfold symB; exact decide_eq_true ⟨by omega, by omega⟩, by omega, by omega, by omega⟩
theorem getD_put {v : List Int} {i : Nat} {x : Int} (hi : i < v.length) (a : Nat) : (v.set i x).getD a 0 = if a = i then x else v.getD a 0 := by
  rw [List.getD_eq_getElem?_getD, List.getElem?_set]
  split
  · rename_i e; subst e; rw [if_pos rfl]; simp
  · rename_i e; rw [if_neg (fun h => e h.symm)]; simp [List.getD_eq_getElem?_getD]
theorem VOk.put {n : Nat} {v : List Int} (h : VOk n v) {i : Nat} {x : Int} (hi : i < n) (h1 : 1 ≤ i) (hx : -1000000 ≤ x ∧ x ≤ 1000000) : VOk n (v.set i x) := by
  refine ⟨by simp [h.len], ?_, ?_⟩
  · rw [getD_put (by rw [h.len]; exact hi), if_neg (by omega)]; exact h.zero
  · unfold valsB
    rw [List.all_eq_true]
    intro y hy
    rcases List.mem_or_eq_of_mem_set hy with q | rfl
    · exact List.all_eq_true.1 h.all y q
    · exact decide_eq_true hx
theorem forg_sat {z : Int} {l v : List Int} {i : Nat} {x : Int} (h : hasF z l v = true) (hi : i < z.toNat) (h1 : 1 ≤ i) (hx : -1000000 ≤ x ∧ x ≤ 1000000) : SatO z.toNat (forgF z l i) (v.set i x) := by
  obtain ⟨hS, hV⟩ := sat_ok h
  obtain ⟨f, hf, hs⟩ := has_cF h
  obtain ⟨e, e1, e2⟩ := out_ok (has_ok' h)
  have hP := hV.put hi h1 hx
  unfold forgF
  rw [if_pos (by rw [e]; unfold setB; exact decide_eq_true ⟨by omega, by omega⟩), show (okO z l).bind (cloO z.toNat) = some f from hf]
  refine ⟨_, rfl, fun a b ha hb => ?_⟩
  rw [Int.toNat_natCast]
  unfold freeT
  split
  · exact hP.cap ha hb
  · rename_i q
    rw [getD_put (by rw [hV.len]; exact hi) a, getD_put (by rw [hV.len]; exact hi) b, if_neg (by omega), if_neg (by omega)]
    exact hs a b ha hb
theorem forg_has {z : Int} {l v : List Int} {i : Nat} {x : Int} (h : hasF z l v = true) (hi : i < z.toNat) (h1 : 1 ≤ i) (hx : -1000000 ≤ x ∧ x ≤ 1000000) : hasF (outZ (forgF z l i) z.toNat) (outL (forgF z l i) z.toNat) (v.set i x) = true :=
  sat_has (forgF_fine _ _ _) ((sat_ok h).2.put hi h1 hx) (forg_sat h hi h1 hx)
theorem sh_has {z : Int} {l v : List Int} {i : Nat} {c : Int} (h : hasF z l v = true) (hi : i < z.toNat) (h1 : 1 ≤ i) (hx : -1000000 ≤ v.getD i 0 + c ∧ v.getD i 0 + c ≤ 1000000) (hc : -2000000 ≤ c ∧ c ≤ 2000000) : hasF (outZ (shF z l i c) z.toNat) (outL (shF z l i c) z.toNat) (v.set i (v.getD i 0 + c)) = true := by
  obtain ⟨hS, hV⟩ := sat_ok h
  obtain ⟨f, hf, hs⟩ := has_cF h
  obtain ⟨e, e1, e2⟩ := out_ok (has_ok' h)
  have hP := hV.put hi h1 hx
  refine sat_has (shF_fine _ _ _ _) hP ?_
  unfold shF
  rw [if_pos, show (okO z l).bind (cloO z.toNat) = some f from hf]
  · refine sat_clo' fun a b ha hb => ?_
    have hk := hP.cap ha hb
    have hab := hs a b ha hb
    rw [getD_put (by rw [hV.len]; exact hi) a, getD_put (by rw [hV.len]; exact hi) b] at hk ⊢
    rw [Int.toNat_natCast]
    by_cases qa : a = i
    · by_cases qb : b = i
      · have e1 : shT i c f a b = f a b := by unfold shT; rw [if_neg (fun h => h.2 qb), if_neg (fun h => h.2 qa)]
        rw [e1, if_pos qa, if_pos qb]
        rw [qa, qb] at hab ⊢
        omega
      · have e1 : shT i c f a b = min (f i b + c) (capT i b) := by unfold shT; rw [if_pos ⟨qa, qb⟩]
        rw [if_pos qa, if_neg qb] at hk
        rw [e1, if_pos qa, if_neg qb]
        rw [qa] at hab hk
        omega
    · by_cases qb : b = i
      · have e1 : shT i c f a b = min (f a i - c) (capT a i) := by unfold shT; rw [if_neg (fun h => qa h.1), if_pos ⟨qb, qa⟩]
        rw [if_neg qa, if_pos qb] at hk
        rw [e1, if_neg qa, if_pos qb]
        rw [qb] at hab hk
        omega
      · have e1 : shT i c f a b = f a b := by unfold shT; rw [if_neg (fun h => qa h.1), if_neg (fun h => qb h.1)]
        rw [e1, if_neg qa, if_neg qb]
        exact hab
  · unfold shB
    rw [Bool.and_eq_true, e]
    exact ⟨by unfold setB; exact decide_eq_true ⟨by omega, by omega⟩, decide_eq_true hc⟩
theorem copy_has {z : Int} {l v : List Int} {i j : Nat} {c : Int} (h : hasF z l v = true) (hi : i < z.toNat) (hj : j < z.toNat) (hn : i ≠ j) (h1 : 1 ≤ i) (hx : -1000000 ≤ v.getD j 0 + c ∧ v.getD j 0 + c ≤ 1000000) (hc : -2000000 ≤ c ∧ c ≤ 2000000) : hasF (outZ (copyF z l i j c) z.toNat) (outL (copyF z l i j c) z.toNat) (v.set i (v.getD j 0 + c)) = true := by
  obtain ⟨hS, hV⟩ := sat_ok h
  obtain ⟨e, e1, e2⟩ := out_ok (has_ok' h)
  have hP := hV.put hi h1 hx
  refine sat_has (copyF_fine _ _ _ _ _) hP ?_
  have hF := forg_sat h hi h1 hx
  have g1 : (v.set i (v.getD j 0 + c)).getD i 0 = v.getD j 0 + c := by rw [getD_put (by rw [hV.len]; exact hi), if_pos rfl]
  have g2 : (v.set i (v.getD j 0 + c)).getD j 0 = v.getD j 0 := by rw [getD_put (by rw [hV.len]; exact hi), if_neg (fun q => hn q.symm)]
  unfold copyF
  rw [if_pos]
  · rw [Int.toNat_natCast, Int.toNat_natCast]
    exact sat_add (sat_add hF (by rw [g1, g2]; omega) (by omega)) (by rw [g1, g2]; omega) (by omega)
  · unfold cpB
    rw [Bool.and_eq_true, Bool.and_eq_true, Bool.and_eq_true, e]
    refine ⟨by unfold setB; exact decide_eq_true ⟨by omega, by omega⟩, by unfold symB; exact decide_eq_true ⟨by omega, by omega⟩, ?_, decide_eq_true hc⟩
    have : ((i : Int) == (j : Int)) = false := by rw [beq_eq_false_iff_ne]; omega
    rw [this]; rfl
end Go.Proofs.Ytgclngofigffdaa
namespace Go.Proofs.Ytgclngofigffdaa
open Go.RowKit

end Go.Proofs.Ytgclngofigffdaa
namespace Go.Proofs.Ytgclngofigffdaa
open Go.RowKit

def topO (z : Int) : Option Tab := if btw z 1 13 then some capT else none
end Go.Proofs.Ytgclngofigffdaa
