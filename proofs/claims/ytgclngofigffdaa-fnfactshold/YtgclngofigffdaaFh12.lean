/-
  CONTRACT of the law's own vals, and what its numbers are.
  PURE: what is so of numbers stays so behind an assignment, under the facts that the assignment leaves.
-/
import Derived.Test.YtgclngofigffdaaFh11
import Derived.Test.YtgclngofigffdaaFh10
namespace Go.Proofs.Ytgclngofigffdaa
open Go.RowKit

/-- Numbers of a state: 0 first, each small. -/
def Vgood (l : List Int) : Prop := (∀ x ∈ l, -6 ≤ x ∧ x ≤ 17) ∧ l.getD 0 0 = 0
theorem Vgood.nil : Vgood [] := ⟨fun x h => absurd h (by simp), rfl⟩
theorem Vgood.more {l : List Int} {x : Int} (h : Vgood l) (h0 : l ≠ []) (h1 : -6 ≤ x) (h2 : x ≤ 17) : Vgood (l ++ [x]) := by
  refine ⟨fun y hy => ?_, ?_⟩
  · rcases List.mem_append.1 hy with h' | h'
    · exact h.1 y h'
    · simp at h'; omega
  · cases l with
    | nil => exact absurd rfl h0
    | cons a l => exact h.2
theorem Vgood.one : Vgood [0] := ⟨fun x h => by simp at h; omega, rfl⟩
set_option maxRecDepth 100000 in
set_option maxHeartbeats 3200000 in
theorem vals2_any (n cap t : Nat) (z : Int) (a : Option Addr) (w : World) (hn : n ≤ 1048576) (hb : Bytes w w.heap.size a n) (ht : t ≤ 100) (hz : z ≤ 20) :
    Calls Try.prog 19 #[.slice a n cap, .int .i64 t, .int .i64 z] w fun e w' => ∃ (l : List Int) (ao : Option Addr) (cp : Nat), e = .returned (.slice ao l.length cp) ∧ l.length = z.toNat ∧ Vgood l ∧ OwnI w' w.heap.size (.slice ao l.length cp) l ∧ Below w.heap.size w w' := by
  obtain ⟨i0, hi, hzz'⟩ := Option.map_eq_some_iff.1 Try.info3
  simp only [Prod.mk.injEq] at hzz'
  obtain ⟨hz0, hz1, hz2⟩ := hzz'
  have HI := mkHid (show Try.prog.info? 3 = some i0 ∧ i0.zero = some (.int .i64 0) ∧ i0.size = 1 ∧ i0.bytes = 8 from ⟨hi, hz0, hz1, hz2⟩)
  have HBY := mkHid hb
  have HN := mkHid hn
  have E8 : Hid (OwnI (w.alloc (.cells #[] 3)) w.heap.size (.slice (some ⟨w.heap.size, 0, none⟩) 0 0) []) := mkHid (OwnI.fresh (Nat.le_refl _) (heap_alloc_last w (.cells #[] 3)))
  have F8 := mkHid ((Below.refl w.heap.size w).alloc (Nat.le_refl _) (.cells #[] 3))
  obtain ⟨w9, hw9⟩ : ∃ w9, w.alloc (.cells #[] 3) = w9 := ⟨_, rfl⟩
  rw [hw9] at E8 F8
  have HW9 := mkHid hw9
  obtain ⟨q, hq⟩ : ∃ q, z.toNat = q := ⟨_, rfl⟩
  have hq20 : q ≤ 20 := by omega
  clear hi hz0 hz1 hz2 hb hn hw9
  go_enter Try.func19, Try.ntmps19
  go_wp2_with fail
  rw [HW9.out]
  go_loopg [7, 8] q (fun gh s7 s wr => ∃ (u : Nat) (l : List Int) (ao : Option Addr) (cp : Nat), u + gh = q ∧ (l.length = u ∧ Vgood l) ∧ s = .int .i64 u ∧ s7 = .slice ao u cp ∧ OwnI wr w.heap.size (.slice ao u cp) l ∧ Below w.heap.size w wr)
  case atStart => exact ⟨0, [], some ⟨w.heap.size, 0, none⟩, 0, by omega, ⟨rfl, Vgood.nil⟩, rfl, rfl, E8.out, F8.out⟩
  case round =>
    obtain ⟨u, l, ao, cp, hug, ⟨hlu, hvg⟩, rfl, rfl, hO, hB⟩ := hrel
    have HVG := mkHid hvg
    clear hvg
    have HO := mkHid hO
    have HB := mkHid hB
    have HLU := mkHid hlu
    clear hO hB hlu E8 F8
    cases gk with
    | zero =>
      have hlt : ¬ ((u : Int) < z) := by omega
      obtain rfl : l.length = u := HLU.out
      go_wp2
      go_ret
      exact ⟨l, ao, cp, rfl, by omega, HVG.out, HO.out, HB.out⟩
    | succ gh =>
      have hlt : (u : Int) < z := by omega
      have e5 : ((5 : Int) * (u : Int)) = ((5 * u : Nat) : Int) := by omega
      have e6 : ((t : Int) + ((5 * u : Nat) : Int)) = ((t + 5 * u : Nat) : Int) := by omega
      have hw5 : IntKind.i64.wrap ((5 : Int) * (u : Int)) = ((5 * u : Nat) : Int) := by rw [e5]; exact IntWalk.i64_in _ (by omega)
      have hw6 : IntKind.i64.wrap ((t : Int) + ((5 * u : Nat) : Int)) = ((t + 5 * u : Nat) : Int) := by rw [e6]; exact IntWalk.i64_in _ (by omega)
      obtain ⟨k5, hk5⟩ : ∃ k, 5 * u = k := ⟨_, rfl⟩
      rw [hk5] at hw5 hw6
      obtain ⟨k6, hk6⟩ : ∃ k, t + k5 = k := ⟨_, rfl⟩
      rw [hk6] at hw6
      have hk : k6 ≤ 1000 := by omega
      clear e5 e6
      go_wp2_with fail
      refine (lpick_any n _ wr.heap.size k6 24 a _ HN.out (HBY.out.up HB.out.size HB.out) hk (by omega) (by omega)).mono ?_
      rintro e w' ⟨r, rfl, r0, r1, rfl⟩
      have hwr : IntKind.i64.wrap (r - 6) = r - 6 := IntWalk.i64_in _ (by omega)
      have sz := HB.out.size
      have STEP : ∀ x : Int, ∀ g' cap' w4, w4.ownsRow w.heap.size 3 1 (.slice (some ⟨g', 0, none⟩) (u + 1) cap') (u + 1) (ints l ++ [.int .i64 x]) → (wr.alloc (.cells #[.int .i64 x] 3)).grownBy w4 (Value.ownBlock (.slice ao u cp)) → Hid ((l ++ [x]).length = u + 1 ∧ OwnI w4 w.heap.size (.slice (some ⟨g', 0, none⟩) (u + 1) cap') (l ++ [x]) ∧ Below w.heap.size w w4) := fun x g' cap' w4 hown hgrow => mkHid ⟨by simp [HLU.out], by
        unfold OwnI
        rw [← ints_snoc, List.length_append, HLU.out]
        exact hown, (HB.out.alloc HB.out.size _).grown hgrow (by simp; omega) (fun q' hq' => (HO.out.lt hq').1)⟩
      have HSTEP := mkHid STEP
      have HOWN : Hid (∀ x : Int, (wr.alloc (.cells #[.int .i64 x] 3)).ownsRow w.heap.size 3 1 (.slice ao u cp) u (ints l)) := mkHid fun x => World.ownsRow.alloc (by have := HO.out; unfold OwnI at this; rwa [HLU.out] at this) _
      clear STEP
      cases hu0 : ((u : Int) == 0)
      · skip
        go_wp2_with (at_builtin; refine wpList_append_lies _ rfl _ _ 24 rfl w.heap.size 3 i0 (.int .i64 0) 1 8 Try.underlying24 HI.out.1 HI.out.2.1 HI.out.2.2.1 HI.out.2.2.2 rfl (by decide) (.slice ao u cp) u (ints l) rfl (HOWN.out (r - 6)) ⟨wr.heap.size, 0, none⟩ 1 1 [.int .i64 (r - 6)] rfl (by rfl) (World.news_of_block (heap_alloc_last wr _)) (fun u hu => by simp at hu; rcases hu with rfl; rfl) (by decide) (by unfold maxLen; omega) (by omega) (by simp; omega) (wr.heap.size + 1) (by simp) ?_; intro g' cap' w4 hown hgrow hat hlt4)
        have HQ := HSTEP.out (r - 6) g' cap' w4 hown hgrow
        clear hown hgrow hat hlt4
        go_wp2
        go_roundg gh
        case measure => omega
        case rel => exact ⟨u + 1, l ++ [(r - 6)], some ⟨g', 0, none⟩, cap', by omega, ⟨HQ.out.1, HVG.out.more (fun e => by have := HLU.out; rw [e] at this; simp at this hu0; omega) (by omega) (by omega)⟩, by go_num, rfl, HQ.out.2.1, HQ.out.2.2⟩
      · skip
        go_wp2_with (at_builtin; refine wpList_append_lies _ rfl _ _ 24 rfl w.heap.size 3 i0 (.int .i64 0) 1 8 Try.underlying24 HI.out.1 HI.out.2.1 HI.out.2.2.1 HI.out.2.2.2 rfl (by decide) (.slice ao u cp) u (ints l) rfl (HOWN.out 0) ⟨wr.heap.size, 0, none⟩ 1 1 [.int .i64 0] rfl (by rfl) (World.news_of_block (heap_alloc_last wr _)) (fun u hu => by simp at hu; rcases hu with rfl; rfl) (by decide) (by unfold maxLen; omega) (by omega) (by simp; omega) (wr.heap.size + 1) (by simp) ?_; intro g' cap' w4 hown hgrow hat hlt4)
        have HQ := HSTEP.out 0 g' cap' w4 hown hgrow
        clear hown hgrow hat hlt4
        go_wp2
        go_roundg gh
        case measure => omega
        case rel => exact ⟨u + 1, l ++ [0], some ⟨g', 0, none⟩, cap', by omega, ⟨HQ.out.1, by have h := HLU.out; have hu1 : u = 0 := (by simpa using hu0); rw [hu1] at h; rw [List.length_eq_zero_iff.1 h]; exact Vgood.one⟩, by go_num, rfl, HQ.out.2.1, HQ.out.2.2⟩
end Go.Proofs.Ytgclngofigffdaa
namespace Go.Proofs.Ytgclngofigffdaa
open Go.RowKit

/-- Some facts, and they are so of these numbers. -/
def SatO (n : Nat) (o : Option Tab) (v : List Int) : Prop := ∃ f, o = some f ∧ ∀ a b, a < n → b < n → v.getD a 0 - v.getD b 0 ≤ f a b
/-- Numbers that may be. -/
structure VOk (n : Nat) (v : List Int) : Prop where
  len : v.length = n
  zero : v.getD 0 0 = 0
  all : valsB v = true
theorem VOk.cap {n : Nat} {v : List Int} (h : VOk n v) {a b : Nat} (ha : a < n) (hb : b < n) : v.getD a 0 - v.getD b 0 ≤ capT a b := by
  have h1 := vals_get h.all (i := a) (by rw [h.len]; exact ha)
  have h2 := vals_get h.all (i := b) (by rw [h.len]; exact hb)
  have h0 := h.zero
  unfold capT
  split
  · rename_i e; subst e; omega
  · split
    · rename_i e; rcases e with rfl | rfl <;> omega
    · omega
theorem sat_has {n : Nat} {o : Option Tab} {v : List Int} (hf : FineO n o) (hv : VOk n v) (h : SatO n o v) : hasF (outZ o n) (outL o n) v = true := by
  obtain ⟨f, rfl, hs⟩ := h
  obtain ⟨h1, h2, h3⟩ := hf f rfl
  show hasF (n : Int) (mk n f) v = true
  refine has_all (ok_mk h1 h2 h3) ?_ ?_
  · unfold vOkB
    rw [hv.all, decide_eq_true ⟨hv.len, hv.zero⟩]; rfl
  · intro p hp
    rw [mk_len] at hp
    have hd : p / n < n := Nat.div_lt_of_lt_mul hp
    have hm : p % n < n := Nat.mod_lt _ (by omega)
    refine decide_eq_true ?_
    have hg : (mk n f).getD p 0 = f (p / n) (p % n) := by simp [mk, List.getD_eq_getElem?_getD, hp]
    rw [hg]
    exact hs _ _ hd hm
theorem sat_clo' {n : Nat} {f : Tab} {v : List Int} (h : ∀ a b, a < n → b < n → v.getD a 0 - v.getD b 0 ≤ f a b) : SatO n (cloO n f) v := by
  have := sat_clo (v := fun a => v.getD a 0) h
  exact ⟨clo n f, by unfold cloO; rw [if_pos this.1], this.2⟩
theorem sat_add {n : Nat} {o : Option Tab} {v : List Int} {i j : Nat} {c : Int} (h : SatO n o v) (hc : v.getD i 0 - v.getD j 0 ≤ c) (hl : -2000000 ≤ c) : SatO n (addO n i j c o) v := by
  obtain ⟨f, rfl, hs⟩ := h
  show SatO n (if c < -2000000 then none else cloO n (setT f i j c)) v
  rw [if_neg (by omega)]
  refine sat_clo' fun a b ha hb => ?_
  have := hs a b ha hb
  unfold setT
  split
  · rename_i e; obtain ⟨rfl, rfl⟩ := e; omega
  · exact this
theorem sat_ok {z : Int} {l v : List Int} (h : hasF z l v = true) : SatO z.toNat (okO z l) v ∧ VOk z.toNat v := by
  obtain ⟨n, rfl, q1, q2, hok, hlen, h0, hv, h4⟩ := has_of h
  rw [okO_yes hok, Int.toNat_natCast]
  exact ⟨⟨_, rfl, h4⟩, hlen, h0, hv⟩
theorem out_ok {z : Int} {l : List Int} (h : okF z l = true) : outZ (okO z l) z.toNat = z ∧ 1 ≤ z ∧ z ≤ 13 := by
  obtain ⟨n, rfl, q1, q2, _, _, _⟩ := ok_of h
  rw [okO_yes h]
  exact ⟨by simp [outZ], by omega, by omega⟩
theorem getD_put {v : List Int} {i : Nat} {x : Int} (hi : i < v.length) (a : Nat) : (v.set i x).getD a 0 = if a = i then x else v.getD a 0 := by
  rw [List.getD_eq_getElem?_getD, List.getElem?_set]
  split
  · rename_i e; subst e; rw [if_pos rfl]; simp
  · rename_i e; rw [if_neg (fun h => e h.symm)]; simp [List.getD_eq_getElem?_getD]
theorem VOk.put {n : Nat} {v : List Int} (h : VOk n v) {i : Nat} {x : Int} (hi : i < n) (h1 : 1 ≤ i) (hx : -1000000 ≤ x ∧ x ≤ 1000000) : VOk n (v.set i x) := by
  refine ⟨by simp [h.len], ?_, ?_⟩
  · rw [getD_put (by rw [h.len]; exact hi), if_neg (by omega)]; exact h.zero
  · unfold valsB
    rw [List.all_eq_true]
    intro y hy
    rcases List.mem_or_eq_of_mem_set hy with q | rfl
    · exact List.all_eq_true.1 h.all y q
    · exact decide_eq_true hx
end Go.Proofs.Ytgclngofigffdaa
