/-
  CONTRACT of the law's own vals.
-/
import Derived.Test.YtmaejdomlggopaaDr0
namespace Go.Proofs.Ytmaejdomlggopaa
open Go.RowKit

set_option maxRecDepth 100000 in
set_option maxHeartbeats 3200000 in
theorem vals_any (n cap t : Nat) (z : Int) (a : Option Addr) (w : World) (hn : n ≤ 1048576) (hb : Bytes w w.heap.size a n) (ht : t ≤ 100) (hz : z ≤ 20) :
    Calls Try.prog 43 #[.slice a n cap, .int .i64 t, .int .i64 z] w fun e w' => ∃ (l : List Int) (ao : Option Addr) (cp : Nat), e = .returned (.slice ao l.length cp) ∧ l.length ≤ 20 ∧ OwnI w' w.heap.size (.slice ao l.length cp) l ∧ Below w.heap.size w w' := by
  obtain ⟨i0, hi, hzz'⟩ := Option.map_eq_some_iff.1 Try.info3
  simp only [Prod.mk.injEq] at hzz'
  obtain ⟨hz0, hz1, hz2⟩ := hzz'
  have HI := mkHid (show Try.prog.info? 3 = some i0 ∧ i0.zero = some (.int .i64 0) ∧ i0.size = 1 ∧ i0.bytes = 8 from ⟨hi, hz0, hz1, hz2⟩)
  have HBY := mkHid hb
  have HN := mkHid hn
  have E8 : Hid (OwnI (w.alloc (.cells #[] 3)) w.heap.size (.slice (some ⟨w.heap.size, 0, none⟩) 0 0) []) := mkHid (OwnI.fresh (Nat.le_refl _) (heap_alloc_last w (.cells #[] 3)))
  have F8 := mkHid ((Below.refl w.heap.size w).alloc (Nat.le_refl _) (.cells #[] 3))
  obtain ⟨w9, hw9⟩ : ∃ w9, w.alloc (.cells #[] 3) = w9 := ⟨_, rfl⟩
  rw [hw9] at E8 F8
  have HW9 := mkHid hw9
  obtain ⟨q, hq⟩ : ∃ q, z.toNat = q := ⟨_, rfl⟩
  have hq20 : q ≤ 20 := by omega
  clear hi hz0 hz1 hz2 hb hn hw9
  go_enter Try.func43, Try.ntmps43
  go_wp2_with fail
  rw [HW9.out]
  go_loopg [7, 8] q (fun gh s7 s wr => ∃ (u : Nat) (l : List Int) (ao : Option Addr) (cp : Nat), u + gh = q ∧ l.length = u ∧ s = .int .i64 u ∧ s7 = .slice ao u cp ∧ OwnI wr w.heap.size (.slice ao u cp) l ∧ Below w.heap.size w wr)
  case atStart => exact ⟨0, [], some ⟨w.heap.size, 0, none⟩, 0, by omega, rfl, rfl, rfl, E8.out, F8.out⟩
  case round =>
    obtain ⟨u, l, ao, cp, hug, hlu, rfl, rfl, hO, hB⟩ := hrel
    have HO := mkHid hO
    have HB := mkHid hB
    have HLU := mkHid hlu
    clear hO hB hlu E8 F8
    cases gk with
    | zero =>
      have hlt : ¬ ((u : Int) < z) := by omega
      obtain rfl : l.length = u := HLU.out
      go_wp2
      go_ret
      exact ⟨l, ao, cp, rfl, by omega, HO.out, HB.out⟩
    | succ gh =>
      have hlt : (u : Int) < z := by omega
      have e5 : ((5 : Int) * (u : Int)) = ((5 * u : Nat) : Int) := by omega
      have e6 : ((t : Int) + ((5 * u : Nat) : Int)) = ((t + 5 * u : Nat) : Int) := by omega
      have hw5 : IntKind.i64.wrap ((5 : Int) * (u : Int)) = ((5 * u : Nat) : Int) := by rw [e5]; exact IntWalk.i64_in _ (by omega)
      have hw6 : IntKind.i64.wrap ((t : Int) + ((5 * u : Nat) : Int)) = ((t + 5 * u : Nat) : Int) := by rw [e6]; exact IntWalk.i64_in _ (by omega)
      obtain ⟨k5, hk5⟩ : ∃ k, 5 * u = k := ⟨_, rfl⟩
      rw [hk5] at hw5 hw6
      obtain ⟨k6, hk6⟩ : ∃ k, t + k5 = k := ⟨_, rfl⟩
      rw [hk6] at hw6
      have hk : k6 ≤ 1000 := by omega
      clear e5 e6
      go_wp2_with fail
      refine (lpick_any n _ wr.heap.size k6 24 a _ HN.out (HBY.out.up HB.out.size HB.out) hk (by omega) (by omega)).mono ?_
      rintro e w' ⟨r, rfl, r0, r1, rfl⟩
      have hwr : IntKind.i64.wrap (r - 6) = r - 6 := IntWalk.i64_in _ (by omega)
      have sz := HB.out.size
      have STEP : ∀ x : Int, ∀ g' cap' w4, w4.ownsRow w.heap.size 3 1 (.slice (some ⟨g', 0, none⟩) (u + 1) cap') (u + 1) (ints l ++ [.int .i64 x]) → (wr.alloc (.cells #[.int .i64 x] 3)).grownBy w4 (Value.ownBlock (.slice ao u cp)) → Hid ((l ++ [x]).length = u + 1 ∧ OwnI w4 w.heap.size (.slice (some ⟨g', 0, none⟩) (u + 1) cap') (l ++ [x]) ∧ Below w.heap.size w w4) := fun x g' cap' w4 hown hgrow => mkHid ⟨by simp [HLU.out], by
        unfold OwnI
        rw [← ints_snoc, List.length_append, HLU.out]
        exact hown, (HB.out.alloc HB.out.size _).grown hgrow (by simp; omega) (fun q' hq' => (HO.out.lt hq').1)⟩
      have HSTEP := mkHid STEP
      have HOWN : Hid (∀ x : Int, (wr.alloc (.cells #[.int .i64 x] 3)).ownsRow w.heap.size 3 1 (.slice ao u cp) u (ints l)) := mkHid fun x => World.ownsRow.alloc (by have := HO.out; unfold OwnI at this; rwa [HLU.out] at this) _
      clear STEP
      cases hu0 : ((u : Int) == 0)
      · skip
        go_wp2_with (at_builtin; refine wpList_append_lies _ rfl _ _ 22 rfl w.heap.size 3 i0 (.int .i64 0) 1 8 Try.underlying22 HI.out.1 HI.out.2.1 HI.out.2.2.1 HI.out.2.2.2 rfl (by decide) (.slice ao u cp) u (ints l) rfl (HOWN.out (r - 6)) ⟨wr.heap.size, 0, none⟩ 1 1 [.int .i64 (r - 6)] rfl (by rfl) (World.news_of_block (heap_alloc_last wr _)) (fun u hu => by simp at hu; rcases hu with rfl; rfl) (by decide) (by unfold maxLen; omega) (by omega) (by simp; omega) (wr.heap.size + 1) (by simp) ?_; intro g' cap' w4 hown hgrow hat hlt4)
        have HQ := HSTEP.out (r - 6) g' cap' w4 hown hgrow
        clear hown hgrow hat hlt4
        go_wp2
        go_roundg gh
        case measure => omega
        case rel => exact ⟨u + 1, l ++ [(r - 6)], some ⟨g', 0, none⟩, cap', by omega, HQ.out.1, by go_num, rfl, HQ.out.2.1, HQ.out.2.2⟩
      · skip
        go_wp2_with (at_builtin; refine wpList_append_lies _ rfl _ _ 22 rfl w.heap.size 3 i0 (.int .i64 0) 1 8 Try.underlying22 HI.out.1 HI.out.2.1 HI.out.2.2.1 HI.out.2.2.2 rfl (by decide) (.slice ao u cp) u (ints l) rfl (HOWN.out 0) ⟨wr.heap.size, 0, none⟩ 1 1 [.int .i64 0] rfl (by rfl) (World.news_of_block (heap_alloc_last wr _)) (fun u hu => by simp at hu; rcases hu with rfl; rfl) (by decide) (by unfold maxLen; omega) (by omega) (by simp; omega) (wr.heap.size + 1) (by simp) ?_; intro g' cap' w4 hown hgrow hat hlt4)
        have HQ := HSTEP.out 0 g' cap' w4 hown hgrow
        clear hown hgrow hat hlt4
        go_wp2
        go_roundg gh
        case measure => omega
        case rel => exact ⟨u + 1, l ++ [0], some ⟨g', 0, none⟩, cap', by omega, HQ.out.1, by go_num, rfl, HQ.out.2.1, HQ.out.2.2⟩
end Go.Proofs.Ytmaejdomlggopaa
