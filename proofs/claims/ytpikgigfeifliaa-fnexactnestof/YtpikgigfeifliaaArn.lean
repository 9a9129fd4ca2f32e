/-
  CONTRACT of the program's iterator around.
-/
import Derived.Test.YtpikgigfeifliaaNs
import Derived.RangeFuncLeaves
import Derived.Shelf.Abstract
import Derived.WalkKit
import Derived.OwnWalkIn
import Derived.TacticsInMore
import Derived.LoopNIn
import Derived.LoopIn
import Derived.Maps.AppendAt
namespace Go.Proofs.Ytpikgigfeifliaa
open Go.RowKit Go.Shelf
attribute [local go_sem] Oper.semAt_some

set_option maxHeartbeats 1000000 in
theorem around_in (F : Fence) (n : Nat) (h31 : F.fn 31) (hro : F.round = none) (a : Option Addr) (len cap : Nat) (p : Int) (w : World) :
    CallsIn F n Try.prog 31 #[.slice a len cap, .int .i64 p] w fun e w' => e = .returned (.func (.func 37) #[] #[.pointer (some ⟨w.heap.size, 0, none⟩), .pointer (some ⟨w.heap.size + 1, 0, none⟩)]) ∧ w' = (w.alloc (.cells #[.slice a len cap] 52)).alloc (.cells #[.int .i64 p] 3) := by
  refine callsIn_of_wp Try.func31 rfl h31 ?_ hro
  simp only [Try.ntmps31, List.size_toArray, List.length_cons, List.length_nil, Nat.reduceAdd, Nat.reduceSub, Array.replicate_succ, Array.replicate_zero, List.push_toArray, List.append_toArray, List.nil_append, List.cons_append]
  gi_wp2
  go_ret
  exact ⟨by simp, rfl⟩

set_option maxRecDepth 100000 in
set_option maxHeartbeats 2000000 in
theorem around1_in (F : Fence) (n : Nat) (h37 : F.fn 37) (hro : F.round = none) (hn : 1 ≤ n) (l B g o cap p : Nat) (ls : List Int) (hlen : ls.length ≤ 3000) (hp : p < ls.length) (hcap : ls.length ≤ cap) (hg : g < B) (J Jx : List Int → World → Prop)
    (hY : ∀ pre x W, J pre W → pre.length < p + 1 → YieldAt F (n - 1) Try.prog l #[.int .i64 x] W fun e W' =>
      (e = .returned (.bool true) ∧ J (pre ++ [x]) W' ∧ Sel B W W') ∨ (e = .returned (.bool false) ∧ Jx (pre ++ [x]) W'))
    (W : World) (hA : W.cell? ⟨B + 1, 0, none⟩ = some (.slice (some ⟨g, o, none⟩) ls.length cap)) (hP : W.cell? ⟨B + 2, 0, none⟩ = some (.int .i64 p))
    (hc : ∀ (i : Nat) (x : Int), ls[i]? = some x → W.cell? ⟨g, o + i, none⟩ = some (.int .i64 x)) (h0 : J [] W) :
    CallsIn F n Try.prog 37 #[.func (.yield l) #[] #[], .pointer (some ⟨B + 1, 0, none⟩), .pointer (some ⟨B + 2, 0, none⟩)] W fun e W' => (∃ v, e = .returned v) ∧
      ((∃ ys, ys = nestAt ls p ∧ J ys W') ∨ (∃ pre, True ∧ Jx pre W')) := by
  have p1 : (p : Int) + 1 ≤ cap := by omega
  have p2 : (p : Int) ≤ 3000 := by omega
  have HC := mkHid hc
  clear hc
  refine callsIn_of_wp Try.func37 rfl h37 ?_ hro
  simp only [Try.ntmps37, List.size_toArray, List.length_cons, List.length_nil, Nat.reduceAdd, Nat.reduceSub, Array.replicate_succ, Array.replicate_zero, List.push_toArray, List.append_toArray, List.nil_append, List.cons_append]
  gi_wp2
  gi_loopw [11] (fun i wr => ∃ k : Nat, k ≤ p + 1 ∧ i = .int .i64 k ∧ J (nestT ls p k) wr ∧ Sel B W wr) (fun i _ => p + 1 - (intOf i).toNat)
  case atStart => exact ⟨0, Nat.zero_le _, rfl, h0, Sel.refl _ _⟩
  case round =>
    obtain ⟨k, hk, rfl, hJs, hnx⟩ := hrel
    have HS := mkHid hnx
    have hP' : wr.cell? ⟨B + 2, 0, none⟩ = some (.int .i64 p) := (hnx.cell (by omega) (by omega)).trans hP
    by_cases hlt : k < p + 1
    · obtain ⟨x, hx⟩ : ∃ x, ls[k]? = some x := ⟨_, List.getElem?_eq_getElem (by omega)⟩
      have hcx : wr.cell? ⟨g, o + k, none⟩ = some (.int .i64 x) := (hnx.cell (by omega) (by omega)).trans (HC.out k x hx)
      have HX := mkHid hx
      have k1 : (k : Int) < (p : Int) + 1 := by omega
      clear hx hnx
      by_cases hge : (p : Int) ≤ x
      · obtain ⟨fn, tmps, assign, body, hy, hR⟩ := hY _ (k : Int) wr hJs (by have := nestT_len ls p k; omega)
        gi_wp2
        refine hR.mono ?_
        rintro e W3 (⟨rfl, hJ3, hk3⟩ | ⟨rfl, hJx3⟩)
        · gi_wp2
          go_roundw
          case rel => exact ⟨k + 1, by omega, by simp, by rw [nestT_yes HX.out hge]; exact hJ3, HS.out.trans hk3⟩
          case measure => simp [intOf]; omega
        · gi_wp2
          refine bodyPost_ret (results_none rfl _ _ _) rfl ?_
          exact ⟨⟨_, rfl⟩, .inr ⟨_, trivial, hJx3⟩⟩
      · gi_wp2
        refine ⟨fun _ h => (by cases h), ?_⟩
        gi_wp2
        go_roundw
        case rel => exact ⟨k + 1, by omega, by simp, by rw [nestT_no HX.out (by omega)]; exact hJs, HS.out⟩
        case measure => simp [intOf]; omega
    · obtain rfl : k = p + 1 := by omega
      gi_wp2
      go_end0
      exact ⟨⟨_, rfl⟩, .inl ⟨_, rfl, hJs⟩⟩
theorem around_stops (F : Fence) (n : Nat) (h37 : F.fn 37) (hro : F.round = none) (hn : 1 ≤ n) (B g o cap p : Nat) (ls : List Int) (hlen : ls.length ≤ 3000) (hp : p < ls.length) (hcap : ls.length ≤ cap) (hg : g < B) (w : World) (hB : B + 3 ≤ w.heap.size)
    (hA : w.cell? ⟨B + 1, 0, none⟩ = some (.slice (some ⟨g, o, none⟩) ls.length cap)) (hP : w.cell? ⟨B + 2, 0, none⟩ = some (.int .i64 p))
    (hc : ∀ (i : Nat) (x : Int), ls[i]? = some x → w.cell? ⟨g, o + i, none⟩ = some (.int .i64 x)) :
    SeqStopsK F n Try.prog 37 #[.pointer (some ⟨B + 1, 0, none⟩), .pointer (some ⟨B + 2, 0, none⟩)] (fun x : Int => #[Value.int .i64 x]) (Sel B) (fun ys => ys = nestAt ls p) (fun _ => True) (p + 1) w := fun l J Jx W hW _ _ hY h0 =>
  around1_in F n h37 hro hn l B g o cap p ls hlen hp hcap hg J Jx hY W ((hW.cell (p := ⟨B + 1, 0, none⟩) (by dsimp only; omega)).trans hA) ((hW.cell (p := ⟨B + 2, 0, none⟩) (by dsimp only; omega)).trans hP)
    (fun i x hx => (hW.cell (p := ⟨g, o + i, none⟩) (by dsimp only; omega)).trans (hc i x hx)) h0
end Go.Proofs.Ytpikgigfeifliaa
