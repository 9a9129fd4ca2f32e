/-
  CONTRACT of the program's iterator around, for every loop body that keeps what it reads.
-/
import Derived.Test.YtpikgigfeifliaaDoorOrd
import Derived.RangeFuncNested
import Derived.RangeFuncLeaves
import Derived.Shelf.Abstract
import Derived.WalkKit
import Derived.OwnWalkIn
import Derived.TacticsInMore
import Derived.LoopNIn
import Derived.LoopIn
namespace Go.Proofs.YtpikgigfeifliaaDoor
open Go.RowKit Go.Shelf
attribute [local go_sem] Oper.semAt_some

set_option maxHeartbeats 1000000 in
theorem around_in (F : Fence) (n : Nat) (h19 : F.fn 19) (hro : F.round = none) (a : Option Addr) (len cap : Nat) (p : Int) (w : World) :
    CallsIn F n Tryd.prog 19 #[.slice a len cap, .int .i64 p] w fun e w' => e = .returned (.func (.func 28) #[] #[.pointer (some ⟨w.heap.size, 0, none⟩), .pointer (some ⟨w.heap.size + 1, 0, none⟩)]) ∧ w' = (w.alloc (.cells #[.slice a len cap] 43)).alloc (.cells #[.int .i64 p] 3) := by
  refine callsIn_of_wp Tryd.func19 rfl h19 ?_ hro
  simp only [Tryd.ntmps19, List.size_toArray, List.length_cons, List.length_nil, Nat.reduceAdd, Nat.reduceSub, Array.replicate_succ, Array.replicate_zero, List.push_toArray, List.append_toArray, List.nil_append, List.cons_append]
  gi_wp2
  go_ret
  exact ⟨by simp, rfl⟩

/-- A point of a graph of so many. -/
abbrev Pt (n : Nat) := { h : Nat // h < n }
set_option maxRecDepth 100000 in
set_option maxHeartbeats 2000000 in
theorem around1_in (F : Fence) (n : Nat) (h28 : F.fn 28) (hro : F.round = none) (hn : 1 ≤ n) (l Ba Bp g o cap p : Nat) (ls : List Int) (hlen : ls.length ≤ 3000) (hp : p < ls.length) (hcap : ls.length ≤ cap) (Kp : World → World → Prop) (hKr : ∀ V, Kp V V) (hKt : ∀ {A B C}, Kp A B → Kp B C → Kp A C) (J Jx : List (Pt ls.length) → World → Prop)
    (hY : ∀ pre x W, J pre W → pre.length < p + 1 → YieldAt F (n - 1) Tryd.prog l #[.int .i64 (x.1 : Int)] W fun e W' =>
      (e = .returned (.bool true) ∧ J (pre ++ [x]) W' ∧ Kp W W') ∨ (e = .returned (.bool false) ∧ Jx (pre ++ [x]) W'))
    (W : World) (hA : W.cell? ⟨Ba, 0, none⟩ = some (.slice (some ⟨g, o, none⟩) ls.length cap)) (hP : ∀ V, Kp W V → V.cell? ⟨Bp, 0, none⟩ = some (.int .i64 p))
    (hc : ∀ V, Kp W V → ∀ (i : Nat) (x : Int), ls[i]? = some x → V.cell? ⟨g, o + i, none⟩ = some (.int .i64 x)) (h0 : J [] W) :
    CallsIn F n Tryd.prog 28 #[.func (.yield l) #[] #[], .pointer (some ⟨Ba, 0, none⟩), .pointer (some ⟨Bp, 0, none⟩)] W fun e W' => (∃ v, e = .returned v) ∧
      ((∃ ys, ys.map (·.1) = nestN ls p (p + 1) ∧ J ys W') ∨ (∃ pre, True ∧ Jx pre W')) := by
  have p1 : (p : Int) + 1 ≤ cap := by omega
  have p2 : (p : Int) ≤ 3000 := by omega
  have HC := mkHid hc
  have HP := mkHid hP
  have hP0 := hP W (hKr W)
  clear hc hP
  refine callsIn_of_wp Tryd.func28 rfl h28 ?_ hro
  simp only [Tryd.ntmps28, List.size_toArray, List.length_cons, List.length_nil, Nat.reduceAdd, Nat.reduceSub, Array.replicate_succ, Array.replicate_zero, List.push_toArray, List.append_toArray, List.nil_append, List.cons_append]
  gi_wp2
  gi_loopw [11] (fun i wr => ∃ (k : Nat) (pre : List (Pt ls.length)), k ≤ p + 1 ∧ i = .int .i64 k ∧ pre.map (·.1) = nestN ls p k ∧ J pre wr ∧ Kp W wr) (fun i _ => p + 1 - (intOf i).toNat)
  case atStart => exact ⟨0, [], Nat.zero_le _, rfl, rfl, h0, hKr W⟩
  case round =>
    clear hP0
    obtain ⟨k, pre, hk, rfl, hpre, hJs, hnx⟩ := hrel
    have HS := mkHid hnx
    have HPR := mkHid hpre
    have hP' : wr.cell? ⟨Bp, 0, none⟩ = some (.int .i64 p) := HP.out _ hnx
    clear hnx hpre
    by_cases hlt : k < p + 1
    · obtain ⟨x, hx⟩ : ∃ x, ls[k]? = some x := ⟨_, List.getElem?_eq_getElem (by omega)⟩
      have hcx : wr.cell? ⟨g, o + k, none⟩ = some (.int .i64 x) := HC.out _ HS.out k x hx
      have HX := mkHid hx
      have k1 : (k : Int) < (p : Int) + 1 := by omega
      clear hx
      by_cases hge : (p : Int) ≤ x
      · obtain ⟨fn, tmps, assign, body, hy, hR⟩ := hY pre ⟨k, by omega⟩ wr hJs (by have h1 := nestN_len ls p k; rw [← HPR.out, List.length_map] at h1; omega)
        dsimp only at hy
        gi_wp2
        refine hR.mono ?_
        rintro e W3 (⟨rfl, hJ3, hk3⟩ | ⟨rfl, hJx3⟩)
        · gi_wp2
          go_roundw
          case rel => exact ⟨k + 1, _, by omega, by simp, by rw [List.map_append, HPR.out, nestN_yes HX.out hge]; rfl, hJ3, hKt HS.out hk3⟩
          case measure => simp [intOf]; omega
        · gi_wp2
          refine bodyPost_ret (results_none rfl _ _ _) rfl ?_
          exact ⟨⟨_, rfl⟩, .inr ⟨_, trivial, hJx3⟩⟩
      · gi_wp2
        refine ⟨fun _ h => (by cases h), ?_⟩
        gi_wp2
        go_roundw
        case rel => exact ⟨k + 1, pre, by omega, by simp, by rw [HPR.out, nestN_no HX.out (by omega)], hJs, HS.out⟩
        case measure => simp [intOf]; omega
    · obtain rfl : k = p + 1 := by omega
      gi_wp2
      go_end0
      exact ⟨⟨_, rfl⟩, .inl ⟨pre, HPR.out, hJs⟩⟩
end Go.Proofs.YtpikgigfeifliaaDoor
