/-
  CONTRACTS of l07Step and stepEitherWay: the least of steps, their opposites and a cap that is not below a number.
-/
import Derived.Test.YtgclngofigffdaaFo08
import Derived.Test.YtgclngofigffdaaFo07
namespace Go.Proofs.Ytgclngofigffdaa
open Go.RowKit

def st1 (x t e : Int) : Int := if x ≤ e then min t e else t
def st2 (x t s : Int) : Int := st1 x (st1 x t s) (-s)
/-- The least of steps, their opposites and a cap that is not below x. -/
def stepM (x t : Int) (l : List Int) : Int := l.foldl (st2 x) t
theorem st1_swap (x t a b : Int) : st1 x (st1 x t a) b = st1 x (st1 x t b) a := by
  unfold st1
  repeat' split
  all_goals omega
theorem stepM_take {x t s : Int} {l : List Int} {k : Nat} (h : l[k]? = some s) : stepM x t (l.take (k + 1)) = st2 x (stepM x t (l.take k)) s := by
  unfold stepM
  rw [List.take_add_one, h, List.foldl_append]; rfl
theorem steps_val {l : List Int} (h : valsB l = true) {k : Nat} (hk : k < l.length) : -1000000 ≤ l.getD k 0 ∧ l.getD k 0 ≤ 1000000 := by
  unfold valsB at h
  have := List.all_eq_true.1 h (l.getD k 0) (by rw [List.getD_eq_getElem?_getD, List.getElem?_eq_getElem hk]; exact List.getElem_mem hk)
  exact of_decide_eq_true this
set_option maxRecDepth 100000 in
set_option maxHeartbeats 1600000 in
theorem sStep_any (x t : Int) (l : List Int) (a : Option Addr) (c : Nat) (w : World) (hv : valsB l = true) (hlen : l.length ≤ 20) (hl : IntsAt w a l) : Calls Try.prog 56 #[.int .i64 x, .int .i64 t, .slice a l.length c] w fun e w' => e = .returned (.int .i64 (stepM x t l)) ∧ w = w' := by
  have HL := mkHid hl
  have HV := mkHid hv
  obtain ⟨q, hq⟩ : ∃ q, l.length = q := ⟨_, rfl⟩
  have HQ := mkHid hq
  rw [hq] at hlen
  rw [hq]
  clear hl hv hq
  go_enter Try.func56, Try.ntmps56
  go_wp2_with fail
  go_loopg [1, 7] q (fun g s1 s wr => ∃ u : Nat, u + g = q ∧ s = .int .i64 u ∧ s1 = .int .i64 (stepM x t (l.take u)) ∧ wr = w)
  case atStart => exact ⟨0, by omega, rfl, rfl, rfl⟩
  case round =>
    obtain ⟨u, hug, rfl, rfl, rfl⟩ := hrel
    cases gk with
    | zero =>
      have hlt : ¬ ((u : Int) < (q : Int)) := by omega
      have e : Hid (stepM x t (l.take u) = stepM x t l) := mkHid (by rw [List.take_of_length_le (by have := HQ.out; omega)])
      go_wp2
      go_ret
      exact ⟨ret_int e.out, rfl⟩
    | succ g =>
      have hlt : (u : Int) < (q : Int) := by omega
      have huq : u < l.length := by have := HQ.out; omega
      obtain ⟨b, o, rfl, cx⟩ := IntsAt.get' HL.out huq
      have hs := steps_val HV.out huq
      have HN : Hid (stepM x t (l.take (u + 1)) = st2 x (stepM x t (l.take u)) (l.getD u 0)) := mkHid (stepM_take (get_of huq))
      obtain ⟨s, hsx⟩ : ∃ s, l.getD u 0 = s := ⟨_, rfl⟩
      rw [hsx] at cx hs HN
      obtain ⟨T, hT⟩ : ∃ T, stepM x t (l.take u) = T := ⟨_, rfl⟩
      rw [hT] at HN
      rw [hT]
      have hneg : IntKind.i64.wrap (-s) = -s := IntWalk.i64_in _ (by omega)
      clear hsx hT hs huq
      have R : ∀ T2 T3 : Int, T2 = st1 x T s → T3 = st1 x T2 (-s) → Hid (T3 = stepM x t (l.take (u + 1))) := fun T2 T3 h2 h3 => mkHid (by rw [HN.out, h3, h2]; rfl)
      have HR := mkHid R
      clear R HN
      by_cases h1 : x ≤ s ∧ s < T
      · have g1 : s ≥ x := h1.1
        have g2 : s < T := h1.2
        have e2 : s = st1 x T s := by unfold st1; rw [if_pos h1.1]; omega
        by_cases h2 : x ≤ -s ∧ -s < s
        · have g3 : -s ≥ x := h2.1
          have g4 : -s < s := h2.2
          have e3 : -s = st1 x s (-s) := by unfold st1; rw [if_pos h2.1]; omega
          have HF := HR.out s (-s) e2 e3
          clear h1 h2 e2 e3
          go_wp2
          go_roundg g
          case measure => omega
          case rel => exact ⟨u + 1, by omega, by go_num, by rw [← HF.out], rfl⟩
        · have e3 : s = st1 x s (-s) := by unfold st1; split <;> omega
          have HF := HR.out s s e2 e3
          by_cases g3 : -s ≥ x
          · have g4 : ¬ -s < s := fun h => h2 ⟨g3, h⟩
            clear h1 h2 e2 e3
            go_wp2
            go_roundg g
            case measure => omega
            case rel => exact ⟨u + 1, by omega, by go_num, by rw [← HF.out], rfl⟩
          · clear h1 h2 e2 e3
            go_wp2
            go_roundg g
            case measure => omega
            case rel => exact ⟨u + 1, by omega, by go_num, by rw [← HF.out], rfl⟩
      · have e2 : T = st1 x T s := by unfold st1; split <;> omega
        by_cases h2 : x ≤ -s ∧ -s < T
        · have g3 : -s ≥ x := h2.1
          have g4 : -s < T := h2.2
          have e3 : -s = st1 x T (-s) := by unfold st1; rw [if_pos h2.1]; omega
          have HF := HR.out T (-s) e2 e3
          by_cases g1 : s ≥ x
          · have g2 : ¬ s < T := fun h => h1 ⟨g1, h⟩
            clear h1 h2 e2 e3
            go_wp2
            go_roundg g
            case measure => omega
            case rel => exact ⟨u + 1, by omega, by go_num, by rw [← HF.out], rfl⟩
          · clear h1 h2 e2 e3
            go_wp2
            go_roundg g
            case measure => omega
            case rel => exact ⟨u + 1, by omega, by go_num, by rw [← HF.out], rfl⟩
        · have e3 : T = st1 x T (-s) := by unfold st1; split <;> omega
          have HF := HR.out T T e2 e3
          by_cases g1 : s ≥ x
          · have g2 : ¬ s < T := fun h => h1 ⟨g1, h⟩
            by_cases g3 : -s ≥ x
            · have g4 : ¬ -s < T := fun h => h2 ⟨g3, h⟩
              clear h1 h2 e2 e3
              go_wp2
              go_roundg g
              case measure => omega
              case rel => exact ⟨u + 1, by omega, by go_num, by rw [← HF.out], rfl⟩
            · clear h1 h2 e2 e3
              go_wp2
              go_roundg g
              case measure => omega
              case rel => exact ⟨u + 1, by omega, by go_num, by rw [← HF.out], rfl⟩
          · by_cases g3 : -s ≥ x
            · have g4 : ¬ -s < T := fun h => h2 ⟨g3, h⟩
              clear h1 h2 e2 e3
              go_wp2
              go_roundg g
              case measure => omega
              case rel => exact ⟨u + 1, by omega, by go_num, by rw [← HF.out], rfl⟩
            · clear h1 h2 e2 e3
              go_wp2
              go_roundg g
              case measure => omega
              case rel => exact ⟨u + 1, by omega, by go_num, by rw [← HF.out], rfl⟩
theorem idx2_0 (p r : Int) (w : World) : (Instr.index 84 (.agg #[.int .i64 p, .int .i64 r]) (.int .i64 0)).run Try.prog w = .ok (.int .i64 p) w := by
  simp [Instr.index, asIntOf, run_underlying Try.underlying84, part, Try.isAgg3]
theorem idx2_1 (p r : Int) (w : World) : (Instr.index 84 (.agg #[.int .i64 p, .int .i64 r]) (.int .i64 1)).run Try.prog w = .ok (.int .i64 r) w := by
  simp [Instr.index, asIntOf, run_underlying Try.underlying84, part, Try.isAgg3]
set_option maxRecDepth 100000 in
set_option maxHeartbeats 3200000 in
theorem iStep_any (x t : Int) (l : List Int) (a : Option Addr) (c : Nat) (w : World) (hv : valsB l = true) (hlen : l.length ≤ 20) (hl : IntsAt w a l) : Calls Try.prog 47 #[.int .i64 x, .slice a l.length c, .int .i64 t] w fun e w' => e = .returned (.int .i64 (stepM x t l)) ∧ w = w' := by
  have HL := mkHid hl
  have HV := mkHid hv
  obtain ⟨q, hq⟩ : ∃ q, l.length = q := ⟨_, rfl⟩
  have HQ := mkHid hq
  rw [hq] at hlen
  rw [hq]
  have hMin := @run_min_M
  have hI0 := idx2_0
  have hI1 := idx2_1
  clear hl hv hq
  go_enter Try.func47, Try.ntmps47
  go_wp2_with fail
  go_loopg [7, 9, 11, 15] q (fun g s7 s9 s11 s wr => ∃ u : Nat, u + g = q ∧ s = .int .i64 u ∧ s7 = .int .i64 (stepM x t (l.take u)) ∧ wr = w)
  case atStart => exact ⟨0, by omega, rfl, rfl, rfl⟩
  case round =>
    obtain ⟨u, hug, rfl, rfl, rfl⟩ := hrel
    cases gk with
    | zero =>
      have hlt : ¬ ((u : Int) < (q : Int)) := by omega
      have e : Hid (stepM x t (l.take u) = stepM x t l) := mkHid (by rw [List.take_of_length_le (by have := HQ.out; omega)])
      go_wp2
      go_ret
      exact ⟨ret_int e.out, rfl⟩
    | succ g =>
      have hlt : (u : Int) < (q : Int) := by omega
      have huq : u < l.length := by have := HQ.out; omega
      obtain ⟨b, o, rfl, cx⟩ := IntsAt.get' HL.out huq
      have hs := steps_val HV.out huq
      have HN : Hid (stepM x t (l.take (u + 1)) = st2 x (stepM x t (l.take u)) (l.getD u 0)) := mkHid (stepM_take (get_of huq))
      obtain ⟨s, hsx⟩ : ∃ s, l.getD u 0 = s := ⟨_, rfl⟩
      rw [hsx] at cx hs HN
      obtain ⟨T, hT⟩ : ∃ T, stepM x t (l.take u) = T := ⟨_, rfl⟩
      rw [hT] at HN
      rw [hT]
      have hneg : IntKind.i64.wrap (-s) = -s := IntWalk.i64_in _ (by omega)
      have HF : Hid (st1 x (st1 x T (-s)) s = stepM x t (l.take (u + 1))) := mkHid (by rw [HN.out]; exact st1_swap x T (-s) s)
      clear hsx hT hs huq HN
      go_wp2_with fail
      go_loopg [7, 11, 23] 2 (fun g2 r7 r11 r23 wr2 => ∃ k : Nat, k + g2 = 2 ∧ r23 = .int .i64 k ∧ wr2 = wr ∧ r7 = .int .i64 (if k = 0 then T else if k = 1 then st1 x T (-s) else st1 x (st1 x T (-s)) s))
      case atStart => exact ⟨0, rfl, rfl, rfl, rfl⟩
      case round =>
        obtain ⟨k, hk, rfl, rfl, rfl⟩ := hrel
        have HK := mkHid hk
        match gk, k, hk with
        | 0, 2, _ =>
          have e : (if (2 : Nat) = 0 then T else if (2 : Nat) = 1 then st1 x T (-s) else st1 x (st1 x T (-s)) s) = stepM x t (l.take (u + 1)) := HF.out
          rw [e]
          go_wp2
          go_roundg g
          case measure => omega
          case rel => exact ⟨u + 1, by omega, by go_num, rfl, rfl⟩
        | 1, 1, _ =>
          have e : (if (1 : Nat) = 0 then T else if (1 : Nat) = 1 then st1 x T (-s) else st1 x (st1 x T (-s)) s) = st1 x T (-s) := rfl
          rw [e]
          obtain ⟨T2, hT2⟩ : ∃ T2, st1 x T (-s) = T2 := ⟨_, rfl⟩
          rw [hT2]
          by_cases h : s ≥ x
          · have e3 : Hid (min T2 s = st1 x T2 s) := mkHid (by unfold st1; rw [if_pos h])
            have HT2 := mkHid hT2
            clear hT2 e
            go_wp2
            go_roundg 0
            case measure => omega
            case rel => exact ⟨2, by omega, by go_num, rfl, by rw [e3.out, ← HT2.out]; rfl⟩
          · have e3 : Hid (T2 = st1 x T2 s) := mkHid (by unfold st1; rw [if_neg h])
            have HT2 := mkHid hT2
            clear hT2 e
            go_wp2
            go_roundg 0
            case measure => omega
            case rel => exact ⟨2, by omega, by go_num, rfl, by rw [HT2.out]; show Value.int IntKind.i64 T2 = Value.int IntKind.i64 (st1 x T2 s); rw [← e3.out]⟩
        | 2, 0, _ =>
          have e : (if (0 : Nat) = 0 then T else if (0 : Nat) = 1 then st1 x T (-s) else st1 x (st1 x T (-s)) s) = T := rfl
          rw [e]
          clear e
          by_cases h : -s ≥ x
          · have e3 : Hid (min T (-s) = st1 x T (-s)) := mkHid (by unfold st1; rw [if_pos h])
            go_wp2
            go_roundg 1
            case measure => omega
            case rel => exact ⟨1, by omega, by go_num, rfl, by rw [e3.out]; rfl⟩
          · have e3 : Hid (T = st1 x T (-s)) := mkHid (by unfold st1; rw [if_neg h])
            go_wp2
            go_roundg 1
            case measure => omega
            case rel => exact ⟨1, by omega, by go_num, rfl, by show Value.int IntKind.i64 T = Value.int IntKind.i64 (st1 x T (-s)); rw [← e3.out]⟩
end Go.Proofs.Ytgclngofigffdaa
