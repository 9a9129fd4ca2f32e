/-
  CONTRACTS of both FactsOks.
-/
import Derived.Test.YtmaejdomlggopaaFo
namespace Go.Proofs.Ytmaejdomlggopaa
open Go.RowKit

theorem IntsAt.get' {w : World} {a : Option Addr} {l : List Int} (h : IntsAt w a l) {k : Nat} (hk : k < l.length) : ∃ b o, a = some ⟨b, o, none⟩ ∧ w.cell? ⟨b, o + k, none⟩ = some (.int .i64 (l.getD k 0)) := by
  rcases h with h | ⟨b, o, e, h⟩
  · subst h; simp at hk
  · exact ⟨b, o, e, h k _ (by rw [List.getD_eq_getElem?_getD, List.getElem?_eq_getElem hk]; rfl)⟩
theorem quo_nat (k n : Nat) (hk : k ≤ 1000) : wrap64 ((k : Int) / (n : Int)) = ((k / n : Nat) : Int) := by
  rw [← Int.natCast_ediv]
  have : k / n ≤ k := Nat.div_le_self k n
  generalize k / n = q at this
  exact IntWalk.wrap64_in _ (by omega)
theorem rem_nat (k n : Nat) : (k : Int).tmod n = ((k % n : Nat) : Int) := by simp [Int.tmod_eq_emod_of_nonneg]
theorem ent_far {i j : Nat} {x : Int} (h : capT i j < x) : entB i j x = false := decide_eq_false (fun e => by omega)
theorem ent_low {i j : Nat} {x : Int} (h : x < -2000000) : entB i j x = false := decide_eq_false (fun e => by omega)
theorem ent_same {i j : Nat} {x : Int} (h : i = j) (hx : ¬ x = 0) : entB i j x = false := decide_eq_false (fun e => e.2.2.elim (fun h2 => h2 h) hx)
theorem ent_ok {i j : Nat} {x : Int} (h1 : ¬ capT i j < x) (h2 : ¬ x < -2000000) (h3 : ¬ i = j ∨ x = 0) : entB i j x = true := decide_eq_true ⟨by omega, by omega, h3⟩
theorem wrap_sq {n : Nat} (h : n ≤ 13) : IntKind.i64.wrap ((n : Int) * (n : Int)) = ((n * n : Nat) : Int) := by
  have := sq_le h
  rw [show (n : Int) * (n : Int) = ((n * n : Nat) : Int) by simp]
  exact IntWalk.i64_in _ (by omega)
set_option maxRecDepth 100000 in
set_option maxHeartbeats 1600000 in
theorem iOk_any (z : Int) (l : List Int) (a : Option Addr) (c : Nat) (w : World) (hl : IntsAt w a l) : Calls Try.prog 88 #[.agg #[.int .i64 z, .slice a l.length c]] w fun e w' => e = .returned (.bool (okF z l)) ∧ Below w.heap.size w w' := by
  by_cases hz : 1 ≤ z ∧ z ≤ 13
  · have hbt : btw z 1 13 = true := decide_eq_true hz
    obtain ⟨n, rfl⟩ : ∃ n : Nat, z = n := ⟨z.toNat, by omega⟩
    have hsq := wrap_sq (n := n) (by omega)
    have hqq := sq_le (n := n) (by omega)
    have hq1 := sq_pos (n := n) (by omega)
    have hn0 : ¬ ((n : Int) = 0) := by omega
    have hn1 : 1 ≤ n := by omega
    have hn2 : n ≤ 13 := by omega
    clear hz
    by_cases hll : l.length = n * n
    · have HS : Hid (∀ (b : Bool), (∀ p, p < n * n → entB (p / n) (p % n) (l.getD p 0) = true) → okF n l = true) := mkHid fun _ h => ok_sure hn1 hn2 hll h
      have HU : Hid (∀ p, p < n * n → entB (p / n) (p % n) (l.getD p 0) = false → okF n l = false) := mkHid fun p hp h => ok_unsure (by omega) h
      have HL := mkHid hl
      have HLL := mkHid hll
      obtain ⟨q, hqe⟩ : ∃ q, n * n = q := ⟨_, rfl⟩
      rw [hqe] at hsq hqq hq1
      rw [hll, hqe]
      have HQ := mkHid hqe
      clear hl hqe hll
      have B0 := mkHid ((Below.refl w.heap.size w).alloc (Nat.le_refl _) (.cells #[.int .i64 n, .slice a q c] 27))
      have T0 := mkHid (two_new w n a q c 27)
      go_enter Try.func88, Try.ntmps88
      go_wp2_with (first | (go_at_call 74; refine (isBetween_any _ _ _ _).mono ?_; rintro e w' ⟨rfl, rfl⟩) | (go_at_call 67; refine (iCap_any _ _ _).mono ?_; rintro e w' ⟨rfl, rfl⟩))
      go_loopg [25] q (fun g s wr => ∃ (k : Nat), k + g = q ∧ s = .int .i64 k ∧ Sure n l k ∧ (wr.cell? ⟨w.heap.size, 0, none⟩ = some (.int .i64 n)) ∧ Below w.heap.size w wr)
      case atStart => exact ⟨0, by omega, rfl, fun p hp => by omega, T0.out.1, B0.out⟩
      case round =>
        obtain ⟨k, hkg, rfl, hsu, p0, hB⟩ := hrel
        have HSU := mkHid hsu
        have HB := mkHid hB
        clear hsu hB B0 T0
        cases gk with
        | zero =>
          have hlt : ¬ ((k : Int) < (q : Int)) := by omega
          have e : Hid (okF n l = true) := mkHid (HS.out true (fun p hp => HSU.out p (by have := HQ.out; omega)))
          go_wp2
          go_ret
          exact ⟨ret_bool e.out.symm, HB.out⟩
        | succ g =>
          have hlt : (k : Int) < (q : Int) := by omega
          obtain ⟨b, o, rfl, c0⟩ := IntsAt.get' (HL.out.below HB.out) (k := k) (by have := HQ.out; have := HLL.out; omega)
          obtain ⟨x, hx⟩ : ∃ x, l.getD k 0 = x := ⟨_, rfl⟩
          rw [hx] at c0
          have hqu := quo_nat k n (by omega)
          have hre := rem_nat k n
          obtain ⟨i, hi⟩ : ∃ i, k / n = i := ⟨_, rfl⟩
          obtain ⟨j, hj⟩ : ∃ j, k % n = j := ⟨_, rfl⟩
          rw [hi] at hqu
          rw [hj] at hre
          obtain ⟨cp, hcp⟩ : ∃ cp, capT i j = cp := ⟨_, rfl⟩
          have HX := mkHid hx
          have HI := mkHid hi
          have HJ := mkHid hj
          have hcap : ∀ v, Calls Try.prog 67 #[.int .i64 i, .int .i64 j] v fun e w' => e = .returned (.int .i64 cp) ∧ v = w' := fun v => by rw [← hcp]; exact iCap_any i j v
          have HC := mkHid hcp
          have HCA := mkHid hcap
          clear hx hi hj hcp hcap
          have k0 : (0 : Int) ≤ (k : Int) := by omega
          have HUK : Hid (entB i j x = false → okF n l = false) := mkHid fun h => HU.out k (by have := HQ.out; omega) (by rw [HI.out, HJ.out, HX.out]; exact h)
          have HSK : Hid (entB i j x = true → Sure n l (k + 1)) := mkHid fun h => HSU.out.next (by rw [HI.out, HJ.out, HX.out]; exact h)
          by_cases h1 : cp < x
          · have e := mkHid (ent_far (i := i) (j := j) (x := x) (by rw [HC.out]; exact h1))
            go_wp2_with fail
            go_quiet (fail)
            go_wp2_with (first | (go_at_call 67; refine (HCA.out _).mono ?_; rintro e w' ⟨rfl, rfl⟩))
            go_ret
            exact ⟨ret_bool (HUK.out e.out).symm, HB.out.trans ⟨rfl, rfl, rfl, Nat.le_refl _, fun _ _ => rfl⟩⟩
          · by_cases h2 : x < -2000000
            · have e := mkHid (ent_low (i := i) (j := j) h2)
              go_wp2_with fail
              go_quiet (fail)
              go_wp2_with (first | (go_at_call 67; refine (HCA.out _).mono ?_; rintro e w' ⟨rfl, rfl⟩))
              go_ret
              exact ⟨ret_bool (HUK.out e.out).symm, HB.out.trans ⟨rfl, rfl, rfl, Nat.le_refl _, fun _ _ => rfl⟩⟩
            · by_cases h3 : i = j
              · have hb3 : ((i : Int) == (j : Int)) = true := by rw [beq_cast]; exact decide_eq_true h3
                by_cases h4 : x = 0
                · have e := mkHid (ent_ok (i := i) (j := j) (x := x) (by rw [HC.out]; exact h1) h2 (.inr h4))
                  have hb4 : (x != 0) = false := by simp [h4]
                  clear h3 h4
                  go_wp2_with fail
                  go_quiet (fail)
                  go_wp2_with (first | (go_at_call 67; refine (HCA.out _).mono ?_; rintro e w' ⟨rfl, rfl⟩))
                  go_roundg g
                  case measure => omega
                  case rel => exact ⟨k + 1, by omega, by go_num, HSK.out e.out, p0, HB.out.trans ⟨rfl, rfl, rfl, Nat.le_refl _, fun _ _ => rfl⟩⟩
                · have e := mkHid (ent_same h3 h4)
                  have hb4 : (x != 0) = true := by simp [h4]
                  clear h3 h4
                  go_wp2_with fail
                  go_quiet (fail)
                  go_wp2_with (first | (go_at_call 67; refine (HCA.out _).mono ?_; rintro e w' ⟨rfl, rfl⟩))
                  go_ret
                  exact ⟨ret_bool (HUK.out e.out).symm, HB.out.trans ⟨rfl, rfl, rfl, Nat.le_refl _, fun _ _ => rfl⟩⟩
              · have hb3 : ((i : Int) == (j : Int)) = false := by rw [beq_cast]; exact decide_eq_false h3
                have e := mkHid (ent_ok (x := x) (by rw [HC.out]; exact h1) h2 (.inl h3))
                clear h3
                go_wp2_with fail
                go_quiet (fail)
                go_wp2_with (first | (go_at_call 67; refine (HCA.out _).mono ?_; rintro e w' ⟨rfl, rfl⟩))
                go_roundg g
                case measure => omega
                case rel => exact ⟨k + 1, by omega, by go_num, HSK.out e.out, p0, HB.out.trans ⟨rfl, rfl, rfl, Nat.le_refl _, fun _ _ => rfl⟩⟩
    · have e := mkHid (ok_len hll)
      have hne : (((l.length : Nat) : Int) != ((n * n : Nat) : Int)) = true := by simp; omega
      obtain ⟨q, hqe⟩ : ∃ q, n * n = q := ⟨_, rfl⟩
      rw [hqe] at hsq hne
      clear hll hqe hqq hq1
      go_enter Try.func88, Try.ntmps88
      go_wp2_with (first | (go_at_call 74; refine (isBetween_any _ _ _ _).mono ?_; rintro e w' ⟨rfl, rfl⟩) | (go_at_call 67; refine (iCap_any _ _ _).mono ?_; rintro e w' ⟨rfl, rfl⟩))
      go_ret
      exact ⟨ret_bool e.out.symm, (Below.refl _ _).alloc (Nat.le_refl _) _⟩
  · have hbt : btw z 1 13 = false := decide_eq_false hz
    have e := mkHid (ok_size (l := l) hz)
    clear hz
    go_enter Try.func88, Try.ntmps88
    go_wp2_with (first | (go_at_call 74; refine (isBetween_any _ _ _ _).mono ?_; rintro e w' ⟨rfl, rfl⟩) | (go_at_call 67; refine (iCap_any _ _ _).mono ?_; rintro e w' ⟨rfl, rfl⟩))
    go_ret
    exact ⟨ret_bool e.out.symm, (Below.refl _ _).alloc (Nat.le_refl _) _⟩
end Go.Proofs.Ytmaejdomlggopaa
