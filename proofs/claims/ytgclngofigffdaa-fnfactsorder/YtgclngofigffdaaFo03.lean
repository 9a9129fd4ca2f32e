/-
  CONTRACTS of both FactsOks.
  CONTRACTS of the specification's FactsOk.
-/
import Derived.Test.YtgclngofigffdaaFo02
namespace Go.Proofs.Ytgclngofigffdaa
open Go.RowKit

theorem IntsAt.get' {w : World} {a : Option Addr} {l : List Int} (h : IntsAt w a l) {k : Nat} (hk : k < l.length) : ∃ b o, a = some ⟨b, o, none⟩ ∧ w.cell? ⟨b, o + k, none⟩ = some (.int .i64 (l.getD k 0)) := by
  rcases h with h | ⟨b, o, e, h⟩
  · subst h; simp at hk
  · exact ⟨b, o, e, h k _ (by rw [List.getD_eq_getElem?_getD, List.getElem?_eq_getElem hk]; rfl)⟩
theorem quo_nat (k n : Nat) (hk : k ≤ 1000) : wrap64 ((k : Int) / (n : Int)) = ((k / n : Nat) : Int) := by
  rw [← Int.natCast_ediv]
  have : k / n ≤ k := Nat.div_le_self k n
  generalize k / n = q at this
  exact IntWalk.wrap64_in _ (by omega)
theorem rem_nat (k n : Nat) : (k : Int).tmod n = ((k % n : Nat) : Int) := by simp [Int.tmod_eq_emod_of_nonneg]
theorem ent_far {i j : Nat} {x : Int} (h : capT i j < x) : entB i j x = false := decide_eq_false (fun e => by omega)
theorem ent_low {i j : Nat} {x : Int} (h : x < -2000000) : entB i j x = false := decide_eq_false (fun e => by omega)
theorem ent_same {i j : Nat} {x : Int} (h : i = j) (hx : ¬ x = 0) : entB i j x = false := decide_eq_false (fun e => e.2.2.elim (fun h2 => h2 h) hx)
theorem ent_ok {i j : Nat} {x : Int} (h1 : ¬ capT i j < x) (h2 : ¬ x < -2000000) (h3 : ¬ i = j ∨ x = 0) : entB i j x = true := decide_eq_true ⟨by omega, by omega, h3⟩
theorem wrap_sq {n : Nat} (h : n ≤ 13) : IntKind.i64.wrap ((n : Int) * (n : Int)) = ((n * n : Nat) : Int) := by
  have := sq_le h
  rw [show (n : Int) * (n : Int) = ((n * n : Nat) : Int) by simp]
  exact IntWalk.i64_in _ (by omega)
set_option maxRecDepth 100000 in
set_option maxHeartbeats 1600000 in
theorem iOk_any (z : Int) (l : List Int) (a : Option Addr) (c : Nat) (w : World) (hl : IntsAt w a l) : Calls Try.prog 44 #[.agg #[.int .i64 z, .slice a l.length c]] w fun e w' => e = .returned (.bool (okF z l)) ∧ Below w.heap.size w w' := by
  by_cases hz : 1 ≤ z ∧ z ≤ 13
  · have hbt : btw z 1 13 = true := decide_eq_true hz
    obtain ⟨n, rfl⟩ : ∃ n : Nat, z = n := ⟨z.toNat, by omega⟩
    have hsq := wrap_sq (n := n) (by omega)
    have hqq := sq_le (n := n) (by omega)
    have hq1 := sq_pos (n := n) (by omega)
    have hn0 : ¬ ((n : Int) = 0) := by omega
    have hn1 : 1 ≤ n := by omega
    have hn2 : n ≤ 13 := by omega
    clear hz
    by_cases hll : l.length = n * n
    · have HS : Hid (∀ (b : Bool), (∀ p, p < n * n → entB (p / n) (p % n) (l.getD p 0) = true) → okF n l = true) := mkHid fun _ h => ok_sure hn1 hn2 hll h
      have HU : Hid (∀ p, p < n * n → entB (p / n) (p % n) (l.getD p 0) = false → okF n l = false) := mkHid fun p hp h => ok_unsure (by omega) h
      have HL := mkHid hl
      have HLL := mkHid hll
      obtain ⟨q, hqe⟩ : ∃ q, n * n = q := ⟨_, rfl⟩
      rw [hqe] at hsq hqq hq1
      rw [hll, hqe]
      have HQ := mkHid hqe
      clear hl hqe hll
      have B0 := mkHid ((Below.refl w.heap.size w).alloc (Nat.le_refl _) (.cells #[.int .i64 n, .slice a q c] 26))
      have T0 := mkHid (two_new w n a q c 26)
      go_enter Try.func44, Try.ntmps44
      go_wp2_with (first | (go_at_call 65; refine (isBetween_any _ _ _ _).mono ?_; rintro e w' ⟨rfl, rfl⟩) | (go_at_call 48; refine (iCap_any _ _ _).mono ?_; rintro e w' ⟨rfl, rfl⟩))
      go_loopg [25] q (fun g s wr => ∃ (k : Nat), k + g = q ∧ s = .int .i64 k ∧ Sure n l k ∧ (wr.cell? ⟨w.heap.size, 0, none⟩ = some (.int .i64 n)) ∧ Below w.heap.size w wr)
      case atStart => exact ⟨0, by omega, rfl, fun p hp => by omega, T0.out.1, B0.out⟩
      case round =>
        obtain ⟨k, hkg, rfl, hsu, p0, hB⟩ := hrel
        have HSU := mkHid hsu
        have HB := mkHid hB
        clear hsu hB B0 T0
        cases gk with
        | zero =>
          have hlt : ¬ ((k : Int) < (q : Int)) := by omega
          have e : Hid (okF n l = true) := mkHid (HS.out true (fun p hp => HSU.out p (by have := HQ.out; omega)))
          go_wp2
          go_ret
          exact ⟨ret_bool e.out.symm, HB.out⟩
        | succ g =>
          have hlt : (k : Int) < (q : Int) := by omega
          obtain ⟨b, o, rfl, c0⟩ := IntsAt.get' (HL.out.below HB.out) (k := k) (by have := HQ.out; have := HLL.out; omega)
          obtain ⟨x, hx⟩ : ∃ x, l.getD k 0 = x := ⟨_, rfl⟩
          rw [hx] at c0
          have hqu := quo_nat k n (by omega)
          have hre := rem_nat k n
          obtain ⟨i, hi⟩ : ∃ i, k / n = i := ⟨_, rfl⟩
          obtain ⟨j, hj⟩ : ∃ j, k % n = j := ⟨_, rfl⟩
          rw [hi] at hqu
          rw [hj] at hre
          obtain ⟨cp, hcp⟩ : ∃ cp, capT i j = cp := ⟨_, rfl⟩
          have HX := mkHid hx
          have HI := mkHid hi
          have HJ := mkHid hj
          have hcap : ∀ v, Calls Try.prog 48 #[.int .i64 i, .int .i64 j] v fun e w' => e = .returned (.int .i64 cp) ∧ v = w' := fun v => by rw [← hcp]; exact iCap_any i j v
          have HC := mkHid hcp
          have HCA := mkHid hcap
          clear hx hi hj hcp hcap
          have k0 : (0 : Int) ≤ (k : Int) := by omega
          have HUK : Hid (entB i j x = false → okF n l = false) := mkHid fun h => HU.out k (by have := HQ.out; omega) (by rw [HI.out, HJ.out, HX.out]; exact h)
          have HSK : Hid (entB i j x = true → Sure n l (k + 1)) := mkHid fun h => HSU.out.next (by rw [HI.out, HJ.out, HX.out]; exact h)
          by_cases h1 : cp < x
          · have e := mkHid (ent_far (i := i) (j := j) (x := x) (by rw [HC.out]; exact h1))
            go_wp2_with fail
            go_quiet (fail)
            go_wp2_with (first | (go_at_call 48; refine (HCA.out _).mono ?_; rintro e w' ⟨rfl, rfl⟩))
            go_ret
            exact ⟨ret_bool (HUK.out e.out).symm, HB.out.trans ⟨rfl, rfl, rfl, Nat.le_refl _, fun _ _ => rfl⟩⟩
          · by_cases h2 : x < -2000000
            · have e := mkHid (ent_low (i := i) (j := j) h2)
              go_wp2_with fail
              go_quiet (fail)
              go_wp2_with (first | (go_at_call 48; refine (HCA.out _).mono ?_; rintro e w' ⟨rfl, rfl⟩))
              go_ret
              exact ⟨ret_bool (HUK.out e.out).symm, HB.out.trans ⟨rfl, rfl, rfl, Nat.le_refl _, fun _ _ => rfl⟩⟩
            · by_cases h3 : i = j
              · have hb3 : ((i : Int) == (j : Int)) = true := by rw [beq_cast]; exact decide_eq_true h3
                by_cases h4 : x = 0
                · have e := mkHid (ent_ok (i := i) (j := j) (x := x) (by rw [HC.out]; exact h1) h2 (.inr h4))
                  have hb4 : (x != 0) = false := by simp [h4]
                  clear h3 h4
                  go_wp2_with fail
                  go_quiet (fail)
                  go_wp2_with (first | (go_at_call 48; refine (HCA.out _).mono ?_; rintro e w' ⟨rfl, rfl⟩))
                  go_roundg g
                  case measure => omega
                  case rel => exact ⟨k + 1, by omega, by go_num, HSK.out e.out, p0, HB.out.trans ⟨rfl, rfl, rfl, Nat.le_refl _, fun _ _ => rfl⟩⟩
                · have e := mkHid (ent_same h3 h4)
                  have hb4 : (x != 0) = true := by simp [h4]
                  clear h3 h4
                  go_wp2_with fail
                  go_quiet (fail)
                  go_wp2_with (first | (go_at_call 48; refine (HCA.out _).mono ?_; rintro e w' ⟨rfl, rfl⟩))
                  go_ret
                  exact ⟨ret_bool (HUK.out e.out).symm, HB.out.trans ⟨rfl, rfl, rfl, Nat.le_refl _, fun _ _ => rfl⟩⟩
              · have hb3 : ((i : Int) == (j : Int)) = false := by rw [beq_cast]; exact decide_eq_false h3
                have e := mkHid (ent_ok (x := x) (by rw [HC.out]; exact h1) h2 (.inl h3))
                clear h3
                go_wp2_with fail
                go_quiet (fail)
                go_wp2_with (first | (go_at_call 48; refine (HCA.out _).mono ?_; rintro e w' ⟨rfl, rfl⟩))
                go_roundg g
                case measure => omega
                case rel => exact ⟨k + 1, by omega, by go_num, HSK.out e.out, p0, HB.out.trans ⟨rfl, rfl, rfl, Nat.le_refl _, fun _ _ => rfl⟩⟩
    · have e := mkHid (ok_len hll)
      have hne : (((l.length : Nat) : Int) != ((n * n : Nat) : Int)) = true := by simp; omega
      obtain ⟨q, hqe⟩ : ∃ q, n * n = q := ⟨_, rfl⟩
      rw [hqe] at hsq hne
      clear hll hqe hqq hq1
      go_enter Try.func44, Try.ntmps44
      go_wp2_with (first | (go_at_call 65; refine (isBetween_any _ _ _ _).mono ?_; rintro e w' ⟨rfl, rfl⟩) | (go_at_call 48; refine (iCap_any _ _ _).mono ?_; rintro e w' ⟨rfl, rfl⟩))
      go_ret
      exact ⟨ret_bool e.out.symm, (Below.refl _ _).alloc (Nat.le_refl _) _⟩
  · have hbt : btw z 1 13 = false := decide_eq_false hz
    have e := mkHid (ok_size (l := l) hz)
    clear hz
    go_enter Try.func44, Try.ntmps44
    go_wp2_with (first | (go_at_call 65; refine (isBetween_any _ _ _ _).mono ?_; rintro e w' ⟨rfl, rfl⟩) | (go_at_call 48; refine (iCap_any _ _ _).mono ?_; rintro e w' ⟨rfl, rfl⟩))
    go_ret
    exact ⟨ret_bool e.out.symm, (Below.refl _ _).alloc (Nat.le_refl _) _⟩
end Go.Proofs.Ytgclngofigffdaa
namespace Go.Proofs.Ytgclngofigffdaa
open Go.RowKit

set_option maxRecDepth 100000 in
set_option maxHeartbeats 1600000 in
theorem sOkF_any (z : Int) (l : List Int) (a : Option Addr) (c : Nat) (w : World) (hl : IntsAt w a l) : Calls Try.prog 18 #[.agg #[.int .i64 z, .slice a l.length c]] w fun e w' => e = .returned (.bool (okF z l)) ∧ Below w.heap.size w w' := by
  by_cases hz : 1 ≤ z ∧ z ≤ 13
  · have hbt : btw z 1 13 = true := decide_eq_true hz
    obtain ⟨n, rfl⟩ : ∃ n : Nat, z = n := ⟨z.toNat, by omega⟩
    have hsq := wrap_sq (n := n) (by omega)
    have hqq := sq_le (n := n) (by omega)
    have hq1 := sq_pos (n := n) (by omega)
    have hn0 : ¬ ((n : Int) = 0) := by omega
    have hn1 : 1 ≤ n := by omega
    have hn2 : n ≤ 13 := by omega
    clear hz
    by_cases hll : l.length = n * n
    · have HS : Hid (∀ (b : Bool), (∀ p, p < n * n → entB (p / n) (p % n) (l.getD p 0) = true) → okF n l = true) := mkHid fun _ h => ok_sure hn1 hn2 hll h
      have HU : Hid (∀ p, p < n * n → entB (p / n) (p % n) (l.getD p 0) = false → okF n l = false) := mkHid fun p hp h => ok_unsure (by omega) h
      have HL := mkHid hl
      have HLL := mkHid hll
      obtain ⟨q, hqe⟩ : ∃ q, n * n = q := ⟨_, rfl⟩
      rw [hqe] at hsq hqq hq1
      rw [hll, hqe]
      have HQ := mkHid hqe
      clear hl hqe hll
      have B0 := mkHid ((Below.refl w.heap.size w).alloc (Nat.le_refl _) (.cells #[.int .i64 n, .slice a q c] 26))
      have T0 := mkHid (two_new w n a q c 26)
      go_enter Try.func18, Try.ntmps18
      go_wp2_with (first | (go_at_call 58; refine (between_any _ _ _ _).mono ?_; rintro e w' ⟨rfl, rfl⟩))
      go_loopg [3] n (fun g s wr => ∃ (i : Nat), i + g = n ∧ s = .int .i64 i ∧ Sure n l (i * n) ∧ (wr.cell? ⟨w.heap.size, 0, none⟩ = some (.int .i64 n) ∧ wr.cell? ⟨w.heap.size, 1, none⟩ = some (.slice a q c)) ∧ Below w.heap.size w wr)
      case atStart => exact ⟨0, by omega, rfl, fun p hp => by omega, T0.out, B0.out⟩
      case round =>
        obtain ⟨i, hig, rfl, hsu, ⟨p0, p1⟩, hB⟩ := hrel
        have HSU := mkHid hsu
        have HB := mkHid hB
        clear hsu hB B0 T0
        cases gk with
        | zero =>
          have hlt : ¬ ((i : Int) < (n : Int)) := by omega
          have ei : i = n := by omega
          subst ei
          have e : Hid (okF i l = true) := mkHid (HS.out true (fun p hp => HSU.out p hp))
          go_wp2
          go_ret
          exact ⟨ret_bool e.out.symm, HB.out⟩
        | succ g =>
          have hlt : (i : Int) < (n : Int) := by omega
          have hlti : i < n := by omega
          obtain ⟨m, hm⟩ : ∃ m, i * n = m := ⟨_, rfl⟩
          have hmq : m + n ≤ q := by have := HQ.out; rw [← hm, ← this, show i * n + n = (i + 1) * n by rw [Nat.add_mul]; omega]; exact Nat.mul_le_mul_right n hlti
          have hwm : IntKind.i64.wrap ((i : Int) * (n : Int)) = (m : Int) := by rw [show (i : Int) * (n : Int) = ((i * n : Nat) : Int) by simp, hm]; exact IntWalk.i64_in _ (by omega)
          have HSN : Hid (Sure n l (m + n) → Sure n l ((i + 1) * n)) := mkHid fun h => by rw [show (i + 1) * n = m + n by rw [Nat.add_mul, hm]; omega]; exact h
          have HM := mkHid hm
          rw [hm] at HSU
          clear hm
          go_wp2_with fail
          go_loopg [4] n (fun g2 s wy => ∃ (j : Nat), j + g2 = n ∧ s = .int .i64 j ∧ Sure n l (m + j) ∧ (wy.cell? ⟨w.heap.size, 0, none⟩ = some (.int .i64 n) ∧ wy.cell? ⟨w.heap.size, 1, none⟩ = some (.slice a q c)) ∧ Below w.heap.size w wy)
          case atStart => exact ⟨0, by omega, rfl, HSU.out, ⟨p0, p1⟩, HB.out⟩
          case round =>
            clear HSU HB p0 p1
            obtain ⟨j, hjg, rfl, hsu, ⟨p0, p1⟩, hB⟩ := hrel
            have HSU := mkHid hsu
            have HB := mkHid hB
            clear hsu hB
            cases gk with
            | zero =>
              have hlt2 : ¬ ((j : Int) < (n : Int)) := by omega
              have ej : j = n := by omega
              subst ej
              go_wp2
              go_roundg g
              case measure => omega
              case rel => exact ⟨i + 1, by omega, by go_num, HSN.out HSU.out, ⟨p0, p1⟩, HB.out⟩
            | succ g2 =>
              have hlt2 : (j : Int) < (n : Int) := by omega
              obtain ⟨b, o, rfl, c0⟩ := IntsAt.get' (HL.out.below HB.out) (k := m + j) (by have := HQ.out; have := HLL.out; omega)
              obtain ⟨x, hx⟩ : ∃ x, l.getD (m + j) 0 = x := ⟨_, rfl⟩
              rw [hx] at c0
              obtain ⟨cp, hcp⟩ : ∃ cp, capT i j = cp := ⟨_, rfl⟩
              have HX := mkHid hx
              have HI : Hid ((m + j) / n = i) := mkHid (by rw [← HM.out]; exact idx_div (by omega))
              have HJ : Hid ((m + j) % n = j) := mkHid (by rw [← HM.out]; exact idx_mod (by omega))
              have hcap : ∀ v, Calls Try.prog 57 #[.int .i64 i, .int .i64 j] v fun e w' => e = .returned (.int .i64 cp) ∧ v = w' := fun v => by rw [← hcp]; exact sCap_any i j v
              have HC := mkHid hcp
              have HCA := mkHid hcap
              clear hx hcp hcap
              have k0 : (0 : Int) ≤ (m : Int) + (j : Int) := by omega
              have k1 : (m : Int) + (j : Int) < (q : Int) := by omega
              have HUK : Hid (entB i j x = false → okF n l = false) := mkHid fun h => HU.out (m + j) (by have := HQ.out; omega) (by rw [HI.out, HJ.out, HX.out]; exact h)
              have HSK : Hid (entB i j x = true → Sure n l (m + j + 1)) := mkHid fun h => HSU.out.next (by rw [HI.out, HJ.out, HX.out]; exact h)
              by_cases h1 : cp < x
              · have e := mkHid (ent_far (i := i) (j := j) (x := x) (by rw [HC.out]; exact h1))
                have hbw : btw x (-2000000) cp = false := decide_eq_false (fun e => by omega)
                clear h1
                go_wp2_with (first | (go_at_call 57; refine (HCA.out _).mono ?_; rintro e w' ⟨rfl, rfl⟩) | (go_at_call 58; refine (between_any _ _ _ _).mono ?_; rintro e w' ⟨rfl, rfl⟩))
                go_ret
                exact ⟨ret_bool (HUK.out e.out).symm, HB.out⟩
              · by_cases h2 : x < -2000000
                · have e := mkHid (ent_low (i := i) (j := j) h2)
                  have hbw : btw x (-2000000) cp = false := decide_eq_false (fun e => by omega)
                  clear h1 h2
                  go_wp2_with (first | (go_at_call 57; refine (HCA.out _).mono ?_; rintro e w' ⟨rfl, rfl⟩) | (go_at_call 58; refine (between_any _ _ _ _).mono ?_; rintro e w' ⟨rfl, rfl⟩))
                  go_ret
                  exact ⟨ret_bool (HUK.out e.out).symm, HB.out⟩
                · have hbw : btw x (-2000000) cp = true := decide_eq_true (by omega)
                  by_cases h3 : i = j
                  · have hb3 : ((i : Int) == (j : Int)) = true := by rw [beq_cast]; exact decide_eq_true h3
                    by_cases h4 : x = 0
                    · have e := mkHid (ent_ok (i := i) (j := j) (x := x) (by rw [HC.out]; exact h1) h2 (.inr h4))
                      have hb4 : (x != 0) = false := by simp [h4]
                      clear h3 h4 h1 h2
                      go_wp2_with (first | (go_at_call 57; refine (HCA.out _).mono ?_; rintro e w' ⟨rfl, rfl⟩) | (go_at_call 58; refine (between_any _ _ _ _).mono ?_; rintro e w' ⟨rfl, rfl⟩))
                      go_roundg g2
                      case measure => omega
                      case rel => exact ⟨j + 1, by omega, by go_num, HSK.out e.out, ⟨p0, p1⟩, HB.out⟩
                    · have e := mkHid (ent_same h3 h4)
                      have hb4 : (x != 0) = true := by simp [h4]
                      clear h3 h4 h1 h2
                      go_wp2_with (first | (go_at_call 57; refine (HCA.out _).mono ?_; rintro e w' ⟨rfl, rfl⟩) | (go_at_call 58; refine (between_any _ _ _ _).mono ?_; rintro e w' ⟨rfl, rfl⟩))
                      go_ret
                      exact ⟨ret_bool (HUK.out e.out).symm, HB.out⟩
                  · have hb3 : ((i : Int) == (j : Int)) = false := by rw [beq_cast]; exact decide_eq_false h3
                    have e := mkHid (ent_ok (x := x) (by rw [HC.out]; exact h1) h2 (.inl h3))
                    clear h3 h1 h2
                    go_wp2_with (first | (go_at_call 57; refine (HCA.out _).mono ?_; rintro e w' ⟨rfl, rfl⟩) | (go_at_call 58; refine (between_any _ _ _ _).mono ?_; rintro e w' ⟨rfl, rfl⟩))
                    go_roundg g2
                    case measure => omega
                    case rel => exact ⟨j + 1, by omega, by go_num, HSK.out e.out, ⟨p0, p1⟩, HB.out⟩
    · have e := mkHid (ok_len hll)
      have hne : (((l.length : Nat) : Int) != ((n * n : Nat) : Int)) = true := by simp; omega
      obtain ⟨q, hqe⟩ : ∃ q, n * n = q := ⟨_, rfl⟩
      rw [hqe] at hsq hne
      clear hll hqe hqq hq1
      go_enter Try.func18, Try.ntmps18
      go_wp2_with (first | (go_at_call 58; refine (between_any _ _ _ _).mono ?_; rintro e w' ⟨rfl, rfl⟩))
      go_ret
      exact ⟨ret_bool e.out.symm, (Below.refl _ _).alloc (Nat.le_refl _) _⟩
  · have hbt : btw z 1 13 = false := decide_eq_false hz
    have e := mkHid (ok_size (l := l) hz)
    clear hz
    go_enter Try.func18, Try.ntmps18
    go_wp2_with (first | (go_at_call 58; refine (between_any _ _ _ _).mono ?_; rintro e w' ⟨rfl, rfl⟩))
    go_ret
    exact ⟨ret_bool e.out.symm, (Below.refl _ _).alloc (Nat.le_refl _) _⟩
end Go.Proofs.Ytgclngofigffdaa
