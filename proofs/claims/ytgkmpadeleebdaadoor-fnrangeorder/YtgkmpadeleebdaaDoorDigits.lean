/-
  CONTRACT of the specification's l01Digits.
-/
import Derived.Test.YtgkmpadeleebdaaDoorSp
import Derived.Test.YtgkmpadeleebdaaDoorShelf
namespace Go.Proofs.YtgkmpadeleebdaaDoor
open Go.RowKit

def dec (n : Nat) : ByteArray := ⟨(Lib.decDigits n).toArray⟩
theorem dec_small {n : Nat} (h : n < 10) : dec n = ⟨#[UInt8.ofNat (48 + n)]⟩ := by
  unfold dec
  rw [Lib.decDigits, dif_pos h]
theorem dec_more {n : Nat} (h : ¬ n < 10) : dec n = dec (n / 10) ++ ⟨#[UInt8.ofNat (48 + n % 10)]⟩ := by
  unfold dec
  conv => lhs; rw [Lib.decDigits, dif_neg h]
  apply ByteArray.ext
  simp

theorem dec_size (n : Nat) : (dec n).size ≤ n + 1 := by
  induction n using Nat.strongRecOn with
  | ind n ih =>
    by_cases h : n < 10
    · rw [dec_small h]
      exact Nat.succ_le_succ (Nat.zero_le _)
    · rw [dec_more h, ByteArray.size_append]
      have := ih (n / 10) (by omega)
      have e : (ByteArray.mk #[UInt8.ofNat (48 + n % 10)]).size = 1 := rfl
      omega

/-- One byte of a digit, as a string. -/
theorem conv_one (d b : Nat) (w : World) (hd : d < 10) (hc : w.cell? ⟨b, 0, none⟩ = some (.int .u8 (48 + (d : Int)))) :
    Sem.run Tryd.prog (convert 22 9 (.slice (some ⟨b, 0, none⟩) 1 1)) w = .ok (.string ⟨#[UInt8.ofNat (48 + d)]⟩) w := by
  refine run_convert_bytes_back (P := Tryd.prog) w 22 9 5 ⟨b, 0, none⟩ 1 [UInt8.ofNat (48 + d)] Tryd.underlying22 Tryd.underlying5 Tryd.underlying9 (fun i hi => ?_)
  have e : i = 0 := by simpa using hi
  subst e
  rw [WideShapes.add_plain]
  have h : (UInt8.ofNat (48 + d)).toNat = 48 + d := by
    rw [UInt8.toNat_ofNat']
    omega
  simp only [List.getElem_cons_zero, h]
  rw [hc]
  rfl

set_option maxRecDepth 100000 in
set_option maxHeartbeats 1600000 in
theorem digits_any : ∀ (n : Nat) (w : World), n ≤ 1000000 → Calls Tryd.prog 38 #[.int .i64 n] w fun e w' => e = .returned (.string (dec n)) ∧ Below w.heap.size w w' := by
  intro n
  induction n using Nat.strongRecOn with
  | ind n ih =>
    intro w hn
    have h0 : (0 : Int) ≤ (n : Int) := by omega
    by_cases h : n < 10
    · clear ih
      have hconv := conv_one n w.heap.size (w.alloc (.cells #[.int .u8 (48 + (n : Int))] 5)) h (by simp [go_sem])
      rw [dec_small h]
      generalize UInt8.ofNat (48 + n) = x at hconv ⊢
      go_enter Tryd.func38, Tryd.ntmps38
      go_wp2
      go_ret
      exact ⟨rfl, (Below.refl _ _).alloc (Nat.le_refl _) _⟩
    · have h1 : (10 : Int) ≤ (n : Int) := by omega
      have HD := mkHid (dec_more h)
      obtain ⟨q, hq⟩ : ∃ q, q = n / 10 := ⟨_, rfl⟩
      obtain ⟨r, hr⟩ : ∃ r, r = n % 10 := ⟨_, rfl⟩
      rw [← hq, ← hr] at HD
      have hq' : Int.tdiv (n : Int) 10 = (q : Int) := by rw [Int.tdiv_eq_ediv_of_nonneg h0]; omega
      have hr' : Int.tmod (n : Int) 10 = (r : Int) := by rw [Int.tmod_eq_emod_of_nonneg h0]; omega
      have hr9 : (r : Int) < 10 := by omega
      have hr0 : (0 : Int) ≤ (r : Int) := by omega
      have HI := mkHid (fun W => ih q (by omega) W (by omega))
      have hconv := fun b W => conv_one r b W (by omega)
      generalize UInt8.ofNat (48 + r) = x at hconv HD
      have wq : IntKind.i64.wrap (q : Int) = (q : Int) := by rw [IntKind.wrap_i64]; omega
      have wr : IntKind.i64.wrap (r : Int) = (r : Int) := by rw [IntKind.wrap_i64]; omega
      have ws : IntKind.i64.wrap (48 + (r : Int)) = 48 + (r : Int) := by rw [IntKind.wrap_i64]; omega
      have wu : IntKind.u8.wrap (48 + (r : Int)) = 48 + (r : Int) := by rw [IntKind.wrap_u8]; omega
      have hds := dec_size q
      have hqs : (dec q).size ≤ 1000001 := by omega
      clear ih hq hr hds
      go_enter Tryd.func38, Tryd.ntmps38
      go_wp2_with fail
      go_region_with (first | (go_at_call 38; refine (HI.out _).mono ?_; rintro e w1 ⟨rfl, hb1⟩; obtain ⟨hc, hf⟩ := bcell hb1))
      all_goals clear hc hf
      all_goals go_wp2
      all_goals go_ret
      all_goals refine ⟨by rw [HD.out]; rfl, ?_⟩
      all_goals first | exact (below_step (Below.refl w.heap.size w).drew hb1).alloc (hb1.size) _ | exact below_step (((Below.refl w.heap.size w).alloc (Nat.le_refl _) _).drew) hb1
end Go.Proofs.YtgkmpadeleebdaaDoor
