/-
  CONTRACTS of the program's condSign, stmtForm, formOf.
-/
import Derived.Test.YtncdhmogkgefaabDoorForm
namespace Go.Proofs.YtncdhmogkgefaabDoor
open Go.RowKit

def typI (kind : Int) : Nat :=
  if kind = 1 then 56 else
  if kind = 2 then 58 else
  if kind = 3 then 60 else
  if kind = 4 then 59 else
  if kind = 5 then 61 else
  if kind = 6 then 64 else
  if kind = 7 then 64 else
  if kind = 8 then 64 else
  if kind = 31 then 77 else
  if kind = 32 then 78 else
  if kind = 40 then 79 else
  if kind = 11 then 66 else
  if kind = 12 then 66 else
  if kind = 13 then 66 else
  if kind = 14 then 66 else
  if kind = 15 then 66 else
  if kind = 16 then 66 else
  if kind = 21 then 88 else
  if kind = 22 then 89 else
  if kind = 23 then 90 else
  if kind = 24 then 91 else
  if kind = 25 then 92 else
  if kind = 26 then 93 else
  if kind = 27 then 94 else
  if kind = 28 then 96 else
  if kind = 29 then 96 else
  if kind = 30 then 97 else
  98
def rowI (kind : Int) : Rw := rw0 (typI kind)
def signI (kind : Int) : ByteArray :=
  if kind = 11 then ⟨#[60]⟩ else
  if kind = 12 then ⟨#[60, 61]⟩ else
  if kind = 13 then ⟨#[62]⟩ else
  if kind = 14 then ⟨#[62, 61]⟩ else
  if kind = 15 then ⟨#[61, 61]⟩ else
  if kind = 16 then ⟨#[33, 61]⟩ else
  ⟨#[]⟩

set_option maxHeartbeats 800000 in
theorem condSign_any (kind : Int) (w : World) : Calls Tryd.prog 39 #[.int .i64 kind] w fun e w' => e = .returned (.string (signI kind)) ∧ w = w' := by
  by_cases h11 : kind = 11
  · subst h11
    go_enter Tryd.func39, Tryd.ntmps39
    go_wp2
    go_ret
    exact ⟨rfl, rfl⟩
  by_cases h12 : kind = 12
  · subst h12
    go_enter Tryd.func39, Tryd.ntmps39
    go_wp2
    go_ret
    exact ⟨rfl, rfl⟩
  by_cases h13 : kind = 13
  · subst h13
    go_enter Tryd.func39, Tryd.ntmps39
    go_wp2
    go_ret
    exact ⟨rfl, rfl⟩
  by_cases h14 : kind = 14
  · subst h14
    go_enter Tryd.func39, Tryd.ntmps39
    go_wp2
    go_ret
    exact ⟨rfl, rfl⟩
  by_cases h15 : kind = 15
  · subst h15
    go_enter Tryd.func39, Tryd.ntmps39
    go_wp2
    go_ret
    exact ⟨rfl, rfl⟩
  by_cases h16 : kind = 16
  · subst h16
    go_enter Tryd.func39, Tryd.ntmps39
    go_wp2
    go_ret
    exact ⟨rfl, rfl⟩
  have e : signI kind = ⟨#[]⟩ := by simp [signI, h11, h12, h13, h14, h15, h16]
  rw [e]
  go_enter Tryd.func39, Tryd.ntmps39
  go_wp2
  go_ret
  exact ⟨rfl, rfl⟩

set_option maxHeartbeats 1600000 in
theorem stmtForm_any (kind : Int) (w : World) (h1 : ∀ k ∈ [1, 2, 3, 4, 5, 6, 7, 8, 31, 32, 40, 11, 12, 13, 14, 15, 16], kind ≠ k) : Calls Tryd.prog 40 #[.int .i64 kind] w fun e w' => (∃ t v f, e = .returned (.iface t v) ∧ RowOk (rowI kind) t v f) ∧ w = w' := by
  by_cases h21 : kind = 21
  · subst h21
    clear h1
    go_enter Tryd.func40, Tryd.ntmps40
    go_wp2
    go_ret
    exact ⟨⟨_, _, _, rfl, set_row⟩, rfl⟩
  by_cases h22 : kind = 22
  · subst h22
    clear h1
    go_enter Tryd.func40, Tryd.ntmps40
    go_wp2
    go_ret
    exact ⟨⟨_, _, _, rfl, put_row⟩, rfl⟩
  by_cases h23 : kind = 23
  · subst h23
    clear h1
    go_enter Tryd.func40, Tryd.ntmps40
    go_wp2
    go_ret
    exact ⟨⟨_, _, _, rfl, read_row⟩, rfl⟩
  by_cases h24 : kind = 24
  · subst h24
    clear h1
    go_enter Tryd.func40, Tryd.ntmps40
    go_wp2
    go_ret
    exact ⟨⟨_, _, _, rfl, ifs_row⟩, rfl⟩
  by_cases h25 : kind = 25
  · subst h25
    clear h1
    go_enter Tryd.func40, Tryd.ntmps40
    go_wp2
    go_ret
    exact ⟨⟨_, _, _, rfl, while_row⟩, rfl⟩
  by_cases h26 : kind = 26
  · subst h26
    clear h1
    go_enter Tryd.func40, Tryd.ntmps40
    go_wp2
    go_ret
    exact ⟨⟨_, _, _, rfl, fors_row⟩, rfl⟩
  by_cases h27 : kind = 27
  · subst h27
    clear h1
    go_enter Tryd.func40, Tryd.ntmps40
    go_wp2
    go_ret
    exact ⟨⟨_, _, _, rfl, check_row⟩, rfl⟩
  by_cases h28 : kind = 28
  · subst h28
    clear h1
    go_enter Tryd.func40, Tryd.ntmps40
    go_wp2
    go_ret
    exact ⟨⟨_, _, _, rfl, word_row _⟩, rfl⟩
  by_cases h29 : kind = 29
  · subst h29
    clear h1
    go_enter Tryd.func40, Tryd.ntmps40
    go_wp2
    go_ret
    exact ⟨⟨_, _, _, rfl, word_row _⟩, rfl⟩
  by_cases h30 : kind = 30
  · subst h30
    clear h1
    go_enter Tryd.func40, Tryd.ntmps40
    go_wp2
    go_ret
    exact ⟨⟨_, _, _, rfl, block_row⟩, rfl⟩
  have e : rowI kind = rw0 98 := by
    simp at h1
    simp [rowI, typI, h1, h21, h22, h23, h24, h25, h26, h27, h28, h29, h30]
  rw [e]
  clear h1 e
  go_enter Tryd.func40, Tryd.ntmps40
  go_wp2
  go_ret
  exact ⟨⟨_, _, _, rfl, no_row⟩, rfl⟩

set_option maxHeartbeats 1600000 in
theorem formOf_any (kind : Int) (w : World) : Calls Tryd.prog 27 #[.int .i64 kind] w fun e w' => (∃ t v f, e = .returned (.iface t v) ∧ RowOk (rowI kind) t v f) ∧ w = w' := by
  by_cases h1 : kind = 1
  · subst h1
    go_enter Tryd.func27, Tryd.ntmps27
    go_wp2
    go_ret
    exact ⟨⟨_, _, _, rfl, num_row⟩, rfl⟩
  by_cases h2 : kind = 2
  · subst h2
    go_enter Tryd.func27, Tryd.ntmps27
    go_wp2
    go_ret
    exact ⟨⟨_, _, _, rfl, var_row⟩, rfl⟩
  by_cases h3 : kind = 3
  · subst h3
    go_enter Tryd.func27, Tryd.ntmps27
    go_wp2
    go_ret
    exact ⟨⟨_, _, _, rfl, cell_row⟩, rfl⟩
  by_cases h4 : kind = 4
  · subst h4
    go_enter Tryd.func27, Tryd.ntmps27
    go_wp2
    go_ret
    exact ⟨⟨_, _, _, rfl, len_row⟩, rfl⟩
  by_cases h5 : kind = 5
  · subst h5
    go_enter Tryd.func27, Tryd.ntmps27
    go_wp2
    go_ret
    exact ⟨⟨_, _, _, rfl, neg_row⟩, rfl⟩
  by_cases h6 : kind = 6
  · subst h6
    go_enter Tryd.func27, Tryd.ntmps27
    go_wp2
    go_ret
    exact ⟨⟨_, _, _, rfl, pair_row _⟩, rfl⟩
  by_cases h7 : kind = 7
  · subst h7
    go_enter Tryd.func27, Tryd.ntmps27
    go_wp2
    go_ret
    exact ⟨⟨_, _, _, rfl, pair_row _⟩, rfl⟩
  by_cases h8 : kind = 8
  · subst h8
    go_enter Tryd.func27, Tryd.ntmps27
    go_wp2
    go_ret
    exact ⟨⟨_, _, _, rfl, pair_row _⟩, rfl⟩
  by_cases h31 : kind = 31
  · subst h31
    go_enter Tryd.func27, Tryd.ntmps27
    go_wp2
    go_ret
    exact ⟨⟨_, _, _, rfl, name_row⟩, rfl⟩
  by_cases h32 : kind = 32
  · subst h32
    go_enter Tryd.func27, Tryd.ntmps27
    go_wp2
    go_ret
    exact ⟨⟨_, _, _, rfl, array_row⟩, rfl⟩
  by_cases h40 : kind = 40
  · subst h40
    go_enter Tryd.func27, Tryd.ntmps27
    go_wp2
    go_ret
    exact ⟨⟨_, _, _, rfl, prog_row⟩, rfl⟩
  by_cases h11 : kind = 11
  · subst h11
    go_enter Tryd.func27, Tryd.ntmps27
    go_wp2_with fail
    refine (condSign_any 11 _).mono ?_
    rintro e w1 ⟨rfl, rfl⟩
    rw [show signI 11 = ⟨#[60]⟩ from rfl]
    go_wp2
    go_ret
    exact ⟨⟨_, _, _, rfl, cond_row _⟩, rfl⟩
  by_cases h12 : kind = 12
  · subst h12
    go_enter Tryd.func27, Tryd.ntmps27
    go_wp2_with fail
    refine (condSign_any 12 _).mono ?_
    rintro e w1 ⟨rfl, rfl⟩
    rw [show signI 12 = ⟨#[60, 61]⟩ from rfl]
    go_wp2
    go_ret
    exact ⟨⟨_, _, _, rfl, cond_row _⟩, rfl⟩
  by_cases h13 : kind = 13
  · subst h13
    go_enter Tryd.func27, Tryd.ntmps27
    go_wp2_with fail
    refine (condSign_any 13 _).mono ?_
    rintro e w1 ⟨rfl, rfl⟩
    rw [show signI 13 = ⟨#[62]⟩ from rfl]
    go_wp2
    go_ret
    exact ⟨⟨_, _, _, rfl, cond_row _⟩, rfl⟩
  by_cases h14 : kind = 14
  · subst h14
    go_enter Tryd.func27, Tryd.ntmps27
    go_wp2_with fail
    refine (condSign_any 14 _).mono ?_
    rintro e w1 ⟨rfl, rfl⟩
    rw [show signI 14 = ⟨#[62, 61]⟩ from rfl]
    go_wp2
    go_ret
    exact ⟨⟨_, _, _, rfl, cond_row _⟩, rfl⟩
  by_cases h15 : kind = 15
  · subst h15
    go_enter Tryd.func27, Tryd.ntmps27
    go_wp2_with fail
    refine (condSign_any 15 _).mono ?_
    rintro e w1 ⟨rfl, rfl⟩
    rw [show signI 15 = ⟨#[61, 61]⟩ from rfl]
    go_wp2
    go_ret
    exact ⟨⟨_, _, _, rfl, cond_row _⟩, rfl⟩
  by_cases h16 : kind = 16
  · subst h16
    go_enter Tryd.func27, Tryd.ntmps27
    go_wp2_with fail
    refine (condSign_any 16 _).mono ?_
    rintro e w1 ⟨rfl, rfl⟩
    rw [show signI 16 = ⟨#[33, 61]⟩ from rfl]
    go_wp2
    go_ret
    exact ⟨⟨_, _, _, rfl, cond_row _⟩, rfl⟩
  have e : signI kind = ⟨#[]⟩ := by simp [signI, h11, h12, h13, h14, h15, h16]
  have HA := mkHid (show ∀ k ∈ [1, 2, 3, 4, 5, 6, 7, 8, 31, 32, 40, 11, 12, 13, 14, 15, 16], kind ≠ k by intro k hk; simp at hk; omega)
  go_enter Tryd.func27, Tryd.ntmps27
  go_wp2_with fail
  refine (condSign_any kind _).mono ?_
  rintro e1 w1 ⟨rfl, rfl⟩
  rw [e]
  go_wp2_with fail
  refine (stmtForm_any kind _ HA.out).mono ?_
  rintro e w1 ⟨⟨t, v, f, rfl, hf⟩, rfl⟩
  have HF := mkHid hf
  clear hf
  go_wp2
  go_ret
  exact ⟨⟨_, _, _, rfl, HF.out⟩, rfl⟩
end Go.Proofs.YtncdhmogkgefaabDoor
