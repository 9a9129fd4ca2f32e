/-
  CONTRACTS of the law's markText, markWordS, heldWordS, eqFault, and of eqWordS at slices of our own.
-/
import Derived.Test.YthaehhndfahocaaIwdsb
namespace Go.Proofs.Ythaehhndfahocaa
open Go.RowKit
open Pl

def mtF : Nat → Nat → List UInt8 → List UInt8
  | 0, _, o => o
  | f + 1, k, o => if k = 0 then o else mtF f (k / 10) ((48 + k % 10).toUInt8 :: o)
theorem mtF_fuel (f g k : Nat) (o : List UInt8) (hf : k ≤ f) (hg : k ≤ g) : mtF f k o = mtF g k o := by
  induction f generalizing g k o with
  | zero =>
    have : k = 0 := by omega
    subst this
    cases g <;> simp [mtF]
  | succ f ih =>
    cases g with
    | zero => have : k = 0 := by omega
              subst this; simp [mtF]
    | succ g =>
      simp only [mtF]
      by_cases h : k = 0
      · simp [h]
      · rw [if_neg h, if_neg h]; exact ih g _ _ (by omega) (by omega)
theorem mtF_step (k : Nat) (o : List UInt8) (h : k ≠ 0) : mtF k k o = mtF (k / 10) (k / 10) ((48 + k % 10).toUInt8 :: o) := by
  obtain ⟨f, hf⟩ : ∃ f, k = f + 1 := ⟨k - 1, by omega⟩
  conv => lhs; rw [show mtF k k o = mtF (f + 1) k o by rw [← hf]]
  simp only [mtF]
  rw [if_neg h]
  exact mtF_fuel _ _ _ _ (by omega) (Nat.le_refl _)
def mtI (k : Nat) : ByteArray := ⟨(109 :: mtF k k []).toArray⟩

theorem conv_one (j : Nat) (w : World) : Sem.run Try.prog (convert 22 9 (.slice (some ⟨w.heap.size, 0, none⟩) 1 1)) (w.alloc (.cells #[.int .u8 (48 + (j : Int) % 10)] 5)) =
    .ok (.string ⟨#[(48 + j % 10).toUInt8]⟩) (w.alloc (.cells #[.int .u8 (48 + (j : Int) % 10)] 5)) := by
  refine run_convert_bytes_back (P := Try.prog) _ 22 9 5 ⟨w.heap.size, 0, none⟩ 1 [(48 + j % 10).toUInt8] Try.underlying22 Try.underlying5 Try.underlying9 (fun i hi => ?_)
  have e : i = 0 := by simpa using hi
  subst e
  rw [WideShapes.add_plain, World.cell?_alloc_new]
  have h : ((48 + j % 10).toUInt8).toNat = 48 + j % 10 := by
    rw [UInt8.toNat_ofNat']
    omega
  simp only [List.getElem_cons_zero, h]
  simp

set_option maxHeartbeats 1000000 in
theorem markText_any (k : Nat) (w : World) (h0 : 1 ≤ k) (h1 : k ≤ 5000) : Calls Try.prog 43 #[.int .i64 k] w fun e w' => e = .returned (.string (mtI k)) ∧ Below w.heap.size w w' := by
  have hk0 : ¬ (k : Int) ≤ 0 := by omega
  go_enter Try.func43, Try.ntmps43
  go_wp2
  go_loopw [0, 3] (fun a o w' => ∃ (j : Nat) (l : List UInt8), a = .int .i64 j ∧ o = .string ⟨l.toArray⟩ ∧ mtF j j l = mtF k k [] ∧ l.length + j ≤ 5000 ∧ Below w.heap.size w w') (fun a _ _ => (intOf a).toNat)
  case atStart => exact ⟨k, [], rfl, rfl, rfl, by simp; omega, Below.refl _ _⟩
  case round =>
    obtain ⟨j, l, rfl, rfl, hm, hl, hb⟩ := hrel
    have HM := mkHid hm
    have HB := mkHid hb
    clear hm hb
    by_cases hj : 0 < (j : Int)
    · have HS : Hid (mtF (j / 10) (j / 10) ((48 + j % 10).toUInt8 :: l) = mtF k k []) := by
        show _ = _
        rw [← mtF_step j l (by omega)]; exact HM.out
      have hcv := conv_one j wr
      obtain ⟨b, hbe⟩ : ∃ b, b = (48 + j % 10).toUInt8 := ⟨_, rfl⟩
      rw [← hbe] at hcv
      have HE := mkHid hbe
      obtain ⟨lo, hlo⟩ : ∃ lo : ByteArray, lo = ⟨l.toArray⟩ := ⟨_, rfl⟩
      have hsz : lo.size = l.length := by rw [hlo]; simp [ByteArray.size]
      have hlz : (ByteArray.mk #[b]).size = 1 := rfl
      rw [← hlo]
      have HL := mkHid hlo
      clear hbe hlo HM
      go_wp2
      go_roundw
      case rel =>
        refine ⟨j / 10, b :: l, by go_num, ?_, by rw [HE.out]; exact HS.out, by simp only [List.length_cons]; omega, HB.out.alloc HB.out.size _⟩
        rw [HL.out]
        exact congrArg Value.string (ByteArray.mk_append_mk [b] l)
      case measure => simp [intOf]; omega
    · have HZ : Hid (mtI k = ⟨#[109]⟩ ++ ⟨l.toArray⟩) := by
        show _ = _
        have hz : j = 0 := by omega
        have := HM.out
        subst hz
        simp only [mtF] at this
        unfold mtI
        rw [← this]
        exact (ByteArray.mk_append_mk [109] l).symm
      obtain ⟨lo, hlo⟩ : ∃ lo : ByteArray, lo = ⟨l.toArray⟩ := ⟨_, rfl⟩
      have hsz : lo.size = l.length := by rw [hlo]; simp [ByteArray.size]
      have hlz : (ByteArray.mk #[109]).size = 1 := rfl
      rw [← hlo]
      have HL := mkHid hlo
      clear hlo HM
      go_wp2
      go_ret
      exact ⟨ret_str (by rw [HL.out]; exact HZ.out.symm), HB.out⟩

theorem markText_int (x : Int) (k : Nat) (hx : x = k) (w : World) (h0 : 1 ≤ k) (h1 : k ≤ 5000) : Calls Try.prog 43 #[.int .i64 x] w fun e w' => e = .returned (.string (mtI k)) ∧ Below w.heap.size w w' := by
  subst hx; exact markText_any k w h0 h1
/-- The words with which the law overwrites a list. -/
def markL (n : Nat) : List W3 := (List.range n).map fun (i : Nat) => ⟨3 * (i : Int) + 1, mtI (3 * i + 2), 3 * (i : Int) + 3⟩
theorem markL_len (n : Nat) : (markL n).length = n := by simp [markL]
theorem markL_get {n i : Nat} (h : i < n) : (markL n)[i]? = some ⟨3 * (i : Int) + 1, mtI (3 * i + 2), 3 * (i : Int) + 3⟩ := by simp [markL, h]
theorem grown_trans {a b c : World} {r : Option Nat} (h : a.grownBy b r) (k : b.grownBy c r) : a.grownBy c r :=
  ⟨k.os.trans h.os, k.tape.trans h.tape, k.output.trans h.output, Nat.le_trans h.size k.size, fun i hi hne => (k.block i (Nat.lt_of_lt_of_le hi h.size) hne).trans (h.block i hi hne)⟩
theorem grown_below {a b : World} {r : Option Nat} (h : Below a.heap.size a b) : a.grownBy b r := ⟨h.os, h.tape, h.output, h.size, fun i hi _ => h.block i hi⟩

set_option maxHeartbeats 1000000 in
theorem mark_row (n g cap base : Nat) (xs0 : List Value) (w : World) (hn : n ≤ 1500) (hown : w.ownsRow base 32 3 (.slice (some ⟨g, 0, none⟩) n cap) n xs0) :
    Calls Try.prog 16 #[.slice (some ⟨g, 0, none⟩) n cap, .int .i64 1] w fun e w' => e = .returned (.int .i64 (3 * (n : Int) + 1)) ∧ w'.ownsRow base 32 3 (.slice (some ⟨g, 0, none⟩) n cap) n (flat (markL n)) ∧ w.grownBy w' (some g) := by
  have HO := mkHid hown
  clear hown
  go_enter Try.func16, Try.ntmps16
  go_wp2
  go_loopw [1, 5] (fun kk i w' => ∃ (j : Nat) (xs : List Value), j ≤ n ∧ i = .int .i64 j ∧ kk = .int .i64 (3 * (j : Int) + 1) ∧ w'.ownsRow base 32 3 (.slice (some ⟨g, 0, none⟩) n cap) n xs ∧ xs.take (j * 3) = flat ((markL n).take j) ∧ w.grownBy w' (some g)) (fun _ i _ => n - (intOf i).toNat)
  case atStart => exact ⟨0, _, Nat.zero_le _, rfl, rfl, HO.out, by simp [flat], ⟨rfl, rfl, rfl, Nat.le_refl _, fun _ _ _ => rfl⟩⟩
  case round =>
    obtain ⟨j, xs, hj, rfl, rfl, hown, htake, hg⟩ := hrel
    have HW := mkHid hown
    have HT := mkHid htake
    have HG := mkHid hg
    clear hown htake hg HO
    by_cases hlt : j < n
    · have HX := mkHid (markL_get hlt)
      have hxl := HW.out.1
      obtain ⟨v0, c0⟩ : ∃ v, wr.cell? ⟨g, j * 3, none⟩ = some v := ⟨_, (HW.out.cellAt (j * 3) (by omega)).trans (List.getElem?_eq_getElem (by omega))⟩
      have f0 := HW.out.frozenAt (j * 3)
      clear hxl
      have i0 : (0 : Int) ≤ (j : Int) := by omega
      go_wp2_with fail
      refine (markText_int _ (3 * j + 2) (by omega) _ (by omega) (by omega)).mono ?_
      rintro e w1 ⟨rfl, hb1⟩
      have HW0 := mkHid (HW.out.stored (j * 3) (.int .i64 (3 * (j : Int) + 1)))
      have HW1 := mkHid (owns_below HW0.out.1 hb1)
      have HG1 := mkHid (grown_trans (grown_trans HG.out HW0.out.2) (grown_below hb1))
      have hxl := HW1.out.1
      obtain ⟨v1, c1⟩ : ∃ v, w1.cell? ⟨g, j * 3 + 1, none⟩ = some v := ⟨_, (HW1.out.cellAt (j * 3 + 1) (by omega)).trans (List.getElem?_eq_getElem (by omega))⟩
      obtain ⟨v2, c2⟩ : ∃ v, w1.cell? ⟨g, j * 3 + 2, none⟩ = some v := ⟨_, (HW1.out.cellAt (j * 3 + 2) (by omega)).trans (List.getElem?_eq_getElem (by omega))⟩
      have f1 := HW1.out.frozenAt (j * 3 + 1)
      have f2 := HW1.out.frozenAt (j * 3 + 2)
      clear hxl hb1 HG HW0 c0 f0
      go_wp2
      have HA := mkHid (HW1.out.stored (j * 3 + 1) (.string (mtI (3 * j + 2))))
      have HB := mkHid (HA.out.1.stored (j * 3 + 2) (.int .i64 (3 * (j : Int) + 3)))
      go_roundw
      case rel =>
        refine ⟨j + 1, _, by omega, by go_num, ?_, ?_, flat_step HX.out (by rw [markL_len]; exact HW.out.1) HT.out, ?_⟩
        · congr 1 <;> omega
        · have e : (3 * (j : Int) + 1 + 1 + 1) = 3 * (j : Int) + 3 := by omega
          rw [e]
          exact HB.out.1
        · have e : (3 * (j : Int) + 1 + 1 + 1) = 3 * (j : Int) + 3 := by omega
          rw [e]
          exact grown_trans (grown_trans HG1.out HA.out.2) HB.out.2
      case measure => simp [intOf]; omega
    · go_wp2
      go_ret
      have e : j = n := by omega
      subst e
      have hx : xs = flat (markL j) := by
        have h1 := HW.out.1
        have h2 := HT.out
        rw [List.take_of_length_le (by omega)] at h2
        rw [List.take_of_length_le (by rw [markL_len]; omega)] at h2
        exact h2
      subst hx
      exact ⟨rfl, HW.out, HG.out⟩
set_option maxHeartbeats 400000 in
theorem mark_nil (a : Option Addr) (cap : Nat) (w : World) : Calls Try.prog 16 #[.slice a 0 cap, .int .i64 1] w fun e w' => e = .returned (.int .i64 1) ∧ w = w' := by
  go_enter Try.func16, Try.ntmps16
  go_wp2
  go_loop [1, 5] (fun l i => l = .int .i64 1 ∧ i = .int .i64 0) (fun _ _ => 0)
  case atStart => exact ⟨rfl, rfl⟩
  case round =>
    obtain ⟨rfl, rfl⟩ := hrel
    go_wp2
    go_ret
    exact ⟨rfl, rfl⟩
set_option maxHeartbeats 400000 in
theorem held_nil (a : Option Addr) (cap : Nat) (w : World) : Calls Try.prog 17 #[.slice a 0 cap, .int .i64 1] w fun e w' => e = .returned (.int .i64 1) ∧ w = w' := by
  go_enter Try.func17, Try.ntmps17
  go_wp2
  go_loop [1, 5] (fun l i => l = .int .i64 1 ∧ i = .int .i64 0) (fun _ _ => 0)
  case atStart => exact ⟨rfl, rfl⟩
  case round =>
    obtain ⟨rfl, rfl⟩ := hrel
    go_wp2
    go_ret
    exact ⟨rfl, rfl⟩
set_option maxHeartbeats 400000 in
theorem eqWordS_nil (a a' : Option Addr) (cap cap' : Nat) (w : World) : Calls Try.prog 14 #[.slice a 0 cap, .slice a' 0 cap'] w fun e w' => e = .returned (.bool true) ∧ w = w' := by
  go_enter Try.func14, Try.ntmps14
  go_wp2
  go_loop [5] (fun i => i = .int .i64 0) (fun _ => 0)
  case atStart => rfl
  case round =>
    subst hrel
    go_wp2
    go_ret
    exact ⟨rfl, rfl⟩
set_option maxHeartbeats 400000 in
theorem eqFault_same (c d : Int) (w : World) : Calls Try.prog 15 #[.agg #[.int .i64 c, .int .i64 d], .agg #[.int .i64 c, .int .i64 d]] w fun e w' => e = .returned (.bool true) ∧ Below w.heap.size w w' := by
  go_enter Try.func15, Try.ntmps15
  go_wp2
  go_ret
  exact ⟨rfl, ((Below.refl _ _).alloc (Nat.le_refl _) _).alloc (by simp) _⟩

set_option maxHeartbeats 1000000 in
theorem held_row (n g cap base : Nat) (w : World) (hn : n ≤ 1500) (hown : w.ownsRow base 32 3 (.slice (some ⟨g, 0, none⟩) n cap) n (flat (markL n))) :
    Calls Try.prog 17 #[.slice (some ⟨g, 0, none⟩) n cap, .int .i64 1] w fun e w' => e = .returned (.int .i64 (3 * (n : Int) + 1)) ∧ Below w.heap.size w w' := by
  have HL : Hid (Lies w g 0 (markL n)) := lies_of_row (ws := markL n) (by rw [markL_len]; exact hown)
  clear hown
  go_enter Try.func17, Try.ntmps17
  go_wp2
  go_loopw [1, 5] (fun kk i w' => ∃ (j : Nat), j ≤ n ∧ i = .int .i64 j ∧ kk = .int .i64 (3 * (j : Int) + 1) ∧ Below w.heap.size w w') (fun _ i _ => n - (intOf i).toNat)
  case atStart => exact ⟨0, Nat.zero_le _, rfl, rfl, Below.refl _ _⟩
  case round =>
    obtain ⟨j, hj, rfl, rfl, hb⟩ := hrel
    have HB := mkHid hb
    clear hb
    by_cases hlt : j < n
    · obtain ⟨c0, c1, c2⟩ := HL.out.below HB.out j _ (markL_get hlt)
      rw [Nat.zero_add] at c0 c1 c2
      have hlb : g < wr.heap.size := World.block_lt_of_cell? wr _ c0
      have i0 : (0 : Int) ≤ (j : Int) := by omega
      have i1 : (j : Int) < (n : Int) := by omega
      go_wp2
      go_region_held3 (fun w' => w'.cell? ⟨g, j * 3, none⟩ = some (.int .i64 (3 * (j : Int) + 1)) ∧ w'.cell? ⟨g, j * 3 + 1, none⟩ = some (.string (mtI (3 * j + 2))) ∧ w'.cell? ⟨g, j * 3 + 2, none⟩ = some (.int .i64 (3 * (j : Int) + 3))) (first | exact ⟨c0, c1, c2⟩ | exact ⟨(hc _ _ hlb).trans c0, (hc _ _ hlb).trans c1, (hc _ _ hlb).trans c2⟩)
        (first | (go_at_call 43; refine (markText_int _ (3 * j + 2) (by omega) _ (by omega) (by omega)).mono ?_; rintro e w1 ⟨rfl, hb1⟩; obtain ⟨hc, hf⟩ := bcell hb1))
      have HB1 : Hid (Below w.heap.size w w1) := HB.out.drew.trans (hb1.mono HB.out.drew.size)
      have d2 : w1.cell? ⟨g, j * 3 + 2, none⟩ = some (.int .i64 (3 * (j : Int) + 1 + 1 + 1)) := by
        rw [show (3 * (j : Int) + 1 + 1 + 1) = 3 * (j : Int) + 3 by omega]
        exact (hc _ _ hlb).trans c2
      clear hb1 hc hf c0 c1 c2
      go_wp2
      go_roundw
      case rel => exact ⟨j + 1, by omega, by go_num, by go_num, HB1.out⟩
      case measure => simp [intOf]; omega
    · go_wp2
      go_ret
      have e : j = n := by omega
      subst e
      exact ⟨rfl, HB.out⟩
end Go.Proofs.Ythaehhndfahocaa
