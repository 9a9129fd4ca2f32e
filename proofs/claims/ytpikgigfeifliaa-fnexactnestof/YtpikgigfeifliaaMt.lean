/-
  CONTRACT of the law's markText.
-/
import Derived.Test.YtpikgigfeifliaaTree
import Derived.Lib.Strings
import Derived.WideShapes
namespace Go.Proofs.Ytpikgigfeifliaa
open Go.RowKit

theorem ret_str {a b : ByteArray} (h : a = b) : Ending.returned (.string a) = .returned (.string b) := by rw [h]
def mtF : Nat → Nat → List UInt8 → List UInt8
  | 0, _, o => o
  | f + 1, k, o => if k = 0 then o else mtF f (k / 10) ((48 + k % 10).toUInt8 :: o)
theorem mtF_fuel (f g k : Nat) (o : List UInt8) (hf : k ≤ f) (hg : k ≤ g) : mtF f k o = mtF g k o := by
  induction f generalizing g k o with
  | zero =>
    have : k = 0 := by omega
    subst this
    cases g <;> simp [mtF]
  | succ f ih =>
    cases g with
    | zero => have : k = 0 := by omega
              subst this; simp [mtF]
    | succ g =>
      simp only [mtF]
      by_cases h : k = 0
      · simp [h]
      · rw [if_neg h, if_neg h]; exact ih g _ _ (by omega) (by omega)
theorem mtF_step (k : Nat) (o : List UInt8) (h : k ≠ 0) : mtF k k o = mtF (k / 10) (k / 10) ((48 + k % 10).toUInt8 :: o) := by
  obtain ⟨f, hf⟩ : ∃ f, k = f + 1 := ⟨k - 1, by omega⟩
  conv => lhs; rw [show mtF k k o = mtF (f + 1) k o by rw [← hf]]
  simp only [mtF]
  rw [if_neg h]
  exact mtF_fuel _ _ _ _ (by omega) (Nat.le_refl _)
def mtI (k : Nat) : ByteArray := ⟨(109 :: mtF k k []).toArray⟩

theorem conv_one (j : Nat) (w : World) : Sem.run Try.prog (convert 72 9 (.slice (some ⟨w.heap.size, 0, none⟩) 1 1)) (w.alloc (.cells #[.int .u8 (48 + (j : Int) % 10)] 5)) =
    .ok (.string ⟨#[(48 + j % 10).toUInt8]⟩) (w.alloc (.cells #[.int .u8 (48 + (j : Int) % 10)] 5)) := by
  refine run_convert_bytes_back (P := Try.prog) _ 72 9 5 ⟨w.heap.size, 0, none⟩ 1 [(48 + j % 10).toUInt8] Try.underlying72 Try.underlying5 Try.underlying9 (fun i hi => ?_)
  have e : i = 0 := by simpa using hi
  subst e
  rw [WideShapes.add_plain, World.cell?_alloc_new]
  have h : ((48 + j % 10).toUInt8).toNat = 48 + j % 10 := by
    rw [UInt8.toNat_ofNat']
    omega
  simp only [List.getElem_cons_zero, h]
  simp

set_option maxHeartbeats 1000000 in
theorem markText_any (k : Nat) (w : World) (h0 : 1 ≤ k) (h1 : k ≤ 10000000) : Calls Try.prog 35 #[.int .i64 k] w fun e w' => e = .returned (.string (mtI k)) ∧ Below w.heap.size w w' := by
  have hk0 : ¬ (k : Int) ≤ 0 := by omega
  go_enter Try.func35, Try.ntmps35
  go_wp2
  go_loopw [0, 3] (fun a o w' => ∃ (j : Nat) (l : List UInt8), a = .int .i64 j ∧ o = .string ⟨l.toArray⟩ ∧ mtF j j l = mtF k k [] ∧ l.length + j ≤ 10000000 ∧ Below w.heap.size w w') (fun a _ _ => (intOf a).toNat)
  case atStart => exact ⟨k, [], rfl, rfl, rfl, by simp; omega, Below.refl _ _⟩
  case round =>
    obtain ⟨j, l, rfl, rfl, hm, hl, hb⟩ := hrel
    have HM := mkHid hm
    have HB := mkHid hb
    clear hm hb
    by_cases hj : 0 < (j : Int)
    · have HS : Hid (mtF (j / 10) (j / 10) ((48 + j % 10).toUInt8 :: l) = mtF k k []) := by
        show _ = _
        rw [← mtF_step j l (by omega)]; exact HM.out
      have hcv := conv_one j wr
      obtain ⟨b, hbe⟩ : ∃ b, b = (48 + j % 10).toUInt8 := ⟨_, rfl⟩
      rw [← hbe] at hcv
      have HE := mkHid hbe
      obtain ⟨lo, hlo⟩ : ∃ lo : ByteArray, lo = ⟨l.toArray⟩ := ⟨_, rfl⟩
      have hsz : lo.size = l.length := by rw [hlo]; simp [ByteArray.size]
      have hlz : (ByteArray.mk #[b]).size = 1 := rfl
      rw [← hlo]
      have HL := mkHid hlo
      clear hbe hlo HM
      go_wp2
      go_roundw
      case rel =>
        refine ⟨j / 10, b :: l, by go_num, ?_, by rw [HE.out]; exact HS.out, by simp only [List.length_cons]; omega, HB.out.alloc HB.out.size _⟩
        rw [HL.out]
        exact congrArg Value.string (ByteArray.mk_append_mk [b] l)
      case measure => simp [intOf]; omega
    · have HZ : Hid (mtI k = ⟨#[109]⟩ ++ ⟨l.toArray⟩) := by
        show _ = _
        have hz : j = 0 := by omega
        have := HM.out
        subst hz
        simp only [mtF] at this
        unfold mtI
        rw [← this]
        exact (ByteArray.mk_append_mk [109] l).symm
      obtain ⟨lo, hlo⟩ : ∃ lo : ByteArray, lo = ⟨l.toArray⟩ := ⟨_, rfl⟩
      have hsz : lo.size = l.length := by rw [hlo]; simp [ByteArray.size]
      have hlz : (ByteArray.mk #[109]).size = 1 := rfl
      rw [← hlo]
      have HL := mkHid hlo
      clear hlo HM
      go_wp2
      go_ret
      exact ⟨ret_str (by rw [HL.out]; exact HZ.out.symm), HB.out⟩
theorem mtF_len (f k : Nat) : ∀ o : List UInt8, (mtF f k o).length ≤ f + o.length := by
  induction f generalizing k with
  | zero => intro o; simp [mtF]
  | succ f ih =>
    intro o
    simp only [mtF]
    split
    · omega
    · have := ih (k / 10) ((48 + k % 10).toUInt8 :: o)
      simp only [List.length_cons] at this
      omega
theorem mtI_size (k : Nat) : (mtI k).size ≤ k + 1 := by
  have := mtF_len k k []
  simp only [mtI, ByteArray.size, List.size_toArray, List.length_cons, List.length_nil] at this ⊢
  omega
end Go.Proofs.Ytpikgigfeifliaa
