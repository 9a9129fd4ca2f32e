/-
  PURE: how long a Val's text can be.
-/
import Derived.Test.YtiihjoliodemmaaDoorVr
namespace Go.Proofs.YtiihjoliodemmaaDoor

theorem textV_short {a b : Int} {s : Bool} (h : okB a b = true) : (textV a b s).size ≤ 100 := by
  rw [← ba_len]
  have hM : (textM a b).data.toList.length ≤ 30 := by
    cases hi : isB a b
    · rw [textM_non h hi]; decide
    · rw [textM_rng h hi]
      obtain ⟨q1, q2, q3⟩ := some_of_ok h hi
      have l1 := itoa_len (n := a) q1 (by omega)
      have l2 := itoa_len (n := b) (by omega) q3
      unfold rngL
      simp only [List.length_append, List.length_cons]
      omega
  cases s
  · rw [textV_f h, List.length_append]
    have e13 : orL.length = 13 := rfl
    omega
  · rw [textV_t h]; omega
end Go.Proofs.YtiihjoliodemmaaDoor
