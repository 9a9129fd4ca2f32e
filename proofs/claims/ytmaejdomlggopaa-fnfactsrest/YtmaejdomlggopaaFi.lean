/-
  CONTRACT of the program's FactsForget.
-/
import Derived.Test.YtmaejdomlggopaaFr
import Derived.Test.YtmaejdomlggopaaAt
namespace Go.Proofs.Ytmaejdomlggopaa
open Go.RowKit

theorem free_fine {n : Nat} {o : Option Tab} (h : FineO n o) (i : Nat) : FineO n (o.map (freeT i)) := fun g e => by
  cases o with
  | none => cases e
  | some f =>
    obtain ⟨h1, h2, h3⟩ := h f rfl
    cases e
    refine ⟨h1, h2, fun a b ha hb => ?_⟩
    have q := h3 a b ha hb
    have q2 := cap_le a b
    unfold freeT
    split
    · exact ⟨by omega, by omega, fun e => if_pos e⟩
    · exact q
theorem set_nat {n : Nat} {o : Option Tab} {i : Int} (h : setB i (outZ o n) = true) : ∃ k : Nat, i = k ∧ 1 ≤ k ∧ k < n := by
  unfold setB at h
  have h := of_decide_eq_true h
  refine ⟨i.toNat, by omega, by omega, ?_⟩
  have : outZ o n ≤ n := by unfold outZ; split <;> omega
  omega
/-- What FactsForget answers. -/
def forgF (z : Int) (l : List Int) (i : Int) : Option Tab := if setB i (outZ (okO z l) z.toNat) then ((okO z l).bind (cloO z.toNat)).map (freeT i.toNat) else none
theorem forgF_fine (z : Int) (l : List Int) (i : Int) : FineO z.toNat (forgF z l i) := by
  unfold forgF
  split
  · exact free_fine (clo_fineO (okO_fine z l)) _
  · exact fun f e => by cases e
end Go.Proofs.Ytmaejdomlggopaa
