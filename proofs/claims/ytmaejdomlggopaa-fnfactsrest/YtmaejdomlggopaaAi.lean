/-
  CONTRACT of the program's FactsAdd.
-/
import Derived.Test.YtmaejdomlggopaaAd
namespace Go.Proofs.Ytmaejdomlggopaa
open Go.RowKit

set_option maxRecDepth 100000 in
set_option maxHeartbeats 800000 in
theorem added_none (i j c : Int) (w : World) : Calls Try.prog 73 #[.agg (dA 0 zs), .int .i64 i, .int .i64 j, .int .i64 c] w fun e w' => e = .returned (.agg (dA 0 zs)) ∧ Below w.heap.size w w' := by
  have hz := zc64
  have D0 := mkHid ((Dif.new w (n := 0) zs_len 73).alloc (.cells (dA 0 zs) 73))
  have R0 := mkHid (Dif.new (w.alloc (.cells (dA 0 zs) 73)) (n := 0) zs_len 73)
  have B0 := mkHid (((Below.refl w.heap.size w).alloc (Nat.le_refl _) (.cells (dA 0 zs) 73)).alloc (by simp) (.cells (dA 0 zs) 73))
  go_enter Try.func73, Try.ntmps73
  go_wp2_with (first | (refine wp_load64 D0.out rfl rfl rfl ?_))
  refine (isNone_any 0 zs _).mono ?_
  rintro e2 w1 ⟨rfl, hb1⟩
  have R1 : Hid (Dif w1 (w.heap.size + 1) 0 zs) := mkHid (by have := R0.out.below hb1; simpa using this)
  have B1 := mkHid (below_step B0.out hb1)
  have hn0 : decide ((0 : Int) = 0) = true := rfl
  rw [hn0]
  clear hb1
  go_wp2_with (first | (refine wp_store64 R1.out zs_len rfl rfl rfl rfl ?_; intro w2 hD2 hg2))
  exact ret64 rfl hD2 rfl rfl ⟨rfl, B1.out.grown hg2 B1.out.size (fun q hq => by cases hq; omega)⟩
theorem addedD (n : Nat) (o : Option Tab) (ho : GoodO n o) (i j : Nat) (hi : ∀ f, o = some f → i < n ∧ j < n) (c : Int) (w : World) : Calls Try.prog 73 #[.agg (D n o), .int .i64 i, .int .i64 j, .int .i64 c] w fun e w' => e = .returned (.agg (D n (addO n i j c o))) ∧ Below w.heap.size w w' := by
  cases o with
  | none => exact added_none i j c w
  | some f =>
    obtain ⟨h1, h2, h3⟩ := ho f rfl
    obtain ⟨h4, h5⟩ := hi f rfl
    exact added_some n f h1 h2 h3 i j h4 h5 c w
theorem addO_good {n : Nat} {o : Option Tab} (h : FineO n o) {i j : Nat} (hi : ∀ f, o = some f → i < n ∧ j < n) (c : Int) : FineO n (addO n i j c o) := fun g e => by
  cases o with
  | none => cases e
  | some f =>
    obtain ⟨h1, h2, h3⟩ := h f rfl
    obtain ⟨h4, h5⟩ := hi f rfl
    simp only [addO, Option.bind_some] at e
    split at e
    · cases e
    · rename_i hc
      unfold cloO at e
      split at e
      · rename_i hcl
        cases e
        refine ⟨h1, h2, fun a b ha hb => ?_⟩
        have hd : ∀ a, a < n → setT f i j c a a ≤ 0 := fun a ha => by
          have q1 := (h3 a a ha ha).2.2 rfl
          have q2 := h3 i j h4 h5
          unfold setT
          split
          · rename_i hh
            have q3 := (h3 i j h4 h5).2.2 (hh.1.symm.trans hh.2)
            omega
          · omega
        have hcz := clo_closed hd hcl
        have q1 := clo_le n (setT f i j c) a b
        have q2 := clo_le n (setT f i j c) b a
        have q3 := closed_low hcz ha hb
        have q4 : ∀ a b, a < n → b < n → setT f i j c a b ≤ capT a b := fun a b ha hb => by
          have := h3 a b ha hb
          unfold setT
          split
          · rename_i hh; obtain ⟨rfl, rfl⟩ := hh; omega
          · omega
        have q5 := q4 a b ha hb
        have q6 := q4 b a hb ha
        have q7 := cap_le b a
        exact ⟨by omega, by omega, fun e => by subst e; exact hcz.1 a ha⟩
      · cases e
/-- What FactsAdd answers. -/
def addF (z : Int) (l : List Int) (i j c : Int) : Option Tab := if symB i (outZ (okO z l) z.toNat) && symB j (outZ (okO z l) z.toNat) then addO z.toNat i.toNat j.toNat c (okO z l) else none
theorem D_out (n : Nat) (o : Option Tab) : ∃ G, D n o = dA (outZ o n) G ∧ G.length = 169 := by
  cases o with
  | none => exact ⟨zs, rfl, zs_len⟩
  | some f => exact ⟨grid n f, rfl, grid_len n f⟩
theorem sym_nat {n : Nat} {o : Option Tab} {i : Int} (h : symB i (outZ o n) = true) : ∃ k : Nat, i = k ∧ k < n := by
  unfold symB at h
  have h := of_decide_eq_true h
  refine ⟨i.toNat, by omega, ?_⟩
  have : outZ o n ≤ n := by unfold outZ; split <;> omega
  omega
end Go.Proofs.Ytmaejdomlggopaa
