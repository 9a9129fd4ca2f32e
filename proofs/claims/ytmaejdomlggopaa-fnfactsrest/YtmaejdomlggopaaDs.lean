/-
  CONTRACT of the specification's FactsClose.
-/
import Derived.Test.YtmaejdomlggopaaDd
namespace Go.Proofs.Ytmaejdomlggopaa
open Go.RowKit

/-- Nothing is answered: the block as it was made. -/
theorem none_shut {w w1 : World} {b : Nat} (hB : Below w.heap.size w w1) (hb : w.heap.size ≤ b) (v0 v1 : Value) : Below w.heap.size w ((w1.setCell ⟨b, 0, none⟩ v0).setCell ⟨b, 1, none⟩ v1) :=
  (hB.setCell (p := ⟨b, 0, none⟩) hb _).setCell (p := ⟨b, 1, none⟩) hb _
set_option maxRecDepth 100000 in
set_option maxHeartbeats 800000 in
theorem sClose_any (z : Int) (l : List Int) (a : Option Addr) (c : Nat) (w : World) (hl : IntsAt w a l) : Calls Try.prog 51 #[.agg #[.int .i64 z, .slice a l.length c]] w fun e w' => Gives w w' e (outZ ((okO z l).bind (cloO z.toNat)) z.toNat) (outL ((okO z l).bind (cloO z.toNat)) z.toNat) := by
  have HL := mkHid hl
  have B0 := mkHid (((Below.refl w.heap.size w).alloc (Nat.le_refl _) (.cells #[.int .i64 z, .slice a l.length c] 27)).alloc (by simp) (.cells #[.int .i64 0, .slice none 0 0] 27))
  have Z0 := mkHid (Fz.new (w.alloc (.cells #[.int .i64 z, .slice a l.length c] 27)))
  have T0 := mkHid ((Fc.new w z a l.length c 27).alloc (.cells #[.int .i64 0, .slice none 0 0] 27))
  cases hok : okF z l
  · have e1 : Hid (outZ ((okO z l).bind (cloO z.toNat)) z.toNat = 0 ∧ outL ((okO z l).bind (cloO z.toNat)) z.toNat = []) := mkHid (by rw [okO_no hok]; exact ⟨rfl, rfl⟩)
    rw [e1.out.1, e1.out.2]
    have HOK := mkHid hok
    clear hok hl
    go_enter Try.func51, Try.ntmps51
    go_wp2_with fail
    refine (sOkF_any z l a c _ (HL.out.below B0.out)).mono ?_
    rintro e w1 ⟨rfl, hb1⟩
    rw [HOK.out]
    have B1 := mkHid (below_step B0.out hb1)
    have Z1 : Hid (Fz w1 (w.heap.size + 1)) := mkHid (by have := Z0.out.below hb1; simpa using this)
    obtain ⟨⟨z0, z1⟩, z2, z3⟩ := Z1.out
    clear hb1
    go_wp2
    exact bodyPost_ret (v := .agg #[.int .i64 0, .slice none 0 0]) (by simp [results, Try.results51, go_sem, z0, z1]) rfl ⟨none, 0, rfl, OwnI.nil _ _, none_shut B1.out (Nat.le_succ _) _ _⟩
  · obtain ⟨n, hn, h1, h2, hll, hmk, hfine⟩ := ok_of hok
    subst hn
    have e1 : Hid (okO n l = some (tab n l)) := mkHid (okO_yes hok)
    have HC : Hid (∀ v, IntsAt v a l → Calls Try.prog 59 #[.int .i64 n, .slice a l.length c] v fun e w' => Gives v w' e (outZ (cloO n (tab n l)) n) (outL (cloO n (tab n l)) n)) := mkHid fun v hv => by
      have := sCloseD n (tab n l) h1 h2 hfine.bd a c v (by rw [← hmk]; exact hv)
      rwa [← hmk] at this
    rw [show ((n : Int)).toNat = n from Int.toNat_natCast n, e1.out]
    simp only [Option.bind_some]
    obtain ⟨o, ho⟩ : ∃ o, cloO n (tab n l) = o := ⟨_, rfl⟩
    rw [ho] at HC
    rw [ho]
    have HOK := mkHid hok
    clear hok hl hmk hfine hll ho e1
    go_enter Try.func51, Try.ntmps51
    go_wp2_with fail
    refine (sOkF_any n l a c _ (HL.out.below B0.out)).mono ?_
    rintro e w1 ⟨rfl, hb1⟩
    rw [HOK.out]
    have B1 := mkHid (below_step B0.out hb1)
    have Z1 : Hid (Fz w1 (w.heap.size + 1)) := mkHid (by have := Z0.out.below hb1; simpa using this)
    obtain ⟨t0, t1⟩ := T0.out.below hb1
    clear hb1
    go_wp2_with fail
    refine (HC.out _ (HL.out.below B1.out)).mono ?_
    rintro e w3 ⟨ao, cap, rfl, ho, hb3⟩
    obtain ⟨⟨z0, z1⟩, z2, z3⟩ := Z1.out.below hb3
    have HE := mkHid (fun v0 v1 => Gives.shut (b := w.heap.size + 1) B1.out (Nat.le_succ _) Z1.out.lt ho hb3 v0 v1)
    clear hb3 ho t0 t1
    go_wp2
    exact bodyPost_ret (v := .agg #[.int .i64 (outZ o n), .slice ao (outL o n).length cap]) (by simp [results, Try.results51, go_sem, z0, z1]) rfl ⟨ao, cap, rfl, (HE.out _ _).1, (HE.out _ _).2⟩
end Go.Proofs.Ytmaejdomlggopaa
