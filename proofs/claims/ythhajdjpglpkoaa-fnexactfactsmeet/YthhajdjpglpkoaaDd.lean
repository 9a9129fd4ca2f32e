/-
  THE CONTRACTS IN TERMS OF TABLES THAT MAY BE NONE; both FactsCloses.
-/
import Derived.Test.YthhajdjpglpkoaaLh
import Derived.Test.YthhajdjpglpkoaaCl
namespace Go.Proofs.Ythhajdjpglpkoaa
open Go.RowKit

def D (n : Nat) (o : Option Tab) : Array Value := match o with | some f => dA n (grid n f) | none => dA 0 zs
def okO (z : Int) (l : List Int) : Option Tab := if okF z l = true then some (tab z.toNat l) else none
/-- A table that may be none, of a size that may be, within bounds. -/
def GoodO (n : Nat) (o : Option Tab) : Prop := ∀ f, o = some f → 1 ≤ n ∧ n ≤ 13 ∧ Bd n f 10000000
def FineO (n : Nat) (o : Option Tab) : Prop := ∀ f, o = some f → 1 ≤ n ∧ n ≤ 13 ∧ Fine n f
theorem FineO.good {n : Nat} {o : Option Tab} (h : FineO n o) : GoodO n o := fun f e => ⟨(h f e).1, (h f e).2.1, (h f e).2.2.bd⟩
theorem okO_fine (z : Int) (l : List Int) : FineO z.toNat (okO z l) := fun f e => by
  unfold okO at e
  split at e
  · rename_i h
    obtain ⟨n, rfl, h1, h2, _, _, h3⟩ := ok_of h
    cases e
    simpa using ⟨h1, h2, h3⟩
  · cases e
theorem clo_fineO {n : Nat} {o : Option Tab} (h : FineO n o) : FineO n (o.bind (cloO n)) := fun f e => by
  cases o with
  | none => cases e
  | some g =>
    obtain ⟨h1, h2, h3⟩ := h g rfl
    simp only [Option.bind_some, cloO] at e
    split at e
    · rename_i hc
      cases e
      exact ⟨h1, h2, clo_fine h3 hc⟩
    · cases e
theorem okO_yes {z : Int} {l : List Int} (h : okF z l = true) : okO z l = some (tab z.toNat l) := if_pos h
theorem okO_no {z : Int} {l : List Int} (h : okF z l = false) : okO z l = none := if_neg (by rw [h]; decide)
theorem D_len (n : Nat) (o : Option Tab) : ∃ m G, D n o = dA m G ∧ G.length = 169 := by
  cases o with
  | none => exact ⟨0, zs, rfl, zs_len⟩
  | some f => exact ⟨n, grid n f, rfl, grid_len n f⟩
theorem diffsD (z : Int) (l : List Int) (a : Option Addr) (c : Nat) (w : World) (hc : l.length ≤ c) (hl : IntsAt w a l) : Calls Try.prog 66 #[.agg #[.int .i64 z, .slice a l.length c]] w fun e w' => e = .returned (.agg (D z.toNat (okO z l))) ∧ Below w.heap.size w w' := by
  cases h : okF z l
  · rw [okO_no h]; exact diffsOf_no z l a c w h hl
  · rw [okO_yes h]
    obtain ⟨n, rfl, _⟩ := ok_of h
    exact diffsOf_yes n l a c w h hc hl
theorem closedD (n : Nat) (o : Option Tab) (ho : GoodO n o) (w : World) : Calls Try.prog 67 #[.agg (D n o)] w fun e w' => e = .returned (.agg (D n (o.bind (cloO n)))) ∧ Below w.heap.size w w' := by
  cases o with
  | none => exact closed_any 0 (by omega) zs zs_len w
  | some f =>
    obtain ⟨_, h2, h3⟩ := ho f rfl
    have := closed_any n h2 (grid n f) (grid_len n f) w
    rw [impl_close h2 h3] at this
    refine this.mono fun e w' h => ⟨?_, h.2⟩
    rw [h.1]
    simp only [Option.bind_some, cloO]
    split <;> rfl
theorem factsD (n : Nat) (o : Option Tab) (ho : GoodO n o) (w : World) : Calls Try.prog 59 #[.agg (D n o)] w fun e w' => Gives w w' e (outZ o n) (outL o n) := by
  cases o with
  | none => exact facts_no w
  | some f =>
    obtain ⟨h1, h2, _⟩ := ho f rfl
    exact facts_yes n h1 h2 f w
theorem sCloseD (n : Nat) (f : Tab) (h1 : 1 ≤ n) (h2 : n ≤ 13) (hb : Bd n f 10000000) (a : Option Addr) (c : Nat) (w : World) (hA : IntsAt w a (mk n f)) : Calls Try.prog 65 #[.int .i64 n, .slice a (mk n f).length c] w fun e w' => Gives w w' e (outZ (cloO n f) n) (outL (cloO n f) n) := by
  have := sClose_of n h1 h2 (mk n f) (mk_len n f) a c w hA
  rw [spec_close h1 h2 hb] at this
  refine this.mono fun e w' h => ?_
  unfold cloO
  split
  · rename_i hc
    rw [if_pos hc] at h
    exact h
  · rename_i hc
    rw [if_neg hc] at h
    exact h
theorem outL_len {n : Nat} {o : Option Tab} (h : GoodO n o) : (outL o n).length ≤ 169 := by
  cases o with
  | none => simp [outL]
  | some f => simp only [outL, mk_len]; exact sq_le (h f rfl).2.1
theorem Gives.shut {w w4 w5 : World} {b : Nat} {ao : Option Addr} {cap : Nat} {l : List Int} (hbel : Below w.heap.size w w4) (hb : w.heap.size ≤ b) (hb4 : b < w4.heap.size) (h : OwnI w5 w4.heap.size (.slice ao l.length cap) l) (h5 : Below w4.heap.size w4 w5) (v0 v1 : Value) :
    OwnI ((w5.setCell ⟨b, 0, none⟩ v0).setCell ⟨b, 1, none⟩ v1) w.heap.size (.slice ao l.length cap) l ∧ Below w.heap.size w ((w5.setCell ⟨b, 0, none⟩ v0).setCell ⟨b, 1, none⟩ v1) := by
  have hlo : ∀ q, Value.ownBlock (.slice ao l.length cap) = some q → some b ≠ some q := fun q hq => some_ne (by have := h.lt hq; omega)
  exact ⟨((h.mono hbel.size).grown (grown_setCell _ ⟨b, 0, none⟩ _) hlo).grown (grown_setCell _ ⟨b, 1, none⟩ _) hlo, ((below_step hbel h5).setCell (p := ⟨b, 0, none⟩) hb _).setCell (p := ⟨b, 1, none⟩) hb _⟩
theorem Gives.mono {w w1 w' : World} {e : Ending} {z : Int} {l : List Int} (h : Gives w1 w' e z l) (hb : Below w.heap.size w w1) : Gives w w' e z l := by
  obtain ⟨ao, cap, h1, h2, h3⟩ := h
  exact ⟨ao, cap, h1, h2.mono hb.size, below_step hb h3⟩
set_option maxRecDepth 100000 in
set_option maxHeartbeats 800000 in
theorem iClose_any (z : Int) (l : List Int) (a : Option Addr) (c : Nat) (w : World) (hc : l.length ≤ c) (hl : IntsAt w a l) : Calls Try.prog 31 #[.agg #[.int .i64 z, .slice a l.length c]] w fun e w' => Gives w w' e (outZ ((okO z l).bind (cloO z.toNat)) z.toNat) (outL ((okO z l).bind (cloO z.toNat)) z.toNat) := by
  have HC := mkHid hc
  have HL := mkHid hl
  have HF := mkHid (okO_fine z l)
  have HG := mkHid (clo_fineO (okO_fine z l))
  have B0 := mkHid (((Below.refl w.heap.size w).alloc (Nat.le_refl _) (.cells #[.int .i64 z, .slice a l.length c] 24)).alloc (by simp) (.cells #[.int .i64 0, .slice none 0 0] 24))
  have Z0 := mkHid (Fz.new (w.alloc (.cells #[.int .i64 z, .slice a l.length c] 24)))
  obtain ⟨n, hn⟩ : ∃ n, z.toNat = n := ⟨_, rfl⟩
  obtain ⟨o, ho⟩ : ∃ o, okO z l = o := ⟨_, rfl⟩
  have HD : Hid (∀ v, IntsAt v a l → Calls Try.prog 66 #[.agg #[.int .i64 z, .slice a l.length c]] v fun e w' => e = .returned (.agg (D n o)) ∧ Below v.heap.size v w') := mkHid fun v hv => by rw [← ho, ← hn]; exact diffsD z l a c v HC.out hv
  rw [hn, ho] at HF HG
  rw [hn, ho]
  clear hc hl hn ho
  go_enter Try.func31, Try.ntmps31
  go_wp2_with fail
  refine (HD.out _ (HL.out.below B0.out)).mono ?_
  rintro e w1 ⟨rfl, hb1⟩
  have B1 := mkHid (below_step B0.out hb1)
  have Z1 : Hid (Fz w1 (w.heap.size + 1)) := mkHid (by have := Z0.out.below hb1; simpa using this)
  clear hb1 B0 Z0
  go_wp2_with fail
  refine (closedD n o HF.out.good _).mono ?_
  rintro e w2 ⟨rfl, hb2⟩
  have B2 := mkHid (below_step B1.out hb2)
  have Z2 := mkHid (Z1.out.below hb2)
  clear hb2 B1 Z1
  go_wp2_with fail
  refine (factsD n _ HG.out.good _).mono ?_
  rintro e w3 ⟨ao, cap, rfl, ho, hb3⟩
  obtain ⟨⟨z0, z1⟩, z2, z3⟩ := Z2.out.below hb3
  have HE := mkHid (fun v0 v1 => Gives.shut (b := w.heap.size + 1) B2.out (Nat.le_succ _) Z2.out.lt ho hb3 v0 v1)
  clear hb3 ho B2 Z2
  go_wp2
  refine bodyPost_ret (v := .agg #[.int .i64 (outZ (o.bind (cloO n)) n), .slice ao (outL (o.bind (cloO n)) n).length cap]) (by simp [results, Try.results31, go_sem, z0, z1]) rfl ⟨ao, cap, rfl, (HE.out _ _).1, (HE.out _ _).2⟩
end Go.Proofs.Ythhajdjpglpkoaa
