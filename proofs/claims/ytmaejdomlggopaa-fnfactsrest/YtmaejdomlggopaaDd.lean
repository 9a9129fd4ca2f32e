/-
  THE CONTRACTS IN TERMS OF TABLES THAT MAY BE NONE; both FactsCloses.
-/
import Derived.Test.YtmaejdomlggopaaLh
import Derived.Test.YtmaejdomlggopaaCl
namespace Go.Proofs.Ytmaejdomlggopaa
open Go.RowKit

def D (n : Nat) (o : Option Tab) : Array Value := match o with | some f => dA n (grid n f) | none => dA 0 zs
def okO (z : Int) (l : List Int) : Option Tab := if okF z l = true then some (tab z.toNat l) else none
/-- A table that may be none, of a size that may be, within bounds. -/
def GoodO (n : Nat) (o : Option Tab) : Prop := ∀ f, o = some f → 1 ≤ n ∧ n ≤ 13 ∧ Bd n f 10000000
def FineO (n : Nat) (o : Option Tab) : Prop := ∀ f, o = some f → 1 ≤ n ∧ n ≤ 13 ∧ Fine n f
theorem FineO.good {n : Nat} {o : Option Tab} (h : FineO n o) : GoodO n o := fun f e => ⟨(h f e).1, (h f e).2.1, (h f e).2.2.bd⟩
theorem okO_fine (z : Int) (l : List Int) : FineO z.toNat (okO z l) := fun f e => by
  unfold okO at e
  split at e
  · rename_i h
    obtain ⟨n, rfl, h1, h2, _, _, h3⟩ := ok_of h
    cases e
    simpa using ⟨h1, h2, h3⟩
  · cases e
theorem clo_fineO {n : Nat} {o : Option Tab} (h : FineO n o) : FineO n (o.bind (cloO n)) := fun f e => by
  cases o with
  | none => cases e
  | some g =>
    obtain ⟨h1, h2, h3⟩ := h g rfl
    simp only [Option.bind_some, cloO] at e
    split at e
    · rename_i hc
      cases e
      exact ⟨h1, h2, clo_fine h3 hc⟩
    · cases e
theorem okO_yes {z : Int} {l : List Int} (h : okF z l = true) : okO z l = some (tab z.toNat l) := if_pos h
theorem okO_no {z : Int} {l : List Int} (h : okF z l = false) : okO z l = none := if_neg (by rw [h]; decide)
theorem D_len (n : Nat) (o : Option Tab) : ∃ m G, D n o = dA m G ∧ G.length = 169 := by
  cases o with
  | none => exact ⟨0, zs, rfl, zs_len⟩
  | some f => exact ⟨n, grid n f, rfl, grid_len n f⟩
theorem diffsD (z : Int) (l : List Int) (a : Option Addr) (c : Nat) (w : World) (hc : l.length ≤ c) (hl : IntsAt w a l) : Calls Try.prog 54 #[.agg #[.int .i64 z, .slice a l.length c]] w fun e w' => e = .returned (.agg (D z.toNat (okO z l))) ∧ Below w.heap.size w w' := by
  cases h : okF z l
  · rw [okO_no h]; exact diffsOf_no z l a c w h hl
  · rw [okO_yes h]
    obtain ⟨n, rfl, _⟩ := ok_of h
    exact diffsOf_yes n l a c w h hc hl
theorem closedD (n : Nat) (o : Option Tab) (ho : GoodO n o) (w : World) : Calls Try.prog 55 #[.agg (D n o)] w fun e w' => e = .returned (.agg (D n (o.bind (cloO n)))) ∧ Below w.heap.size w w' := by
  cases o with
  | none => exact closed_any 0 (by omega) zs zs_len w
  | some f =>
    obtain ⟨_, h2, h3⟩ := ho f rfl
    have := closed_any n h2 (grid n f) (grid_len n f) w
    rw [impl_close h2 h3] at this
    refine this.mono fun e w' h => ⟨?_, h.2⟩
    rw [h.1]
    simp only [Option.bind_some, cloO]
    split <;> rfl
theorem factsD (n : Nat) (o : Option Tab) (ho : GoodO n o) (w : World) : Calls Try.prog 60 #[.agg (D n o)] w fun e w' => Gives w w' e (outZ o n) (outL o n) := by
  cases o with
  | none => exact facts_no w
  | some f =>
    obtain ⟨h1, h2, _⟩ := ho f rfl
    exact facts_yes n h1 h2 f w
theorem sCloseD (n : Nat) (f : Tab) (h1 : 1 ≤ n) (h2 : n ≤ 13) (hb : Bd n f 10000000) (a : Option Addr) (c : Nat) (w : World) (hA : IntsAt w a (mk n f)) : Calls Try.prog 59 #[.int .i64 n, .slice a (mk n f).length c] w fun e w' => Gives w w' e (outZ (cloO n f) n) (outL (cloO n f) n) := by
  have := sClose_of n h1 h2 (mk n f) (mk_len n f) a c w hA
  rw [spec_close h1 h2 hb] at this
  refine this.mono fun e w' h => ?_
  unfold cloO
  split
  · rename_i hc
    rw [if_pos hc] at h
    exact h
  · rename_i hc
    rw [if_neg hc] at h
    exact h
theorem outL_len {n : Nat} {o : Option Tab} (h : GoodO n o) : (outL o n).length ≤ 169 := by
  cases o with
  | none => simp [outL]
  | some f => simp only [outL, mk_len]; exact sq_le (h f rfl).2.1
theorem Gives.shut {w w4 w5 : World} {b : Nat} {ao : Option Addr} {cap : Nat} {l : List Int} (hbel : Below w.heap.size w w4) (hb : w.heap.size ≤ b) (hb4 : b < w4.heap.size) (h : OwnI w5 w4.heap.size (.slice ao l.length cap) l) (h5 : Below w4.heap.size w4 w5) (v0 v1 : Value) :
    OwnI ((w5.setCell ⟨b, 0, none⟩ v0).setCell ⟨b, 1, none⟩ v1) w.heap.size (.slice ao l.length cap) l ∧ Below w.heap.size w ((w5.setCell ⟨b, 0, none⟩ v0).setCell ⟨b, 1, none⟩ v1) := by
  have hlo : ∀ q, Value.ownBlock (.slice ao l.length cap) = some q → some b ≠ some q := fun q hq => some_ne (by have := h.lt hq; omega)
  exact ⟨((h.mono hbel.size).grown (grown_setCell _ ⟨b, 0, none⟩ _) hlo).grown (grown_setCell _ ⟨b, 1, none⟩ _) hlo, ((below_step hbel h5).setCell (p := ⟨b, 0, none⟩) hb _).setCell (p := ⟨b, 1, none⟩) hb _⟩
theorem Gives.mono {w w1 w' : World} {e : Ending} {z : Int} {l : List Int} (h : Gives w1 w' e z l) (hb : Below w.heap.size w w1) : Gives w w' e z l := by
  obtain ⟨ao, cap, h1, h2, h3⟩ := h
  exact ⟨ao, cap, h1, h2.mono hb.size, below_step hb h3⟩
end Go.Proofs.Ytmaejdomlggopaa
