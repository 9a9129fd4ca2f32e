/-
  THE MARKS that ranges over a function leave in a frame; what an append in a round keeps.
-/
import Derived.Test.YtpikgigfeifliaaArn
namespace Go.Proofs.Ytpikgigfeifliaa
open Go.RowKit

/-- The mark of a block for deferred calls. -/
def markD (D : Nat) : Deferred := { target := .collected D, args := #[] }
theorem leaves_marks {F : Fence} {n : Nat} {P : Program} {fn : Func} {tmps : Array Value} {R : Ending → World → Prop} {n1 : Nat} (Pr : World → Prop)
    (hP : ∀ W D, Pr W → W.heap[D]? = some (.deferred (some [])) → n1 ≤ D → Pr (W.putObj D (.deferred none)))
    (hend : ∀ W, Pr W → LeavesInM F n P fn tmps R [] .returning W) : ∀ (Ds : List Nat) (W : World), Ds.Nodup → (∀ D ∈ Ds, n1 ≤ D ∧ W.heap[D]? = some (.deferred (some []))) → Pr W →
      LeavesInM F n P fn tmps R (Ds.map markD) .returning W
  | [], W, _, _, h => hend W h
  | D :: Ds, W, hn, hd, h => by
    obtain ⟨h1, h2⟩ := hd D (List.mem_cons_self ..)
    obtain ⟨hn1, hn2⟩ := List.nodup_cons.1 hn
    refine ⟨by simp, .inl ⟨D, _, rfl, run_takeDeferred h2, leaves_marks Pr hP hend Ds _ hn2 (fun D' h' => ?_) (hP W D h h2 h1)⟩⟩
    obtain ⟨k1, k2⟩ := hd D' (List.mem_cons_of_mem _ h')
    exact ⟨k1, (World.putObj_heap_other (fun e => hn1 (by subst e; exact h'))).trans k2⟩
theorem OwnII.put {w : World} {base : Nat} {v : Value} {ls : List (List Int)} (h : OwnII w base v ls) {D : Nat} {x : Option (List Deferred)} (o' : Obj) (hD : w.heap[D]? = some (.deferred x)) : OwnII (w.putObj D o') base v ls := by
  obtain ⟨vs, h1, h2⟩ := h
  refine ⟨vs, ownsRow_putObj h1 o' hD rfl, h2.keptBy (grownBy_putObj' w D o') fun q cur e hc => ?_⟩
  cases e
  rw [hD] at hc
  simp at hc
theorem Sel.box {B : Nat} (W : World) (v : Value) : Sel B W (W.setCell ⟨B, 0, none⟩ v) := by
  have hg := grownBy_setCell' W B v
  refine ⟨hg.os, hg.tape, hg.output, hg.size, fun k _ h2 => ?_⟩
  rcases Nat.lt_or_ge k W.heap.size with h | h
  · exact hg.block k h (fun e => h2 (by cases e; rfl))
  · rw [Array.getElem?_eq_none h, Array.getElem?_eq_none (by simpa [World.setCell, Array.size_modify] using h)]
/-- A slice in a box, appended to, in a round: what a row of ints behind the iterator's boxes gives. -/
theorem boxed_appended {W w1 : World} {B : Nat} {v v' : Value} {k m : Nat} {xs ys : List Value} {tmp : Obj}
    (hv : Boxed W B 33 v) (hrow : W.ownsRow (B + 3) 3 1 v k xs) (hs : B + 3 ≤ W.heap.size)
    (hown' : w1.ownsRow (B + 3) 3 1 v' m ys) (hgrow : (W.alloc tmp).grownBy w1 v.ownBlock) :
    Boxed w1 B 33 v ∧ Boxed (w1.setCell ⟨B, 0, none⟩ v') B 33 v' ∧ (w1.setCell ⟨B, 0, none⟩ v').ownsRow (B + 3) 3 1 v' m ys ∧ KeepsOthers W (w1.setCell ⟨B, 0, none⟩ v') ∧ Sel B W (w1.setCell ⟨B, 0, none⟩ v') := by
  obtain ⟨h1, h2, _, h4, _⟩ := hv.appended (by decide) (hrow.mono (Nat.zero_le _)) (Nat.zero_le _) (Nat.zero_le _) (hown'.mono (Nat.zero_le _)) hgrow
  refine ⟨h1, h2, hown'.kept (grownBy_setCell' w1 B v') (.inr (h1.not_row (by decide) hown').symm), h4, ?_⟩
  exact ((Sel.alloc tmp hs).grown hgrow (by simp; omega) (fun r e => (World.ownsRow.lt hrow r e).1)).trans (Sel.box _ _)
theorem sel_own {β : Type} {B N : Nat} {w0 : World} (hN : B + 3 ≤ N) (h0 : B + 3 ≤ w0.heap.size) : OwnFrom N (fun (_ : β) W => Sel B w0 W) := fun _ _ _ _ hs hg hr =>
  hs.grown hg (Nat.le_trans h0 hs.2.2.2.1) (fun r e => Nat.le_trans hN (hr r e).1)
/-- A block that is no cells lies on behind an append to an own row. -/
theorem deferred_kept {W W' : World} {base : Nat} {e : TypeId} {v : Value} {k : Nat} {xs : List Value} (hrow : W.ownsRow base e 1 v k xs) (hg : W.grownBy W' v.ownBlock) {D : Nat} {x : Option (List Deferred)} (hD : W.heap[D]? = some (.deferred x)) : W'.heap[D]? = some (.deferred x) := by
  refine (hg.block D (Array.getElem?_eq_some_iff.1 hD).1 fun e' => ?_).trans hD
  rcases hrow.2 with ⟨rfl, _⟩ | ⟨g, cap, cur, rfl, _, hgb, _⟩
  · simp [Value.ownBlock] at e'
  · simp [Value.ownBlock] at e'
    subst e'
    rw [hD] at hgb
    simp at hgb
theorem Try.info33 : (Try.prog.info? 33).map (fun i => (i.zero, i.size, i.bytes)) = some (some (.slice none 0 0), 1, 24) := by kernel_rfl
/-- A row more at the end of a row of rows. -/
theorem OwnII.snoc {W V w5 : World} {base B n0 : Nat} {v v' : Value} {k : Nat} {ls : List (List Int)} {vs : List Value} {u : Value} {l : List Int} {tmp : Obj}
    (hin : Inn W base vs ls) (hWB : W.heap.size ≤ B) (hB : B ≤ n0) (hbase : base ≤ n0) (hV : Inn V base vs ls) (hrow : (V.alloc tmp).ownsRow base 33 1 v k vs) (hu : OwnI V n0 u l)
    (hown' : w5.ownsRow base 33 1 v' (k + 1) (vs ++ [u])) (hk : ls.length = k) (hgrow : (V.alloc tmp).grownBy w5 v.ownBlock) : OwnII w5 base v' (ls ++ [l]) := by
  have hnot : ∀ q cur, v.ownBlock = some q → (V.alloc tmp).heap[q]? ≠ some (.cells cur 3 (0, 0)) := fun q cur hq hc => by
    rcases hrow.2 with ⟨rfl, _⟩ | ⟨g, cap, cur', rfl, _, hgb, _⟩
    · simp [Value.ownBlock] at hq
    · simp [Value.ownBlock] at hq
      subst hq
      rw [hc] at hgb
      simp at hgb
  have hb := (Below.refl V.heap.size V).alloc (Nat.le_refl _) tmp
  refine ⟨vs ++ [u], by rw [List.length_append, hk]; exact hown', ?_⟩
  refine Inn.snoc ((hV.below hb).keptBy hgrow hnot) (n0 := n0) (fun i x q h1 h2 => ?_) hbase ((hu.below hb).keptBy hgrow fun q hq e => ?_)
  · have := (hin.lt h1 h2).2
    omega
  · obtain ⟨cur, hc⟩ := (hu.below hb).block hq
    exact hnot q cur e hc
end Go.Proofs.Ytpikgigfeifliaa
