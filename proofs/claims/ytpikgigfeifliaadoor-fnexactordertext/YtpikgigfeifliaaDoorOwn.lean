/-
  TREES IN MEMORY THAT A COPY MADE: each list at the head of a block of its own that may be written; what stays so.
-/
import Derived.Test.YtpikgigfeifliaaDoorTree
namespace Go.Proofs.YtpikgigfeifliaaDoor
open Go.RowKit

mutual
/-- The four cells of a tree lie at offset off of block b; each list below it at the head of a block from lo on. -/
def Lies0 (w : World) (lo : Nat) : T → Nat → Nat → Prop
  | .node k s m kk, b, off => w.cell? ⟨b, off, none⟩ = some (.int .i64 k) ∧ w.cell? ⟨b, off + 1, none⟩ = some (.string s) ∧ w.cell? ⟨b, off + 2, none⟩ = some (.int .i64 m) ∧
    s.size ≤ maxLen ∧ kk.length ≤ maxLen ∧ ∃ (a : Option Addr) (c : Nat), w.cell? ⟨b, off + 3, none⟩ = some (.slice a kk.length c) ∧ kk.length ≤ c ∧ c ≤ maxLen ∧
    (kk = [] ∨ ∃ b', a = some ⟨b', 0, none⟩ ∧ lo ≤ b' ∧ (∀ o, w.frozen? ⟨b', o, none⟩ = false) ∧ Lies0L w lo kk b' 0)
def Lies0L (w : World) (lo : Nat) : List T → Nat → Nat → Prop
  | [], _, _ => True
  | t :: r, b, off => Lies0 w lo t b off ∧ Lies0L w lo r b (off + 4)
end
def Kids0 (w : World) (lo : Nat) (a : Option Addr) (kk : List T) : Prop := kk = [] ∨ ∃ b', a = some ⟨b', 0, none⟩ ∧ lo ≤ b' ∧ (∀ o, w.frozen? ⟨b', o, none⟩ = false) ∧ Lies0L w lo kk b' 0

theorem Lies0L.get {w : World} {lo b : Nat} : ∀ {ks : List T} {off i : Nat} {t : T}, Lies0L w lo ks b off → ks[i]? = some t → Lies0 w lo t b (off + i * 4)
  | [], _, _, _, _, h => by simp at h
  | x :: r, off, 0, t, h, ht => by
    simp at ht
    subst ht
    unfold Lies0L at h
    simpa using h.1
  | x :: r, off, i + 1, t, h, ht => by
    unfold Lies0L at h
    simp at ht
    have := Lies0L.get h.2 ht
    rwa [show off + 4 + i * 4 = off + (i + 1) * 4 by omega] at this
theorem Lies0L.of {w : World} {lo b : Nat} : ∀ {ks : List T} {off : Nat}, (∀ i t, ks[i]? = some t → Lies0 w lo t b (off + i * 4)) → Lies0L w lo ks b off
  | [], _, _ => by unfold Lies0L; trivial
  | x :: r, off, h => by
    unfold Lies0L
    refine ⟨by simpa using h 0 x rfl, Lies0L.of fun i t ht => ?_⟩
    have := h (i + 1) t (by simpa using ht)
    rwa [show off + (i + 1) * 4 = off + 4 + i * 4 by omega] at this
theorem Lies0.lt {w : World} {lo : Nat} {t : T} {b off : Nat} (h : Lies0 w lo t b off) : b < w.heap.size := by
  cases t
  unfold Lies0 at h
  exact World.block_lt_of_cell? w _ h.1
mutual
theorem Lies0.stay {w w' : World} {lo : Nat} (h : ∀ b o, lo ≤ b → b < w.heap.size → w'.cell? ⟨b, o, none⟩ = w.cell? ⟨b, o, none⟩ ∧ w'.frozen? ⟨b, o, none⟩ = w.frozen? ⟨b, o, none⟩) : ∀ (t : T) (b off : Nat), (∀ o, off ≤ o → o < off + 4 → w'.cell? ⟨b, o, none⟩ = w.cell? ⟨b, o, none⟩) → Lies0 w lo t b off → Lies0 w' lo t b off
  | .node k s m kk, b, off, hb, hl => by
    unfold Lies0 at hl ⊢
    obtain ⟨h0, h1, h2, hs, hn, a, c, h3, hc1, hc2, hk⟩ := hl
    refine ⟨(hb _ (by omega) (by omega)).trans h0, (hb _ (by omega) (by omega)).trans h1, (hb _ (by omega) (by omega)).trans h2, hs, hn, a, c, (hb _ (by omega) (by omega)).trans h3, hc1, hc2, ?_⟩
    rcases hk with hk | ⟨b', e, hlo, hf, hk⟩
    · exact .inl hk
    · cases hkk : kk with
      | nil => exact .inl rfl
      | cons x r =>
        have hb' : b' < w.heap.size := by
          rw [hkk] at hk
          unfold Lies0L at hk
          exact hk.1.lt
        rw [← hkk]
        exact .inr ⟨b', e, hlo, fun o => (h b' o hlo hb').2.trans (hf o), Lies0L.stay h kk b' 0 hlo hk⟩
theorem Lies0L.stay {w w' : World} {lo : Nat} (h : ∀ b o, lo ≤ b → b < w.heap.size → w'.cell? ⟨b, o, none⟩ = w.cell? ⟨b, o, none⟩ ∧ w'.frozen? ⟨b, o, none⟩ = w.frozen? ⟨b, o, none⟩) : ∀ (ks : List T) (b off : Nat), lo ≤ b → Lies0L w lo ks b off → Lies0L w' lo ks b off
  | [], _, _, _, _ => by unfold Lies0L; trivial
  | t :: r, b, off, hb, hl => by
    unfold Lies0L at hl ⊢
    exact ⟨Lies0.stay h t b off (fun o _ _ => (h b o hb hl.1.lt).1) hl.1, Lies0L.stay h r b (off + 4) hb hl.2⟩
end
mutual
theorem Lies0.lower {w : World} {lo lo' : Nat} (h : lo' ≤ lo) : ∀ (t : T) (b off : Nat), Lies0 w lo t b off → Lies0 w lo' t b off
  | .node k s m kk, b, off, hl => by
    unfold Lies0 at hl ⊢
    obtain ⟨h0, h1, h2, hs, hn, a, c, h3, hc1, hc2, hk⟩ := hl
    refine ⟨h0, h1, h2, hs, hn, a, c, h3, hc1, hc2, ?_⟩
    rcases hk with hk | ⟨b', e, hlo, hf, hk⟩
    · exact .inl hk
    · exact .inr ⟨b', e, Nat.le_trans h hlo, hf, Lies0L.lower h kk b' 0 hk⟩
theorem Lies0L.lower {w : World} {lo lo' : Nat} (h : lo' ≤ lo) : ∀ (ks : List T) (b off : Nat), Lies0L w lo ks b off → Lies0L w lo' ks b off
  | [], _, _, _ => by unfold Lies0L; trivial
  | t :: r, b, off, hl => by
    unfold Lies0L at hl ⊢
    exact ⟨Lies0.lower h t b off hl.1, Lies0L.lower h r b (off + 4) hl.2⟩
end
mutual
theorem Lies0.plain {w : World} {lo : Nat} : ∀ (t : T) (b off : Nat), Lies0 w lo t b off → Lies w lo t b off
  | .node k s m kk, b, off, hl => by
    unfold Lies0 at hl
    unfold Lies
    obtain ⟨h0, h1, h2, hs, hn, a, c, h3, hc1, hc2, hk⟩ := hl
    refine ⟨h0, h1, h2, hs, hn, a, c, h3, ?_⟩
    rcases hk with hk | ⟨b', e, hlo, hf, hk⟩
    · exact .inl hk
    · exact .inr ⟨b', 0, e, hlo, Lies0L.plain kk b' 0 hk⟩
theorem Lies0L.plain {w : World} {lo : Nat} : ∀ (ks : List T) (b off : Nat), Lies0L w lo ks b off → LiesL w lo ks b off
  | [], _, _, _ => by unfold LiesL; trivial
  | t :: r, b, off, hl => by
    unfold Lies0L at hl
    unfold LiesL
    exact ⟨Lies0.plain t b off hl.1, Lies0L.plain r b (off + 4) hl.2⟩
end
theorem Kids0.stay {w w' : World} {lo : Nat} (h : ∀ b o, lo ≤ b → b < w.heap.size → w'.cell? ⟨b, o, none⟩ = w.cell? ⟨b, o, none⟩ ∧ w'.frozen? ⟨b, o, none⟩ = w.frozen? ⟨b, o, none⟩) {a : Option Addr} {kk : List T} (hk : Kids0 w lo a kk) : Kids0 w' lo a kk := by
  rcases hk with hk | ⟨b', e, hlo, hf, hk⟩
  · exact .inl hk
  · cases hkk : kk with
    | nil => exact .inl rfl
    | cons x r =>
      have hb' : b' < w.heap.size := by
        rw [hkk] at hk
        unfold Lies0L at hk
        exact hk.1.lt
      rw [← hkk]
      exact .inr ⟨b', e, hlo, fun o => (h b' o hlo hb').2.trans (hf o), Lies0L.stay h kk b' 0 hlo hk⟩
theorem Kids0.lower {w : World} {lo lo' : Nat} (h : lo' ≤ lo) {a : Option Addr} {kk : List T} (hk : Kids0 w lo a kk) : Kids0 w lo' a kk := by
  rcases hk with hk | ⟨b', e, hlo, hf, hk⟩
  · exact .inl hk
  · exact .inr ⟨b', e, Nat.le_trans h hlo, hf, Lies0L.lower h kk b' 0 hk⟩
theorem Kids0.plain {w : World} {lo : Nat} {a : Option Addr} {kk : List T} (hk : Kids0 w lo a kk) : Kids w lo a kk := by
  rcases hk with hk | ⟨b', e, hlo, hf, hk⟩
  · exact .inl hk
  · exact .inr ⟨b', 0, e, hlo, Lies0L.plain kk b' 0 hk⟩
theorem below_both {w w' : World} (hb : Below w.heap.size w w') (b o : Nat) (h : b < w.heap.size) : w'.cell? ⟨b, o, none⟩ = w.cell? ⟨b, o, none⟩ ∧ w'.frozen? ⟨b, o, none⟩ = w.frozen? ⟨b, o, none⟩ := ⟨hb.cell (p := ⟨b, o, none⟩) h, hb.frozen (p := ⟨b, o, none⟩) h⟩
theorem Kids0.below {w w' : World} {lo : Nat} {a : Option Addr} {kk : List T} (hk : Kids0 w lo a kk) (hb : Below w.heap.size w w') : Kids0 w' lo a kk := hk.stay fun b o _ h => below_both hb b o h
/-- A cell of another block is written: nothing of a block turns. -/
theorem far_both {w : World} {g o : Nat} {v : Value} {b j : Nat} (h : b ≠ g) : (w.setCell ⟨g, o, none⟩ v).cell? ⟨b, j, none⟩ = w.cell? ⟨b, j, none⟩ ∧ (w.setCell ⟨g, o, none⟩ v).frozen? ⟨b, j, none⟩ = w.frozen? ⟨b, j, none⟩ :=
  ⟨World.cell?_setCell_far _ _ _ _ (by simp; omega), by simp⟩
end Go.Proofs.YtpikgigfeifliaaDoor
