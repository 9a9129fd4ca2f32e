/-
  TREES IN MEMORY: what it means that a slice holds a list of trees; that this stays so where what they lie in stays as it was.
-/
import Derived.Test.YtpikgigfeifliaaDoorRows
import Derived.WalkKit
import Derived.WalkSpells
import Derived.WalkLawsBesides
import Derived.Deep.RegionHeld3
import Derived.Deep.RegionWith
import Derived.Below
namespace Go.Proofs.YtpikgigfeifliaaDoor
open Go.RowKit

theorem mkHid {p : Prop} (h : p) : Hid p := h
theorem bcell {W w1 : World} (hb : Below W.heap.size W w1) : (∀ b o, b < W.heap.size → w1.cell? ⟨b, o, none⟩ = W.cell? ⟨b, o, none⟩) ∧ (∀ b o, b < W.heap.size → w1.frozen? ⟨b, o, none⟩ = W.frozen? ⟨b, o, none⟩) :=
  ⟨fun b o h => hb.cell (p := ⟨b, o, none⟩) h, fun b o h => hb.frozen (p := ⟨b, o, none⟩) h⟩
theorem below_step {w w1 w2 : World} (h1 : Below w.heap.size w w1) (h2 : Below w1.heap.size w1 w2) : Below w.heap.size w w2 := h1.trans (h2.mono h1.size)

/-- A tree as data. -/
inductive T where
  | node (k : Int) (s : ByteArray) (m : Int) (kids : List T)

theorem T.induct {P : T → Prop} (h : ∀ k s m kk, (∀ t ∈ kk, P t) → P (.node k s m kk)) : ∀ t, P t
  | .node k s m kk => h k s m kk fun t _ => T.induct h t

mutual
def bulk : T → Nat
  | .node _ s _ kk => s.size + kk.length + bulks kk
def bulks : List T → Nat
  | [] => 0
  | t :: r => bulk t + bulks r
end
mutual
def cnt : T → Nat
  | .node _ _ _ kk => 1 + cnts kk
def cnts : List T → Nat
  | [] => 0
  | t :: r => cnt t + cnts r
end
mutual
def dep : T → Nat
  | .node _ _ _ kk => deps kk + 1
def deps : List T → Nat
  | [] => 0
  | t :: r => max (dep t) (deps r)
end
def kidsOf : T → List T
  | .node _ _ _ kk => kk

mutual
/-- The four cells of a tree lie at offset off of block b; the lists below it in blocks from lo on. -/
def Lies (w : World) (lo : Nat) : T → Nat → Nat → Prop
  | .node k s m kk, b, off => w.cell? ⟨b, off, none⟩ = some (.int .i64 k) ∧ w.cell? ⟨b, off + 1, none⟩ = some (.string s) ∧ w.cell? ⟨b, off + 2, none⟩ = some (.int .i64 m) ∧
    s.size ≤ maxLen ∧ kk.length ≤ maxLen ∧ ∃ (a : Option Addr) (c : Nat), w.cell? ⟨b, off + 3, none⟩ = some (.slice a kk.length c) ∧
    (kk = [] ∨ ∃ b' o', a = some ⟨b', o', none⟩ ∧ lo ≤ b' ∧ LiesL w lo kk b' o')
def LiesL (w : World) (lo : Nat) : List T → Nat → Nat → Prop
  | [], _, _ => True
  | t :: r, b, off => Lies w lo t b off ∧ LiesL w lo r b (off + 4)
end
def Kids (w : World) (lo : Nat) (a : Option Addr) (kk : List T) : Prop := kk = [] ∨ ∃ b' o', a = some ⟨b', o', none⟩ ∧ lo ≤ b' ∧ LiesL w lo kk b' o'

theorem LiesL.get {w : World} {lo b : Nat} : ∀ {ks : List T} {off i : Nat} {t : T}, LiesL w lo ks b off → ks[i]? = some t → Lies w lo t b (off + i * 4)
  | [], _, _, _, _, h => by simp at h
  | x :: r, off, 0, t, h, ht => by
    simp at ht
    subst ht
    unfold LiesL at h
    simpa using h.1
  | x :: r, off, i + 1, t, h, ht => by
    unfold LiesL at h
    simp at ht
    have := LiesL.get h.2 ht
    rwa [show off + 4 + i * 4 = off + (i + 1) * 4 by omega] at this
theorem LiesL.of {w : World} {lo b : Nat} : ∀ {ks : List T} {off : Nat}, (∀ i t, ks[i]? = some t → Lies w lo t b (off + i * 4)) → LiesL w lo ks b off
  | [], _, _ => by unfold LiesL; trivial
  | x :: r, off, h => by
    unfold LiesL
    refine ⟨by simpa using h 0 x rfl, LiesL.of fun i t ht => ?_⟩
    have := h (i + 1) t (by simpa using ht)
    rwa [show off + (i + 1) * 4 = off + 4 + i * 4 by omega] at this

mutual
theorem Lies.stay {w w' : World} {lo : Nat} (h : ∀ b o, lo ≤ b → b < w.heap.size → w'.cell? ⟨b, o, none⟩ = w.cell? ⟨b, o, none⟩) : ∀ (t : T) (b off : Nat), (∀ o, off ≤ o → o < off + 4 → w'.cell? ⟨b, o, none⟩ = w.cell? ⟨b, o, none⟩) → Lies w lo t b off → Lies w' lo t b off
  | .node k s m kk, b, off, hb, hl => by
    unfold Lies at hl ⊢
    obtain ⟨h0, h1, h2, hs, hn, a, c, h3, hk⟩ := hl
    refine ⟨(hb _ (by omega) (by omega)).trans h0, (hb _ (by omega) (by omega)).trans h1, (hb _ (by omega) (by omega)).trans h2, hs, hn, a, c, (hb _ (by omega) (by omega)).trans h3, ?_⟩
    rcases hk with hk | ⟨b', o', e, hlo, hk⟩
    · exact .inl hk
    · exact .inr ⟨b', o', e, hlo, LiesL.stay h kk b' o' hlo hk⟩
theorem LiesL.stay {w w' : World} {lo : Nat} (h : ∀ b o, lo ≤ b → b < w.heap.size → w'.cell? ⟨b, o, none⟩ = w.cell? ⟨b, o, none⟩) : ∀ (ks : List T) (b off : Nat), lo ≤ b → LiesL w lo ks b off → LiesL w' lo ks b off
  | [], _, _, _, _ => by unfold LiesL; trivial
  | t :: r, b, off, hb, hl => by
    unfold LiesL at hl ⊢
    refine ⟨Lies.stay h t b off (fun o _ _ => h b o hb ?_) hl.1, LiesL.stay h r b (off + 4) hb hl.2⟩
    have := hl.1
    cases t
    unfold Lies at this
    exact World.block_lt_of_cell? w _ this.1
end
mutual
theorem Lies.lower {w : World} {lo lo' : Nat} (h : lo' ≤ lo) : ∀ (t : T) (b off : Nat), Lies w lo t b off → Lies w lo' t b off
  | .node k s m kk, b, off, hl => by
    unfold Lies at hl ⊢
    obtain ⟨h0, h1, h2, hs, hn, a, c, h3, hk⟩ := hl
    refine ⟨h0, h1, h2, hs, hn, a, c, h3, ?_⟩
    rcases hk with hk | ⟨b', o', e, hlo, hk⟩
    · exact .inl hk
    · exact .inr ⟨b', o', e, Nat.le_trans h hlo, LiesL.lower h kk b' o' hk⟩
theorem LiesL.lower {w : World} {lo lo' : Nat} (h : lo' ≤ lo) : ∀ (ks : List T) (b off : Nat), LiesL w lo ks b off → LiesL w lo' ks b off
  | [], _, _, _ => by unfold LiesL; trivial
  | t :: r, b, off, hl => by
    unfold LiesL at hl ⊢
    exact ⟨Lies.lower h t b off hl.1, LiesL.lower h r b (off + 4) hl.2⟩
end
theorem Kids.stay {w w' : World} {lo : Nat} (h : ∀ b o, lo ≤ b → b < w.heap.size → w'.cell? ⟨b, o, none⟩ = w.cell? ⟨b, o, none⟩) {a : Option Addr} {kk : List T} (hk : Kids w lo a kk) : Kids w' lo a kk := by
  rcases hk with hk | ⟨b', o', e, hlo, hk⟩
  · exact .inl hk
  · exact .inr ⟨b', o', e, hlo, LiesL.stay h kk b' o' hlo hk⟩
theorem Kids.lower {w : World} {lo lo' : Nat} (h : lo' ≤ lo) {a : Option Addr} {kk : List T} (hk : Kids w lo a kk) : Kids w lo' a kk := by
  rcases hk with hk | ⟨b', o', e, hlo, hk⟩
  · exact .inl hk
  · exact .inr ⟨b', o', e, Nat.le_trans h hlo, LiesL.lower h kk b' o' hk⟩
theorem Kids.below {w w' : World} {lo : Nat} {a : Option Addr} {kk : List T} (hk : Kids w lo a kk) (hb : Below w.heap.size w w') : Kids w' lo a kk := hk.stay fun b o _ h => hb.cell (p := ⟨b, o, none⟩) h
theorem LiesL.below {w w' : World} {lo b off : Nat} {ks : List T} (hk : LiesL w lo ks b off) (hlo : lo ≤ b) (hb : Below w.heap.size w w') : LiesL w' lo ks b off := LiesL.stay (fun b o _ h => hb.cell (p := ⟨b, o, none⟩) h) _ _ _ hlo hk
/-- One node of a list: its cells, and its own list. -/
theorem LiesL.at {w : World} {lo b off i : Nat} {ks kk : List T} {k m : Int} {s : ByteArray} (h : LiesL w lo ks b off) (hi : ks[i]? = some (.node k s m kk)) :
    ∃ (a : Option Addr) (c : Nat), w.cell? ⟨b, off + i * 4, none⟩ = some (.int .i64 k) ∧ w.cell? ⟨b, off + i * 4 + 1, none⟩ = some (.string s) ∧ w.cell? ⟨b, off + i * 4 + 2, none⟩ = some (.int .i64 m) ∧ w.cell? ⟨b, off + i * 4 + 3, none⟩ = some (.slice a kk.length c) ∧
      s.size ≤ maxLen ∧ kk.length ≤ maxLen ∧ Kids w lo a kk := by
  have := h.get hi
  unfold Lies at this
  obtain ⟨h0, h1, h2, hs, hn, a, c, h3, hk⟩ := this
  exact ⟨a, c, h0, h1, h2, h3, hs, hn, hk⟩
theorem bulks_take {ks : List T} {i : Nat} {t : T} (h : ks[i]? = some t) : bulks (ks.take (i + 1)) = bulks (ks.take i) + bulk t := by
  induction ks generalizing i with
  | nil => simp at h
  | cons x r ih =>
    cases i with
    | zero => simp at h; subst h; simp [bulks]
    | succ i =>
      simp at h
      have := ih h
      simp only [List.take_succ_cons, bulks] at this ⊢
      omega
theorem cnts_take {ks : List T} {i : Nat} {t : T} (h : ks[i]? = some t) : cnts (ks.take (i + 1)) = cnts (ks.take i) + cnt t := by
  induction ks generalizing i with
  | nil => simp at h
  | cons x r ih =>
    cases i with
    | zero => simp at h; subst h; simp [cnts]
    | succ i =>
      simp at h
      have := ih h
      simp only [List.take_succ_cons, cnts] at this ⊢
      omega
theorem deps_take {ks : List T} {i : Nat} {t : T} (h : ks[i]? = some t) : deps (ks.take (i + 1)) = max (deps (ks.take i)) (dep t) := by
  induction ks generalizing i with
  | nil => simp at h
  | cons x r ih =>
    cases i with
    | zero => simp at h; subst h; simp [deps]
    | succ i =>
      simp at h
      have := ih h
      simp only [List.take_succ_cons, deps] at this ⊢
      omega
end Go.Proofs.YtpikgigfeifliaaDoor
