/-
  CONTRACTS of isLength, l10Size and of both SegTops.
-/
import Derived.Test.YtbfmljogfljhdaaGreatSb
import Derived.Test.YtbfmljogfljhdaaGreatMm
namespace Go.Proofs.YtbfmljogfljhdaaGreat
open Go.RowKit

def lenB (n l : Int) : Bool := btw n 2 13 && btw l 1 (n - 1)
theorem lenB_iff {n l : Int} : lenB n l = true ↔ lenP n l := by unfold lenB btw lenP; simp
set_option maxHeartbeats 800000 in
theorem sLen_any (n l : Int) (w : World) : Calls Tryz.prog 49 #[.int .i64 n, .int .i64 l] w fun e w' => e = .returned (.bool (lenB n l)) ∧ w = w' := by
  unfold lenB
  cases h1 : btw n 2 13
  · go_enter Tryz.func49, Tryz.ntmps49
    go_wp2_with (first | (go_at_call 105; refine (between_any _ _ _ _).mono ?_; rintro e w' ⟨rfl, rfl⟩))
    go_ret
    exact ⟨rfl, rfl⟩
  · have hn : 2 ≤ n ∧ n ≤ 13 := of_decide_eq_true h1
    obtain ⟨k, hk⟩ : ∃ k, n - 1 = k := ⟨_, rfl⟩
    have hw : IntKind.i64.wrap (n - 1) = k := by rw [← hk]; exact IntWalk.i64_in _ (by omega)
    rw [hk]
    clear hk hn
    cases h2 : btw l 1 k
    · go_enter Tryz.func49, Tryz.ntmps49
      go_wp2_with (first | (go_at_call 105; refine (between_any _ _ _ _).mono ?_; rintro e w' ⟨rfl, rfl⟩))
      go_ret
      exact ⟨rfl, rfl⟩
    · go_enter Tryz.func49, Tryz.ntmps49
      go_wp2_with (first | (go_at_call 105; refine (between_any _ _ _ _).mono ?_; rintro e w' ⟨rfl, rfl⟩))
      go_ret
      exact ⟨rfl, rfl⟩
set_option maxHeartbeats 800000 in
theorem iLen_any (n l : Int) (w : World) : Calls Tryz.prog 54 #[.int .i64 n, .int .i64 l] w fun e w' => e = .returned (.bool (lenB n l)) ∧ w = w' := by
  unfold lenB
  cases h1 : btw n 2 13
  · go_enter Tryz.func54, Tryz.ntmps54
    go_wp2_with (first | (go_at_call 90; refine (isBetween_any _ _ _ _).mono ?_; rintro e w' ⟨rfl, rfl⟩))
    go_ret
    exact ⟨rfl, rfl⟩
  · have hn : 2 ≤ n ∧ n ≤ 13 := of_decide_eq_true h1
    obtain ⟨k, hk⟩ : ∃ k, n - 1 = k := ⟨_, rfl⟩
    have hw : IntKind.i64.wrap (n - 1) = k := by rw [← hk]; exact IntWalk.i64_in _ (by omega)
    rw [hk]
    clear hk hn
    cases h2 : btw l 1 k
    · go_enter Tryz.func54, Tryz.ntmps54
      go_wp2_with (first | (go_at_call 90; refine (isBetween_any _ _ _ _).mono ?_; rintro e w' ⟨rfl, rfl⟩))
      go_ret
      exact ⟨rfl, rfl⟩
    · go_enter Tryz.func54, Tryz.ntmps54
      go_wp2_with (first | (go_at_call 90; refine (isBetween_any _ _ _ _).mono ?_; rintro e w' ⟨rfl, rfl⟩))
      go_ret
      exact ⟨rfl, rfl⟩

def noS : SG := ⟨[], [], []⟩
def noA : SAd := ⟨none, 0, none, 0, none, 0⟩
theorem OwnS.none (w : World) (lo hi : Nat) : OwnS w lo hi noA noS :=
  ⟨⟨[], ⟨rfl, .inl ⟨rfl, rfl⟩⟩, Inn.nil _ _, fun q h => by simp [noA, Value.ownBlock] at h, fun i u q h => by simp at h⟩, Own.nil _ _ _ _, fun q h => by simp [noA, Value.ownBlock] at h, Own.nil _ _ _ _, fun q h => by simp [noA, Value.ownBlock] at h⟩
/-- A call gives a Seg of its own. -/
def GivesS (w w' : World) (e : Ending) (S : SG) : Prop := ∃ A' : SAd, e = .returned (.agg #[.slice A'.a0 S.B.length A'.c0, .slice A'.a1 S.V.length A'.c1, .slice A'.a2 S.M.length A'.c2]) ∧ OwnS w' w.heap.size w'.heap.size A' S ∧ Below w.heap.size w w'
def topS (n l a b : Int) (s : Bool) : SG := if lenB n l && okB a b then ⟨[[(0, 0)], [(l, 0)]], [(a, b, s)], [true]⟩ else noS
/-- A row just made. -/
theorem Own.made {α : Type} {E : El α} {T : TypeId} {w : World} {g base : Nat} {cs : List Value} {l : List α} (hb : base ≤ g) (hg : w.heap[g]? = some (.cells cs.toArray T (0, 0))) (hc : cs = E.flat l) (hl : l.length ≤ maxLen) : Own E T w base (.slice (some ⟨g, 0, none⟩) l.length l.length) l := by
  subst hc
  refine ⟨E.flat_len l, .inr ⟨g, l.length, _, rfl, hb, hg, Nat.le_refl _, hl, by simpa using E.flat_len l, ?_⟩⟩
  rw [List.take_of_length_le]
  simpa using Nat.le_of_eq (E.flat_len l)
theorem heap_new (w : World) (o : Obj) {k : Nat} (h : k = w.heap.size) : (w.alloc o).heap[k]? = some o := by subst h; show (w.heap.push o)[w.heap.size]? = _; simp
theorem heap_old (w : World) (o : Obj) {k : Nat} (h : k < w.heap.size) : (w.alloc o).heap[k]? = w.heap[k]? := by show (w.heap.push o)[k]? = _; rw [Array.getElem?_push, if_neg (by omega)]
theorem top_own (X : Nat) (l a b : Int) (s : Bool) (w1 : World) (base hi : Nat) (hb : base ≤ X) (hh : X + 5 ≤ hi)
    (h0 : w1.heap[X]? = some (.cells #[.int .i64 0, .int .i64 0] 39 (0, 0))) (h1 : w1.heap[X + 1]? = some (.cells #[.int .i64 l, .int .i64 0] 39 (0, 0)))
    (h2 : w1.heap[X + 2]? = some (.cells #[.slice (some ⟨X, 0, none⟩) 1 1, .slice (some ⟨X + 1, 0, none⟩) 1 1] 34 (0, 0)))
    (h3 : w1.heap[X + 3]? = some (.cells #[.int .i64 a, .int .i64 b, .bool s] 82 (0, 0))) (h4 : w1.heap[X + 4]? = some (.cells #[.bool true] 4 (0, 0))) :
    OwnS w1 base hi ⟨some ⟨X + 2, 0, none⟩, 2, some ⟨X + 3, 0, none⟩, 1, some ⟨X + 4, 0, none⟩, 1⟩ ⟨[[(0, 0)], [(l, 0)]], [(a, b, s)], [true]⟩ := by
  have hm : (1 : Nat) ≤ maxLen := by unfold maxLen; omega
  have o0 : Own eY 39 w1 base (.slice (some ⟨X, 0, none⟩) 1 1) [(0, 0)] := Own.made (l := [(0, 0)]) (cs := [.int .i64 0, .int .i64 0]) hb h0 rfl hm
  have o1 : Own eY 39 w1 base (.slice (some ⟨X + 1, 0, none⟩) 1 1) [(l, 0)] := Own.made (l := [(l, 0)]) (cs := [.int .i64 l, .int .i64 0]) (by omega) h1 rfl hm
  refine ⟨⟨[.slice (some ⟨X, 0, none⟩) 1 1, .slice (some ⟨X + 1, 0, none⟩) 1 1], ?_, ?_, ?_, ?_⟩, Own.made (l := [(a, b, s)]) (cs := [.int .i64 a, .int .i64 b, .bool s]) (by omega) h3 rfl hm, ?_, Own.made (l := [true]) (cs := [.bool true]) (by omega) h4 rfl hm, ?_⟩
  · refine ⟨rfl, .inr ⟨X + 2, 2, _, rfl, by omega, h2, Nat.le_refl _, by unfold maxLen; omega, rfl, rfl⟩⟩
  · refine ⟨rfl, fun i v m hv hm => ?_, fun i j v u q hv hu hq hq' => ?_⟩
    · match i, hv, hm with
      | 0, hv, hm => simp at hv hm; subst hv hm; exact o0
      | 1, hv, hm => simp at hv hm; subst hv hm; exact o1
    · match i, j, hv, hu with
      | 0, 0, _, _ => rfl
      | 1, 1, _, _ => rfl
      | 0, 1, hv, hu => simp at hv hu; subst hv hu; simp [Value.ownBlock] at hq hq'; omega
      | 1, 0, hv, hu => simp at hv hu; subst hv hu; simp [Value.ownBlock] at hq hq'; omega
  · intro q hq; simp [Value.ownBlock] at hq; omega
  · intro i u q hu hq
    match i, hu with
    | 0, hu => simp at hu; subst hu; simp [Value.ownBlock] at hq; omega
    | 1, hu => simp at hu; subst hu; simp [Value.ownBlock] at hq; omega
  · intro q hq; simp [Value.ownBlock] at hq; omega
  · intro q hq; simp [Value.ownBlock] at hq; omega
end Go.Proofs.YtbfmljogfljhdaaGreat
