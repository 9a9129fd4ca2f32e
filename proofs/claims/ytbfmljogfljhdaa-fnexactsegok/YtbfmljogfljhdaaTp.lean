/-
  CONTRACTS of isLength, l10Size and of both SegTops.
-/
import Derived.Test.YtbfmljogfljhdaaSb
import Derived.Test.YtbfmljogfljhdaaMm
namespace Go.Proofs.Ytbfmljogfljhdaa
open Go.RowKit

def lenB (n l : Int) : Bool := btw n 2 13 && btw l 1 (n - 1)
theorem lenB_iff {n l : Int} : lenB n l = true ↔ lenP n l := by unfold lenB btw lenP; simp
set_option maxHeartbeats 800000 in
theorem sLen_any (n l : Int) (w : World) : Calls Try.prog 18 #[.int .i64 n, .int .i64 l] w fun e w' => e = .returned (.bool (lenB n l)) ∧ w = w' := by
  unfold lenB
  cases h1 : btw n 2 13
  · go_enter Try.func18, Try.ntmps18
    go_wp2_with (first | (go_at_call 43; refine (between_any _ _ _ _).mono ?_; rintro e w' ⟨rfl, rfl⟩))
    go_ret
    exact ⟨rfl, rfl⟩
  · have hn : 2 ≤ n ∧ n ≤ 13 := of_decide_eq_true h1
    obtain ⟨k, hk⟩ : ∃ k, n - 1 = k := ⟨_, rfl⟩
    have hw : IntKind.i64.wrap (n - 1) = k := by rw [← hk]; exact IntWalk.i64_in _ (by omega)
    rw [hk]
    clear hk hn
    cases h2 : btw l 1 k
    · go_enter Try.func18, Try.ntmps18
      go_wp2_with (first | (go_at_call 43; refine (between_any _ _ _ _).mono ?_; rintro e w' ⟨rfl, rfl⟩))
      go_ret
      exact ⟨rfl, rfl⟩
    · go_enter Try.func18, Try.ntmps18
      go_wp2_with (first | (go_at_call 43; refine (between_any _ _ _ _).mono ?_; rintro e w' ⟨rfl, rfl⟩))
      go_ret
      exact ⟨rfl, rfl⟩
set_option maxHeartbeats 800000 in
theorem iLen_any (n l : Int) (w : World) : Calls Try.prog 26 #[.int .i64 n, .int .i64 l] w fun e w' => e = .returned (.bool (lenB n l)) ∧ w = w' := by
  unfold lenB
  cases h1 : btw n 2 13
  · go_enter Try.func26, Try.ntmps26
    go_wp2_with (first | (go_at_call 47; refine (isBetween_any _ _ _ _).mono ?_; rintro e w' ⟨rfl, rfl⟩))
    go_ret
    exact ⟨rfl, rfl⟩
  · have hn : 2 ≤ n ∧ n ≤ 13 := of_decide_eq_true h1
    obtain ⟨k, hk⟩ : ∃ k, n - 1 = k := ⟨_, rfl⟩
    have hw : IntKind.i64.wrap (n - 1) = k := by rw [← hk]; exact IntWalk.i64_in _ (by omega)
    rw [hk]
    clear hk hn
    cases h2 : btw l 1 k
    · go_enter Try.func26, Try.ntmps26
      go_wp2_with (first | (go_at_call 47; refine (isBetween_any _ _ _ _).mono ?_; rintro e w' ⟨rfl, rfl⟩))
      go_ret
      exact ⟨rfl, rfl⟩
    · go_enter Try.func26, Try.ntmps26
      go_wp2_with (first | (go_at_call 47; refine (isBetween_any _ _ _ _).mono ?_; rintro e w' ⟨rfl, rfl⟩))
      go_ret
      exact ⟨rfl, rfl⟩

def noS : SG := ⟨[], [], []⟩
def noA : SAd := ⟨none, 0, none, 0, none, 0⟩
theorem OwnS.none (w : World) (lo hi : Nat) : OwnS w lo hi noA noS :=
  ⟨⟨[], ⟨rfl, .inl ⟨rfl, rfl⟩⟩, Inn.nil _ _, fun q h => by simp [noA, Value.ownBlock] at h, fun i u q h => by simp at h⟩, Own.nil _ _ _ _, fun q h => by simp [noA, Value.ownBlock] at h, Own.nil _ _ _ _, fun q h => by simp [noA, Value.ownBlock] at h⟩
/-- A call gives a Seg of its own. -/
def GivesS (w w' : World) (e : Ending) (S : SG) : Prop := ∃ A' : SAd, e = .returned (.agg #[.slice A'.a0 S.B.length A'.c0, .slice A'.a1 S.V.length A'.c1, .slice A'.a2 S.M.length A'.c2]) ∧ OwnS w' w.heap.size w'.heap.size A' S ∧ Below w.heap.size w w'
def topS (n l a b : Int) (s : Bool) : SG := if lenB n l && okB a b then ⟨[[(0, 0)], [(l, 0)]], [(a, b, s)], [true]⟩ else noS
/-- A row just made. -/
theorem Own.made {α : Type} {E : El α} {T : TypeId} {w : World} {g base : Nat} {cs : List Value} {l : List α} (hb : base ≤ g) (hg : w.heap[g]? = some (.cells cs.toArray T (0, 0))) (hc : cs = E.flat l) (hl : l.length ≤ maxLen) : Own E T w base (.slice (some ⟨g, 0, none⟩) l.length l.length) l := by
  subst hc
  refine ⟨E.flat_len l, .inr ⟨g, l.length, _, rfl, hb, hg, Nat.le_refl _, hl, by simpa using E.flat_len l, ?_⟩⟩
  rw [List.take_of_length_le]
  simpa using Nat.le_of_eq (E.flat_len l)
theorem heap_new (w : World) (o : Obj) {k : Nat} (h : k = w.heap.size) : (w.alloc o).heap[k]? = some o := by subst h; show (w.heap.push o)[w.heap.size]? = _; simp
theorem heap_old (w : World) (o : Obj) {k : Nat} (h : k < w.heap.size) : (w.alloc o).heap[k]? = w.heap[k]? := by show (w.heap.push o)[k]? = _; rw [Array.getElem?_push, if_neg (by omega)]
theorem top_own (X : Nat) (l a b : Int) (s : Bool) (w1 : World) (base hi : Nat) (hb : base ≤ X) (hh : X + 5 ≤ hi)
    (h0 : w1.heap[X]? = some (.cells #[.int .i64 0, .int .i64 0] 54 (0, 0))) (h1 : w1.heap[X + 1]? = some (.cells #[.int .i64 l, .int .i64 0] 54 (0, 0)))
    (h2 : w1.heap[X + 2]? = some (.cells #[.slice (some ⟨X, 0, none⟩) 1 1, .slice (some ⟨X + 1, 0, none⟩) 1 1] 51 (0, 0)))
    (h3 : w1.heap[X + 3]? = some (.cells #[.int .i64 a, .int .i64 b, .bool s] 43 (0, 0))) (h4 : w1.heap[X + 4]? = some (.cells #[.bool true] 4 (0, 0))) :
    OwnS w1 base hi ⟨some ⟨X + 2, 0, none⟩, 2, some ⟨X + 3, 0, none⟩, 1, some ⟨X + 4, 0, none⟩, 1⟩ ⟨[[(0, 0)], [(l, 0)]], [(a, b, s)], [true]⟩ := by
  have hm : (1 : Nat) ≤ maxLen := by unfold maxLen; omega
  have o0 : Own eY 54 w1 base (.slice (some ⟨X, 0, none⟩) 1 1) [(0, 0)] := Own.made (l := [(0, 0)]) (cs := [.int .i64 0, .int .i64 0]) hb h0 rfl hm
  have o1 : Own eY 54 w1 base (.slice (some ⟨X + 1, 0, none⟩) 1 1) [(l, 0)] := Own.made (l := [(l, 0)]) (cs := [.int .i64 l, .int .i64 0]) (by omega) h1 rfl hm
  refine ⟨⟨[.slice (some ⟨X, 0, none⟩) 1 1, .slice (some ⟨X + 1, 0, none⟩) 1 1], ?_, ?_, ?_, ?_⟩, Own.made (l := [(a, b, s)]) (cs := [.int .i64 a, .int .i64 b, .bool s]) (by omega) h3 rfl hm, ?_, Own.made (l := [true]) (cs := [.bool true]) (by omega) h4 rfl hm, ?_⟩
  · refine ⟨rfl, .inr ⟨X + 2, 2, _, rfl, by omega, h2, Nat.le_refl _, by unfold maxLen; omega, rfl, rfl⟩⟩
  · refine ⟨rfl, fun i v m hv hm => ?_, fun i j v u q hv hu hq hq' => ?_⟩
    · match i, hv, hm with
      | 0, hv, hm => simp at hv hm; subst hv hm; exact o0
      | 1, hv, hm => simp at hv hm; subst hv hm; exact o1
    · match i, j, hv, hu with
      | 0, 0, _, _ => rfl
      | 1, 1, _, _ => rfl
      | 0, 1, hv, hu => simp at hv hu; subst hv hu; simp [Value.ownBlock] at hq hq'; omega
      | 1, 0, hv, hu => simp at hv hu; subst hv hu; simp [Value.ownBlock] at hq hq'; omega
  · intro q hq; simp [Value.ownBlock] at hq; omega
  · intro i u q hu hq
    match i, hu with
    | 0, hu => simp at hu; subst hu; simp [Value.ownBlock] at hq; omega
    | 1, hu => simp at hu; subst hu; simp [Value.ownBlock] at hq; omega
  · intro q hq; simp [Value.ownBlock] at hq; omega
  · intro q hq; simp [Value.ownBlock] at hq; omega
set_option maxRecDepth 100000 in
set_option maxHeartbeats 3200000 in
theorem sTop_any (n l a b : Int) (s : Bool) (w : World) : Calls Try.prog 10 #[.int .i64 n, .int .i64 l, .agg #[.int .i64 a, .int .i64 b, .bool s]] w fun e w' => GivesS w w' e (topS n l a b s) := by
  obtain ⟨S, hS⟩ : ∃ S, topS n l a b s = S := ⟨_, rfl⟩
  have HT := mkHid hS
  rw [hS]
  clear hS
  obtain ⟨w0, hw0⟩ : ∃ x : World, (w.alloc (.cells #[.int .i64 a, .int .i64 b, .bool s] 43)).alloc (.cells #[.slice none 0 0, .slice none 0 0, .slice none 0 0] 32) = x := ⟨_, rfl⟩
  obtain ⟨X, hX⟩ : ∃ x, w.heap.size = x := ⟨_, rfl⟩
  have HX := mkHid hX
  have HB : Hid (Below X w w0) := mkHid (by rw [← hw0, ← hX]; exact bl_alloc (bl_alloc (Below.refl _ _) _) _)
  have P0 : Hid (V3 w0 X a b s) := mkHid (by rw [← hw0, ← hX]; constructor <;> simp [go_sem])
  have P1 : Hid (G3 w0 (X + 1) (.slice none 0 0) (.slice none 0 0) (.slice none 0 0)) := mkHid (by rw [← hw0, ← hX]; constructor <;> simp [go_sem])
  have HS0 : Hid (X + 2 ≤ w0.heap.size) := mkHid (by rw [← hw0, ← hX]; simp)
  cases hlen : lenB n l
  · have HE : Hid (S = noS) := mkHid (by rw [← HT.out]; unfold topS; rw [hlen]; rfl)
    obtain ⟨p0, p1, p2, f0, f1, f2⟩ := P1.out
    go_enter Try.func10, Try.ntmps10
    go_wp2_with (first | (go_at_call 18; refine (sLen_any _ _ _).mono ?_; rintro e w' ⟨rfl, rfl⟩))
    rw [HE.out]
    refine bodyPost_ret (v := .agg #[.slice none 0 0, .slice none 0 0, .slice none 0 0]) (by simp [results, Try.results10, go_sem, *]) rfl ⟨noA, rfl, OwnS.none _ _ _, ?_⟩
    rw [HX.out]
    exact ((HB.out.setCell (p := ⟨X + 1, 0, none⟩) (by show X ≤ X + 1; omega) _).setCell (p := ⟨X + 1, 1, none⟩) (by show X ≤ X + 1; omega) _).setCell (p := ⟨X + 1, 2, none⟩) (by show X ≤ X + 1; omega) _
  obtain ⟨q0, q1, q2, _, _, _⟩ := P0.out
  go_enter Try.func10, Try.ntmps10
  go_wp2_with (first | (go_at_call 18; refine (sLen_any _ _ _).mono ?_; rintro e w' ⟨rfl, rfl⟩) | fail)
  clear hw0 hX q0 q1 q2
  refine (sVok_any a b s _).mono ?_
  rintro e w1 ⟨rfl, hb⟩
  have HB1 : Hid (Below X w w1) := mkHid (HB.out.trans (hb.mono (by have := HS0.out; omega)))
  have R0 := mkHid (P0.out.below hb)
  have R1 := mkHid (P1.out.below hb)
  have HS1 : Hid (w0.heap.size ≤ w1.heap.size) := mkHid hb.size
  clear hb P0 P1 HB
  cases hok : okB a b
  · have HE : Hid (S = noS) := mkHid (by rw [← HT.out]; unfold topS; rw [hlen, hok]; rfl)
    obtain ⟨p0, p1, p2, f0, f1, f2⟩ := R1.out
    go_wp2
    rw [HE.out]
    refine bodyPost_ret (v := .agg #[.slice none 0 0, .slice none 0 0, .slice none 0 0]) (by simp [results, Try.results10, go_sem, *]) rfl ⟨noA, rfl, OwnS.none _ _ _, ?_⟩
    rw [HX.out]
    exact ((HB1.out.setCell (p := ⟨X + 1, 0, none⟩) (by show X ≤ X + 1; omega) _).setCell (p := ⟨X + 1, 1, none⟩) (by show X ≤ X + 1; omega) _).setCell (p := ⟨X + 1, 2, none⟩) (by show X ≤ X + 1; omega) _
  have HE : Hid (S = ⟨[[(0, 0)], [(l, 0)]], [(a, b, s)], [true]⟩) := mkHid (by rw [← HT.out]; unfold topS; rw [hlen, hok]; rfl)
  obtain ⟨Z, hZ⟩ : ∃ z, w1.heap.size = z := ⟨_, rfl⟩
  have HZ := mkHid hZ
  obtain ⟨wa, hwa⟩ : ∃ x : World, ((w1.alloc (.cells #[.int .i64 0, .int .i64 0] 54)).alloc (.cells #[.int .i64 l, .int .i64 0] 54)).alloc (.cells #[.slice (some ⟨Z, 0, none⟩) 1 1, .slice (some ⟨Z + 1, 0, none⟩) 1 1] 51) = x := ⟨_, rfl⟩
  obtain ⟨wz, hwz⟩ : ∃ x : World, (wa.alloc (.cells #[.int .i64 a, .int .i64 b, .bool s] 43)).alloc (.cells #[.bool true] 4) = x := ⟨_, rfl⟩
  have hsa : wa.heap.size = Z + 1 + 1 + 1 := by rw [← hwa, ← hZ]; simp
  have BA : Hid (Below w1.heap.size w1 wa) := mkHid (by rw [← hwa]; exact bl_alloc (bl_alloc (bl_alloc (Below.refl _ _) _) _) _)
  have BZ : Hid (Below wa.heap.size wa wz) := mkHid (by rw [← hwz]; exact bl_alloc (bl_alloc (Below.refl _ _) _) _)
  have SZ : Hid (wz.heap.size = Z + 5) := mkHid (by rw [← hwz]; simp [hsa])
  have W0 : Hid (wz.heap[Z]? = some (.cells #[.int .i64 0, .int .i64 0] 54 (0, 0))) := mkHid (by rw [BZ.out.block Z (by omega), ← hwa, heap_old _ _ (by simp; omega), heap_old _ _ (by simp; omega), heap_new _ _ (by omega)])
  have W1 : Hid (wz.heap[Z + 1]? = some (.cells #[.int .i64 l, .int .i64 0] 54 (0, 0))) := mkHid (by rw [BZ.out.block (Z + 1) (by omega), ← hwa, heap_old _ _ (by simp; omega), heap_new _ _ (by simp; omega)])
  have W2 : Hid (wz.heap[Z + 2]? = some (.cells #[.slice (some ⟨Z, 0, none⟩) 1 1, .slice (some ⟨Z + 1, 0, none⟩) 1 1] 51 (0, 0))) := mkHid (by rw [BZ.out.block (Z + 2) (by omega), ← hwa, heap_new _ _ (by simp; omega)])
  have W3 : Hid (wz.heap[Z + 3]? = some (.cells #[.int .i64 a, .int .i64 b, .bool s] 43 (0, 0))) := mkHid (by rw [← hwz, heap_old _ _ (by simp; omega), heap_new _ _ (by omega)])
  have W4 : Hid (wz.heap[Z + 4]? = some (.cells #[.bool true] 4 (0, 0))) := mkHid (by rw [← hwz, heap_new _ _ (by simp; omega)])
  have RZ := mkHid ((R1.out.below BA.out).below BZ.out)
  obtain ⟨q0, q1, q2, _, _, _⟩ := R0.out.below BA.out
  obtain ⟨p0, p1, p2, f0, f1, f2⟩ := RZ.out
  have HBZ : Hid (Below X w wz) := mkHid ((HB1.out.trans (BA.out.mono (by have := HS0.out; have := HS1.out; omega))).trans (BZ.out.mono (by rw [hsa]; have := HS0.out; have := HS1.out; omega)))
  have OS := mkHid (top_own Z l a b s wz (X + 1 + 1) (Z + 5) (by have := HS0.out; have := HS1.out; omega) (Nat.le_refl _) W0.out W1.out W2.out W3.out W4.out)
  have OD := mkHid (((OS.out.outs (outs_set wz (X + 1) 0 (.slice (some ⟨Z + 2, 0, none⟩) 2 2)) (.inr (by omega))).outs (outs_set _ (X + 1) 1 (.slice (some ⟨Z + 3, 0, none⟩) 1 1)) (.inr (by omega))).outs (outs_set _ (X + 1) 2 (.slice (some ⟨Z + 4, 0, none⟩) 1 1)) (.inr (by omega)))
  have BD := mkHid (((HBZ.out.setCell (p := ⟨X + 1, 0, none⟩) (by show X ≤ X + 1; omega) (.slice (some ⟨Z + 2, 0, none⟩) 2 2)).setCell (p := ⟨X + 1, 1, none⟩) (by show X ≤ X + 1; omega) (.slice (some ⟨Z + 3, 0, none⟩) 1 1)).setCell (p := ⟨X + 1, 2, none⟩) (by show X ≤ X + 1; omega) (.slice (some ⟨Z + 4, 0, none⟩) 1 1))
  clear R0 R1 RZ BA BZ W0 W1 W2 W3 W4 OS HBZ
  go_wp2
  rw [HE.out]
  refine bodyPost_ret (v := .agg #[.slice (some ⟨Z + 2, 0, none⟩) 2 2, .slice (some ⟨Z + 3, 0, none⟩) 1 1, .slice (some ⟨Z + 4, 0, none⟩) 1 1]) (by simp [results, Try.results10, go_sem, *]) rfl ⟨⟨some ⟨Z + 2, 0, none⟩, 2, some ⟨Z + 3, 0, none⟩, 1, some ⟨Z + 4, 0, none⟩, 1⟩, rfl, ?_, ?_⟩
  · rw [HX.out]
    exact OD.out.mono (by omega) (by have := SZ.out; simp; omega)
  · rw [HX.out]
    exact BD.out
set_option maxRecDepth 100000 in
set_option maxHeartbeats 3200000 in
theorem iTop_any (n l a b : Int) (s : Bool) (w : World) : Calls Try.prog 12 #[.int .i64 n, .int .i64 l, .agg #[.int .i64 a, .int .i64 b, .bool s]] w fun e w' => GivesS w w' e (topS n l a b s) := by
  obtain ⟨S, hS⟩ : ∃ S, topS n l a b s = S := ⟨_, rfl⟩
  have HT := mkHid hS
  rw [hS]
  clear hS
  obtain ⟨w0, hw0⟩ : ∃ x : World, (w.alloc (.cells #[.int .i64 a, .int .i64 b, .bool s] 43)).alloc (.cells #[.slice none 0 0, .slice none 0 0, .slice none 0 0] 32) = x := ⟨_, rfl⟩
  obtain ⟨X, hX⟩ : ∃ x, w.heap.size = x := ⟨_, rfl⟩
  have HX := mkHid hX
  have HB : Hid (Below X w w0) := mkHid (by rw [← hw0, ← hX]; exact bl_alloc (bl_alloc (Below.refl _ _) _) _)
  have P0 : Hid (V3 w0 X a b s) := mkHid (by rw [← hw0, ← hX]; constructor <;> simp [go_sem])
  have P1 : Hid (G3 w0 (X + 1) (.slice none 0 0) (.slice none 0 0) (.slice none 0 0)) := mkHid (by rw [← hw0, ← hX]; constructor <;> simp [go_sem])
  have HS0 : Hid (X + 2 ≤ w0.heap.size) := mkHid (by rw [← hw0, ← hX]; simp)
  cases hlen : lenB n l
  · have HE : Hid (S = noS) := mkHid (by rw [← HT.out]; unfold topS; rw [hlen]; rfl)
    obtain ⟨p0, p1, p2, f0, f1, f2⟩ := P1.out
    go_enter Try.func12, Try.ntmps12
    go_wp2_with (first | (go_at_call 26; refine (iLen_any _ _ _).mono ?_; rintro e w' ⟨rfl, rfl⟩))
    rw [HE.out]
    refine bodyPost_ret (v := .agg #[.slice none 0 0, .slice none 0 0, .slice none 0 0]) (by simp [results, Try.results12, go_sem, *]) rfl ⟨noA, rfl, OwnS.none _ _ _, ?_⟩
    rw [HX.out]
    exact ((HB.out.setCell (p := ⟨X + 1, 0, none⟩) (by show X ≤ X + 1; omega) _).setCell (p := ⟨X + 1, 1, none⟩) (by show X ≤ X + 1; omega) _).setCell (p := ⟨X + 1, 2, none⟩) (by show X ≤ X + 1; omega) _
  obtain ⟨q0, q1, q2, _, _, _⟩ := P0.out
  go_enter Try.func12, Try.ntmps12
  go_wp2_with (first | (go_at_call 26; refine (iLen_any _ _ _).mono ?_; rintro e w' ⟨rfl, rfl⟩) | fail)
  clear hw0 hX q0 q1 q2
  refine (iVok_any a b s _).mono ?_
  rintro e w1 ⟨rfl, hb⟩
  have HB1 : Hid (Below X w w1) := mkHid (HB.out.trans (hb.mono (by have := HS0.out; omega)))
  have R0 := mkHid (P0.out.below hb)
  have R1 := mkHid (P1.out.below hb)
  have HS1 : Hid (w0.heap.size ≤ w1.heap.size) := mkHid hb.size
  clear hb P0 P1 HB
  cases hok : okB a b
  · have HE : Hid (S = noS) := mkHid (by rw [← HT.out]; unfold topS; rw [hlen, hok]; rfl)
    obtain ⟨p0, p1, p2, f0, f1, f2⟩ := R1.out
    go_wp2
    rw [HE.out]
    refine bodyPost_ret (v := .agg #[.slice none 0 0, .slice none 0 0, .slice none 0 0]) (by simp [results, Try.results12, go_sem, *]) rfl ⟨noA, rfl, OwnS.none _ _ _, ?_⟩
    rw [HX.out]
    exact ((HB1.out.setCell (p := ⟨X + 1, 0, none⟩) (by show X ≤ X + 1; omega) _).setCell (p := ⟨X + 1, 1, none⟩) (by show X ≤ X + 1; omega) _).setCell (p := ⟨X + 1, 2, none⟩) (by show X ≤ X + 1; omega) _
  have HE : Hid (S = ⟨[[(0, 0)], [(l, 0)]], [(a, b, s)], [true]⟩) := mkHid (by rw [← HT.out]; unfold topS; rw [hlen, hok]; rfl)
  obtain ⟨Z, hZ⟩ : ∃ z, w1.heap.size = z := ⟨_, rfl⟩
  have HZ := mkHid hZ
  obtain ⟨wa, hwa⟩ : ∃ x : World, ((w1.alloc (.cells #[.int .i64 0, .int .i64 0] 54)).alloc (.cells #[.int .i64 l, .int .i64 0] 54)).alloc (.cells #[.slice (some ⟨Z, 0, none⟩) 1 1, .slice (some ⟨Z + 1, 0, none⟩) 1 1] 51) = x := ⟨_, rfl⟩
  obtain ⟨wz, hwz⟩ : ∃ x : World, (wa.alloc (.cells #[.int .i64 a, .int .i64 b, .bool s] 43)).alloc (.cells #[.bool true] 4) = x := ⟨_, rfl⟩
  have hsa : wa.heap.size = Z + 1 + 1 + 1 := by rw [← hwa, ← hZ]; simp
  have BA : Hid (Below w1.heap.size w1 wa) := mkHid (by rw [← hwa]; exact bl_alloc (bl_alloc (bl_alloc (Below.refl _ _) _) _) _)
  have BZ : Hid (Below wa.heap.size wa wz) := mkHid (by rw [← hwz]; exact bl_alloc (bl_alloc (Below.refl _ _) _) _)
  have SZ : Hid (wz.heap.size = Z + 5) := mkHid (by rw [← hwz]; simp [hsa])
  have W0 : Hid (wz.heap[Z]? = some (.cells #[.int .i64 0, .int .i64 0] 54 (0, 0))) := mkHid (by rw [BZ.out.block Z (by omega), ← hwa, heap_old _ _ (by simp; omega), heap_old _ _ (by simp; omega), heap_new _ _ (by omega)])
  have W1 : Hid (wz.heap[Z + 1]? = some (.cells #[.int .i64 l, .int .i64 0] 54 (0, 0))) := mkHid (by rw [BZ.out.block (Z + 1) (by omega), ← hwa, heap_old _ _ (by simp; omega), heap_new _ _ (by simp; omega)])
  have W2 : Hid (wz.heap[Z + 2]? = some (.cells #[.slice (some ⟨Z, 0, none⟩) 1 1, .slice (some ⟨Z + 1, 0, none⟩) 1 1] 51 (0, 0))) := mkHid (by rw [BZ.out.block (Z + 2) (by omega), ← hwa, heap_new _ _ (by simp; omega)])
  have W3 : Hid (wz.heap[Z + 3]? = some (.cells #[.int .i64 a, .int .i64 b, .bool s] 43 (0, 0))) := mkHid (by rw [← hwz, heap_old _ _ (by simp; omega), heap_new _ _ (by omega)])
  have W4 : Hid (wz.heap[Z + 4]? = some (.cells #[.bool true] 4 (0, 0))) := mkHid (by rw [← hwz, heap_new _ _ (by simp; omega)])
  have RZ := mkHid ((R1.out.below BA.out).below BZ.out)
  obtain ⟨q0, q1, q2, _, _, _⟩ := R0.out.below BA.out
  obtain ⟨p0, p1, p2, f0, f1, f2⟩ := RZ.out
  have HBZ : Hid (Below X w wz) := mkHid ((HB1.out.trans (BA.out.mono (by have := HS0.out; have := HS1.out; omega))).trans (BZ.out.mono (by rw [hsa]; have := HS0.out; have := HS1.out; omega)))
  have OS := mkHid (top_own Z l a b s wz (X + 1 + 1) (Z + 5) (by have := HS0.out; have := HS1.out; omega) (Nat.le_refl _) W0.out W1.out W2.out W3.out W4.out)
  have OD := mkHid (((OS.out.outs (outs_set wz (X + 1) 0 (.slice (some ⟨Z + 2, 0, none⟩) 2 2)) (.inr (by omega))).outs (outs_set _ (X + 1) 1 (.slice (some ⟨Z + 3, 0, none⟩) 1 1)) (.inr (by omega))).outs (outs_set _ (X + 1) 2 (.slice (some ⟨Z + 4, 0, none⟩) 1 1)) (.inr (by omega)))
  have BD := mkHid (((HBZ.out.setCell (p := ⟨X + 1, 0, none⟩) (by show X ≤ X + 1; omega) (.slice (some ⟨Z + 2, 0, none⟩) 2 2)).setCell (p := ⟨X + 1, 1, none⟩) (by show X ≤ X + 1; omega) (.slice (some ⟨Z + 3, 0, none⟩) 1 1)).setCell (p := ⟨X + 1, 2, none⟩) (by show X ≤ X + 1; omega) (.slice (some ⟨Z + 4, 0, none⟩) 1 1))
  clear R0 R1 RZ BA BZ W0 W1 W2 W3 W4 OS HBZ
  go_wp2
  rw [HE.out]
  refine bodyPost_ret (v := .agg #[.slice (some ⟨Z + 2, 0, none⟩) 2 2, .slice (some ⟨Z + 3, 0, none⟩) 1 1, .slice (some ⟨Z + 4, 0, none⟩) 1 1]) (by simp [results, Try.results12, go_sem, *]) rfl ⟨⟨some ⟨Z + 2, 0, none⟩, 2, some ⟨Z + 3, 0, none⟩, 1, some ⟨Z + 4, 0, none⟩, 1⟩, rfl, ?_, ?_⟩
  · rw [HX.out]
    exact OD.out.mono (by omega) (by have := SZ.out; simp; omega)
  · rw [HX.out]
    exact BD.out
end Go.Proofs.Ytbfmljogfljhdaa
