/-
  The law on Words: at every text the program's Words answers as the specification's, words and fault; its answer is memory of its own, behind another call too; the text reads behind the call as it did.
-/
import Derived.Test.YthaehhndfahocaaMark
namespace Go.Proofs.Ythaehhndfahocaa
open Go.ChangeShapes Go.WideShapes Go.ChangeAt Go.RowKit Go.Joins
open Go.ChangeMaps (open_string shut_string)
open Pl

theorem scan_len (s : ByteArray) (at_ : Nat) (acc : List W3) (h : acc.length ≤ 1500) : (scanI s at_ acc).1.length ≤ 1500 := by
  generalize hf : s.size - at_ = f
  induction f using Nat.strongRecOn generalizing at_ acc with
  | _ f ih =>
    by_cases h1 : at_ < s.size
    · by_cases hk : kindI (s.extract at_ (endI s at_)) = 0
      · rw [scan_bad h1 hk]; simp
      · by_cases hm : acc.length = 1500
        · rw [scan_many h1 hk hm]; simp
        · rw [scan_go h1 hk hm]
          have h2 := endI_gt h1
          have h3 := skip_ge s (endI s at_)
          exact ih (s.size - skipI s (endI s at_)) (by omega) _ _ (by rw [List.length_append]; simp; omega) rfl
    · rw [scan_end h1]; exact h
theorem words_len (s : ByteArray) : (wordsI s).1.length ≤ 1500 := by
  unfold wordsI
  split
  · simp
  · exact scan_len _ _ _ (by simp)

theorem Owns.some {w : World} {base : Nat} {v : Value} {ws : List W3} (h : Owns w base v ws) (hne : ws.length ≠ 0) : ∃ g cap, v = .slice (some ⟨g, 0, none⟩) ws.length cap := by
  rcases h.2 with ⟨_, h0⟩ | ⟨g, cap, cur, rfl, _⟩
  · exact absurd h0 hne
  · exact ⟨_, _, rfl⟩
theorem eqWordS_own {w : World} {base base' : Nat} {v v' : Value} {ws : List W3} (ho : Owns w base v ws) (ho' : Owns w base' v' ws) (hn : ws.length ≤ 1500) : Calls Try.prog 14 #[v, v'] w fun e w' => e = .returned (.bool true) ∧ Below w.heap.size w w' := by
  by_cases h0 : ws.length = 0
  · obtain ⟨a, cap, rfl⟩ := ho.form
    obtain ⟨a', cap', rfl⟩ := ho'.form
    rw [h0]
    refine (eqWordS_nil a a' cap cap' w).mono ?_
    rintro e w' ⟨rfl, rfl⟩
    exact ⟨rfl, Below.refl _ _⟩
  · obtain ⟨g, cap, rfl⟩ := ho.some h0
    obtain ⟨g', cap', rfl⟩ := ho'.some h0
    exact eqWordS_same ws g 0 cap g' 0 cap' w (by unfold maxLen; omega) (lies_of_row ho) (lies_of_row ho')
theorem mark_own {w : World} {base : Nat} {v : Value} {ws : List W3} (ho : Owns w base v ws) (hn : ws.length ≤ 1500) :
    Calls Try.prog 16 #[v, .int .i64 1] w fun e w' => e = .returned (.int .i64 (3 * (ws.length : Int) + 1)) ∧ Owns w' base v (markL ws.length) ∧ w.grownBy w' v.ownBlock := by
  by_cases h0 : ws.length = 0
  · obtain ⟨a, cap, rfl⟩ := ho.form
    have hz : ws = [] := List.eq_nil_of_length_eq_zero h0
    subst hz
    refine (mark_nil a cap w).mono ?_
    rintro e w' ⟨rfl, rfl⟩
    exact ⟨rfl, ho, ⟨rfl, rfl, rfl, Nat.le_refl _, fun _ _ _ => rfl⟩⟩
  · obtain ⟨g, cap, rfl⟩ := ho.some h0
    refine (mark_row ws.length g cap base _ w hn ho).mono ?_
    rintro e w' ⟨rfl, h1, h2⟩
    exact ⟨rfl, by unfold Owns; rw [markL_len]; exact h1, h2⟩
theorem held_own {w : World} {base n : Nat} {v : Value} (ho : Owns w base v (markL n)) (hn : n ≤ 1500) :
    Calls Try.prog 17 #[v, .int .i64 1] w fun e w' => e = .returned (.int .i64 (3 * (n : Int) + 1)) ∧ Below w.heap.size w w' := by
  by_cases h0 : n = 0
  · obtain ⟨a, cap, rfl⟩ := ho.form
    subst h0
    refine (held_nil a cap w).mono ?_
    rintro e w' ⟨rfl, rfl⟩
    exact ⟨rfl, Below.refl _ _⟩
  · obtain ⟨g, cap, rfl⟩ := ho.some (by rw [markL_len]; exact h0)
    unfold Owns at ho
    rw [markL_len] at ho ⊢
    exact held_row n g cap base w hn ho

/-- What the law holds on to: the specification's words, the program's, the specification's fault. -/
def Kept (W : World) (n0 b1 b4 : Nat) (v0 v1 : Value) (c d : Int) (ws x1 : List W3) : Prop := Owns W n0 v0 ws ∧ Owns W b1 v1 x1 ∧ W.heap[b4]? = some (.cells #[.int .i64 c, .int .i64 d] 28 (0, 0))
theorem block_lt {W : World} {b : Nat} {o : Obj} (h : W.heap[b]? = some o) : b < W.heap.size := by
  rcases Nat.lt_or_ge b W.heap.size with h' | h'
  · exact h'
  · simp [Array.getElem?_eq_none h'] at h
theorem Kept.below {W W' : World} {n0 b1 b4 : Nat} {v0 v1 : Value} {c d : Int} {ws x1 : List W3} (h : Kept W n0 b1 b4 v0 v1 c d ws x1) (hb : Below W.heap.size W W') : Kept W' n0 b1 b4 v0 v1 c d ws x1 :=
  ⟨h.1.below hb, h.2.1.below hb, (hb.block _ (block_lt h.2.2)).trans h.2.2⟩
theorem Kept.mark {W W' : World} {n0 b1 b4 : Nat} {v0 v1 : Value} {c d : Int} {ws x1 x2 : List W3} (h : Kept W n0 b1 b4 v0 v1 c d ws x1) (hg : W.grownBy W' v1.ownBlock) (ho : Owns W' b1 v1 x2) (h4 : b4 < b1) (h0 : ∀ k, v0.ownBlock = some k → k < b1) : Kept W' n0 b1 b4 v0 v1 c d ws x2 := by
  obtain ⟨a, b, e⟩ := h
  refine ⟨World.ownsRow.kept a hg ?_, ho, ?_⟩
  · by_cases q : v0.ownBlock = none
    · exact .inl q
    · right
      intro q2
      obtain ⟨k, hk⟩ := Option.ne_none_iff_exists'.1 q
      have h1 := h0 k hk
      have h2 := (World.ownsRow.lt b k (q2 ▸ hk)).1
      omega
  · rw [hg.block _ (block_lt e) (fun q => by have := (World.ownsRow.lt b b4 q.symm).1; omega)]
    exact e

set_option maxHeartbeats 2000000 in
theorem lawC_walk (s : ByteArray) (w : World) (hs : s.size ≤ maxLen) : Calls Try.prog 4 #[.string s] w fun e w' => e = .returned (.bool true) ∧ Below w.heap.size w w' := by
  by_cases hbig : 1048576 < (s.size : Int)
  · unfold maxLen at hs
    go_enter Try.func4, Try.ntmps4
    go_wp2
    go_ret
    exact ⟨rfl, Below.refl _ _⟩
  · have hn := words_len s
    have hS := fun w => sWords_any s w hs
    have hI := fun w => iWords_any s w hs
    obtain ⟨⟨ws, c, d⟩, hw⟩ : ∃ x, wordsI s = x := ⟨_, rfl⟩
    rw [hw] at hn
    simp only [hw] at hS hI
    have HS := mkHid hS
    have HI := mkHid hI
    have hn' : ws.length ≤ 1500 := hn
    clear hw hn hS hI
    go_enter Try.func4, Try.ntmps4
    go_wp2_with fail
    refine (HS.out _).mono ?_
    rintro e w1 ⟨v0, rfl, ho0, hb1⟩
    have O0 := mkHid ho0
    have B1 := mkHid hb1
    clear ho0 hb1
    have h0 : ∀ k, v0.ownBlock = some k → k < w1.heap.size + 1 := fun k hk => by have := (World.ownsRow.lt O0.out k hk).2; omega
    have H0 := mkHid h0
    have W1 : Hid (w.heap.size ≤ w1.heap.size) := B1.out.size
    clear h0
    go_wp2_with fail
    refine (HI.out _).mono ?_
    rintro e w2 ⟨v1, rfl, ho1, hb2⟩
    have B2 : Hid (Below w.heap.size w w2) := (B1.out.alloc B1.out.size _).trans (hb2.mono (by have := B1.out.size; simp; omega))
    have K2 : Hid (Kept w2 w.heap.size (w1.heap.size + 1) w1.heap.size v0 v1 c d ws ws) := by
      refine ⟨Owns.below (World.ownsRow.alloc O0.out _) hb2, by simpa using ho1, ?_⟩
      exact (hb2.block _ (by simp)).trans (heap_alloc_new w1 _)
    clear ho1 hb2 O0 B1
    have A3 : Hid (Below w2.heap.size w2 (w2.alloc (.cells #[.int .i64 c, .int .i64 d] 28))) := (Below.refl _ _).alloc (Nat.le_refl _) _
    have K3 := mkHid (K2.out.below A3.out)
    have B3 := mkHid (below_step B2.out A3.out)
    have F3 := mkHid (heap_alloc_new w2 (.cells #[.int .i64 c, .int .i64 d] 28))
    clear K2 B2 A3
    go_wp2_with fail
    refine (eqWordS_own K3.out.2.1 K3.out.1 hn').mono ?_
    rintro e w3 ⟨rfl, hb3⟩
    have K4 := mkHid (K3.out.below hb3)
    have B4 := mkHid (below_step B3.out hb3)
    have F4 := mkHid ((hb3.block _ (by simp)).trans F3.out)
    clear hb3 K3 B3 F3
    have c0 : w3.cell? ⟨w1.heap.size, 0, none⟩ = some (.int .i64 c) := by rw [Lib.cell_of_heap K4.out.2.2]; rfl
    have c1 : w3.cell? ⟨w1.heap.size, 1, none⟩ = some (.int .i64 d) := by rw [Lib.cell_of_heap K4.out.2.2]; rfl
    have d0 : w3.cell? ⟨w2.heap.size, 0, none⟩ = some (.int .i64 c) := by rw [Lib.cell_of_heap F4.out]; rfl
    have d1 : w3.cell? ⟨w2.heap.size, 1, none⟩ = some (.int .i64 d) := by rw [Lib.cell_of_heap F4.out]; rfl
    go_wp2_with fail
    refine (eqFault_same c d _).mono ?_
    rintro e w4 ⟨rfl, hb4⟩
    have K5 := mkHid (K4.out.below hb4)
    have B5 := mkHid (below_step B4.out hb4)
    clear hb4 K4 B4 F4 c0 c1 d0 d1
    go_wp2_with fail
    refine (mark_own K5.out.2.1 hn').mono ?_
    rintro e w5 ⟨rfl, ho5, hg5⟩
    have K6 := mkHid (K5.out.mark hg5 ho5 (Nat.lt_succ_self _) H0.out)
    have hNs := B5.out.size
    have B6 : Hid (Below w.heap.size w w5) := B5.out.grown hg5 hNs (fun k hk => by
      have h1 := (World.ownsRow.lt K5.out.2.1 k hk).1
      have h2 := W1.out
      omega)
    clear ho5 hg5 K5 B5
    go_wp2_with fail
    refine (held_own K6.out.2.1 hn').mono ?_
    rintro e w6 ⟨rfl, hb6⟩
    have K7 := mkHid (K6.out.below hb6)
    have B7 := mkHid (below_step B6.out hb6)
    clear hb6 K6 B6
    have q0 : ¬ 3 * (ws.length : Int) + 1 < 0 := by omega
    go_wp2_with fail
    refine (HI.out _).mono ?_
    rintro e w7 ⟨v2, rfl, ho2, hb7⟩
    have K8 := mkHid (K7.out.below hb7)
    have B8 := mkHid (below_step B7.out hb7)
    have O2 := mkHid ho2
    clear ho2 hb7 K7 B7
    have A9 : Hid (Below w7.heap.size w7 (w7.alloc (.cells #[.int .i64 c, .int .i64 d] 28))) := (Below.refl _ _).alloc (Nat.le_refl _) _
    have K9 := mkHid (K8.out.below A9.out)
    have B9 := mkHid (below_step B8.out A9.out)
    have O9 := mkHid (O2.out.below A9.out)
    have F9 := mkHid (heap_alloc_new w7 (.cells #[.int .i64 c, .int .i64 d] 28))
    clear K8 B8 O2 A9
    go_wp2_with fail
    refine (eqWordS_own O9.out K9.out.1 hn').mono ?_
    rintro e w8 ⟨rfl, hb8⟩
    have K10 := mkHid (K9.out.below hb8)
    have B10 := mkHid (below_step B9.out hb8)
    have F10 := mkHid ((hb8.block _ (by simp)).trans F9.out)
    clear hb8 K9 B9 F9 O9
    have c0 : w8.cell? ⟨w1.heap.size, 0, none⟩ = some (.int .i64 c) := by rw [Lib.cell_of_heap K10.out.2.2]; rfl
    have c1 : w8.cell? ⟨w1.heap.size, 1, none⟩ = some (.int .i64 d) := by rw [Lib.cell_of_heap K10.out.2.2]; rfl
    have d0 : w8.cell? ⟨w7.heap.size, 0, none⟩ = some (.int .i64 c) := by rw [Lib.cell_of_heap F10.out]; rfl
    have d1 : w8.cell? ⟨w7.heap.size, 1, none⟩ = some (.int .i64 d) := by rw [Lib.cell_of_heap F10.out]; rfl
    go_wp2_with fail
    refine (eqFault_same c d _).mono ?_
    rintro e w9 ⟨rfl, hb9⟩
    have K11 := mkHid (K10.out.below hb9)
    have B11 := mkHid (below_step B10.out hb9)
    clear hb9 K10 B10 F10 c0 c1 d0 d1
    go_wp2_with fail
    refine (held_own K11.out.2.1 hn').mono ?_
    rintro e w10 ⟨rfl, hb10⟩
    have B12 := mkHid (below_step B11.out hb10)
    clear hb10 K11 B11
    go_wp2
    go_ret
    exact ⟨rfl, B12.out⟩

set_option maxRecDepth 100000 in
theorem lawC_lifted (os : Os) (started : os.Started) (H : Type) (enc : TypeId × Value → H) :
    ReturnsInHanded {} Try.checked os 4 .any (Rows.fnExactWordsSpec.pre6 enc Try.prog Try.f4 Rows.fnExactWordsRow.domain false) (Rows.fnExactWordsSpec.post enc Try.prog Try.f4 false true false false) := by
  refine returnsInHanded_of_change (C := Try.checked) Try.own started (by kernel_rfl) Try.func4
    (ChangeSpec.witness6 (enc := enc) (C := Try.checked) false ⟨#[], #[.string ⟨#[]⟩], []⟩ 8 (by kernel_rfl) (by kernel_rfl) (by kernel_rfl) (by kernel_rfl)) ?_
  intro W base args ds gs before hval0 hW hcnd _
  have hval : ∀ (j : Nat) t v, Try.f4.params[j]? = some t → args[j]? = some v → Value.okWide Try.prog W .any base t v := hval0
  have hW' := hW
  obtain ⟨p, q, hA0, hV, rfl, hfz, hnd⟩ := hW
  have hA : DataW.TrodAll enc Try.prog W 0 (fun _ => true) true Try.f4.params.toList args.toList ds p := hA0
  rw [Try.params4] at hA hval
  obtain ⟨v0, d0, rfl, rfl, h0⟩ := trodAll_one hA
  obtain ⟨rfl, rfl⟩ := trodVars_none hV
  obtain ⟨s, rfl, rfl, rfl, hs⟩ := open_string Try.underlying9 (hval 0 9 v0 rfl rfl) h0
  clear hA0 hval0
  refine (lawC_walk s W hs).mono fun e W' ⟨he, bel⟩ => ?_
  subst he
  exact ⟨_, rfl, _, _, _, [], _, [], hW', trodAll_mk1 (shut_bool Try.underlying4 _), trodAll_mk1 (shut_string Try.underlying9 hs), rfl, bel.frame _, fun h => by cases h⟩

theorem lawC_holds : Rows.FnExactWordsSaid :=
  OpenClaim.holds_of_wide 4 Try.f4 rfl rfl rfl rfl rfl rfl rfl ⟨rfl, rfl, rfl, rfl, rfl⟩ rfl rfl rfl rfl rfl (by kernel_rfl) Try.func4 (by kernel_rfl)
    (of_decide_eq_true (by kernel_rfl)) (by unfold Func.isWrapper; first | (rw [if_pos (by decide +kernel)]; kernel_rfl) | (rw [if_neg (by decide +kernel)]; exact ⟨rfl, rfl⟩))
    (fun os started H enc _ => lawC_lifted os started H enc)

#print axioms lawC_holds
end Go.Proofs.Ythaehhndfahocaa
