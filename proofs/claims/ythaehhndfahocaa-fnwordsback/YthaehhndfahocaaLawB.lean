/-
  The law on WordsText: at every list of words the program's WordsText answers as the specification's, whatever the words' kinds, texts and places are; the list reads behind the call as it did.
-/
import Derived.Test.YthaehhndfahocaaTextb
namespace Go.Proofs.Ythaehhndfahocaa
open Go.ChangeShapes Go.WideShapes Go.ChangeAt Go.RowKit Go.Joins Go.Deep
open Pl

set_option maxHeartbeats 400000 in
theorem szWordS_nil (a : Option Addr) (cap : Nat) (w : World) : Calls Try.prog 22 #[.slice a 0 cap, .int .i64 1048576] w fun e w' => e = .returned (.int .i64 1048576) ∧ w = w' := by
  go_enter Try.func22, Try.ntmps22
  go_wp2
  go_loop [1, 5] (fun l i => l = .int .i64 1048576 ∧ i = .int .i64 0) (fun _ _ => 0)
  case atStart => exact ⟨rfl, rfl⟩
  case round =>
    obtain ⟨rfl, rfl⟩ := hrel
    go_wp2
    go_ret
    exact ⟨rfl, rfl⟩
set_option maxHeartbeats 400000 in
theorem toWordS_nil (a : Option Addr) (cap : Nat) (w : World) :
    Calls Try.prog 23 #[.slice a 0 cap] w fun e w' => e = .returned (.slice (some ⟨w.heap.size, 0, none⟩) 0 0) ∧
      w'.ownsRow w.heap.size 32 3 (.slice (some ⟨w.heap.size, 0, none⟩) 0 0) 0 (flat []) ∧ Below w.heap.size w w' := by
  obtain ⟨i0, hi, hz⟩ := Option.map_eq_some_iff.1 Try.info32
  simp only [Prod.mk.injEq] at hz
  obtain ⟨hz0, hz1, hz2⟩ := hz
  obtain ⟨w1, hmk, hown0, hg0⟩ := run_make_full (P := Try.prog) w w.heap.size 24 32 i0 _ 3 Try.underlying24 hi hz0 hz1 .i64 .i64 0 (by omega) (by unfold maxLen; omega) (Nat.le_refl _)
  have HO := mkHid hown0
  have HG := mkHid (Below.grown (Below.refl w.heap.size w) hg0 (Nat.le_refl _) (fun k hk => by cases hk))
  simp only [Int.natCast_zero] at hmk
  clear hown0 hg0 hi hz0 hz1 hz2
  go_enter Try.func23, Try.ntmps23
  go_wp2
  go_loop [4] (fun i => i = .int .i64 0) (fun _ => 0)
  case atStart => rfl
  case round =>
    subst hrel
    go_wp2
    go_ret
    refine ⟨rfl, ?_, HG.out⟩
    have h := HO.out
    rw [List.eq_nil_of_length_eq_zero (l := (madeCells _ (0 * 3)).toList) (by simp [madeCells])] at h
    exact h

set_option maxHeartbeats 1000000 in
theorem lawB_walk (ws : List W3) (b off cap : Nat) (w : World) (hn : ws.length ≤ maxLen) (hl : Lies w b off ws) (hss : Short ws) :
    Calls Try.prog 6 #[.slice (some ⟨b, off, none⟩) ws.length cap] w fun e w' => e = .returned (.bool true) ∧ Below w.heap.size w w' := by
  have HL := mkHid hl
  go_enter Try.func6, Try.ntmps6
  go_wp2_with fail
  refine (szWordS_any ws b off cap _ hn hl hss).mono ?_
  rintro e w1 ⟨⟨m, rfl, hm⟩, hb1⟩
  have B1 := mkHid hb1
  have HM := mkHid hm
  clear hb1 hm hl hss hn
  by_cases hm0 : m < 0
  · go_wp2
    go_ret
    exact ⟨rfl, B1.out⟩
  · have HS : Hid (Small ws) := by
      rcases HM.out with h | h
      · exact absurd h hm0
      · exact h
    clear HM
    go_wp2_with fail
    refine (toWordS_any ws b off cap _ HS.out.1 (HL.out.below B1.out)).mono ?_
    rintro e w2 ⟨rfl, ho2, hb2⟩
    have B2 := mkHid (below_step B1.out hb2)
    have L2 := mkHid (lies_of_row ho2)
    clear ho2 hb2
    go_wp2_with fail
    refine (sText_any ws _ 0 _ _ HS.out L2.out).mono ?_
    rintro e w3 ⟨rfl, hb3⟩
    have B3 := mkHid (below_step B2.out hb3)
    clear hb3 L2
    go_wp2_with fail
    refine (toWordS_any ws b off cap _ HS.out.1 (HL.out.below B3.out)).mono ?_
    rintro e w4 ⟨rfl, ho4, hb4⟩
    have B4 := mkHid (below_step B3.out hb4)
    have L4 := mkHid (lies_of_row ho4)
    clear ho4 hb4
    go_wp2_with fail
    refine (iText_any ws _ 0 _ _ HS.out L4.out).mono ?_
    rintro e w5 ⟨rfl, hb5⟩
    have B5 := mkHid (below_step B4.out hb5)
    have L5 := mkHid (L4.out.below hb5)
    clear hb5 L4
    go_wp2_with fail
    refine (toWordS_any ws b off cap _ HS.out.1 (HL.out.below B5.out)).mono ?_
    rintro e w6 ⟨rfl, ho6, hb6⟩
    have B6 := mkHid (below_step B5.out hb6)
    have L6 := mkHid (lies_of_row ho6)
    have L56 := mkHid (L5.out.below hb6)
    clear ho6 hb6 L5
    go_wp2_with fail
    refine (eqWordS_same ws _ 0 _ _ 0 _ _ (by have := HS.out.1; unfold maxLen; omega) L56.out L6.out).mono ?_
    rintro e w7 ⟨rfl, hb7⟩
    have B7 := mkHid (below_step B6.out hb7)
    clear hb7 L56 L6
    go_wp2
    go_ret
    exact ⟨rfl, B7.out⟩

set_option maxHeartbeats 1000000 in
theorem lawB_nil (a : Option Addr) (cap : Nat) (w : World) : Calls Try.prog 6 #[.slice a 0 cap] w fun e w' => e = .returned (.bool true) ∧ Below w.heap.size w w' := by
  have HS : Hid (Small []) := ⟨by simp, by simp⟩
  go_enter Try.func6, Try.ntmps6
  go_wp2_with fail
  refine (szWordS_nil a cap _).mono ?_
  rintro e w1 ⟨rfl, rfl⟩
  go_wp2_with fail
  refine (toWordS_nil a cap _).mono ?_
  rintro e w2 ⟨rfl, ho2, hb2⟩
  have B2 := mkHid hb2
  have L2 := mkHid (lies_of_row (ws := []) ho2)
  clear ho2 hb2
  go_wp2_with fail
  refine (sText_any [] _ 0 0 _ HS.out L2.out).mono ?_
  rintro e w3 ⟨rfl, hb3⟩
  have B3 := mkHid (below_step B2.out hb3)
  clear hb3 L2
  go_wp2_with fail
  refine (toWordS_nil a cap _).mono ?_
  rintro e w4 ⟨rfl, ho4, hb4⟩
  have B4 := mkHid (below_step B3.out hb4)
  have L4 := mkHid (lies_of_row (ws := []) ho4)
  clear ho4 hb4
  go_wp2_with fail
  refine (iText_any [] _ 0 0 _ HS.out L4.out).mono ?_
  rintro e w5 ⟨rfl, hb5⟩
  have B5 := mkHid (below_step B4.out hb5)
  have L5 := mkHid (L4.out.below hb5)
  clear hb5 L4
  go_wp2_with fail
  refine (toWordS_nil a cap _).mono ?_
  rintro e w6 ⟨rfl, ho6, hb6⟩
  have B6 := mkHid (below_step B5.out hb6)
  have L6 := mkHid (lies_of_row (ws := []) ho6)
  have L56 := mkHid (L5.out.below hb6)
  clear ho6 hb6 L5
  go_wp2_with fail
  refine (eqWordS_same [] _ 0 0 _ 0 0 _ (by unfold maxLen; simp) L56.out L6.out).mono ?_
  rintro e w7 ⟨rfl, hb7⟩
  have B7 := mkHid (below_step B6.out hb7)
  clear hb7 L56 L6
  go_wp2
  go_ret
  exact ⟨rfl, B7.out⟩

theorem Try.cells3 : Try.prog.cellsOf 3 = 1 := by kernel_rfl
theorem Try.cells9 : Try.prog.cellsOf 9 = 1 := by kernel_rfl
/-- One word, out of its three cells. -/
theorem open_word {H : Type} {enc : TypeId × Value → H} {W : World} {n : Nat} {cs : List Value} {x : DataW H × List MemPlace} (h : DataW.trod enc Try.prog W 0 (fun _ => true) true n 39 cs = some x) :
    ∃ y : W3, cs = [.int .i64 y.k, .string y.s, .int .i64 y.a] ∧ y.s.size ≤ maxLen := by
  obtain ⟨y0, y1, y2, m, _, hlen, h0, h1, h2⟩ := trod_struct3 Try.underlying39 h
  rw [Try.cells39] at hlen
  match cs, hlen with
  | [c0, c1, c2], _ =>
    simp [Try.cells3, Try.cells9] at h0 h1 h2
    obtain ⟨x0, e0, _, _⟩ := DataW.trod_int Try.underlying3 h0
    obtain ⟨x1, e1, _, hs⟩ := DataW.trod_string Try.underlying9 h1
    obtain ⟨x2, e2, _, _⟩ := DataW.trod_int Try.underlying3 h2
    simp at e0 e1 e2
    subst e0 e1 e2
    exact ⟨⟨x0, x1, x2⟩, rfl, hs⟩
theorem list_of_fn (f : Nat → W3) (n : Nat) : ∃ ws : List W3, ws.length = n ∧ ∀ i x, ws[i]? = some x → i < n ∧ x = f i := by
  refine ⟨(List.range n).map f, by simp, fun i x hx => ?_⟩
  obtain ⟨hi, e⟩ := List.getElem?_eq_some_iff.1 hx
  simp at hi e
  exact ⟨hi, e.symm⟩
/-- A slice of words that came in: empty, or it holds words. -/
theorem open_words {H : Type} {enc : TypeId × Value → H} {W : World} {a : Option Addr} {len cap : Nat} {x : DataW H} {p : List MemPlace} (h : DataW.Trod enc Try.prog W 0 (fun _ => true) true 44 (.slice a len cap) x p) :
    len = 0 ∨ ∃ (b off : Nat) (ws : List W3), a = some ⟨b, off, none⟩ ∧ ws.length = len ∧ len ≤ maxLen ∧ Lies W b off ws ∧ Short ws := by
  obtain ⟨fuel, hf⟩ := h
  rcases open_slice Try.underlying44 hf with ⟨hcs, _⟩ | ⟨ad, len', cap', m, n, D, Pl, hcs, _, hl, hm, hmm, _, hall⟩
  · simp [Value.cells] at hcs
    exact .inl hcs.2.1
  · simp [Value.cells] at hcs
    obtain ⟨rfl, rfl, rfl⟩ := hcs
    by_cases h0 : len = 0
    · exact .inl h0
    right
    simp only [if_true] at hmm
    rw [Try.cells39] at hall
    have each : ∀ i, i < len → ∃ y : W3, W.cell? (ad.add (i * 3)) = some (.int .i64 y.k) ∧ W.cell? (ad.add (i * 3 + 1)) = some (.string y.s) ∧ W.cell? (ad.add (i * 3 + 2)) = some (.int .i64 y.a) ∧ y.s.size ≤ maxLen := by
      intro i hi
      obtain ⟨cs', h1, h2⟩ := hall i (by omega)
      obtain ⟨y, rfl, hs⟩ := open_word h2
      obtain ⟨_, _, hc⟩ := World.cells?_some h1
      have e0 := hc 0 (by omega)
      have e1 := hc 1 (by omega)
      have e2 := hc 2 (by omega)
      rw [add_add] at e0 e1 e2
      exact ⟨y, by simpa using e0, by simpa using e1, by simpa using e2, hs⟩
    have inh : Inhabited W3 := ⟨⟨0, ⟨#[]⟩, 0⟩⟩
    obtain ⟨f, hf'⟩ := choose_lt each
    obtain ⟨ws, hwl, hws⟩ := list_of_fn f len
    obtain ⟨b, off, spot⟩ := ad
    have hsp : spot = none := by
      have := World.cell?_spot (hf' 0 (by omega)).1
      simpa [Addr.add] using this
    subst hsp
    refine ⟨b, off, ws, rfl, hwl, by omega, fun i x hx => ?_, fun x hx => ?_⟩
    · obtain ⟨hi, rfl⟩ := hws i x hx
      obtain ⟨e0, e1, e2, _⟩ := hf' i hi
      rw [add_plain] at e0 e1 e2
      exact ⟨e0, by rw [Nat.add_assoc]; exact e1, by rw [Nat.add_assoc]; exact e2⟩
    · obtain ⟨i, hi, e⟩ := List.getElem_of_mem hx
      obtain ⟨hi', rfl⟩ := hws i x (by rw [List.getElem?_eq_getElem hi, e])
      exact (hf' i hi').2.2.2

set_option maxRecDepth 100000 in
theorem lawB_lifted (os : Os) (started : os.Started) (H : Type) (enc : TypeId × Value → H) :
    ReturnsInHanded {} Try.checked os 6 .any (Rows.fnExactWordsTextSpec.pre6 enc Try.prog Try.f6 Rows.fnExactWordsTextRow.domain false) (Rows.fnExactWordsTextSpec.post enc Try.prog Try.f6 false true false false) := by
  refine returnsInHanded_of_change (C := Try.checked) Try.own started (by kernel_rfl) Try.func6
    (ChangeSpec.witness6 (enc := enc) (C := Try.checked) false ⟨#[], #[.slice none 0 0], []⟩ 8 (by kernel_rfl) (by kernel_rfl) (by kernel_rfl) (by kernel_rfl)) ?_
  intro W base args ds gs before hval0 hW hcnd _
  have hval : ∀ (j : Nat) t v, Try.f6.params[j]? = some t → args[j]? = some v → Value.okWide Try.prog W .any base t v := hval0
  have hW' := hW
  obtain ⟨p, q, hA0, hV, rfl, hfz, hnd⟩ := hW
  have hA : DataW.TrodAll enc Try.prog W 0 (fun _ => true) true Try.f6.params.toList args.toList ds p := hA0
  rw [Try.params6] at hA hval
  obtain ⟨v0, d0, rfl, rfl, h0⟩ := trodAll_one hA
  obtain ⟨rfl, rfl⟩ := trodVars_none hV
  have k0 := h0
  have lt0 : ∀ x ∈ p, x.block < W.heap.size := by obtain ⟨m, hm⟩ := k0; exact DataW.trod_lt m _ _ _ hm
  obtain ⟨a0, len, cap, rfl⟩ := okWide_slice Try.underlying44 (hval 0 44 v0 rfl rfl)
  clear hA0 hval0
  have walk : Calls Try.prog 6 #[.slice a0 len cap] W fun e w' => e = .returned (.bool true) ∧ Below W.heap.size W w' := by
    rcases open_words h0 with rfl | ⟨b, off, ws, rfl, rfl, hm, hl, hs⟩
    · exact lawB_nil a0 cap W
    · exact lawB_walk ws b off cap W hm hl hs
  refine walk.mono fun e W' ⟨he, bel⟩ => ?_
  subst he
  exact ⟨_, rfl, _, _, _, [], _, [], hW', trodAll_mk1 (shut_bool Try.underlying4 _), trodAll_mk1 (Below.trod Try.laidOut (by kernel_rfl) (of_decide_eq_true (by kernel_rfl)) k0 bel lt0), rfl, bel.frame _, fun h => by cases h⟩

theorem lawB_holds : Rows.FnExactWordsTextSaid :=
  OpenClaim.holds_of_wide 6 Try.f6 rfl rfl rfl rfl rfl rfl rfl ⟨rfl, rfl, rfl, rfl, rfl⟩ rfl rfl rfl rfl rfl (by kernel_rfl) Try.func6 (by kernel_rfl)
    (of_decide_eq_true (by kernel_rfl)) (by unfold Func.isWrapper; first | (rw [if_pos (by decide +kernel)]; kernel_rfl) | (rw [if_neg (by decide +kernel)]; exact ⟨rfl, rfl⟩))
    (fun os started H enc _ => lawB_lifted os started H enc)

#print axioms lawB_holds
end Go.Proofs.Ythaehhndfahocaa
