/-
  CONTRACT of the specification's Words.
-/
import Derived.Test.YthaehhndfahocaaSkip
import Derived.Deep.AppendLies
namespace Go.Proofs.Ythaehhndfahocaa
open Go.RowKit
open Pl

/-- A slice of our own that holds words. -/
def Owns (w : World) (base : Nat) (v : Value) (ws : List W3) : Prop := w.ownsRow base 32 3 v ws.length (flat ws)
theorem Owns.below {w w' : World} {base : Nat} {v : Value} {ws : List W3} (h : Owns w base v ws) (hb : Below w.heap.size w w') : Owns w' base v ws := owns_below h hb
theorem Owns.setCell {w : World} {base : Nat} {v : Value} {ws : List W3} (h : Owns w base v ws) (a : Addr) (u : Value) (hne : a.block < base) : Owns (w.setCell a u) base v ws := by
  refine World.ownsRow.kept (row := some a.block) h ⟨rfl, rfl, rfl, by simp [World.setCell], fun k _ hk => Below.heap_setCell _ _ _ _ (fun e => hk (by simp [e]))⟩ (.inr ?_)
  intro e
  have := (World.ownsRow.lt h _ e).1
  omega

theorem owns_fresh {w' : World} {g base : Nat} (hb : base ≤ g) (hg : w'.heap[g]? = some (.cells #[] 32 (0, 0))) : Owns w' base (.slice (some ⟨g, 0, none⟩) 0 0) [] :=
  ⟨rfl, .inr ⟨g, 0, #[], rfl, hb, hg, Nat.le_refl _, by unfold maxLen; omega, rfl, rfl⟩⟩
theorem Owns.form {w : World} {base : Nat} {v : Value} {ws : List W3} (h : Owns w base v ws) : ∃ ao cap, v = .slice ao ws.length cap := by
  rcases h.2 with ⟨rfl, h0⟩ | ⟨g, cap, cur, rfl, _⟩
  · exact ⟨none, 0, by rw [h0]⟩
  · exact ⟨_, _, rfl⟩
theorem Owns.mono {w : World} {base base' : Nat} {v : Value} {ws : List W3} (h : Owns w base v ws) (hb : base' ≤ base) : Owns w base' v ws := by
  refine ⟨h.1, ?_⟩
  rcases h.2 with h0 | ⟨g, cap, cur, e1, e2, e3⟩
  · exact .inl h0
  · exact .inr ⟨g, cap, cur, e1, by omega, e3⟩
theorem Owns.off {w : World} {base n : Nat} {v : Value} {ws : List W3} (h : Owns w base v ws) (hn : n < base) : v.ownBlock ≠ some n := fun e => by
  have := (World.ownsRow.lt h _ e).1
  omega
theorem three_new (w : World) (a b c : Value) (j : Nat) (u : Value) (h : [a, b, c][j]? = some u) : (w.alloc (.cells #[a, b, c] 32)).cell? ((⟨w.heap.size, 0, none⟩ : Addr).add j) = some u := by
  rw [WideShapes.add_plain, Nat.zero_add, World.cell?_alloc_new]
  simpa using h
theorem flat_snoc (ws : List W3) (x : W3) : flat ws ++ [.int .i64 x.k, .string x.s, .int .i64 x.a] = flat (ws ++ [x]) := by rw [flat_append]; rfl

theorem two_set {w : World} {n : Nat} {a b c d : Value} {T : TypeId} (h : w.heap[n]? = some (.cells #[a, b] T (0, 0))) : ((w.setCell ⟨n, 0, none⟩ c).setCell ⟨n, 1, none⟩ d).heap[n]? = some (.cells #[c, d] T (0, 0)) := by
  have h1 := heap_setCell_same w n 0 _ T c h
  have h2 := heap_setCell_same (w.setCell ⟨n, 0, none⟩ c) n 1 _ T d h1
  rw [h2]; rfl
theorem two_size (w : World) (n : Nat) (c d : Value) : ((w.setCell ⟨n, 0, none⟩ c).setCell ⟨n, 1, none⟩ d).heap.size = w.heap.size := by simp [World.setCell]
/-- What a call that answers a fault leaves: the fault in its variable, an empty slice in a new block. -/
theorem fault_end {w w2 : World} {c d : Value} (hN : w2.heap[w.heap.size]? = some (.cells #[.int .i64 0, .int .i64 0] 28 (0, 0))) (hs : w.heap.size < w2.heap.size) (hB : Below w.heap.size w w2) :
    (((w2.setCell ⟨w.heap.size, 0, none⟩ c).setCell ⟨w.heap.size, 1, none⟩ d).alloc (.cells #[] 32)).cell? ⟨w.heap.size, 0, none⟩ = some c ∧
    (((w2.setCell ⟨w.heap.size, 0, none⟩ c).setCell ⟨w.heap.size, 1, none⟩ d).alloc (.cells #[] 32)).cell? ⟨w.heap.size, 1, none⟩ = some d ∧
    Owns (((w2.setCell ⟨w.heap.size, 0, none⟩ c).setCell ⟨w.heap.size, 1, none⟩ d).alloc (.cells #[] 32)) w.heap.size (.slice (some ⟨w2.heap.size, 0, none⟩) 0 0) [] ∧
    Below w.heap.size w (((w2.setCell ⟨w.heap.size, 0, none⟩ c).setCell ⟨w.heap.size, 1, none⟩ d).alloc (.cells #[] 32)) := by
  have h2 := two_set (c := c) (d := d) hN
  have hz := two_size w2 w.heap.size c d
  have h3 : (((w2.setCell ⟨w.heap.size, 0, none⟩ c).setCell ⟨w.heap.size, 1, none⟩ d).alloc (.cells #[] 32)).heap[w.heap.size]? = some (.cells #[c, d] 28 (0, 0)) := by
    rw [Lib.alloc_old _ _ _ (by omega)]; exact h2
  refine ⟨by rw [Lib.cell_of_heap h3]; rfl, by rw [Lib.cell_of_heap h3]; rfl, owns_fresh (by omega) ?_, ?_⟩
  · have := heap_alloc_new ((w2.setCell ⟨w.heap.size, 0, none⟩ c).setCell ⟨w.heap.size, 1, none⟩ d) (.cells #[] 32)
    rw [hz] at this
    exact this
  · exact (((hB.setCell (p := ⟨w.heap.size, 0, none⟩) (Nat.le_refl _) _).setCell (p := ⟨w.heap.size, 1, none⟩) (Nat.le_refl _) _)).alloc (by omega) _

set_option maxHeartbeats 2000000 in
theorem sWords_any (s : ByteArray) (w : World) (hs : s.size ≤ maxLen) :
    Calls Try.prog 13 #[.string s] w fun e w' => ∃ v, e = .returned (.tuple #[v, .agg #[.int .i64 (wordsI s).2.1, .int .i64 (wordsI s).2.2]]) ∧ Owns w' w.heap.size v (wordsI s).1 ∧ Below w.heap.size w w' := by
  unfold maxLen at hs
  by_cases h4 : 4000 < (s.size : Int)
  · have HW := mkHid (show wordsI s = ([], 1, 0) by unfold wordsI; rw [if_pos (by omega)])
    rw [HW.out]
    go_enter Try.func13, Try.ntmps13
    go_wp2
    exact bodyPost_ret (v := .tuple #[.slice (some ⟨w.heap.size + 1, 0, none⟩) 0 0, .agg #[.int .i64 1, .int .i64 0]]) (by simp [results, Try.results13, go_sem]) rfl
      ⟨_, rfl, owns_fresh (by omega) (by have := heap_alloc_new (w.alloc (.cells #[.int .i64 1, .int .i64 0] 28)) (.cells #[] 32); simpa using this), ((Below.refl _ _).alloc (Nat.le_refl _) _).alloc (by simp) _⟩
  · have HW := mkHid (show wordsI s = scanI s (skipI s 0) [] by unfold wordsI; rw [if_neg (by omega)])
    have k0 := skip_le (s := s) (Nat.zero_le _)
    obtain ⟨i0, hi, hz⟩ := Option.map_eq_some_iff.1 Try.info32
    simp only [Prod.mk.injEq] at hz
    obtain ⟨hz0, hz1, hz2⟩ := hz
    have HI := mkHid (show Try.prog.info? 32 = some i0 ∧ i0.zero = some (.agg #[.int .i64 0, .string ByteArray.empty, .int .i64 0]) ∧ i0.size = 3 ∧ i0.bytes = 32 from ⟨hi, hz0, hz1, hz2⟩)
    clear hi hz0 hz1 hz2
    go_enter Try.func13, Try.ntmps13
    go_wp2_with fail
    refine (sSkip_any s 0 _ (by omega) (Nat.zero_le _)).mono ?_
    rintro e w1 ⟨rfl, rfl⟩
    go_wp2
    go_loopw [4, 5] (fun o a w' => ∃ (p : Nat) (ws : List W3) (ao : Option Addr) (cap : Nat), a = .int .i64 p ∧ o = .slice ao ws.length cap ∧ p ≤ s.size ∧ Owns w' (w.heap.size + 1) (.slice ao ws.length cap) ws ∧ ws.length ≤ 1500 ∧ scanI s p ws = wordsI s ∧
      w'.heap[w.heap.size]? = some (.cells #[.int .i64 0, .int .i64 0] 28 (0, 0)) ∧ Below w.heap.size w w') (fun _ a _ => s.size - (intOf a).toNat)
    case atStart =>
      refine ⟨skipI s 0, [], _, 0, rfl, rfl, k0, owns_fresh (Nat.le_refl _) ?_, by simp, HW.out.symm, ?_, ((Below.refl _ _).alloc (Nat.le_refl _) _).alloc (by simp) _⟩
      · have := heap_alloc_new (w.alloc (.cells #[.int .i64 0, .int .i64 0] 28)) (.cells #[] 32)
        simpa using this
      · rw [Lib.alloc_old _ _ _ (by simp)]
        exact heap_alloc_new w _
    case round =>
      obtain ⟨p, ws, ao, cap, rfl, rfl, hps, hown, hmax, hscan, hcellN, hbel⟩ := hrel
      have HO := mkHid hown
      have HS := mkHid hscan
      have HN := mkHid hcellN
      have HB := mkHid hbel
      have hNs : w.heap.size < wr.heap.size := by
        rcases Nat.lt_or_ge w.heap.size wr.heap.size with h' | h'
        · exact h'
        · simp [Array.getElem?_eq_none h'] at hcellN
      clear hown hscan hcellN hbel HW k0
      by_cases hlt : p < s.size
      · obtain ⟨he1, he2⟩ := endI_gt hlt
        go_wp2_with fail
        refine (sEnd_any s p _ (by omega) hlt).mono ?_
        rintro e w1 ⟨rfl, hb1⟩
        have HB1 := mkHid (below_step HB.out hb1)
        have HO1 := mkHid (HO.out.below hb1)
        have HN1 := mkHid ((hb1.block _ hNs).trans HN.out)
        have hNs1 : w.heap.size < w1.heap.size := Nat.lt_of_lt_of_le hNs hb1.size
        clear hb1 HB HO HN
        go_wp2_with fail
        refine (sKind_any (s.extract p (endI s p)) _ ?hsz).mono ?_
        case hsz => unfold maxLen; simp; omega
        rintro e w2 ⟨rfl, hb2⟩
        have HB2 := mkHid (below_step HB1.out hb2)
        have HO2 := mkHid (HO1.out.below hb2)
        have HN2 := mkHid ((hb2.block _ hNs1).trans HN1.out)
        have hNs2 : w.heap.size < w2.heap.size := Nat.lt_of_lt_of_le hNs1 hb2.size
        clear hb2 HB1 HO1 HN1 hNs hNs1
        have c0 : w2.cell? ⟨w.heap.size, 0, none⟩ = some (.int .i64 0) := by rw [Lib.cell_of_heap HN2.out]; rfl
        have c1 : w2.cell? ⟨w.heap.size, 1, none⟩ = some (.int .i64 0) := by rw [Lib.cell_of_heap HN2.out]; rfl
        have f0 := Lib.frozen_of_heap HN2.out 0
        have f1 := Lib.frozen_of_heap HN2.out 1
        by_cases hk : (kindI (s.extract p (endI s p)) == 0) = true
        · have HR := mkHid (show wordsI s = ([], 2, (p : Int)) by rw [← HS.out]; exact scan_bad hlt (by simpa using hk))
          clear HO2 HS
          go_wp2
          obtain ⟨q0, q1, q2, q3⟩ := fault_end (c := .int .i64 2) (d := .int .i64 p) HN2.out hNs2 HB2.out
          exact bodyPost_ret (v := .tuple #[.slice (some ⟨w2.heap.size, 0, none⟩) 0 0, .agg #[.int .i64 2, .int .i64 p]]) (by simp [results, Try.results13, go_sem, q0, q1]) rfl ⟨_, by rw [HR.out], by rw [HR.out]; exact q2, q3⟩
        · have hk0 : kindI (s.extract p (endI s p)) ≠ 0 := by simpa using hk
          simp only [Bool.not_eq_true] at hk
          by_cases hm : ((ws.length : Int) == 1500) = true
          · have HR := mkHid (show wordsI s = ([], 3, (p : Int)) by
              rw [← HS.out]
              refine scan_many hlt hk0 ?_
              simp at hm; omega)
            clear HO2 HS
            go_wp2
            obtain ⟨q0, q1, q2, q3⟩ := fault_end (c := .int .i64 3) (d := .int .i64 p) HN2.out hNs2 HB2.out
            exact bodyPost_ret (v := .tuple #[.slice (some ⟨w2.heap.size, 0, none⟩) 0 0, .agg #[.int .i64 3, .int .i64 p]]) (by simp [results, Try.results13, go_sem, q0, q1]) rfl ⟨_, by rw [HR.out], by rw [HR.out]; exact q2, q3⟩
          · have hm0 : ws.length ≠ 1500 := by simp at hm; omega
            simp only [Bool.not_eq_true] at hm
            have HR := mkHid (scan_go hlt hk0 hm0)
            have HK0 := mkHid hk0
            clear hk0 c0 c1 f0 f1
            go_wp2_with (at_builtin; refine wpList_append_lies _ rfl _ _ 24 rfl (w.heap.size + 1) 32 i0 (.agg #[.int .i64 0, .string ByteArray.empty, .int .i64 0]) 3 32 Try.underlying24 HI.out.1 HI.out.2.1 HI.out.2.2.1 HI.out.2.2.2 rfl (by decide) _ _ _ rfl (HO2.out.alloc _) ⟨w2.heap.size, 0, none⟩ 1 1 [.int .i64 (kindI (s.extract p (endI s p))), .string (s.extract p (endI s p)), .int .i64 p] rfl rfl ?c1 ?c2 (by decide) ?c3 ?c4 ?c5 (w2.heap.size + 1) (by simp) ?_)
            case c1 => exact three_new _ _ _ _
            case c2 => intro u hu; simp at hu; rcases hu with rfl | rfl | rfl <;> rfl
            case c3 => unfold maxLen; omega
            case c4 => omega
            case c5 => simp; omega
            intro g cap' w3 hown' hgrow _ _
            have hoff := HO2.out.off (n := w.heap.size) (by omega)
            have HN3 : Hid (w3.heap[w.heap.size]? = some (.cells #[.int .i64 0, .int .i64 0] 28 (0, 0))) := by
              show _ = _
              rw [hgrow.block _ (by simp; omega) (fun e => hoff e.symm), Lib.alloc_old _ _ _ hNs2]
              exact HN2.out
            have HB3 : Hid (Below w.heap.size w w3) := (HB2.out.alloc (by omega) _).grown hgrow (by simp; omega) (fun k hk => by have := (World.ownsRow.lt HO2.out k hk).1; omega)
            have HO3 : Hid (Owns w3 (w.heap.size + 1) (.slice (some ⟨g, 0, none⟩) (ws.length + 1) cap') (ws ++ [⟨kindI (s.extract p (endI s p)), s.extract p (endI s p), p⟩])) := by
              show Owns _ _ _ _
              unfold Owns
              rw [← flat_snoc, List.length_append]
              exact hown'
            clear hown' hgrow hoff HN2 HB2 HO2
            go_wp2_with fail
            refine (sSkip_any s (endI s p) _ (by omega) he2).mono ?_
            rintro e w4 ⟨rfl, rfl⟩
            have k1 := skip_ge s (endI s p)
            have k2 := skip_le he2
            go_wp2
            go_roundw
            case rel => exact ⟨skipI s (endI s p), ws ++ [⟨kindI (s.extract p (endI s p)), s.extract p (endI s p), p⟩], _, _, rfl, by rw [List.length_append]; rfl, k2, by rw [List.length_append]; exact HO3.out, by rw [List.length_append]; simp; omega, HR.out.symm.trans HS.out, HN3.out, HB3.out⟩
            case measure => simp [intOf]; omega
      · have HR := mkHid (show wordsI s = (ws, 0, 0) by rw [← HS.out]; exact scan_end hlt)
        have c0 : wr.cell? ⟨w.heap.size, 0, none⟩ = some (.int .i64 0) := by rw [Lib.cell_of_heap HN.out]; rfl
        have c1 : wr.cell? ⟨w.heap.size, 1, none⟩ = some (.int .i64 0) := by rw [Lib.cell_of_heap HN.out]; rfl
        have f0 := Lib.frozen_of_heap HN.out 0
        have f1 := Lib.frozen_of_heap HN.out 1
        go_wp2
        have h2 := two_set (c := .int .i64 0) (d := .int .i64 0) HN.out
        have q0 : ((wr.setCell ⟨w.heap.size, 0, none⟩ (.int .i64 0)).setCell ⟨w.heap.size, 1, none⟩ (.int .i64 0)).cell? ⟨w.heap.size, 0, none⟩ = some (.int .i64 0) := by rw [Lib.cell_of_heap h2]; rfl
        have q1 : ((wr.setCell ⟨w.heap.size, 0, none⟩ (.int .i64 0)).setCell ⟨w.heap.size, 1, none⟩ (.int .i64 0)).cell? ⟨w.heap.size, 1, none⟩ = some (.int .i64 0) := by rw [Lib.cell_of_heap h2]; rfl
        exact bodyPost_ret (v := .tuple #[.slice ao ws.length cap, .agg #[.int .i64 0, .int .i64 0]]) (by simp [results, Try.results13, go_sem, q0, q1]) rfl
          ⟨_, by rw [HR.out], by rw [HR.out]; exact (((HO.out.setCell ⟨w.heap.size, 0, none⟩ _ (Nat.lt_succ_self _)).setCell ⟨w.heap.size, 1, none⟩ _ (Nat.lt_succ_self _))).mono (Nat.le_succ _),
            (HB.out.setCell (p := ⟨w.heap.size, 0, none⟩) (Nat.le_refl _) _).setCell (p := ⟨w.heap.size, 1, none⟩) (Nat.le_refl _) _⟩
end Go.Proofs.Ythaehhndfahocaa
