/-
  CONTRACT of toNode.
-/
import Derived.Test.YtpikgigfeifliaaDoorCopy
namespace Go.Proofs.YtpikgigfeifliaaDoor
open Go.RowKit

set_option maxHeartbeats 800000 in
theorem toNodeS_nil (a : Option Addr) (c : Nat) (w : World) : Calls Tryd.prog 37 #[.slice a 0 c] w fun e w' => (∃ a' c', e = .returned (.slice a' 0 c') ∧ c' ≤ maxLen) ∧ Below w.heap.size w w' := by
  obtain ⟨i0, hi, hz⟩ := Option.map_eq_some_iff.1 Tryd.info65
  simp only [Prod.mk.injEq] at hz
  obtain ⟨hz0, hz1, hz2⟩ := hz
  obtain ⟨w1, hmk, hown0, hg0⟩ := run_make_full (P := Tryd.prog) w w.heap.size 63 65 i0 _ 4 Tryd.underlying63 hi hz0 hz1 .i64 .i64 0 (by rw [hz2]; omega) (by unfold maxLen; omega) (Nat.le_refl _)
  have HG := mkHid (Below.grown (Below.refl w.heap.size w) hg0 (Nat.le_refl _) (fun k hk => by cases hk))
  clear hown0 hg0 hi hz0 hz1 hz2
  simp only [Int.natCast_zero] at hmk
  go_enter Tryd.func37, Tryd.ntmps37
  go_wp2
  go_loopw [4] (fun i w' => i = .int .i64 0 ∧ Below w.heap.size w w') (fun i _ => 0)
  case atStart => exact ⟨rfl, HG.out⟩
  case round =>
    obtain ⟨rfl, hb⟩ := hrel
    have HB := mkHid hb
    clear hb HG hmk
    go_wp2
    go_ret
    exact ⟨⟨_, _, rfl, Nat.zero_le _⟩, HB.out⟩

theorem toNodeS_kids (kk : List T) (IH : ∀ t ∈ kk, ToOk t) (a : Option Addr) (c : Nat) (w : World) (hn : kk.length + bulks kk ≤ 1048576) (hl : Kids w 0 a kk) :
    Calls Tryd.prog 37 #[.slice a kk.length c] w fun e w' => (∃ a' c', e = .returned (.slice a' kk.length c') ∧ Kids0 w' w.heap.size a' kk ∧ kk.length ≤ c' ∧ c' ≤ maxLen) ∧ Below w.heap.size w w' := by
  rcases hl with rfl | ⟨b, o, rfl, _, hl⟩
  · refine (toNodeS_nil a c w).mono ?_
    rintro e w' ⟨⟨a', c', rfl, hc⟩, hb⟩
    exact ⟨⟨a', c', rfl, .inl rfl, Nat.zero_le _, hc⟩, hb⟩
  · exact toNodeS_of kk IH b o c w hn hl

set_option maxHeartbeats 800000 in
theorem toNode_ok (t : T) : ToOk t := by
  refine T.induct ?_ t
  intro k s m kk IH a c w hn hk
  have HN := mkHid (show kk.length + bulks kk ≤ 1048576 by rw [bulk_node] at hn; omega)
  have HI := mkHid IH
  have HK := mkHid hk
  clear hn IH hk
  go_enter Tryd.func31, Tryd.ntmps31
  go_wp2_with fail
  refine (toNodeS_kids kk HI.out a c _ HN.out (HK.out.below ((((Below.refl w.heap.size w).alloc (Nat.le_refl _) _).alloc (by simp) _).alloc (by simp; omega) _))).mono ?_
  rintro e w1 ⟨⟨a', c', rfl, hk', hcap⟩, hb1⟩
  have HCP := mkHid hcap
  clear hcap
  obtain ⟨hc, hf⟩ := bcell hb1
  have HK' := mkHid (hk'.lower (lo' := w.heap.size + 3) (by simp))
  have HB := mkHid (below_step ((((Below.refl w.heap.size w).alloc (Nat.le_refl _) _).alloc (by simp) _).alloc (by simp; omega) _) hb1)
  clear hk' hb1
  have c0 := (hc (w.heap.size + 1 + 1) 0 (by simp)).trans (show _ = some (Value.int .i64 k) by simp [go_sem])
  have c1 := (hc (w.heap.size + 1 + 1) 1 (by simp)).trans (show _ = some (Value.string s) by simp [go_sem])
  have c2 := (hc (w.heap.size + 1 + 1) 2 (by simp)).trans (show _ = some (Value.int .i64 m) by simp [go_sem])
  have c3 := (hc (w.heap.size + 1 + 1) 3 (by simp)).trans (show _ = some (Value.slice none 0 0) by simp [go_sem])
  have f3 := (hf (w.heap.size + 1 + 1) 3 (by simp)).trans (show _ = false by simp [go_sem])
  have d0 := (hc (w.heap.size + 1) 0 (by simp)).trans (show _ = some (Value.int .i64 0) by simp [go_sem])
  have g0 := (hf (w.heap.size + 1) 0 (by simp)).trans (show _ = false by simp [go_sem])
  have d1 := (hc (w.heap.size + 1) 1 (by simp)).trans (show _ = some (Value.string ⟨#[]⟩) by simp [go_sem])
  have g1 := (hf (w.heap.size + 1) 1 (by simp)).trans (show _ = false by simp [go_sem])
  have d2 := (hc (w.heap.size + 1) 2 (by simp)).trans (show _ = some (Value.int .i64 0) by simp [go_sem])
  have g2 := (hf (w.heap.size + 1) 2 (by simp)).trans (show _ = false by simp [go_sem])
  have d3 := (hc (w.heap.size + 1) 3 (by simp)).trans (show _ = some (Value.slice none 0 0) by simp [go_sem])
  have g3 := (hf (w.heap.size + 1) 3 (by simp)).trans (show _ = false by simp [go_sem])
  clear hc hf
  go_wp2
  refine bodyPost_ret (v := .agg #[.int .i64 k, .string s, .int .i64 m, .slice a' kk.length c']) (by simp [results, Tryd.results31, go_sem, d0, d1, d2, d3]) rfl ⟨⟨a', c', rfl, ?_, HCP.out⟩, ?_⟩
  · refine (HK'.out.stay fun b o hb _ => ⟨?_, by simp⟩).lower (by omega)
    rw [World.cell?_setCell_far _ _ _ _ (by simp; omega), World.cell?_setCell_far _ _ _ _ (by simp; omega), World.cell?_setCell_far _ _ _ _ (by simp; omega), World.cell?_setCell_far _ _ _ _ (by simp; omega), World.cell?_setCell_far _ _ _ _ (by simp; omega)]
  · exact ((((HB.out.setCell (p := ⟨w.heap.size + 1 + 1, 3, none⟩) (by simp; omega) _).setCell (p := ⟨w.heap.size + 1, 0, none⟩) (by simp) _).setCell (p := ⟨w.heap.size + 1, 1, none⟩) (by simp) _).setCell (p := ⟨w.heap.size + 1, 2, none⟩) (by simp) _).setCell (p := ⟨w.heap.size + 1, 3, none⟩) (by simp) _
end Go.Proofs.YtpikgigfeifliaaDoor
