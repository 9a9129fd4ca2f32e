/-
  CONTRACT of the program's Words, the walk.
-/
import Derived.Test.YthaehhndfahocaaIwds
namespace Go.Proofs.Ythaehhndfahocaa
open Go.RowKit
open Pl

theorem owns_nil (w : World) (base : Nat) : Owns w base (.slice none 0 0) [] := World.ownsRow_nil _ _ _ _
/-- What a call that answers a fault and no words leaves. -/
theorem fault_nil {w w2 : World} {c d : Value} (hN : w2.heap[w.heap.size]? = some (.cells #[.int .i64 0, .int .i64 0] 28 (0, 0))) (hB : Below w.heap.size w w2) :
    ((w2.setCell ⟨w.heap.size, 0, none⟩ c).setCell ⟨w.heap.size, 1, none⟩ d).cell? ⟨w.heap.size, 0, none⟩ = some c ∧ ((w2.setCell ⟨w.heap.size, 0, none⟩ c).setCell ⟨w.heap.size, 1, none⟩ d).cell? ⟨w.heap.size, 1, none⟩ = some d ∧
    Below w.heap.size w ((w2.setCell ⟨w.heap.size, 0, none⟩ c).setCell ⟨w.heap.size, 1, none⟩ d) := by
  have h2 := two_set (c := c) (d := d) hN
  exact ⟨by rw [Lib.cell_of_heap h2]; rfl, by rw [Lib.cell_of_heap h2]; rfl, (hB.setCell (p := ⟨w.heap.size, 0, none⟩) (Nat.le_refl _) _).setCell (p := ⟨w.heap.size, 1, none⟩) (Nat.le_refl _) _⟩
theorem St.cells {w w' : World} {s : ByteArray} {pos : Nat} {v : Value} {ws : List W3} (h : St w s w' pos v ws) : w'.cell? ⟨w.heap.size, 0, none⟩ = some (.int .i64 0) ∧ w'.cell? ⟨w.heap.size, 1, none⟩ = some (.int .i64 0) ∧ w'.frozen? ⟨w.heap.size, 0, none⟩ = false ∧ w'.frozen? ⟨w.heap.size, 1, none⟩ = false := by
  have hN := h.2.1
  exact ⟨by rw [Lib.cell_of_heap hN]; rfl, by rw [Lib.cell_of_heap hN]; rfl, Lib.frozen_of_heap hN 0, Lib.frozen_of_heap hN 1⟩

theorem ext_le (t : ByteArray) (a b : Nat) : (t.extract a b).size ≤ t.size := by
  rw [Lib.size_eq, Lib.extract_data, Lib.size_eq]
  simp only [List.length_take, List.length_drop]
  omega
theorem found_size (t : ByteArray) : (foundT t).size ≤ t.size := by
  unfold foundT signT
  split
  · exact ext_le _ _ _
  · split
    · exact ext_le _ _ _
    · split
      · exact ext_le _ _ _
      · exact Nat.zero_le _

set_option maxHeartbeats 2000000 in
theorem iWords_any (s : ByteArray) (w : World) (hs : s.size ≤ maxLen) :
    Calls Try.prog 11 #[.string s] w fun e w' => ∃ v, e = .returned (.tuple #[v, .agg #[.int .i64 (wordsI s).2.1, .int .i64 (wordsI s).2.2]]) ∧ Owns w' w.heap.size v (wordsI s).1 ∧ Below w.heap.size w w' := by
  unfold maxLen at hs
  by_cases h4 : 4000 < (s.size : Int)
  · have HW := mkHid (show wordsI s = ([], 1, 0) by unfold wordsI; rw [if_pos (by omega)])
    rw [HW.out]
    go_enter Try.func11, Try.ntmps11
    go_wp2
    exact bodyPost_ret (v := .tuple #[.slice none 0 0, .agg #[.int .i64 1, .int .i64 0]]) (by simp [results, Try.results11, go_sem]) rfl
      ⟨_, rfl, owns_nil _ _, (Below.refl _ _).alloc (Nat.le_refl _) _⟩
  · have HW := mkHid (show wordsI s = scanI s (skipI s 0) [] by unfold wordsI; rw [if_neg (by omega)])
    obtain ⟨i0, hi, hz⟩ := Option.map_eq_some_iff.1 Try.info32
    simp only [Prod.mk.injEq] at hz
    obtain ⟨hz0, hz1, hz2⟩ := hz
    have HI := mkHid (show Try.prog.info? 32 = some i0 ∧ i0.zero = some (.agg #[.int .i64 0, .string ByteArray.empty, .int .i64 0]) ∧ i0.size = 3 ∧ i0.bytes = 32 from ⟨hi, hz0, hz1, hz2⟩)
    clear hi hz0 hz1 hz2
    go_enter Try.func11, Try.ntmps11
    go_wp2
    go_loopw [4, 5] (fun o dn w' => ∃ (pos done : Nat) (ws : List W3) (ao : Option Addr) (cap : Nat), dn = .int .i64 done ∧ o = .slice ao ws.length cap ∧ St w s w' pos (.slice ao ws.length cap) ws ∧ Inv s pos done ws) (fun _ _ w' => s.size - w'.iterPos (w.heap.size + 1))
    case atStart =>
      refine ⟨0, 0, [], none, 0, rfl, rfl, ⟨owns_nil _ _, ?_, ?_, ((Below.refl _ _).alloc (Nat.le_refl _) _).alloc (by simp) _⟩, Nat.zero_le _, Nat.zero_le _, fun h => by omega, by simp, HW.out.symm⟩
      · show ((w.alloc _).alloc _).heap[_]? = _
        rw [Lib.alloc_old _ _ _ (by simp)]
        exact heap_alloc_new w _
      · have := heap_alloc_new (w.alloc (.cells #[.int .i64 0, .int .i64 0] 28)) (.stringIter s 0)
        rw [show (w.alloc (.cells #[.int .i64 0, .int .i64 0] 28)).heap.size = w.heap.size + 1 by simp] at this
        exact this
    case round =>
      obtain ⟨pos, done, ws, ao, cap, rfl, rfl, hst, hinv⟩ := hrel
      have HT := mkHid hst
      have HV := mkHid hinv
      have hps := hinv.1
      have hds := hinv.2.1
      have hwl := hinv.2.2.2.1
      clear hst hinv HW
      by_cases hp : pos < s.size
      · obtain ⟨r, d, hnx, hd1, hdz, hr1, hr2, hcont⟩ := next_at (P := Try.prog) wr (w.heap.size + 1) s pos HT.out.2.2.1 hp
        have HT1 := mkHid (HT.out.iter (pos + d))
        have hip : (wr.iterPos (w.heap.size + 1)) = pos := by simp [World.iterPos, HT.out.2.2.1]
        by_cases hin : (pos : Int) < (done : Int)
        · have HV1 := mkHid (inv_in HV.out (by omega) hd1 hdz (fun h => (hr1 h).2) hcont)
          have hip1 : (wr.iterAt (w.heap.size + 1) s (pos + d)).iterPos (w.heap.size + 1) = pos + d := by simp [World.iterPos, HT1.out.2.2.1]
          have HP := mkHid hip
          have HP1 := mkHid hip1
          clear hr1 hr2 hcont HT HV hip hip1
          go_wp2
          go_roundw
          case rel => exact ⟨pos + d, done, ws, ao, cap, rfl, rfl, HT1.out, HV1.out⟩
          case measure => rw [HP.out, HP1.out]; omega
        · have hip1 : (wr.iterAt (w.heap.size + 1) s (pos + d)).iterPos (w.heap.size + 1) = pos + d := by simp [World.iterPos, HT1.out.2.2.1]
          have HP := mkHid hip
          have HP1 := mkHid hip1
          have HC := mkHid hr1
          have HD := mkHid hr2
          clear hr1 hr2 hcont HT hip hip1
          by_cases hbl : blkI r = true
          · have hb : blankB s pos = true ∧ d = 1 := by
              have hlt : byt s pos < 128 := by
                by_cases q : byt s pos < 128
                · exact q
                · have := HD.out (by omega)
                  unfold blkI at hbl; simp at hbl; omega
              obtain ⟨e1, e2⟩ := HC.out hlt
              refine ⟨?_, e2⟩
              unfold blankB; rw [← e1]; exact hbl
            obtain ⟨hb, hd⟩ := hb
            subst hd
            have HV1 := mkHid (inv_blank HV.out (by omega) hp hb)
            clear hb HV
            go_wp2_with (go_at_call 33; refine (isBlank_any _ _).mono ?_; rintro e w' ⟨rfl, rfl⟩)
            go_roundw
            case rel => exact ⟨pos + 1, done, ws, ao, cap, rfl, rfl, HT1.out, HV1.out⟩
            case measure => rw [HP.out, HP1.out]; omega
          · simp only [Bool.not_eq_true] at hbl
            have HNB : Hid (blankB s pos = false) := by
              show _ = _
              by_cases q : byt s pos < 128
              · obtain ⟨e1, _⟩ := HC.out q
                unfold blankB; rw [← e1]; exact hbl
              · unfold blankB; simp; omega
            by_cases h35 : ((r : Int) == 35) = true
            · have hb : byt s pos = 35 ∧ d = 1 := by
                have hlt : byt s pos < 128 := by
                  by_cases q : byt s pos < 128
                  · exact q
                  · have := HD.out (by omega)
                    simp at h35; omega
                obtain ⟨e1, e2⟩ := HC.out hlt
                refine ⟨?_, e2⟩
                rw [← e1]; simpa using h35
              obtain ⟨hb, hd⟩ := hb
              subst hd
              have HV1 := mkHid (inv_note HV.out (by omega) hp hb)
              have HE : Hid (pos + noteE (s.extract pos s.size) 0 = noteE s pos) := noteE_rest (by omega)
              have hnl : noteE s pos ≤ s.size := noteE_le hps
              have hnn : pos + noteE (s.extract pos s.size) 0 ≤ s.size := by have := HE.out; omega
              clear hb HV
              go_wp2_with (first | (go_at_call 33; refine (isBlank_any _ _).mono ?_; rintro e w' ⟨rfl, rfl⟩) | (go_at_call 34; refine (noteSize_any _ _).mono ?_; rintro e w' ⟨rfl, rfl⟩))
              go_roundw
              case rel => exact ⟨pos + 1, noteE s pos, ws, ao, cap, by rw [← HE.out]; go_num, rfl, HT1.out, HV1.out⟩
              case measure => rw [HP.out, HP1.out]; omega
            · simp only [Bool.not_eq_true] at h35
              have HN5 : Hid (byt s pos ≠ 35) := by
                show _ ≠ _
                intro e
                obtain ⟨e1, _⟩ := HC.out (by omega)
                rw [e1, e] at h35
                simp at h35
              have HS := mkHid (inv_at HV.out (by omega) hp HNB.out HN5.out)
              clear HNB HN5 HD
              have hrz : 1 ≤ (s.extract pos s.size).size ∧ (s.extract pos s.size).size ≤ 4000 := by
                have : (s.extract pos s.size).size = s.size - pos := rest_size
                omega
              go_wp2_with (first | (go_at_call 33; refine (isBlank_any _ _).mono ?_; rintro e w' ⟨rfl, rfl⟩) | fail)
              obtain ⟨f, hf⟩ : ∃ f, f = foundT (s.extract pos s.size) := ⟨_, rfl⟩
              have hfz : f.size ≤ 4000 := by rw [hf]; exact Nat.le_trans (found_size _) hrz.2
              have HF := mkHid hf
              have hcall := longestWord_any (s.extract pos s.size) (wr.iterAt (w.heap.size + 1) s (pos + d)) hrz.2 hrz.1
              rw [← hf] at hcall
              clear hf
              refine hcall.mono ?_
              rintro e w1 ⟨rfl, hb1⟩
              have HT2 := mkHid (HT1.out.below hb1)
              clear hb1 HT1 HP1 hrz hcall
              go_wp2_with fail
              refine (kindOf_any f _ (by unfold maxLen; omega)).mono ?_
              rintro e w2 ⟨rfl, hb2⟩
              have HT3 := mkHid (HT2.out.below hb2)
              clear hb2 HT2
              obtain ⟨c0, c1, f0, f1⟩ := HT3.out.cells
              by_cases hk : kindI (s.extract pos (endI s pos)) = 0
              · have hk0 : (kindI f == 0) = true := by
                  have : kindI f = 0 := by rw [HF.out]; exact found_no hp hk
                  simpa using this
                have HR := mkHid (show wordsI s = ([], 2, (pos : Int)) by rw [← HS.out]; exact scan_bad hp hk)
                clear hk HS HF HV HC
                go_wp2
                obtain ⟨q0, q1, q2⟩ := fault_nil (c := .int .i64 2) (d := .int .i64 pos) HT3.out.2.1 HT3.out.2.2.2
                exact bodyPost_ret (v := .tuple #[.slice none 0 0, .agg #[.int .i64 2, .int .i64 pos]]) (by simp [results, Try.results11, go_sem, q0, q1]) rfl ⟨_, by rw [HR.out], by rw [HR.out]; exact owns_nil _ _, q2⟩
              · obtain ⟨y1, y2⟩ := found_yes hp hk
                have hfe : f = s.extract pos (endI s pos) := HF.out.trans y1
                have hk0 : (kindI f == 0) = false := by
                  rw [hfe]; simpa using hk
                by_cases hm : ((ws.length : Int) == 1500) = true
                · have HR := mkHid (show wordsI s = ([], 3, (pos : Int)) by
                    rw [← HS.out]
                    refine scan_many hp hk ?_
                    simp at hm; omega)
                  clear hk HS HF HV HC y1 y2 hfe
                  go_wp2
                  obtain ⟨q0, q1, q2⟩ := fault_nil (c := .int .i64 3) (d := .int .i64 pos) HT3.out.2.1 HT3.out.2.2.2
                  exact bodyPost_ret (v := .tuple #[.slice none 0 0, .agg #[.int .i64 3, .int .i64 pos]]) (by simp [results, Try.results11, go_sem, q0, q1]) rfl ⟨_, by rw [HR.out], by rw [HR.out]; exact owns_nil _ _, q2⟩
                · have hm0 : ws.length ≠ 1500 := by simp at hm; omega
                  simp only [Bool.not_eq_true] at hm
                  have HV1 := mkHid (inv_word HV.out HS.out hp hk hm0)
                  obtain ⟨he1, he2⟩ := endI_gt hp
                  have hd : d = 1 := (HC.out (y2 pos (Nat.le_refl _) he1)).2
                  subst hd
                  have hfs : f.size = endI s pos - pos := by rw [hfe]; exact size_ext s pos _ he2
                  have HFE := mkHid hfe
                  have HFS := mkHid hfs
                  clear hk HS HF HV HC y1 y2 hfe hfs c0 c1 f0 f1
                  go_wp2_with fail
                  refine (clone_any f _ hfz).mono ?_
                  rintro e w3 ⟨rfl, hb3⟩
                  have HT4 := mkHid (HT3.out.below hb3)
                  clear hb3 HT3
                  have hsz4 : w.heap.size + 2 ≤ w3.heap.size := HT4.out.lt
                  go_wp2_with (at_builtin; refine wpList_append_lies _ rfl _ _ 24 rfl (w.heap.size + 2) 32 i0 (.agg #[.int .i64 0, .string ByteArray.empty, .int .i64 0]) 3 32 Try.underlying24 HI.out.1 HI.out.2.1 HI.out.2.2.1 HI.out.2.2.2 rfl (by decide) _ _ _ rfl (HT4.out.1.alloc _) ⟨w3.heap.size, 0, none⟩ 1 1 [.int .i64 (kindI f), .string f, .int .i64 pos] rfl rfl ?c1 ?c2 (by decide) ?c3 ?c4 ?c5 (w3.heap.size + 1) (by simp) ?_)
                  case c1 => exact three_new _ _ _ _
                  case c2 => intro u hu; simp at hu; rcases hu with rfl | rfl | rfl <;> rfl
                  case c3 => unfold maxLen; omega
                  case c4 => omega
                  case c5 => simp; omega
                  intro g cap' w4 hown' hgrow _ _
                  have HT5 : Hid (St w s w4 (pos + 1) (.slice (some ⟨g, 0, none⟩) (ws.length + 1) cap') (ws ++ [⟨kindI f, f, pos⟩])) := by
                    refine HT4.out.grow hgrow ?_
                    unfold Owns
                    rw [← flat_snoc, List.length_append]
                    exact hown'
                  have HP2 : Hid (w4.iterPos (w.heap.size + 1) = pos + 1) := by
                    show _ = _
                    simp [World.iterPos, HT5.out.2.2.1]
                  clear hown' hgrow HT4
                  go_wp2
                  go_roundw
                  case rel =>
                    refine ⟨pos + 1, endI s pos, ws ++ [⟨kindI f, f, pos⟩], _, _, ?_, by rw [List.length_append]; rfl, by rw [List.length_append]; exact HT5.out, ?_⟩
                    · have := HFS.out
                      congr 1
                      omega
                    · rw [HFE.out]; exact HV1.out
                  case measure => rw [HP.out, HP2.out]; omega
      · have hnx : ∀ ty, (Instr.next (.pointer (some ⟨w.heap.size + 1, 0, none⟩)) true ty).run Try.prog wr = _ := fun ty => Lib.run_next_end_at wr (w.heap.size + 1) s pos ty HT.out.2.2.1 hp
        have HR := mkHid (inv_end HV.out hp)
        obtain ⟨c0, c1, f0, f1⟩ := HT.out.cells
        go_wp2
        obtain ⟨q0, q1, q2⟩ := fault_nil (c := .int .i64 0) (d := .int .i64 0) HT.out.2.1 HT.out.2.2.2
        exact bodyPost_ret (v := .tuple #[.slice ao ws.length cap, .agg #[.int .i64 0, .int .i64 0]]) (by simp [results, Try.results11, go_sem, q0, q1]) rfl
          ⟨_, by rw [HR.out], by rw [HR.out]; exact (((HT.out.1.setCell ⟨w.heap.size, 0, none⟩ _ (show w.heap.size < w.heap.size + 2 by omega)).setCell ⟨w.heap.size, 1, none⟩ _ (show w.heap.size < w.heap.size + 2 by omega))).mono (by omega), q2⟩
end Go.Proofs.Ythaehhndfahocaa
