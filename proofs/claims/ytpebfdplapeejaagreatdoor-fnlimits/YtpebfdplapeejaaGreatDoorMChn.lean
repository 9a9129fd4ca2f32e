/-
  CONTRACT of the program's Words.
  CONTRACT of the program's Words, the walk.
  CONTRACTS of the law's markText, markWordS, heldWordS, eqFault, and of eqWordS at slices of our own.
  PLAIN FACTS on the words of a text.
  PLAIN FACTS: a text that is put together of words and blanks is read as those words.
-/
import Derived.Test.YtpebfdplapeejaaGreatDoorMMeet
namespace Go.Proofs.YtpebfdplapeejaaGreatDoor
open Go.RowKit
open Pl

theorem next_at {P : Program} (w : World) (k : Nat) (s : ByteArray) (pos : Nat) (hk : w.heap[k]? = some (.stringIter s pos)) (h : pos < s.size) : ∃ r d : Nat,
    (∀ ty, (Instr.next (.pointer (some ⟨k, 0, none⟩)) true ty).run P w = .ok (.tuple #[.bool true, .int .i64 pos, .int .i32 r]) (w.iterAt k s (pos + d))) ∧ 1 ≤ d ∧ pos + d ≤ s.size ∧
    (byt s pos < 128 → (r : Int) = byt s pos ∧ d = 1) ∧ (128 ≤ byt s pos → 128 ≤ r) ∧ (∀ j, 1 ≤ j → j < d → pos + j < s.size ∧ 128 ≤ byt s (pos + j)) := by
  have hb := byt_eq s pos h
  have hc := decode_cont s pos
  have hw : ∀ d, 1 ≤ d → (∀ j, 1 ≤ j → j < d → pos + j < s.size ∧ 128 ≤ byt s (pos + j)) → pos + d ≤ s.size := fun d h1 h2 => by
    by_cases e : d = 1
    · omega
    · have := (h2 (d - 1) (by omega) (by omega)).1
      omega
  by_cases ha : (s[pos]'h).toNat < 128
  · have e := decode_ascii s pos h ha
    rw [e] at hc
    exact ⟨(s[pos]'h).toNat, 1, fun ty => Lib.run_next_ascii_at w k s pos ty hk h ha, Nat.le_refl _, by omega, fun _ => ⟨hb.symm, rfl⟩, fun h1 => by omega, hc⟩
  · have hd := decode_high s pos h (by omega)
    exact ⟨(Utf8.decode s pos).1, (Utf8.decode s pos).2, fun ty => Lib.run_next_any_at w k s pos ty hk h, hd.2, hw _ hd.2 hc, fun h1 => by omega, fun _ => hd.1, hc⟩

/-- Where the program stands: pos, done, the words so far. -/
def Inv (s : ByteArray) (pos done : Nat) (ws : List W3) : Prop := pos ≤ s.size ∧ done ≤ s.size ∧ (pos < done → (∀ j, pos ≤ j → j < done → byt s j < 128) ∨ done = s.size ∨ byt s done = 10) ∧ ws.length ≤ 1500 ∧ scanI s (skipI s (max done pos)) ws = wordsI s

theorem inv_in {s : ByteArray} {pos done d : Nat} {ws : List W3} (h : Inv s pos done ws) (hlt : pos < done) (h1 : 1 ≤ d) (hz : pos + d ≤ s.size) (ha : byt s pos < 128 → d = 1) (hc : ∀ j, 1 ≤ j → j < d → pos + j < s.size ∧ 128 ≤ byt s (pos + j)) : Inv s (pos + d) done ws := by
  obtain ⟨a, b, c, e, f⟩ := h
  have hle : pos + d ≤ done := by
    rcases c hlt with c1 | c1 | c1
    · have := ha (c1 pos (Nat.le_refl _) hlt)
      omega
    · omega
    · by_cases q : pos + d ≤ done
      · exact q
      · have := (hc (done - pos) (by omega) (by omega)).2
        rw [show pos + (done - pos) = done by omega] at this
        omega
  refine ⟨hz, b, fun h2 => ?_, e, ?_⟩
  · rcases c hlt with c1 | c1
    · exact .inl fun j h3 h4 => c1 j (by omega) h4
    · exact .inr c1
  · rw [show max done (pos + d) = done by omega]
    rw [show max done pos = done by omega] at f
    exact f
theorem inv_blank {s : ByteArray} {pos done : Nat} {ws : List W3} (h : Inv s pos done ws) (hlt : ¬ pos < done) (hp : pos < s.size) (hb : blankB s pos = true) : Inv s (pos + 1) done ws := by
  obtain ⟨a, b, c, e, f⟩ := h
  refine ⟨by omega, b, fun h2 => by omega, e, ?_⟩
  rw [show max done (pos + 1) = pos + 1 by omega, ← skip_blank hp hb]
  rw [show max done pos = pos by omega] at f
  exact f
theorem inv_note {s : ByteArray} {pos done : Nat} {ws : List W3} (h : Inv s pos done ws) (hlt : ¬ pos < done) (hp : pos < s.size) (h35 : byt s pos = 35) : Inv s (pos + 1) (noteE s pos) ws := by
  obtain ⟨a, b, c, e, f⟩ := h
  have hg := noteE_gt hp h35
  obtain ⟨_, n2, _, n4⟩ := first_is (fun j => byt s j == 10) s.size pos (by omega)
  refine ⟨by omega, n2, fun h2 => .inr ?_, e, ?_⟩
  · rcases n4 with n4 | n4
    · exact .inl n4
    · exact .inr (by have n5 : (byt s (noteE s pos) == 10) = true := n4
                     simpa using n5)
  · rw [show max (noteE s pos) (pos + 1) = noteE s pos by omega, ← skip_note hp h35]
    rw [show max done pos = pos by omega] at f
    exact f
theorem inv_at {s : ByteArray} {pos done : Nat} {ws : List W3} (h : Inv s pos done ws) (hlt : ¬ pos < done) (hp : pos < s.size) (hb : blankB s pos = false) (h35 : byt s pos ≠ 35) : scanI s pos ws = wordsI s := by
  obtain ⟨a, b, c, e, f⟩ := h
  rw [show max done pos = pos by omega, skip_stop hp hb h35] at f
  exact f
theorem inv_word {s : ByteArray} {pos done : Nat} {ws : List W3} (h : Inv s pos done ws) (hs : scanI s pos ws = wordsI s) (hp : pos < s.size) (hk : kindI (s.extract pos (endI s pos)) ≠ 0) (hm : ws.length ≠ 1500) :
    Inv s (pos + 1) (endI s pos) (ws ++ [⟨kindI (s.extract pos (endI s pos)), s.extract pos (endI s pos), pos⟩]) := by
  obtain ⟨a, b, c, e, f⟩ := h
  obtain ⟨g1, g2⟩ := endI_gt hp
  obtain ⟨_, y⟩ := found_yes hp hk
  refine ⟨by omega, g2, fun _ => .inl fun j h1 h2 => y j (by omega) h2, by rw [List.length_append]; simp; omega, ?_⟩
  rw [show max (endI s pos) (pos + 1) = endI s pos by omega, ← scan_go hp hk hm]
  exact hs
theorem inv_end {s : ByteArray} {pos done : Nat} {ws : List W3} (h : Inv s pos done ws) (hp : ¬ pos < s.size) : wordsI s = (ws, 0, 0) := by
  obtain ⟨a, b, c, e, f⟩ := h
  rw [← f, skip_end (by omega)]
  exact scan_end (by omega)

/-- What lies in memory while the program reads words: the fault's variable, the iterator, the words so far. -/
def St (w : World) (s : ByteArray) (w' : World) (pos : Nat) (v : Value) (ws : List W3) : Prop :=
  Owns w' (w.heap.size + 2) v ws ∧ w'.heap[w.heap.size]? = some (.cells #[.int .i64 0, .int .i64 0] 27 (0, 0)) ∧ w'.heap[w.heap.size + 1]? = some (.stringIter s pos) ∧ Below w.heap.size w w'
theorem St.lt {w w' : World} {s : ByteArray} {pos : Nat} {v : Value} {ws : List W3} (h : St w s w' pos v ws) : w.heap.size + 1 < w'.heap.size := by
  have := h.2.2.1
  rcases Nat.lt_or_ge (w.heap.size + 1) w'.heap.size with h' | h'
  · exact h'
  · simp [Array.getElem?_eq_none h'] at this
theorem St.iter {w w' : World} {s : ByteArray} {pos : Nat} {v : Value} {ws : List W3} (h : St w s w' pos v ws) (q : Nat) : St w s (w'.iterAt (w.heap.size + 1) s q) q v ws := by
  obtain ⟨a, b, c, d⟩ := h
  refine ⟨?_, (Lib.iterAt_other _ _ _ _ _ (by omega)).trans b, Lib.iterAt_heap _ _ _ _ _ c, Lib.below_iterAt d (by omega) _ _⟩
  refine World.ownsRow.kept (row := some (w.heap.size + 1)) a ⟨rfl, rfl, rfl, by rw [Lib.iterAt_size]; exact Nat.le_refl _, fun k _ hk => Lib.iterAt_other _ _ _ _ _ (fun e => hk (by rw [e]))⟩ (.inr (a.off (by omega)))
theorem St.below {w w' w2 : World} {s : ByteArray} {pos : Nat} {v : Value} {ws : List W3} (h : St w s w' pos v ws) (hb : Below w'.heap.size w' w2) : St w s w2 pos v ws := by
  have hl := h.lt
  obtain ⟨a, b, c, d⟩ := h
  exact ⟨a.below hb, (hb.block _ (by omega)).trans b, (hb.block _ hl).trans c, below_step d hb⟩
theorem St.grow {w w' w2 : World} {s : ByteArray} {pos : Nat} {v v2 : Value} {ws ws2 : List W3} {o : Obj} (h : St w s w' pos v ws) (hg : (w'.alloc o).grownBy w2 v.ownBlock) (ho : Owns w2 (w.heap.size + 2) v2 ws2) : St w s w2 pos v2 ws2 := by
  have hl := h.lt
  obtain ⟨a, b, c, d⟩ := h
  have o1 := a.off (n := w.heap.size) (by omega)
  have o2 := a.off (n := w.heap.size + 1) (by omega)
  refine ⟨ho, ?_, ?_, (d.alloc (by omega) o).grown hg (by simp; omega) (fun k hk => by have := (World.ownsRow.lt a k hk).1; omega)⟩
  · rw [hg.block _ (by simp; omega) (fun e => o1 e.symm), Lib.alloc_old _ _ _ (by omega)]; exact b
  · rw [hg.block _ (by simp; omega) (fun e => o2 e.symm), Lib.alloc_old _ _ _ hl]; exact c
end Go.Proofs.YtpebfdplapeejaaGreatDoor
namespace Go.Proofs.YtpebfdplapeejaaGreatDoor
open Go.RowKit
open Pl

theorem owns_nil (w : World) (base : Nat) : Owns w base (.slice none 0 0) [] := World.ownsRow_nil _ _ _ _
/-- What a call that answers a fault and no words leaves. -/
theorem fault_nil {w w2 : World} {c d : Value} (hN : w2.heap[w.heap.size]? = some (.cells #[.int .i64 0, .int .i64 0] 27 (0, 0))) (hB : Below w.heap.size w w2) :
    ((w2.setCell ⟨w.heap.size, 0, none⟩ c).setCell ⟨w.heap.size, 1, none⟩ d).cell? ⟨w.heap.size, 0, none⟩ = some c ∧ ((w2.setCell ⟨w.heap.size, 0, none⟩ c).setCell ⟨w.heap.size, 1, none⟩ d).cell? ⟨w.heap.size, 1, none⟩ = some d ∧
    Below w.heap.size w ((w2.setCell ⟨w.heap.size, 0, none⟩ c).setCell ⟨w.heap.size, 1, none⟩ d) := by
  have h2 := two_set (c := c) (d := d) hN
  exact ⟨by rw [Lib.cell_of_heap h2]; rfl, by rw [Lib.cell_of_heap h2]; rfl, (hB.setCell (p := ⟨w.heap.size, 0, none⟩) (Nat.le_refl _) _).setCell (p := ⟨w.heap.size, 1, none⟩) (Nat.le_refl _) _⟩
theorem St.cells {w w' : World} {s : ByteArray} {pos : Nat} {v : Value} {ws : List W3} (h : St w s w' pos v ws) : w'.cell? ⟨w.heap.size, 0, none⟩ = some (.int .i64 0) ∧ w'.cell? ⟨w.heap.size, 1, none⟩ = some (.int .i64 0) ∧ w'.frozen? ⟨w.heap.size, 0, none⟩ = false ∧ w'.frozen? ⟨w.heap.size, 1, none⟩ = false := by
  have hN := h.2.1
  exact ⟨by rw [Lib.cell_of_heap hN]; rfl, by rw [Lib.cell_of_heap hN]; rfl, Lib.frozen_of_heap hN 0, Lib.frozen_of_heap hN 1⟩

theorem ext_le (t : ByteArray) (a b : Nat) : (t.extract a b).size ≤ t.size := by
  rw [Lib.size_eq, Lib.extract_data, Lib.size_eq]
  simp only [List.length_take, List.length_drop]
  omega
theorem found_size (t : ByteArray) : (foundT t).size ≤ t.size := by
  unfold foundT signT
  split
  · exact ext_le _ _ _
  · split
    · exact ext_le _ _ _
    · split
      · exact ext_le _ _ _
      · exact Nat.zero_le _

set_option maxRecDepth 100000 in
set_option maxHeartbeats 2000000 in
theorem iWords_any (s : ByteArray) (w : World) (hs : s.size ≤ maxLen) :
    Calls Tryz.prog 6 #[.string s] w fun e w' => ∃ v, e = .returned (.tuple #[v, .agg #[.int .i64 (wordsI s).2.1, .int .i64 (wordsI s).2.2]]) ∧ Owns w' w.heap.size v (wordsI s).1 ∧ Below w.heap.size w w' := by
  unfold maxLen at hs
  by_cases h4 : 4000 < (s.size : Int)
  · have HW := mkHid (show wordsI s = ([], 1, 0) by unfold wordsI; rw [if_pos (by omega)])
    rw [HW.out]
    go_enter Tryz.func6, Tryz.ntmps6
    go_wp2
    exact bodyPost_ret (v := .tuple #[.slice none 0 0, .agg #[.int .i64 1, .int .i64 0]]) (by simp [results, Tryz.results6, go_sem]) rfl
      ⟨_, rfl, owns_nil _ _, (Below.refl _ _).alloc (Nat.le_refl _) _⟩
  · have HW := mkHid (show wordsI s = scanI s (skipI s 0) [] by unfold wordsI; rw [if_neg (by omega)])
    obtain ⟨i0, hi, hz⟩ := Option.map_eq_some_iff.1 Tryz.info45
    simp only [Prod.mk.injEq] at hz
    obtain ⟨hz0, hz1, hz2⟩ := hz
    have HI := mkHid (show Tryz.prog.info? 45 = some i0 ∧ i0.zero = some (.agg #[.int .i64 0, .string ByteArray.empty, .int .i64 0]) ∧ i0.size = 3 ∧ i0.bytes = 32 from ⟨hi, hz0, hz1, hz2⟩)
    clear hi hz0 hz1 hz2
    go_enter Tryz.func6, Tryz.ntmps6
    go_wp2
    go_loopw [4, 5] (fun o dn w' => ∃ (pos done : Nat) (ws : List W3) (ao : Option Addr) (cap : Nat), dn = .int .i64 done ∧ o = .slice ao ws.length cap ∧ St w s w' pos (.slice ao ws.length cap) ws ∧ Inv s pos done ws) (fun _ _ w' => s.size - w'.iterPos (w.heap.size + 1))
    case atStart =>
      refine ⟨0, 0, [], none, 0, rfl, rfl, ⟨owns_nil _ _, ?_, ?_, ((Below.refl _ _).alloc (Nat.le_refl _) _).alloc (by simp) _⟩, Nat.zero_le _, Nat.zero_le _, fun h => by omega, by simp, HW.out.symm⟩
      · show ((w.alloc _).alloc _).heap[_]? = _
        rw [Lib.alloc_old _ _ _ (by simp)]
        exact heap_alloc_new w _
      · have := heap_alloc_new (w.alloc (.cells #[.int .i64 0, .int .i64 0] 27)) (.stringIter s 0)
        rw [show (w.alloc (.cells #[.int .i64 0, .int .i64 0] 27)).heap.size = w.heap.size + 1 by simp] at this
        exact this
    case round =>
      obtain ⟨pos, done, ws, ao, cap, rfl, rfl, hst, hinv⟩ := hrel
      have HT := mkHid hst
      have HV := mkHid hinv
      have hps := hinv.1
      have hds := hinv.2.1
      have hwl := hinv.2.2.2.1
      clear hst hinv HW
      by_cases hp : pos < s.size
      · obtain ⟨r, d, hnx, hd1, hdz, hr1, hr2, hcont⟩ := next_at (P := Tryz.prog) wr (w.heap.size + 1) s pos HT.out.2.2.1 hp
        have HT1 := mkHid (HT.out.iter (pos + d))
        have hip : (wr.iterPos (w.heap.size + 1)) = pos := by simp [World.iterPos, HT.out.2.2.1]
        by_cases hin : (pos : Int) < (done : Int)
        · have HV1 := mkHid (inv_in HV.out (by omega) hd1 hdz (fun h => (hr1 h).2) hcont)
          have hip1 : (wr.iterAt (w.heap.size + 1) s (pos + d)).iterPos (w.heap.size + 1) = pos + d := by simp [World.iterPos, HT1.out.2.2.1]
          have HP := mkHid hip
          have HP1 := mkHid hip1
          clear hr1 hr2 hcont HT HV hip hip1
          go_wp2
          go_roundw
          case rel => exact ⟨pos + d, done, ws, ao, cap, rfl, rfl, HT1.out, HV1.out⟩
          case measure => rw [HP.out, HP1.out]; omega
        · have hip1 : (wr.iterAt (w.heap.size + 1) s (pos + d)).iterPos (w.heap.size + 1) = pos + d := by simp [World.iterPos, HT1.out.2.2.1]
          have HP := mkHid hip
          have HP1 := mkHid hip1
          have HC := mkHid hr1
          have HD := mkHid hr2
          clear hr1 hr2 hcont HT hip hip1
          by_cases hbl : blkI r = true
          · have hb : blankB s pos = true ∧ d = 1 := by
              have hlt : byt s pos < 128 := by
                by_cases q : byt s pos < 128
                · exact q
                · have := HD.out (by omega)
                  unfold blkI at hbl; simp at hbl; omega
              obtain ⟨e1, e2⟩ := HC.out hlt
              refine ⟨?_, e2⟩
              unfold blankB; rw [← e1]; exact hbl
            obtain ⟨hb, hd⟩ := hb
            subst hd
            have HV1 := mkHid (inv_blank HV.out (by omega) hp hb)
            clear hb HV
            go_wp2_with (go_at_call 11; refine (isBlank_any _ _).mono ?_; rintro e w' ⟨rfl, rfl⟩)
            go_roundw
            case rel => exact ⟨pos + 1, done, ws, ao, cap, rfl, rfl, HT1.out, HV1.out⟩
            case measure => rw [HP.out, HP1.out]; omega
          · simp only [Bool.not_eq_true] at hbl
            have HNB : Hid (blankB s pos = false) := by
              show _ = _
              by_cases q : byt s pos < 128
              · obtain ⟨e1, _⟩ := HC.out q
                unfold blankB; rw [← e1]; exact hbl
              · unfold blankB; simp; omega
            by_cases h35 : ((r : Int) == 35) = true
            · have hb : byt s pos = 35 ∧ d = 1 := by
                have hlt : byt s pos < 128 := by
                  by_cases q : byt s pos < 128
                  · exact q
                  · have := HD.out (by omega)
                    simp at h35; omega
                obtain ⟨e1, e2⟩ := HC.out hlt
                refine ⟨?_, e2⟩
                rw [← e1]; simpa using h35
              obtain ⟨hb, hd⟩ := hb
              subst hd
              have HV1 := mkHid (inv_note HV.out (by omega) hp hb)
              have HE : Hid (pos + noteE (s.extract pos s.size) 0 = noteE s pos) := noteE_rest (by omega)
              have hnl : noteE s pos ≤ s.size := noteE_le hps
              have hnn : pos + noteE (s.extract pos s.size) 0 ≤ s.size := by have := HE.out; omega
              clear hb HV
              go_wp2_with (first | (go_at_call 11; refine (isBlank_any _ _).mono ?_; rintro e w' ⟨rfl, rfl⟩) | (go_at_call 12; refine (noteSize_any _ _).mono ?_; rintro e w' ⟨rfl, rfl⟩))
              go_roundw
              case rel => exact ⟨pos + 1, noteE s pos, ws, ao, cap, by rw [← HE.out]; go_num, rfl, HT1.out, HV1.out⟩
              case measure => rw [HP.out, HP1.out]; omega
            · simp only [Bool.not_eq_true] at h35
              have HN5 : Hid (byt s pos ≠ 35) := by
                show _ ≠ _
                intro e
                obtain ⟨e1, _⟩ := HC.out (by omega)
                rw [e1, e] at h35
                simp at h35
              have HS := mkHid (inv_at HV.out (by omega) hp HNB.out HN5.out)
              clear HNB HN5 HD
              have hrz : 1 ≤ (s.extract pos s.size).size ∧ (s.extract pos s.size).size ≤ 4000 := by
                have : (s.extract pos s.size).size = s.size - pos := rest_size
                omega
              go_wp2_with (first | (go_at_call 11; refine (isBlank_any _ _).mono ?_; rintro e w' ⟨rfl, rfl⟩) | fail)
              obtain ⟨f, hf⟩ : ∃ f, f = foundT (s.extract pos s.size) := ⟨_, rfl⟩
              have hfz : f.size ≤ 4000 := by rw [hf]; exact Nat.le_trans (found_size _) hrz.2
              have HF := mkHid hf
              have hcall := longestWord_any (s.extract pos s.size) (wr.iterAt (w.heap.size + 1) s (pos + d)) hrz.2 hrz.1
              rw [← hf] at hcall
              clear hf
              refine hcall.mono ?_
              rintro e w1 ⟨rfl, hb1⟩
              have HT2 := mkHid (HT1.out.below hb1)
              clear hb1 HT1 HP1 hrz hcall
              go_wp2_with fail
              refine (kindOf_any f _ (by unfold maxLen; omega)).mono ?_
              rintro e w2 ⟨rfl, hb2⟩
              have HT3 := mkHid (HT2.out.below hb2)
              clear hb2 HT2
              obtain ⟨c0, c1, f0, f1⟩ := HT3.out.cells
              by_cases hk : kindI (s.extract pos (endI s pos)) = 0
              · have hk0 : (kindI f == 0) = true := by
                  have : kindI f = 0 := by rw [HF.out]; exact found_no hp hk
                  simpa using this
                have HR := mkHid (show wordsI s = ([], 2, (pos : Int)) by rw [← HS.out]; exact scan_bad hp hk)
                clear hk HS HF HV HC
                go_wp2
                obtain ⟨q0, q1, q2⟩ := fault_nil (c := .int .i64 2) (d := .int .i64 pos) HT3.out.2.1 HT3.out.2.2.2
                exact bodyPost_ret (v := .tuple #[.slice none 0 0, .agg #[.int .i64 2, .int .i64 pos]]) (by simp [results, Tryz.results6, go_sem, q0, q1]) rfl ⟨_, by rw [HR.out], by rw [HR.out]; exact owns_nil _ _, q2⟩
              · obtain ⟨y1, y2⟩ := found_yes hp hk
                have hfe : f = s.extract pos (endI s pos) := HF.out.trans y1
                have hk0 : (kindI f == 0) = false := by
                  rw [hfe]; simpa using hk
                by_cases hm : ((ws.length : Int) == 1500) = true
                · have HR := mkHid (show wordsI s = ([], 3, (pos : Int)) by
                    rw [← HS.out]
                    refine scan_many hp hk ?_
                    simp at hm; omega)
                  clear hk HS HF HV HC y1 y2 hfe
                  go_wp2
                  obtain ⟨q0, q1, q2⟩ := fault_nil (c := .int .i64 3) (d := .int .i64 pos) HT3.out.2.1 HT3.out.2.2.2
                  exact bodyPost_ret (v := .tuple #[.slice none 0 0, .agg #[.int .i64 3, .int .i64 pos]]) (by simp [results, Tryz.results6, go_sem, q0, q1]) rfl ⟨_, by rw [HR.out], by rw [HR.out]; exact owns_nil _ _, q2⟩
                · have hm0 : ws.length ≠ 1500 := by simp at hm; omega
                  simp only [Bool.not_eq_true] at hm
                  have HV1 := mkHid (inv_word HV.out HS.out hp hk hm0)
                  obtain ⟨he1, he2⟩ := endI_gt hp
                  have hd : d = 1 := (HC.out (y2 pos (Nat.le_refl _) he1)).2
                  subst hd
                  have hfs : f.size = endI s pos - pos := by rw [hfe]; exact size_ext s pos _ he2
                  have HFE := mkHid hfe
                  have HFS := mkHid hfs
                  clear hk HS HF HV HC y1 y2 hfe hfs c0 c1 f0 f1
                  go_wp2_with fail
                  refine (clone_any f _ hfz).mono ?_
                  rintro e w3 ⟨rfl, hb3⟩
                  have HT4 := mkHid (HT3.out.below hb3)
                  clear hb3 HT3
                  have hsz4 : w.heap.size + 2 ≤ w3.heap.size := HT4.out.lt
                  go_wp2_with (at_builtin; refine wpList_append_lies _ rfl _ _ 25 rfl (w.heap.size + 2) 45 i0 (.agg #[.int .i64 0, .string ByteArray.empty, .int .i64 0]) 3 32 Tryz.underlying25 HI.out.1 HI.out.2.1 HI.out.2.2.1 HI.out.2.2.2 rfl (by decide) _ _ _ rfl (HT4.out.1.alloc _) ⟨w3.heap.size, 0, none⟩ 1 1 [.int .i64 (kindI f), .string f, .int .i64 pos] rfl rfl ?c1 ?c2 (by decide) ?c3 ?c4 ?c5 (w3.heap.size + 1) (by simp) ?_)
                  case c1 => exact three_new _ _ _ _
                  case c2 => intro u hu; simp at hu; rcases hu with rfl | rfl | rfl <;> rfl
                  case c3 => unfold maxLen; omega
                  case c4 => omega
                  case c5 => simp; omega
                  intro g cap' w4 hown' hgrow _ _
                  have HT5 : Hid (St w s w4 (pos + 1) (.slice (some ⟨g, 0, none⟩) (ws.length + 1) cap') (ws ++ [⟨kindI f, f, pos⟩])) := by
                    refine HT4.out.grow hgrow ?_
                    unfold Owns
                    rw [← flat_snoc, List.length_append]
                    exact hown'
                  have HP2 : Hid (w4.iterPos (w.heap.size + 1) = pos + 1) := by
                    show _ = _
                    simp [World.iterPos, HT5.out.2.2.1]
                  clear hown' hgrow HT4
                  go_wp2
                  go_roundw
                  case rel =>
                    refine ⟨pos + 1, endI s pos, ws ++ [⟨kindI f, f, pos⟩], _, _, ?_, by rw [List.length_append]; rfl, by rw [List.length_append]; exact HT5.out, ?_⟩
                    · have := HFS.out
                      congr 1
                      omega
                    · rw [HFE.out]; exact HV1.out
                  case measure => rw [HP.out, HP2.out]; omega
      · have hnx : ∀ ty, (Instr.next (.pointer (some ⟨w.heap.size + 1, 0, none⟩)) true ty).run Tryz.prog wr = _ := fun ty => Lib.run_next_end_at wr (w.heap.size + 1) s pos ty HT.out.2.2.1 hp
        have HR := mkHid (inv_end HV.out hp)
        obtain ⟨c0, c1, f0, f1⟩ := HT.out.cells
        go_wp2
        obtain ⟨q0, q1, q2⟩ := fault_nil (c := .int .i64 0) (d := .int .i64 0) HT.out.2.1 HT.out.2.2.2
        exact bodyPost_ret (v := .tuple #[.slice ao ws.length cap, .agg #[.int .i64 0, .int .i64 0]]) (by simp [results, Tryz.results6, go_sem, q0, q1]) rfl
          ⟨_, by rw [HR.out], by rw [HR.out]; exact (((HT.out.1.setCell ⟨w.heap.size, 0, none⟩ _ (show w.heap.size < w.heap.size + 2 by omega)).setCell ⟨w.heap.size, 1, none⟩ _ (show w.heap.size < w.heap.size + 2 by omega))).mono (by omega), q2⟩
end Go.Proofs.YtpebfdplapeejaaGreatDoor
namespace Go.Proofs.YtpebfdplapeejaaGreatDoor
open Go.RowKit
open Pl

theorem grown_below {a b : World} {r : Option Nat} (h : Below a.heap.size a b) : a.grownBy b r := ⟨h.os, h.tape, h.output, h.size, fun i hi _ => h.block i hi⟩

end Go.Proofs.YtpebfdplapeejaaGreatDoor
namespace Go.Proofs.YtpebfdplapeejaaGreatDoor
open Go.RowKit
open Pl

theorem scan_len (s : ByteArray) (at_ : Nat) (acc : List W3) (h : acc.length ≤ 1500) : (scanI s at_ acc).1.length ≤ 1500 := by
  generalize hf : s.size - at_ = f
  induction f using Nat.strongRecOn generalizing at_ acc with
  | _ f ih =>
    by_cases h1 : at_ < s.size
    · by_cases hk : kindI (s.extract at_ (endI s at_)) = 0
      · rw [scan_bad h1 hk]; simp
      · by_cases hm : acc.length = 1500
        · rw [scan_many h1 hk hm]; simp
        · rw [scan_go h1 hk hm]
          have h2 := endI_gt h1
          have h3 := skip_ge s (endI s at_)
          exact ih (s.size - skipI s (endI s at_)) (by omega) _ _ (by rw [List.length_append]; simp; omega) rfl
    · rw [scan_end h1]; exact h
theorem words_len (s : ByteArray) : (wordsI s).1.length ≤ 1500 := by
  unfold wordsI
  split
  · simp
  · exact scan_len _ _ _ (by simp)

theorem Owns.some {w : World} {base : Nat} {v : Value} {ws : List W3} (h : Owns w base v ws) (hne : ws.length ≠ 0) : ∃ g cap, v = .slice (some ⟨g, 0, none⟩) ws.length cap := by
  rcases h.2 with ⟨_, h0⟩ | ⟨g, cap, cur, rfl, _⟩
  · exact absurd h0 hne
  · exact ⟨_, _, rfl⟩
end Go.Proofs.YtpebfdplapeejaaGreatDoor
namespace Go.Proofs.YtpebfdplapeejaaGreatDoor
open Go.RowKit
open Pl

theorem all_low {s : ByteArray} {l : List UInt8} (h : s.toList = l) (ha : l.all (fun c => lowI c.toNat) = true) (j : Nat) (hj : j < s.size) : alnum s j = true := by
  rw [Lib.toList_data] at h
  have hl : j < l.length := by rw [← h, ← Lib.size_eq]; exact hj
  unfold alnum
  rw [byt_list, h, List.getD_eq_getElem?_getD, List.getElem?_eq_getElem hl]
  have := (List.all_eq_true.1 ha) l[j] (List.getElem_mem _)
  simp only [Option.getD_some]
  rw [this]; rfl
theorem key_alnum {s : ByteArray} (h : keyB s = true) (j : Nat) (hj : j < s.size) : alnum s j = true := by
  unfold keyB keys at h
  simp only [List.contains_cons, Bool.or_eq_true, beq_iff_eq, List.contains_nil, Bool.false_eq_true, or_false] at h
  rcases h with h | h | h | h | h | h | h | h | h | h | h | h | h <;> exact all_low h rfl j hj
theorem sign_facts {s : ByteArray} (h : signB s = true) : (s.size = 1 ∨ (s.size = 2 ∧ byt s 1 = 61)) ∧ alnum s 0 = false ∧ blankB s 0 = false ∧ byt s 0 ≠ 35 := by
  unfold signB signs at h
  simp only [List.contains_cons, Bool.or_eq_true, beq_iff_eq, List.contains_nil, Bool.false_eq_true, or_false] at h
  unfold alnum blankB
  rw [Lib.size_eq, byt_list, byt_list]
  rw [Lib.toList_data] at h
  rcases h with h | h | h | h | h | h | h | h | h | h | h | h | h | h | h | h | h | h <;> (rw [h]; refine ⟨?_, ?_, ?_, ?_⟩ <;> simp [lowI, digI])
theorem word_shape {s : ByteArray} (h : kindI s ≠ 0) : 1 ≤ s.size ∧ ((∀ j, j < s.size → alnum s j = true) ∨ signB s = true) := by
  by_cases hk : keyB s = true
  · exact ⟨(key_low hk).2, .inl (key_alnum hk)⟩
  · by_cases hn : nameB s = true
    · have hp : nameP s := by simpa [nameB] using hn
      refine ⟨hp.1, .inl fun j hj => ?_⟩
      unfold alnum
      rcases hp.2.2.2 j hj with e | e
      · rw [e]; rfl
      · rw [e.2]; simp
    · by_cases hu : numB s = true
      · have hp : numP s := by simpa [numB] using hu
        refine ⟨hp.1, .inl fun j hj => ?_⟩
        unfold alnum
        rw [hp.2.1 j hj]; simp
      · by_cases hs : signB s = true
        · have := (sign_facts hs).1
          exact ⟨by omega, .inr hs⟩
        · exfalso
          apply h
          simp at hk hn hu hs
          simp [kindI, hk, hn, hu, hs]

/-- A word within a text, a blank or the end behind it. -/
theorem within {T : ByteArray} {pre suf : List UInt8} {s : ByteArray} (h : T.data.toList = pre ++ (s.data.toList ++ suf)) :
    pre.length + s.size ≤ T.size ∧ T.extract pre.length (pre.length + s.size) = s ∧ (∀ j, j < s.size → byt T (pre.length + j) = byt s j) ∧ (suf = [] → pre.length + s.size = T.size) ∧ (∀ c r, suf = c :: r → pre.length + s.size < T.size ∧ byt T (pre.length + s.size) = (c.toNat : Int)) := by
  have hz : T.size = pre.length + (s.size + suf.length) := by rw [Lib.size_eq, h, Lib.size_eq]; simp
  refine ⟨by omega, ?_, fun j hj => ?_, fun e => ?_, fun c r e => ?_⟩
  · rw [Lib.extract_eq, h, List.drop_left' rfl, show pre.length + s.size - pre.length = s.size by omega, List.take_left' (Lib.size_eq s).symm, Lib.mk_data]
  · rw [byt_list, byt_list, h, List.getD_eq_getElem?_getD, List.getD_eq_getElem?_getD, List.getElem?_append_right (by omega), show pre.length + j - pre.length = j by omega, List.getElem?_append_left (by rw [← Lib.size_eq]; exact hj)]
  · subst e; simp at hz; omega
  · subst e
    refine ⟨by simp at hz; omega, ?_⟩
    rw [byt_list, h, List.getD_eq_getElem?_getD, List.getElem?_append_right (by omega), show pre.length + s.size - pre.length = s.size by omega, List.getElem?_append_right (by rw [← Lib.size_eq]; omega), ← Lib.size_eq, Nat.sub_self]
    rfl
def alW (s : ByteArray) : Prop := ∀ j, j < s.size → alnum s j = true
/-- What may stand behind a word of letters and digits. -/
def Sep (suf : List UInt8) : Prop := suf = [] ∨ ∃ c r, suf = c :: r ∧ (lowI c.toNat || digI c.toNat) = false
/-- What may stand behind a sign. -/
def NoEq (suf : List UInt8) : Prop := suf = [] ∨ ∃ c r, suf = c :: r ∧ c.toNat ≠ 61
theorem end_of {T : ByteArray} {pre suf : List UInt8} {s : ByteArray} (h : T.data.toList = pre ++ (s.data.toList ++ suf)) (hk : kindI s ≠ 0) (ha1 : alW s → Sep suf) (hs1 : signB s = true → s.size = 2 ∨ NoEq suf) :
    pre.length < T.size ∧ endI T pre.length = pre.length + s.size ∧ T.extract pre.length (endI T pre.length) = s ∧ skipI T pre.length = pre.length := by
  obtain ⟨w1, w2, w3, w4, w5⟩ := within h
  obtain ⟨h1, hsh⟩ := word_shape hk
  have hp : pre.length < T.size := by omega
  have b0 := w3 0 (by omega)
  rw [Nat.add_zero] at b0
  have hend : endI T pre.length = pre.length + s.size := by
    rcases hsh with hal | hsg
    · have ha : alnum T pre.length = true := by unfold alnum; rw [b0]; exact hal 0 (by omega)
      unfold endI
      rw [if_pos ha]
      refine first_eq ⟨by omega, w1, fun j j1 j2 => ?_, ?_⟩
      · have := hal (j - pre.length) (by omega)
        have e := w3 (j - pre.length) (by omega)
        rw [show pre.length + (j - pre.length) = j by omega] at e
        show (!alnum T j) = false
        unfold alnum at this ⊢
        rw [e, this]; rfl
      · rcases ha1 hal with e | ⟨c, r, e, hc⟩
        · exact .inl (w4 e)
        · refine .inr ?_
          show (!alnum T (pre.length + s.size)) = true
          unfold alnum
          rw [(w5 _ _ e).2, hc]; rfl
    · obtain ⟨f1, f2, _, _⟩ := sign_facts hsg
      have ha : alnum T pre.length = false := by unfold alnum at f2 ⊢; rw [b0]; exact f2
      unfold endI
      rw [if_neg (by simp [ha])]
      rcases f1 with f1 | ⟨f1, _⟩
      · rw [if_neg]
        · omega
        · rintro ⟨g1, g2⟩
          rcases hs1 hsg with e | e | ⟨c, r, e, hc⟩
          · omega
          · have := w4 e; omega
          · obtain ⟨f3, _⟩ := sign_facts g2
            have hz : (T.extract pre.length (pre.length + 2)).size = 2 := by rw [size_ext _ _ _ (by omega)]; omega
            have hb : byt (T.extract pre.length (pre.length + 2)) 1 = byt T (pre.length + 1) := byt_ext _ _ _ 1 (by omega)
            have h32 := (w5 _ _ e).2
            rw [f1] at h32
            rw [h32] at hb
            rcases f3 with f3 | ⟨_, f3⟩
            · omega
            · rw [hb] at f3; omega
      · rw [if_pos]
        · omega
        · rw [f1] at w1 w2
          exact ⟨by omega, by rw [w2]; exact hsg⟩
  refine ⟨hp, hend, by rw [hend]; exact w2, ?_⟩
  rcases hsh with hal | hsg
  · have ha := hal 0 (by omega)
    unfold alnum at ha
    rw [Bool.or_eq_true, low_iff, dig_iff] at ha
    refine skip_stop hp ?_ (by rw [b0]; omega)
    unfold blankB
    rw [b0]; simp; omega
  · obtain ⟨_, _, f3, f4⟩ := sign_facts hsg
    exact skip_stop hp (by unfold blankB at f3 ⊢; rw [b0]; exact f3) (by rw [b0]; exact f4)

/-- From place p on the words toks are read, and then it goes on from q. -/
def Reads (T : ByteArray) (p q : Nat) (toks : List ByteArray) : Prop := ∀ acc : List W3, ∃ W : List W3, W.map W3.s = toks ∧ (∀ x ∈ W, kindI x.s = x.k ∧ x.k ≠ 0) ∧ ((scanI T (skipI T p) acc).2.1 = 0 → scanI T (skipI T p) acc = scanI T (skipI T q) (acc ++ W))
theorem Reads.nil (T : ByteArray) (p : Nat) : Reads T p p [] := fun acc => ⟨[], rfl, fun x hx => (by cases hx), fun _ => by rw [List.append_nil]⟩
theorem Reads.trans {T : ByteArray} {p q r : Nat} {a b : List ByteArray} (h1 : Reads T p q a) (h2 : Reads T q r b) : Reads T p r (a ++ b) := fun acc => by
  obtain ⟨W1, e1, k1, g1⟩ := h1 acc
  obtain ⟨W2, e2, k2, g2⟩ := h2 (acc ++ W1)
  refine ⟨W1 ++ W2, by rw [List.map_append, e1, e2], fun x hx => ?_, fun h => ?_⟩
  · rcases List.mem_append.1 hx with hx | hx
    · exact k1 x hx
    · exact k2 x hx
  · have := g1 h
    rw [this] at h ⊢
    rw [g2 h, List.append_assoc]
/-- A stretch of text that is read as the words toks, whatever text it lies in, where F holds of what stands behind. -/
def Chunk (l : List UInt8) (toks : List ByteArray) (F : List UInt8 → Prop) : Prop := ∀ (T : ByteArray) (pre suf : List UInt8), T.data.toList = pre ++ (l ++ suf) → F suf → Reads T pre.length (pre.length + l.length) toks
theorem Chunk.app {l1 l2 : List UInt8} {t1 t2 : List ByteArray} {F1 F2 : List UInt8 → Prop} (h1 : Chunk l1 t1 F1) (h2 : Chunk l2 t2 F2) (hF : ∀ suf, F2 suf → F1 (l2 ++ suf)) : Chunk (l1 ++ l2) (t1 ++ t2) F2 := fun T pre suf hT hs => by
  have a := h1 T pre (l2 ++ suf) (by rw [hT, List.append_assoc]) (hF suf hs)
  have b := h2 T (pre ++ l1) suf (by rw [hT]; simp) hs
  rw [List.length_append] at b
  have := a.trans b
  rwa [List.length_append, ← Nat.add_assoc]
theorem Chunk.weak {l : List UInt8} {t : List ByteArray} {F G : List UInt8 → Prop} (h : Chunk l t F) (hG : ∀ s, G s → F s) : Chunk l t G := fun T pre suf hT hs => h T pre suf hT (hG suf hs)
theorem Chunk.nil (F : List UInt8 → Prop) : Chunk [] [] F := fun T pre _ _ _ => by
  rw [List.length_nil, Nat.add_zero]; exact Reads.nil T _
theorem Chunk.word {s : ByteArray} (hk : kindI s ≠ 0) : Chunk s.data.toList [s] (fun suf => (alW s → Sep suf) ∧ (signB s = true → s.size = 2 ∨ NoEq suf)) := fun T pre suf hT hs acc => by
  obtain ⟨p1, p2, p3, p4⟩ := end_of hT hk hs.1 hs.2
  refine ⟨[⟨kindI s, s, pre.length⟩], rfl, fun x hx => ?_, fun h => ?_⟩
  · rw [List.mem_singleton] at hx; subst hx; exact ⟨rfl, hk⟩
  · rw [p4] at h ⊢
    by_cases hm : acc.length = 1500
    · rw [scan_many p1 (by rw [p3]; exact hk) hm] at h; cases h
    · rw [scan_go p1 (by rw [p3]; exact hk) hm, p3, p2, ← Lib.size_eq]
theorem Chunk.blank {c : UInt8} (hc : c.toNat = 32 ∨ c.toNat = 10) (F : List UInt8 → Prop) : Chunk [c] [] F := fun T pre suf hT _ acc => by
  refine ⟨[], rfl, fun x hx => (by cases hx), fun _ => ?_⟩
  have hl : T.size = pre.length + (1 + suf.length) := by rw [Lib.size_eq, hT]; simp; omega
  have hb : byt T pre.length = (c.toNat : Int) := by
    rw [byt_list, hT, List.getD_eq_getElem?_getD, List.getElem?_append_right (Nat.le_refl _), Nat.sub_self]; rfl
  rw [skip_blank (by omega) (by unfold blankB; rw [hb]; rcases hc with e | e <;> rw [e] <;> rfl), List.append_nil]; rfl
/-- What may stand behind any word. -/
def Gap (suf : List UInt8) : Prop := suf = [] ∨ ∃ c r, suf = c :: r ∧ (lowI c.toNat || digI c.toNat) = false ∧ c.toNat ≠ 61
theorem Gap.sep {suf : List UInt8} (h : Gap suf) : Sep suf := by
  rcases h with h | ⟨c, r, h, h1, _⟩
  · exact .inl h
  · exact .inr ⟨c, r, h, h1⟩
theorem Gap.noEq {suf : List UInt8} (h : Gap suf) : NoEq suf := by
  rcases h with h | ⟨c, r, h, _, h1⟩
  · exact .inl h
  · exact .inr ⟨c, r, h, h1⟩
theorem Gap.at {c : UInt8} (r : List UInt8) (h : ((lowI c.toNat || digI c.toNat) = false ∧ c.toNat ≠ 61)) : Gap (c :: r) := .inr ⟨c, r, rfl, h⟩
theorem Chunk.any {s : ByteArray} (hk : kindI s ≠ 0) : Chunk s.data.toList [s] Gap := (Chunk.word hk).weak fun _ h => ⟨fun _ => h.sep, fun _ => .inr h.noEq⟩
theorem Chunk.sign {s : ByteArray} (hk : signB s = true) : Chunk s.data.toList [s] NoEq := by
  have h0 : kindI s ≠ 0 := by
    have h1 := sign_not_key hk
    unfold kindI
    rw [h1]
    simp only [Bool.false_eq_true, if_false, hk, if_true]
    split
    · decide
    · split <;> decide
  refine (Chunk.word h0).weak fun _ h => ⟨fun ha => ?_, fun _ => .inr h⟩
  have := sign_facts hk
  have h2 := ha 0 (by have := this.1; omega)
  rw [this.2.1] at h2; cases h2
end Go.Proofs.YtpebfdplapeejaaGreatDoor
