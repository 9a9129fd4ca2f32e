/-
  CONTRACT of the program's Words, the walk.
  CONTRACTS of the law's markText, markWordS, heldWordS, eqFault, and of eqWordS at slices of our own.
  PLAIN FACTS on the words of a text.
  THE READING OF A PROGRAM'S WORDS, as plain functions: from a word on, what is read and where it ends, or the word with which it cannot go on.
  PLAIN FACTS on the reading of words: it goes on.
  TREES THAT OWN THEIR MEMORY: a tree with the places of its lists; that each list lies in a block of its own.
  THE PROGRAM'S READER IN MEMORY; CONTRACTS of its small parts: sees, has, take, seesKind, takeKind, name.
  Layings.
  CONTRACT of the program's reader's num; what a part of the reader answers.
  NEW TREES OUT OF NEW TREES.
-/
import Derived.Test.YtedfnadgmhjojaaGreatDoorMIwds
import Derived.Test.YtedfnadgmhjojaaGreatDoorMScan
import Derived.Test.YtedfnadgmhjojaaGreatDoorMSize
import Derived.Deep.QuietTactic
import Derived.BigQuiet
import Derived.Lib.AtoiErrMem
import Derived.Shelf.Strconv.Atoi
namespace Go.Proofs.YtedfnadgmhjojaaGreatDoor
open Go.RowKit
open Pl

theorem owns_nil (w : World) (base : Nat) : Owns w base (.slice none 0 0) [] := World.ownsRow_nil _ _ _ _
/-- What a call that answers a fault and no words leaves. -/
theorem fault_nil {w w2 : World} {c d : Value} (hN : w2.heap[w.heap.size]? = some (.cells #[.int .i64 0, .int .i64 0] 75 (0, 0))) (hB : Below w.heap.size w w2) :
    ((w2.setCell ⟨w.heap.size, 0, none⟩ c).setCell ⟨w.heap.size, 1, none⟩ d).cell? ⟨w.heap.size, 0, none⟩ = some c ∧ ((w2.setCell ⟨w.heap.size, 0, none⟩ c).setCell ⟨w.heap.size, 1, none⟩ d).cell? ⟨w.heap.size, 1, none⟩ = some d ∧
    Below w.heap.size w ((w2.setCell ⟨w.heap.size, 0, none⟩ c).setCell ⟨w.heap.size, 1, none⟩ d) := by
 have h2 := two_set (c := c) (d := d) hN
 exact ⟨by rw [Lib.cell_of_heap h2]; rfl, by rw [Lib.cell_of_heap h2]; rfl, (hB.setCell (p := ⟨w.heap.size, 0, none⟩) (Nat.le_refl _) _).setCell (p := ⟨w.heap.size, 1, none⟩) (Nat.le_refl _) _⟩
theorem St.cells {w w' : World} {s : ByteArray} {pos : Nat} {v : Value} {ws : List W3} (h : St w s w' pos v ws) : w'.cell? ⟨w.heap.size, 0, none⟩ = some (.int .i64 0) ∧ w'.cell? ⟨w.heap.size, 1, none⟩ = some (.int .i64 0) ∧ w'.frozen? ⟨w.heap.size, 0, none⟩ = false ∧ w'.frozen? ⟨w.heap.size, 1, none⟩ = false := by
 have hN := h.2.1
 exact ⟨by rw [Lib.cell_of_heap hN]; rfl, by rw [Lib.cell_of_heap hN]; rfl, Lib.frozen_of_heap hN 0, Lib.frozen_of_heap hN 1⟩

theorem ext_le (t : ByteArray) (a b : Nat) : (t.extract a b).size ≤ t.size := by
 rw [Lib.size_eq, Lib.extract_data, Lib.size_eq]
 simp only [List.length_take, List.length_drop]
 omega
theorem found_size (t : ByteArray) : (foundT t).size ≤ t.size := by
 unfold foundT signT
 split
 ·exact ext_le _ _ _
 ·split
  ·exact ext_le _ _ _
  ·split
   ·exact ext_le _ _ _
   ·exact Nat.zero_le _

set_option maxRecDepth 100000 in
set_option maxHeartbeats 2000000 in
theorem iWords_any (s : ByteArray) (w : World) (hs : s.size ≤ maxLen) :
    Calls Tryz.prog 71 #[.string s] w fun e w' => ∃ v, e = .returned (.tuple #[v, .agg #[.int .i64 (wordsI s).2.1, .int .i64 (wordsI s).2.2]]) ∧ Owns w' w.heap.size v (wordsI s).1 ∧ Below w.heap.size w w' := by
 unfold maxLen at hs
 by_cases h4 : 4000 < (s.size : Int)
 ·have HW := mkHid (show wordsI s = ([], 1, 0) by unfold wordsI; rw [if_pos (by omega)])
  rw [HW.out]
  go_enter Tryz.func71, Tryz.ntmps71
  go_wp2
  exact bodyPost_ret (v := .tuple #[.slice none 0 0, .agg #[.int .i64 1, .int .i64 0]]) (by simp [results, Tryz.results71, go_sem]) rfl
   ⟨_, rfl, owns_nil _ _, (Below.refl _ _).alloc (Nat.le_refl _) _⟩
 ·have HW := mkHid (show wordsI s = scanI s (skipI s 0) [] by unfold wordsI; rw [if_neg (by omega)])
  obtain ⟨i0, hi, hz⟩ := Option.map_eq_some_iff.1 Tryz.info99
  simp only [Prod.mk.injEq] at hz
  obtain ⟨hz0, hz1, hz2⟩ := hz
  have HI := mkHid (show Tryz.prog.info? 99 = some i0 ∧ i0.zero = some (.agg #[.int .i64 0, .string ByteArray.empty, .int .i64 0]) ∧ i0.size = 3 ∧ i0.bytes = 32 from ⟨hi, hz0, hz1, hz2⟩)
  clear hi hz0 hz1 hz2
  go_enter Tryz.func71, Tryz.ntmps71
  go_wp2
  go_loopw [4, 5] (fun o dn w' => ∃ (pos done : Nat) (ws : List W3) (ao : Option Addr) (cap : Nat), dn = .int .i64 done ∧ o = .slice ao ws.length cap ∧ St w s w' pos (.slice ao ws.length cap) ws ∧ Inv s pos done ws) (fun _ _ w' => s.size - w'.iterPos (w.heap.size + 1))
  case atStart =>
   refine ⟨0, 0, [], none, 0, rfl, rfl, ⟨owns_nil _ _, ?_, ?_, ((Below.refl _ _).alloc (Nat.le_refl _) _).alloc (by simp) _⟩, Nat.zero_le _, Nat.zero_le _, fun h => by omega, by simp, HW.out.symm⟩
   ·show ((w.alloc _).alloc _).heap[_]? = _
    rw [Lib.alloc_old _ _ _ (by simp)]
    exact heap_alloc_new w _
   ·have := heap_alloc_new (w.alloc (.cells #[.int .i64 0, .int .i64 0] 75)) (.stringIter s 0)
    rw [show (w.alloc (.cells #[.int .i64 0, .int .i64 0] 75)).heap.size = w.heap.size + 1 by simp] at this
    exact this
  case round =>
   obtain ⟨pos, done, ws, ao, cap, rfl, rfl, hst, hinv⟩ := hrel
   have HT := mkHid hst
   have HV := mkHid hinv
   have hps := hinv.1
   have hds := hinv.2.1
   have hwl := hinv.2.2.2.1
   clear hst hinv HW
   by_cases hp : pos < s.size
   ·obtain ⟨r, d, hnx, hd1, hdz, hr1, hr2, hcont⟩ := next_at (P := Tryz.prog) wr (w.heap.size + 1) s pos HT.out.2.2.1 hp
    have HT1 := mkHid (HT.out.iter (pos + d))
    have hip : (wr.iterPos (w.heap.size + 1)) = pos := by simp [World.iterPos, HT.out.2.2.1]
    by_cases hin : (pos : Int) < (done : Int)
    ·have HV1 := mkHid (inv_in HV.out (by omega) hd1 hdz (fun h => (hr1 h).2) hcont)
     have hip1 : (wr.iterAt (w.heap.size + 1) s (pos + d)).iterPos (w.heap.size + 1) = pos + d := by simp [World.iterPos, HT1.out.2.2.1]
     have HP := mkHid hip
     have HP1 := mkHid hip1
     clear hr1 hr2 hcont HT HV hip hip1
     go_wp2
     go_roundw
     case rel => exact ⟨pos + d, done, ws, ao, cap, rfl, rfl, HT1.out, HV1.out⟩
     case measure => rw [HP.out, HP1.out]; omega
    ·have hip1 : (wr.iterAt (w.heap.size + 1) s (pos + d)).iterPos (w.heap.size + 1) = pos + d := by simp [World.iterPos, HT1.out.2.2.1]
     have HP := mkHid hip
     have HP1 := mkHid hip1
     have HC := mkHid hr1
     have HD := mkHid hr2
     clear hr1 hr2 hcont HT hip hip1
     by_cases hbl : blkI r = true
     ·have hb : blankB s pos = true ∧ d = 1 := by
        have hlt : byt s pos < 128 := by
         by_cases q : byt s pos < 128
         ·exact q
         ·have := HD.out (by omega)
          unfold blkI at hbl; simp at hbl; omega
        obtain ⟨e1, e2⟩ := HC.out hlt
        refine ⟨?_, e2⟩
        unfold blankB; rw [← e1]; exact hbl
      obtain ⟨hb, hd⟩ := hb
      subst hd
      have HV1 := mkHid (inv_blank HV.out (by omega) hp hb)
      clear hb HV
      go_wp2_with (go_at_call 101; refine (isBlank_any _ _).mono ?_; rintro e w' ⟨rfl, rfl⟩)
      go_roundw
      case rel => exact ⟨pos + 1, done, ws, ao, cap, rfl, rfl, HT1.out, HV1.out⟩
      case measure => rw [HP.out, HP1.out]; omega
     ·simp only [Bool.not_eq_true] at hbl
      have HNB : Hid (blankB s pos = false) := by
       show _ = _
       by_cases q : byt s pos < 128
       ·obtain ⟨e1, _⟩ := HC.out q
        unfold blankB; rw [← e1]; exact hbl
       ·unfold blankB; simp; omega
      by_cases h35 : ((r : Int) == 35) = true
      ·have hb : byt s pos = 35 ∧ d = 1 := by
         have hlt : byt s pos < 128 := by
          by_cases q : byt s pos < 128
          ·exact q
          ·have := HD.out (by omega)
           simp at h35; omega
         obtain ⟨e1, e2⟩ := HC.out hlt
         refine ⟨?_, e2⟩
         rw [← e1]; simpa using h35
       obtain ⟨hb, hd⟩ := hb
       subst hd
       have HV1 := mkHid (inv_note HV.out (by omega) hp hb)
       have HE : Hid (pos + noteE (s.extract pos s.size) 0 = noteE s pos) := noteE_rest (by omega)
       have hnl : noteE s pos ≤ s.size := noteE_le hps
       have hnn : pos + noteE (s.extract pos s.size) 0 ≤ s.size := by have := HE.out; omega
       clear hb HV
       go_wp2_with (first | (go_at_call 101; refine (isBlank_any _ _).mono ?_; rintro e w' ⟨rfl, rfl⟩) | (go_at_call 102; refine (noteSize_any _ _).mono ?_; rintro e w' ⟨rfl, rfl⟩))
       go_roundw
       case rel => exact ⟨pos + 1, noteE s pos, ws, ao, cap, by rw [← HE.out]; go_num, rfl, HT1.out, HV1.out⟩
       case measure => rw [HP.out, HP1.out]; omega
      ·simp only [Bool.not_eq_true] at h35
       have HN5 : Hid (byt s pos ≠ 35) := by
        show _ ≠ _
        intro e
        obtain ⟨e1, _⟩ := HC.out (by omega)
        rw [e1, e] at h35
        simp at h35
       have HS := mkHid (inv_at HV.out (by omega) hp HNB.out HN5.out)
       clear HNB HN5 HD
       have hrz : 1 ≤ (s.extract pos s.size).size ∧ (s.extract pos s.size).size ≤ 4000 := by
        have : (s.extract pos s.size).size = s.size - pos := rest_size
        omega
       go_wp2_with (first | (go_at_call 101; refine (isBlank_any _ _).mono ?_; rintro e w' ⟨rfl, rfl⟩) | fail)
       obtain ⟨f, hf⟩ : ∃ f, f = foundT (s.extract pos s.size) := ⟨_, rfl⟩
       have hfz : f.size ≤ 4000 := by rw [hf]; exact Nat.le_trans (found_size _) hrz.2
       have HF := mkHid hf
       have hcall := longestWord_any (s.extract pos s.size) (wr.iterAt (w.heap.size + 1) s (pos + d)) hrz.2 hrz.1
       rw [← hf] at hcall
       clear hf
       refine hcall.mono ?_
       rintro e w1 ⟨rfl, hb1⟩
       have HT2 := mkHid (HT1.out.below hb1)
       clear hb1 HT1 HP1 hrz hcall
       go_wp2_with fail
       refine (kindOf_any f _ (by unfold maxLen; omega)).mono ?_
       rintro e w2 ⟨rfl, hb2⟩
       have HT3 := mkHid (HT2.out.below hb2)
       clear hb2 HT2
       obtain ⟨c0, c1, f0, f1⟩ := HT3.out.cells
       by_cases hk : kindI (s.extract pos (endI s pos)) = 0
       ·have hk0 : (kindI f == 0) = true := by
          have : kindI f = 0 := by rw [HF.out]; exact found_no hp hk
          simpa using this
        have HR := mkHid (show wordsI s = ([], 2, (pos : Int)) by rw [← HS.out]; exact scan_bad hp hk)
        clear hk HS HF HV HC
        go_wp2
        obtain ⟨q0, q1, q2⟩ := fault_nil (c := .int .i64 2) (d := .int .i64 pos) HT3.out.2.1 HT3.out.2.2.2
        exact bodyPost_ret (v := .tuple #[.slice none 0 0, .agg #[.int .i64 2, .int .i64 pos]]) (by simp [results, Tryz.results71, go_sem, q0, q1]) rfl ⟨_, by rw [HR.out], by rw [HR.out]; exact owns_nil _ _, q2⟩
       ·obtain ⟨y1, y2⟩ := found_yes hp hk
        have hfe : f = s.extract pos (endI s pos) := HF.out.trans y1
        have hk0 : (kindI f == 0) = false := by
         rw [hfe]; simpa using hk
        by_cases hm : ((ws.length : Int) == 1500) = true
        ·have HR := mkHid (show wordsI s = ([], 3, (pos : Int)) by
           rw [← HS.out]
           refine scan_many hp hk ?_
           simp at hm; omega)
         clear hk HS HF HV HC y1 y2 hfe
         go_wp2
         obtain ⟨q0, q1, q2⟩ := fault_nil (c := .int .i64 3) (d := .int .i64 pos) HT3.out.2.1 HT3.out.2.2.2
         exact bodyPost_ret (v := .tuple #[.slice none 0 0, .agg #[.int .i64 3, .int .i64 pos]]) (by simp [results, Tryz.results71, go_sem, q0, q1]) rfl ⟨_, by rw [HR.out], by rw [HR.out]; exact owns_nil _ _, q2⟩
        ·have hm0 : ws.length ≠ 1500 := by simp at hm; omega
         simp only [Bool.not_eq_true] at hm
         have HV1 := mkHid (inv_word HV.out HS.out hp hk hm0)
         obtain ⟨he1, he2⟩ := endI_gt hp
         have hd : d = 1 := (HC.out (y2 pos (Nat.le_refl _) he1)).2
         subst hd
         have hfs : f.size = endI s pos - pos := by rw [hfe]; exact size_ext s pos _ he2
         have HFE := mkHid hfe
         have HFS := mkHid hfs
         clear hk HS HF HV HC y1 y2 hfe hfs c0 c1 f0 f1
         go_wp2_with fail
         refine (clone_any f _ hfz).mono ?_
         rintro e w3 ⟨rfl, hb3⟩
         have HT4 := mkHid (HT3.out.below hb3)
         clear hb3 HT3
         have hsz4 : w.heap.size + 2 ≤ w3.heap.size := HT4.out.lt
         go_wp2_with (at_builtin; refine wpList_append_lies _ rfl _ _ 91 rfl (w.heap.size + 2) 99 i0 (.agg #[.int .i64 0, .string ByteArray.empty, .int .i64 0]) 3 32 Tryz.underlying91 HI.out.1 HI.out.2.1 HI.out.2.2.1 HI.out.2.2.2 rfl (by decide) _ _ _ rfl (HT4.out.1.alloc _) ⟨w3.heap.size, 0, none⟩ 1 1 [.int .i64 (kindI f), .string f, .int .i64 pos] rfl rfl ?c1 ?c2 (by decide) ?c3 ?c4 ?c5 (w3.heap.size + 1) (by simp) ?_)
         case c1 => exact three_new _ _ _ _
         case c2 => intro u hu; simp at hu; rcases hu with rfl | rfl | rfl <;> rfl
         case c3 => unfold maxLen; omega
         case c4 => omega
         case c5 => simp; omega
         intro g cap' w4 hown' hgrow _ _
         have HT5 : Hid (St w s w4 (pos + 1) (.slice (some ⟨g, 0, none⟩) (ws.length + 1) cap') (ws ++ [⟨kindI f, f, pos⟩])) := by
          refine HT4.out.grow hgrow ?_
          unfold Owns
          rw [← flat_snoc, List.length_append]
          exact hown'
         have HP2 : Hid (w4.iterPos (w.heap.size + 1) = pos + 1) := by
          show _ = _
          simp [World.iterPos, HT5.out.2.2.1]
         clear hown' hgrow HT4
         go_wp2
         go_roundw
         case rel =>
          refine ⟨pos + 1, endI s pos, ws ++ [⟨kindI f, f, pos⟩], _, _, ?_, by rw [List.length_append]; rfl, by rw [List.length_append]; exact HT5.out, ?_⟩
          ·have := HFS.out
           congr 1
           omega
          ·rw [HFE.out]; exact HV1.out
         case measure => rw [HP.out, HP2.out]; omega
   ·have hnx : ∀ ty, (Instr.next (.pointer (some ⟨w.heap.size + 1, 0, none⟩)) true ty).run Tryz.prog wr = _ := fun ty => Lib.run_next_end_at wr (w.heap.size + 1) s pos ty HT.out.2.2.1 hp
    have HR := mkHid (inv_end HV.out hp)
    obtain ⟨c0, c1, f0, f1⟩ := HT.out.cells
    go_wp2
    obtain ⟨q0, q1, q2⟩ := fault_nil (c := .int .i64 0) (d := .int .i64 0) HT.out.2.1 HT.out.2.2.2
    exact bodyPost_ret (v := .tuple #[.slice ao ws.length cap, .agg #[.int .i64 0, .int .i64 0]]) (by simp [results, Tryz.results71, go_sem, q0, q1]) rfl
     ⟨_, by rw [HR.out], by rw [HR.out]; exact (((HT.out.1.setCell ⟨w.heap.size, 0, none⟩ _ (show w.heap.size < w.heap.size + 2 by omega)).setCell ⟨w.heap.size, 1, none⟩ _ (show w.heap.size < w.heap.size + 2 by omega))).mono (by omega), q2⟩
end Go.Proofs.YtedfnadgmhjojaaGreatDoor
namespace Go.Proofs.YtedfnadgmhjojaaGreatDoor
open Go.RowKit
open Pl

theorem grown_below {a b : World} {r : Option Nat} (h : Below a.heap.size a b) : a.grownBy b r := ⟨h.os, h.tape, h.output, h.size, fun i hi _ => h.block i hi⟩

end Go.Proofs.YtedfnadgmhjojaaGreatDoor
namespace Go.Proofs.YtedfnadgmhjojaaGreatDoor
open Go.RowKit
open Pl

theorem scan_len (s : ByteArray) (at_ : Nat) (acc : List W3) (h : acc.length ≤ 1500) : (scanI s at_ acc).1.length ≤ 1500 := by
 generalize hf : s.size - at_ = f
 induction f using Nat.strongRecOn generalizing at_ acc with
 | _ f ih =>
   by_cases h1 : at_ < s.size
   ·by_cases hk : kindI (s.extract at_ (endI s at_)) = 0
    ·rw [scan_bad h1 hk]; simp
    ·by_cases hm : acc.length = 1500
     ·rw [scan_many h1 hk hm]; simp
     ·rw [scan_go h1 hk hm]
      have h2 := endI_gt h1
      have h3 := skip_ge s (endI s at_)
      exact ih (s.size - skipI s (endI s at_)) (by omega) _ _ (by rw [List.length_append]; simp; omega) rfl
   ·rw [scan_end h1]; exact h
theorem words_len (s : ByteArray) : (wordsI s).1.length ≤ 1500 := by
 unfold wordsI
 split
 ·simp
 ·exact scan_len _ _ _ (by simp)

theorem Owns.some {w : World} {base : Nat} {v : Value} {ws : List W3} (h : Owns w base v ws) (hne : ws.length ≠ 0) : ∃ g cap, v = .slice (some ⟨g, 0, none⟩) ws.length cap := by
 rcases h.2 with ⟨_, h0⟩ | ⟨g, cap, cur, rfl, _⟩
 ·exact absurd h0 hne
 ·exact ⟨_, _, rfl⟩
end Go.Proofs.YtedfnadgmhjojaaGreatDoor
namespace Go.Proofs.YtedfnadgmhjojaaGreatDoor
open Go.RowKit
open Pl

/-- What was read and the place behind it, or the place where it ends. -/
inductive Res where
 | ok (t : T) (j : Nat)
 | no (p : Nat)

def isW (ws : List W3) (i : Nat) (s : ByteArray) : Bool := match ws[i]? with
 | some x => decide (x.s = s)
 | none => false
def kindW (ws : List W3) (i : Nat) : Int := match ws[i]? with
 | some x => x.k
 | none => 0
def textW (ws : List W3) (i : Nat) : ByteArray := match ws[i]? with
 | some x => x.s
 | none => ⟨#[]⟩

/-- The comparing signs. -/
def relI (s : ByteArray) : Int := if s = ⟨#[60]⟩ then 11 else if s = ⟨#[60, 61]⟩ then 12 else if s = ⟨#[62]⟩ then 13 else if s = ⟨#[62, 61]⟩ then 14 else if s = ⟨#[61, 61]⟩ then 15 else if s = ⟨#[33, 61]⟩ then 16 else 0

def nil_ : ByteArray := ⟨#[]⟩
def Res.then_ (r : Res) (f : T → Nat → Res) : Res := match r with
 | .ok t j => f t j
 | .no p => .no p
/-- A word that must stand there. -/
def want (ws : List W3) (j : Nat) (s : ByteArray) (r : Res) : Res := if isW ws j s then r else .no j
def wantK (ws : List W3) (j : Nat) (k : Int) (r : Res) : Res := if kindW ws j = k then r else .no j

mutual
def mOne (ws : List W3) : Nat → Nat → Res
 | 0, i => .no i
 | f + 1, i =>
   if isW ws i ⟨#[45]⟩ then (mOne ws f (i + 1)).then_ fun x j => .ok (.node 5 nil_ 0 [x]) j else
   if isW ws i ⟨#[40]⟩ then (mExpr ws f (i + 1)).then_ fun x j => want ws j ⟨#[41]⟩ (.ok x (j + 1)) else
   if isW ws i ⟨#[108, 101, 110]⟩ then want ws (i + 1) ⟨#[40]⟩ (wantK ws (i + 2) 1 (want ws (i + 3) ⟨#[41]⟩ (.ok (.node 4 (textW ws (i + 2)) 0 []) (i + 4)))) else
   if kindW ws i = 2 then .ok (.node 1 nil_ (numV (textW ws i)) []) (i + 1) else
   wantK ws i 1 (if isW ws (i + 1) ⟨#[91]⟩ then (mExpr ws f (i + 2)).then_ fun x j => want ws j ⟨#[93]⟩ (.ok (.node 3 (textW ws i) 0 [x]) (j + 1)) else
    .ok (.node 2 (textW ws i) 0 []) (i + 1))
def mTerm (ws : List W3) : Nat → Nat → Res
 | 0, i => .no i
 | f + 1, i => (mOne ws f i).then_ fun x j => mTermL ws f x j
def mTermL (ws : List W3) : Nat → T → Nat → Res
 | 0, _, i => .no i
 | f + 1, x, i => if isW ws i ⟨#[42]⟩ then (mOne ws f (i + 1)).then_ fun y j => mTermL ws f (.node 8 nil_ 0 [x, y]) j else .ok x i
def mExpr (ws : List W3) : Nat → Nat → Res
 | 0, i => .no i
 | f + 1, i => (mTerm ws f i).then_ fun x j => mExprL ws f x j
def mExprL (ws : List W3) : Nat → T → Nat → Res
 | 0, _, i => .no i
 | f + 1, x, i => if isW ws i ⟨#[43]⟩ then (mTerm ws f (i + 1)).then_ fun y j => mExprL ws f (.node 6 nil_ 0 [x, y]) j else
   if isW ws i ⟨#[45]⟩ then (mTerm ws f (i + 1)).then_ fun y j => mExprL ws f (.node 7 nil_ 0 [x, y]) j else .ok x i
end
def mCond (ws : List W3) (f i : Nat) : Res := (mExpr ws f i).then_ fun x j =>
 if relI (textW ws j) = 0 then .no j else (mExpr ws f (j + 1)).then_ fun y j2 => .ok (.node (relI (textW ws j)) nil_ 0 [x, y]) j2
def mShort (ws : List W3) (f i : Nat) : Res :=
 if isW ws i ⟨#[114, 101, 97, 100]⟩ then wantK ws (i + 1) 1 (.ok (.node 23 (textW ws (i + 1)) 0 []) (i + 2)) else
 if isW ws i ⟨#[99, 104, 101, 99, 107]⟩ then (mCond ws f (i + 1)).then_ fun x j => .ok (.node 27 nil_ 0 [x]) j else
 if isW ws i ⟨#[115, 107, 105, 112]⟩ then .ok (.node 28 nil_ 0 []) (i + 1) else
 if isW ws i ⟨#[115, 116, 111, 112]⟩ then .ok (.node 29 nil_ 0 []) (i + 1) else
 wantK ws i 1 (if isW ws (i + 1) ⟨#[91]⟩ then (mExpr ws f (i + 2)).then_ fun x j => want ws j ⟨#[93]⟩ (want ws (j + 1) ⟨#[61]⟩ ((mExpr ws f (j + 2)).then_ fun y j2 => .ok (.node 22 (textW ws i) 0 [x, y]) j2)) else
  want ws (i + 1) ⟨#[61]⟩ ((mExpr ws f (i + 2)).then_ fun y j => .ok (.node 21 (textW ws i) 0 [y]) j))
mutual
def mStmt (ws : List W3) (F : Nat) : Nat → Nat → Res
 | 0, i => .no i
 | f + 1, i =>
   if isW ws i ⟨#[105, 102]⟩ then (mCond ws F (i + 1)).then_ fun x j => (mBlock ws F f j).then_ fun y j2 =>
    if isW ws j2 ⟨#[101, 108, 115, 101]⟩ then (mBlock ws F f (j2 + 1)).then_ fun z j3 => .ok (.node 24 nil_ 0 [x, y, z]) j3 else .ok (.node 24 nil_ 0 [x, y, .node 30 nil_ 0 []]) j2 else
   if isW ws i ⟨#[119, 104, 105, 108, 101]⟩ then (mCond ws F (i + 1)).then_ fun x j => (mBlock ws F f j).then_ fun y j2 => .ok (.node 25 nil_ 0 [x, y]) j2 else
   if isW ws i ⟨#[102, 111, 114]⟩ then wantK ws (i + 1) 1 (want ws (i + 2) ⟨#[102, 114, 111, 109]⟩ ((mExpr ws F (i + 3)).then_ fun x j => want ws j ⟨#[116, 111]⟩
    ((mExpr ws F (j + 1)).then_ fun y j2 => (mBlock ws F f j2).then_ fun z j3 => .ok (.node 26 (textW ws (i + 1)) 0 [x, y, z]) j3))) else
   (mShort ws F i).then_ fun x j => want ws j ⟨#[59]⟩ (.ok x (j + 1))
def mBlock (ws : List W3) (F : Nat) : Nat → Nat → Res
 | 0, i => .no i
 | f + 1, i => want ws i ⟨#[123]⟩ (mList ws F f [] (i + 1))
def mList (ws : List W3) (F : Nat) : Nat → List T → Nat → Res
 | 0, _, i => .no i
 | f + 1, acc, i => if isW ws i ⟨#[125]⟩ then .ok (.node 30 nil_ 0 acc) (i + 1) else (mStmt ws F f i).then_ fun x j => mList ws F f (acc ++ [x]) j
end
def mDecl (ws : List W3) (i : Nat) : Res :=
 if isW ws i ⟨#[118, 97, 114]⟩ then wantK ws (i + 1) 1 (want ws (i + 2) ⟨#[59]⟩ (.ok (.node 31 (textW ws (i + 1)) 0 []) (i + 3))) else
 want ws i ⟨#[97, 114, 114, 97, 121]⟩ (wantK ws (i + 1) 1 (want ws (i + 2) ⟨#[91]⟩ (
  if isW ws (i + 3) ⟨#[63]⟩ then want ws (i + 4) ⟨#[93]⟩ (want ws (i + 5) ⟨#[59]⟩ (.ok (.node 32 (textW ws (i + 1)) (-1) []) (i + 6))) else
  wantK ws (i + 3) 2 (want ws (i + 4) ⟨#[93]⟩ (want ws (i + 5) ⟨#[59]⟩ (.ok (.node 32 (textW ws (i + 1)) (numV (textW ws (i + 3))) []) (i + 6)))))))
def mAll (ws : List W3) (F : Nat) (ds : List T) : Nat → List T → Nat → Res
 | 0, _, i => .no i
 | f + 1, acc, i => if i < ws.length then (mStmt ws F F i).then_ fun x j => mAll ws F ds f (acc ++ [x]) j else .ok (.node 40 nil_ 0 (ds ++ [.node 30 nil_ 0 acc])) i
def mProg (ws : List W3) (F : Nat) : Nat → List T → Nat → Res
 | 0, _, i => .no i
 | f + 1, ds, i => if isW ws i ⟨#[118, 97, 114]⟩ || isW ws i ⟨#[97, 114, 114, 97, 121]⟩ then (mDecl ws i).then_ fun x j => mProg ws F f (ds ++ [x]) j else mAll ws F ds F [] i

/-- Words as they come out of a text. -/
def WsOk (ws : List W3) : Prop := ∀ x ∈ ws, kindI x.s = x.k ∧ x.k ≠ 0
end Go.Proofs.YtedfnadgmhjojaaGreatDoor
namespace Go.Proofs.YtedfnadgmhjojaaGreatDoor
open Go.RowKit
open Pl

theorem isW_lt {ws : List W3} {i : Nat} {s : ByteArray} (h : isW ws i s = true) : i < ws.length := by
 unfold isW at h
 by_cases q : i < ws.length
 ·exact q
 ·rw [List.getElem?_eq_none (by omega)] at h; cases h
theorem kindW_lt {ws : List W3} {i : Nat} {k : Int} (h : kindW ws i = k) (hk : k ≠ 0) : i < ws.length := by
 unfold kindW at h
 by_cases q : i < ws.length
 ·exact q
 ·rw [List.getElem?_eq_none (by omega)] at h; exact absurd h.symm hk
theorem isW_end {ws : List W3} {i : Nat} (s : ByteArray) (h : ws.length ≤ i) : isW ws i s = false := by
 unfold isW; rw [List.getElem?_eq_none h]
theorem kindW_end {ws : List W3} {i : Nat} (h : ws.length ≤ i) : kindW ws i = 0 := by
 unfold kindW; rw [List.getElem?_eq_none h]
theorem textW_end {ws : List W3} {i : Nat} (h : ws.length ≤ i) : textW ws i = ⟨#[]⟩ := by
 unfold textW; rw [List.getElem?_eq_none h]
theorem isW_text {ws : List W3} {i : Nat} {s : ByteArray} (h : isW ws i s = true) : textW ws i = s := by
 unfold isW at h; unfold textW
 split at h
 ·rename_i x hx
  simpa using h
 ·cases h
theorem isW_of_text {ws : List W3} {i : Nat} {s : ByteArray} (hi : i < ws.length) : isW ws i s = decide (textW ws i = s) := by
 unfold isW textW
 rw [List.getElem?_eq_getElem hi]
theorem isW_kind {ws : List W3} {i : Nat} {s : ByteArray} (hw : WsOk ws) (h : isW ws i s = true) : kindW ws i = kindI s := by
 have hi := isW_lt h
 have ht := isW_text h
 unfold kindW
 unfold textW at ht
 rw [List.getElem?_eq_getElem hi] at ht ⊢
 simp only at ht ⊢
 rw [← ht]
 exact ((hw _ (List.getElem_mem hi)).1).symm
theorem then_ok {r : Res} {f : T → Nat → Res} {t : T} {j : Nat} (h : r.then_ f = .ok t j) : ∃ x i, r = .ok x i ∧ f x i = .ok t j := by
 cases r with
 | ok x i => exact ⟨x, i, rfl, h⟩
 | no p => cases h
theorem want_ok {ws : List W3} {i : Nat} {s : ByteArray} {r : Res} {t : T} {j : Nat} (h : want ws i s r = .ok t j) : isW ws i s = true ∧ r = .ok t j := by
 unfold want at h
 split at h
 ·rename_i q; exact ⟨q, h⟩
 ·cases h
theorem wantK_ok {ws : List W3} {i : Nat} {k : Int} {r : Res} {t : T} {j : Nat} (h : wantK ws i k r = .ok t j) : kindW ws i = k ∧ r = .ok t j := by
 unfold wantK at h
 split at h
 ·rename_i q; exact ⟨q, h⟩
 ·cases h
theorem ok_inj {t t' : T} {j j' : Nat} (h : Res.ok t j = .ok t' j') : t = t' ∧ j = j' := by cases h; exact ⟨rfl, rfl⟩

/-- Each part goes on at least by a word, and not past the end. -/
def Adv (ws : List W3) (f : Nat) : Prop := (∀ i t j, mOne ws f i = .ok t j → i < j ∧ j ≤ ws.length) ∧ (∀ i t j, mTerm ws f i = .ok t j → i < j ∧ j ≤ ws.length) ∧
 (∀ x i t j, i ≤ ws.length → mTermL ws f x i = .ok t j → i ≤ j ∧ j ≤ ws.length) ∧ (∀ i t j, mExpr ws f i = .ok t j → i < j ∧ j ≤ ws.length) ∧ (∀ x i t j, i ≤ ws.length → mExprL ws f x i = .ok t j → i ≤ j ∧ j ≤ ws.length)
theorem adv_one {ws : List W3} {f : Nat} (ih : Adv ws f) {i : Nat} {t : T} {j : Nat} (h : mOne ws (f + 1) i = .ok t j) : i < j ∧ j ≤ ws.length := by
 obtain ⟨a1, a2, a3, a4, a5⟩ := ih
 simp only [mOne] at h
 split at h
 ·obtain ⟨x, k, h1, h2⟩ := then_ok h
  have := a1 _ _ _ h1
  have := (ok_inj h2).2
  omega
 ·split at h
  ·obtain ⟨x, k, h1, h2⟩ := then_ok h
   obtain ⟨h3, h4⟩ := want_ok h2
   have := a4 _ _ _ h1
   have := isW_lt h3
   have := (ok_inj h4).2
   omega
  ·split at h
   ·obtain ⟨g1, h⟩ := want_ok h
    obtain ⟨g2, h⟩ := wantK_ok h
    obtain ⟨g3, h⟩ := want_ok h
    have := isW_lt g3
    have := (ok_inj h).2
    omega
   ·split at h
    ·rename_i g
     have := kindW_lt g (by decide)
     have := (ok_inj h).2
     omega
    ·obtain ⟨g, h⟩ := wantK_ok h
     have := kindW_lt g (by decide)
     split at h
     ·obtain ⟨x, k, h1, h2⟩ := then_ok h
      obtain ⟨h3, h4⟩ := want_ok h2
      have := a4 _ _ _ h1
      have := isW_lt h3
      have := (ok_inj h4).2
      omega
     ·have := (ok_inj h).2
      omega
theorem adv (ws : List W3) (f : Nat) : Adv ws f := by
 induction f with
 | zero => exact ⟨fun _ _ _ h => by simp [mOne] at h, fun _ _ _ h => by simp [mTerm] at h, fun _ _ _ _ _ h => by simp [mTermL] at h, fun _ _ _ h => by simp [mExpr] at h, fun _ _ _ _ _ h => by simp [mExprL] at h⟩
 | succ f ih =>
   have ih' := ih
   obtain ⟨a1, a2, a3, a4, a5⟩ := ih
   refine ⟨fun i t j h => adv_one ih' h, fun i t j h => ?_, fun x i t j hi h => ?_, fun i t j h => ?_, fun x i t j hi h => ?_⟩
   ·simp only [mTerm] at h
    obtain ⟨x, k, h1, h2⟩ := then_ok h
    have q := a1 _ _ _ h1
    have := a3 _ _ _ _ q.2 h2
    omega
   ·simp only [mTermL] at h
    split at h
    ·obtain ⟨y, k, h1, h2⟩ := then_ok h
     have q := a1 _ _ _ h1
     have := a3 _ _ _ _ q.2 h2
     omega
    ·have := (ok_inj h).2
     omega
   ·simp only [mExpr] at h
    obtain ⟨x, k, h1, h2⟩ := then_ok h
    have q := a2 _ _ _ h1
    have := a5 _ _ _ _ q.2 h2
    omega
   ·simp only [mExprL] at h
    split at h
    ·obtain ⟨y, k, h1, h2⟩ := then_ok h
     have q := a2 _ _ _ h1
     have := a5 _ _ _ _ q.2 h2
     omega
    ·split at h
     ·obtain ⟨y, k, h1, h2⟩ := then_ok h
      have q := a2 _ _ _ h1
      have := a5 _ _ _ _ q.2 h2
      omega
     ·have := (ok_inj h).2
      omega
theorem adv_cond {ws : List W3} {f i : Nat} {t : T} {j : Nat} (h : mCond ws f i = .ok t j) : i < j ∧ j ≤ ws.length := by
 unfold mCond at h
 obtain ⟨x, k, h1, h2⟩ := then_ok h
 have q := (adv ws f).2.2.2.1 _ _ _ h1
 split at h2
 ·cases h2
 ·obtain ⟨y, k2, h3, h4⟩ := then_ok h2
  have q2 := (adv ws f).2.2.2.1 _ _ _ h3
  have := (ok_inj h4).2
  omega
theorem adv_short {ws : List W3} {f i : Nat} {t : T} {j : Nat} (h : mShort ws f i = .ok t j) : i < j ∧ j ≤ ws.length := by
 unfold mShort at h
 have ax := (adv ws f).2.2.2.1
 split at h
 ·obtain ⟨g, h⟩ := wantK_ok h
  have := kindW_lt g (by decide)
  have := (ok_inj h).2
  omega
 ·split at h
  ·obtain ⟨x, k, h1, h2⟩ := then_ok h
   have := adv_cond h1
   have := (ok_inj h2).2
   omega
  ·split at h
   ·rename_i g
    have := isW_lt g
    have := (ok_inj h).2
    omega
   ·split at h
    ·rename_i g
     have := isW_lt g
     have := (ok_inj h).2
     omega
    ·obtain ⟨g, h⟩ := wantK_ok h
     split at h
     ·obtain ⟨x, k, h1, h2⟩ := then_ok h
      obtain ⟨h3, h4⟩ := want_ok h2
      obtain ⟨h5, h6⟩ := want_ok h4
      obtain ⟨y, k2, h7, h8⟩ := then_ok h6
      have := ax _ _ _ h1
      have := ax _ _ _ h7
      have := (ok_inj h8).2
      omega
     ·obtain ⟨h5, h6⟩ := want_ok h
      obtain ⟨y, k2, h7, h8⟩ := then_ok h6
      have := ax _ _ _ h7
      have := (ok_inj h8).2
      omega
def AdvS (ws : List W3) (F f : Nat) : Prop := (∀ i t j, mStmt ws F f i = .ok t j → i < j ∧ j ≤ ws.length) ∧ (∀ i t j, mBlock ws F f i = .ok t j → i < j ∧ j ≤ ws.length) ∧ (∀ acc i t j, mList ws F f acc i = .ok t j → i < j ∧ j ≤ ws.length)
theorem advS (ws : List W3) (F f : Nat) : AdvS ws F f := by
 induction f with
 | zero => exact ⟨fun _ _ _ h => by simp [mStmt] at h, fun _ _ _ h => by simp [mBlock] at h, fun _ _ _ _ h => by simp [mList] at h⟩
 | succ f ih =>
   obtain ⟨a1, a2, a3⟩ := ih
   have ax := (adv ws F).2.2.2.1
   refine ⟨fun i t j h => ?_, fun i t j h => ?_, fun acc i t j h => ?_⟩
   ·simp only [mStmt] at h
    split at h
    ·obtain ⟨x, k, h1, h2⟩ := then_ok h
     obtain ⟨y, k2, h3, h4⟩ := then_ok h2
     have := adv_cond h1
     have := a2 _ _ _ h3
     split at h4
     ·obtain ⟨z, k3, h5, h6⟩ := then_ok h4
      have := a2 _ _ _ h5
      have := (ok_inj h6).2
      omega
     ·have := (ok_inj h4).2
      omega
    ·split at h
     ·obtain ⟨x, k, h1, h2⟩ := then_ok h
      obtain ⟨y, k2, h3, h4⟩ := then_ok h2
      have := adv_cond h1
      have := a2 _ _ _ h3
      have := (ok_inj h4).2
      omega
     ·split at h
      ·obtain ⟨_, h⟩ := wantK_ok h
       obtain ⟨_, h⟩ := want_ok h
       obtain ⟨x, k, h1, h2⟩ := then_ok h
       obtain ⟨_, h2⟩ := want_ok h2
       obtain ⟨y, k2, h3, h4⟩ := then_ok h2
       obtain ⟨z, k3, h5, h6⟩ := then_ok h4
       have := ax _ _ _ h1
       have := ax _ _ _ h3
       have := a2 _ _ _ h5
       have := (ok_inj h6).2
       omega
      ·obtain ⟨x, k, h1, h2⟩ := then_ok h
       obtain ⟨h3, h4⟩ := want_ok h2
       have := adv_short h1
       have := isW_lt h3
       have := (ok_inj h4).2
       omega
   ·simp only [mBlock] at h
    obtain ⟨g, h⟩ := want_ok h
    have := a3 _ _ _ _ h
    omega
   ·simp only [mList] at h
    split at h
    ·rename_i g
     have := isW_lt g
     have := (ok_inj h).2
     omega
    ·obtain ⟨x, k, h1, h2⟩ := then_ok h
     have := a1 _ _ _ h1
     have := a3 _ _ _ _ h2
     omega
theorem adv_decl {ws : List W3} {i : Nat} {t : T} {j : Nat} (h : mDecl ws i = .ok t j) : i < j ∧ j ≤ ws.length := by
 unfold mDecl at h
 split at h
 ·obtain ⟨_, h⟩ := wantK_ok h
  obtain ⟨g, h⟩ := want_ok h
  have := isW_lt g
  have := (ok_inj h).2
  omega
 ·obtain ⟨_, h⟩ := want_ok h
  obtain ⟨_, h⟩ := wantK_ok h
  obtain ⟨_, h⟩ := want_ok h
  split at h
  ·obtain ⟨_, h⟩ := want_ok h
   obtain ⟨g, h⟩ := want_ok h
   have := isW_lt g
   have := (ok_inj h).2
   omega
  ·obtain ⟨_, h⟩ := wantK_ok h
   obtain ⟨_, h⟩ := want_ok h
   obtain ⟨g, h⟩ := want_ok h
   have := isW_lt g
   have := (ok_inj h).2
   omega
end Go.Proofs.YtedfnadgmhjojaaGreatDoor
namespace Go.Proofs.YtedfnadgmhjojaaGreatDoor
open Go.RowKit

/-- A tree with the place and the room of each list. -/
inductive A where
 | node (k : Int) (s : ByteArray) (m : Int) (a : Option Addr) (c : Nat) (kids : List A)
theorem A.induct {P : A → Prop} (h : ∀ k s m a c kk, (∀ x ∈ kk, P x) → P (.node k s m a c kk)) : ∀ x, P x
 | .node k s m a c kk => h k s m a c kk fun x _ => A.induct h x
mutual
def A.erase : A → T
 | .node k s m _ _ kk => .node k s m (erases kk)
def erases : List A → List T
 | [] => []
 | x :: r => x.erase :: erases r
end
def A.val : A → Value
 | .node k s m a c kk => .agg #[.int .i64 k, .string s, .int .i64 m, .slice a kk.length c]
def A.cells : A → List Value
 | .node k s m a c kk => [.int .i64 k, .string s, .int .i64 m, .slice a kk.length c]
def cellsL (kk : List A) : List Value := kk.flatMap A.cells
def blockOf (a : Option Addr) : List Nat := match a with
 | some p => [p.block]
 | none => []
mutual
def A.foot : A → List Nat
 | .node _ _ _ a _ kk => (if kk.length = 0 then [] else blockOf a) ++ feet kk
def feet : List A → List Nat
 | [] => []
 | x :: r => x.foot ++ feet r
end
/-- A list lies in a block of its own. -/
def Bed (w : World) (a : Option Addr) (kk : List A) : Prop := kk = [] ∨ ∃ b cs, a = some ⟨b, 0, none⟩ ∧ w.heap[b]? = some (.cells cs 38 (0, 0)) ∧ ∀ (i : Nat) (v : Value), (cellsL kk)[i]? = some v → cs[i]? = some v
mutual
def Sits (w : World) : A → Prop
 | .node _ s _ a _ kk => s.size ≤ maxLen ∧ kk.length ≤ maxLen ∧ Bed w a kk ∧ SitsL w kk
def SitsL (w : World) : List A → Prop
 | [] => True
 | x :: r => Sits w x ∧ SitsL w r
end
theorem erases_len (kk : List A) : (erases kk).length = kk.length := by
 induction kk with
 | nil => rfl
 | cons x r ih => simp only [erases, List.length_cons, ih]
theorem erases_append (p q : List A) : erases (p ++ q) = erases p ++ erases q := by
 induction p with
 | nil => rfl
 | cons x r ih => simp only [List.cons_append, erases, ih]
theorem feet_append (p q : List A) : feet (p ++ q) = feet p ++ feet q := by
 induction p with
 | nil => rfl
 | cons x r ih => simp only [List.cons_append, feet, ih, List.append_assoc]
theorem sitsL_iff (w : World) (kk : List A) : SitsL w kk ↔ ∀ x ∈ kk, Sits w x := by
 induction kk with
 | nil => simp [SitsL]
 | cons x r ih => simp only [SitsL, ih, List.mem_cons, forall_eq_or_imp]
theorem feet_mem {kk : List A} {b : Nat} : b ∈ feet kk ↔ ∃ x ∈ kk, b ∈ x.foot := by
 induction kk with
 | nil => simp [feet]
 | cons x r ih => simp only [feet, List.mem_append, ih, List.mem_cons, exists_eq_or_imp]
theorem cellsL_append (p q : List A) : cellsL (p ++ q) = cellsL p ++ cellsL q := by simp [cellsL]
theorem cellsL_get {kk : List A} {i : Nat} {k m : Int} {s : ByteArray} {a : Option Addr} {c : Nat} {q : List A} (h : kk[i]? = some (.node k s m a c q)) :
    (cellsL kk)[i * 4]? = some (.int .i64 k) ∧ (cellsL kk)[i * 4 + 1]? = some (.string s) ∧ (cellsL kk)[i * 4 + 2]? = some (.int .i64 m) ∧ (cellsL kk)[i * 4 + 3]? = some (.slice a q.length c) := by
 induction kk generalizing i with
 | nil => simp at h
 | cons x r ih =>
   cases i with
   | zero =>
     simp at h
     subst h
     simp [cellsL, A.cells]
   | succ i =>
     simp at h
     have e : cellsL (x :: r) = x.cells ++ cellsL r := by simp [cellsL]
     have l : x.cells.length = 4 := by cases x; rfl
     obtain ⟨h0, h1, h2, h3⟩ := ih h
     rw [e]
     refine ⟨?_, ?_, ?_, ?_⟩ <;> rw [List.getElem?_append_right (by omega), l]
     ·rw [show (i + 1) * 4 - 4 = i * 4 by omega]; exact h0
     ·rw [show (i + 1) * 4 + 1 - 4 = i * 4 + 1 by omega]; exact h1
     ·rw [show (i + 1) * 4 + 2 - 4 = i * 4 + 2 by omega]; exact h2
     ·rw [show (i + 1) * 4 + 3 - 4 = i * 4 + 3 by omega]; exact h3

theorem Bed.stay {w w' : World} {a : Option Addr} {kk : List A} (h : Bed w a kk) (hs : ∀ b ∈ (if kk.length = 0 then [] else blockOf a), w'.heap[b]? = w.heap[b]?) : Bed w' a kk := by
 rcases h with h | ⟨b, cs, rfl, h1, h2⟩
 ·exact .inl h
 ·by_cases e : kk.length = 0
  ·exact .inl (List.eq_nil_of_length_eq_zero e)
  ·rw [if_neg e] at hs
   exact .inr ⟨b, cs, rfl, (hs b (by simp [blockOf])).trans h1, h2⟩
theorem Sits.stay {w w' : World} (x : A) : (∀ b ∈ x.foot, w'.heap[b]? = w.heap[b]?) → Sits w x → Sits w' x := by
 refine A.induct (P := fun x => (∀ b ∈ x.foot, w'.heap[b]? = w.heap[b]?) → Sits w x → Sits w' x) ?_ x
 intro k s m a c kk ih hs h
 simp only [Sits] at h ⊢
 simp only [A.foot, List.mem_append] at hs
 refine ⟨h.1, h.2.1, h.2.2.1.stay fun b hb => hs b (.inl hb), (sitsL_iff _ _).2 fun x hx => ih x hx (fun b hb => hs b (.inr (feet_mem.2 ⟨x, hx, hb⟩))) ((sitsL_iff _ _).1 h.2.2.2 x hx)⟩
theorem SitsL.stay {w w' : World} {kk : List A} (h : SitsL w kk) (hs : ∀ b ∈ feet kk, w'.heap[b]? = w.heap[b]?) : SitsL w' kk :=
 (sitsL_iff _ _).2 fun x hx => Sits.stay x (fun b hb => hs b (feet_mem.2 ⟨x, hx, hb⟩)) ((sitsL_iff _ _).1 h x hx)
/-- What a tree lies in is there. -/
theorem Sits.lt {w : World} (x : A) : Sits w x → ∀ b ∈ x.foot, b < w.heap.size := by
 refine A.induct (P := fun x => Sits w x → ∀ b ∈ x.foot, b < w.heap.size) ?_ x
 intro k s m a c kk ih h b hb
 simp only [Sits] at h
 simp only [A.foot, List.mem_append] at hb
 rcases hb with hb | hb
 ·rcases h.2.2.1 with h1 | ⟨b', cs, rfl, h1, _⟩
  ·subst h1; simp at hb
  ·split at hb
   ·cases hb
   ·simp [blockOf] at hb
    subst hb
    exact (Array.getElem?_eq_some_iff.1 h1).1
 ·obtain ⟨y, hy, hb⟩ := feet_mem.1 hb
  exact ih y hy ((sitsL_iff _ _).1 h.2.2.2 y hy) b hb
theorem SitsL.lt {w : World} {kk : List A} (h : SitsL w kk) : ∀ b ∈ feet kk, b < w.heap.size := fun b hb => by
 obtain ⟨y, hy, hb⟩ := feet_mem.1 hb
 exact Sits.lt y ((sitsL_iff _ _).1 h y hy) b hb
/-- A new tree: no block twice, none of them old. -/
def New (n : Nat) (x : A) : Prop := x.foot.Nodup ∧ ∀ b ∈ x.foot, n ≤ b
def NewL (n : Nat) (kk : List A) : Prop := (feet kk).Nodup ∧ ∀ b ∈ feet kk, n ≤ b
theorem New.mono {n n' : Nat} {x : A} (h : New n x) (hn : n' ≤ n) : New n' x := ⟨h.1, fun b hb => Nat.le_trans hn (h.2 b hb)⟩
theorem NewL.mono {n n' : Nat} {x : List A} (h : NewL n x) (hn : n' ≤ n) : NewL n' x := ⟨h.1, fun b hb => Nat.le_trans hn (h.2 b hb)⟩

theorem erases_get {kk : List A} {i : Nat} {t : T} (h : (erases kk)[i]? = some t) : ∃ x, kk[i]? = some x ∧ x.erase = t := by
 induction kk generalizing i with
 | nil => simp [erases] at h
 | cons x r ih =>
   cases i with
   | zero => simp [erases] at h; exact ⟨x, rfl, h⟩
   | succ i => simp [erases] at h; obtain ⟨y, h1, h2⟩ := ih h; exact ⟨y, by simpa using h1, h2⟩
theorem cell_in {w : World} {b i E : Nat} {cs : Array Value} {v : Value} (h : w.heap[b]? = some (.cells cs E (0, 0))) (hv : cs[i]? = some v) : w.cell? ⟨b, i, none⟩ = some v := by
 rw [Lib.cell_of_heap h]; exact hv
def A.at : A → Option Addr
 | .node _ _ _ a _ _ => a
def A.kids : A → List A
 | .node _ _ _ _ _ kk => kk
theorem Sits.lies {w : World} {lo : Nat} (x : A) : Sits w x → (∀ b ∈ x.foot, lo ≤ b) → Kids w lo x.at (erases x.kids) := by
 refine A.induct (P := fun x => Sits w x → (∀ b ∈ x.foot, lo ≤ b) → Kids w lo x.at (erases x.kids)) ?_ x
 intro k s m a c kk ih h hlo
 simp only [Sits] at h
 simp only [A.foot, List.mem_append] at hlo
 obtain ⟨hs, hn, hb, hl⟩ := h
 rcases hb with rfl | ⟨b, cs, rfl, h1, h2⟩
 ·exact .inl rfl
 ·by_cases e : kk.length = 0
  ·have : kk = [] := List.eq_nil_of_length_eq_zero e
   subst this
   exact .inl rfl
  ·rw [if_neg e] at hlo
   refine .inr ⟨b, 0, rfl, hlo b (.inl (by simp [blockOf])), LiesL.of fun i t ht => ?_⟩
   obtain ⟨y, hy, rfl⟩ := erases_get ht
   have hm := List.mem_of_getElem? hy
   have hsy := (sitsL_iff _ _).1 hl y hm
   have hk := ih y hm hsy (fun b hb => hlo b (.inr (feet_mem.2 ⟨y, hm, hb⟩)))
   obtain ⟨k', s', m', a', c', q⟩ := y
   obtain ⟨g0, g1, g2, g3⟩ := cellsL_get hy
   simp only [Sits] at hsy
   simp only [A.erase]
   unfold Lies
   rw [Nat.zero_add]
   refine ⟨cell_in h1 (h2 _ _ g0), cell_in h1 (h2 _ _ g1), cell_in h1 (h2 _ _ g2), hsy.1, by rw [erases_len]; exact hsy.2.1, a', c', by rw [erases_len]; exact cell_in h1 (h2 _ _ g3), hk⟩
end Go.Proofs.YtedfnadgmhjojaaGreatDoor
namespace Go.Proofs.YtedfnadgmhjojaaGreatDoor
open Go.RowKit
open Pl

theorem str_eq (a b : ByteArray) : (a.toList == b.toList) = decide (a = b) := by
 rw [Bool.eq_iff_iff, beq_iff_eq, decide_eq_true_eq, Lib.toList_data, Lib.toList_data]
 constructor
 ·intro h
  cases a
  cases b
  simpa using h
 ·rintro rfl
  rfl
/-- All old blocks but one are as they were. -/
abbrev Step (rb : Nat) (w w' : World) : Prop := w.grownBy w' (some rb)
theorem Step.refl (rb : Nat) (w : World) : Step rb w w := World.grownBy.refl _ _
theorem Step.trans {rb : Nat} {a b c : World} (h : Step rb a b) (k : Step rb b c) : Step rb a c :=
 ⟨k.os.trans h.os, k.tape.trans h.tape, k.output.trans h.output, Nat.le_trans h.size k.size, fun i hi hn => (k.block i (Nat.lt_of_lt_of_le hi h.size) hn).trans (h.block i hi hn)⟩
theorem Step.at {rb : Nat} {a b : World} (h : Step rb a b) {k : Nat} {o : Obj} (hk : a.heap[k]? = some o) (hne : k ≠ rb) : b.heap[k]? = some o :=
 (h.block k (Array.getElem?_eq_some_iff.1 hk).1 (by simpa using hne)).trans hk
theorem Step.below {rb : Nat} {a b : World} (h : Step rb a b) : rb < a.heap.size → Below rb a b := fun hr =>
 ⟨h.os, h.tape, h.output, h.size, fun k hk => h.block k (by omega) (by simp; omega)⟩
theorem Step.drew {rb : Nat} {a b : World} (h : Step rb a b) : Step rb a b.drew := ⟨h.os, h.tape, h.output, h.size, h.block⟩
theorem Step.drewN {rb : Nat} {a b : World} (h : Step rb a b) (n : Nat) : Step rb a (b.drewN n) := ⟨h.os, h.tape, h.output, h.size, h.block⟩
theorem Step.alloc {rb : Nat} {a b : World} (h : Step rb a b) (o : Obj) : Step rb a (b.alloc o) :=
 h.trans ⟨rfl, rfl, rfl, by simp, fun k hk _ => Lib.alloc_old _ _ _ hk⟩
theorem Step.setCell {rb : Nat} {a b : World} (h : Step rb a b) {p : Addr} (hp : a.heap.size ≤ p.block ∨ p.block = rb) (u : Value) : Step rb a (b.setCell p u) :=
 ⟨h.os, h.tape, h.output, by simp only [World.setCell, Array.size_modify]; exact h.size, fun k hk hn => by
  rw [Below.heap_setCell _ _ _ _ (by rcases hp with hp | hp
                                     ·omega
                                     ·intro e; exact hn (by rw [e, hp]))]
  exact h.block k hk hn⟩
/-- What lies apart from the reader, and is old, stays. -/
theorem Step.sits {rb : Nat} {a b : World} (h : Step rb a b) {x : A} (hs : Sits a x) (hne : ∀ q ∈ x.foot, q ≠ rb) : Sits b x :=
 Sits.stay x (fun q hq => h.block q (Sits.lt x hs q hq) (by simpa using hne q hq)) hs
theorem Step.sitsL {rb : Nat} {a b : World} (h : Step rb a b) {x : List A} (hs : SitsL a x) (hne : ∀ q ∈ feet x, q ≠ rb) : SitsL b x :=
 hs.stay (fun q hq => h.block q (SitsL.lt hs q hq) (by simpa using hne q hq))

theorem LiesW.keep {w w' : World} {g : Nat} {ws : List W3} (h : LiesW w g 0 ws) (hb : ws = [] ∨ w'.heap[g]? = w.heap[g]?) : LiesW w' g 0 ws := fun i x hx => by
 rcases hb with rfl | hb
 ·simp at hx
 ·obtain ⟨h0, h1, h2⟩ := h i x hx
  have e : ∀ o, w'.cell? ⟨g, o, none⟩ = w.cell? ⟨g, o, none⟩ := fun o => World.cell?_of_block (w := w) (a := ⟨g, o, none⟩) hb
  exact ⟨(e _).trans h0, (e _).trans h1, (e _).trans h2⟩
end Go.Proofs.YtedfnadgmhjojaaGreatDoor
namespace Go.Proofs.YtedfnadgmhjojaaGreatDoor
end Go.Proofs.YtedfnadgmhjojaaGreatDoor
namespace Go.Proofs.YtedfnadgmhjojaaGreatDoor
open Go.RowKit
open Pl

theorem num_short {s : ByteArray} (h : numB s = true) : s.size ≤ 7 := by
 have hp : numP s := by simpa [numB] using h
 rcases Nat.lt_or_ge 7 s.size with q | q
 ·have := val_long s s.size q hp.2.1 (hp.2.2.1 (by omega))
  have := hp.2.2.2
  omega
 ·exact q
theorem kind_num {s : ByteArray} (h : kindI s = 2) : numB s = true := by
 unfold kindI at h
 split at h
 ·cases h
 ·split at h
  ·cases h
  ·split at h
   ·assumption
   ·split at h <;> cases h
theorem word_num {ws : List W3} (hw : WsOk ws) {i : Nat} (h : kindW ws i = 2) : numB (textW ws i) = true := by
 have hi := kindW_lt h (by decide)
 unfold kindW at h
 unfold textW
 rw [List.getElem?_eq_getElem hi] at h ⊢
 simp only at h ⊢
 exact kind_num (by rw [(hw _ (List.getElem_mem hi)).1, h])
theorem Step.of_below {rb : Nat} {a b : World} (h : Below a.heap.size a b) : Step rb a b := grown_below h

end Go.Proofs.YtedfnadgmhjojaaGreatDoor
namespace Go.Proofs.YtedfnadgmhjojaaGreatDoor
open Go.RowKit

theorem Sits.node {w' : World} {xs : List A} {k m : Int} {s : ByteArray} {b c : Nat} {cs : Array Value} (hs : s.size ≤ maxLen) (hn : xs.length ≤ maxLen) (hl : SitsL w' xs)
    (hb : w'.heap[b]? = some (.cells cs 38 (0, 0))) (hcs : ∀ (i : Nat) (v : Value), (cellsL xs)[i]? = some v → cs[i]? = some v) : Sits w' (.node k s m (some ⟨b, 0, none⟩) c xs) := by
 simp only [Sits]
 exact ⟨hs, hn, .inr ⟨b, cs, rfl, hb, hcs⟩, hl⟩
theorem Sits.leaf (w : World) {k m : Int} {s : ByteArray} (a : Option Addr) (c : Nat) (hs : s.size ≤ maxLen) : Sits w (.node k s m a c []) := by
 simp only [Sits, SitsL, List.length_nil]
 exact ⟨hs, Nat.zero_le _, .inl rfl, trivial⟩
theorem New.leaf (n : Nat) (k m : Int) (s : ByteArray) (a : Option Addr) (c : Nat) : New n (.node k s m a c []) := by
 simp [New, A.foot, feet]
theorem New.node {n b c : Nat} {xs : List A} {k m : Int} {s : ByteArray} (h : NewL n xs) (hb : n ≤ b) (hno : b ∉ feet xs) : New n (.node k s m (some ⟨b, 0, none⟩) c xs) := by
 unfold New
 simp only [A.foot]
 by_cases e : xs.length = 0
 ·rw [if_pos e, List.nil_append]
  exact h
 ·rw [if_neg e]
  simp only [blockOf]
  refine ⟨List.nodup_cons.2 ⟨hno, h.1⟩, fun q hq => ?_⟩
  rcases List.mem_cons.1 hq with rfl | hq
  ·exact hb
  ·exact h.2 q hq
theorem NewL.one {n : Nat} {x : A} (h : New n x) : NewL n [x] := by
 unfold NewL
 simp only [feet, List.append_nil]
 exact h
theorem NewL.snoc {n n1 : Nat} {xs : List A} {x : A} (h : NewL n xs) (hlt : ∀ b ∈ feet xs, b < n1) (hx : New n1 x) (hn : n ≤ n1) : NewL n (xs ++ [x]) := by
 unfold NewL
 rw [feet_append]
 simp only [feet, List.append_nil]
 refine ⟨List.nodup_append.2 ⟨h.1, hx.1, fun p hp q hq e => ?_⟩, fun b hb => ?_⟩
 ·have h1 := hlt p hp
  have h2 := hx.2 q hq
  omega
 ·rcases List.mem_append.1 hb with hb | hb
  ·exact h.2 b hb
  ·exact Nat.le_trans hn (hx.2 b hb)
theorem sitsL_one {w : World} {x : A} (h : Sits w x) : SitsL w [x] := ⟨h, trivial⟩
theorem sitsL_snoc {w : World} {xs : List A} {x : A} (h : SitsL w xs) (hx : Sits w x) : SitsL w (xs ++ [x]) :=
 (sitsL_iff _ _).2 fun y hy => by
  rcases List.mem_append.1 hy with hy | hy
  ·exact (sitsL_iff _ _).1 h y hy
  ·rw [List.mem_singleton.1 hy]; exact hx
theorem feet_one (x : A) : feet [x] = x.foot := by simp [feet]
theorem erase1 (k m : Int) (s : ByteArray) (a : Option Addr) (c : Nat) (x : A) : (A.node k s m a c [x]).erase = .node k s m [x.erase] := by simp only [A.erase, erases]
theorem erase2 (k m : Int) (s : ByteArray) (a : Option Addr) (c : Nat) (x y : A) : (A.node k s m a c [x, y]).erase = .node k s m [x.erase, y.erase] := by simp only [A.erase, erases]
theorem erase3 (k m : Int) (s : ByteArray) (a : Option Addr) (c : Nat) (x y z : A) : (A.node k s m a c [x, y, z]).erase = .node k s m [x.erase, y.erase, z.erase] := by simp only [A.erase, erases]
theorem erase0 (k m : Int) (s : ByteArray) (a : Option Addr) (c : Nat) : (A.node k s m a c []).erase = .node k s m [] := by simp only [A.erase, erases]

theorem four_of {w : World} {p : Nat} {v0 v1 v2 v3 : Value} (h : w.heap[p]? = some (.cells #[v0, v1, v2, v3] 38 (0, 0))) :
    w.cell? ⟨p, 0, none⟩ = some v0 ∧ w.cell? ⟨p, 1, none⟩ = some v1 ∧ w.cell? ⟨p, 2, none⟩ = some v2 ∧ w.cell? ⟨p, 3, none⟩ = some v3 ∧
    w.frozen? ⟨p, 0, none⟩ = false ∧ w.frozen? ⟨p, 1, none⟩ = false ∧ w.frozen? ⟨p, 2, none⟩ = false ∧ w.frozen? ⟨p, 3, none⟩ = false :=
 ⟨by rw [Lib.cell_of_heap h]; rfl, by rw [Lib.cell_of_heap h]; rfl, by rw [Lib.cell_of_heap h]; rfl, by rw [Lib.cell_of_heap h]; rfl, Lib.frozen_of_heap h 0, Lib.frozen_of_heap h 1, Lib.frozen_of_heap h 2, Lib.frozen_of_heap h 3⟩
@[reducible] def put4 (w : World) (p : Nat) (v0 v1 v2 v3 : Value) : World := (((w.setCell ⟨p, 0, none⟩ v0).setCell ⟨p, 1, none⟩ v1).setCell ⟨p, 2, none⟩ v2).setCell ⟨p, 3, none⟩ v3
theorem put4_at {w : World} {p : Nat} {u0 u1 u2 u3 : Value} (h : w.heap[p]? = some (.cells #[u0, u1, u2, u3] 38 (0, 0))) (v0 v1 v2 v3 : Value) : (put4 w p v0 v1 v2 v3).heap[p]? = some (.cells #[v0, v1, v2, v3] 38 (0, 0)) := by
 unfold put4
 rw [heap_setCell_same _ p 3 _ 38 _ (heap_setCell_same _ p 2 _ 38 _ (heap_setCell_same _ p 1 _ 38 _ (heap_setCell_same _ p 0 _ 38 _ h)))]
 rfl
theorem put4_other {w : World} {p k : Nat} (v0 v1 v2 v3 : Value) (h : k ≠ p) : (put4 w p v0 v1 v2 v3).heap[k]? = w.heap[k]? := by
 unfold put4
 rw [Below.heap_setCell _ _ _ _ h, Below.heap_setCell _ _ _ _ h, Below.heap_setCell _ _ _ _ h, Below.heap_setCell _ _ _ _ h]
theorem put4_size (w : World) (p : Nat) (v0 v1 v2 v3 : Value) : (put4 w p v0 v1 v2 v3).heap.size = w.heap.size := by
 simp [put4, World.setCell]
theorem put4_step {rb : Nat} {a b : World} (h : Step rb a b) {p : Nat} (hp : a.heap.size ≤ p) (v0 v1 v2 v3 : Value) : Step rb a (put4 b p v0 v1 v2 v3) :=
 (((h.setCell (p := ⟨p, 0, none⟩) (.inl hp) _).setCell (p := ⟨p, 1, none⟩) (.inl hp) _).setCell (p := ⟨p, 2, none⟩) (.inl hp) _).setCell (p := ⟨p, 3, none⟩) (.inl hp) _
theorem put4_cells0 {w : World} {p : Nat} {u0 u1 u2 u3 : Value} (h : w.heap[p]? = some (.cells #[u0, u1, u2, u3] 38 (0, 0))) (v0 v1 v2 v3 : Value) :
    (put4 w p v0 v1 v2 v3).cell? ⟨p, 0, none⟩ = some v0 ∧ (put4 w p v0 v1 v2 v3).cell? ⟨p, 1, none⟩ = some v1 ∧ (put4 w p v0 v1 v2 v3).cell? ⟨p, 2, none⟩ = some v2 ∧ (put4 w p v0 v1 v2 v3).cell? ⟨p, 3, none⟩ = some v3 := by
 obtain ⟨a, b, c, d, _⟩ := four_of (put4_at h v0 v1 v2 v3)
 exact ⟨a, b, c, d⟩
end Go.Proofs.YtedfnadgmhjojaaGreatDoor
