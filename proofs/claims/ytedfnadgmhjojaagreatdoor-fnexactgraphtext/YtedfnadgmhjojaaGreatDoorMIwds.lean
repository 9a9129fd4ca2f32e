/-
  CONTRACTS of the specification's l01Skip and l01End.
  CONTRACT of the specification's Words.
  PLAIN FACTS on parts of a text; CONTRACTS of the program's isBlank, noteSize, longestSign, longestWord, and of strings.Clone.
  CONTRACTS of the program's longestSign, longestWord, and of strings.Clone.
  PLAIN FACTS: what the program takes for the next word, against what the specification takes; how far a step over a rune goes.
  CONTRACT of the program's Words.
-/
import Derived.Test.YtedfnadgmhjojaaGreatDoorMScan
import Derived.Deep.AppendLies
import Derived.Lib.IndexLaws
namespace Go.Proofs.YtedfnadgmhjojaaGreatDoor
open Go.RowKit
open Pl

theorem blank_eq {s : ByteArray} {k : Nat} (h : k < s.size) : blankB s k = ((((s[k]'h).toNat : Int) == 32) || (((s[k]'h).toNat : Int) == 10)) := by
 unfold blankB; rw [byt_eq s k h]

set_option maxRecDepth 100000 in
set_option maxHeartbeats 1000000 in
theorem sSkip_any (s : ByteArray) (at_ : Nat) (w : World) (hs : s.size ≤ 4000) (hat : at_ ≤ s.size) :
    Calls Tryz.prog 83 #[.string s, .int .i64 at_] w fun e w' => e = .returned (.int .i64 (skipI s at_ : Nat)) ∧ w = w' := by
 go_enter Tryz.func83, Tryz.ntmps83
 go_wp2
 go_loop [1] (fun v => ∃ p : Nat, at_ ≤ p ∧ p ≤ s.size ∧ v = .int .i64 p ∧ skipI s at_ = skipI s p) (fun v => s.size - (intOf v).toNat)
 case atStart => exact ⟨at_, Nat.le_refl _, hat, rfl, rfl⟩
 case round =>
  obtain ⟨p, hap, hps, rfl, heq⟩ := hrel
  have HE := mkHid heq
  clear heq
  by_cases hlt : p < s.size
  ·have HBY := mkHid (byt_eq s p hlt)
   have HBL := mkHid (blank_eq hlt)
   by_cases h32 : (((s[p]'hlt).toNat : Int) == 32) = true
   ·have HN := mkHid (show skipI s at_ = skipI s (p + 1) by rw [HE.out]; exact skip_blank hlt (by rw [HBL.out, h32]; rfl))
    clear HE HBY HBL
    go_wp2
    go_round
    case rel => exact ⟨p + 1, by omega, by omega, by go_num, HN.out⟩
    case measure => simp [intOf]; omega
   ·simp only [Bool.not_eq_true] at h32
    by_cases h10 : (((s[p]'hlt).toNat : Int) == 10) = true
    ·have HN := mkHid (show skipI s at_ = skipI s (p + 1) by rw [HE.out]; exact skip_blank hlt (by rw [HBL.out, h32, h10]; rfl))
     clear HE HBY HBL
     go_wp2
     go_round
     case rel => exact ⟨p + 1, by omega, by omega, by go_num, HN.out⟩
     case measure => simp [intOf]; omega
    ·simp only [Bool.not_eq_true] at h10
     by_cases h35 : (((s[p]'hlt).toNat : Int) == 35) = true
     ·have HN := mkHid (show skipI s at_ = skipI s (noteE s p) by rw [HE.out]; exact skip_note hlt (by rw [HBY.out]; simpa using h35))
      have HG := mkHid (noteE_gt hlt (by rw [HBY.out]; simpa using h35))
      clear HE HBY HBL
      go_wp2
      go_loop [1] (fun v => ∃ q : Nat, p ≤ q ∧ q ≤ s.size ∧ v = .int .i64 q ∧ ∀ j, p ≤ j → j < q → (byt s j == 10) = false) (fun v => s.size - (intOf v).toNat)
      case atStart => exact ⟨p, Nat.le_refl _, hps, rfl, fun j h1 h2 => by omega⟩
      case round =>
       obtain ⟨q, hpq, hqs, rfl, hq⟩ := hrel
       have HQ := mkHid hq
       clear hq h32 h10 h35
       by_cases hlq : q < s.size
       ·have HBQ := mkHid (byt_eq s q hlq)
        by_cases g10 : (((s[q]'hlq).toNat : Int) != 10) = true
        ·have HQ1 : Hid (∀ j, p ≤ j → j < q + 1 → (byt s j == 10) = false) := fun j h1 h2 => by
           rcases (by omega : j < q ∨ j = q) with h | rfl
           ·exact HQ.out j h1 h
           ·rw [HBQ.out]; simpa using g10
         clear HQ HBQ
         go_wp2
         go_round
         case rel => exact ⟨q + 1, by omega, by omega, by go_num, HQ1.out⟩
         case measure => simp [intOf]; omega
        ·simp only [Bool.not_eq_true] at g10
         have HF : Hid (noteE s p = q) := first_eq ⟨hpq, hqs, HQ.out, .inr (by show (byt s q == 10) = true; rw [HBQ.out]; simpa using g10)⟩
         clear HQ HBQ
         go_wp2
         go_round
         case rel => exact ⟨q, by omega, hqs, rfl, by rw [HN.out, HF.out]⟩
         case measure => have := HG.out; rw [HF.out] at this; simp [intOf]; omega
       ·have HF : Hid (noteE s p = q) := first_eq ⟨hpq, hqs, HQ.out, .inl (by omega)⟩
        clear HQ
        go_wp2
        go_round
        case rel => exact ⟨q, by omega, hqs, rfl, by rw [HN.out, HF.out]⟩
        case measure => have := HG.out; rw [HF.out] at this; simp [intOf]; omega
     ·simp only [Bool.not_eq_true] at h35
      have HN := mkHid (show skipI s at_ = p by
       rw [HE.out]
       exact skip_stop hlt (by rw [HBL.out, h32, h10]; rfl) (by rw [HBY.out]; simpa using h35))
      clear HE HBY HBL
      go_wp2
      go_ret
      exact ⟨ret_int (by rw [HN.out]), rfl⟩
  ·have HN := mkHid (show skipI s at_ = p by rw [HE.out]; exact skip_end hlt)
   go_wp2
   go_ret
   exact ⟨ret_int (by rw [HN.out]), rfl⟩

set_option maxRecDepth 100000 in
set_option maxHeartbeats 1000000 in
theorem sEnd_any (s : ByteArray) (at_ : Nat) (w : World) (hs : s.size ≤ 4000) (hat : at_ < s.size) :
    Calls Tryz.prog 84 #[.string s, .int .i64 at_] w fun e w' => e = .returned (.int .i64 (endI s at_ : Nat)) ∧ Below w.heap.size w w' := by
 have HBY := mkHid (byt_eq s at_ hat)
 by_cases ha : alnum s at_ = true
 ·have HE := mkHid (show endI s at_ = runE s at_ by simp [endI, ha])
  have key : Calls Tryz.prog 84 #[.string s, .int .i64 at_] w fun e w' => e = .returned (.int .i64 (runE s at_ : Nat)) ∧ Below w.heap.size w w' := by
   have hor : lowI (((s[at_]'hat).toNat : Nat) : Int) = true ∨ (lowI (((s[at_]'hat).toNat : Nat) : Int) = false ∧ digI (((s[at_]'hat).toNat : Nat) : Int) = true) := by
    unfold alnum at ha
    rw [HBY.out] at ha
    revert ha
    cases lowI (((s[at_]'hat).toNat : Nat) : Int) <;> simp
   clear HE
   have HA := mkHid ha
   clear ha
   rcases hor with g1 | ⟨g1, g2⟩
   all_goals
    go_enter Tryz.func84, Tryz.ntmps84
    go_wp2_with (first | (go_at_call 111; refine (sLetter_any _ _).mono ?_; rintro e w' ⟨rfl, rfl⟩) | (go_at_call 113; refine (sDigit_any _ _).mono ?_; rintro e w' ⟨rfl, rfl⟩))
    go_loop [1] (fun v => ∃ q : Nat, at_ ≤ q ∧ q ≤ s.size ∧ v = .int .i64 q ∧ ∀ j, at_ ≤ j → j < q → (!alnum s j) = false) (fun v => s.size - (intOf v).toNat)
    case atStart => exact ⟨at_, Nat.le_refl _, by omega, rfl, fun j h1 h2 => by omega⟩
    case round =>
     obtain ⟨q, hpq, hqs, rfl, hq⟩ := hrel
     have HQ := mkHid hq
     first | clear hq g1 g2 | clear hq g1
     by_cases hlq : q < s.size
     ·have HBQ := mkHid (byt_eq s q hlq)
      by_cases k1 : lowI (((s[q]'hlq).toNat : Nat) : Int) = true
      ·have HQ1 : Hid (∀ j, at_ ≤ j → j < q + 1 → (!alnum s j) = false) := fun j h1 h2 => by
         rcases (by omega : j < q ∨ j = q) with h | rfl
         ·exact HQ.out j h1 h
         ·unfold alnum; rw [HBQ.out, k1]; rfl
       clear HQ HBQ
       go_wp2_with (first | (go_at_call 111; refine (sLetter_any _ _).mono ?_; rintro e w' ⟨rfl, rfl⟩) | (go_at_call 113; refine (sDigit_any _ _).mono ?_; rintro e w' ⟨rfl, rfl⟩))
       go_round
       case rel => exact ⟨q + 1, by omega, by omega, by go_num, HQ1.out⟩
       case measure => simp [intOf]; omega
      ·simp only [Bool.not_eq_true] at k1
       by_cases k2 : digI (((s[q]'hlq).toNat : Nat) : Int) = true
       ·have HQ1 : Hid (∀ j, at_ ≤ j → j < q + 1 → (!alnum s j) = false) := fun j h1 h2 => by
          rcases (by omega : j < q ∨ j = q) with h | rfl
          ·exact HQ.out j h1 h
          ·unfold alnum; rw [HBQ.out, k2]; simp
        clear HQ HBQ
        go_wp2_with (first | (go_at_call 111; refine (sLetter_any _ _).mono ?_; rintro e w' ⟨rfl, rfl⟩) | (go_at_call 113; refine (sDigit_any _ _).mono ?_; rintro e w' ⟨rfl, rfl⟩))
        go_round
        case rel => exact ⟨q + 1, by omega, by omega, by go_num, HQ1.out⟩
        case measure => simp [intOf]; omega
       ·simp only [Bool.not_eq_true] at k2
        have HF : Hid (runE s at_ = q) := first_eq ⟨hpq, hqs, HQ.out, .inr (by show (!alnum s q) = true; unfold alnum; rw [HBQ.out, k1, k2]; rfl)⟩
        clear HQ HBQ
        go_wp2_with (first | (go_at_call 111; refine (sLetter_any _ _).mono ?_; rintro e w' ⟨rfl, rfl⟩) | (go_at_call 113; refine (sDigit_any _ _).mono ?_; rintro e w' ⟨rfl, rfl⟩))
        go_ret
        exact ⟨ret_int (by rw [HF.out]), Below.refl _ _⟩
     ·have HF : Hid (runE s at_ = q) := first_eq ⟨hpq, hqs, HQ.out, .inl (by omega)⟩
      clear HQ
      go_wp2
      go_ret
      exact ⟨ret_int (by rw [HF.out]), Below.refl _ _⟩
  rw [HE.out]
  exact key
 ·simp only [Bool.not_eq_true] at ha
  have hno : lowI (((s[at_]'hat).toNat : Nat) : Int) = false ∧ digI (((s[at_]'hat).toNat : Nat) : Int) = false := by
   unfold alnum at ha
   rw [HBY.out] at ha
   simpa using ha
  obtain ⟨g1, g2⟩ := hno
  by_cases h2 : (at_ : Int) + 1 < (s.size : Int)
  ·by_cases hsg : signB (s.extract at_ (at_ + 2)) = true
   ·have HE := mkHid (show endI s at_ = at_ + 2 by
      unfold endI
      rw [if_neg (by simp [ha]), if_pos ⟨by omega, hsg⟩])
    clear ha HBY
    go_enter Tryz.func84, Tryz.ntmps84
    go_wp2_with (first | (go_at_call 111; refine (sLetter_any _ _).mono ?_; rintro e w' ⟨rfl, rfl⟩) | (go_at_call 113; refine (sDigit_any _ _).mono ?_; rintro e w' ⟨rfl, rfl⟩) | (go_at_call 115; refine (sSign_any _ _).mono ?_; rintro e w1 ⟨rfl, hb1⟩))
    go_ret
    exact ⟨ret_int (by rw [HE.out]; omega), hb1⟩
   ·have HE := mkHid (show endI s at_ = at_ + 1 by
      unfold endI
      rw [if_neg (by simp [ha]), if_neg (fun h => hsg h.2)])
    simp only [Bool.not_eq_true] at hsg
    clear ha HBY
    go_enter Tryz.func84, Tryz.ntmps84
    go_wp2_with (first | (go_at_call 111; refine (sLetter_any _ _).mono ?_; rintro e w' ⟨rfl, rfl⟩) | (go_at_call 113; refine (sDigit_any _ _).mono ?_; rintro e w' ⟨rfl, rfl⟩) | (go_at_call 115; refine (sSign_any _ _).mono ?_; rintro e w1 ⟨rfl, hb1⟩))
    go_ret
    exact ⟨ret_int (by rw [HE.out]; omega), hb1⟩
  ·have HE := mkHid (show endI s at_ = at_ + 1 by
     unfold endI
     rw [if_neg (by simp [ha]), if_neg (fun h => h2 (by omega))])
   clear ha HBY
   go_enter Tryz.func84, Tryz.ntmps84
   go_wp2_with (first | (go_at_call 111; refine (sLetter_any _ _).mono ?_; rintro e w' ⟨rfl, rfl⟩) | (go_at_call 113; refine (sDigit_any _ _).mono ?_; rintro e w' ⟨rfl, rfl⟩))
   go_ret
   exact ⟨ret_int (by rw [HE.out]; omega), Below.refl _ _⟩
end Go.Proofs.YtedfnadgmhjojaaGreatDoor
namespace Go.Proofs.YtedfnadgmhjojaaGreatDoor
open Go.RowKit
open Pl

/-- A slice of our own that holds words. -/
def Owns (w : World) (base : Nat) (v : Value) (ws : List W3) : Prop := w.ownsRow base 99 3 v ws.length (flat ws)
theorem Owns.below {w w' : World} {base : Nat} {v : Value} {ws : List W3} (h : Owns w base v ws) (hb : Below w.heap.size w w') : Owns w' base v ws := owns_below h hb
theorem Owns.setCell {w : World} {base : Nat} {v : Value} {ws : List W3} (h : Owns w base v ws) (a : Addr) (u : Value) (hne : a.block < base) : Owns (w.setCell a u) base v ws := by
 refine World.ownsRow.kept (row := some a.block) h ⟨rfl, rfl, rfl, by simp [World.setCell], fun k _ hk => Below.heap_setCell _ _ _ _ (fun e => hk (by simp [e]))⟩ (.inr ?_)
 intro e
 have := (World.ownsRow.lt h _ e).1
 omega

theorem owns_fresh {w' : World} {g base : Nat} (hb : base ≤ g) (hg : w'.heap[g]? = some (.cells #[] 99 (0, 0))) : Owns w' base (.slice (some ⟨g, 0, none⟩) 0 0) [] :=
 ⟨rfl, .inr ⟨g, 0, #[], rfl, hb, hg, Nat.le_refl _, by unfold maxLen; omega, rfl, rfl⟩⟩
theorem Owns.form {w : World} {base : Nat} {v : Value} {ws : List W3} (h : Owns w base v ws) : ∃ ao cap, v = .slice ao ws.length cap := by
 rcases h.2 with ⟨rfl, h0⟩ | ⟨g, cap, cur, rfl, _⟩
 ·exact ⟨none, 0, by rw [h0]⟩
 ·exact ⟨_, _, rfl⟩
theorem Owns.mono {w : World} {base base' : Nat} {v : Value} {ws : List W3} (h : Owns w base v ws) (hb : base' ≤ base) : Owns w base' v ws := by
 refine ⟨h.1, ?_⟩
 rcases h.2 with h0 | ⟨g, cap, cur, e1, e2, e3⟩
 ·exact .inl h0
 ·exact .inr ⟨g, cap, cur, e1, by omega, e3⟩
theorem Owns.off {w : World} {base n : Nat} {v : Value} {ws : List W3} (h : Owns w base v ws) (hn : n < base) : v.ownBlock ≠ some n := fun e => by
 have := (World.ownsRow.lt h _ e).1
 omega
theorem three_new (w : World) (a b c : Value) (j : Nat) (u : Value) (h : [a, b, c][j]? = some u) : (w.alloc (.cells #[a, b, c] 99)).cell? ((⟨w.heap.size, 0, none⟩ : Addr).add j) = some u := by
 rw [WideShapes.add_plain, Nat.zero_add, World.cell?_alloc_new]
 simpa using h
theorem flat_snoc (ws : List W3) (x : W3) : flat ws ++ [.int .i64 x.k, .string x.s, .int .i64 x.a] = flat (ws ++ [x]) := by rw [flat_append]; rfl

theorem two_set {w : World} {n : Nat} {a b c d : Value} {T : TypeId} (h : w.heap[n]? = some (.cells #[a, b] T (0, 0))) : ((w.setCell ⟨n, 0, none⟩ c).setCell ⟨n, 1, none⟩ d).heap[n]? = some (.cells #[c, d] T (0, 0)) := by
 have h1 := heap_setCell_same w n 0 _ T c h
 have h2 := heap_setCell_same (w.setCell ⟨n, 0, none⟩ c) n 1 _ T d h1
 rw [h2]; rfl
theorem two_size (w : World) (n : Nat) (c d : Value) : ((w.setCell ⟨n, 0, none⟩ c).setCell ⟨n, 1, none⟩ d).heap.size = w.heap.size := by simp [World.setCell]
/-- What a call that answers a fault leaves: the fault in its variable, an empty slice in a new block. -/
theorem fault_end {w w2 : World} {c d : Value} (hN : w2.heap[w.heap.size]? = some (.cells #[.int .i64 0, .int .i64 0] 75 (0, 0))) (hs : w.heap.size < w2.heap.size) (hB : Below w.heap.size w w2) :
    (((w2.setCell ⟨w.heap.size, 0, none⟩ c).setCell ⟨w.heap.size, 1, none⟩ d).alloc (.cells #[] 99)).cell? ⟨w.heap.size, 0, none⟩ = some c ∧
    (((w2.setCell ⟨w.heap.size, 0, none⟩ c).setCell ⟨w.heap.size, 1, none⟩ d).alloc (.cells #[] 99)).cell? ⟨w.heap.size, 1, none⟩ = some d ∧
    Owns (((w2.setCell ⟨w.heap.size, 0, none⟩ c).setCell ⟨w.heap.size, 1, none⟩ d).alloc (.cells #[] 99)) w.heap.size (.slice (some ⟨w2.heap.size, 0, none⟩) 0 0) [] ∧
    Below w.heap.size w (((w2.setCell ⟨w.heap.size, 0, none⟩ c).setCell ⟨w.heap.size, 1, none⟩ d).alloc (.cells #[] 99)) := by
 have h2 := two_set (c := c) (d := d) hN
 have hz := two_size w2 w.heap.size c d
 have h3 : (((w2.setCell ⟨w.heap.size, 0, none⟩ c).setCell ⟨w.heap.size, 1, none⟩ d).alloc (.cells #[] 99)).heap[w.heap.size]? = some (.cells #[c, d] 75 (0, 0)) := by
  rw [Lib.alloc_old _ _ _ (by omega)]; exact h2
 refine ⟨by rw [Lib.cell_of_heap h3]; rfl, by rw [Lib.cell_of_heap h3]; rfl, owns_fresh (by omega) ?_, ?_⟩
 ·have := heap_alloc_new ((w2.setCell ⟨w.heap.size, 0, none⟩ c).setCell ⟨w.heap.size, 1, none⟩ d) (.cells #[] 99)
  rw [hz] at this
  exact this
 ·exact (((hB.setCell (p := ⟨w.heap.size, 0, none⟩) (Nat.le_refl _) _).setCell (p := ⟨w.heap.size, 1, none⟩) (Nat.le_refl _) _)).alloc (by omega) _

set_option maxRecDepth 100000 in
set_option maxHeartbeats 2000000 in
theorem sWords_any (s : ByteArray) (w : World) (hs : s.size ≤ maxLen) :
    Calls Tryz.prog 62 #[.string s] w fun e w' => ∃ v, e = .returned (.tuple #[v, .agg #[.int .i64 (wordsI s).2.1, .int .i64 (wordsI s).2.2]]) ∧ Owns w' w.heap.size v (wordsI s).1 ∧ Below w.heap.size w w' := by
 unfold maxLen at hs
 by_cases h4 : 4000 < (s.size : Int)
 ·have HW := mkHid (show wordsI s = ([], 1, 0) by unfold wordsI; rw [if_pos (by omega)])
  rw [HW.out]
  go_enter Tryz.func62, Tryz.ntmps62
  go_wp2
  exact bodyPost_ret (v := .tuple #[.slice (some ⟨w.heap.size + 1, 0, none⟩) 0 0, .agg #[.int .i64 1, .int .i64 0]]) (by simp [results, Tryz.results62, go_sem]) rfl
   ⟨_, rfl, owns_fresh (by omega) (by have := heap_alloc_new (w.alloc (.cells #[.int .i64 1, .int .i64 0] 75)) (.cells #[] 99); simpa using this), ((Below.refl _ _).alloc (Nat.le_refl _) _).alloc (by simp) _⟩
 ·have HW := mkHid (show wordsI s = scanI s (skipI s 0) [] by unfold wordsI; rw [if_neg (by omega)])
  have k0 := skip_le (s := s) (Nat.zero_le _)
  obtain ⟨i0, hi, hz⟩ := Option.map_eq_some_iff.1 Tryz.info99
  simp only [Prod.mk.injEq] at hz
  obtain ⟨hz0, hz1, hz2⟩ := hz
  have HI := mkHid (show Tryz.prog.info? 99 = some i0 ∧ i0.zero = some (.agg #[.int .i64 0, .string ByteArray.empty, .int .i64 0]) ∧ i0.size = 3 ∧ i0.bytes = 32 from ⟨hi, hz0, hz1, hz2⟩)
  clear hi hz0 hz1 hz2
  go_enter Tryz.func62, Tryz.ntmps62
  go_wp2_with fail
  refine (sSkip_any s 0 _ (by omega) (Nat.zero_le _)).mono ?_
  rintro e w1 ⟨rfl, rfl⟩
  go_wp2
  go_loopw [4, 5] (fun o a w' => ∃ (p : Nat) (ws : List W3) (ao : Option Addr) (cap : Nat), a = .int .i64 p ∧ o = .slice ao ws.length cap ∧ p ≤ s.size ∧ Owns w' (w.heap.size + 1) (.slice ao ws.length cap) ws ∧ ws.length ≤ 1500 ∧ scanI s p ws = wordsI s ∧
   w'.heap[w.heap.size]? = some (.cells #[.int .i64 0, .int .i64 0] 75 (0, 0)) ∧ Below w.heap.size w w') (fun _ a _ => s.size - (intOf a).toNat)
  case atStart =>
   refine ⟨skipI s 0, [], _, 0, rfl, rfl, k0, owns_fresh (Nat.le_refl _) ?_, by simp, HW.out.symm, ?_, ((Below.refl _ _).alloc (Nat.le_refl _) _).alloc (by simp) _⟩
   ·have := heap_alloc_new (w.alloc (.cells #[.int .i64 0, .int .i64 0] 75)) (.cells #[] 99)
    simpa using this
   ·rw [Lib.alloc_old _ _ _ (by simp)]
    exact heap_alloc_new w _
  case round =>
   obtain ⟨p, ws, ao, cap, rfl, rfl, hps, hown, hmax, hscan, hcellN, hbel⟩ := hrel
   have HO := mkHid hown
   have HS := mkHid hscan
   have HN := mkHid hcellN
   have HB := mkHid hbel
   have hNs : w.heap.size < wr.heap.size := by
    rcases Nat.lt_or_ge w.heap.size wr.heap.size with h' | h'
    ·exact h'
    ·simp [Array.getElem?_eq_none h'] at hcellN
   clear hown hscan hcellN hbel HW k0
   by_cases hlt : p < s.size
   ·obtain ⟨he1, he2⟩ := endI_gt hlt
    go_wp2_with fail
    refine (sEnd_any s p _ (by omega) hlt).mono ?_
    rintro e w1 ⟨rfl, hb1⟩
    have HB1 := mkHid (below_step HB.out hb1)
    have HO1 := mkHid (HO.out.below hb1)
    have HN1 := mkHid ((hb1.block _ hNs).trans HN.out)
    have hNs1 : w.heap.size < w1.heap.size := Nat.lt_of_lt_of_le hNs hb1.size
    clear hb1 HB HO HN
    go_wp2_with fail
    refine (sKind_any (s.extract p (endI s p)) _ ?hsz).mono ?_
    case hsz => unfold maxLen; simp; omega
    rintro e w2 ⟨rfl, hb2⟩
    have HB2 := mkHid (below_step HB1.out hb2)
    have HO2 := mkHid (HO1.out.below hb2)
    have HN2 := mkHid ((hb2.block _ hNs1).trans HN1.out)
    have hNs2 : w.heap.size < w2.heap.size := Nat.lt_of_lt_of_le hNs1 hb2.size
    clear hb2 HB1 HO1 HN1 hNs hNs1
    have c0 : w2.cell? ⟨w.heap.size, 0, none⟩ = some (.int .i64 0) := by rw [Lib.cell_of_heap HN2.out]; rfl
    have c1 : w2.cell? ⟨w.heap.size, 1, none⟩ = some (.int .i64 0) := by rw [Lib.cell_of_heap HN2.out]; rfl
    have f0 := Lib.frozen_of_heap HN2.out 0
    have f1 := Lib.frozen_of_heap HN2.out 1
    by_cases hk : (kindI (s.extract p (endI s p)) == 0) = true
    ·have HR := mkHid (show wordsI s = ([], 2, (p : Int)) by rw [← HS.out]; exact scan_bad hlt (by simpa using hk))
     clear HO2 HS
     go_wp2
     obtain ⟨q0, q1, q2, q3⟩ := fault_end (c := .int .i64 2) (d := .int .i64 p) HN2.out hNs2 HB2.out
     exact bodyPost_ret (v := .tuple #[.slice (some ⟨w2.heap.size, 0, none⟩) 0 0, .agg #[.int .i64 2, .int .i64 p]]) (by simp [results, Tryz.results62, go_sem, q0, q1]) rfl ⟨_, by rw [HR.out], by rw [HR.out]; exact q2, q3⟩
    ·have hk0 : kindI (s.extract p (endI s p)) ≠ 0 := by simpa using hk
     simp only [Bool.not_eq_true] at hk
     by_cases hm : ((ws.length : Int) == 1500) = true
     ·have HR := mkHid (show wordsI s = ([], 3, (p : Int)) by
        rw [← HS.out]
        refine scan_many hlt hk0 ?_
        simp at hm; omega)
      clear HO2 HS
      go_wp2
      obtain ⟨q0, q1, q2, q3⟩ := fault_end (c := .int .i64 3) (d := .int .i64 p) HN2.out hNs2 HB2.out
      exact bodyPost_ret (v := .tuple #[.slice (some ⟨w2.heap.size, 0, none⟩) 0 0, .agg #[.int .i64 3, .int .i64 p]]) (by simp [results, Tryz.results62, go_sem, q0, q1]) rfl ⟨_, by rw [HR.out], by rw [HR.out]; exact q2, q3⟩
     ·have hm0 : ws.length ≠ 1500 := by simp at hm; omega
      simp only [Bool.not_eq_true] at hm
      have HR := mkHid (scan_go hlt hk0 hm0)
      have HK0 := mkHid hk0
      clear hk0 c0 c1 f0 f1
      go_wp2_with (at_builtin; refine wpList_append_lies _ rfl _ _ 91 rfl (w.heap.size + 1) 99 i0 (.agg #[.int .i64 0, .string ByteArray.empty, .int .i64 0]) 3 32 Tryz.underlying91 HI.out.1 HI.out.2.1 HI.out.2.2.1 HI.out.2.2.2 rfl (by decide) _ _ _ rfl (HO2.out.alloc _) ⟨w2.heap.size, 0, none⟩ 1 1 [.int .i64 (kindI (s.extract p (endI s p))), .string (s.extract p (endI s p)), .int .i64 p] rfl rfl ?c1 ?c2 (by decide) ?c3 ?c4 ?c5 (w2.heap.size + 1) (by simp) ?_)
      case c1 => exact three_new _ _ _ _
      case c2 => intro u hu; simp at hu; rcases hu with rfl | rfl | rfl <;> rfl
      case c3 => unfold maxLen; omega
      case c4 => omega
      case c5 => simp; omega
      intro g cap' w3 hown' hgrow _ _
      have hoff := HO2.out.off (n := w.heap.size) (by omega)
      have HN3 : Hid (w3.heap[w.heap.size]? = some (.cells #[.int .i64 0, .int .i64 0] 75 (0, 0))) := by
       show _ = _
       rw [hgrow.block _ (by simp; omega) (fun e => hoff e.symm), Lib.alloc_old _ _ _ hNs2]
       exact HN2.out
      have HB3 : Hid (Below w.heap.size w w3) := (HB2.out.alloc (by omega) _).grown hgrow (by simp; omega) (fun k hk => by have := (World.ownsRow.lt HO2.out k hk).1; omega)
      have HO3 : Hid (Owns w3 (w.heap.size + 1) (.slice (some ⟨g, 0, none⟩) (ws.length + 1) cap') (ws ++ [⟨kindI (s.extract p (endI s p)), s.extract p (endI s p), p⟩])) := by
       show Owns _ _ _ _
       unfold Owns
       rw [← flat_snoc, List.length_append]
       exact hown'
      clear hown' hgrow hoff HN2 HB2 HO2
      go_wp2_with fail
      refine (sSkip_any s (endI s p) _ (by omega) he2).mono ?_
      rintro e w4 ⟨rfl, rfl⟩
      have k1 := skip_ge s (endI s p)
      have k2 := skip_le he2
      go_wp2
      go_roundw
      case rel => exact ⟨skipI s (endI s p), ws ++ [⟨kindI (s.extract p (endI s p)), s.extract p (endI s p), p⟩], _, _, rfl, by rw [List.length_append]; rfl, k2, by rw [List.length_append]; exact HO3.out, by rw [List.length_append]; simp; omega, HR.out.symm.trans HS.out, HN3.out, HB3.out⟩
      case measure => simp [intOf]; omega
   ·have HR := mkHid (show wordsI s = (ws, 0, 0) by rw [← HS.out]; exact scan_end hlt)
    have c0 : wr.cell? ⟨w.heap.size, 0, none⟩ = some (.int .i64 0) := by rw [Lib.cell_of_heap HN.out]; rfl
    have c1 : wr.cell? ⟨w.heap.size, 1, none⟩ = some (.int .i64 0) := by rw [Lib.cell_of_heap HN.out]; rfl
    have f0 := Lib.frozen_of_heap HN.out 0
    have f1 := Lib.frozen_of_heap HN.out 1
    go_wp2
    have h2 := two_set (c := .int .i64 0) (d := .int .i64 0) HN.out
    have q0 : ((wr.setCell ⟨w.heap.size, 0, none⟩ (.int .i64 0)).setCell ⟨w.heap.size, 1, none⟩ (.int .i64 0)).cell? ⟨w.heap.size, 0, none⟩ = some (.int .i64 0) := by rw [Lib.cell_of_heap h2]; rfl
    have q1 : ((wr.setCell ⟨w.heap.size, 0, none⟩ (.int .i64 0)).setCell ⟨w.heap.size, 1, none⟩ (.int .i64 0)).cell? ⟨w.heap.size, 1, none⟩ = some (.int .i64 0) := by rw [Lib.cell_of_heap h2]; rfl
    exact bodyPost_ret (v := .tuple #[.slice ao ws.length cap, .agg #[.int .i64 0, .int .i64 0]]) (by simp [results, Tryz.results62, go_sem, q0, q1]) rfl
     ⟨_, by rw [HR.out], by rw [HR.out]; exact (((HO.out.setCell ⟨w.heap.size, 0, none⟩ _ (Nat.lt_succ_self _)).setCell ⟨w.heap.size, 1, none⟩ _ (Nat.lt_succ_self _))).mono (Nat.le_succ _),
      (HB.out.setCell (p := ⟨w.heap.size, 0, none⟩) (Nat.le_refl _) _).setCell (p := ⟨w.heap.size, 1, none⟩) (Nat.le_refl _) _⟩
end Go.Proofs.YtedfnadgmhjojaaGreatDoor
namespace Go.Proofs.YtedfnadgmhjojaaGreatDoor
open Go.RowKit
open Pl

theorem byt_list (s : ByteArray) (k : Nat) : byt s k = ((s.data.toList.getD k 0).toNat : Int) := by
 unfold byt
 by_cases h : k < s.size
 ·rw [dif_pos h]
  have h' : k < s.data.toList.length := by rw [← Lib.size_eq]; exact h
  rw [List.getD_eq_getElem?_getD, List.getElem?_eq_getElem h']
  simp only [Option.getD_some, Array.getElem_toList]
  rfl
 ·rw [dif_neg h]
  have h' : s.data.toList.length ≤ k := by rw [← Lib.size_eq]; omega
  rw [List.getD_eq_getElem?_getD, List.getElem?_eq_none h']
  rfl
theorem size_ext (s : ByteArray) (a b : Nat) (h : b ≤ s.size) : (s.extract a b).size = b - a := by
 rw [Lib.size_eq, Lib.extract_data]
 rw [Lib.size_eq] at h
 simp only [List.length_take, List.length_drop]
 omega
theorem byt_ext (s : ByteArray) (a b k : Nat) (hk : a + k < b) : byt (s.extract a b) k = byt s (a + k) := by
 rw [byt_list, byt_list, Lib.extract_data, List.getD_eq_getElem?_getD, List.getD_eq_getElem?_getD, List.getElem?_take_of_lt (by omega), List.getElem?_drop]
theorem ext_ext (s : ByteArray) (a b c d : Nat) (hd : a + d ≤ b) : (s.extract a b).extract c d = s.extract (a + c) (a + d) := by
 rw [Lib.extract_eq, Lib.extract_data, Lib.extract_eq]
 congr 2
 rw [List.drop_take, List.drop_drop, List.take_take]
 congr 1
 omega
theorem alnum_ext (s : ByteArray) (a b k : Nat) (hk : a + k < b) : alnum (s.extract a b) k = alnum s (a + k) := by
 unfold alnum; rw [byt_ext s a b k hk]
theorem toList_inj {s t : ByteArray} (h : s.toList = t.toList) : s = t := by
 rw [← Lib.mk_data s, ← Lib.mk_data t, ← Lib.toList_data, ← Lib.toList_data, h]

/-- The rest of a text from a place on. -/
def rest (s : ByteArray) (p : Nat) : ByteArray := s.extract p s.size
theorem noteE_rest {s : ByteArray} {p : Nat} (h : p ≤ s.size) : p + noteE (rest s p) 0 = noteE s p := by
 have hz : (rest s p).size = s.size - p := size_ext s p s.size (Nat.le_refl _)
 obtain ⟨_, b, c, d⟩ := first_is (fun j => byt (rest s p) j == 10) (rest s p).size 0 (Nat.zero_le _)
 have b' : noteE (rest s p) 0 ≤ (rest s p).size := b
 refine (first_eq ⟨by omega, by omega, fun j h1 h2 => ?_, ?_⟩).symm
 ·have : (byt (rest s p) (j - p) == 10) = false := c (j - p) (Nat.zero_le _) (show j - p < noteE (rest s p) 0 by omega)
  unfold rest at this
  rw [byt_ext s p s.size (j - p) (by omega)] at this
  rwa [show p + (j - p) = j by omega] at this
 ·rcases d with h1 | h1
  ·left; have h1' : noteE (rest s p) 0 = (rest s p).size := h1; omega
  ·by_cases e : noteE (rest s p) 0 = (rest s p).size
   ·left; omega
   ·right
    have h1' : (byt (rest s p) (noteE (rest s p) 0) == 10) = true := h1
    unfold rest at h1'
    rw [byt_ext s p s.size _ (by have : (s.extract p s.size).size = s.size - p := hz
                                 have : noteE (s.extract p s.size) 0 = noteE (rest s p) 0 := rfl
                                 omega)] at h1'
    exact h1'
theorem runE_rest {s : ByteArray} {p : Nat} (h : p ≤ s.size) : p + runE (rest s p) 0 = runE s p := by
 have hz : (rest s p).size = s.size - p := size_ext s p s.size (Nat.le_refl _)
 obtain ⟨_, b, c, d⟩ := first_is (fun j => !alnum (rest s p) j) (rest s p).size 0 (Nat.zero_le _)
 have b' : runE (rest s p) 0 ≤ (rest s p).size := b
 refine (first_eq ⟨by omega, by omega, fun j h1 h2 => ?_, ?_⟩).symm
 ·have : (!alnum (rest s p) (j - p)) = false := c (j - p) (Nat.zero_le _) (show j - p < runE (rest s p) 0 by omega)
  unfold rest at this
  rw [alnum_ext s p s.size (j - p) (by omega)] at this
  rwa [show p + (j - p) = j by omega] at this
 ·rcases d with h1 | h1
  ·left; have h1' : runE (rest s p) 0 = (rest s p).size := h1; omega
  ·by_cases e : runE (rest s p) 0 = (rest s p).size
   ·left; omega
   ·right
    have h1' : (!alnum (rest s p) (runE (rest s p) 0)) = true := h1
    unfold rest at h1'
    rw [alnum_ext s p s.size _ (by have : (s.extract p s.size).size = s.size - p := hz
                                   have : runE (s.extract p s.size) 0 = runE (rest s p) 0 := rfl
                                   omega)] at h1'
    exact h1'

def blkI (r : Int) : Bool := r == 32 || r == 10
set_option maxRecDepth 100000 in
theorem isBlank_any (r : Int) (w : World) : Calls Tryz.prog 101 #[.int .i32 r] w fun e w' => e = .returned (.bool (blkI r)) ∧ w = w' := by
 unfold blkI
 go_enter Tryz.func101, Tryz.ntmps101
 go_wp2
 all_goals (go_ret; exact ⟨ret_bool (by simp_all <;> omega), rfl⟩)

theorem list_get {t : ByteArray} {k : Nat} (h : k < t.size) : t.data.toList[k]? = some (t[k]'h) := by
 have h' : k < t.data.toList.length := by rw [← Lib.size_eq]; exact h
 rw [List.getElem?_eq_getElem h']; simp only [Array.getElem_toList]; rfl
theorem u8_ten {c : UInt8} (h : (c.toNat : Int) = 10) : c = 10 := by
 have : c.toNat = 10 := by omega
 exact UInt8.toNat_inj.1 this
theorem note_some {t : ByteArray} {o : Nat} (h : Lib.indexByte t.data.toList 10 = o) : noteE t 0 = o := by
 obtain ⟨h1, h2⟩ := Lib.indexByte_some h
 have ho : o < t.size := by rw [Lib.size_eq]; exact (List.getElem?_eq_some_iff.1 h1).1
 refine first_eq ⟨Nat.zero_le _, by omega, fun j _ hj => ?_, .inr ?_⟩
 ·have := h2 j hj
  rw [list_get (by omega : j < t.size)] at this
  show (byt t j == 10) = false
  rw [byt_eq t j (by omega)]
  simp only [beq_eq_false_iff_ne, ne_eq]
  intro e
  exact this (by rw [u8_ten e])
 ·show (byt t o == 10) = true
  rw [byt_eq t o ho]
  rw [list_get ho] at h1
  simp only [Option.some.injEq] at h1
  rw [h1]; rfl
theorem note_none {t : ByteArray} (h : Lib.indexByte t.data.toList 10 = -1) : noteE t 0 = t.size := by
 refine first_eq ⟨Nat.zero_le _, Nat.le_refl _, fun j _ hj => ?_, .inl rfl⟩
 have := Lib.indexByte_none h j
 rw [list_get hj] at this
 show (byt t j == 10) = false
 rw [byt_eq t j hj]
 simp only [beq_eq_false_iff_ne, ne_eq]
 intro e
 exact this (by rw [u8_ten e])

set_option maxRecDepth 100000 in
set_option maxHeartbeats 400000 in
theorem noteSize_any (t : ByteArray) (w : World) : Calls Tryz.prog 102 #[.string t] w fun e w' => e = .returned (.int .i64 (noteE t 0 : Nat)) ∧ w = w' := by
 by_cases h : 0 ≤ Lib.indexByte t.data.toList 10
 ·obtain ⟨o, ho⟩ := Int.eq_ofNat_of_zero_le h
  have HN := mkHid (note_some ho)
  have HO := mkHid ho
  clear ho
  go_enter Tryz.func102, Tryz.ntmps102
  go_wp2_with fail
  refine (Tryz.strings_IndexByte t 10 _).mono ?_
  rintro e w1 ⟨rfl, rfl⟩
  rw [show (10 : Int).toNat.toUInt8 = 10 from rfl, HO.out]
  go_wp2
  go_ret
  exact ⟨ret_int (by rw [HN.out]), rfl⟩
 ·have h1 : Lib.indexByte t.data.toList 10 = -1 := by have := Lib.indexByte_ge t.data.toList 10; omega
  have HN := mkHid (note_none h1)
  have HO := mkHid h1
  clear h1 h
  go_enter Tryz.func102, Tryz.ntmps102
  go_wp2_with fail
  refine (Tryz.strings_IndexByte t 10 _).mono ?_
  rintro e w1 ⟨rfl, rfl⟩
  rw [show (10 : Int).toNat.toUInt8 = 10 from rfl, HO.out]
  go_wp2
  go_ret
  exact ⟨ret_int (by rw [HN.out]), rfl⟩
end Go.Proofs.YtedfnadgmhjojaaGreatDoor
namespace Go.Proofs.YtedfnadgmhjojaaGreatDoor
open Go.RowKit
open Pl

def signT (t : ByteArray) : ByteArray := if 2 ≤ t.size ∧ signB (t.extract 0 2) = true then t.extract 0 2 else if signB (t.extract 0 1) = true then t.extract 0 1 else ⟨#[]⟩

theorem signT_at {t : ByteArray} {n : Nat} (h0 : 0 < n) (h2 : n ≤ 2) (hn : n ≤ t.size) (hs : signB (t.extract 0 n) = true) (hb : n ≤ 1 → ¬(2 ≤ t.size ∧ signB (t.extract 0 2) = true)) : signT t = t.extract 0 n := by
 unfold signT
 by_cases e : n = 2
 ·subst e; rw [if_pos ⟨hn, hs⟩]
 ·have e1 : n = 1 := by omega
  subst e1
  rw [if_neg (hb (Nat.le_refl _)), if_pos hs]

set_option maxRecDepth 100000 in
set_option maxHeartbeats 400000 in
theorem longestSign_any (t : ByteArray) (w : World) (hs : t.size ≤ 4000) (h1 : 1 ≤ t.size) : Calls Tryz.prog 122 #[.string t] w fun e w' => e = .returned (.string (signT t)) ∧ w = w' := by
 obtain ⟨m, hm⟩ : ∃ m : Nat, min (2 : Int) (t.size : Int) = m := ⟨min 2 t.size, by omega⟩
 have hm2 : m ≤ 2 ∧ m ≤ t.size ∧ (m ≤ 1 → ¬ 2 ≤ t.size) ∧ m ≠ 0 := by omega
 have HM := mkHid hm2
 clear hm2
 go_enter Tryz.func122, Tryz.ntmps122
 go_wp2
 go_loop [3] (fun v => ∃ n : Nat, v = .int .i64 n ∧ n ≤ 2 ∧ n ≤ t.size ∧ (n ≤ 1 → ¬(2 ≤ t.size ∧ signB (t.extract 0 2) = true)) ∧ (n = 0 → signB (t.extract 0 1) = false)) (fun v => (intOf v).toNat)
 case atStart => exact ⟨m, rfl, HM.out.1, HM.out.2.1, fun h h' => HM.out.2.2.1 h h'.1, fun h => absurd h HM.out.2.2.2⟩
 case round =>
  obtain ⟨n, rfl, hn2, hns, hb, hz⟩ := hrel
  have HB := mkHid hb
  have HZ := mkHid hz
  clear hb hz hm HM
  by_cases h0 : 0 < (n : Int)
  ·by_cases hsg : signB (t.extract 0 n) = true
   ·have HT := mkHid (signT_at (by omega) hn2 hns hsg HB.out)
    go_wp2_with (go_at_call 124; refine (isSign_any _ _).mono ?_; rintro e w' ⟨rfl, rfl⟩)
    go_ret
    exact ⟨ret_str HT.out.symm, rfl⟩
   ·simp only [Bool.not_eq_true] at hsg
    have HN : Hid ((n - 1 ≤ 1 → ¬(2 ≤ t.size ∧ signB (t.extract 0 2) = true)) ∧ (n - 1 = 0 → signB (t.extract 0 1) = false)) := by
     refine ⟨fun h h' => ?_, fun h => ?_⟩
     ·by_cases e : n = 2
      ·subst e; rw [hsg] at h'; exact absurd h'.2 (by decide)
      ·exact HB.out (by omega) h'
     ·have e : n = 1 := by omega
      subst e; exact hsg
    clear HB HZ
    go_wp2_with (go_at_call 124; refine (isSign_any _ _).mono ?_; rintro e w' ⟨rfl, rfl⟩)
    go_round
    case rel => exact ⟨n - 1, by go_num, by omega, by omega, HN.out.1, HN.out.2⟩
    case measure => simp [intOf]; omega
  ·have HT := mkHid (show signT t = ⟨#[]⟩ by
     unfold signT
     rw [if_neg (HB.out (by omega)), if_neg (by rw [HZ.out (by omega)]; decide)])
   clear HB HZ
   go_wp2
   go_ret
   exact ⟨ret_str HT.out.symm, rfl⟩

set_option maxRecDepth 100000 in
set_option maxHeartbeats 400000 in
theorem clone_any (t : ByteArray) (w : World) (hs : t.size ≤ 4000) : Calls Tryz.prog 105 #[.string t] w fun e w' => e = .returned (.string t) ∧ Below w.heap.size w w' := by
 go_enter Tryz.func105, Tryz.ntmps105
 go_wp2_with (go_at_call 125; refine (Tryz.stringslite_Clone t _ (by omega)).mono ?_; rintro e w1 ⟨rfl, hb1⟩)
 go_ret
 exact ⟨rfl, hb1⟩

def foundT (t : ByteArray) : ByteArray := if alnum t 0 then t.extract 0 (runE t 0) else signT t

set_option maxRecDepth 100000 in
set_option maxHeartbeats 1000000 in
theorem longestWord_any (t : ByteArray) (w : World) (hs : t.size ≤ 4000) (h1 : 1 ≤ t.size) : Calls Tryz.prog 103 #[.string t] w fun e w' => e = .returned (.string (foundT t)) ∧ Below w.heap.size w w' := by
 go_enter Tryz.func103, Tryz.ntmps103
 go_wp2
 go_step3
 go_wp2
 go_step3
 go_wp2
 go_loopw [3] (fun v w' => ∃ pos : Nat, w' = w.iter t pos ∧ v = .int .i64 pos ∧ pos ≤ t.size ∧ ∀ j, 0 ≤ j → j < pos → (!alnum t j) = false) (fun _ w' => t.size - w'.iterPos w.heap.size)
 case atStart => exact ⟨0, rfl, rfl, Nat.zero_le _, fun j _ hj => by omega⟩
 case round =>
  obtain ⟨pos, rfl, rfl, hps, hall⟩ := hrel
  have HA := mkHid hall
  clear hall
  by_cases hp : pos < t.size
  ·obtain ⟨r, d, hnx, hd1, hl, hg, hr⟩ := next_rune (P := Tryz.prog) w t pos hp
   by_cases ga : alnum t pos = true
   ·have HA1 : Hid (∀ j, 0 ≤ j → j < pos + 1 → (!alnum t j) = false) := fun j h0 hj => by
      rcases (by omega : j < pos ∨ j = pos) with h | rfl
      ·exact HA.out j h0 h
      ·rw [ga]; rfl
    have hlt : byt t pos < 128 := by
     unfold alnum at ga
     rw [Bool.or_eq_true, low_iff, dig_iff] at ga
     omega
    have hd : d = 1 := (hr hlt).2
    subst hd
    have hor : lowI r = true ∨ (lowI r = false ∧ digI r = true) := by
     unfold alnum at ga
     rw [← hl, ← hg] at ga
     revert ga
     cases lowI r <;> simp
    clear hr hl hg hlt ga HA
    rcases hor with g1 | ⟨g1, g2⟩
    ·go_wp2_with (first | (go_at_call 109; refine (isLetter_any _ _).mono ?_; rintro e w' ⟨rfl, rfl⟩) | (go_at_call 110; refine (isDigit_any _ _).mono ?_; rintro e w' ⟨rfl, rfl⟩))
     go_roundw
     case rel => exact ⟨pos + 1, rfl, by go_num, by omega, HA1.out⟩
     case measure => simp; omega
    ·go_wp2_with (first | (go_at_call 109; refine (isLetter_any _ _).mono ?_; rintro e w' ⟨rfl, rfl⟩) | (go_at_call 110; refine (isDigit_any _ _).mono ?_; rintro e w' ⟨rfl, rfl⟩))
     go_roundw
     case rel => exact ⟨pos + 1, rfl, by go_num, by omega, HA1.out⟩
     case measure => simp; omega
   ·simp only [Bool.not_eq_true] at ga
    have hno : lowI r = false ∧ digI r = false := by
     unfold alnum at ga
     rw [← hl, ← hg] at ga
     simpa using ga
    obtain ⟨g1, g2⟩ := hno
    have HR : Hid (runE t 0 = pos) := first_eq ⟨Nat.zero_le _, hps, HA.out, .inr (by show (!alnum t pos) = true; rw [ga]; rfl)⟩
    clear hr hl hg
    by_cases h0 : ((pos : Int) == 0) = true
    ·have HF : Hid (foundT t = signT t) := by
       show _ = _
       have e : pos = 0 := by simpa using h0
       subst e
       unfold foundT; rw [if_neg (by simp [ga])]
     clear ga HA HR
     go_wp2_with (first | (go_at_call 109; refine (isLetter_any _ _).mono ?_; rintro e w' ⟨rfl, rfl⟩) | (go_at_call 110; refine (isDigit_any _ _).mono ?_; rintro e w' ⟨rfl, rfl⟩) | (go_at_call 122; refine (longestSign_any t _ hs h1).mono ?_; rintro e w' ⟨rfl, rfl⟩))
     try rw [Exit.noGoto_ret]
     go_ret
     exact ⟨ret_str HF.out.symm, below_iter _ _ _⟩
    ·simp only [Bool.not_eq_true] at h0
     have HF : Hid (foundT t = t.extract 0 pos) := by
      show _ = _
      have e : pos ≠ 0 := by simpa using h0
      have h00 := HA.out 0 (Nat.le_refl _) (by omega)
      unfold foundT
      rw [if_pos (by simpa using h00), HR.out]
     clear ga HA HR
     go_wp2_with (first | (go_at_call 109; refine (isLetter_any _ _).mono ?_; rintro e w' ⟨rfl, rfl⟩) | (go_at_call 110; refine (isDigit_any _ _).mono ?_; rintro e w' ⟨rfl, rfl⟩) | (go_at_call 122; refine (longestSign_any t _ hs h1).mono ?_; rintro e w' ⟨rfl, rfl⟩))
     try rw [Exit.noGoto_ret]
     go_ret
     exact ⟨ret_str HF.out.symm, below_iter _ _ _⟩
  ·have hnx : ∀ ty, (Instr.next (.pointer (some ⟨w.heap.size, 0, none⟩)) true ty).run Tryz.prog (w.iter t pos) = _ := fun ty => run_next_end w t pos ty hp
   have HR : Hid (runE t 0 = pos) := first_eq ⟨Nat.zero_le _, hps, HA.out, .inl (by omega)⟩
   have h0 : ((pos : Int) == 0) = false := by simp; omega
   have HF : Hid (foundT t = t.extract 0 pos) := by
    show _ = _
    have h00 := HA.out 0 (Nat.le_refl _) (by omega)
    unfold foundT
    rw [if_pos (by simpa using h00), HR.out]
   clear HA HR
   go_wp2
   try rw [Exit.noGoto_ret]
   go_ret
   exact ⟨ret_str HF.out.symm, below_iter _ _ _⟩
end Go.Proofs.YtedfnadgmhjojaaGreatDoor
namespace Go.Proofs.YtedfnadgmhjojaaGreatDoor
open Go.RowKit
open Pl

theorem sign_ascii {t : ByteArray} (h : signB t = true) (k : Nat) : byt t k < 128 := by
 unfold signB signs at h
 simp only [List.contains_cons, Bool.or_eq_true, beq_iff_eq, List.contains_nil, Bool.false_eq_true, or_false] at h
 rcases h with h | h | h | h | h | h | h | h | h | h | h | h | h | h | h | h | h | h <;>
  (rw [byt_list, ← Lib.toList_data, h]; rcases k with _ | _ | k <;> simp)
theorem empty_byt (k : Nat) : byt ⟨#[]⟩ k = 0 := by
 rw [byt_list]; rfl
theorem empty_sign : signB ⟨#[]⟩ = false := by
 unfold signB
 rw [Lib.toList_data]; rfl
theorem kind_zero {t : ByteArray} (h1 : lowI (byt t 0) = false) (h2 : digI (byt t 0) = false) (h3 : signB t = false) : kindI t = 0 := by
 have hk : keyB t = false := by
  by_cases k : keyB t = true
  ·rw [(key_low k).1] at h1; cases h1
  ·simpa using k
 have hn : nameB t = false := nameB_of (by
  simp only [Bool.false_eq_true, iff_false]
  rintro ⟨a, _, _, d⟩
  rcases d 0 (by omega) with e | e
  ·rw [h1] at e; cases e
  ·exact e.1 rfl)
 have hu : numB t = false := numB_of (by
  simp only [Bool.false_eq_true, iff_false]
  rintro ⟨a, d, _⟩
  have := d 0 (by omega)
  rw [h2] at this; cases this)
 simp [kindI, hk, hn, hu, h3]
theorem empty_kind : kindI ⟨#[]⟩ = 0 := kind_zero (by rw [empty_byt]; rfl) (by rw [empty_byt]; rfl) empty_sign

theorem rest_size {s : ByteArray} {p : Nat} : (rest s p).size = s.size - p := size_ext s p s.size (Nat.le_refl _)
theorem rest_ext {s : ByteArray} {p n : Nat} (h : p + n ≤ s.size) : (rest s p).extract 0 n = s.extract p (p + n) := ext_ext s p s.size 0 n h
theorem rest_alnum {s : ByteArray} {p : Nat} (h : p < s.size) : alnum (rest s p) 0 = alnum s p := alnum_ext s p s.size 0 (by omega)

theorem found_alnum {s : ByteArray} {p : Nat} (h : p < s.size) (ha : alnum s p = true) : foundT (rest s p) = s.extract p (endI s p) ∧ ∀ j, p ≤ j → j < endI s p → byt s j < 128 := by
 have e1 : endI s p = runE s p := by simp [endI, ha]
 have e2 := runE_rest (s := s) (p := p) (by omega)
 obtain ⟨_, b, c, _⟩ := first_is (fun j => !alnum s j) s.size p (by omega)
 have b' : runE s p ≤ s.size := b
 refine ⟨?_, fun j h1 h2 => ?_⟩
 ·unfold foundT
  rw [if_pos (by rw [rest_alnum h]; exact ha), rest_ext (by omega), e2, e1]
 ·have : (!alnum s j) = false := c j h1 (by rw [e1] at h2; exact h2)
  have h3 : alnum s j = true := by simpa using this
  unfold alnum at h3
  rw [Bool.or_eq_true, low_iff, dig_iff] at h3
  omega
theorem found_sign {s : ByteArray} {p : Nat} (h : p < s.size) (ha : alnum s p = false) :
    (kindI (s.extract p (endI s p)) = 0 ∧ kindI (foundT (rest s p)) = 0) ∨ (foundT (rest s p) = s.extract p (endI s p) ∧ ∀ j, p ≤ j → j < endI s p → byt s j < 128) := by
 have hf : foundT (rest s p) = signT (rest s p) := by unfold foundT; rw [if_neg (by rw [rest_alnum h, ha]; decide)]
 have hz := rest_size (s := s) (p := p)
 by_cases h2 : p + 1 < s.size ∧ signB (s.extract p (p + 2)) = true
 ·right
  have e1 : endI s p = p + 2 := by unfold endI; rw [if_neg (by simp [ha]), if_pos h2]
  rw [hf, e1]
  refine ⟨?_, fun j h3 h4 => ?_⟩
  ·unfold signT
   rw [rest_ext (by omega), if_pos ⟨by omega, h2.2⟩]
  ·have := sign_ascii h2.2 (j - p)
   rw [byt_ext s p (p + 2) (j - p) (by omega), show p + (j - p) = j by omega] at this
   exact this
 ·have e1 : endI s p = p + 1 := by unfold endI; rw [if_neg (by simp [ha]), if_neg h2]
  have hb : byt (s.extract p (p + 1)) 0 = byt s p := byt_ext s p (p + 1) 0 (by omega)
  have hs2 : ¬ (2 ≤ (rest s p).size ∧ signB ((rest s p).extract 0 2) = true) := by
   rintro ⟨a, b⟩
   rw [rest_ext (by omega)] at b
   exact h2 ⟨by omega, b⟩
  rw [hf, e1]
  unfold signT
  rw [if_neg hs2, rest_ext (by omega)]
  by_cases h1 : signB (s.extract p (p + 1)) = true
  ·right
   rw [if_pos h1]
   refine ⟨rfl, fun j h3 h4 => ?_⟩
   have := sign_ascii h1 0
   rw [hb] at this
   rwa [show j = p by omega]
  ·left
   rw [if_neg h1]
   refine ⟨kind_zero ?_ ?_ (by simpa using h1), empty_kind⟩
   ·rw [hb]; unfold alnum at ha; simp at ha; exact ha.1
   ·rw [hb]; unfold alnum at ha; simp at ha; exact ha.2
theorem found_yes {s : ByteArray} {p : Nat} (h : p < s.size) (hk : kindI (s.extract p (endI s p)) ≠ 0) : foundT (rest s p) = s.extract p (endI s p) ∧ ∀ j, p ≤ j → j < endI s p → byt s j < 128 := by
 by_cases ha : alnum s p = true
 ·exact found_alnum h ha
 ·rcases found_sign h (by simpa using ha) with h1 | h1
  ·exact absurd h1.1 hk
  ·exact h1
theorem found_no {s : ByteArray} {p : Nat} (h : p < s.size) (hk : kindI (s.extract p (endI s p)) = 0) : kindI (foundT (rest s p)) = 0 := by
 by_cases ha : alnum s p = true
 ·rw [(found_alnum h ha).1]; exact hk
 ·rcases found_sign h (by simpa using ha) with h1 | h1
  ·exact h1.2
  ·rw [h1.1]; exact hk

/-- The bytes behind a rune's first one are none of ASCII. -/
theorem decode_cont (s : ByteArray) (p : Nat) : ∀ j, 1 ≤ j → j < (Utf8.decode s p).2 → p + j < s.size ∧ 128 ≤ byt s (p + j) := by
 have key : ∀ k, (p + k < s.size && (s.get! (p + k)).toNat / 64 == 2) = true → p + k < s.size ∧ 128 ≤ byt s (p + k) := fun k h => by
  rw [Bool.and_eq_true, decide_eq_true_eq, beq_iff_eq] at h
  refine ⟨h.1, ?_⟩
  rw [byt_eq s (p + k) h.1]
  have e : s.get! (p + k) = s[p + k]'h.1 := get_at s (p + k) h.1
  rw [e] at h
  omega
 intro j h1 h2
 simp only [Utf8.decode] at h2
 repeat' split at h2
 all_goals first
  | (simp at h2; omega)
  | (rename_i hc _; simp only [Bool.and_eq_true] at hc; rcases (by simp at h2; omega : j = 1 ∨ j = 2 ∨ j = 3) with rfl | rfl | rfl <;> (try (simp at h2; done)) <;> (apply key; simp_all))
end Go.Proofs.YtedfnadgmhjojaaGreatDoor
namespace Go.Proofs.YtedfnadgmhjojaaGreatDoor
open Go.RowKit
open Pl

theorem next_at {P : Program} (w : World) (k : Nat) (s : ByteArray) (pos : Nat) (hk : w.heap[k]? = some (.stringIter s pos)) (h : pos < s.size) : ∃ r d : Nat,
    (∀ ty, (Instr.next (.pointer (some ⟨k, 0, none⟩)) true ty).run P w = .ok (.tuple #[.bool true, .int .i64 pos, .int .i32 r]) (w.iterAt k s (pos + d))) ∧ 1 ≤ d ∧ pos + d ≤ s.size ∧
    (byt s pos < 128 → (r : Int) = byt s pos ∧ d = 1) ∧ (128 ≤ byt s pos → 128 ≤ r) ∧ (∀ j, 1 ≤ j → j < d → pos + j < s.size ∧ 128 ≤ byt s (pos + j)) := by
 have hb := byt_eq s pos h
 have hc := decode_cont s pos
 have hw : ∀ d, 1 ≤ d → (∀ j, 1 ≤ j → j < d → pos + j < s.size ∧ 128 ≤ byt s (pos + j)) → pos + d ≤ s.size := fun d h1 h2 => by
  by_cases e : d = 1
  ·omega
  ·have := (h2 (d - 1) (by omega) (by omega)).1
   omega
 by_cases ha : (s[pos]'h).toNat < 128
 ·have e := decode_ascii s pos h ha
  rw [e] at hc
  exact ⟨(s[pos]'h).toNat, 1, fun ty => Lib.run_next_ascii_at w k s pos ty hk h ha, Nat.le_refl _, by omega, fun _ => ⟨hb.symm, rfl⟩, fun h1 => by omega, hc⟩
 ·have hd := decode_high s pos h (by omega)
  exact ⟨(Utf8.decode s pos).1, (Utf8.decode s pos).2, fun ty => Lib.run_next_any_at w k s pos ty hk h, hd.2, hw _ hd.2 hc, fun h1 => by omega, fun _ => hd.1, hc⟩

/-- Where the program stands: pos, done, the words so far. -/
def Inv (s : ByteArray) (pos done : Nat) (ws : List W3) : Prop := pos ≤ s.size ∧ done ≤ s.size ∧ (pos < done → (∀ j, pos ≤ j → j < done → byt s j < 128) ∨ done = s.size ∨ byt s done = 10) ∧ ws.length ≤ 1500 ∧ scanI s (skipI s (max done pos)) ws = wordsI s

theorem inv_in {s : ByteArray} {pos done d : Nat} {ws : List W3} (h : Inv s pos done ws) (hlt : pos < done) (h1 : 1 ≤ d) (hz : pos + d ≤ s.size) (ha : byt s pos < 128 → d = 1) (hc : ∀ j, 1 ≤ j → j < d → pos + j < s.size ∧ 128 ≤ byt s (pos + j)) : Inv s (pos + d) done ws := by
 obtain ⟨a, b, c, e, f⟩ := h
 have hle : pos + d ≤ done := by
  rcases c hlt with c1 | c1 | c1
  ·have := ha (c1 pos (Nat.le_refl _) hlt)
   omega
  ·omega
  ·by_cases q : pos + d ≤ done
   ·exact q
   ·have := (hc (done - pos) (by omega) (by omega)).2
    rw [show pos + (done - pos) = done by omega] at this
    omega
 refine ⟨hz, b, fun h2 => ?_, e, ?_⟩
 ·rcases c hlt with c1 | c1
  ·exact .inl fun j h3 h4 => c1 j (by omega) h4
  ·exact .inr c1
 ·rw [show max done (pos + d) = done by omega]
  rw [show max done pos = done by omega] at f
  exact f
theorem inv_blank {s : ByteArray} {pos done : Nat} {ws : List W3} (h : Inv s pos done ws) (hlt : ¬ pos < done) (hp : pos < s.size) (hb : blankB s pos = true) : Inv s (pos + 1) done ws := by
 obtain ⟨a, b, c, e, f⟩ := h
 refine ⟨by omega, b, fun h2 => by omega, e, ?_⟩
 rw [show max done (pos + 1) = pos + 1 by omega, ← skip_blank hp hb]
 rw [show max done pos = pos by omega] at f
 exact f
theorem inv_note {s : ByteArray} {pos done : Nat} {ws : List W3} (h : Inv s pos done ws) (hlt : ¬ pos < done) (hp : pos < s.size) (h35 : byt s pos = 35) : Inv s (pos + 1) (noteE s pos) ws := by
 obtain ⟨a, b, c, e, f⟩ := h
 have hg := noteE_gt hp h35
 obtain ⟨_, n2, _, n4⟩ := first_is (fun j => byt s j == 10) s.size pos (by omega)
 refine ⟨by omega, n2, fun h2 => .inr ?_, e, ?_⟩
 ·rcases n4 with n4 | n4
  ·exact .inl n4
  ·exact .inr (by have n5 : (byt s (noteE s pos) == 10) = true := n4
                  simpa using n5)
 ·rw [show max (noteE s pos) (pos + 1) = noteE s pos by omega, ← skip_note hp h35]
  rw [show max done pos = pos by omega] at f
  exact f
theorem inv_at {s : ByteArray} {pos done : Nat} {ws : List W3} (h : Inv s pos done ws) (hlt : ¬ pos < done) (hp : pos < s.size) (hb : blankB s pos = false) (h35 : byt s pos ≠ 35) : scanI s pos ws = wordsI s := by
 obtain ⟨a, b, c, e, f⟩ := h
 rw [show max done pos = pos by omega, skip_stop hp hb h35] at f
 exact f
theorem inv_word {s : ByteArray} {pos done : Nat} {ws : List W3} (h : Inv s pos done ws) (hs : scanI s pos ws = wordsI s) (hp : pos < s.size) (hk : kindI (s.extract pos (endI s pos)) ≠ 0) (hm : ws.length ≠ 1500) :
    Inv s (pos + 1) (endI s pos) (ws ++ [⟨kindI (s.extract pos (endI s pos)), s.extract pos (endI s pos), pos⟩]) := by
 obtain ⟨a, b, c, e, f⟩ := h
 obtain ⟨g1, g2⟩ := endI_gt hp
 obtain ⟨_, y⟩ := found_yes hp hk
 refine ⟨by omega, g2, fun _ => .inl fun j h1 h2 => y j (by omega) h2, by rw [List.length_append]; simp; omega, ?_⟩
 rw [show max (endI s pos) (pos + 1) = endI s pos by omega, ← scan_go hp hk hm]
 exact hs
theorem inv_end {s : ByteArray} {pos done : Nat} {ws : List W3} (h : Inv s pos done ws) (hp : ¬ pos < s.size) : wordsI s = (ws, 0, 0) := by
 obtain ⟨a, b, c, e, f⟩ := h
 rw [← f, skip_end (by omega)]
 exact scan_end (by omega)

/-- What lies in memory while the program reads words: the fault's variable, the iterator, the words so far. -/
def St (w : World) (s : ByteArray) (w' : World) (pos : Nat) (v : Value) (ws : List W3) : Prop :=
 Owns w' (w.heap.size + 2) v ws ∧ w'.heap[w.heap.size]? = some (.cells #[.int .i64 0, .int .i64 0] 75 (0, 0)) ∧ w'.heap[w.heap.size + 1]? = some (.stringIter s pos) ∧ Below w.heap.size w w'
theorem St.lt {w w' : World} {s : ByteArray} {pos : Nat} {v : Value} {ws : List W3} (h : St w s w' pos v ws) : w.heap.size + 1 < w'.heap.size := by
 have := h.2.2.1
 rcases Nat.lt_or_ge (w.heap.size + 1) w'.heap.size with h' | h'
 ·exact h'
 ·simp [Array.getElem?_eq_none h'] at this
theorem St.iter {w w' : World} {s : ByteArray} {pos : Nat} {v : Value} {ws : List W3} (h : St w s w' pos v ws) (q : Nat) : St w s (w'.iterAt (w.heap.size + 1) s q) q v ws := by
 obtain ⟨a, b, c, d⟩ := h
 refine ⟨?_, (Lib.iterAt_other _ _ _ _ _ (by omega)).trans b, Lib.iterAt_heap _ _ _ _ _ c, Lib.below_iterAt d (by omega) _ _⟩
 refine World.ownsRow.kept (row := some (w.heap.size + 1)) a ⟨rfl, rfl, rfl, by rw [Lib.iterAt_size]; exact Nat.le_refl _, fun k _ hk => Lib.iterAt_other _ _ _ _ _ (fun e => hk (by rw [e]))⟩ (.inr (a.off (by omega)))
theorem St.below {w w' w2 : World} {s : ByteArray} {pos : Nat} {v : Value} {ws : List W3} (h : St w s w' pos v ws) (hb : Below w'.heap.size w' w2) : St w s w2 pos v ws := by
 have hl := h.lt
 obtain ⟨a, b, c, d⟩ := h
 exact ⟨a.below hb, (hb.block _ (by omega)).trans b, (hb.block _ hl).trans c, below_step d hb⟩
theorem St.grow {w w' w2 : World} {s : ByteArray} {pos : Nat} {v v2 : Value} {ws ws2 : List W3} {o : Obj} (h : St w s w' pos v ws) (hg : (w'.alloc o).grownBy w2 v.ownBlock) (ho : Owns w2 (w.heap.size + 2) v2 ws2) : St w s w2 pos v2 ws2 := by
 have hl := h.lt
 obtain ⟨a, b, c, d⟩ := h
 have o1 := a.off (n := w.heap.size) (by omega)
 have o2 := a.off (n := w.heap.size + 1) (by omega)
 refine ⟨ho, ?_, ?_, (d.alloc (by omega) o).grown hg (by simp; omega) (fun k hk => by have := (World.ownsRow.lt a k hk).1; omega)⟩
 ·rw [hg.block _ (by simp; omega) (fun e => o1 e.symm), Lib.alloc_old _ _ _ (by omega)]; exact b
 ·rw [hg.block _ (by simp; omega) (fun e => o2 e.symm), Lib.alloc_old _ _ _ hl]; exact c
end Go.Proofs.YtedfnadgmhjojaaGreatDoor
