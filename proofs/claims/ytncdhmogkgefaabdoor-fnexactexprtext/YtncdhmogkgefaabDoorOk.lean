/-
  CONTRACTS of both ExprOk and both CondOk.
-/
import Derived.Test.YtncdhmogkgefaabDoorAgree
namespace Go.Proofs.YtncdhmogkgefaabDoor
open Go.RowKit
open Pl

def fitsS (t : T) : Bool := decide (cnt t ≤ 500) && decide (dep t ≤ 24) && formedT t

set_option maxRecDepth 100000 in
set_option maxHeartbeats 1600000 in
theorem sFits_ok (k : Int) (s : ByteArray) (m : Int) (kk : List T) (a : Option Addr) (c : Nat) (w : World) (hs : s.size ≤ maxLen) (hn : kk.length ≤ maxLen) (hc : cnt (.node k s m kk) ≤ 1048577) (hk : Kids w 0 a kk) :
    Calls Tryd.prog 21 #[.agg #[.int .i64 k, .string s, .int .i64 m, .slice a kk.length c]] w fun e w' => e = .returned (.bool (fitsS (.node k s m kk))) ∧ Below w.heap.size w w' := by
  have B0 := mkHid ((Below.refl w.heap.size w).alloc (Nat.le_refl _) (.cells #[.int .i64 k, .string s, .int .i64 m, .slice a kk.length c] 29))
  have F0 := mkHid (Four.new w k s m a kk.length c 29)
  have HS := mkHid (show fitsS (.node k s m kk) = (decide (cnt (.node k s m kk) ≤ 500) && decide (dep (.node k s m kk) ≤ 24) && formedT (.node k s m kk)) from rfl)
  have HC := mkHid (fun W (hW : Below w.heap.size w W) => sCount_ok (.node k s m kk) a c W hn hc (hk.below hW))
  have HD := mkHid (fun W (hW : Below w.heap.size w W) => sDepth_ok (.node k s m kk) a c W hn hc (hk.below hW))
  have HF := mkHid (fun W (hW : Below w.heap.size w W) => formed_ok (.node k s m kk) a c W hs hn (hk.below hW))
  have hd := Nat.le_trans (dep_le (.node k s m kk)) hc
  generalize cnt (.node k s m kk) = C at HS HC hc hd
  generalize dep (.node k s m kk) = D at HS HD hd
  generalize formedT (.node k s m kk) = f at HS HF
  generalize fitsS (.node k s m kk) = g at HS ⊢
  clear hs hn hk
  go_enter Tryd.func21, Tryd.ntmps21
  obtain ⟨p0, p1, p2, p3⟩ := F0.out
  go_wp2_with fail
  refine (HC.out _ B0.out).mono ?_
  rintro e w1 ⟨rfl, hb1⟩
  have B1 := mkHid (below_step B0.out hb1)
  have F1 := mkHid (F0.out.below hb1)
  clear hb1 B0 F0 p0 p1 p2 p3
  by_cases h1 : (C : Int) ≤ 500
  · obtain ⟨p0, p1, p2, p3⟩ := F1.out
    go_wp2_with fail
    refine (HD.out _ B1.out).mono ?_
    rintro e w2 ⟨rfl, hb2⟩
    have B2 := mkHid (below_step B1.out hb2)
    have F2 := mkHid (F1.out.below hb2)
    clear hb2 B1 F1 p0 p1 p2 p3
    by_cases h2 : (D : Int) ≤ 24
    · obtain ⟨p0, p1, p2, p3⟩ := F2.out
      have HG : Hid (g = f) := mkHid (by rw [HS.out, decide_eq_true (by omega), decide_eq_true (by omega)]; rfl)
      go_wp2_with fail
      refine (HF.out _ B2.out).mono ?_
      rintro e w3 ⟨rfl, hb3⟩
      have B3 := mkHid (below_step B2.out hb3)
      clear hb3
      go_wp2
      go_ret
      exact ⟨by rw [HG.out]; rfl, B3.out⟩
    · have HG : Hid (g = false) := mkHid (by rw [HS.out, decide_eq_false (show ¬ D ≤ 24 by omega)]; simp)
      go_wp2
      go_ret
      exact ⟨by rw [HG.out]; rfl, B2.out⟩
  · have HG : Hid (g = false) := mkHid (by rw [HS.out, decide_eq_false (show ¬ C ≤ 500 by omega)]; simp)
    go_wp2
    go_ret
    exact ⟨by rw [HG.out]; rfl, B1.out⟩

set_option maxRecDepth 100000 in
set_option maxHeartbeats 1600000 in
theorem sExpr_ok (k : Int) (s : ByteArray) (m : Int) (kk : List T) (a : Option Addr) (c : Nat) (w : World) (hs : s.size ≤ maxLen) (hn : kk.length ≤ maxLen) (hc : cnt (.node k s m kk) ≤ 1048577) (hk : Kids w 0 a kk) :
    Calls Tryd.prog 10 #[.agg #[.int .i64 k, .string s, .int .i64 m, .slice a kk.length c]] w fun e w' => e = .returned (.bool (betw k 1 8 && fitsS (.node k s m kk))) ∧ Below w.heap.size w w' := by
  have B0 := mkHid ((Below.refl w.heap.size w).alloc (Nat.le_refl _) (.cells #[.int .i64 k, .string s, .int .i64 m, .slice a kk.length c] 29))
  have HF := mkHid (fun W (hW : Below w.heap.size w W) => sFits_ok k s m kk a c W hs hn hc (hk.below hW))
  have HB := mkHid (fun W => isExpr_any k W)
  generalize fitsS (.node k s m kk) = f at HF
  generalize betw k 1 8 = g at HB
  clear hs hn hk hc
  go_enter Tryd.func10, Tryd.ntmps10
  go_wp2_with fail
  refine (HB.out _).mono ?_
  rintro e w1 ⟨rfl, rfl⟩
  cases g
  · go_wp2
    go_ret
    exact ⟨rfl, B0.out⟩
  · go_wp2_with fail
    refine (HF.out _ B0.out).mono ?_
    rintro e w2 ⟨rfl, hb2⟩
    have B2 := mkHid (below_step B0.out hb2)
    clear hb2
    go_wp2
    go_ret
    exact ⟨rfl, B2.out⟩
set_option maxRecDepth 100000 in
set_option maxHeartbeats 1600000 in
theorem iExpr_ok (k : Int) (s : ByteArray) (m : Int) (kk : List T) (a : Option Addr) (c : Nat) (w : World) (hs : s.size ≤ maxLen) (hn : kk.length ≤ maxLen) (hk : Kids w 0 a kk) :
    Calls Tryd.prog 14 #[.agg #[.int .i64 k, .string s, .int .i64 m, .slice a kk.length c]] w fun e w' => e = .returned (.bool (betw k 1 8 && fitsS (.node k s m kk))) ∧ Below w.heap.size w w' := by
  have B0 := mkHid ((Below.refl w.heap.size w).alloc (Nat.le_refl _) (.cells #[.int .i64 k, .string s, .int .i64 m, .slice a kk.length c] 29))
  have F0 := mkHid (Four.new w k s m a kk.length c 29)
  have HE := mkHid (show (betw k 1 8 && fitsS (.node k s m kk)) = (decide (dep (.node k s m kk) ≤ 24 ∧ cnt (.node k s m kk) ≤ 500) && fitsT (.node k s m kk) 1) by
    rw [fits_formed _ 1 (by decide), betw_grp1]
    show (decide (grpI k = 1) && (decide (cnt (.node k s m kk) ≤ 500) && decide (dep (.node k s m kk) ≤ 24) && formedT (.node k s m kk))) = (decide (dep (.node k s m kk) ≤ 24 ∧ cnt (.node k s m kk) ≤ 500) && (decide (grpI k = 1) && formedT (.node k s m kk)))
    rw [Bool.decide_and]
    cases decide (grpI k = 1) <;> cases decide (cnt (.node k s m kk) ≤ 500) <;> cases decide (dep (.node k s m kk) ≤ 24) <;> cases formedT (.node k s m kk) <;> rfl)
  have HM := mkHid (fun W (hW : Below w.heap.size w W) => isSmall_ok k s m kk a c W hn (hk.below hW))
  have HF := mkHid (fun W (hW : Below w.heap.size w W) => fits_ok (.node k s m kk) a c 1 W hs hn (hk.below hW))
  generalize (betw k 1 8 && fitsS (.node k s m kk)) = r at HE ⊢
  generalize decide (dep (.node k s m kk) ≤ 24 ∧ cnt (.node k s m kk) ≤ 500) = g at HE HM
  generalize fitsT (.node k s m kk) 1 = f at HE HF
  clear hs hn hk
  go_enter Tryd.func14, Tryd.ntmps14
  go_wp2_with fail
  refine (HM.out _ B0.out).mono ?_
  rintro e w1 ⟨rfl, hb1⟩
  have B1 := mkHid (below_step B0.out hb1)
  have F1 := mkHid (F0.out.below hb1)
  clear hb1 B0 F0
  cases g
  · have HG : Hid (r = false) := mkHid (by rw [HE.out]; rfl)
    go_wp2
    go_ret
    exact ⟨by rw [HG.out]; rfl, B1.out⟩
  · have HG : Hid (r = f) := mkHid (by rw [HE.out]; rfl)
    obtain ⟨p0, p1, p2, p3⟩ := F1.out
    go_wp2_with fail
    refine (HF.out _ B1.out).mono ?_
    rintro e w2 ⟨rfl, hb2⟩
    have B2 := mkHid (below_step B1.out hb2)
    clear hb2
    go_wp2
    go_ret
    exact ⟨by rw [HG.out]; rfl, B2.out⟩

set_option maxRecDepth 100000 in
set_option maxHeartbeats 1600000 in
theorem sCond_ok (k : Int) (s : ByteArray) (m : Int) (kk : List T) (a : Option Addr) (c : Nat) (w : World) (hs : s.size ≤ maxLen) (hn : kk.length ≤ maxLen) (hc : cnt (.node k s m kk) ≤ 1048577) (hk : Kids w 0 a kk) :
    Calls Tryd.prog 11 #[.agg #[.int .i64 k, .string s, .int .i64 m, .slice a kk.length c]] w fun e w' => e = .returned (.bool (betw k 11 16 && fitsS (.node k s m kk))) ∧ Below w.heap.size w w' := by
  have B0 := mkHid ((Below.refl w.heap.size w).alloc (Nat.le_refl _) (.cells #[.int .i64 k, .string s, .int .i64 m, .slice a kk.length c] 29))
  have HF := mkHid (fun W (hW : Below w.heap.size w W) => sFits_ok k s m kk a c W hs hn hc (hk.below hW))
  have HB := mkHid (fun W => isCond_any k W)
  generalize fitsS (.node k s m kk) = f at HF
  generalize betw k 11 16 = g at HB
  clear hs hn hk hc
  go_enter Tryd.func11, Tryd.ntmps11
  go_wp2_with fail
  refine (HB.out _).mono ?_
  rintro e w1 ⟨rfl, rfl⟩
  cases g
  · go_wp2
    go_ret
    exact ⟨rfl, B0.out⟩
  · go_wp2_with fail
    refine (HF.out _ B0.out).mono ?_
    rintro e w2 ⟨rfl, hb2⟩
    have B2 := mkHid (below_step B0.out hb2)
    clear hb2
    go_wp2
    go_ret
    exact ⟨rfl, B2.out⟩
set_option maxRecDepth 100000 in
set_option maxHeartbeats 1600000 in
theorem iCond_ok (k : Int) (s : ByteArray) (m : Int) (kk : List T) (a : Option Addr) (c : Nat) (w : World) (hs : s.size ≤ maxLen) (hn : kk.length ≤ maxLen) (hk : Kids w 0 a kk) :
    Calls Tryd.prog 15 #[.agg #[.int .i64 k, .string s, .int .i64 m, .slice a kk.length c]] w fun e w' => e = .returned (.bool (betw k 11 16 && fitsS (.node k s m kk))) ∧ Below w.heap.size w w' := by
  have B0 := mkHid ((Below.refl w.heap.size w).alloc (Nat.le_refl _) (.cells #[.int .i64 k, .string s, .int .i64 m, .slice a kk.length c] 29))
  have F0 := mkHid (Four.new w k s m a kk.length c 29)
  have HE := mkHid (show (betw k 11 16 && fitsS (.node k s m kk)) = (decide (dep (.node k s m kk) ≤ 24 ∧ cnt (.node k s m kk) ≤ 500) && fitsT (.node k s m kk) 2) by
    rw [fits_formed _ 2 (by decide), betw_grp2]
    show (decide (grpI k = 2) && (decide (cnt (.node k s m kk) ≤ 500) && decide (dep (.node k s m kk) ≤ 24) && formedT (.node k s m kk))) = (decide (dep (.node k s m kk) ≤ 24 ∧ cnt (.node k s m kk) ≤ 500) && (decide (grpI k = 2) && formedT (.node k s m kk)))
    rw [Bool.decide_and]
    cases decide (grpI k = 2) <;> cases decide (cnt (.node k s m kk) ≤ 500) <;> cases decide (dep (.node k s m kk) ≤ 24) <;> cases formedT (.node k s m kk) <;> rfl)
  have HM := mkHid (fun W (hW : Below w.heap.size w W) => isSmall_ok k s m kk a c W hn (hk.below hW))
  have HF := mkHid (fun W (hW : Below w.heap.size w W) => fits_ok (.node k s m kk) a c 2 W hs hn (hk.below hW))
  generalize (betw k 11 16 && fitsS (.node k s m kk)) = r at HE ⊢
  generalize decide (dep (.node k s m kk) ≤ 24 ∧ cnt (.node k s m kk) ≤ 500) = g at HE HM
  generalize fitsT (.node k s m kk) 2 = f at HE HF
  clear hs hn hk
  go_enter Tryd.func15, Tryd.ntmps15
  go_wp2_with fail
  refine (HM.out _ B0.out).mono ?_
  rintro e w1 ⟨rfl, hb1⟩
  have B1 := mkHid (below_step B0.out hb1)
  have F1 := mkHid (F0.out.below hb1)
  clear hb1 B0 F0
  cases g
  · have HG : Hid (r = false) := mkHid (by rw [HE.out]; rfl)
    go_wp2
    go_ret
    exact ⟨by rw [HG.out]; rfl, B1.out⟩
  · have HG : Hid (r = f) := mkHid (by rw [HE.out]; rfl)
    obtain ⟨p0, p1, p2, p3⟩ := F1.out
    go_wp2_with fail
    refine (HF.out _ B1.out).mono ?_
    rintro e w2 ⟨rfl, hb2⟩
    have B2 := mkHid (below_step B1.out hb2)
    clear hb2
    go_wp2
    go_ret
    exact ⟨by rw [HG.out]; rfl, B2.out⟩

end Go.Proofs.YtncdhmogkgefaabDoor
