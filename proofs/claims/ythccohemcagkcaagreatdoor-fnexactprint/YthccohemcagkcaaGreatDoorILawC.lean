/-
  FnExactPrint: the walk.
-/
import Derived.Test.YthccohemcagkcaaGreatDoorHb
import Derived.Test.YthccohemcagkcaaGreatDoorIh
namespace Go.Proofs.YthccohemcagkcaaGreatDoor
open Go.ChangeShapes Go.WideShapes Go.ChangeAt Go.RowKit Go.Joins Go.Deep
open Pl

set_option maxRecDepth 100000 in
set_option maxHeartbeats 3200000 in
theorem lawC_walk (k : Int) (s : ByteArray) (m : Int) (kk : List T) (a : Option Addr) (c : Nat) (w : World) (hs : s.size ≤ maxLen) (hn : kk.length ≤ maxLen) (hk : Kids w 0 a kk) (htab : Lib.TabIs Tryz.prog w "internal/strconv.uint64pow10" .u64 Lib.pow10Tab) :
    Calls Tryz.prog 7 #[.agg #[.int .i64 k, .string s, .int .i64 m, .slice a kk.length c]] w fun e w' => e = .returned (.bool true) ∧ Below w.heap.size w w' := by
  have HS := mkHid (And.intro hs hn)
  have HK := mkHid hk
  have B0 := mkHid ((Below.refl w.heap.size w).alloc (Nat.le_refl _) (.cells #[.int .i64 k, .string s, .int .i64 m, .slice a kk.length c] 42))
  have F0 := mkHid (Four.new w k s m a kk.length c 42)
  obtain ⟨gg, hgn⟩ := Option.isSome_iff_exists.1 (show (Tryz.prog.globalNamed "internal/strconv.uint64pow10").isSome = true by kernel_rfl)
  have HTB := mkHid (fun W (hW : Below w.heap.size w W) => Joins.tab_stays hgn htab hW (Nat.le_refl _))
  clear hs hn hk htab hgn
  go_enter Tryz.func7, Tryz.ntmps7
  go_wp2_with fail
  refine (szNode_ok (.node k s m kk) a c _ _ HS.out.1 HS.out.2 (HK.out.below B0.out) (by omega) (by omega)).mono ?_
  rintro e w1 ⟨⟨r, rfl, hm⟩, hb1⟩
  have B1 := mkHid (below_step B0.out hb1)
  have F1 := mkHid (F0.out.below hb1)
  have HM := mkHid hm
  clear hb1 hm F0 B0
  by_cases hr : r < 0
  · go_wp2
    go_ret
    exact ⟨rfl, B1.out⟩
  · have HZ : Hid (bulk (.node k s m kk) ≤ 1048576) := mkHid (by have := HM.out; omega)
    have HC : Hid (cnt (.node k s m kk) ≤ 1048577) := mkHid (by have := HZ.out; have := cnt_le (.node k s m kk); omega)
    clear HM
    obtain ⟨p0, p1, p2, p3⟩ := F1.out
    go_wp2_with fail
    refine (toNode_ok (.node k s m kk) a c _ HZ.out (HK.out.below B1.out)).mono ?_
    rintro e w2 ⟨⟨a2, c2, rfl, hk2⟩, hb2⟩
    have B2 := mkHid (below_step B1.out hb2)
    have F2 := mkHid (F1.out.below hb2)
    have K2 := mkHid (hk2.lower (Nat.zero_le _))
    clear hb2 hk2 F1 B1 p0 p1 p2 p3
    go_wp2_with fail
    refine (sPrint_any k s m kk a2 c2 _ HS.out.1 HS.out.2 HC.out K2.out).mono ?_
    rintro e w3 ⟨rfl, hb3⟩
    have B3 := mkHid (below_step B2.out hb3)
    have F3 := mkHid (F2.out.below hb3)
    have HI := mkHid (fun (a : Option Addr) (c : Nat) (W : World) (hcap : kk.length ≤ c) (hc9 : c ≤ maxLen) (hk : Kids W 0 a kk) (ht : Lib.TabIs Tryz.prog W "internal/strconv.uint64pow10" .u64 Lib.pow10Tab) => iPrint_any k s m kk a c W HS.out.1 HS.out.2 hcap hc9 hk ht)
    generalize printP (.node k s m kk) = q at HI ⊢
    clear hb3 F2 B2 K2
    obtain ⟨p0, p1, p2, p3⟩ := F3.out
    go_wp2_with fail
    refine (toNode_cap k s m kk a c _ HZ.out (HK.out.below B3.out)).mono ?_
    rintro e w4 ⟨⟨a4, c4, rfl, hk4, hcap4, hc94⟩, hb4⟩
    have B4 := mkHid (below_step B3.out hb4)
    have F4 := mkHid (F3.out.below hb4)
    have K4 := mkHid (hk4.lower (Nat.zero_le _))
    have C4 := mkHid (And.intro hcap4 hc94)
    clear hb4 hk4 hcap4 hc94 F3 B3 p0 p1 p2 p3
    go_wp2_with fail
    have A4 := mkHid ((Below.refl w4.heap.size w4).alloc (Nat.le_refl _) (.cells #[.int .i64 k, .string s, .int .i64 m, .slice a4 kk.length c4] 26))
    refine (HI.out a4 c4 _ C4.out.1 C4.out.2 (K4.out.below A4.out) (HTB.out _ (below_step B4.out A4.out))).mono ?_
    rintro e w5 ⟨rfl, hb5⟩
    have B5 := mkHid (below_step (below_step B4.out A4.out) hb5)
    have F5 := mkHid ((F4.out.below A4.out).below hb5)
    have X5 := mkHid ((Four.new w4 k s m a4 kk.length c4 26).below hb5)
    have K5 := mkHid ((K4.out.below A4.out).below hb5)
    clear hb5 A4 F4 B4 K4
    obtain ⟨p0, p1, p2, p3⟩ := F5.out
    obtain ⟨q0, q1, q2, q3⟩ := X5.out
    have hlx : w.heap.size < w5.heap.size := World.block_lt_of_cell? w5 _ p0
    have hly : w4.heap.size < w5.heap.size := World.block_lt_of_cell? w5 _ q0
    go_wp2_with fail
    go_region_held3 (fun w' => w'.cell? ⟨w.heap.size, 0, none⟩ = some (.int .i64 k) ∧ w'.cell? ⟨w.heap.size, 1, none⟩ = some (.string s) ∧ w'.cell? ⟨w.heap.size, 2, none⟩ = some (.int .i64 m) ∧ w'.cell? ⟨w.heap.size, 3, none⟩ = some (.slice a kk.length c) ∧ w'.cell? ⟨w4.heap.size, 0, none⟩ = some (.int .i64 k) ∧ w'.cell? ⟨w4.heap.size, 1, none⟩ = some (.string s) ∧ w'.cell? ⟨w4.heap.size, 2, none⟩ = some (.int .i64 m) ∧ w'.cell? ⟨w4.heap.size, 3, none⟩ = some (.slice a4 kk.length c4))
      (first | exact ⟨p0, p1, p2, p3, q0, q1, q2, q3⟩ | exact ⟨(hc _ _ hlx).trans p0, (hc _ _ hlx).trans p1, (hc _ _ hlx).trans p2, (hc _ _ hlx).trans p3, (hc _ _ hly).trans q0, (hc _ _ hly).trans q1, (hc _ _ hly).trans q2, (hc _ _ hly).trans q3⟩)
      (first | (go_at_call 28; refine (toNode_ok (.node k s m kk) a c _ HZ.out (HK.out.below B5.out.drew)).mono ?_; rintro e w6 ⟨⟨a6, c6, rfl, hk6⟩, hb6⟩; obtain ⟨hc, hf⟩ := bcell hb6) | (go_at_call 23; refine (eqNode_ok (.node k s m kk) a4 a6 c4 c6 _ HS.out.2 ((K5.out.below (Below.refl _ _).drew).below hb6) (hk6.lower (Nat.zero_le _))).mono ?_; rintro e w7 ⟨rfl, hb7⟩; obtain ⟨hc', hf'⟩ := bcell hb7; have hc := fun (b o : Nat) (h : b < w5.drew.heap.size) => (hc' b o (Nat.lt_of_lt_of_le h hb6.size)).trans (hc b o h)))
    have B7 := mkHid (below_step (below_step B5.out.drew hb6) hb7)
    clear hc hc' hf hf' hb6 hb7 hk6
    go_wp2
    go_ret
    exact ⟨rfl, B7.out⟩

end Go.Proofs.YthccohemcagkcaaGreatDoor
