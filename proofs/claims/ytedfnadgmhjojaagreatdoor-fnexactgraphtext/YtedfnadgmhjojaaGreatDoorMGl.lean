/-
  CONTRACTS of both GraphTexts.
  FnExactGraphText: the walk.
-/
import Derived.Test.YtedfnadgmhjojaaGreatDoorMGg
import Derived.Test.YtedfnadgmhjojaaGreatDoorMGh
import Derived.Test.YtedfnadgmhjojaaGreatDoorMGok
namespace Go.Proofs.YtedfnadgmhjojaaGreatDoor
open Go.RowKit
open Pl
set_option maxRecDepth 100000 in
set_option maxHeartbeats 3200000 in
theorem sGraph_no (p : Int) (es : List Ed) (a : Option Addr) (c : Nat) (w : World) (hg : gokB p es = false) (hl : KidsG w 0 a es) :
    Calls Tryz.prog 5 #[.agg #[.int .i64 p, .slice a es.length c]] w fun e w' => e = .returned (.string ⟨#[]⟩) ∧ Below w.heap.size w w' := by
 have HGK := mkHid hg
 have HL := mkHid hl
 have HB0 := mkHid (below_one w (.cells #[.int .i64 p, .slice a es.length c] 29))
 clear hl hg
 go_enter Tryz.func5, Tryz.ntmps5
 go_wp2_with fail
 refine (sGraphOk_ok p es a c _ (HL.out.below HB0.out)).mono ?_
 rintro e w1 ⟨rfl, hb1⟩
 rw [HGK.out]
 have HB1 := mkHid (below_step HB0.out hb1)
 clear hb1
 go_wp2
 go_ret
 exact ⟨rfl, HB1.out⟩
set_option maxRecDepth 100000 in
set_option maxHeartbeats 3200000 in
theorem iGraph_no (p : Int) (es : List Ed) (a : Option Addr) (c : Nat) (w : World) (hg : gokB p es = false) (hl : KidsG w 0 a es) :
    Calls Tryz.prog 7 #[.agg #[.int .i64 p, .slice a es.length c]] w fun e w' => e = .returned (.string ⟨#[]⟩) ∧ Below w.heap.size w w' := by
 have HGK := mkHid hg
 have HL := mkHid hl
 have HB0 := mkHid (below_one w (.cells #[.int .i64 p, .slice a es.length c] 29))
 clear hl hg
 go_enter Tryz.func7, Tryz.ntmps7
 go_wp2_with fail
 refine (iGraphOk_ok p es a c _ (HL.out.below HB0.out)).mono ?_
 rintro e w1 ⟨rfl, hb1⟩
 rw [HGK.out]
 have HB1 := mkHid (below_step HB0.out hb1)
 clear hb1
 go_wp2
 go_ret
 exact ⟨rfl, HB1.out⟩
theorem sGraph_any (p : Int) (es : List Ed) (a : Option Addr) (c : Nat) (w : World) (hcn : ∀ e ∈ es, cnt e.n ≤ 1048576) (hl : KidsG w 0 a es) :
    Calls Tryz.prog 5 #[.agg #[.int .i64 p, .slice a es.length c]] w fun e w' => e = .returned (.string (graphT p es)) ∧ Below w.heap.size w w' := by
 unfold graphT
 cases hg : gokB p es with
 | true => rw [if_pos rfl]; exact sGraph_yes p es a c w hg hcn hl
 | false => rw [if_neg (by decide)]; exact sGraph_no p es a c w hg hl
theorem iGraph_any (p : Int) (es : List Ed) (a : Option Addr) (c : Nat) (w : World) (hl : KidsG w 0 a es) (htab : Lib.TabIs Tryz.prog w "internal/strconv.uint64pow10" .u64 Lib.pow10Tab) :
    Calls Tryz.prog 7 #[.agg #[.int .i64 p, .slice a es.length c]] w fun e w' => e = .returned (.string (graphT p es)) ∧ Below w.heap.size w w' := by
 unfold graphT
 cases hg : gokB p es with
 | true => rw [if_pos rfl]; exact iGraph_yes p es a c w hg hl htab
 | false => rw [if_neg (by decide)]; exact iGraph_no p es a c w hg hl
end Go.Proofs.YtedfnadgmhjojaaGreatDoor
namespace Go.Proofs.YtedfnadgmhjojaaGreatDoor
open Go.ChangeShapes Go.WideShapes Go.ChangeAt Go.RowKit Go.Joins Go.Deep
open Pl
mutual
theorem cnt_bulk : ∀ t : T, cnt t ≤ 1 + bulk t
 | .node k s m kk => by have := cnts_bulks kk; simp only [cnt, bulk]; omega
theorem cnts_bulks : ∀ kk : List T, cnts kk ≤ kk.length + bulks kk
 | [] => Nat.zero_le _
 | t :: r => by have h1 := cnt_bulk t; have h2 := cnts_bulks r; simp only [cnts, bulks, List.length_cons]; omega
end
def Two (w : World) (b : Nat) (p : Int) (a : Option Addr) (n c : Nat) : Prop := w.cell? ⟨b, 0, none⟩ = some (.int .i64 p) ∧ w.cell? ⟨b, 1, none⟩ = some (.slice a n c)
theorem Two.below {w w' : World} {b : Nat} {p : Int} {a : Option Addr} {n c : Nat} (h : Two w b p a n c) (hb : Below w.heap.size w w') : Two w' b p a n c := by
 obtain ⟨h0, h1⟩ := h
 have hlt := World.block_lt_of_cell? w _ h0
 have hc : ∀ q, w'.cell? ⟨b, q, none⟩ = w.cell? ⟨b, q, none⟩ := fun q => hb.cell (p := ⟨b, q, none⟩) hlt
 exact ⟨(hc _).trans h0, (hc _).trans h1⟩
theorem Two.new (w : World) (p : Int) (a : Option Addr) (n c t : Nat) : Two (w.alloc (.cells #[.int .i64 p, .slice a n c] t)) w.heap.size p a n c :=
 ⟨by simp [go_sem], by simp [go_sem]⟩

set_option maxRecDepth 100000 in
set_option maxHeartbeats 3200000 in
theorem lawA_walk (p : Int) (es : List Ed) (a : Option Addr) (c : Nat) (w : World) (hn : es.length ≤ maxLen) (hk : KidsG w 0 a es) (htab : Lib.TabIs Tryz.prog w "internal/strconv.uint64pow10" .u64 Lib.pow10Tab) :
    Calls Tryz.prog 3 #[.agg #[.int .i64 p, .slice a es.length c]] w fun e w' => e = .returned (.bool true) ∧ Below w.heap.size w w' := by
 have HS := mkHid hn
 have HK := mkHid hk
 have B0 := mkHid ((Below.refl w.heap.size w).alloc (Nat.le_refl _) (.cells #[.int .i64 p, .slice a es.length c] 24))
 have F0 := mkHid (Two.new w p a es.length c 24)
 have HTB := mkHid (fun W (hW : Below w.heap.size w W) => tab_below htab hW)
 obtain ⟨s, hs⟩ : ∃ s : ByteArray, s = graphT p es := ⟨_, rfl⟩
 have HSP : Hid ((∀ e ∈ es, cnt e.n ≤ 1048576) → ∀ (a : Option Addr) (c : Nat) (w : World), KidsG w 0 a es → Calls Tryz.prog 5 #[.agg #[.int .i64 p, .slice a es.length c]] w fun e w' => e = .returned (.string s) ∧ Below w.heap.size w w') := mkHid (by rw [hs]; exact fun hc a c w h => sGraph_any p es a c w hc h)
 have HIP : Hid (∀ (a : Option Addr) (c : Nat) (w : World), KidsG w 0 a es → Lib.TabIs Tryz.prog w "internal/strconv.uint64pow10" .u64 Lib.pow10Tab → Calls Tryz.prog 7 #[.agg #[.int .i64 p, .slice a es.length c]] w fun e w' => e = .returned (.string s) ∧ Below w.heap.size w w') := mkHid (by rw [hs]; exact fun a c w h ht => iGraph_any p es a c w h ht)
 clear hn hk htab hs
 go_enter Tryz.func3, Tryz.ntmps3
 go_wp2_with fail
 refine (szGraph_ok p es a c _ _ HS.out (HK.out.below B0.out) (by omega) (by omega)).mono ?_
 rintro e w1 ⟨⟨r, rfl, hm⟩, hb1⟩
 have B1 := mkHid (below_step B0.out hb1)
 have F1 := mkHid (F0.out.below hb1)
 have HM := mkHid hm
 clear hb1 hm F0 B0
 by_cases hr : r < 0
 ·go_wp2
  go_ret
  exact ⟨rfl, B1.out⟩
 ·have HZ : Hid (es.length + ebulk es ≤ 1048576) := mkHid (by have := HM.out; omega)
  have HCN : Hid (∀ e ∈ es, cnt e.n ≤ 1048576) := mkHid (fun e he => by
   have h1 := ebulk_mem he
   have h2 := cnt_bulk e.n
   have h3 : 0 < es.length := List.length_pos_of_mem he
   have := HZ.out
   omega)
  clear HM
  obtain ⟨p0, p1⟩ := F1.out
  go_wp2_with fail
  refine (toGraph_ok p es a c _ HZ.out (HK.out.below B1.out)).mono ?_
  rintro e w2 ⟨⟨a2, c2, rfl, hk2, _⟩, hb2⟩
  have B2 := mkHid (below_step B1.out hb2)
  have F2 := mkHid (F1.out.below hb2)
  have K2 := mkHid (hk2.plain.lower (Nat.zero_le _))
  clear hb2 hk2 F1 B1 p0 p1
  go_wp2_with fail
  refine (HSP.out HCN.out a2 c2 _ K2.out).mono ?_
  rintro e w3 ⟨rfl, hb3⟩
  have B3 := mkHid (below_step B2.out hb3)
  have F3 := mkHid (F2.out.below hb3)
  clear hb3 F2 B2 K2
  obtain ⟨p0, p1⟩ := F3.out
  go_wp2_with fail
  refine (toGraph_ok p es a c _ HZ.out (HK.out.below B3.out)).mono ?_
  rintro e w4 ⟨⟨a4, c4, rfl, hk4, _⟩, hb4⟩
  have B4 := mkHid (below_step B3.out hb4)
  have F4 := mkHid (F3.out.below hb4)
  have K4 := mkHid (hk4.plain.lower (Nat.zero_le _))
  clear hb4 hk4 F3 B3 p0 p1
  go_wp2_with fail
  have A4 := mkHid ((Below.refl w4.heap.size w4).alloc (Nat.le_refl _) (.cells #[.int .i64 p, .slice a4 es.length c4] 29))
  refine (HIP.out a4 c4 _ (K4.out.below A4.out) (HTB.out _ (below_step B4.out A4.out))).mono ?_
  rintro e w5 ⟨rfl, hb5⟩
  have B5 := mkHid (below_step (below_step B4.out A4.out) hb5)
  have F5 := mkHid ((F4.out.below A4.out).below hb5)
  have X5 := mkHid ((Two.new w4 p a4 es.length c4 29).below hb5)
  have K5 := mkHid ((K4.out.below A4.out).below hb5)
  clear hb5 A4 F4 B4 K4
  obtain ⟨p0, p1⟩ := F5.out
  obtain ⟨q0, q1⟩ := X5.out
  have hlx : w.heap.size < w5.heap.size := World.block_lt_of_cell? w5 _ p0
  have hly : w4.heap.size < w5.heap.size := World.block_lt_of_cell? w5 _ q0
  go_wp2_with fail
  go_region_held3 (fun w' => w'.cell? ⟨w.heap.size, 0, none⟩ = some (.int .i64 p) ∧ w'.cell? ⟨w.heap.size, 1, none⟩ = some (.slice a es.length c) ∧ w'.cell? ⟨w4.heap.size, 0, none⟩ = some (.int .i64 p) ∧ w'.cell? ⟨w4.heap.size, 1, none⟩ = some (.slice a4 es.length c4))
   (first | exact ⟨p0, p1, q0, q1⟩ | exact ⟨(hc _ _ hlx).trans p0, (hc _ _ hlx).trans p1, (hc _ _ hly).trans q0, (hc _ _ hly).trans q1⟩)
   (first | (go_at_call 6; refine (toGraph_ok p es a c _ HZ.out (HK.out.below B5.out.drew)).mono ?_; rintro e w6 ⟨⟨a6, c6, rfl, hk6, _⟩, hb6⟩; obtain ⟨hc, hf⟩ := bcell hb6) | (go_at_call 8; refine (eqGraph_ok p es a4 a6 c4 c6 _ HS.out ((K5.out.below (Below.refl _ _).drew).below hb6) (hk6.plain.lower (Nat.zero_le _))).mono ?_; rintro e w7 ⟨rfl, hb7⟩; obtain ⟨hc', hf'⟩ := bcell hb7; have hc := fun (b o : Nat) (h : b < w5.drew.heap.size) => (hc' b o (Nat.lt_of_lt_of_le h hb6.size)).trans (hc b o h)))
  have B7 := mkHid (below_step (below_step B5.out.drew hb6) hb7)
  clear hc hc' hf hf' hb6 hb7 hk6
  go_wp2
  go_ret
  exact ⟨rfl, B7.out⟩

end Go.Proofs.YtedfnadgmhjojaaGreatDoor
