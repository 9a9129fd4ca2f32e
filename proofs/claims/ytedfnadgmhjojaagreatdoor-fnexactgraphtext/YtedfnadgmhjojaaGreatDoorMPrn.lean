/-
  CONTRACTS of the program's Print and ProgOk.
-/
import Derived.Test.YtedfnadgmhjojaaGreatDoorMPlnc
import Derived.Test.YtedfnadgmhjojaaGreatDoorMPbl
namespace Go.Proofs.YtedfnadgmhjojaaGreatDoor
open Go.RowKit
open Pl

set_option maxHeartbeats 2000000 in
set_option maxRecDepth 100000 in
theorem string_fresh (dp : Int) (b : Nat) (w : World) (h : w.heap[b]? = some (.cells #[.pointer none, .slice none 0 0, .int .i64 dp] 85 (0, 0))) :
    Calls Tryz.prog 21 #[.pointer (some ⟨b, 0, none⟩)] w fun e w' => e = .returned (.string ⟨#[]⟩) ∧ Below w.heap.size w w' := by
 have c1 : w.drew.cell? ⟨b, 1, none⟩ = some (.slice none 0 0) := by
  have : w.drew.heap[b]? = some (.cells #[.pointer none, .slice none 0 0, .int .i64 dp] 85 (0, 0)) := h
  rw [Lib.cell_of_heap this]; rfl
 have hSD : (Builtin.unsafeSliceData_ #[35] 70 #[.slice none 0 0]).run Tryz.prog w.drew = .ok (.pointer none) w.drew := Lib.run_unsafeSliceData_nil _ _ _ _ _
 have hUS : (Builtin.unsafeString_ #[70, 3] 9 #[.pointer none, .int .i64 0]).run Tryz.prog w.drew = .ok (.string .empty) w.drew := Lib.run_unsafeString_none _ _ _ _ _
 have mixed : Tryz.prog.follows Departure.mixedOrders = true := by kernel_rfl
 go_enter Tryz.func21, Tryz.ntmps21
 go_wp2
 go_region_o
 all_goals (go_wp2; go_ret; exact ⟨rfl, (Below.refl _ _).drew⟩)
set_option maxRecDepth 100000 in
set_option maxHeartbeats 2000000 in
theorem lines_same (a : Option Addr) (c b : Nat) (w : World) : Calls Tryz.prog 70 #[.pointer (some ⟨b, 0, none⟩), .slice a 0 c] w fun e w' => e = .returned (.tuple #[]) ∧ w = w' := by
 go_enter Tryz.func70, Tryz.ntmps70
 go_wp2
 go_loopw [8] (fun i w' => i = .int .i64 0 ∧ w' = w) (fun i _ => 0)
 case atStart => exact ⟨rfl, rfl⟩
 case round =>
  obtain ⟨rfl, rfl⟩ := hrel
  go_wp2
  go_end0
  exact ⟨rfl, rfl⟩
theorem cat_ne {kk : List T} (n : Nat) (h : kk ≠ []) (hA : ∀ t ∈ kk, Apart t) : (catS (lnSs kk (padB n))).data.toList ≠ [] := by
 cases kk with
 | nil => exact absurd rfl h
 | cons x r =>
   simp only [lnSs, catS]
   rw [toL_app, hA x (by simp) n]
   simp
theorem grp40 (k : Int) : decide (grpI k = 6) = decide (k = 40) := by
 unfold grpI
 by_cases h : k = 40
 ·subst h; rfl
 ·rw [decide_eq_false h]
  refine decide_eq_false ?_
  repeat' split
  all_goals omega
/-- What the program's Print answers. -/
theorem print_eq (t : T) : printP t = if decide (dep t ≤ 24 ∧ cnt t ≤ 500) = true ∧ fitsT t 6 = true then (if (wordsI (textP t)).2.1 = 0 then textP t else ⟨#[]⟩) else ⟨#[]⟩ := by
 have hf : fitsT t 6 = (decide (kindT t = 40) && formedT t) := by rw [fits_formed t 6 (by decide), grp40]
 unfold printP okP fitsS
 rw [hf]
 by_cases h1 : kindT t = 40
 ·by_cases h2 : formedT t = true
  ·by_cases h3 : dep t ≤ 24 ∧ cnt t ≤ 500
   ·by_cases h4 : (wordsI (textP t)).2.1 = 0
    ·by_cases h5 : textP t = ⟨#[]⟩
     ·rw [h5]; simp
     ·simp [h1, h2, h3.1, h3.2, h4, h5]
    ·simp [h4]
   ·have h3' : (decide (cnt t ≤ 500) && decide (dep t ≤ 24)) = false := by
      rcases Nat.lt_or_ge 24 (dep t) with q | q
      ·simp; omega
      ·simp; omega
    rw [h3']
    simp [h3]
  ·simp [h2]
 ·simp [h1]
theorem text_prog (ds ss : List T) : (textP (.node 40 nil_ 0 (ds ++ [.node 30 nil_ 0 ss]))).data.toList = (catS (lnSs ds (padB 0))).data.toList ++ (catS (lnSs ss (padB 0))).data.toList := by
 unfold textP
 rw [lnS_eq]
 show (catS (lnSs (ds ++ [.node 30 nil_ 0 ss]) ⟨#[]⟩)).data.toList = _
 have : ∀ l : List T, lnSs (l ++ [.node 30 nil_ 0 ss]) ⟨#[]⟩ = lnSs l ⟨#[]⟩ ++ [lnS (.node 30 nil_ 0 ss) ⟨#[]⟩] := fun l => by
  induction l with
  | nil => simp only [List.nil_append, lnSs]
  | cons x r ih => simp only [List.cons_append, lnSs, ih]
 rw [this, catS_app, toL_app, padB_zero]
 congr 1
 simp only [catS]
 rw [lnS_block, toL_app]
 simp
set_option maxRecDepth 100000 in
set_option maxHeartbeats 8000000 in
theorem iPrint_any (k : Int) (s : ByteArray) (m : Int) (kk : List T) (a : Option Addr) (c : Nat) (w : World) (hs : s.size ≤ maxLen) (hn : kk.length ≤ maxLen) (hcap : kk.length ≤ c) (hc9 : c ≤ maxLen) (hk : Kids w 0 a kk) (htab : Lib.TabIs Tryz.prog w "internal/strconv.uint64pow10" .u64 Lib.pow10Tab) :
    Calls Tryz.prog 49 #[.agg #[.int .i64 k, .string s, .int .i64 m, .slice a kk.length c]] w fun e w' => e = .returned (.string (printP (.node k s m kk))) ∧ Below w.heap.size w w' := by
 have HS := mkHid (fun W (hW : Below w.heap.size w W) => isSmall_ok k s m kk a c W hn (hk.below hW))
 have HFT := mkHid (fun W (hW : Below w.heap.size w W) => fits_ok (.node k s m kk) a c 6 W hs hn (hk.below hW))
 have HX := mkHid (print_eq (.node k s m kk))
 have HFF := mkHid (show fitsT (.node k s m kk) 6 = (decide (k = 40) && formedT (.node k s m kk)) from by rw [fits_formed _ 6 (by decide), grp40]; rfl)
 have B0 := mkHid ((Below.refl w.heap.size w).alloc (Nat.le_refl _) (.cells #[.int .i64 k, .string s, .int .i64 m, .slice a kk.length c] 38))
 have F0 := mkHid (Four.new w k s m a kk.length c 38)
 have HDC : Hid (decide (dep (.node k s m kk) ≤ 24 ∧ cnt (.node k s m kk) ≤ 500) = true → dep (.node k s m kk) ≤ 24 ∧ cnt (.node k s m kk) ≤ 500) := mkHid (fun h => by simpa using h)
 have HK := mkHid hk
 have HT := mkHid htab
 generalize printP (.node k s m kk) = R at HX ⊢
 unfold maxLen at hn hc9
 clear hs hk htab
 obtain ⟨p0, p1, p2, p3⟩ := F0.out
 go_enter Tryz.func49, Tryz.ntmps49
 go_wp2_with fail
 refine (HS.out _ B0.out).mono ?_
 rintro e w1 ⟨rfl, hb1⟩
 have B1 := mkHid (below_step B0.out hb1)
 have F1 := mkHid (F0.out.below hb1)
 clear hb1 B0 F0 p0 p1 p2 p3
 generalize decide (dep (.node k s m kk) ≤ 24 ∧ cnt (.node k s m kk) ≤ 500) = f at HX HDC ⊢
 cases f with
 | false =>
   have HR := mkHid (show R = ⟨#[]⟩ by rw [HX.out]; simp)
   go_wp2
   go_ret
   exact ⟨ret_str HR.out.symm, B1.out⟩
 | true =>
   have HDD := mkHid (HDC.out rfl)
   clear HDC
   obtain ⟨p0, p1, p2, p3⟩ := F1.out
   go_wp2_with fail
   refine (HFT.out _ B1.out).mono ?_
   rintro e w2 ⟨rfl, hb2⟩
   have B2 := mkHid (below_step B1.out hb2)
   have F2 := mkHid (F1.out.below hb2)
   clear hb2 B1 F1 p0 p1 p2 p3
   cases hq : fitsT (.node k s m kk) 6 with
   | false =>
     have HR := mkHid (show R = ⟨#[]⟩ by rw [HX.out, hq]; simp)
     go_wp2
     go_ret
     exact ⟨ret_str HR.out.symm, B2.out⟩
   | true =>
     obtain ⟨hk40, hfm⟩ : k = 40 ∧ formedT (.node k s m kk) = true := by have := HFF.out; rw [hq] at this; simpa using this.symm
     subst hk40
     obtain ⟨hdp, hct⟩ := HDD.out
     obtain ⟨r1, r2, ds, ss, r3, g1, g2⟩ := prog_shape hfm
     subst r1 r2 r3
     have HR := mkHid (show R = if (wordsI (textP (.node 40 nil_ 0 (ds ++ [.node 30 nil_ 0 ss])))).2.1 = 0 then textP (.node 40 nil_ 0 (ds ++ [.node 30 nil_ 0 ss])) else ⟨#[]⟩ by rw [HX.out, hq]; simp)
     have lC : ds.length + 1 ≤ c := by simpa using hcap
     by_cases hemp : ds = [] ∧ ss = []
     ·obtain ⟨rfl, rfl⟩ := hemp
      have HRE := mkHid (show R = ⟨#[]⟩ by
       rw [HR.out]
       have : textP (.node 40 nil_ 0 ([] ++ [.node 30 nil_ 0 []])) = ⟨#[]⟩ := by
        apply ByteArray.ext
        apply Array.ext'
        rw [text_prog]
        simp [lnSs, catS]
       rw [this]
       simp)
      rcases HK.out with h0 | ⟨kb, o, rfl, _, hll⟩
      ·simp at h0
      obtain ⟨xa, xc, xc0, xc1, xc2, xc3, _, _, xkids⟩ := hll.at (i := 0) (show _ = some (T.node 30 nil_ 0 []) from rfl)
      simp only [Nat.zero_mul, Nat.add_zero, List.length_nil] at xc0 xc1 xc2 xc3
      have hbw : kb < w.heap.size := World.block_lt_of_cell? w _ xc0
      have y3 := (B2.out.cell (p := ⟨kb, o + 3, none⟩) hbw).trans xc3
      have lK : kb < w2.heap.size := Nat.lt_of_lt_of_le hbw B2.out.size
      have lW : w.heap.size < w2.heap.size := World.block_lt_of_cell? w2 _ F2.out.1
      obtain ⟨p0, p1, p2, p3⟩ := F2.out
      have HWD := mkHid (fun W => iWords_any ⟨#[]⟩ W (by decide))
      have X3 := mkHid (World.heap_alloc_new w2 #[.pointer none, .slice none 0 0, .int .i64 0] 85)
      have B3 := mkHid (B2.out.alloc B2.out.size (.cells #[.pointer none, .slice none 0 0, .int .i64 0] 85))
      have c1 : (1 : Int) ≤ (c : Int) := by omega
      clear HR HX HFF HDD HS HFT hll xkids xc0 xc1 xc2 xc3 hq hfm hdp hct g1 g2 HK HT
      go_wp2_with fail
      refine (lines_same _ _ _ _).mono ?_
      rintro e w4 ⟨rfl, rfl⟩
      go_wp2_with fail
      refine (lines_same _ _ _ _).mono ?_
      rintro e w4 ⟨rfl, rfl⟩
      go_wp2_with fail
      refine (string_fresh 0 w2.heap.size _ X3.out).mono ?_
      rintro e w6 ⟨rfl, hb6⟩
      have B6 := mkHid (below_step B3.out hb6)
      clear hb6
      go_wp2_with fail
      refine (HWD.out _).mono ?_
      rintro e w7 ⟨v, rfl, _, hb7⟩
      have B7 := mkHid (below_step B6.out hb7)
      clear hb7
      generalize (wordsI ⟨#[]⟩).2.1 = cd
      generalize (wordsI ⟨#[]⟩).2.2 = ct
      have B8 := mkHid (B7.out.alloc B7.out.size (.cells #[.int .i64 cd, .int .i64 ct] 75))
      by_cases hcd : cd = 0
      ·have hc2 : (cd != 0) = false := by simpa using hcd
       clear hcd
       go_wp2
       go_ret
       exact ⟨ret_str HRE.out.symm, B8.out⟩
      ·have hc2 : (cd != 0) = true := by simpa using hcd
       clear hcd
       go_wp2
       go_ret
       exact ⟨ret_str HRE.out.symm, B8.out⟩
     have hne : ds ≠ [] ∨ ss ≠ [] := by
      by_cases q : ds = []
      ·exact .inr fun e => hemp ⟨q, e⟩
      ·exact .inl q
     clear hemp
     have hct2 : cnts ds + cnts ss ≤ 498 := by simp only [cnt, cnts_app, cnts] at hct; omega
     have hAd : ∀ t ∈ ds, PLn t ∧ Apart t := fun t ht => (pLn_all t).1 (.inr (g1 t ht))
     have hAs : ∀ t ∈ ss, PLn t ∧ Apart t := fun t ht => (pLn_all t).1 (.inl (g2 t ht))
     have hcd : ∀ t ∈ ds, cnt t ≤ 500 := fun t ht => by have := cnt_mem ht; omega
     have hcs : ∀ t ∈ ss, cnt t ≤ 500 := fun t ht => by have := cnt_mem ht; omega
     have hd24 : deps (ds ++ [.node 30 nil_ 0 ss]) ≤ 23 := by simp only [dep] at hdp; omega
     have hdd : ∀ t ∈ ds, 2 * 0 + 2 * dep t ≤ 1000 := fun t ht => by have := dep_mem (kk := ds ++ [.node 30 nil_ 0 ss]) (t := t) (by simp [ht]); omega
     have hds : ∀ t ∈ ss, 2 * 0 + 2 * dep t ≤ 1000 := fun t ht => by
      have h1 := dep_mem (kk := ds ++ [.node 30 nil_ 0 ss]) (t := .node 30 nil_ 0 ss) (by simp)
      have h2 := dep_mem ht
      simp only [dep] at h1
      omega
     have llen : ∀ q : List T, q.length ≤ cnts q := fun q => by
      induction q with
      | nil => exact Nat.zero_le _
      | cons x r ih => have : 1 ≤ cnt x := (by cases x; simp only [cnt]; omega)
                       simp only [List.length_cons, cnts]; omega
     have hmd := llen ds
     have hms := llen ss
     have hzd : (catS (lnSs ds (padB 0))).size ≤ 3000000 * 500 := by
      have := cat_size ds (pad := padB 0) (fun t ht => ln_size t (.inr (.inr (.inl (g1 t ht)))) _ (by have := hdd t ht; rw [padB_size]; omega))
      omega
     have hzs : (catS (lnSs ss (padB 0))).size ≤ 3000000 * 500 := by
      have := cat_size ss (pad := padB 0) (fun t ht => ln_size t (.inl (g2 t ht)) _ (by have := hds t ht; rw [padB_size]; omega))
      omega
     have HTX := mkHid (text_prog ds ss)
     generalize textP (.node 40 nil_ 0 (ds ++ [.node 30 nil_ 0 ss])) = t at HR HTX
     rcases HK.out with h0 | ⟨kb, o, rfl, _, hll⟩
     ·simp at h0
     have hlen : (ds ++ [T.node 30 nil_ 0 ss]).length = ds.length + 1 := by simp
     obtain ⟨xa, xc, xc0, xc1, xc2, xc3, _, _, xkids⟩ := hll.at (i := ds.length) (show _ = some (T.node 30 nil_ 0 ss) by simp)
     have hlld : LiesL w 0 ds kb o := LiesL.of fun i t ht => hll.get (i := i) (by rw [List.getElem?_append_left (List.getElem?_eq_some_iff.1 ht).1]; exact ht)
     have HLD := mkHid hlld
     have HXK := mkHid xkids
     have HXC := mkHid (And.intro xc0 (And.intro xc1 (And.intro xc2 xc3)))
     have hbw : kb < w.heap.size := World.block_lt_of_cell? w _ xc0
     have lW : w.heap.size < w2.heap.size := World.block_lt_of_cell? w2 _ F2.out.1
     have AR := mkHid (show Around w ((0 : Nat) : Int) w2.heap.size w2.heap.size [] (w2.alloc (.cells #[.pointer none, .slice none 0 0, .int .i64 0] 85)) from ⟨.inl ⟨Nat.le_refl _, _, World.heap_alloc_new w2 _ 85, ⟨rfl, .inl ⟨rfl, rfl⟩⟩, by simp [Value.ownBlock]⟩, B2.out.alloc (by omega) _, by omega, by simp, HT.out⟩)
     have hRD := HR.out
     have hstr : (ByteArray.mk (([] ++ (catS (lnSs ds (padB 0))).data.toList) ++ (catS (lnSs ss (padB 0))).data.toList).toArray) = t := by
      apply ByteArray.ext
      apply Array.ext'
      rw [HTX.out]
      simp
     have hln1 : (catS (lnSs ds (padB 0))).data.toList.length = (catS (lnSs ds (padB 0))).size := (Lib.size_eq _).symm
     have H1 := mkHid (fun W hA => lines_any ds (some ⟨kb, o, none⟩) c hAd w 0 w2.heap.size w2.heap.size [] W hcd hdd (by omega) (by omega) (.inr ⟨kb, o, rfl, Nat.zero_le _, HLD.out⟩) hA (by show 0 + _ ≤ _; omega))
     have H2 := mkHid (fun W hA => lines_any ss xa xc hAs w 0 w2.heap.size w2.heap.size ([] ++ (catS (lnSs ds (padB 0))).data.toList) W hcs hds (by omega) (by omega) HXK.out hA (by rw [List.nil_append, hln1]; omega))
     have hts : t.size ≤ 3000000 * 1000 := by
      have := congrArg ByteArray.size hstr
      rw [← this, Lib.size_eq]
      simp only [List.nil_append, List.length_append, hln1]
      have : (catS (lnSs ss (padB 0))).data.toList.length = (catS (lnSs ss (padB 0))).size := (Lib.size_eq _).symm
      omega
     have HWD := mkHid (fun W => iWords_any t W (by unfold maxLen; omega))
     have hl0 : ([] ++ (catS (lnSs ds (padB 0))).data.toList) ++ (catS (lnSs ss (padB 0))).data.toList ≠ [] := by
      intro e
      simp only [List.nil_append, List.append_eq_nil_iff] at e
      rcases hne with q | q
      ·exact cat_ne 0 q (fun t ht => (hAd t ht).2) e.1
      ·exact cat_ne 0 q (fun t ht => (hAs t ht).2) e.2
     have HST := mkHid (fun W dp h => string_any dp w2.heap.size w2.heap.size (([] ++ (catS (lnSs ds (padB 0))).data.toList) ++ (catS (lnSs ss (padB 0))).data.toList) W h hl0)
     rw [hstr] at HST
     obtain ⟨p0, p1, p2, p3⟩ := F2.out
     rw [hlen] at p3 hcap hn
     obtain ⟨z, hz⟩ : ∃ z : Nat, ds.length + 1 = z := ⟨_, rfl⟩
     rw [hz] at p3 hcap hn
     have hwz : IntKind.i64.wrap ((z : Int) - 1) = (ds.length : Int) := by rw [IntKind.wrap_i64]; omega
     have HP := mkHid (show w2.cell? ⟨w.heap.size, 3, none⟩ = some (.slice (some ⟨kb, o, none⟩) z c) from p3)
     generalize hL : catS (lnSs ds (padB 0)) = LD at H1 H2 HST hstr hln1 hzd
     have i0 : (0 : Int) ≤ (ds.length : Int) := by omega
     have i1 : (ds.length : Int) < (z : Int) := by omega
     have i2 : (ds.length : Int) ≤ (c : Int) := by omega
     have hrw : (ds ++ [T.node 30 nil_ 0 ss]).length = z := by rw [hlen, hz]
     clear hL hlld hll xkids xc0 xc1 xc2 xc3 hAd hAs hcd hcs hdd hds hmd hms hzs hstr llen hd24 hct2 hq hfm hdp hct g1 g2 HX HFF HDD HS HFT HTX hRD
     simp only [hrw] at F2 ⊢
     go_wp2_with fail
     refine (H1.out _ AR.out).mono ?_
     rintro e w4 ⟨rfl, hp, hb, hk2⟩
     have A4 := mkHid (AR.out.step hp hb)
     have q3 := ((hb.cell (p := ⟨w.heap.size, 3, none⟩) lW).trans ((World.cell?_alloc_old w2 _ ⟨w.heap.size, 3, none⟩ (Nat.ne_of_lt lW)).trans HP.out))
     have y3 := (A4.out.old.cell (p := ⟨kb, _, none⟩) hbw).trans HXC.out.2.2.2
     clear hp hb hk2 AR p0 p1 p2 p3
     go_wp2_with fail
     refine (H2.out _ A4.out).mono ?_
     rintro e w5 ⟨rfl, hp, hb, hk2⟩
     have A5 := mkHid (A4.out.step hp hb)
     clear hp hb hk2 A4 q3 y3
     go_wp2_with fail
     refine (HST.out _ _ A5.out.pr).mono ?_
     rintro e w6 ⟨rfl, hb6⟩
     have B6 := mkHid (A5.out.old.trans (hb6.mono A5.out.lo))
     clear hb6 A5
     go_wp2_with fail
     refine (HWD.out _).mono ?_
     rintro e w7 ⟨v, rfl, _, hb7⟩
     have B7 := mkHid (below_step B6.out hb7)
     clear hb7
     generalize (wordsI t).2.1 = cd at HR ⊢
     generalize (wordsI t).2.2 = ct
     have B8 := mkHid (B7.out.alloc B7.out.size (.cells #[.int .i64 cd, .int .i64 ct] 75))
     by_cases hcd : cd = 0
     ·have hc2 : (cd != 0) = false := by simpa using hcd
      have HR2 := mkHid (show R = t by rw [HR.out, if_pos hcd])
      clear hcd
      go_wp2
      go_ret
      exact ⟨ret_str HR2.out.symm, B8.out⟩
     ·have hc2 : (cd != 0) = true := by simpa using hcd
      have HR2 := mkHid (show R = ⟨#[]⟩ by rw [HR.out, if_neg hcd])
      clear hcd
      go_wp2
      go_ret
      exact ⟨ret_str HR2.out.symm, B8.out⟩
end Go.Proofs.YtedfnadgmhjojaaGreatDoor
