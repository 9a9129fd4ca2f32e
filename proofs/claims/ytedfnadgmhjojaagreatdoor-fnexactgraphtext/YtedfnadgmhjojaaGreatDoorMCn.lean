/-
  CONTRACT of the specification's reader's prog.
  PLAIN FACTS: a tree that was read has no more nodes than words were read, and a few.
-/
import Derived.Test.YtedfnadgmhjojaaGreatDoorMSRp
import Derived.Deep.QuietTactic
import Derived.BigQuiet
import Derived.Deep.RegionLaw
import Derived.Deep.AppendLies
import Derived.Test.YtedfnadgmhjojaaGreatDoorMGroveb
namespace Go.Proofs.YtedfnadgmhjojaaGreatDoor
open Go.RowKit
open Pl

def SProg (rb : Nat) (a : Option Addr) (cap : Nat) (ws : List W3) (F : Nat) : Prop := ∀ w : World, Sd w rb a cap ws (0, false) → Calls Tryz.prog 63 #[.pointer (some ⟨rb, 0, none⟩)] w (SPost rb a cap ws w (mProg ws F F [] 0) (0, false))

set_option maxRecDepth 100000 in
set_option maxHeartbeats 16000000 in
theorem sprog_all {rb : Nat} {a : Option Addr} {cap : Nat} {ws : List W3} {F : Nat} (he : Env ws) (hF : 5 * ws.length + 3 ≤ F) (hS : SStmt rb a cap ws F F) : SProg rb a cap ws F := by
 intro w h
 have hfew := he.few
 have HOK := mkHid he.ok
 have HEN := mkHid he
 have HA := mkHid h
 have hrb := h.lt
 have HL := mkHid (fun (st : St2) w h => slist_any (rb := rb) (a := a) (cap := cap) hfew (fun _ => mStmt ws F F) F (fun g j w hg hgf hd => hS (j, false) w (by simp only; omega) hd) (fun g j t k e => (advS ws F F).1 j t k e) (fun g j p e => (advNS ws F F).1 j p e) st (fun _ => by omega) w h)
 generalize hR : mProg ws F F [] 0 = R
 have HI0 : Hid (DInv ws F R [] (0, false)) := mkHid (.inr ⟨rfl, F, by simp only; omega, hR⟩)
 have HF3 : Hid (3 * ws.length + 2 ≤ F) := mkHid (by omega)
 clear hR h hS he hF
 obtain ⟨i0, hi0, hz0⟩ := Option.map_eq_some_iff.1 Tryz.info38
 simp only [Prod.mk.injEq] at hz0
 obtain ⟨hz1, hz2, hz3⟩ := hz0
 have HI := mkHid (show Tryz.prog.info? 38 = some i0 ∧ i0.zero = some (.agg #[.int .i64 0, .string ByteArray.empty, .int .i64 0, .slice none 0 0]) ∧ i0.size = 4 ∧ i0.bytes = 56 from ⟨hi0, hz1, hz2, hz3⟩)
 clear hi0 hz1 hz2 hz3
 have hG := SStem.start (w := w) (heap_alloc_new w _) (HA.out.alloc _) ((Step.refl rb w).alloc _) hrb 40 ⟨#[]⟩
 have e0 : (w.alloc (.cells #[.int .i64 0, .string ⟨#[]⟩, .int .i64 0, .slice none 0 0] 38)).heap.size = w.heap.size + 1 := by simp
 rw [e0] at hG
 have HG := mkHid hG
 clear hG e0
 go_enter Tryz.func63, Tryz.ntmps63
 go_wp2
 go_loopw [] (fun w' => ∃ (els : List A) (sa : Option Addr) (sc : Nat) (st' : St2), SStem rb a cap ws w (w.heap.size + 1) 40 ⟨#[]⟩ w' els sa sc st' ∧ DInv ws F R (erases els) st' ∧ els.length ≤ 1501 ∧ (st'.2 = false → els.length ≤ st'.1)) (fun w' => 2 * (ws.length - posOf rb w') + badOf rb w')
 case atStart => exact ⟨[], none, 0, (0, false), HG.out, HI0.out, Nat.zero_le _, fun _ => Nat.zero_le _⟩
 case round =>
  obtain ⟨els, sa, sc, st2, hG, hI, hle, hle2⟩ := hrel
  have G0 := mkHid hG
  have I0 := mkHid hI
  have HPo := mkHid hG.rd.pos
  obtain ⟨x0, x1, x2, _⟩ := hG.rd.cells
  obtain ⟨j, c⟩ := st2
  have HB0 := mkHid hG.rd.bad0
  simp only at x1 x2 hle hle2
  clear hG hI HG HI0
  by_cases hc : c = true
  ·subst hc
   have G2 := G0
   clear G0 HPo HB0
   obtain ⟨d0, d1, d2, d3, e0, e1, e2, e3⟩ := four_of G2.out.here
   have hp2 := G2.out.plt
   go_wp2
   have HE := mkHid (fun (x : T) (st1 : St2) h1 h2 => dinv_end HOK.out HF3.out (x := x) (st1 := st1) I0.out (fun h => (by simp at h)) h1 h2)
   clear I0
   go_region_law (first | (go_simp; go_at_call 92; refine (HL.out (j, true) _ G2.out.rd.drew).mono ?_; rintro e w3 ⟨z, st3, rfl, hsz, hnz, r3, s3, hz3⟩; obtain ⟨zk, zs, zm, za, zc, zkk⟩ := z; simp only [A.val]; have T3 := G2.out.drew.on s3 r3; obtain ⟨b0, b1, b2, b3, g0, g1, g2, g3⟩ := four_of T3.here; have hp3 := T3.plt; have OW := mkHid (T3.own.alloc (.cells #[.int .i64 zk, .string zs, .int .i64 zm, .slice za zkk.length zc] 38)); have HT3 := mkHid T3; have HS3 := mkHid s3; have HZ := mkHid hz3; have HSZ := mkHid hsz; have HNZ := mkHid hnz; have HR3 := mkHid r3; clear T3 s3 hz3 hsz hnz r3) | (refine step_append_lies _ (by rfl) _ _ _ (by rfl) ((w.heap.size + 1) + 1) 38 i0 _ 4 56 Tryz.underlying36 HI.out.1 HI.out.2.1 HI.out.2.2.1 HI.out.2.2.2 rfl (by decide) _ _ _ (by rfl) OW.out ⟨w3.heap.size, 0, none⟩ 1 1 [.int .i64 zk, .string zs, .int .i64 zm, .slice za zkk.length zc] (by rfl) (by rfl) (World.news_of_block (heap_alloc_new w3 _)) (fun u hu => by simp at hu; rcases hu with rfl | rfl | rfl | rfl <;> rfl) (by decide) (by unfold maxLen; omega) (by omega) (by simp; omega) (w3.heap.size + 1) (by simp) ?_; intro g cq w4 hown hgrow hat hlt4; have GP := mkHid (SStem.push (x := .node zk zs zm za zc zkk) G2.out.drew HS3.out HR3.out HSZ.out HNZ.out _ hown hgrow hat); have K4 := (hgrow.block (w.heap.size + 1) (by simp; omega) (fun e => absurd (OW.out.lt _ e.symm).1 (Nat.not_succ_le_self _))).trans ((Lib.alloc_old w3 _ _ hp3).trans HT3.out.here); clear b0 b1 b2 b3 g0 g1 g2 g3; obtain ⟨l0, l1, l2, l3, m0, m1, m2, m3⟩ := four_of K4; clear K4 hown hgrow hat OW HS3 HSZ HNZ HR3))
   all_goals
    have HL3 := mkHid (HE.out _ _ HZ.out.1 HZ.out.2)
    clear l0 l1 l2 l3 m0 m1 m2 m3
    generalize hW : w4.setCell ⟨w.heap.size + 1, 3, none⟩ (.slice (some ⟨g, 0, none⟩) (els.length + 1) cq) = W at GP ⊢
    clear hW
    obtain ⟨j3, c3⟩ := st3
    obtain ⟨x0, x1, x2, y1, y2⟩ := GP.out.rd.cells
    simp only at x1 x2
    by_cases hl : j3 < ws.length
    ·have hl1 : decide ((j3 : Int) < (ws.length : Int)) = true := by simp; omega
     have HJ := mkHid (show (if (j3, c3).1 < ws.length then ((j3, c3).1, true) else (j3, c3)) = (j3, true) from if_pos hl)
     go_wp2
     go_quiet (fail)
     have GQ := mkHid (GP.out.on (((Step.refl rb W).drewN nq).setCell (p := ⟨rb, 2, none⟩) (.inr rfl) (.bool true)) (GP.out.rd.drewN nq).badly)
     have y3 : (W.drewN nq).frozen? ⟨rb, 2, none⟩ = false := y2
     generalize hV : (W.drewN nq).setCell ⟨rb, 2, none⟩ (.bool true) = V at GQ
     have HV := mkHid hV
     obtain ⟨d0, d1, d2, d3, _⟩ := four_of GQ.out.here
     obtain ⟨c0, c1, c2, c4, f0, f1, f2, f3⟩ := four_of GQ.out.res
     rw [← hV] at d0 d1 d2 d3 c0 c1 c2 c4 f0 f1 f2 f3
     clear hV
     go_wp2
     rw [HV.out]
     obtain ⟨q0, q1, q2, q3⟩ := put4_cells0 GQ.out.res (.int .i64 40) (.string ⟨#[]⟩) (.int .i64 0) (.slice (some ⟨g, 0, none⟩) (els.length + 1) cq)
     obtain ⟨t1, t2⟩ := GQ.out.tree (by decide) (by simp only [List.length_append, List.length_cons, List.length_nil]; unfold maxLen; omega)
     exact bodyPost_ret (v := (A.node 40 ⟨#[]⟩ 0 (some ⟨g, 0, none⟩) cq (els ++ [A.node zk zs zm za zc zkk])).val) (by simp [results, Tryz.results63, go_sem, q0, q1, q2, q3, A.val]) rfl (sp_tree _ _ _ _ _ GQ.out.rd hrb GQ.out.step t1 t2 (by omega) (by have := HL3.out; rw [HJ.out] at this; simp only [A.erase, erases_append, erases] at this ⊢; exact this))
    ·have hl1 : decide ((j3 : Int) < (ws.length : Int)) = false := by simp; omega
     have HJ := mkHid (show (if (j3, c3).1 < ws.length then ((j3, c3).1, true) else (j3, c3)) = (j3, c3) from if_neg hl)
     go_wp2
     go_quiet (fail)
     have GQ := mkHid (GP.out.on ((Step.refl rb W).drewN nq) (GP.out.rd.drewN nq))
     obtain ⟨d0, d1, d2, d3, _⟩ := four_of GQ.out.here
     obtain ⟨c0, c1, c2, c4, f0, f1, f2, f3⟩ := four_of GQ.out.res
     generalize W.drewN nq = V at GQ d0 d1 d2 d3 c0 c1 c2 c4 f0 f1 f2 f3 ⊢
     clear x0 x1 x2 y1 y2
     go_wp2
     obtain ⟨q0, q1, q2, q3⟩ := put4_cells0 GQ.out.res (.int .i64 40) (.string ⟨#[]⟩) (.int .i64 0) (.slice (some ⟨g, 0, none⟩) (els.length + 1) cq)
     obtain ⟨t1, t2⟩ := GQ.out.tree (by decide) (by simp only [List.length_append, List.length_cons, List.length_nil]; unfold maxLen; omega)
     exact bodyPost_ret (v := (A.node 40 ⟨#[]⟩ 0 (some ⟨g, 0, none⟩) cq (els ++ [A.node zk zs zm za zc zkk])).val) (by simp [results, Tryz.results63, go_sem, q0, q1, q2, q3, A.val]) rfl (sp_tree _ _ _ _ _ GQ.out.rd hrb GQ.out.step t1 t2 (by omega) (by have := HL3.out; rw [HJ.out] at this; simp only [A.erase, erases_append, erases] at this ⊢; exact this))
  ·have hc2 : c = false := by simpa using hc
   subst hc2
   clear hc
   have hlj := hle2 rfl
   have hD : rb < wr.heap.size := G0.out.rd.lt
   have hnm := name_len HEN.out (j + 1, false)
   have CN := mkHid (fun w h => sNm_any rb a cap ws (j + 1, false) w h)
   have CS := mkHid (fun st w h => sNeed_any rb a cap ws st ⟨#[59]⟩ (by decide) w h)
   by_cases hv : isW ws j ⟨#[118, 97, 114]⟩ = true
   ·have hjl := isW_lt hv
    have C0 := mkHid (fun w h => sTake_yes rb a cap ws (j, false) ⟨#[118, 97, 114]⟩ (by decide) w h (by rw [tk_good]; exact hv))
    have HV := mkHid hv
    have HSR := mkHid (sr_dvar hv)
    generalize nmT ws (j + 1, false) = nm at CN HSR hnm
    clear hv
    go_wp2_with fail
    refine (C0.out _ (G0.out.rd.alloc _)).mono ?_
    rintro e w1 ⟨rfl, r, s⟩
    have R1 := mkHid r
    have S1 := mkHid (((Step.refl rb wr).alloc _).trans s)
    have D1 := mkHid (s.at (heap_alloc_new wr _) (by omega))
    clear r s
    go_wp2_with fail
    refine (CN.out _ R1.out).mono ?_
    rintro e w2 ⟨rfl, r, s⟩
    have R2 := mkHid r
    have S2 := mkHid (S1.out.trans s)
    have D2 := mkHid (s.at D1.out (by omega))
    clear r s
    obtain ⟨_, _, _, _, v0, v1, v2, v3⟩ := four_of D2.out
    obtain ⟨u0, u1, u2, u3, _⟩ := four_of D2.out
    have RA := mkHid (put4_sd R2.out hD (.int .i64 31) (.string nm) (.int .i64 0) (.slice none 0 0))
    have SA := mkHid (put4_step S2.out (Nat.le_refl _) (.int .i64 31) (.string nm) (.int .i64 0) (.slice none 0 0))
    have DA := mkHid (put4_at D2.out (.int .i64 31) (.string nm) (.int .i64 0) (.slice none 0 0))
    clear R2 S2 D2
    go_wp2_with fail
    refine (CS.out (nmS ws (j + 1, false)) _ RA.out).mono ?_
    rintro e w3 ⟨rfl, r, s⟩
    have R3 := mkHid r
    have S3 := mkHid (SA.out.trans s)
    have D3 := mkHid (s.at DA.out (by omega))
    clear r s
    clear RA SA DA u0 u1 u2 u3 v0 v1 v2 v3 x0 x1 x2 CN CS C0
    have G := mkHid (G0.out.on S3.out R3.out)
    have HST := mkHid (dinv_step I0.out (.inl HV.out) (HSR.out))
    have OW := mkHid (G.out.own.alloc (.cells #[.int .i64 31, .string nm, .int .i64 0, .slice none 0 0] 38))
    obtain ⟨p0, p1, p2, p3, o0, o1, o2, o3⟩ := four_of G.out.here
    obtain ⟨d0, d1, d2, d3, _⟩ := four_of D3.out
    have hpl := G.out.plt
    have hdl := (Array.getElem?_eq_some_iff.1 D3.out).1
    clear I0 S3 D3
    go_wp2_with (at_builtin; refine wpList_append_lies _ rfl _ _ 36 rfl (w.heap.size + 1 + 1) 38 i0 (.agg #[.int .i64 0, .string ByteArray.empty, .int .i64 0, .slice none 0 0]) 4 56 Tryz.underlying36 HI.out.1 HI.out.2.1 HI.out.2.2.1 HI.out.2.2.2 rfl (by decide) _ _ _ rfl OW.out ⟨w3.heap.size, 0, none⟩ 1 1 [.int .i64 31, .string nm, .int .i64 0, .slice none 0 0] rfl rfl ?c1a ?c2a (by decide) ?c3a ?c4a ?c5a (w3.heap.size + 1) (by simp) ?_)
    case c1a => exact World.news_of_block (heap_alloc_new w3 _)
    case c2a => intro u hu; simp at hu; rcases hu with rfl | rfl | rfl | rfl <;> rfl
    case c3a => unfold maxLen; omega
    case c4a => omega
    case c5a => simp; omega
    intro g cq wz hown hgrow hat hlt4
    have GP := mkHid (SStem.push (x := .node 31 nm 0 none 0 []) G.out (Step.refl rb w3) R3.out (Sits.leaf _ _ _ hnm) (New.leaf _ _ _ _ _ _) _ hown hgrow hat)
    have K4 := (hgrow.block (w.heap.size + 1) (by simp; omega) (fun e => absurd (OW.out.lt _ e.symm).1 (Nat.not_succ_le_self _))).trans ((Lib.alloc_old w3 _ _ hpl).trans G.out.here)
    obtain ⟨l0, l1, l2, l3, m0, m1, m2, m3⟩ := four_of K4
    clear K4 hown hgrow hat OW G R3 p0 p1 p2 p3 o0 o1 o2 o3 d0 d1 d2 d3 hlt4
    go_wp2
    go_roundw
    case rel => exact ⟨_, _, _, _, GP.out, by rw [erases_append]; simp only [erases, A.erase]; exact HST.out.1, by simp; omega, fun hq => by have := HST.out.2.2 hq; simp; omega⟩
    case measure =>
     rw [HPo.out, HB0.out]
     have h1 := GP.out.rd.pos
     have h2 := HST.out.2
     generalize hq : nd ws _ ⟨#[59]⟩ = st3 at GP h1 h2
     obtain ⟨j3, c3⟩ := st3
     have h3 := GP.out.rd.bad0
     refine Nat.lt_of_le_of_lt (Nat.le_of_eq (congrArg (fun q => 2 * (ws.length - q) + _) h1)) ?_
     refine Nat.lt_of_le_of_lt (Nat.le_of_eq (congrArg (fun q => 2 * (ws.length - _) + q) h3)) ?_
     simp only at h2 ⊢
     cases c3 with
     | true => simp; omega
     | false => have := h2.2 rfl; simp; omega
   simp only [Bool.not_eq_true] at hv
   have C0 := mkHid (fun w h => sTake_no rb a cap ws (j, false) ⟨#[118, 97, 114]⟩ (by decide) w h (by rw [tk_good]; exact hv))
   by_cases ha : isW ws j ⟨#[97, 114, 114, 97, 121]⟩ = true
   ·have hjl := isW_lt ha
    have C1 := mkHid (fun w h => sTake_yes rb a cap ws (j, false) ⟨#[97, 114, 114, 97, 121]⟩ (by decide) w h (by rw [tk_good]; exact ha))
    have HV := mkHid ha
    have HSN := mkHid (fun q hb k2 => sr_dnum HOK.out (j := q) ha hb k2)
    have HSA := mkHid (fun hk => sr_dany ha hk)
    generalize nmT ws (j + 1, false) = nm at CN HSN HSA hnm
    clear hv ha
    have CB := mkHid (fun w h => sNeed_any rb a cap ws (nmS ws (j + 1, false)) ⟨#[91]⟩ (by decide) w h)
    have CQ := mkHid (fun st w h => sNeed_any rb a cap ws st ⟨#[63]⟩ (by decide) w h)
    have CC := mkHid (fun st w h => sNeed_any rb a cap ws st ⟨#[93]⟩ (by decide) w h)
    generalize nd ws (nmS ws (j + 1, false)) ⟨#[91]⟩ = sB at CB HSN HSA
    go_wp2_with fail
    refine (C0.out _ (G0.out.rd.alloc _)).mono ?_
    rintro e w1 ⟨rfl, r, s⟩
    have R1 := mkHid r
    have S1 := mkHid (((Step.refl rb wr).alloc _).trans s)
    have D1 := mkHid (s.at (heap_alloc_new wr _) (by omega))
    clear r s
    go_wp2_with fail
    refine (C1.out _ R1.out).mono ?_
    rintro e w2 ⟨rfl, r, s⟩
    have R2 := mkHid r
    have S2 := mkHid (S1.out.trans s)
    have D2 := mkHid (s.at D1.out (by omega))
    clear r s
    go_wp2_with fail
    refine (CN.out _ R2.out).mono ?_
    rintro e w3 ⟨rfl, r, s⟩
    have R3 := mkHid r
    have S3 := mkHid (S2.out.trans s)
    have D3 := mkHid (s.at D2.out (by omega))
    clear r s
    obtain ⟨_, _, _, _, v0, v1, v2, v3⟩ := four_of D3.out
    obtain ⟨u0, u1, u2, u3, _⟩ := four_of D3.out
    have RA := mkHid (put4_sd R3.out hD (.int .i64 32) (.string nm) (.int .i64 (-1)) (.slice none 0 0))
    have SA := mkHid (put4_step S3.out (Nat.le_refl _) (.int .i64 32) (.string nm) (.int .i64 (-1)) (.slice none 0 0))
    have DA := mkHid (put4_at D3.out (.int .i64 32) (.string nm) (.int .i64 (-1)) (.slice none 0 0))
    clear R3 S3 D3
    go_wp2_with fail
    refine (CB.out _ RA.out).mono ?_
    rintro e w4 ⟨rfl, r, s⟩
    have R4 := mkHid r
    have S4 := mkHid (SA.out.trans s)
    have D4 := mkHid (s.at DA.out (by omega))
    clear r s
    clear RA SA DA u0 u1 u2 u3 v0 v1 v2 v3 x0 x1 x2 CN CB C0 C1
    obtain ⟨q, cb⟩ := sB
    obtain ⟨k0, k1, k2, _⟩ := R4.out.cells
    simp only at k1 k2
    cases cb with
    | true =>
      go_wp2_with fail
      refine (CQ.out (q, true) _ R4.out).mono ?_
      rintro e w5 ⟨rfl, r, s⟩
      have R5 := mkHid r
      have S5 := mkHid (S4.out.trans s)
      have D5 := mkHid (s.at D4.out (by omega))
      clear r s
      go_wp2_with fail
      refine (CC.out (nd ws (q, true) ⟨#[63]⟩) _ R5.out).mono ?_
      rintro e w6 ⟨rfl, r, s⟩
      have R6 := mkHid r
      have S6 := mkHid (S5.out.trans s)
      have D6 := mkHid (s.at D5.out (by omega))
      clear r s
      go_wp2_with fail
      refine (CS.out (nd ws (nd ws (q, true) ⟨#[63]⟩) ⟨#[93]⟩) _ R6.out).mono ?_
      rintro e w7 ⟨rfl, r, s⟩
      have R7 := mkHid r
      have S7 := mkHid (S6.out.trans s)
      have D7 := mkHid (s.at D6.out (by omega))
      clear r s
      clear CQ CC CS
      have G := mkHid (G0.out.on S7.out R7.out)
      have HST := mkHid (dinv_step I0.out (.inr HV.out) (HSA.out (fun _ h => (by cases h))))
      have OW := mkHid (G.out.own.alloc (.cells #[.int .i64 32, .string nm, .int .i64 (-1), .slice none 0 0] 38))
      obtain ⟨p0, p1, p2, p3, o0, o1, o2, o3⟩ := four_of G.out.here
      obtain ⟨d0, d1, d2, d3, _⟩ := four_of D7.out
      have hpl := G.out.plt
      have hdl := (Array.getElem?_eq_some_iff.1 D7.out).1
      clear I0 S7 D7
      go_wp2_with (at_builtin; refine wpList_append_lies _ rfl _ _ 36 rfl (w.heap.size + 1 + 1) 38 i0 (.agg #[.int .i64 0, .string ByteArray.empty, .int .i64 0, .slice none 0 0]) 4 56 Tryz.underlying36 HI.out.1 HI.out.2.1 HI.out.2.2.1 HI.out.2.2.2 rfl (by decide) _ _ _ rfl OW.out ⟨w7.heap.size, 0, none⟩ 1 1 [.int .i64 32, .string nm, .int .i64 (-1), .slice none 0 0] rfl rfl ?c1b ?c2b (by decide) ?c3b ?c4b ?c5b (w7.heap.size + 1) (by simp) ?_)
      case c1b => exact World.news_of_block (heap_alloc_new w7 _)
      case c2b => intro u hu; simp at hu; rcases hu with rfl | rfl | rfl | rfl <;> rfl
      case c3b => unfold maxLen; omega
      case c4b => omega
      case c5b => simp; omega
      intro g cq wz hown hgrow hat hlt4
      have GP := mkHid (SStem.push (x := .node 32 nm (-1) none 0 []) G.out (Step.refl rb w7) R7.out (Sits.leaf _ _ _ hnm) (New.leaf _ _ _ _ _ _) _ hown hgrow hat)
      have K4 := (hgrow.block (w.heap.size + 1) (by simp; omega) (fun e => absurd (OW.out.lt _ e.symm).1 (Nat.not_succ_le_self _))).trans ((Lib.alloc_old w7 _ _ hpl).trans G.out.here)
      obtain ⟨l0, l1, l2, l3, m0, m1, m2, m3⟩ := four_of K4
      clear K4 hown hgrow hat OW G R7 p0 p1 p2 p3 o0 o1 o2 o3 d0 d1 d2 d3 hlt4
      go_wp2
      go_roundw
      case rel => exact ⟨_, _, _, _, GP.out, by rw [erases_append]; simp only [erases, A.erase]; exact HST.out.1, by simp; omega, fun hq => by have := HST.out.2.2 hq; simp; omega⟩
      case measure =>
       rw [HPo.out, HB0.out]
       have h1 := GP.out.rd.pos
       have h2 := HST.out.2
       generalize hq : nd ws _ ⟨#[59]⟩ = st3 at GP h1 h2
       obtain ⟨j3, c3⟩ := st3
       have h3 := GP.out.rd.bad0
       refine Nat.lt_of_le_of_lt (Nat.le_of_eq (congrArg (fun q => 2 * (ws.length - q) + _) h1)) ?_
       refine Nat.lt_of_le_of_lt (Nat.le_of_eq (congrArg (fun q => 2 * (ws.length - _) + q) h3)) ?_
       simp only at h2 ⊢
       cases c3 with
       | true => simp; omega
       | false => have := h2.2 rfl; simp; omega
    | false =>
      have CK := mkHid (fun w h => sKind_st rb a cap ws (q, false) w h)
      go_wp2_with fail
      refine (CK.out _ R4.out).mono ?_
      rintro e w5 ⟨rfl, r, s⟩
      have R5 := mkHid r
      have S5 := mkHid (S4.out.trans s)
      have D5 := mkHid (s.at D4.out (by omega))
      clear r s
      clear k0 k1 k2 CK
      by_cases hk : kindW ws q = 2
      ·have hk1 : (kindW ws q == 2) = true := by rw [hk]; rfl
       have hns := num_short (word_num HOK.out hk)
       have HSR := mkHid (HSN.out q rfl hk)
       have hql := kindW_lt hk (by decide)
       have CT := mkHid (fun w h => sText_st rb a cap ws (q, false) w h)
       simp only at CT
       clear hk HSA HSN
       go_wp2_with fail
       refine (CT.out _ R5.out).mono ?_
       rintro e w6 ⟨rfl, r, s⟩
       have R6 := mkHid r
       have S6 := mkHid (S5.out.trans s)
       have D6 := mkHid (s.at D5.out (by omega))
       clear r s
       generalize textW ws q = tx at hns HSR ⊢
       go_wp2_with fail
       refine (sNumber_any tx _ (by unfold maxLen; omega)).mono ?_
       rintro e w9 ⟨rfl, rfl⟩
       obtain ⟨k0, k1, k2, y1, y2⟩ := R6.out.cells
       simp only at k1 k2
       obtain ⟨u0, u1, u2, u3, v0, v1, v2, v3⟩ := four_of D6.out
       generalize numV tx = nv at HSR ⊢
       have ne1 : ¬ (wr.heap.size = rb) := by omega
       have ne2 : ¬ (rb = wr.heap.size) := by omega
       have RA := (R6.out.setCell (p := ⟨wr.heap.size, 2, none⟩) hD (.int .i64 nv)).next (q + 1)
       have SA := (S6.out.setCell (p := ⟨wr.heap.size, 2, none⟩) (.inl (Nat.le_refl _)) (.int .i64 nv)).setCell (p := ⟨rb, 1, none⟩) (.inr rfl) (.int .i64 ((q + 1 : Nat) : Int))
       have DA := (Below.heap_setCell (w6.setCell ⟨wr.heap.size, 2, none⟩ (.int .i64 nv)) ⟨rb, 1, none⟩ (.int .i64 ((q + 1 : Nat) : Int)) wr.heap.size ne1).trans (heap_setCell_same w6 wr.heap.size 2 _ 38 (.int .i64 nv) D6.out)
       have hcast : ((q + 1 : Nat) : Int) = (q : Int) + 1 := by omega
       rw [hcast] at RA SA DA
       have HRA := mkHid RA
       have HSA' := mkHid SA
       have HDA := mkHid (show _ = some (Obj.cells #[.int .i64 32, .string nm, .int .i64 nv, .slice none 0 0] 38 (0, 0)) from DA)
       clear RA SA DA hcast R6 S6 D6 CT
       go_wp2_with fail
       refine (CC.out (q + 1, false) _ HRA.out).mono ?_
       rintro e w7 ⟨rfl, r, s⟩
       have R7 := mkHid r
       have S7 := mkHid (HSA'.out.trans s)
       have D7 := mkHid (s.at HDA.out (by omega))
       clear r s
       go_wp2_with fail
       refine (CS.out (nd ws (q + 1, false) ⟨#[93]⟩) _ R7.out).mono ?_
       rintro e w8 ⟨rfl, r, s⟩
       have R8 := mkHid r
       have S8 := mkHid (S7.out.trans s)
       have D8 := mkHid (s.at D7.out (by omega))
       clear r s
       clear CQ CC CS k0 k1 k2 y1 y2 u0 u1 u2 u3 v0 v1 v2 v3 ne1 ne2 HRA HSA' HDA
       have G := mkHid (G0.out.on S8.out R8.out)
       have HST := mkHid (dinv_step I0.out (.inr HV.out) (HSR.out))
       have OW := mkHid (G.out.own.alloc (.cells #[.int .i64 32, .string nm, .int .i64 nv, .slice none 0 0] 38))
       obtain ⟨p0, p1, p2, p3, o0, o1, o2, o3⟩ := four_of G.out.here
       obtain ⟨d0, d1, d2, d3, _⟩ := four_of D8.out
       have hpl := G.out.plt
       have hdl := (Array.getElem?_eq_some_iff.1 D8.out).1
       clear I0 S8 D8
       go_wp2_with (at_builtin; refine wpList_append_lies _ rfl _ _ 36 rfl (w.heap.size + 1 + 1) 38 i0 (.agg #[.int .i64 0, .string ByteArray.empty, .int .i64 0, .slice none 0 0]) 4 56 Tryz.underlying36 HI.out.1 HI.out.2.1 HI.out.2.2.1 HI.out.2.2.2 rfl (by decide) _ _ _ rfl OW.out ⟨w8.heap.size, 0, none⟩ 1 1 [.int .i64 32, .string nm, .int .i64 nv, .slice none 0 0] rfl rfl ?c1c ?c2c (by decide) ?c3c ?c4c ?c5c (w8.heap.size + 1) (by simp) ?_)
       case c1c => exact World.news_of_block (heap_alloc_new w8 _)
       case c2c => intro u hu; simp at hu; rcases hu with rfl | rfl | rfl | rfl <;> rfl
       case c3c => unfold maxLen; omega
       case c4c => omega
       case c5c => simp; omega
       intro g cq wz hown hgrow hat hlt4
       have GP := mkHid (SStem.push (x := .node 32 nm nv none 0 []) G.out (Step.refl rb w8) R8.out (Sits.leaf _ _ _ hnm) (New.leaf _ _ _ _ _ _) _ hown hgrow hat)
       have K4 := (hgrow.block (w.heap.size + 1) (by simp; omega) (fun e => absurd (OW.out.lt _ e.symm).1 (Nat.not_succ_le_self _))).trans ((Lib.alloc_old w8 _ _ hpl).trans G.out.here)
       obtain ⟨l0, l1, l2, l3, m0, m1, m2, m3⟩ := four_of K4
       clear K4 hown hgrow hat OW G R8 p0 p1 p2 p3 o0 o1 o2 o3 d0 d1 d2 d3 hlt4
       go_wp2
       go_roundw
       case rel => exact ⟨_, _, _, _, GP.out, by rw [erases_append]; simp only [erases, A.erase]; exact HST.out.1, by simp; omega, fun hq => by have := HST.out.2.2 hq; simp; omega⟩
       case measure =>
        rw [HPo.out, HB0.out]
        have h1 := GP.out.rd.pos
        have h2 := HST.out.2
        generalize hq : nd ws _ ⟨#[59]⟩ = st3 at GP h1 h2
        obtain ⟨j3, c3⟩ := st3
        have h3 := GP.out.rd.bad0
        refine Nat.lt_of_le_of_lt (Nat.le_of_eq (congrArg (fun q => 2 * (ws.length - q) + _) h1)) ?_
        refine Nat.lt_of_le_of_lt (Nat.le_of_eq (congrArg (fun q => 2 * (ws.length - _) + q) h3)) ?_
        simp only at h2 ⊢
        cases c3 with
        | true => simp; omega
        | false => have := h2.2 rfl; simp; omega
      ·have hk1 : (kindW ws q == 2) = false := by simpa using hk
       have HK := mkHid hk
       clear hk
       go_wp2_with fail
       refine (CQ.out (q, false) _ R5.out).mono ?_
       rintro e w6 ⟨rfl, r, s⟩
       have R6 := mkHid r
       have S6 := mkHid (S5.out.trans s)
       have D6 := mkHid (s.at D5.out (by omega))
       clear r s
       go_wp2_with fail
       refine (CC.out (nd ws (q, false) ⟨#[63]⟩) _ R6.out).mono ?_
       rintro e w7 ⟨rfl, r, s⟩
       have R7 := mkHid r
       have S7 := mkHid (S6.out.trans s)
       have D7 := mkHid (s.at D6.out (by omega))
       clear r s
       go_wp2_with fail
       refine (CS.out (nd ws (nd ws (q, false) ⟨#[63]⟩) ⟨#[93]⟩) _ R7.out).mono ?_
       rintro e w8 ⟨rfl, r, s⟩
       have R8 := mkHid r
       have S8 := mkHid (S7.out.trans s)
       have D8 := mkHid (s.at D7.out (by omega))
       clear r s
       clear CQ CC CS
       have G := mkHid (G0.out.on S8.out R8.out)
       have HST := mkHid (dinv_step I0.out (.inr HV.out) (HSA.out (fun q2 h => (by injection h with h; subst h; exact HK.out))))
       have OW := mkHid (G.out.own.alloc (.cells #[.int .i64 32, .string nm, .int .i64 (-1), .slice none 0 0] 38))
       obtain ⟨p0, p1, p2, p3, o0, o1, o2, o3⟩ := four_of G.out.here
       obtain ⟨d0, d1, d2, d3, _⟩ := four_of D8.out
       have hpl := G.out.plt
       have hdl := (Array.getElem?_eq_some_iff.1 D8.out).1
       clear I0 S8 D8
       go_wp2_with (at_builtin; refine wpList_append_lies _ rfl _ _ 36 rfl (w.heap.size + 1 + 1) 38 i0 (.agg #[.int .i64 0, .string ByteArray.empty, .int .i64 0, .slice none 0 0]) 4 56 Tryz.underlying36 HI.out.1 HI.out.2.1 HI.out.2.2.1 HI.out.2.2.2 rfl (by decide) _ _ _ rfl OW.out ⟨w8.heap.size, 0, none⟩ 1 1 [.int .i64 32, .string nm, .int .i64 (-1), .slice none 0 0] rfl rfl ?c1d ?c2d (by decide) ?c3d ?c4d ?c5d (w8.heap.size + 1) (by simp) ?_)
       case c1d => exact World.news_of_block (heap_alloc_new w8 _)
       case c2d => intro u hu; simp at hu; rcases hu with rfl | rfl | rfl | rfl <;> rfl
       case c3d => unfold maxLen; omega
       case c4d => omega
       case c5d => simp; omega
       intro g cq wz hown hgrow hat hlt4
       have GP := mkHid (SStem.push (x := .node 32 nm (-1) none 0 []) G.out (Step.refl rb w8) R8.out (Sits.leaf _ _ _ hnm) (New.leaf _ _ _ _ _ _) _ hown hgrow hat)
       have K4 := (hgrow.block (w.heap.size + 1) (by simp; omega) (fun e => absurd (OW.out.lt _ e.symm).1 (Nat.not_succ_le_self _))).trans ((Lib.alloc_old w8 _ _ hpl).trans G.out.here)
       obtain ⟨l0, l1, l2, l3, m0, m1, m2, m3⟩ := four_of K4
       clear K4 hown hgrow hat OW G R8 p0 p1 p2 p3 o0 o1 o2 o3 d0 d1 d2 d3 hlt4
       go_wp2
       go_roundw
       case rel => exact ⟨_, _, _, _, GP.out, by rw [erases_append]; simp only [erases, A.erase]; exact HST.out.1, by simp; omega, fun hq => by have := HST.out.2.2 hq; simp; omega⟩
       case measure =>
        rw [HPo.out, HB0.out]
        have h1 := GP.out.rd.pos
        have h2 := HST.out.2
        generalize hq : nd ws _ ⟨#[59]⟩ = st3 at GP h1 h2
        obtain ⟨j3, c3⟩ := st3
        have h3 := GP.out.rd.bad0
        refine Nat.lt_of_le_of_lt (Nat.le_of_eq (congrArg (fun q => 2 * (ws.length - q) + _) h1)) ?_
        refine Nat.lt_of_le_of_lt (Nat.le_of_eq (congrArg (fun q => 2 * (ws.length - _) + q) h3)) ?_
        simp only at h2 ⊢
        cases c3 with
        | true => simp; omega
        | false => have := h2.2 rfl; simp; omega
   ·simp only [Bool.not_eq_true] at ha
    have C1 := mkHid (fun w h => sTake_no rb a cap ws (j, false) ⟨#[97, 114, 114, 97, 121]⟩ (by decide) w h (by rw [tk_good]; exact ha))
    have HN0 := mkHid (And.intro hv ha)
    clear hv ha CN CS
    go_wp2_with fail
    refine (C0.out _ (G0.out.rd.alloc _)).mono ?_
    rintro e w1 ⟨rfl, r, s⟩
    have R1 := mkHid r
    have S1 := mkHid (((Step.refl rb wr).alloc _).trans s)
    have D1 := mkHid (s.at (heap_alloc_new wr _) (by omega))
    clear r s
    go_wp2_with fail
    refine (C1.out _ R1.out).mono ?_
    rintro e w2 ⟨rfl, r, s⟩
    have R2 := mkHid r
    have S2 := mkHid (S1.out.trans s)
    have D2 := mkHid (s.at D1.out (by omega))
    clear r s
    have G2 := mkHid (G0.out.on S2.out R2.out)
    clear G0 HPo HB0 R1 S1 D1 R2 S2 D2 C0 C1 x0 x1 x2 hnm
    obtain ⟨d0, d1, d2, d3, e0, e1, e2, e3⟩ := four_of G2.out.here
    have hp2 := G2.out.plt
    go_wp2
    have HE := mkHid (fun (x : T) (st1 : St2) h1 h2 => dinv_end HOK.out HF3.out (x := x) (st1 := st1) I0.out (fun _ => HN0.out) h1 h2)
    clear I0
    go_region_law (first | (go_simp; go_at_call 92; refine (HL.out (j, false) _ G2.out.rd.drew).mono ?_; rintro e w3 ⟨z, st3, rfl, hsz, hnz, r3, s3, hz3⟩; obtain ⟨zk, zs, zm, za, zc, zkk⟩ := z; simp only [A.val]; have T3 := G2.out.drew.on s3 r3; obtain ⟨b0, b1, b2, b3, g0, g1, g2, g3⟩ := four_of T3.here; have hp3 := T3.plt; have OW := mkHid (T3.own.alloc (.cells #[.int .i64 zk, .string zs, .int .i64 zm, .slice za zkk.length zc] 38)); have HT3 := mkHid T3; have HS3 := mkHid s3; have HZ := mkHid hz3; have HSZ := mkHid hsz; have HNZ := mkHid hnz; have HR3 := mkHid r3; clear T3 s3 hz3 hsz hnz r3) | (refine step_append_lies _ (by rfl) _ _ _ (by rfl) ((w.heap.size + 1) + 1) 38 i0 _ 4 56 Tryz.underlying36 HI.out.1 HI.out.2.1 HI.out.2.2.1 HI.out.2.2.2 rfl (by decide) _ _ _ (by rfl) OW.out ⟨w3.heap.size, 0, none⟩ 1 1 [.int .i64 zk, .string zs, .int .i64 zm, .slice za zkk.length zc] (by rfl) (by rfl) (World.news_of_block (heap_alloc_new w3 _)) (fun u hu => by simp at hu; rcases hu with rfl | rfl | rfl | rfl <;> rfl) (by decide) (by unfold maxLen; omega) (by omega) (by simp; omega) (w3.heap.size + 1) (by simp) ?_; intro g cq w4 hown hgrow hat hlt4; have GP := mkHid (SStem.push (x := .node zk zs zm za zc zkk) G2.out.drew HS3.out HR3.out HSZ.out HNZ.out _ hown hgrow hat); have K4 := (hgrow.block (w.heap.size + 1) (by simp; omega) (fun e => absurd (OW.out.lt _ e.symm).1 (Nat.not_succ_le_self _))).trans ((Lib.alloc_old w3 _ _ hp3).trans HT3.out.here); clear b0 b1 b2 b3 g0 g1 g2 g3; obtain ⟨l0, l1, l2, l3, m0, m1, m2, m3⟩ := four_of K4; clear K4 hown hgrow hat OW HS3 HSZ HNZ HR3))
    all_goals
     have HL3 := mkHid (HE.out _ _ HZ.out.1 HZ.out.2)
     clear l0 l1 l2 l3 m0 m1 m2 m3
     generalize hW : w4.setCell ⟨w.heap.size + 1, 3, none⟩ (.slice (some ⟨g, 0, none⟩) (els.length + 1) cq) = W at GP ⊢
     clear hW
     obtain ⟨j3, c3⟩ := st3
     obtain ⟨x0, x1, x2, y1, y2⟩ := GP.out.rd.cells
     simp only at x1 x2
     by_cases hl : j3 < ws.length
     ·have hl1 : decide ((j3 : Int) < (ws.length : Int)) = true := by simp; omega
      have HJ := mkHid (show (if (j3, c3).1 < ws.length then ((j3, c3).1, true) else (j3, c3)) = (j3, true) from if_pos hl)
      go_wp2
      go_quiet (fail)
      have GQ := mkHid (GP.out.on (((Step.refl rb W).drewN nq).setCell (p := ⟨rb, 2, none⟩) (.inr rfl) (.bool true)) (GP.out.rd.drewN nq).badly)
      have y3 : (W.drewN nq).frozen? ⟨rb, 2, none⟩ = false := y2
      generalize hV : (W.drewN nq).setCell ⟨rb, 2, none⟩ (.bool true) = V at GQ
      have HV := mkHid hV
      obtain ⟨d0, d1, d2, d3, _⟩ := four_of GQ.out.here
      obtain ⟨c0, c1, c2, c4, f0, f1, f2, f3⟩ := four_of GQ.out.res
      rw [← hV] at d0 d1 d2 d3 c0 c1 c2 c4 f0 f1 f2 f3
      clear hV
      go_wp2
      rw [HV.out]
      obtain ⟨q0, q1, q2, q3⟩ := put4_cells0 GQ.out.res (.int .i64 40) (.string ⟨#[]⟩) (.int .i64 0) (.slice (some ⟨g, 0, none⟩) (els.length + 1) cq)
      obtain ⟨t1, t2⟩ := GQ.out.tree (by decide) (by simp only [List.length_append, List.length_cons, List.length_nil]; unfold maxLen; omega)
      exact bodyPost_ret (v := (A.node 40 ⟨#[]⟩ 0 (some ⟨g, 0, none⟩) cq (els ++ [A.node zk zs zm za zc zkk])).val) (by simp [results, Tryz.results63, go_sem, q0, q1, q2, q3, A.val]) rfl (sp_tree _ _ _ _ _ GQ.out.rd hrb GQ.out.step t1 t2 (by omega) (by have := HL3.out; rw [HJ.out] at this; simp only [A.erase, erases_append, erases] at this ⊢; exact this))
     ·have hl1 : decide ((j3 : Int) < (ws.length : Int)) = false := by simp; omega
      have HJ := mkHid (show (if (j3, c3).1 < ws.length then ((j3, c3).1, true) else (j3, c3)) = (j3, c3) from if_neg hl)
      go_wp2
      go_quiet (fail)
      have GQ := mkHid (GP.out.on ((Step.refl rb W).drewN nq) (GP.out.rd.drewN nq))
      obtain ⟨d0, d1, d2, d3, _⟩ := four_of GQ.out.here
      obtain ⟨c0, c1, c2, c4, f0, f1, f2, f3⟩ := four_of GQ.out.res
      generalize W.drewN nq = V at GQ d0 d1 d2 d3 c0 c1 c2 c4 f0 f1 f2 f3 ⊢
      clear x0 x1 x2 y1 y2
      go_wp2
      obtain ⟨q0, q1, q2, q3⟩ := put4_cells0 GQ.out.res (.int .i64 40) (.string ⟨#[]⟩) (.int .i64 0) (.slice (some ⟨g, 0, none⟩) (els.length + 1) cq)
      obtain ⟨t1, t2⟩ := GQ.out.tree (by decide) (by simp only [List.length_append, List.length_cons, List.length_nil]; unfold maxLen; omega)
      exact bodyPost_ret (v := (A.node 40 ⟨#[]⟩ 0 (some ⟨g, 0, none⟩) cq (els ++ [A.node zk zs zm za zc zkk])).val) (by simp [results, Tryz.results63, go_sem, q0, q1, q2, q3, A.val]) rfl (sp_tree _ _ _ _ _ GQ.out.rd hrb GQ.out.step t1 t2 (by omega) (by have := HL3.out; rw [HJ.out] at this; simp only [A.erase, erases_append, erases] at this ⊢; exact this))
end Go.Proofs.YtedfnadgmhjojaaGreatDoor
namespace Go.Proofs.YtedfnadgmhjojaaGreatDoor
open Go.RowKit
open Pl

theorem cnts_app (p q : List T) : cnts (p ++ q) = cnts p + cnts q := by
 induction p with
 | nil => simp [cnts]
 | cons x r ih => simp only [List.cons_append, cnts, ih]; omega
def Cn (ws : List W3) (f : Nat) : Prop := (∀ i t j, mOne ws f i = .ok t j → cnt t + i ≤ j) ∧ (∀ i t j, mTerm ws f i = .ok t j → cnt t + i ≤ j) ∧
 (∀ x i t j, mTermL ws f x i = .ok t j → cnt t + i ≤ cnt x + j) ∧ (∀ i t j, mExpr ws f i = .ok t j → cnt t + i ≤ j) ∧ (∀ x i t j, mExprL ws f x i = .ok t j → cnt t + i ≤ cnt x + j)
theorem cn_one {ws : List W3} {f : Nat} (ih : Cn ws f) {i : Nat} {t : T} {j : Nat} (h : mOne ws (f + 1) i = .ok t j) : cnt t + i ≤ j := by
 obtain ⟨a1, a2, a3, a4, a5⟩ := ih
 simp only [mOne] at h
 split at h
 ·obtain ⟨x, k, h1, h2⟩ := then_ok h
  have := a1 _ _ _ h1
  obtain ⟨rfl, rfl⟩ := ok_inj h2
  simp only [cnt, cnts]; omega
 ·split at h
  ·obtain ⟨x, k, h1, h2⟩ := then_ok h
   obtain ⟨h3, h4⟩ := want_ok h2
   have := a4 _ _ _ h1
   obtain ⟨rfl, rfl⟩ := ok_inj h4
   omega
  ·split at h
   ·obtain ⟨g1, h⟩ := want_ok h
    obtain ⟨g2, h⟩ := wantK_ok h
    obtain ⟨g3, h⟩ := want_ok h
    obtain ⟨rfl, rfl⟩ := ok_inj h
    simp only [cnt, cnts]; omega
   ·split at h
    ·obtain ⟨rfl, rfl⟩ := ok_inj h
     simp only [cnt, cnts]; omega
    ·obtain ⟨g, h⟩ := wantK_ok h
     split at h
     ·obtain ⟨x, k, h1, h2⟩ := then_ok h
      obtain ⟨h3, h4⟩ := want_ok h2
      have := a4 _ _ _ h1
      obtain ⟨rfl, rfl⟩ := ok_inj h4
      simp only [cnt, cnts]; omega
     ·obtain ⟨rfl, rfl⟩ := ok_inj h
      simp only [cnt, cnts]; omega
theorem cn (ws : List W3) (f : Nat) : Cn ws f := by
 induction f with
 | zero => exact ⟨fun _ _ _ h => by simp [mOne] at h, fun _ _ _ h => by simp [mTerm] at h, fun _ _ _ _ h => by simp [mTermL] at h, fun _ _ _ h => by simp [mExpr] at h, fun _ _ _ _ h => by simp [mExprL] at h⟩
 | succ f ih =>
   have ih' := ih
   obtain ⟨a1, a2, a3, a4, a5⟩ := ih
   refine ⟨fun i t j h => cn_one ih' h, fun i t j h => ?_, fun x i t j h => ?_, fun i t j h => ?_, fun x i t j h => ?_⟩
   ·simp only [mTerm] at h
    obtain ⟨x, k, h1, h2⟩ := then_ok h
    have q := a1 _ _ _ h1
    have := a3 _ _ _ _ h2
    omega
   ·simp only [mTermL] at h
    split at h
    ·obtain ⟨y, k, h1, h2⟩ := then_ok h
     have q := a1 _ _ _ h1
     have := a3 _ _ _ _ h2
     simp only [cnt, cnts] at this; omega
    ·obtain ⟨rfl, rfl⟩ := ok_inj h
     omega
   ·simp only [mExpr] at h
    obtain ⟨x, k, h1, h2⟩ := then_ok h
    have q := a2 _ _ _ h1
    have := a5 _ _ _ _ h2
    omega
   ·simp only [mExprL] at h
    split at h
    ·obtain ⟨y, k, h1, h2⟩ := then_ok h
     have q := a2 _ _ _ h1
     have := a5 _ _ _ _ h2
     simp only [cnt, cnts] at this; omega
    ·split at h
     ·obtain ⟨y, k, h1, h2⟩ := then_ok h
      have q := a2 _ _ _ h1
      have := a5 _ _ _ _ h2
      simp only [cnt, cnts] at this; omega
     ·obtain ⟨rfl, rfl⟩ := ok_inj h
      omega
theorem cn_cond {ws : List W3} {f i : Nat} {t : T} {j : Nat} (h : mCond ws f i = .ok t j) : cnt t + i ≤ j := by
 unfold mCond at h
 obtain ⟨x, k, h1, h2⟩ := then_ok h
 have q := (cn ws f).2.2.2.1 _ _ _ h1
 split at h2
 ·cases h2
 ·obtain ⟨y, k2, h3, h4⟩ := then_ok h2
  have q2 := (cn ws f).2.2.2.1 _ _ _ h3
  obtain ⟨rfl, rfl⟩ := ok_inj h4
  simp only [cnt, cnts]; omega
theorem cn_short {ws : List W3} {f i : Nat} {t : T} {j : Nat} (h : mShort ws f i = .ok t j) : cnt t + i ≤ j := by
 unfold mShort at h
 have ax := (cn ws f).2.2.2.1
 split at h
 ·obtain ⟨g, h⟩ := wantK_ok h
  obtain ⟨rfl, rfl⟩ := ok_inj h
  simp only [cnt, cnts]; omega
 ·split at h
  ·obtain ⟨x, k, h1, h2⟩ := then_ok h
   have := cn_cond h1
   obtain ⟨rfl, rfl⟩ := ok_inj h2
   simp only [cnt, cnts]; omega
  ·split at h
   ·obtain ⟨rfl, rfl⟩ := ok_inj h
    simp only [cnt, cnts]; omega
   ·split at h
    ·obtain ⟨rfl, rfl⟩ := ok_inj h
     simp only [cnt, cnts]; omega
    ·obtain ⟨g, h⟩ := wantK_ok h
     split at h
     ·obtain ⟨x, k, h1, h2⟩ := then_ok h
      obtain ⟨h3, h4⟩ := want_ok h2
      obtain ⟨h5, h6⟩ := want_ok h4
      obtain ⟨y, k2, h7, h8⟩ := then_ok h6
      have := ax _ _ _ h1
      have := ax _ _ _ h7
      obtain ⟨rfl, rfl⟩ := ok_inj h8
      simp only [cnt, cnts]; omega
     ·obtain ⟨h5, h6⟩ := want_ok h
      obtain ⟨y, k2, h7, h8⟩ := then_ok h6
      have := ax _ _ _ h7
      obtain ⟨rfl, rfl⟩ := ok_inj h8
      simp only [cnt, cnts]; omega
def CnS (ws : List W3) (F f : Nat) : Prop := (∀ i t j, mStmt ws F f i = .ok t j → cnt t + i ≤ j) ∧ (∀ i t j, mBlock ws F f i = .ok t j → cnt t + i + 1 ≤ j) ∧ (∀ acc i t j, mList ws F f acc i = .ok t j → cnt t + i ≤ cnts acc + j)
theorem cnS (ws : List W3) (F f : Nat) : CnS ws F f := by
 induction f with
 | zero => exact ⟨fun _ _ _ h => by simp [mStmt] at h, fun _ _ _ h => by simp [mBlock] at h, fun _ _ _ _ h => by simp [mList] at h⟩
 | succ f ih =>
   obtain ⟨a1, a2, a3⟩ := ih
   have ax := (cn ws F).2.2.2.1
   refine ⟨fun i t j h => ?_, fun i t j h => ?_, fun acc i t j h => ?_⟩
   ·simp only [mStmt] at h
    split at h
    ·obtain ⟨x, k, h1, h2⟩ := then_ok h
     obtain ⟨y, k2, h3, h4⟩ := then_ok h2
     have := cn_cond h1
     have := a2 _ _ _ h3
     split at h4
     ·obtain ⟨z, k3, h5, h6⟩ := then_ok h4
      have := a2 _ _ _ h5
      obtain ⟨rfl, rfl⟩ := ok_inj h6
      simp only [cnt, cnts]; omega
     ·obtain ⟨rfl, rfl⟩ := ok_inj h4
      simp only [cnt, cnts]; omega
    ·split at h
     ·obtain ⟨x, k, h1, h2⟩ := then_ok h
      obtain ⟨y, k2, h3, h4⟩ := then_ok h2
      have := cn_cond h1
      have := a2 _ _ _ h3
      obtain ⟨rfl, rfl⟩ := ok_inj h4
      simp only [cnt, cnts]; omega
     ·split at h
      ·obtain ⟨_, h⟩ := wantK_ok h
       obtain ⟨_, h⟩ := want_ok h
       obtain ⟨x, k, h1, h2⟩ := then_ok h
       obtain ⟨_, h2⟩ := want_ok h2
       obtain ⟨y, k2, h3, h4⟩ := then_ok h2
       obtain ⟨z, k3, h5, h6⟩ := then_ok h4
       have := ax _ _ _ h1
       have := ax _ _ _ h3
       have := a2 _ _ _ h5
       obtain ⟨rfl, rfl⟩ := ok_inj h6
       simp only [cnt, cnts]; omega
      ·obtain ⟨x, k, h1, h2⟩ := then_ok h
       obtain ⟨h3, h4⟩ := want_ok h2
       have := cn_short h1
       obtain ⟨rfl, rfl⟩ := ok_inj h4
       omega
   ·simp only [mBlock] at h
    obtain ⟨g, h⟩ := want_ok h
    have := a3 _ _ _ _ h
    simp only [cnts] at this; omega
   ·simp only [mList] at h
    split at h
    ·obtain ⟨rfl, rfl⟩ := ok_inj h
     simp only [cnt]; omega
    ·obtain ⟨x, k, h1, h2⟩ := then_ok h
     have := a1 _ _ _ h1
     have := a3 _ _ _ _ h2
     rw [cnts_app] at this
     simp only [cnts] at this; omega
theorem cn_decl {ws : List W3} {i : Nat} {t : T} {j : Nat} (h : mDecl ws i = .ok t j) : cnt t + i ≤ j := by
 unfold mDecl at h
 split at h
 ·obtain ⟨_, h⟩ := wantK_ok h
  obtain ⟨g, h⟩ := want_ok h
  obtain ⟨rfl, rfl⟩ := ok_inj h
  simp only [cnt, cnts]; omega
 ·obtain ⟨_, h⟩ := want_ok h
  obtain ⟨_, h⟩ := wantK_ok h
  obtain ⟨_, h⟩ := want_ok h
  split at h
  ·obtain ⟨_, h⟩ := want_ok h
   obtain ⟨g, h⟩ := want_ok h
   obtain ⟨rfl, rfl⟩ := ok_inj h
   simp only [cnt, cnts]; omega
  ·obtain ⟨_, h⟩ := wantK_ok h
   obtain ⟨_, h⟩ := want_ok h
   obtain ⟨g, h⟩ := want_ok h
   obtain ⟨rfl, rfl⟩ := ok_inj h
   simp only [cnt, cnts]; omega
theorem cn_all {ws : List W3} {F : Nat} {ds : List T} (f : Nat) : ∀ (acc : List T) (i : Nat) (t : T) (j : Nat), i ≤ ws.length → mAll ws F ds f acc i = .ok t j → cnt t + i ≤ 2 + cnts ds + cnts acc + ws.length := by
 induction f with
 | zero => intro acc i t j hi h; simp [mAll] at h
 | succ f ih =>
   intro acc i t j hi h
   simp only [mAll] at h
   split at h
   ·obtain ⟨x, k, h1, h2⟩ := then_ok h
    have := (cnS ws F F).1 _ _ _ h1
    have q := (advS ws F F).1 _ _ _ h1
    have := ih _ _ _ _ q.2 h2
    rw [cnts_app] at this
    simp only [cnts] at this
    omega
   ·obtain ⟨rfl, rfl⟩ := ok_inj h
    simp only [cnt, cnts_app, cnts]
    omega
theorem cn_prog {ws : List W3} {F : Nat} (f : Nat) : ∀ (ds : List T) (i : Nat) (t : T) (j : Nat), i ≤ ws.length → mProg ws F f ds i = .ok t j → cnt t + i ≤ 2 + cnts ds + ws.length := by
 induction f with
 | zero => intro ds i t j hi h; simp [mProg] at h
 | succ f ih =>
   intro ds i t j hi h
   simp only [mProg] at h
   split at h
   ·obtain ⟨x, k, h1, h2⟩ := then_ok h
    have := cn_decl h1
    have q := adv_decl h1
    have := ih _ _ _ _ q.2 h2
    rw [cnts_app] at this
    simp only [cnts] at this
    omega
   ·have := cn_all F _ _ _ _ hi h
    simp only [cnts] at this
    omega
end Go.Proofs.YtedfnadgmhjojaaGreatDoor
