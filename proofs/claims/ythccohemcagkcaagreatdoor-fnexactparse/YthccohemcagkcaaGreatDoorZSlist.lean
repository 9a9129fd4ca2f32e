/-
  CONTRACT of the specification's reader's list.
-/
import Derived.Test.YthccohemcagkcaaGreatDoorGo
import Derived.Deep.QuietTactic
import Derived.BigQuiet
import Derived.Deep.RegionLaw
import Derived.Deep.AppendLies
namespace Go.Proofs.YthccohemcagkcaaGreatDoor
open Go.RowKit
open Pl

/-- Statements one behind another, as long as one begins. -/
def seqM (ws : List W3) (m : Nat → Nat → Res) : Nat → List T → Nat → List T × St2
  | 0, acc, i => (acc, (i, true))
  | g + 1, acc, i => if i < ws.length ∧ isW ws i ⟨#[125]⟩ = false then (match m g i with | .ok x j => seqM ws m g (acc ++ [x]) j | .no p => (acc, (p, true))) else (acc, (i, false))
theorem seq_stop {ws : List W3} {m : Nat → Nat → Res} {g : Nat} {acc : List T} {i : Nat} (h : ¬ (i < ws.length ∧ isW ws i ⟨#[125]⟩ = false)) : seqM ws m (g + 1) acc i = (acc, (i, false)) := by
  simp only [seqM]; rw [if_neg h]
theorem seq_go {ws : List W3} {m : Nat → Nat → Res} {g : Nat} {acc : List T} {i : Nat} (h : i < ws.length ∧ isW ws i ⟨#[125]⟩ = false) : seqM ws m (g + 1) acc i = (match m g i with | .ok x j => seqM ws m g (acc ++ [x]) j | .no p => (acc, (p, true))) := by
  simp only [seqM]; rw [if_pos h]
def badOf (rb : Nat) (w : World) : Nat := match w.cell? ⟨rb, 2, none⟩ with
  | some (.bool true) => 0
  | _ => 1
theorem Sd.bad0 {w : World} {rb : Nat} {a : Option Addr} {cap : Nat} {ws : List W3} {i : Nat} {b : Bool} (h : Sd w rb a cap ws (i, b)) : badOf rb w = if b then 0 else 1 := by
  unfold badOf
  rw [h.cells.2.2.1]
  cases b <;> rfl
/-- What list answers. -/
def LPost (rb : Nat) (a : Option Addr) (cap : Nat) (ws : List W3) (w : World) (R : List T × St2) (st : St2) (e : Ending) (w' : World) : Prop :=
  ∃ (x : A) (st' : St2), e = .returned x.val ∧ Sits w' x ∧ New w.heap.size x ∧ Sd w' rb a cap ws st' ∧ Step rb w w' ∧ (st.2 = true → st' = st) ∧ (st.2 = false → st' = R.2 ∧ (R.2.2 = false → x.erase = .node 30 nil_ 0 R.1))
/-- What the loop holds on to. -/
def LInv (ws : List W3) (m : Nat → Nat → Res) (f : Nat) (R : List T × St2) (st : St2) (els : List T) (st' : St2) : Prop :=
  (st.2 = true ∧ st' = st) ∨ (st.2 = false ∧ ((st'.2 = true ∧ R.2 = st') ∨ (st'.2 = false ∧ ∃ g, g ≤ f ∧ 3 * (ws.length - st'.1) + 2 ≤ g ∧ seqM ws m g els st'.1 = R)))
theorem linv_end {ws : List W3} {m : Nat → Nat → Res} {f : Nat} {R : List T × St2} {st : St2} {els : List T} {st' : St2} (h : LInv ws m f R st els st') (hs : st'.2 = false → ¬ (st'.1 < ws.length ∧ isW ws st'.1 ⟨#[125]⟩ = false)) :
    (st.2 = true → st' = st) ∧ (st.2 = false → st' = R.2 ∧ (R.2.2 = false → T.node 30 nil_ 0 els = .node 30 nil_ 0 R.1)) := by
  rcases h with ⟨h1, h2⟩ | ⟨h1, ⟨h2, h3⟩ | ⟨h2, g, _, h3, h4⟩⟩
  · exact ⟨fun _ => h2, fun h => (by rw [h1] at h; cases h)⟩
  · exact ⟨fun h => (by rw [h1] at h; cases h), fun _ => ⟨h3.symm, fun q => (by rw [h3, h2] at q; cases q)⟩⟩
  · obtain ⟨g1, rfl⟩ : ∃ g1, g = g1 + 1 := ⟨g - 1, by omega⟩
    rw [seq_stop (hs h2)] at h4
    refine ⟨fun h => (by rw [h1] at h; cases h), fun _ => ⟨?_, fun _ => (by rw [← h4])⟩⟩
    rw [← h4]
    obtain ⟨j, c⟩ := st'
    simp only at h2
    rw [h2]

set_option maxRecDepth 100000 in
set_option maxHeartbeats 8000000 in
theorem slist_any {rb : Nat} {a : Option Addr} {cap : Nat} {ws : List W3} (hfew : ws.length ≤ 1500) (m : Nat → Nat → Res) (f : Nat) (hS : ∀ g j w, 3 * (ws.length - j) + 1 ≤ g → g ≤ f → Sd w rb a cap ws (j, false) → Calls Tryz.prog 139 #[.pointer (some ⟨rb, 0, none⟩)] w (SPost rb a cap ws w (m g j) (j, false)))
    (ha : ∀ g j t k, m g j = .ok t k → j < k ∧ k ≤ ws.length) (hn : ∀ g j p, m g j = .no p → j ≤ p) (st : St2) (hf : st.2 = false → 3 * (ws.length - st.1) + 2 ≤ f) (w : World) (h : Sd w rb a cap ws st) :
    Calls Tryz.prog 99 #[.pointer (some ⟨rb, 0, none⟩)] w (LPost rb a cap ws w (seqM ws m f [] st.1) st) := by
  have HA := mkHid h
  have hrb := h.lt
  have HST := mkHid hS
  have HAD := mkHid ha
  have HNO := mkHid hn
  generalize hR : seqM ws m f [] st.1 = R
  have HI0 : Hid (LInv ws m f R st [] st) := by
    show LInv _ _ _ _ _ _ _
    cases hb : st.2 with
    | true => exact .inl ⟨hb, rfl⟩
    | false => exact .inr ⟨hb, .inr ⟨hb, f, Nat.le_refl _, hf hb, hR⟩⟩
  have hfn : Hid (f = f) := rfl
  clear hR h hS ha hn hf
  obtain ⟨i0, hi0, hz0⟩ := Option.map_eq_some_iff.1 Tryz.info26
  simp only [Prod.mk.injEq] at hz0
  obtain ⟨hz1, hz2, hz3⟩ := hz0
  have HI := mkHid (show Tryz.prog.info? 26 = some i0 ∧ i0.zero = some (.agg #[.int .i64 0, .string ByteArray.empty, .int .i64 0, .slice none 0 0]) ∧ i0.size = 4 ∧ i0.bytes = 56 from ⟨hi0, hz1, hz2, hz3⟩)
  clear hi0 hz1 hz2 hz3 hfn
  have hG := SStem.start (w := w) (heap_alloc_new w _) (HA.out.alloc _) ((Step.refl rb w).alloc _) hrb 30 ⟨#[]⟩
  have e0 : (w.alloc (.cells #[.int .i64 0, .string ⟨#[]⟩, .int .i64 0, .slice none 0 0] 26)).heap.size = w.heap.size + 1 := by simp
  rw [e0] at hG
  have HG := mkHid hG
  clear hG e0
  go_enter Tryz.func99, Tryz.ntmps99
  go_wp2
  go_loopw [] (fun w' => ∃ (els : List A) (sa : Option Addr) (sc : Nat) (st' : St2), SStem rb a cap ws w (w.heap.size + 1) 30 ⟨#[]⟩ w' els sa sc st' ∧ LInv ws m f R st (erases els) st' ∧ els.length ≤ 1501 ∧ (st'.2 = false → els.length ≤ st'.1)) (fun w' => 2 * (ws.length - posOf rb w') + badOf rb w')
  case atStart => exact ⟨[], none, 0, st, HG.out, HI0.out, Nat.zero_le _, fun _ => Nat.zero_le _⟩
  case round =>
    obtain ⟨els, sa, sc, st2, hG, hI, hle, hle2⟩ := hrel
    have G0 := mkHid hG
    have I0 := mkHid hI
    have HPo := mkHid hG.rd.pos
    obtain ⟨x0, x1, x2, _⟩ := hG.rd.cells
    obtain ⟨j, c⟩ := st2
    have HB0 := mkHid hG.rd.bad0
    simp only at x1 x2 hle hle2
    clear hG hI HG HI0
    by_cases hc : c = true
    · subst hc
      have HE := mkHid (linv_end I0.out (fun h => (by simp at h)))
      clear I0
      go_wp2
      go_quiet (fail)
      have G2 := mkHid (G0.out.on ((Step.refl rb wr).drewN nq) (G0.out.rd.drewN nq))
      obtain ⟨d0, d1, d2, d3, _⟩ := four_of G2.out.here
      obtain ⟨c0, c1, c2, c3, f0, f1, f2, f3⟩ := four_of G2.out.res
      generalize wr.drewN nq = W at G2 d0 d1 d2 d3 c0 c1 c2 c3 f0 f1 f2 f3 ⊢
      go_wp2
      obtain ⟨q0, q1, q2, q3⟩ := put4_cells0 G2.out.res (.int .i64 30) (.string ⟨#[]⟩) (.int .i64 0) (.slice sa els.length sc)
      obtain ⟨t1, t2⟩ := G2.out.tree (by decide) (by unfold maxLen; omega)
      refine bodyPost_ret (v := (A.node 30 ⟨#[]⟩ 0 sa sc els).val) (by simp [results, Tryz.results99, go_sem, q0, q1, q2, q3, A.val]) rfl ?_
      exact ⟨_, _, rfl, Sits.stay _ (fun q hq => put4_other _ _ _ _ (by have := t2.2 q hq; omega)) t1, t2.mono (by omega), put4_sd G2.out.rd hrb _ _ _ _, put4_step G2.out.step (Nat.le_refl _) _ _ _ _, HE.out.1, fun hb => ⟨(HE.out.2 hb).1, fun hq => by simp only [A.erase]; exact (HE.out.2 hb).2 hq⟩⟩
    · have hc2 : c = false := by simpa using hc
      subst hc2
      clear hc
      have hlj := hle2 rfl
      by_cases hlt : j < ws.length
      · have hl : decide ((j : Int) < (ws.length : Int)) = true := by simp; omega
        by_cases hb : isW ws j ⟨#[125]⟩ = true
        · have hne : ((textW ws j).toList == [125]) = true := by rw [str_is, isW_text hb]; decide
          have HW := mkHid hb
          have HE := mkHid (linv_end I0.out (fun _ h => (by rw [HW.out] at h; cases h.2)))
          clear I0
          go_wp2
          go_quiet ((go_at_call 98; exact Calls.quiet_of (sText_any rb a cap ws (j, false) _ (G0.out.rd.drewN _))))
          have G2 := mkHid (G0.out.on ((Step.refl rb wr).drewN nq) (G0.out.rd.drewN nq))
          obtain ⟨d0, d1, d2, d3, _⟩ := four_of G2.out.here
          obtain ⟨c0, c1, c2, c3, f0, f1, f2, f3⟩ := four_of G2.out.res
          generalize wr.drewN nq = W at G2 d0 d1 d2 d3 c0 c1 c2 c3 f0 f1 f2 f3 ⊢
          go_wp2
          obtain ⟨q0, q1, q2, q3⟩ := put4_cells0 G2.out.res (.int .i64 30) (.string ⟨#[]⟩) (.int .i64 0) (.slice sa els.length sc)
          obtain ⟨t1, t2⟩ := G2.out.tree (by decide) (by unfold maxLen; omega)
          refine bodyPost_ret (v := (A.node 30 ⟨#[]⟩ 0 sa sc els).val) (by simp [results, Tryz.results99, go_sem, q0, q1, q2, q3, A.val]) rfl ?_
          exact ⟨_, _, rfl, Sits.stay _ (fun q hq => put4_other _ _ _ _ (by have := t2.2 q hq; omega)) t1, t2.mono (by omega), put4_sd G2.out.rd hrb _ _ _ _, put4_step G2.out.step (Nat.le_refl _) _ _ _ _, HE.out.1, fun hb => ⟨(HE.out.2 hb).1, fun hq => by simp only [A.erase]; exact (HE.out.2 hb).2 hq⟩⟩
        · simp only [Bool.not_eq_true] at hb
          have hne : ((textW ws j).toList == [125]) = false := by
            rw [str_is]
            have : textW ws j ≠ ⟨#[125]⟩ := fun e => by rw [isW_of_text hlt] at hb; simp [e] at hb
            simpa using this
          obtain ⟨hsb, g, hgf, hgl, hm⟩ : st.2 = false ∧ ∃ g, g ≤ f ∧ 3 * (ws.length - j) + 2 ≤ g ∧ seqM ws m g (erases els) j = R := by
            rcases I0.out with ⟨h1, h2⟩ | ⟨h1, ⟨h2, _⟩ | ⟨_, g, h3, h4, h5⟩⟩
            · rw [← h2] at h1; cases h1
            · cases h2
            · exact ⟨h1, g, h3, h4, h5⟩
          obtain ⟨g1, rfl⟩ : ∃ g1, g = g1 + 1 := ⟨g - 1, by omega⟩
          rw [seq_go ⟨hlt, hb⟩] at hm
          have H1 := mkHid (fun w h => HST.out g1 j w (by omega) (by omega) h)
          have HS := mkHid (fun (y : T) (st3 : St2) (h : SR (m g1 j) (j, false) y st3) => show LInv ws m f R st (erases els ++ [y]) st3 ∧ (j ≤ st3.1 ∧ (st3.2 = false → j < st3.1 ∧ st3.1 ≤ ws.length)) from by
            have e1 := HAD.out g1 j
            have e2 := HNO.out g1 j
            generalize m g1 j = r at h hm e1 e2
            cases r with
            | no p => rw [h.no]; exact ⟨.inr ⟨hsb, .inl ⟨rfl, by rw [← hm]⟩⟩, e2 p rfl, fun q => by cases q⟩
            | ok t k =>
              have := e1 t k rfl
              rw [h.ok.1, h.ok.2]
              exact ⟨.inr ⟨hsb, .inr ⟨rfl, g1, by omega, by simp only; omega, hm⟩⟩, by simp only; omega, fun _ => by simp only; omega⟩)
          clear hm I0 hb hgl
          go_wp2
          go_quiet ((go_at_call 98; exact Calls.quiet_of (sText_any rb a cap ws (j, false) _ (G0.out.rd.drewN _))))
          have G2 := mkHid (G0.out.on ((Step.refl rb wr).drewN nq) (G0.out.rd.drewN nq))
          obtain ⟨d0, d1, d2, d3, e0, e1, e2, e3⟩ := four_of G2.out.here
          have hp2 := G2.out.plt
          generalize wr.drewN nq = W at G2 d0 d1 d2 d3 e0 e1 e2 e3 hp2 ⊢
          clear x0 x1 x2 hne hl
          go_wp2
          go_region_law (first | (go_simp; go_at_call 139; refine (H1.out _ G2.out.rd.drew).mono ?_; rintro e w3 ⟨z, st3, rfl, hsz, hnz, r3, s3, hz3⟩; obtain ⟨zk, zs, zm, za, zc, zkk⟩ := z; simp only [A.val]; have T3 := G2.out.drew.on s3 r3; obtain ⟨b0, b1, b2, b3, g0, g1, g2, g3⟩ := four_of T3.here; have hp3 := T3.plt; have OW := mkHid (T3.own.alloc (.cells #[.int .i64 zk, .string zs, .int .i64 zm, .slice za zkk.length zc] 26)); have HT3 := mkHid T3; have HS3 := mkHid s3; have HZ := mkHid hz3; have HSZ := mkHid hsz; have HNZ := mkHid hnz; have HR3 := mkHid r3; clear T3 s3 hz3 hsz hnz r3) | (refine step_append_lies _ (by rfl) _ _ _ (by rfl) ((w.heap.size + 1) + 1) 26 i0 _ 4 56 Tryz.underlying24 HI.out.1 HI.out.2.1 HI.out.2.2.1 HI.out.2.2.2 rfl (by decide) _ _ _ (by rfl) OW.out ⟨w3.heap.size, 0, none⟩ 1 1 [.int .i64 zk, .string zs, .int .i64 zm, .slice za zkk.length zc] (by rfl) (by rfl) (World.news_of_block (heap_alloc_new w3 _)) (fun u hu => by simp at hu; rcases hu with rfl | rfl | rfl | rfl <;> rfl) (by decide) (by unfold maxLen; omega) (by omega) (by simp; omega) (w3.heap.size + 1) (by simp) ?_; intro g cq w4 hown hgrow hat hlt4; have GP := mkHid (SStem.push (x := .node zk zs zm za zc zkk) G2.out.drew HS3.out HR3.out HSZ.out HNZ.out _ hown hgrow hat); have K4 := (hgrow.block (w.heap.size + 1) (by simp; omega) (fun e => absurd (OW.out.lt _ e.symm).1 (Nat.not_succ_le_self _))).trans ((Lib.alloc_old w3 _ _ hp3).trans HT3.out.here); clear b0 b1 b2 b3 g0 g1 g2 g3; obtain ⟨l0, l1, l2, l3, m0, m1, m2, m3⟩ := four_of K4; clear K4 hown hgrow hat OW HS3 HSZ HNZ HR3))
          all_goals
              have HL := mkHid (HS.out _ _ HZ.out)
              go_wp2
              go_roundw
              case rel => exact ⟨_, _, _, _, GP.out, by rw [erases_append]; simp only [erases]; exact HL.out.1, by simp; omega, fun hq => by have := HL.out.2.2 hq; simp; omega⟩
              case measure =>
                rw [HPo.out, HB0.out]
                have h1 := GP.out.rd.pos
                have h2 := HL.out.2
                obtain ⟨j3, c3⟩ := st3
                have h3 := GP.out.rd.bad0
                refine Nat.lt_of_le_of_lt (Nat.le_of_eq (congrArg (fun q => 2 * (ws.length - q) + _) h1)) ?_
                refine Nat.lt_of_le_of_lt (Nat.le_of_eq (congrArg (fun q => 2 * (ws.length - _) + q) h3)) ?_
                simp only at h2 ⊢
                cases c3 with
                | true => simp; omega
                | false => have := h2.2 rfl; simp; omega
      · have hl : decide ((j : Int) < (ws.length : Int)) = false := by simp; omega
        have HE := mkHid (linv_end I0.out (fun _ h => (by omega)))
        clear I0
        go_wp2
        go_quiet (fail)
        have G2 := mkHid (G0.out.on ((Step.refl rb wr).drewN nq) (G0.out.rd.drewN nq))
        obtain ⟨d0, d1, d2, d3, _⟩ := four_of G2.out.here
        obtain ⟨c0, c1, c2, c3, f0, f1, f2, f3⟩ := four_of G2.out.res
        generalize wr.drewN nq = W at G2 d0 d1 d2 d3 c0 c1 c2 c3 f0 f1 f2 f3 ⊢
        go_wp2
        obtain ⟨q0, q1, q2, q3⟩ := put4_cells0 G2.out.res (.int .i64 30) (.string ⟨#[]⟩) (.int .i64 0) (.slice sa els.length sc)
        obtain ⟨t1, t2⟩ := G2.out.tree (by decide) (by unfold maxLen; omega)
        refine bodyPost_ret (v := (A.node 30 ⟨#[]⟩ 0 sa sc els).val) (by simp [results, Tryz.results99, go_sem, q0, q1, q2, q3, A.val]) rfl ?_
        exact ⟨_, _, rfl, Sits.stay _ (fun q hq => put4_other _ _ _ _ (by have := t2.2 q hq; omega)) t1, t2.mono (by omega), put4_sd G2.out.rd hrb _ _ _ _, put4_step G2.out.step (Nat.le_refl _) _ _ _ _, HE.out.1, fun hb => ⟨(HE.out.2 hb).1, fun hq => by simp only [A.erase]; exact (HE.out.2 hb).2 hq⟩⟩
end Go.Proofs.YthccohemcagkcaaGreatDoor
